/- Walks of pack.numbers and pack.Encode: a record's numbers, four bytes each. -/
import Derived.Test.YtlfecmkpafgcmaaPkG
namespace Go.Proofs.Ytlfecmkpafgcmaa
open Go.RowKit

theorem hide {p : Prop} (h : p) : Hid p := h
theorem unhide {p : Prop} (h : Hid p) : p := h
theorem Try.info3 : (Try.prog.info? 3).map (fun i => (i.zero, i.size, i.bytes)) = some (some (.int .i64 0), 1, 8) := by kernel_rfl

/-- pointers to the ten cells of a block, from its head on. -/
abbrev tenPtrs (b : Nat) : Array Value := #[.pointer (some ⟨b, 0, none⟩), .pointer (some ⟨b, 1, none⟩), .pointer (some ⟨b, 2, none⟩), .pointer (some ⟨b, 3, none⟩), .pointer (some ⟨b, 4, none⟩), .pointer (some ⟨b, 5, none⟩), .pointer (some ⟨b, 6, none⟩), .pointer (some ⟨b, 7, none⟩), .pointer (some ⟨b, 8, none⟩), .pointer (some ⟨b, 9, none⟩)]

set_option maxRecDepth 20000 in
set_option maxHeartbeats 400000 in
theorem numbers_any (b : Nat) (w : World) :
    Calls Try.prog 45 #[.pointer (some ⟨b, 0, none⟩)] w fun e w' => e = .returned (.agg (tenPtrs b)) ∧ Below w.heap.size w w' := by
  go_enter Try.func45, Try.ntmps45
  go_wp2
  go_region
  all_goals
    go_wp2
    exact bodyPost_ret (v := .agg (tenPtrs b)) (by simp [results, Try.results45, go_sem]) rfl ⟨rfl, (below1 _ _).drew⟩

/-- the numbers of a record that are written. -/
def recordNums (k q ep pe ek p i b he hn : Int) : List Int := if k = 2 ∨ k = 5 then [k, q, ep, pe, ek, p, i, b, he, hn] else [k, q, ep, pe]

theorem recordNums_range {k q ep pe ek p i b he hn : Int} (h : recordFault k q ep pe ek p i b he hn = 0) : ∀ n ∈ [k, q, ep, pe, ek, p, i, b, he, hn], 0 ≤ n ∧ n ≤ 2147483647 := by
  unfold recordFault at h
  split at h
  · omega
  split at h
  · omega
  have hE : (0 ≤ ek ∧ ek ≤ 4) ∧ (0 ≤ p ∧ p ≤ 3) ∧ (0 ≤ i ∧ i ≤ 1073741824) ∧ (0 ≤ b ∧ b ≤ 1000000) ∧ (0 ≤ he ∧ he ≤ 1048576) ∧ (0 ≤ hn ∧ hn ≤ 1073741824) := by
    split at h
    · unfold eventFault at h
      repeat' split at h
      all_goals omega
    · unfold nothingOf at h
      split at h <;> omega
  intro n hn'
  simp only [List.mem_cons, List.not_mem_nil, or_false] at hn'
  rcases hn' with rfl | rfl | rfl | rfl | rfl | rfl | rfl | rfl | rfl | rfl <;> omega

set_option maxRecDepth 20000 in
set_option maxHeartbeats 400000 in
theorem encode_no (k q ep pe ek p i b he hn : Int) (w : World) (h : ¬ recordFault k q ep pe ek p i b he hn = 0) :
    Calls Try.prog 32 #[.agg #[.int .i64 k, .int .i64 q, .int .i64 ep, .int .i64 pe, .int .i64 ek, .int .i64 p, .int .i64 i, .int .i64 b, .int .i64 he, .int .i64 hn]] w fun e w' =>
      e = .returned (.tuple #[.slice none 0 0, .int .i64 (recordFault k q ep pe ek p i b he hn)]) ∧ Below w.heap.size w w' := by
  go_enter Try.func32, Try.ntmps32
  go_wp2_with fail
  refine (record_any _ _ _ _ _ _ _ _ _ _ _).mono ?_
  rintro e w1 ⟨rfl, b1⟩
  have hne : (recordFault k q ep pe ek p i b he hn != 0) = true := by simpa using h
  clear h
  go_wp2
  go_ret2
  exact ⟨rfl, below1t b1⟩


theorem hasEvent_yes (k : Int) (w : World) (h : k = 2 ∨ k = 5) : Calls Try.prog 46 #[.int .i64 k] w fun e w' => e = .returned (.bool true) ∧ w = w' := by
  rcases h with rfl | rfl
  all_goals
    go_enter Try.func46, Try.ntmps46
    go_wp2
    go_ret
    exact ⟨rfl, rfl⟩
theorem hasEvent_no (k : Int) (w : World) (h : ¬ (k = 2 ∨ k = 5)) : Calls Try.prog 46 #[.int .i64 k] w fun e w' => e = .returned (.bool false) ∧ w = w' := by
  have h2 : (k == 2) = false := by simp; omega
  have h5 : (k == 5) = false := by simp; omega
  clear h
  go_enter Try.func46, Try.ntmps46
  go_wp2
  go_ret
  exact ⟨rfl, rfl⟩

theorem take_snoc (l : List Int) (j : Nat) (h : j < l.length) : l.take (j + 1) = l.take j ++ [l.getD j 0] := by
  rw [List.take_succ_eq_append_getElem h]; simp [h]
theorem ptr_cells (w : World) (b o : Nat) (ho : o < 10) : (w.alloc (.cells (tenPtrs b) 109)).cell? ⟨w.heap.size, o, none⟩ = some (.pointer (some ⟨b, o, none⟩)) := by
  match o, ho with
  | 0, _ | 1, _ | 2, _ | 3, _ | 4, _ | 5, _ | 6, _ | 7, _ | 8, _ | 9, _ => simp [tenPtrs]

theorem num_cells (w : World) (l : List Int) (t o : Nat) (ho : o < l.length) : (w.alloc (.cells (l.map (Value.int .i64)).toArray t)).cell? ⟨w.heap.size, o, none⟩ = some (.int .i64 (l.getD o 0)) := by
  simp [ho]

theorem own_put {w : World} {base e n : Nat} {v : Value} {l : List Int} (h : w.ownsRow base e 1 v n (l.map (Value.int .i64))) (h0 : 0 < n) :
    ∃ g cap, v = .slice (some ⟨g, 0, none⟩) n cap ∧ base ≤ g ∧ g < w.heap.size ∧ ∀ k, k < n → w.cell? ⟨g, 0 + k, none⟩ = some (.int .i64 (l.getD k 0)) := by
  have hl : l.length = n := by have := h.1; simpa using this
  rcases h.2 with ⟨_, rfl⟩ | ⟨g, cap, cur, rfl, hb, hg, hc, hm, _⟩
  · omega
  · refine ⟨g, cap, rfl, hb, (h.lt g rfl).2, fun k hk => ?_⟩
    rw [Nat.zero_add, h.cellAt k (by omega), List.getElem?_map, List.getElem?_eq_getElem (by omega)]
    simp [List.getElem?_eq_getElem (show k < l.length by omega)]

set_option maxRecDepth 20000 in
set_option maxHeartbeats 1000000 in
theorem encode_ten (k q ep pe ek p i b he hn : Int) (w : World) (h : recordFault k q ep pe ek p i b he hn = 0) (hk : k = 2 ∨ k = 5) :
    Calls Try.prog 32 #[.agg #[.int .i64 k, .int .i64 q, .int .i64 ep, .int .i64 pe, .int .i64 ek, .int .i64 p, .int .i64 i, .int .i64 b, .int .i64 he, .int .i64 hn]] w fun e w' =>
      ∃ g, e = .returned (.tuple #[.slice (some ⟨g, 0, none⟩) 40 40, .int .i64 0]) ∧ w.heap.size ≤ g ∧ RowK .u8 w' (some ⟨g, 0, none⟩) 40 (fours [k, q, ep, pe, ek, p, i, b, he, hn]) ∧ Below w.heap.size w w' := by
  have HR : Hid (∀ n ∈ [k, q, ep, pe, ek, p, i, b, he, hn], 0 ≤ n ∧ n ≤ 2147483647) := recordNums_range h
  have HF : Hid (recordFault k q ep pe ek p i b he hn = 0) := h
  have HK : Hid (k = 2 ∨ k = 5) := hk
  clear h hk
  obtain ⟨i0, hi, hz0, hz1, hz2⟩ := info_parts Try.info3
  go_enter Try.func32, Try.ntmps32
  go_wp2_with fail
  refine (record_any _ _ _ _ _ _ _ _ _ _ _).mono ?_
  rintro e w1 ⟨rfl, b1⟩
  rw [HF.out]
  have hc1 : ∀ o, w1.cell? ⟨w.heap.size, o, none⟩ = _ := fun o => b1.cell (p := ⟨w.heap.size, o, none⟩) (by simp)
  have hz : w.heap.size < w1.heap.size := by have := b1.size; simp at this; omega
  go_wp2_with fail
  refine (numbers_any _ _).mono ?_
  rintro e w2 ⟨rfl, b2⟩
  have hc2 : ∀ o, w2.cell? ⟨w.heap.size, o, none⟩ = _ := fun o => (b2.cell (p := ⟨w.heap.size, o, none⟩) (by simpa using hz)).trans (hc1 o)
  have hz3 : w.heap.size < w2.heap.size := by have := b2.size; omega
  go_wp2_with (go_at_call 46; refine (hasEvent_yes _ _ HK.out).mono ?_; rintro e w3 ⟨rfl, rfl⟩)
  have hP : ∀ o, o < 10 → (w2.alloc (.cells (tenPtrs w.heap.size) 109)).cell? ⟨w2.heap.size, o, none⟩ = some (.pointer (some ⟨w.heap.size, o, none⟩)) := fun o ho => ptr_cells w2 _ o ho
  have hQ : ∀ o, o < 10 → (w2.alloc (.cells (tenPtrs w.heap.size) 109)).cell? ⟨w.heap.size, o, none⟩ = some (.int .i64 ([k, q, ep, pe, ek, p, i, b, he, hn].getD o 0)) := fun o ho => by
    rw [(below1 w2 _).cell (p := ⟨w.heap.size, o, none⟩) hz3, hc2 o]
    exact num_cells w [k, q, ep, pe, ek, p, i, b, he, hn] _ o ho
  have BB : Below w.heap.size w (w2.alloc (.cells (tenPtrs w.heap.size) 109)) := Below.next (Below.next (below1t b1) b2) (below1 w2 _)
  clear hc1 hc2 b1 b2
  have HP := hide hP
  have HQ := hide hQ
  have HB := hide BB
  clear hP hQ BB
  go_loopw [7, 22] (fun v t wr => ∃ j : Nat, j ≤ 10 ∧ t = .int .i64 j ∧ wr.ownsRow (w2.heap.size + 1) 3 1 v j (([k, q, ep, pe, ek, p, i, b, he, hn].take j).map (Value.int .i64)) ∧ Below (w2.heap.size + 1) (w2.alloc (.cells (tenPtrs w.heap.size) 109)) wr)
    (fun _ t _ => 10 - (intOf t).toNat)
  case atStart => exact ⟨0, Nat.zero_le _, rfl, World.ownsRow_nil _ _ _ _, Below.refl _ _⟩
  case round =>
    obtain ⟨j, hj, rfl, hown, hbel⟩ := hrel
    by_cases hlt : j < 10
    · have kp : wr.cell? ⟨w2.heap.size, j, none⟩ = some (.pointer (some ⟨w.heap.size, j, none⟩)) := (hbel.cell (by simp)).trans (unhide HP j (by omega))
      have kq : wr.cell? ⟨w.heap.size, j, none⟩ = some (.int .i64 ([k, q, ep, pe, ek, p, i, b, he, hn].getD j 0)) := (hbel.cell (by simp; omega)).trans (unhide HQ j (by omega))
      obtain ⟨x, hx⟩ : ∃ x, [k, q, ep, pe, ek, p, i, b, he, hn].getD j 0 = x := ⟨_, rfl⟩
      rw [hx] at kq
      have HX := hide hx
      clear hx
      have hsz : w2.heap.size + 1 ≤ wr.heap.size := by have := hbel.size; simpa using this
      go_wp2_with (at_builtin; refine wpList_append_own _ rfl _ _ 113 rfl (w2.heap.size + 1) 3 i0 (.int .i64 0) 1 8 Try.underlying113 hi hz0 hz1 hz2 rfl (by decide) _ _ _ rfl (hown.alloc _) ⟨wr.heap.size, 0, none⟩ 1 1 [.int .i64 x] rfl rfl (cell_one_new _ _ _) (ints_oneCell .i64 [x]) (by unfold maxLen; omega) (by omega) (by simp; omega) ?_; intro v' w4 hown4 hgrow4 _)
      have R1 : Hid (w4.ownsRow (w2.heap.size + 1) 3 1 v' (j + 1) (([k, q, ep, pe, ek, p, i, b, he, hn].take (j + 1)).map (Value.int .i64))) := by
        have ht : [k, q, ep, pe, ek, p, i, b, he, hn].take (j + 1) = [k, q, ep, pe, ek, p, i, b, he, hn].take j ++ [x] := by
          rw [← unhide HX]; exact take_snoc [k, q, ep, pe, ek, p, i, b, he, hn] j (by simp; omega)
        rw [ht, List.map_append]; exact hown4
      have R2 : Below (w2.heap.size + 1) (w2.alloc (.cells (tenPtrs w.heap.size) 109)) w4 := (hbel.alloc hsz _).grown hgrow4 (by simp; omega) (by intro t ht; exact (hown.lt t ht).1)
      clear hown4 hgrow4 hown kp kq
      go_wp2
      go_roundw
      case rel => exact ⟨j + 1, by omega, by go_num, R1.out, R2⟩
      case measure => simp [intOf]; omega
    · have hj' : j = 10 := by omega
      subst hj'
      obtain ⟨g, cap, hv, hg1, hg2, hg3⟩ := own_put hown (by omega)
      subst hv
      clear hown
      go_wp2_with fail
      refine (put_any g 0 cap [k, q, ep, pe, ek, p, i, b, he, hn] _ hg2 (by simp) ?_ hg3).mono ?_
      · intro n hn'; exact HR.out n (by simp at hn' ⊢; exact hn')
      rintro e w5 ⟨rfl, hr5, hb5⟩
      go_wp2
      go_ret2
      refine ⟨_, rfl, ?_, hr5, ?_⟩
      · have := hbel.size; simp at this; omega
      · exact Below.next (Below.next (unhide HB) (hbel.mono (by simp))) hb5

set_option maxRecDepth 20000 in
set_option maxHeartbeats 1000000 in
theorem encode_four (k q ep pe ek p i b he hn : Int) (w : World) (h : recordFault k q ep pe ek p i b he hn = 0) (hk : ¬ (k = 2 ∨ k = 5)) :
    Calls Try.prog 32 #[.agg #[.int .i64 k, .int .i64 q, .int .i64 ep, .int .i64 pe, .int .i64 ek, .int .i64 p, .int .i64 i, .int .i64 b, .int .i64 he, .int .i64 hn]] w fun e w' =>
      ∃ g, e = .returned (.tuple #[.slice (some ⟨g, 0, none⟩) 16 16, .int .i64 0]) ∧ w.heap.size ≤ g ∧ RowK .u8 w' (some ⟨g, 0, none⟩) 16 (fours [k, q, ep, pe]) ∧ Below w.heap.size w w' := by
  have HR : Hid (∀ n ∈ [k, q, ep, pe, ek, p, i, b, he, hn], 0 ≤ n ∧ n ≤ 2147483647) := recordNums_range h
  have HF : Hid (recordFault k q ep pe ek p i b he hn = 0) := h
  have HK : Hid (¬ (k = 2 ∨ k = 5)) := hk
  clear h hk
  obtain ⟨i0, hi, hz0, hz1, hz2⟩ := info_parts Try.info3
  go_enter Try.func32, Try.ntmps32
  go_wp2_with fail
  refine (record_any _ _ _ _ _ _ _ _ _ _ _).mono ?_
  rintro e w1 ⟨rfl, b1⟩
  rw [HF.out]
  have hc1 : ∀ o, w1.cell? ⟨w.heap.size, o, none⟩ = _ := fun o => b1.cell (p := ⟨w.heap.size, o, none⟩) (by simp)
  have hz : w.heap.size < w1.heap.size := by have := b1.size; simp at this; omega
  go_wp2_with fail
  refine (numbers_any _ _).mono ?_
  rintro e w2 ⟨rfl, b2⟩
  have hc2 : ∀ o, w2.cell? ⟨w.heap.size, o, none⟩ = _ := fun o => (b2.cell (p := ⟨w.heap.size, o, none⟩) (by simpa using hz)).trans (hc1 o)
  have hz3 : w.heap.size < w2.heap.size := by have := b2.size; omega
  go_wp2_with (go_at_call 46; refine (hasEvent_no _ _ HK.out).mono ?_; rintro e w3 ⟨rfl, rfl⟩)
  have hP : ∀ o, o < 10 → (w2.alloc (.cells (tenPtrs w.heap.size) 109)).cell? ⟨w2.heap.size, o, none⟩ = some (.pointer (some ⟨w.heap.size, o, none⟩)) := fun o ho => ptr_cells w2 _ o ho
  have hQ : ∀ o, o < 10 → (w2.alloc (.cells (tenPtrs w.heap.size) 109)).cell? ⟨w.heap.size, o, none⟩ = some (.int .i64 ([k, q, ep, pe, ek, p, i, b, he, hn].getD o 0)) := fun o ho => by
    rw [(below1 w2 _).cell (p := ⟨w.heap.size, o, none⟩) hz3, hc2 o]
    exact num_cells w [k, q, ep, pe, ek, p, i, b, he, hn] _ o ho
  have BB : Below w.heap.size w (w2.alloc (.cells (tenPtrs w.heap.size) 109)) := Below.next (Below.next (below1t b1) b2) (below1 w2 _)
  clear hc1 hc2 b1 b2
  have HP := hide hP
  have HQ := hide hQ
  have HB := hide BB
  clear hP hQ BB
  go_loopw [7, 22] (fun v t wr => ∃ j : Nat, j ≤ 4 ∧ t = .int .i64 j ∧ wr.ownsRow (w2.heap.size + 1) 3 1 v j (([k, q, ep, pe, ek, p, i, b, he, hn].take j).map (Value.int .i64)) ∧ Below (w2.heap.size + 1) (w2.alloc (.cells (tenPtrs w.heap.size) 109)) wr)
    (fun _ t _ => 4 - (intOf t).toNat)
  case atStart => exact ⟨0, Nat.zero_le _, rfl, World.ownsRow_nil _ _ _ _, Below.refl _ _⟩
  case round =>
    obtain ⟨j, hj, rfl, hown, hbel⟩ := hrel
    by_cases hlt : j < 4
    · have kp : wr.cell? ⟨w2.heap.size, j, none⟩ = some (.pointer (some ⟨w.heap.size, j, none⟩)) := (hbel.cell (by simp)).trans (unhide HP j (by omega))
      have kq : wr.cell? ⟨w.heap.size, j, none⟩ = some (.int .i64 ([k, q, ep, pe, ek, p, i, b, he, hn].getD j 0)) := (hbel.cell (by simp; omega)).trans (unhide HQ j (by omega))
      obtain ⟨x, hx⟩ : ∃ x, [k, q, ep, pe, ek, p, i, b, he, hn].getD j 0 = x := ⟨_, rfl⟩
      rw [hx] at kq
      have HX := hide hx
      clear hx
      have hsz : w2.heap.size + 1 ≤ wr.heap.size := by have := hbel.size; simpa using this
      go_wp2_with (at_builtin; refine wpList_append_own _ rfl _ _ 113 rfl (w2.heap.size + 1) 3 i0 (.int .i64 0) 1 8 Try.underlying113 hi hz0 hz1 hz2 rfl (by decide) _ _ _ rfl (hown.alloc _) ⟨wr.heap.size, 0, none⟩ 1 1 [.int .i64 x] rfl rfl (cell_one_new _ _ _) (ints_oneCell .i64 [x]) (by unfold maxLen; omega) (by omega) (by simp; omega) ?_; intro v' w4 hown4 hgrow4 _)
      have R1 : Hid (w4.ownsRow (w2.heap.size + 1) 3 1 v' (j + 1) (([k, q, ep, pe, ek, p, i, b, he, hn].take (j + 1)).map (Value.int .i64))) := by
        have ht : [k, q, ep, pe, ek, p, i, b, he, hn].take (j + 1) = [k, q, ep, pe, ek, p, i, b, he, hn].take j ++ [x] := by
          rw [← unhide HX]; exact take_snoc [k, q, ep, pe, ek, p, i, b, he, hn] j (by simp; omega)
        rw [ht, List.map_append]; exact hown4
      have R2 : Below (w2.heap.size + 1) (w2.alloc (.cells (tenPtrs w.heap.size) 109)) w4 := (hbel.alloc hsz _).grown hgrow4 (by simp; omega) (by intro t ht; exact (hown.lt t ht).1)
      clear hown4 hgrow4 hown kp kq
      go_wp2
      go_roundw
      case rel => exact ⟨j + 1, by omega, by go_num, R1.out, R2⟩
      case measure => simp [intOf]; omega
    · have hj' : j = 4 := by omega
      subst hj'
      obtain ⟨g, cap, hv, hg1, hg2, hg3⟩ := own_put hown (by omega)
      subst hv
      clear hown
      go_wp2_with fail
      refine (put_any g 0 cap [k, q, ep, pe] _ hg2 (by simp) ?_ hg3).mono ?_
      · intro n hn'; exact HR.out n (by simp at hn' ⊢; rcases hn' with h | h | h | h <;> simp [h])
      rintro e w5 ⟨rfl, hr5, hb5⟩
      go_wp2
      go_ret2
      refine ⟨_, rfl, ?_, hr5, ?_⟩
      · have := hbel.size; simp at this; omega
      · exact Below.next (Below.next (unhide HB) (hbel.mono (by simp))) hb5
end Go.Proofs.Ytlfecmkpafgcmaa
