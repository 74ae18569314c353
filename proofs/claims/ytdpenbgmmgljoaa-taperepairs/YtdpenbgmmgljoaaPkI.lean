/- Walks of berthshiftref.recordNumbers and RecordBytes: the document's answer to Encode. -/
import Derived.Test.YtdpenbgmmgljoaaPkH
namespace Go.Proofs.Ytdpenbgmmgljoaa
open Go.RowKit

theorem own_below {w w' : World} {base e size n : Nat} {v : Value} {xs : List Value} (h : w.ownsRow base e size v n xs) (hb : Below w.heap.size w w') : w'.ownsRow base e size v n xs := by
  obtain ⟨h1, h2⟩ := h
  refine ⟨h1, ?_⟩
  rcases h2 with h | ⟨g, cap, cur, hv, hg, hh, r⟩
  · exact .inl h
  · refine .inr ⟨g, cap, cur, hv, hg, ?_, r⟩
    have hlt : g < w.heap.size := by
      rcases Nat.lt_or_ge g w.heap.size with h' | h'
      · exact h'
      · rw [Array.getElem?_eq_none h'] at hh; cases hh
    rw [hb.block g hlt]; exact hh

theorem list_cells (w : World) (g : Nat) (hg : g = w.heap.size) (l : List Int) (t : TypeId) : ∀ j u, (l.map (Value.int .i64))[j]? = some u → (w.alloc (.cells (l.map (Value.int .i64)).toArray t)).cell? ((⟨g, 0, none⟩ : Addr).add j) = some u := by
  intro j u hj
  subst hg
  have hadd : (⟨w.heap.size, 0, none⟩ : Addr).add j = ⟨w.heap.size, j, none⟩ := by unfold Addr.add; split <;> simp_all
  rw [hadd]
  have hlt : j < l.length := by
    rcases Nat.lt_or_ge j l.length with h' | h'
    · exact h'
    · simp [List.getElem?_eq_none h'] at hj
  rw [num_cells w l t j hlt]
  simp [List.getElem?_eq_getElem hlt] at hj
  simp [List.getElem?_eq_getElem hlt, hj]

set_option maxHeartbeats 1000000 in
theorem nums_ten (k q ep pe ek p i b he hn : Int) (w : World) (hk : k = 2 ∨ k = 5) :
    Calls Try.prog 44 #[.agg #[.int .i64 k, .int .i64 q, .int .i64 ep, .int .i64 pe, .int .i64 ek, .int .i64 p, .int .i64 i, .int .i64 b, .int .i64 he, .int .i64 hn]] w fun e w' =>
      ∃ g cap, e = .returned (.slice (some ⟨g, 0, none⟩) 10 cap) ∧ g < w'.heap.size ∧ (∀ o, o < 10 → w'.cell? ⟨g, 0 + o, none⟩ = some (.int .i64 ([k, q, ep, pe, ek, p, i, b, he, hn].getD o 0))) ∧ Below w.heap.size w w' := by
  obtain ⟨i0, hi, hz0, hz1, hz2⟩ := info_parts Try.info3
  have hown : ((w.alloc (.cells #[.int .i64 k, .int .i64 q, .int .i64 ep, .int .i64 pe, .int .i64 ek, .int .i64 p, .int .i64 i, .int .i64 b, .int .i64 he, .int .i64 hn] 33)).alloc (.cells #[.int .i64 k, .int .i64 q, .int .i64 ep, .int .i64 pe] 3)).ownsRow (w.heap.size + 1) 3 1 (.slice (some ⟨w.heap.size + 1, 0, none⟩) 4 4) 4 ([k, q, ep, pe].map (Value.int .i64)) := by
    have := World.ownsRow_lit (base := w.heap.size + 1) (e := 3) (size := 1) (w.alloc (.cells #[.int .i64 k, .int .i64 q, .int .i64 ep, .int .i64 pe, .int .i64 ek, .int .i64 p, .int .i64 i, .int .i64 b, .int .i64 he, .int .i64 hn] 33)) #[.int .i64 k, .int .i64 q, .int .i64 ep, .int .i64 pe] 4 (by simp) (by decide) rfl
    simpa using this
  rcases hk with rfl | rfl
  all_goals
    have HO := hide hown
    clear hown
    go_enter Try.func44, Try.ntmps44
    go_wp2_with (at_builtin; refine wpList_append_own _ rfl _ _ 65 rfl (w.heap.size + 1) 3 i0 (.int .i64 0) 1 8 Try.underlying65 hi hz0 hz1 hz2 rfl (by decide) (.slice (some ⟨w.heap.size + 1, 0, none⟩) 4 4) 4 _ rfl (((unhide HO).alloc _).alloc _) ⟨w.heap.size + 1 + 1 + 1, 0, none⟩ 6 6 ([ek, p, i, b, he, hn].map (Value.int .i64)) rfl rfl ?c1 (ints_oneCell _ _) (by decide) (by decide) ?c3 ?_; rotate_right; intro v' w4 hown4 hgrow4 _)
    case c1 => exact list_cells _ _ (by simp) [ek, p, i, b, he, hn] _
    case c3 => simp
    rw [← List.map_append] at hown4
    obtain ⟨g, cap, hv, hg1, hg2, hg3⟩ := own_put hown4 (by omega)
    have BB : Below w.heap.size w w4 := ((below2 w _ _).alloc (by simp; omega) _ |>.alloc (by simp; omega) _).grown hgrow4 (by simp; omega) (by intro t ht; simp [Value.ownBlock] at ht; omega)
    subst hv
    clear hown4 hgrow4
    go_wp2
    go_ret
    exact ⟨g, cap, rfl, hg2, hg3, BB⟩

set_option maxHeartbeats 1000000 in
theorem nums_four (k q ep pe ek p i b he hn : Int) (w : World) (hk : ¬ (k = 2 ∨ k = 5)) :
    Calls Try.prog 44 #[.agg #[.int .i64 k, .int .i64 q, .int .i64 ep, .int .i64 pe, .int .i64 ek, .int .i64 p, .int .i64 i, .int .i64 b, .int .i64 he, .int .i64 hn]] w fun e w' =>
      ∃ g cap, e = .returned (.slice (some ⟨g, 0, none⟩) 4 cap) ∧ g < w'.heap.size ∧ (∀ o, o < 4 → w'.cell? ⟨g, 0 + o, none⟩ = some (.int .i64 ([k, q, ep, pe].getD o 0))) ∧ Below w.heap.size w w' := by
  have h2 : (k == 2) = false := by simp; omega
  have h5 : (k == 5) = false := by simp; omega
  clear hk
  go_enter Try.func44, Try.ntmps44
  go_wp2
  go_ret
  refine ⟨w.heap.size + 1, 4, rfl, by simp, ?_, below2 _ _ _⟩
  intro o ho
  match o, ho with
  | 0, _ | 1, _ | 2, _ | 3, _ => simp

set_option maxHeartbeats 1000000 in
theorem bytes_ten (k q ep pe ek p i b he hn : Int) (w : World) (h : recordFault k q ep pe ek p i b he hn = 0) (hk : k = 2 ∨ k = 5) :
    Calls Try.prog 30 #[.agg #[.int .i64 k, .int .i64 q, .int .i64 ep, .int .i64 pe, .int .i64 ek, .int .i64 p, .int .i64 i, .int .i64 b, .int .i64 he, .int .i64 hn]] w fun e w' =>
      ∃ g cap, e = .returned (.tuple #[.slice (some ⟨g, 0, none⟩) 40 cap, .int .i64 0]) ∧ RowK .u8 w' (some ⟨g, 0, none⟩) 40 (fours [k, q, ep, pe, ek, p, i, b, he, hn]) ∧ Below w.heap.size w w' := by
  have HR : Hid (∀ n ∈ [k, q, ep, pe, ek, p, i, b, he, hn], 0 ≤ n ∧ n ≤ 2147483647) := recordNums_range h
  have HF : Hid (recordFault k q ep pe ek p i b he hn = 0) := h
  have HK : Hid (k = 2 ∨ k = 5) := hk
  clear h hk
  have HR4 : Hid (∀ n ∈ [k, q, ep, pe, ek, p, i, b, he, hn], 0 ≤ n ∧ n ≤ 2147483647) := fun n hn' => HR.out n (by simp at hn' ⊢; exact hn')
  obtain ⟨i0, hi, hz0, hz1, hz2⟩ := info_parts Try.info5
  go_enter Try.func30, Try.ntmps30
  go_wp2_with fail
  refine (recordFault_any _ _ _ _ _ _ _ _ _ _ _).mono ?_
  rintro e w1 ⟨rfl, b1⟩
  rw [HF.out]
  have hc1 : ∀ o, w1.cell? ⟨w.heap.size, o, none⟩ = _ := fun o => b1.cell (p := ⟨w.heap.size, o, none⟩) (by simp)
  have hz : w.heap.size < w1.heap.size := by have := b1.size; simp at this; omega
  go_wp2_with fail
  refine (nums_ten _ _ _ _ _ _ _ _ _ _ _ HK.out).mono ?_
  rintro e w2 ⟨g, cap, rfl, hg, hQ, b2⟩
  have BB : Below w.heap.size w w2 := Below.next (below1t b1) b2
  clear hc1 b1 b2 hz
  have HQ := hide hQ
  have HB := hide BB
  clear hQ BB
  go_wp2_with fail
  go_loopw [6, 7] (fun v t wr => ∃ j : Nat, j ≤ 10 ∧ t = .int .i64 j ∧ wr.ownsRow w2.heap.size 5 1 v (4 * j) ((fours ([k, q, ep, pe, ek, p, i, b, he, hn].take j)).map (Value.int .u8)) ∧ Below w2.heap.size w2 wr)
    (fun _ t _ => 10 - (intOf t).toNat)
  case atStart => exact ⟨0, Nat.zero_le _, rfl, World.ownsRow_nil _ _ _ _, Below.refl _ _⟩
  case round =>
    obtain ⟨j, hj, rfl, hown, hbel⟩ := hrel
    by_cases hlt : j < 10
    · have kq : wr.cell? ⟨g, j, none⟩ = some (.int .i64 ([k, q, ep, pe, ek, p, i, b, he, hn].getD j 0)) := (hbel.cell hg).trans (by have := unhide HQ j (by omega); simpa using this)
      have hx2 : 0 ≤ [k, q, ep, pe, ek, p, i, b, he, hn].getD j 0 ∧ [k, q, ep, pe, ek, p, i, b, he, hn].getD j 0 ≤ 2147483647 := HR4.out _ (getD_mem _ _ (by simp; omega))
      obtain ⟨x, hx⟩ : ∃ x, [k, q, ep, pe, ek, p, i, b, he, hn].getD j 0 = x := ⟨_, rfl⟩
      rw [hx] at kq hx2
      have HX := hide hx
      clear hx
      obtain ⟨x0, x1⟩ := hx2
      have hsz : w2.heap.size ≤ wr.heap.size := hbel.size
      go_wp2_with fail
      refine (four_yes x _ x0 x1).mono ?_
      rintro e w3 ⟨rfl, r3, b3⟩
      have hown3 : w3.ownsRow w2.heap.size 5 1 _ (4 * j) ((fours ([k, q, ep, pe, ek, p, i, b, he, hn].take j)).map (Value.int .u8)) := own_below hown b3
      have hs3 := b3.size
      go_wp2_with (at_builtin; refine wpList_append_row rfl _ _ 22 rfl w2.heap.size 5 i0 (.int .u8 0) 1 Try.underlying22 hi hz0 hz1 hz2 rfl .u8 _ _ _ rfl hown3 _ 4 4 (four x) rfl r3 (by simp) (by unfold maxLen; omega) (by omega) (by omega) ?_; intro v' w4 hown4 hgrow4)
      have R1 : Hid (w4.ownsRow w2.heap.size 5 1 v' (4 * (j + 1)) ((fours ([k, q, ep, pe, ek, p, i, b, he, hn].take (j + 1))).map (Value.int .u8))) := by
        rw [fours_snoc _ j (by simp; omega), unhide HX]; exact hown4
      have R2 : Below w2.heap.size w2 w4 := (hbel.trans (b3.mono hsz)).grown hgrow4 (by omega) (by intro t ht; exact (hown3.lt t ht).1)
      clear hown4 hgrow4 hown kq hown3 r3 b3 hs3
      go_wp2
      go_roundw
      case rel => exact ⟨j + 1, by omega, by go_num, R1.out, R2⟩
      case measure => simp [intOf]; omega
    · have hj' : j = 10 := by omega
      subst hj'
      obtain ⟨a', cap', rfl, hr, _, _, _, _⟩ := RowK.ofOwns hown (fours_wf _ (fun n hn' => HR4.out n (List.mem_of_mem_take hn')))
      obtain ⟨g', off', ha⟩ := hr.form (by omega)
      have ho : off' = 0 := by
        rcases hown.2 with ⟨h', _⟩ | ⟨g2, cap2, cur, h', _⟩
        · rw [ha] at h'; cases h'
        · rw [ha] at h'; simp at h'; exact h'.1.2
      subst ho
      subst ha
      clear hown
      go_wp2
      go_ret2
      exact ⟨g', cap', rfl, hr, Below.next (unhide HB) hbel⟩

set_option maxHeartbeats 1000000 in
theorem bytes_four (k q ep pe ek p i b he hn : Int) (w : World) (h : recordFault k q ep pe ek p i b he hn = 0) (hk : ¬ (k = 2 ∨ k = 5)) :
    Calls Try.prog 30 #[.agg #[.int .i64 k, .int .i64 q, .int .i64 ep, .int .i64 pe, .int .i64 ek, .int .i64 p, .int .i64 i, .int .i64 b, .int .i64 he, .int .i64 hn]] w fun e w' =>
      ∃ g cap, e = .returned (.tuple #[.slice (some ⟨g, 0, none⟩) 16 cap, .int .i64 0]) ∧ RowK .u8 w' (some ⟨g, 0, none⟩) 16 (fours [k, q, ep, pe]) ∧ Below w.heap.size w w' := by
  have HR : Hid (∀ n ∈ [k, q, ep, pe, ek, p, i, b, he, hn], 0 ≤ n ∧ n ≤ 2147483647) := recordNums_range h
  have HF : Hid (recordFault k q ep pe ek p i b he hn = 0) := h
  have HK : Hid (¬ (k = 2 ∨ k = 5)) := hk
  clear h hk
  have HR4 : Hid (∀ n ∈ [k, q, ep, pe], 0 ≤ n ∧ n ≤ 2147483647) := fun n hn' => HR.out n (by simp at hn' ⊢; rcases hn' with h | h | h | h <;> simp [h])
  obtain ⟨i0, hi, hz0, hz1, hz2⟩ := info_parts Try.info5
  go_enter Try.func30, Try.ntmps30
  go_wp2_with fail
  refine (recordFault_any _ _ _ _ _ _ _ _ _ _ _).mono ?_
  rintro e w1 ⟨rfl, b1⟩
  rw [HF.out]
  have hc1 : ∀ o, w1.cell? ⟨w.heap.size, o, none⟩ = _ := fun o => b1.cell (p := ⟨w.heap.size, o, none⟩) (by simp)
  have hz : w.heap.size < w1.heap.size := by have := b1.size; simp at this; omega
  go_wp2_with fail
  refine (nums_four _ _ _ _ _ _ _ _ _ _ _ HK.out).mono ?_
  rintro e w2 ⟨g, cap, rfl, hg, hQ, b2⟩
  have BB : Below w.heap.size w w2 := Below.next (below1t b1) b2
  clear hc1 b1 b2 hz
  have HQ := hide hQ
  have HB := hide BB
  clear hQ BB
  go_wp2_with fail
  go_loopw [6, 7] (fun v t wr => ∃ j : Nat, j ≤ 4 ∧ t = .int .i64 j ∧ wr.ownsRow w2.heap.size 5 1 v (4 * j) ((fours ([k, q, ep, pe].take j)).map (Value.int .u8)) ∧ Below w2.heap.size w2 wr)
    (fun _ t _ => 4 - (intOf t).toNat)
  case atStart => exact ⟨0, Nat.zero_le _, rfl, World.ownsRow_nil _ _ _ _, Below.refl _ _⟩
  case round =>
    obtain ⟨j, hj, rfl, hown, hbel⟩ := hrel
    by_cases hlt : j < 4
    · have kq : wr.cell? ⟨g, j, none⟩ = some (.int .i64 ([k, q, ep, pe].getD j 0)) := (hbel.cell hg).trans (by have := unhide HQ j (by omega); simpa using this)
      have hx2 : 0 ≤ [k, q, ep, pe].getD j 0 ∧ [k, q, ep, pe].getD j 0 ≤ 2147483647 := HR4.out _ (getD_mem _ _ (by simp; omega))
      obtain ⟨x, hx⟩ : ∃ x, [k, q, ep, pe].getD j 0 = x := ⟨_, rfl⟩
      rw [hx] at kq hx2
      have HX := hide hx
      clear hx
      obtain ⟨x0, x1⟩ := hx2
      have hsz : w2.heap.size ≤ wr.heap.size := hbel.size
      go_wp2_with fail
      refine (four_yes x _ x0 x1).mono ?_
      rintro e w3 ⟨rfl, r3, b3⟩
      have hown3 : w3.ownsRow w2.heap.size 5 1 _ (4 * j) ((fours ([k, q, ep, pe].take j)).map (Value.int .u8)) := own_below hown b3
      have hs3 := b3.size
      go_wp2_with (at_builtin; refine wpList_append_row rfl _ _ 22 rfl w2.heap.size 5 i0 (.int .u8 0) 1 Try.underlying22 hi hz0 hz1 hz2 rfl .u8 _ _ _ rfl hown3 _ 4 4 (four x) rfl r3 (by simp) (by unfold maxLen; omega) (by omega) (by omega) ?_; intro v' w4 hown4 hgrow4)
      have R1 : Hid (w4.ownsRow w2.heap.size 5 1 v' (4 * (j + 1)) ((fours ([k, q, ep, pe].take (j + 1))).map (Value.int .u8))) := by
        rw [fours_snoc _ j (by simp; omega), unhide HX]; exact hown4
      have R2 : Below w2.heap.size w2 w4 := (hbel.trans (b3.mono hsz)).grown hgrow4 (by omega) (by intro t ht; exact (hown3.lt t ht).1)
      clear hown4 hgrow4 hown kq hown3 r3 b3 hs3
      go_wp2
      go_roundw
      case rel => exact ⟨j + 1, by omega, by go_num, R1.out, R2⟩
      case measure => simp [intOf]; omega
    · have hj' : j = 4 := by omega
      subst hj'
      obtain ⟨a', cap', rfl, hr, _, _, _, _⟩ := RowK.ofOwns hown (fours_wf _ (fun n hn' => HR4.out n (List.mem_of_mem_take hn')))
      obtain ⟨g', off', ha⟩ := hr.form (by omega)
      have ho : off' = 0 := by
        rcases hown.2 with ⟨h', _⟩ | ⟨g2, cap2, cur, h', _⟩
        · rw [ha] at h'; cases h'
        · rw [ha] at h'; simp at h'; exact h'.1.2
      subst ho
      subst ha
      clear hown
      go_wp2
      go_ret2
      exact ⟨g', cap', rfl, hr, Below.next (unhide HB) hbel⟩

set_option maxHeartbeats 400000 in
theorem bytes_no (k q ep pe ek p i b he hn : Int) (w : World) (h : ¬ recordFault k q ep pe ek p i b he hn = 0) :
    Calls Try.prog 30 #[.agg #[.int .i64 k, .int .i64 q, .int .i64 ep, .int .i64 pe, .int .i64 ek, .int .i64 p, .int .i64 i, .int .i64 b, .int .i64 he, .int .i64 hn]] w fun e w' =>
      e = .returned (.tuple #[.slice none 0 0, .int .i64 (recordFault k q ep pe ek p i b he hn)]) ∧ Below w.heap.size w w' := by
  go_enter Try.func30, Try.ntmps30
  go_wp2_with fail
  refine (recordFault_any _ _ _ _ _ _ _ _ _ _ _).mono ?_
  rintro e w1 ⟨rfl, b1⟩
  have hne : (recordFault k q ep pe ek p i b he hn != 0) = true := by simpa using h
  clear h
  go_wp2
  go_ret2
  exact ⟨rfl, below1t b1⟩
end Go.Proofs.Ytdpenbgmmgljoaa
