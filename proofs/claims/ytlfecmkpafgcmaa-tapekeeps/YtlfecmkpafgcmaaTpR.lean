/- Walks of tape.Repair and the document's answer's Repaired. -/
import Derived.Test.YtlfecmkpafgcmaaTpQ
namespace Go.Proofs.Ytlfecmkpafgcmaa
open Go.RowKit

theorem ret_Repair {W : World} {R : Nat} {a : Option Addr} {len cap : Nat} {s e : Int} {tmps : Array Value} (h : tapeBlock W R a len cap s) (t : tmps[2]? = some (.pointer (some ⟨R, 0, none⟩))) (te : tmps[3]? = some (.int .i64 e)) :
    (results Try.f19 tmps).run Try.prog W = .ok (.tuple #[.agg #[.slice a len cap, .int .i64 s], .int .i64 e]) W := by
  have k0 := h.cell0
  have k1 := h.cell1
  simp [results, Try.results19, go_sem, k0, k1, t, te]
theorem joined_one (b : Nat) (t : TypeId) (f : Nat × Nat) (a : Option Addr) (len cap : Nat) (l : List Int) (W : World)
    (hcell : W.heap[b]? = some (.cells #[.slice a len cap] t f)) (hb : b < W.heap.size) (hs : len ≤ 1000000) (hp : RowK .u8 W a len l) (hpn : a = none → cap = 0) :
    Calls Try.prog 34 #[.slice (some ⟨b, 0, none⟩) 1 1] W fun e w' =>
      ∃ a2 cap2, e = .returned (.slice a2 len cap2) ∧ RowK .u8 w' a2 len l ∧ len ≤ cap2 ∧ (a2 = none → cap2 = 0) ∧ cap2 ≤ 9223372036854775807 ∧ (∀ x, a2 = some x → W.heap.size ≤ x.block) ∧ Below W.heap.size W w' := by
  have e1 : sizes [⟨a, len, cap, l⟩] = len := by simp [sizes]
  have e2 : jointly [⟨a, len, cap, l⟩] = l := by simp [jointly]
  have h := joined_any b 0 1 [⟨a, len, cap, l⟩] W (by simp) hb (by rw [e1]; exact hs)
    (fun k hk => by
      match k, hk with
      | 0, _ => simp [World.cell?, hcell])
    (fun k hk => by
      match k, hk with
      | 0, _ => exact ⟨hp, hpn⟩)
  rw [e1, e2] at h
  exact h

/-- how many bytes are synced of those that stay. -/
def cutOf (k : Nat) (s : Int) : Int := if (k : Int) < s then (k : Int) else s
theorem cutOf_pos {k : Nat} {s : Int} (h : (k : Int) < s) : cutOf k s = k := if_pos h
theorem cutOf_neg {k : Nat} {s : Int} (h : ¬ (k : Int) < s) : cutOf k s = s := if_neg h

/-- what Repair answers. -/
def repairOut (l : List Int) (s : Int) : List Int × Int × Int :=
  if ¬ (l.length ≤ 100000 ∧ 0 ≤ s ∧ s ≤ l.length) then ([], 0, 6) else (l.take (readOf l).2, cutOf (readOf l).2 s, 0)

set_option maxRecDepth 20000 in
set_option maxHeartbeats 1000000 in
theorem repair_no (a : Option Addr) (len cap : Nat) (s : Int) (w : World) (hm : len ≤ 140737488351232) (h : ¬ (len ≤ 100000 ∧ 0 ≤ s ∧ s ≤ len)) :
    Calls Try.prog 19 #[.agg #[.slice a len cap, .int .i64 s]] w fun e w' => e = .returned (.tuple #[.agg #[.slice none 0 0, .int .i64 0], .int .i64 6]) ∧ Below w.heap.size w w' := by
  go_enter Try.func19, Try.ntmps19
  go_wp2_with fail
  obtain ⟨W, hW, tb0, tb1, B0, S0⟩ := two_boxes w a len cap s
  rw [← hW]
  clear hW
  refine (read_no a len cap s _ hm h).mono ?_
  rintro e w1 ⟨rfl, b1⟩
  have tb2 := tb1.below b1 tb1.lt
  have j0 := tb2.cell0
  have j1 := tb2.cell1
  have jf := tb2.free
  go_wp2
  exact bodyPost_ret (ret_Repair (tb2.store none 0 0 0) rfl rfl) rfl ⟨rfl, (tape_same w1 _ _ _).under (Below.next B0 b1) (by omega)⟩

set_option maxRecDepth 20000 in
set_option maxHeartbeats 1000000 in
theorem repair_yes (a : Option Addr) (len cap : Nat) (l : List Int) (s : Int) (w : World) (h : RowK .u8 w a len l) (hn : a = none → cap = 0) (hlc : len ≤ cap) (hc : cap ≤ 9223372036854775807) (h1 : len ≤ 100000) (h2 : 0 ≤ s) (h3 : s ≤ len) :
    Calls Try.prog 19 #[.agg #[.slice a len cap, .int .i64 s]] w fun e w' =>
      ∃ a' cap', e = .returned (.tuple #[.agg #[.slice a' (readOf l).2 cap', .int .i64 (cutOf (readOf l).2 s)], .int .i64 0]) ∧ RowK .u8 w' a' (readOf l).2 (l.take (readOf l).2) ∧ (readOf l).2 ≤ cap' ∧ (a' = none → cap' = 0) ∧ cap' ≤ 9223372036854775807 ∧ (∀ x, a' = some x → w.heap.size ≤ x.block) ∧ Below w.heap.size w w' := by
  have hl := h.len_eq
  have hb := readOf_bounds l
  go_enter Try.func19, Try.ntmps19
  go_wp2_with fail
  obtain ⟨W, hW, tb0, tb1, B0, S0⟩ := two_boxes w a len cap s
  rw [← hW]
  have r0 := h.below B0
  clear hW h
  refine (read_any a len cap l s _ r0 hn hlc hc h1 h2 h3).mono ?_
  rintro e w3 ⟨aR, capR, rfl, _, _, _, _, _, b3⟩
  have ta4 := tb0.below b3 tb0.lt
  have tb4 := tb1.below b3 tb1.lt
  have q3 := r0.below b3
  have B3 := Below.next B0 b3
  have z3 := b3.size
  have k0 := ta4.cell0
  have k1 := ta4.cell1
  have hS : w.heap.size < w3.heap.size := by omega
  have hT : w.heap.size + 1 < w3.heap.size := by omega
  clear tb0 tb1 r0 b3 B0
  obtain ⟨rs, k, hro⟩ : ∃ rs k, readOf l = (rs, k) := ⟨_, _, rfl⟩
  rw [hro] at hb ⊢
  simp only at hb ⊢
  have HR := hide hro
  clear hro
  have hkl : k ≤ len := by omega
  have hkc : (k : Int) ≤ (cap : Int) := by omega
  have BW : Below w3.heap.size w3 (w3.alloc (.cells #[.slice a k cap] 52)).drew := (below1 _ _).drew
  have hcell : (w3.alloc (.cells #[.slice a k cap] 52)).drew.heap[w3.heap.size]? = some (.cells #[.slice a k cap] 52) := heap_alloc_new w3 _
  have hlt1 : w3.heap.size < (w3.alloc (.cells #[.slice a k cap] 52)).drew.heap.size := by
    have := alloc_size w3 (.cells #[.slice a k cap] 52)
    show w3.heap.size < (w3.alloc (.cells #[.slice a k cap] 52)).heap.size
    omega
  have HW := hide BW
  have HC := hide hcell
  have HL := hide hlt1
  clear BW hcell hlt1
  by_cases hs : (k : Int) < s
  all_goals
    go_wp2_with fail
    go_region_held3 (fun w' => w'.cell? ⟨w.heap.size, 0, none⟩ = some (.slice a len cap) ∧ w'.cell? ⟨w.heap.size, 1, none⟩ = some (.int .i64 s)) (first | go_keep | exact ⟨(b5.cell (p := ⟨w.heap.size, 0, none⟩) hS).trans k0, (b5.cell (p := ⟨w.heap.size, 1, none⟩) hS).trans k1⟩) ((go_at_call 34; refine (joined_one w3.heap.size _ _ a k cap (l.take k) _ (unhide HC) (unhide HL) (by omega) ((q3.take k hkl).below (unhide HW)) hn).mono ?_; rintro e w5 ⟨a5, cap5, rfl, r5, c5, n5, m5, y5, bb⟩; have b5 : Below w3.heap.size w3 w5 := Below.next (unhide HW) bb; have tb6 := tb4.below b5 hT; have j0 := tb6.cell0; have j1 := tb6.cell1; have jf := tb6.free; have y6 : ∀ x, a5 = some x → w3.heap.size ≤ x.block := fun x hx => Nat.le_trans (Nat.le_of_lt (unhide HL)) (y5 x hx)))
    all_goals
      go_wp2
      first
        | (exfalso; omega)
        | (refine bodyPost_ret (ret_Repair (tb6.store a5 k cap5 (if (k : Int) < s then (k : Int) else s)) rfl rfl) rfl ?_
           rw [unhide HR]
           exact ⟨a5, cap5, rfl, (tape_same w5 _ _ _).row r5 (fun x hx _ => by have := y6 x hx; omega), c5, n5, m5, fun x hx => by have := y6 x hx; omega, (tape_same w5 _ _ _).under (Below.next B3 b5) (by omega)⟩)
        | (refine bodyPost_ret (ret_Repair (tb6.store a5 k cap5 (k : Int)) rfl rfl) rfl ?_
           rw [unhide HR, cutOf_pos hs]
           exact ⟨a5, cap5, rfl, (tape_same w5 _ _ _).row r5 (fun x hx _ => by have := y6 x hx; omega), c5, n5, m5, fun x hx => by have := y6 x hx; omega, (tape_same w5 _ _ _).under (Below.next B3 b5) (by omega)⟩)
        | (refine bodyPost_ret (ret_Repair (tb6.store a5 k cap5 s) rfl rfl) rfl ?_
           rw [unhide HR, cutOf_neg (by simp only; omega)]
           exact ⟨a5, cap5, rfl, (tape_same w5 _ _ _).row r5 (fun x hx _ => by have := y6 x hx; omega), c5, n5, m5, fun x hx => by have := y6 x hx; omega, (tape_same w5 _ _ _).under (Below.next B3 b5) (by omega)⟩)

theorem repair_all (a : Option Addr) (len cap : Nat) (l : List Int) (s : Int) (w : World) (h : RowK .u8 w a len l) (hn : a = none → cap = 0) (hlc : len ≤ cap) (hc : cap ≤ 9223372036854775807) (hm : len ≤ 140737488351232) :
    Calls Try.prog 19 #[.agg #[.slice a len cap, .int .i64 s]] w fun e w' =>
      ∃ a' n cap' L s' er, repairOut l s = (L, s', er) ∧ e = .returned (.tuple #[.agg #[.slice a' n cap', .int .i64 s'], .int .i64 er]) ∧ RowK .u8 w' a' n L ∧ Below w.heap.size w w' := by
  have hl := h.len_eq
  unfold repairOut
  rw [hl]
  by_cases may : len ≤ 100000 ∧ 0 ≤ s ∧ s ≤ len
  · rw [if_neg (not_not_intro may)]
    obtain ⟨h1, h2, h3⟩ := may
    refine (repair_yes a len cap l s w h hn hlc hc h1 h2 h3).mono ?_
    rintro e w' ⟨a', cap', rfl, r, _, _, _, _, b⟩
    exact ⟨a', _, cap', _, _, 0, rfl, rfl, r, b⟩
  · rw [if_pos may]
    refine (repair_no a len cap s w hm may).mono ?_
    rintro e w' ⟨rfl, b⟩
    exact ⟨none, 0, 0, [], 0, 6, rfl, rfl, RowK.nil _ _ _, b⟩
end Go.Proofs.Ytlfecmkpafgcmaa
