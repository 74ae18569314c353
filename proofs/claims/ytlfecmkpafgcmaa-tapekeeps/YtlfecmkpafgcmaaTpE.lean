/- Walks of tape.Crash and the document's answer's TapeCrashed. -/
import Derived.Test.YtlfecmkpafgcmaaTpD
namespace Go.Proofs.Ytlfecmkpafgcmaa
open Go.RowKit

theorem RowK.take {k : IntKind} {w : World} {a : Option Addr} {len : Nat} {l : List Int} (h : RowK k w a len l) (n : Nat) (hn : n ≤ len) : RowK k w a n (l.take n) := by
  have hl := h.len_eq
  refine ⟨by simp; omega, fun u hu => h.wf u (List.mem_of_mem_take hu), fun i hi => ?_⟩
  obtain ⟨b, off, ha, hlt, hc⟩ := h.cell i (by omega)
  refine ⟨b, off, ha, hlt, ?_⟩
  rw [hc]
  simp [List.getD_eq_getElem?_getD, hi]

/-- how many bytes a crash leaves. -/
def leftOf (len : Nat) (s keep : Int) : Nat := (if keep < len - s then s + keep else len).toNat

set_option maxRecDepth 20000 in
set_option maxHeartbeats 1000000 in
theorem crash_no (a : Option Addr) (len cap : Nat) (s keep : Int) (w : World) (hm : len ≤ 140737488351232) (h : ¬ (len ≤ 100000 ∧ 0 ≤ s ∧ s ≤ len)) :
    Calls Try.prog 18 #[.agg #[.slice a len cap, .int .i64 s], .int .i64 keep] w fun e w' => e = .returned (.tuple #[.agg #[.slice none 0 0, .int .i64 0], .int .i64 6]) ∧ Below w.heap.size w w' := by
  go_enter Try.func18, Try.ntmps18
  go_wp2_with fail
  obtain ⟨W, hW, tb0, tb1, B0, S0⟩ := two_boxes w a len cap s
  rw [← hW]
  clear hW
  refine (mayBe_no a len cap s _ hm h).mono ?_
  rintro e w1 ⟨rfl, b1⟩
  have tb2 := tb1.below b1 tb1.lt
  have j0 := tb2.cell0
  have j1 := tb2.cell1
  have jf := tb2.free
  go_wp2
  exact bodyPost_ret (ret_Crash (tb2.store none 0 0 0) rfl rfl) rfl ⟨rfl, (tape_same w1 _ _ _).under (Below.next B0 b1) (by omega)⟩

set_option maxRecDepth 20000 in
set_option maxHeartbeats 1000000 in
theorem crash_range (a : Option Addr) (len cap : Nat) (s keep : Int) (w : World) (h1 : len ≤ 100000) (h2 : 0 ≤ s) (h3 : s ≤ len) (hk : keep < 0) :
    Calls Try.prog 18 #[.agg #[.slice a len cap, .int .i64 s], .int .i64 keep] w fun e w' => e = .returned (.tuple #[.agg #[.slice none 0 0, .int .i64 0], .int .i64 2]) ∧ Below w.heap.size w w' := by
  go_enter Try.func18, Try.ntmps18
  go_wp2_with fail
  obtain ⟨W, hW, tb0, tb1, B0, S0⟩ := two_boxes w a len cap s
  rw [← hW]
  clear hW
  refine (mayBe_yes a len cap s _ h1 h2 h3).mono ?_
  rintro e w1 ⟨rfl, b1⟩
  have tb2 := tb1.below b1 tb1.lt
  have j0 := tb2.cell0
  have j1 := tb2.cell1
  have jf := tb2.free
  go_wp2
  exact bodyPost_ret (ret_Crash (tb2.store none 0 0 0) rfl rfl) rfl ⟨rfl, (tape_same w1 _ _ _).under (Below.next B0 b1) (by omega)⟩

set_option maxRecDepth 20000 in
set_option maxHeartbeats 1000000 in
theorem crash_yes (a : Option Addr) (len cap : Nat) (l : List Int) (s keep : Int) (w : World) (h : RowK .u8 w a len l) (hn : a = none → cap = 0) (hc : len ≤ cap) (h1 : len ≤ 100000) (h2 : 0 ≤ s) (h3 : s ≤ len) (hk : 0 ≤ keep) (hkm : keep ≤ 9223372036854775807) :
    Calls Try.prog 18 #[.agg #[.slice a len cap, .int .i64 s], .int .i64 keep] w fun e w' =>
      ∃ a' cap', e = .returned (.tuple #[.agg #[.slice a' (leftOf len s keep) cap', .int .i64 (leftOf len s keep)], .int .i64 0]) ∧ RowK .u8 w' a' (leftOf len s keep) (l.take (leftOf len s keep)) ∧ leftOf len s keep ≤ cap' ∧ (a' = none → cap' = 0) ∧ cap' ≤ 9223372036854775807 ∧ (∀ x, a' = some x → w.heap.size ≤ x.block) ∧ Below w.heap.size w w' := by
  have d0 : ¬ keep < 0 := by omega
  go_enter Try.func18, Try.ntmps18
  go_wp2_with fail
  obtain ⟨W, hW, tb0, tb1, B0, S0⟩ := two_boxes w a len cap s
  rw [← hW]
  have r0 := h.below B0
  clear hW
  refine (mayBe_yes a len cap s _ h1 h2 h3).mono ?_
  rintro e w1 ⟨rfl, b1⟩
  have r1 := r0.below b1
  have z1 := b1.size
  have ta := tb0.below b1 tb0.lt
  have tb2 := tb1.below b1 tb1.lt
  have B1 := Below.next B0 b1
  have i0 := ta.cell0
  have i1 := ta.cell1
  clear tb0 tb1 r0 b1 B0
  have hle : leftOf len s keep ≤ len := by unfold leftOf; split <;> omega
  go_wp2_with fail
  all_goals
    first
      | rw [show (s + keep).toNat = leftOf len s keep by unfold leftOf; split <;> omega]
      | rw [show (s + (↑len - s)).toNat = leftOf len s keep by unfold leftOf; split <;> omega]
    refine (safe_any a (leftOf len s keep) cap (l.take (leftOf len s keep)) _ (r1.take (leftOf len s keep) hle) hn (by omega)).mono ?_
    rintro e w2 ⟨a', cap', rfl, r2, c2, n2, m2, x2, b2⟩
    have tb3 := tb2.below b2 tb2.lt
    have B2 := Below.next B1 b2
    have j0 := tb3.cell0
    have j1 := tb3.cell1
    have jf := tb3.free
    clear tb2 b2 i0 ta
    go_wp2
    exact bodyPost_ret (ret_Crash (tb3.store a' (leftOf len s keep) cap' (leftOf len s keep)) rfl rfl) rfl ⟨a', cap', rfl, (tape_same w2 _ _ _).row r2 (fun x hx _ => by have := x2 x hx; omega), c2, n2, m2, fun x hx => by have := x2 x hx; omega, (tape_same w2 _ _ _).under B2 (by omega)⟩

end Go.Proofs.Ytlfecmkpafgcmaa
