/- Walks of berthshiftlaw.tapes and sameTape; of tape.Sync and the document's answer's TapeSynced. -/
import Derived.Test.YtlfecmkpafgcmaaTpC
import Derived.Deep.RegionHeld3
namespace Go.Proofs.Ytlfecmkpafgcmaa
open Go.RowKit

theorem two_boxes (w : World) (a : Option Addr) (len cap : Nat) (s : Int) : ∃ W, W = (w.alloc (.cells #[.slice a len cap, .int .i64 s] 54)).alloc (.cells #[.slice none 0 0, .int .i64 0] 54) ∧
    tapeBlock W w.heap.size a len cap s ∧ tapeBlock W (w.heap.size + 1) none 0 0 0 ∧ Below w.heap.size w W ∧ W.heap.size = w.heap.size + 2 :=
  ⟨_, rfl, (tapeBlock.new w a len cap s).below (below1 _ _) (by simp), by have := tapeBlock.new (w.alloc (.cells #[.slice a len cap, .int .i64 s] 54)) none 0 0 0; simpa using this, below2 _ _ _, by simp⟩

set_option maxRecDepth 20000 in
set_option maxHeartbeats 1000000 in
theorem sync_no (a : Option Addr) (len cap : Nat) (s : Int) (w : World) (hm : len ≤ 140737488351232) (h : ¬ (len ≤ 100000 ∧ 0 ≤ s ∧ s ≤ len)) :
    Calls Try.prog 15 #[.agg #[.slice a len cap, .int .i64 s]] w fun e w' => e = .returned (.tuple #[.agg #[.slice none 0 0, .int .i64 0], .int .i64 6]) ∧ Below w.heap.size w w' := by
  go_enter Try.func15, Try.ntmps15
  go_wp2_with fail
  obtain ⟨W, hW, tb0, tb1, B0, S0⟩ := two_boxes w a len cap s
  rw [← hW]
  clear hW
  refine (mayBe_no a len cap s _ hm h).mono ?_
  rintro e w1 ⟨rfl, b1⟩
  have tb2 := tb1.below b1 tb1.lt
  have j0 := tb2.cell0
  have j1 := tb2.cell1
  have jf := tb2.free
  go_wp2
  exact bodyPost_ret (ret_Sync (tb2.store none 0 0 0) rfl rfl) rfl ⟨rfl, (tape_same w1 _ _ _).under (Below.next B0 b1) (by omega)⟩

set_option maxRecDepth 20000 in
set_option maxHeartbeats 1000000 in
theorem sync_yes (a : Option Addr) (len cap : Nat) (l : List Int) (s : Int) (w : World) (h : RowK .u8 w a len l) (hn : a = none → cap = 0) (h1 : len ≤ 100000) (h2 : 0 ≤ s) (h3 : s ≤ len) :
    Calls Try.prog 15 #[.agg #[.slice a len cap, .int .i64 s]] w fun e w' =>
      ∃ a' cap', e = .returned (.tuple #[.agg #[.slice a' len cap', .int .i64 len], .int .i64 0]) ∧ RowK .u8 w' a' len l ∧ len ≤ cap' ∧ (a' = none → cap' = 0) ∧ cap' ≤ 9223372036854775807 ∧ (∀ x, a' = some x → w.heap.size ≤ x.block) ∧ Below w.heap.size w w' := by
  go_enter Try.func15, Try.ntmps15
  go_wp2_with fail
  obtain ⟨W, hW, tb0, tb1, B0, S0⟩ := two_boxes w a len cap s
  rw [← hW]
  have r0 := h.below B0
  clear hW
  refine (mayBe_yes a len cap s _ h1 h2 h3).mono ?_
  rintro e w1 ⟨rfl, b1⟩
  have r1 := r0.below b1
  have z1 := b1.size
  have ta := tb0.below b1 tb0.lt
  have tb2 := tb1.below b1 tb1.lt
  have B1 := Below.next B0 b1
  have i0 := ta.cell0
  clear tb0 tb1 r0 b1 B0
  go_wp2_with fail
  refine (safe_any a len cap l _ r1 hn (by omega)).mono ?_
  rintro e w2 ⟨a', cap', rfl, r2, c2, n2, m2, x2, b2⟩
  have tb3 := tb2.below b2 tb2.lt
  have B2 := Below.next B1 b2
  have j0 := tb3.cell0
  have j1 := tb3.cell1
  have jf := tb3.free
  clear tb2 b2 i0 ta
  go_wp2
  exact bodyPost_ret (ret_Sync (tb3.store a' len cap' len) rfl rfl) rfl ⟨a', cap', rfl, (tape_same w2 _ _ _).row r2 (fun x hx _ => by have := x2 x hx; omega), c2, n2, m2, fun x hx => by have := x2 x hx; omega, (tape_same w2 _ _ _).under B2 (by omega)⟩

end Go.Proofs.Ytlfecmkpafgcmaa
