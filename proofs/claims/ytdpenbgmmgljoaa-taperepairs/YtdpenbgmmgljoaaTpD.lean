/- Walks of berthshiftlaw.tapes and sameTape; of tape.Sync and the document's answer's TapeSynced. -/
import Derived.Test.YtdpenbgmmgljoaaTpC
import Derived.Deep.RegionHeld3
namespace Go.Proofs.Ytdpenbgmmgljoaa
open Go.RowKit

theorem two_boxes (w : World) (a : Option Addr) (len cap : Nat) (s : Int) : ∃ W, W = (w.alloc (.cells #[.slice a len cap, .int .i64 s] 27)).alloc (.cells #[.slice none 0 0, .int .i64 0] 27) ∧
    tapeBlock W w.heap.size a len cap s ∧ tapeBlock W (w.heap.size + 1) none 0 0 0 ∧ Below w.heap.size w W ∧ W.heap.size = w.heap.size + 2 :=
  ⟨_, rfl, (tapeBlock.new w a len cap s).below (below1 _ _) (by simp), by have := tapeBlock.new (w.alloc (.cells #[.slice a len cap, .int .i64 s] 27)) none 0 0 0; simpa using this, below2 _ _ _, by simp⟩

set_option maxHeartbeats 400000 in
theorem octets_new (a : Option Addr) (len cap : Nat) (l : List Int) (w : World) (h : RowK .u8 w a len l) (hc : len ≤ cap) (hn : a = none → cap = 0) (hz : cap * 1 ≤ 140737488351232) :
    Calls Try.prog 10 #[.slice a len cap] w fun e w' => ∃ a' cap', e = .returned (.slice a' len cap') ∧ RowK .u8 w' a' len l ∧ len ≤ cap' ∧ (a' = none → cap' = 0) ∧ cap' ≤ 9223372036854775807 ∧ (∀ x, a' = some x → w.heap.size ≤ x.block) ∧ Below w.heap.size w w' := by
  obtain ⟨i0, hi, hz0, hz1, hz2⟩ := info_parts Try.info5
  go_enter Try.func10, Try.ntmps10
  go_wp2_with (at_builtin; refine wpList_append_row rfl _ _ 22 rfl w.heap.size 5 i0 (.int .u8 0) 1 Try.underlying22 hi hz0 hz1 hz2 rfl .u8 (.slice none 0 0) 0 [] rfl (World.ownsRow_nil _ _ _ _) a len cap l rfl h hn (by unfold maxLen; omega) (by omega) (Nat.le_refl _) ?_; intro v' w1 hown hgrow)
  rw [Nat.zero_add, List.nil_append] at hown
  obtain ⟨a', cap', rfl, hr, hc', hm', hn', hx'⟩ := RowK.ofOwns hown h.wf
  go_wp2
  go_ret
  exact ⟨a', cap', rfl, hr, hc', hn', by unfold maxLen at hm'; exact hm', hx', (Below.refl _ _).grown hgrow (Nat.le_refl _) (by simp [Value.ownBlock])⟩

set_option maxHeartbeats 1000000 in
theorem tapes_any (a : Option Addr) (len cap : Nat) (l : List Int) (s : Int) (w : World) (h : RowK .u8 w a len l) (hc : len ≤ cap) (hn : a = none → cap = 0) (hz : cap * 1 ≤ 140737488351232) :
    Calls Try.prog 12 #[.agg #[.slice a len cap, .int .i64 s]] w fun e w' =>
      ∃ a' cap', e = .returned (.agg #[.slice a' len cap', .int .i64 s]) ∧ RowK .u8 w' a' len l ∧ len ≤ cap' ∧ (a' = none → cap' = 0) ∧ cap' ≤ 9223372036854775807 ∧ (∀ x, a' = some x → w.heap.size ≤ x.block) ∧ Below w.heap.size w w' := by
  go_enter Try.func12, Try.ntmps12
  go_wp2_with fail
  obtain ⟨W, hW, tb0, tb1, B0, S0⟩ := two_boxes w a len cap s
  rw [← hW]
  have r0 := h.below B0
  clear hW
  have k0 := tb0.cell0
  have k1 := tb0.cell1
  have hS : w.heap.size < W.heap.size := by omega
  have hT : w.heap.size + 1 < W.heap.size := by omega
  go_region_held3 (fun w' => w'.cell? ⟨w.heap.size, 0, none⟩ = some (.slice a len cap) ∧ w'.cell? ⟨w.heap.size, 1, none⟩ = some (.int .i64 s)) (first | go_keep | exact ⟨(b2.cell (p := ⟨w.heap.size, 0, none⟩) hS).trans k0, (b2.cell (p := ⟨w.heap.size, 1, none⟩) hS).trans k1⟩) ((go_at_call 10; refine (octets_new a len cap l _ (by first | exact r0 | exact r0.below (belowN _ 1)) hc hn hz).mono ?_; rintro e w1 ⟨a', cap', rfl, r1, c1, n1, m1, x1, b1⟩; have b2 : Below W.heap.size W w1 := (by first | exact b1 | exact Below.next (belowN _ _) b1); have tb2 := tb1.below b2 hT; have j0 := tb2.cell0; have j1 := tb2.cell1; have jf := tb2.free; have x2 : ∀ x, a' = some x → W.heap.size ≤ x.block := x1))
  go_wp2
  exact bodyPost_ret (ret_tapes (tb2.store a' len cap' s) rfl) rfl ⟨a', cap', rfl, (tape_same w1 _ _ _).row r1 (fun x hx _ => by have := x2 x hx; omega), c1, n1, m1, fun x hx => by have := x2 x hx; omega, (tape_same w1 _ _ _).under (Below.next B0 b2) (by omega)⟩

set_option maxHeartbeats 400000 in
theorem sameTape_yes (a a' : Option Addr) (len cap len' cap' : Nat) (l : List Int) (s : Int) (w : World) (h : RowK .u8 w a len l) (h' : RowK .u8 w a' len' l) :
    Calls Try.prog 15 #[.agg #[.slice a len cap, .int .i64 s], .agg #[.slice a' len' cap', .int .i64 s]] w fun e w' => e = .returned (.bool true) ∧ Below w.heap.size w w' := by
  have ee : ((strOfNums l).toList == (strOfNums l).toList) = true := by simp
  have es : (s == s) = true := by simp
  go_enter Try.func15, Try.ntmps15
  go_wp2_with (go_at_call 33; refine (same_any _ _ _ _ _ _ l l _ (h.below (below2 _ _ _)) (h'.below (below2 _ _ _))).mono ?_; rintro e w5 ⟨rfl, rfl⟩)
  go_ret
  exact ⟨rfl, below2 _ _ _⟩

set_option maxHeartbeats 1000000 in
theorem sync_no (a : Option Addr) (len cap : Nat) (s : Int) (w : World) (hm : len ≤ 140737488351232) (h : ¬ (len ≤ 100000 ∧ 0 ≤ s ∧ s ≤ len)) :
    Calls Try.prog 16 #[.agg #[.slice a len cap, .int .i64 s]] w fun e w' => e = .returned (.tuple #[.agg #[.slice none 0 0, .int .i64 0], .int .i64 6]) ∧ Below w.heap.size w w' := by
  go_enter Try.func16, Try.ntmps16
  go_wp2_with fail
  obtain ⟨W, hW, tb0, tb1, B0, S0⟩ := two_boxes w a len cap s
  rw [← hW]
  clear hW
  refine (mayBe_no a len cap s _ hm h).mono ?_
  rintro e w1 ⟨rfl, b1⟩
  have tb2 := tb1.below b1 tb1.lt
  have j0 := tb2.cell0
  have j1 := tb2.cell1
  have jf := tb2.free
  go_wp2
  exact bodyPost_ret (ret_Sync (tb2.store none 0 0 0) rfl rfl) rfl ⟨rfl, (tape_same w1 _ _ _).under (Below.next B0 b1) (by omega)⟩

set_option maxHeartbeats 1000000 in
theorem sync_yes (a : Option Addr) (len cap : Nat) (l : List Int) (s : Int) (w : World) (h : RowK .u8 w a len l) (hn : a = none → cap = 0) (h1 : len ≤ 100000) (h2 : 0 ≤ s) (h3 : s ≤ len) :
    Calls Try.prog 16 #[.agg #[.slice a len cap, .int .i64 s]] w fun e w' =>
      ∃ a' cap', e = .returned (.tuple #[.agg #[.slice a' len cap', .int .i64 len], .int .i64 0]) ∧ RowK .u8 w' a' len l ∧ len ≤ cap' ∧ (a' = none → cap' = 0) ∧ cap' ≤ 9223372036854775807 ∧ (∀ x, a' = some x → w.heap.size ≤ x.block) ∧ Below w.heap.size w w' := by
  go_enter Try.func16, Try.ntmps16
  go_wp2_with fail
  obtain ⟨W, hW, tb0, tb1, B0, S0⟩ := two_boxes w a len cap s
  rw [← hW]
  have r0 := h.below B0
  clear hW
  refine (mayBe_yes a len cap s _ h1 h2 h3).mono ?_
  rintro e w1 ⟨rfl, b1⟩
  have r1 := r0.below b1
  have z1 := b1.size
  have ta := tb0.below b1 tb0.lt
  have tb2 := tb1.below b1 tb1.lt
  have B1 := Below.next B0 b1
  have i0 := ta.cell0
  clear tb0 tb1 r0 b1 B0
  go_wp2_with fail
  refine (safe_any a len cap l _ r1 hn (by omega)).mono ?_
  rintro e w2 ⟨a', cap', rfl, r2, c2, n2, m2, x2, b2⟩
  have tb3 := tb2.below b2 tb2.lt
  have B2 := Below.next B1 b2
  have j0 := tb3.cell0
  have j1 := tb3.cell1
  have jf := tb3.free
  clear tb2 b2 i0 ta
  go_wp2
  exact bodyPost_ret (ret_Sync (tb3.store a' len cap' len) rfl rfl) rfl ⟨a', cap', rfl, (tape_same w2 _ _ _).row r2 (fun x hx _ => by have := x2 x hx; omega), c2, n2, m2, fun x hx => by have := x2 x hx; omega, (tape_same w2 _ _ _).under B2 (by omega)⟩

set_option maxHeartbeats 1000000 in
theorem synced_no (a : Option Addr) (len cap : Nat) (s : Int) (w : World) (hm : len ≤ 140737488351232) (h : ¬ (len ≤ 100000 ∧ 0 ≤ s ∧ s ≤ len)) :
    Calls Try.prog 17 #[.agg #[.slice a len cap, .int .i64 s]] w fun e w' => e = .returned (.tuple #[.agg #[.slice none 0 0, .int .i64 0], .int .i64 6]) ∧ Below w.heap.size w w' := by
  go_enter Try.func17, Try.ntmps17
  go_wp2_with fail
  obtain ⟨W, hW, tb0, tb1, B0, S0⟩ := two_boxes w a len cap s
  rw [← hW]
  clear hW
  refine (tapeMay_no a len cap s _ hm h).mono ?_
  rintro e w1 ⟨rfl, b1⟩
  have tb2 := tb1.below b1 tb1.lt
  have j0 := tb2.cell0
  have j1 := tb2.cell1
  have jf := tb2.free
  go_wp2
  exact bodyPost_ret (ret_TapeSynced (tb2.store none 0 0 0) rfl rfl) rfl ⟨rfl, (tape_same w1 _ _ _).under (Below.next B0 b1) (by omega)⟩

set_option maxHeartbeats 1000000 in
theorem synced_yes (a : Option Addr) (len cap : Nat) (l : List Int) (s : Int) (w : World) (h : RowK .u8 w a len l) (h1 : len ≤ 100000) (h2 : 0 ≤ s) (h3 : s ≤ len) :
    Calls Try.prog 17 #[.agg #[.slice a len cap, .int .i64 s]] w fun e w' =>
      ∃ a' cap', e = .returned (.tuple #[.agg #[.slice a' len cap', .int .i64 len], .int .i64 0]) ∧ RowK .u8 w' a' len l ∧ Below w.heap.size w w' := by
  go_enter Try.func17, Try.ntmps17
  go_wp2_with fail
  obtain ⟨W, hW, tb0, tb1, B0, S0⟩ := two_boxes w a len cap s
  rw [← hW]
  have r0 := h.below B0
  clear hW
  refine (tapeMay_yes a len cap s _ h1 h2 h3).mono ?_
  rintro e w1 ⟨rfl, b1⟩
  have hS : w.heap.size < w1.heap.size := by have := b1.size; omega
  have hT : w.heap.size + 1 < w1.heap.size := by have := b1.size; omega
  have r1 := r0.below b1
  have ta := tb0.below b1 tb0.lt
  have tc := tb1.below b1 tb1.lt
  have B1 := Below.next B0 b1
  have k0 := ta.cell0
  have hl := h.len_eq
  have E1 : Hid (l.take len = l) := hide (List.take_of_length_le (by omega))
  clear tb0 tb1 r0 b1 B0
  go_wp2_with fail
  go_region_held3 (fun w' => w'.cell? ⟨w.heap.size, 0, none⟩ = some (.slice a len cap)) (first | go_keep | exact (b2.cell (p := ⟨w.heap.size, 0, none⟩) hS).trans k0) ((go_at_call 32; refine (octetsN_any a len cap l _ (by first | exact r1 | exact r1.below (belowN _ 1)) len (Nat.le_refl _) (by omega)).mono ?_; rintro e w2 ⟨a', cap', rfl, r2, c2, n2, m2, x2, bb⟩; have b2 : Below w1.heap.size w1 w2 := (by first | exact bb | exact Below.next (belowN _ _) bb); have tb2 := tc.below b2 hT; have j0 := tb2.cell0; have j1 := tb2.cell1; have jf := tb2.free; have x3 : ∀ x, a' = some x → w1.heap.size ≤ x.block := x2))
  rw [unhide E1] at r2
  go_wp2
  exact bodyPost_ret (ret_TapeSynced (tb2.store a' len cap' len) rfl rfl) rfl ⟨a', cap', rfl, (tape_same w2 _ _ _).row r2 (fun x hx _ => by have := x3 x hx; omega), (tape_same w2 _ _ _).under (Below.next B1 b2) (by omega)⟩
end Go.Proofs.Ytdpenbgmmgljoaa
