/- Texts put together: BlD, RbB. -/
import Derived.Test.YtbhlpiomoookcaaGreatBeAll
import Derived.Deep.QuietTactic
import Derived.BigQuiet
import Derived.Test.YtbhlpiomoookcaaGreatQAll
namespace Go.Proofs.YtbhlpiomoookcaaGreat
open Go.RowKit

set_option maxHeartbeats 1000000 in
theorem sameEventsL_yes (a a' : Option Addr) (n cap cap' : Nat) (A : List Int) (w : World) (h : RowK .i64 w a (6 * n) A) (h' : RowK .i64 w a' (6 * n) A) (hm : n ≤ 3000000000000) :
    Calls Tryz.prog 15 #[.slice a n cap, .slice a' n cap'] w fun e w' => e = .returned (.bool true) ∧ ∃ m, w' = w.drewN m := by
  go_enter Tryz.func15, Tryz.ntmps15
  have ee : ((n : Int) == (n : Int)) = true := by simp
  go_wp2
  go_loopw [5] (fun t wr => ∃ k m : Nat, k ≤ n ∧ t = .int .i64 k ∧ wr = w.drewN m) (fun t _ => n - (intOf t).toNat)
  case atStart => exact ⟨0, 0, Nat.zero_le _, rfl, rfl⟩
  case round =>
    obtain ⟨k, m, hk, rfl, rfl⟩ := hrel
    by_cases hlt : k < n
    · obtain ⟨b, off, rfl⟩ := h.form (by omega)
      obtain ⟨b', off', rfl⟩ := h'.form (by omega)
      obtain ⟨m0, m1, m2, m3, m4, m5⟩ := h.six k hlt
      obtain ⟨n0, n1, n2, n3, n4, n5⟩ := h'.six k hlt
      generalize A.getD (6 * k) 0 = x0 at m0 n0
      generalize A.getD (6 * k + 1) 0 = x1 at m1 n1
      generalize A.getD (6 * k + 2) 0 = x2 at m2 n2
      generalize A.getD (6 * k + 3) 0 = x3 at m3 n3
      generalize A.getD (6 * k + 4) 0 = x4 at m4 n4
      generalize A.getD (6 * k + 5) 0 = x5 at m5 n5
      clear h h'
      have hki : (k : Int) < (n : Int) := by omega
      go_wp2_with fail
      go_quiet (fail)
      clear m0 m1 m2 m3 m4 m5 n0 n1 n2 n3 n4 n5
      go_wp2
      go_roundw
      case rel => exact ⟨k + 1, m + nq, by omega, by go_num, by first | exact (World.drewN_add _ _ _).symm | exact World.drewN_add _ _ _ | exact World.drewN_drewN _ _ _ | rfl | simp⟩
      case measure => simp [intOf]; omega
    · have hk' : k = n := by omega
      subst hk'
      go_wp2
      go_ret
      exact ⟨rfl, m, rfl⟩
theorem sameEventsL_below (a a' : Option Addr) (n cap cap' : Nat) (A : List Int) (w : World) (h : RowK .i64 w a (6 * n) A) (h' : RowK .i64 w a' (6 * n) A) (hm : n ≤ 3000000000000) :
    Calls Tryz.prog 15 #[.slice a n cap, .slice a' n cap'] w fun e w' => e = .returned (.bool true) ∧ Below w.heap.size w w' := by
  refine (sameEventsL_yes a a' n cap cap' A w h h' hm).mono ?_
  rintro e w' ⟨rfl, m, rfl⟩
  exact ⟨rfl, belowN _ _⟩
set_option maxRecDepth 20000 in
set_option maxHeartbeats 4000000 in
theorem sameBerthL_yes (r e f t o : Int) (a a' : Option Addr) (n cap cap' : Nat) (A : List Int) (w : World) (h : RowK .i64 w a (6 * n) A) (h' : RowK .i64 w a' (6 * n) A) (hm : n ≤ 3000000000000) :
    Calls Tryz.prog 9 #[bVal r e f t o a n cap, bVal r e f t o a' n cap'] w fun x w' => x = .returned (.bool true) ∧ Below w.heap.size w w' := by
  have hS : ∀ W, Below w.heap.size w W → Calls Tryz.prog 15 #[.slice a n cap, .slice a' n cap'] W fun e w' => e = .returned (.bool true) ∧ Below W.heap.size W w' := fun W b => sameEventsL_below a a' n cap cap' A W (h.below b) (h'.below b) hm
  have HS := veil hS
  clear h h' hS
  go_enter Tryz.func9, Tryz.ntmps9
  go_upto_region 1 with fail
  obtain ⟨W1, hW1, k1, k2, b1⟩ : ∃ W, W = (w.alloc (.cells (bCells r e f t o a n cap) 24)).alloc (.cells (bCells r e f t o a' n cap') 24) ∧ bBlock W w.heap.size r e f t o a n cap ∧ bBlock W (w.heap.size + 1) r e f t o a' n cap' ∧ Below w.heap.size w W := by
    refine ⟨_, rfl, (bBlock.new w _ _ _ _ _ _ _ _).next (below1 _ _), ?_, below2 _ _ _⟩
    have h0 := bBlock.new (w.alloc (.cells (bCells r e f t o a n cap) 24)) r e f t o a' n cap'
    rw [show (w.alloc (.cells (bCells r e f t o a n cap) 24)).heap.size = w.heap.size + 1 by simp] at h0
    exact h0
  rw [← hW1]
  have hC := unveil HS W1 b1
  obtain ⟨x0, x1, x2, x3, x4, x5⟩ := k1.cells
  obtain ⟨y0, y1, y2, y3, y4, y5⟩ := k2.cells
  have HB1 := veil b1
  clear hW1 k1 k2 b1 HS
  go_wp2_with (go_at_call 15; refine hC.mono ?_; rintro x W2 ⟨rfl, b2⟩; clear hC)
  go_ret
  exact ⟨by simp, Below.next (unveil HB1) b2⟩
end Go.Proofs.YtbhlpiomoookcaaGreat

namespace Go.Proofs.YtbhlpiomoookcaaGreat
open Go.RowKit

theorem ret_bcopy {W : World} {R : Nat} {r e f t o : Int} {a : Option Addr} {n c : Nat} {tmps : Array Value} (d : bBlock W R r e f t o a n c) (t2 : tmps[2]? = some (.pointer (some ⟨R, 0, none⟩))) :
    (results Tryz.f16 tmps).run Tryz.prog W = .ok (bVal r e f t o a n c) W := by
  simp [results, Tryz.results16, t2, asAddr, load_berth d]
theorem ret_berths {W : World} {R : Nat} {r e f t o : Int} {a : Option Addr} {n c : Nat} {tmps : Array Value} (d : bBlock W R r e f t o a n c) (t2 : tmps[2]? = some (.pointer (some ⟨R, 0, none⟩))) :
    (results Tryz.f6 tmps).run Tryz.prog W = .ok (bVal r e f t o a n c) W := by
  simp [results, Tryz.results6, t2, asAddr, load_berth d]
/-- a row of events of one's own. -/
theorem own_events {w w' : World} {v : Value} {es : List Ev} {D : List Int} (hw : ∀ u ∈ D, (Lit.int .i64 u).wf = true) (hD : D = evFlat es) (o : w'.ownsRow w.heap.size 50 6 v es.length (D.map (Value.int .i64))) :
    ∃ a c, v = .slice a es.length c ∧ RowK .i64 w' a (6 * es.length) (evFlat es) ∧ es.length ≤ c ∧ (a = none → c = 0) ∧ (∀ x, a = some x → w.heap.size ≤ x.block) := by
  subst hD
  obtain ⟨a, c, e, r, l, _, n, x⟩ := RowK.ofMany o hw
  exact ⟨a, c, e, r, l, n, x⟩
set_option maxRecDepth 20000 in
set_option maxHeartbeats 4000000 in
theorem bcopy_own (B : Bt) (a : Option Addr) (c : Nat) (w : World) (hb : BIn w B a c) (hs : B.es.length * 48 ≤ 140737488351232) : Calls Tryz.prog 16 #[bVal B.r B.e B.f B.t B.o a B.es.length c] w fun x w' => ∃ a2 c2, x = .returned (bVal B.r B.e B.f B.t B.o a2 B.es.length c2) ∧ w'.ownsRow w.heap.size 50 6 (.slice a2 B.es.length c2) B.es.length ((evFlat B.es).map (Value.int .i64)) ∧ BIn w' B a2 c2 ∧ (∀ x, a2 = some x → w.heap.size ≤ x.block) ∧ Below w.heap.size w w' := by
  go_enter Tryz.func16, Tryz.ntmps16
  go_upto_region 1 with fail
  obtain ⟨W1, hW1, M1⟩ := Mb.made w B a c
  rw [← hW1]
  clear hW1
  have HC : Hid (Calls Tryz.prog 27 #[.slice a B.es.length c] W1 fun e w' => ∃ v, e = .returned v ∧ w'.ownsRow W1.heap.size 50 6 v B.es.length ((evFlat B.es).map (Value.int .i64)) ∧ Below W1.heap.size W1 w') := veil (eventsCopy_any a B.es.length c (evFlat B.es) W1 (hb.row.below M1.bel) hs)
  obtain ⟨x0, x1, x2, x3, x4, x5⟩ := M1.b.cells
  have hlt := M1.z.lt
  have HM := veil M1
  clear M1
  go_upto_region 2 with (first
    | (go_at_call 27; refine (unveil HC).mono ?_; rintro x W2 ⟨v, rfl, o2, b2⟩; obtain ⟨a2, c2, rfl, r2, l2, n2, f2⟩ := own_events hb.row.wf rfl o2; have M2 := (unveil HM).next b2; clear HC x0 x1 x2 x3 x4 x5; obtain ⟨x0, x1, x2, x3, x4, x5⟩ := M2.b.cells; have xf := M2.b.free; have HM2 := veil M2; have HO2 := veil o2; clear M2 b2 HM o2))
  obtain ⟨W3, hW3, T3, d3⟩ : ∃ W3, W3 = W2.setCell ⟨w.heap.size, 5, none⟩ (.slice a2 B.es.length c2) ∧ Turned w.heap.size W2 W3 ∧ bBlock W3 w.heap.size B.r B.e B.f B.t B.o a2 B.es.length c2 := ⟨_, rfl, Turned.set _ _ _ _, by
    have := heap_setB (k := 5) (v := .slice a2 B.es.length c2) (unveil HM2).b
    unfold bBlock
    rw [this]
    rfl⟩
  rw [← hW3]
  clear hW3 x0 x1 x2 x3 x4 x5 xf
  obtain ⟨x0, x1, x2, x3, x4, x5⟩ := d3.cells
  have z3 := (unveil HM2).z.turned T3 (by omega)
  have B3 := T3.under (unveil HM2).bel (Nat.le_refl _)
  have r3 := T3.row r2 (fun x hx _ => by have := f2 x hx; omega)
  obtain ⟨z0, z1, z2, z3', z4, z5⟩ := z3.cells
  have zf := z3.free
  have HZ := veil z3
  clear z3
  go_wp2
  obtain ⟨W4, hW4, d4, b4, T4⟩ := b_stored (unveil HZ) B3 (show w.heap.size ≤ w.heap.size + 1 by omega) B.r B.e B.f B.t B.o a2 B.es.length c2
  rw [← hW4]
  exact bodyPost_ret (ret_bcopy d4 rfl) rfl ⟨a2, c2, rfl, own_lower (T4.own (T3.own (unveil HO2) (by omega)) (by omega)) (by omega), ⟨T4.row r3 (fun x hx _ => by have := f2 x hx; omega), l2, n2⟩, fun x hx => by have := f2 x hx; omega, b4⟩
theorem bcopy_any (B : Bt) (a : Option Addr) (c : Nat) (w : World) (hb : BIn w B a c) (hs : B.es.length * 48 ≤ 140737488351232) : Calls Tryz.prog 16 #[bVal B.r B.e B.f B.t B.o a B.es.length c] w fun x w' => ∃ y, x = .returned y ∧ BOut w w' B y ∧ Below w.heap.size w w' := by
  refine (bcopy_own B a c w hb hs).mono ?_
  rintro x w' ⟨a2, c2, rfl, _, i2, f2, b2⟩
  exact ⟨_, rfl, ⟨a2, c2, rfl, i2, f2⟩, b2⟩
set_option maxRecDepth 20000 in
set_option maxHeartbeats 4000000 in
theorem berths_any (B : Bt) (a : Option Addr) (c : Nat) (w : World) (hb : BIn w B a c) (hs : B.es.length * 48 ≤ 140737488351232) : Calls Tryz.prog 6 #[bVal B.r B.e B.f B.t B.o a B.es.length c] w fun x w' => ∃ y, x = .returned y ∧ BOut w w' B y ∧ Below w.heap.size w w' := by
  go_enter Tryz.func6, Tryz.ntmps6
  go_upto_region 1 with fail
  obtain ⟨W1, hW1, M1⟩ := Mb.made w B a c
  rw [← hW1]
  clear hW1
  have HC := veil (bcopy_any B a c W1 (hb.next M1.bel) hs)
  obtain ⟨x0, x1, x2, x3, x4, x5⟩ := M1.b.cells
  have hlt := M1.z.lt
  have HM := veil M1
  clear M1
  go_wp2_with (first
    | (go_at_call 16; refine (unveil HC).mono ?_; rintro x W2 ⟨y, rfl, ⟨a2, c2, rfl, i2, f2⟩, b2⟩; have M2 := (unveil HM).next b2; clear HC x0 x1 x2 x3 x4 x5; obtain ⟨z0, z1, z2, z3, z4, z5⟩ := M2.z.cells; have zf := M2.z.free; have HM2 := veil M2; clear M2 b2 HM))
  obtain ⟨W4, hW4, d4, b4, T4⟩ := b_stored (unveil HM2).z (unveil HM2).bel (show w.heap.size ≤ w.heap.size + 1 by omega) B.r B.e B.f B.t B.o a2 B.es.length c2
  rw [← hW4]
  exact bodyPost_ret (ret_berths d4 rfl) rfl ⟨_, rfl, ⟨a2, c2, rfl, i2.turned T4 (fun x hx _ => by have := f2 x hx; omega), fun x hx => by have := f2 x hx; omega⟩, b4⟩
end Go.Proofs.YtbhlpiomoookcaaGreat
