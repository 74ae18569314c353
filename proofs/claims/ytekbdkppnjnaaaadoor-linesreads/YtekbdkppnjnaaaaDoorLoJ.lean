/- Walk of berthshiftkeep.Act, the Calls. -/
import Derived.Test.YtekbdkppnjnaaaaDoorLoI
namespace Go.Proofs.YtekbdkppnjnaaaaDoor
open Go.RowKit

/-- an act's Op stored. -/
theorem op_set {V : World} {B : Nat} {f : Nat → Int} (h : aBlock V B f) (e0 e1 e2 e3 e4 e5 : Int) : ∃ W, W = (((((V.setCell ⟨B, 5, none⟩ (.int .i64 e0)).setCell ⟨B, 6, none⟩ (.int .i64 e1)).setCell ⟨B, 7, none⟩ (.int .i64 e2)).setCell ⟨B, 8, none⟩ (.int .i64 e3)).setCell ⟨B, 9, none⟩ (.int .i64 e4)).setCell ⟨B, 10, none⟩ (.int .i64 e5) ∧ aBlock W B (vec [f 0, f 1, f 2, f 3, f 4, e0, e1, e2, e3, e4, e5]) ∧ Turned B V W :=
  ⟨_, rfl, ((((((h.put 5 (by omega) e0).put 6 (by omega) e1).put 7 (by omega) e2).put 8 (by omega) e3).put 9 (by omega) e4).put 10 (by omega) e5).ext (below11 rfl rfl rfl rfl rfl rfl rfl rfl rfl rfl rfl),
    (((((Turned.set B 5 V _).trans (Turned.set B 6 _ _)).trans (Turned.set B 7 _ _)).trans (Turned.set B 8 _ _)).trans (Turned.set B 9 _ _)).trans (Turned.set B 10 _ _)⟩
set_option maxRecDepth 20000 in
set_option maxHeartbeats 8000000 in
theorem act_2p (k a b c d : Int) (w : World) (wk : (Lit.int .i64 k).wf = true) (wa : (Lit.int .i64 a).wf = true) (wb : (Lit.int .i64 b).wf = true) (wc : (Lit.int .i64 c).wf = true) (wd : (Lit.int .i64 d).wf = true) (hp : pickedOf k 10 = 1) (p i x : Int) (q1 : 0 ≤ p ∧ p ≤ 3 ∧ 0 ≤ i ∧ i ≤ 1073741824 ∧ 0 ≤ x ∧ x ≤ 1000000) (he : evNums c d (wrap64 (d.tdiv 3)) a = [1, p, i, x, 0, 0]) :
    Calls Tryd.prog 37 #[xVal k a b c d] w fun e w' => ∃ f, e = .returned (aVal f) ∧ chk f = 0 ∧ Below w.heap.size w w' := by
  have h1 := pickedOf_range a 5 (by omega)
  have h2 := pickedOf_range b 4 (by omega)
  have HEv : Hid (∀ u, Calls Tryd.prog 52 #[.agg #[.int .i64 c, .int .i64 d, .int .i64 (wrap64 (d.tdiv 3)), .int .i64 a]] u fun e w' => e = .returned (.agg #[.int .i64 (1), .int .i64 (p), .int .i64 (i), .int .i64 (x), .int .i64 (0), .int .i64 (0)]) ∧ Below u.heap.size u w') := veil fun u => by
    have := event_any c d (wrap64 (d.tdiv 3)) a u wc wd (wrap64_wf _) wa
    rw [he] at this
    exact this
  clear he
  go_enter Tryd.func37, Tryd.ntmps37
  go_upto_region 20 with (go_at_call 21; refine (picked_any _ _ _ (by assumption) (by omega) (by omega)).mono ?_; rintro e w' ⟨rfl, rfl⟩; try rw [hp])
  obtain ⟨U, hU⟩ : ∃ U, U = (((w.alloc (.cells #[.int .i64 k, .int .i64 a, .int .i64 b, .int .i64 c, .int .i64 d] 78)).alloc (.cells (aCells fun _ => 0) 27)).alloc (.cells (aCells (vec [2, pickedOf a 5, pickedOf b 4, 0, 0, 0, 0, 0, 0, 0, 0])) 27)) := ⟨_, rfl⟩
  have HU : Hid (aBlock U (w.heap.size + 1) (fun _ => 0) ∧ aBlock U (w.heap.size + 2) (vec [2, pickedOf a 5, pickedOf b 4, 0, 0, 0, 0, 0, 0, 0, 0]) ∧ Below w.heap.size w U) := veil (by
    rw [hU]
    have e1 := (aBlock.new (w.alloc (.cells #[.int .i64 k, .int .i64 a, .int .i64 b, .int .i64 c, .int .i64 d] 78)) (fun _ => 0)).next (below1 _ (.cells (aCells (vec [2, pickedOf a 5, pickedOf b 4, 0, 0, 0, 0, 0, 0, 0, 0])) 27))
    have e2 := aBlock.new ((w.alloc (.cells #[.int .i64 k, .int .i64 a, .int .i64 b, .int .i64 c, .int .i64 d] 78)).alloc (.cells (aCells fun _ => 0) 27)) (vec [2, pickedOf a 5, pickedOf b 4, 0, 0, 0, 0, 0, 0, 0, 0])
    simp only [World.size_alloc] at e1 e2
    exact ⟨e1, e2, Below.next (Below.next (below1 w _) (below1 _ _)) (below1 _ _)⟩)
  have hx : U.heap[w.heap.size]? = some (.cells #[.int .i64 k, .int .i64 a, .int .i64 b, .int .i64 c, .int .i64 d] 78 (0, 0)) := by
    rw [hU]
    exact ((below1 _ _).block _ (by simp; omega)).trans (((below1 _ _).block _ (by simp)).trans (heap_alloc_new w _))
  have y1 : U.cell? ⟨w.heap.size, 1, none⟩ = some (.int .i64 a) := by simp [World.cell?, hx]
  have y3 : U.cell? ⟨w.heap.size, 3, none⟩ = some (.int .i64 c) := by simp [World.cell?, hx]
  have y4 : U.cell? ⟨w.heap.size, 4, none⟩ = some (.int .i64 d) := by simp [World.cell?, hx]
  have hU2 : (((w.alloc (.cells #[.int .i64 k, .int .i64 a, .int .i64 b, .int .i64 c, .int .i64 d] 78)).alloc (.cells #[.int .i64 0, .int .i64 0, .int .i64 0, .int .i64 0, .int .i64 0, .int .i64 0, .int .i64 0, .int .i64 0, .int .i64 0, .int .i64 0, .int .i64 0] 27)).alloc (.cells #[.int .i64 2, .int .i64 (pickedOf a 5), .int .i64 (pickedOf b 4), .int .i64 0, .int .i64 0, .int .i64 0, .int .i64 0, .int .i64 0, .int .i64 0, .int .i64 0, .int .i64 0] 27)) = U := hU.symm
  rw [hU2]
  clear hU hU2 hx
  have HC := unveil HEv U
  clear HEv
  simp only [Nat.add_assoc, Nat.reduceAdd]
  have HX : Hid (∀ V, Below U.heap.size U V → aBlock V (w.heap.size + 1) (fun _ => 0) ∧ aBlock V (w.heap.size + 2) (vec [2, pickedOf a 5, pickedOf b 4, 0, 0, 0, 0, 0, 0, 0, 0]) ∧ Below w.heap.size w V) := veil fun V b => ⟨(unveil HU).1.next b, (unveil HU).2.1.next b, Below.next (unveil HU).2.2 b⟩
  clear HU
  go_upto_region 21 with (go_at_call 52; refine HC.mono ?_; rintro e V ⟨rfl, b1⟩; clear HC; have HV := veil (unveil HX V b1); clear HX; obtain ⟨x0, x1, x2, x3, x4, x5, x6, x7, x8, x9, x10⟩ := (unveil HV).2.1.cells; have xf := (unveil HV).2.1.free)
  obtain ⟨W5, hW5, A5, T5⟩ := op_set (unveil HV).2.1 (1) (p) (i) (x) (0) (0)
  rw [← hW5]
  have HW : Hid (aBlock W5 (w.heap.size + 1) (fun _ => 0) ∧ aBlock W5 (w.heap.size + 2) (vec [2, pickedOf a 5, pickedOf b 4, 0, 0, 1, p, i, x, 0, 0]) ∧ Below w.heap.size w W5) := veil ⟨(unveil HV).1.turned T5 (by omega), A5, T5.under (unveil HV).2.2 (by omega)⟩
  clear hW5 A5 T5 HV x0 x1 x2 x3 x4 x5 x6 x7 x8 x9 x10 xf
  have HG : Hid (chk (vec [2, pickedOf a 5, pickedOf b 4, 0, 0, 1, p, i, x, 0, 0]) = 0) := veil (chk_yes (i := 9) rfl (by omega) ((allIn_cons _ _ _ _).2 ⟨⟨(show (0 : Int) ≤ pickedOf a 5 by omega), (show pickedOf a 5 ≤ 4 by omega)⟩, (allIn_cons _ _ _ _).2 ⟨⟨(show (0 : Int) ≤ pickedOf b 4 by omega), (show pickedOf b 4 ≤ 3 by omega)⟩, (allIn_cons _ _ _ _).2 ⟨⟨(show (0 : Int) ≤ p by omega), (show p ≤ 3 by omega)⟩, (allIn_cons _ _ _ _).2 ⟨⟨(show (0 : Int) ≤ i by omega), (show i ≤ 1073741824 by omega)⟩, (allIn_cons _ _ _ _).2 ⟨⟨(show (0 : Int) ≤ x by omega), (show x ≤ 1000000 by omega)⟩, (allIn_nil _).2 trivial⟩⟩⟩⟩⟩) (below11 (fun _ => rfl) (fun h => absurd (by decide) h) (fun h => absurd (by decide) h) (fun _ => rfl) (fun _ => rfl) (fun _ => rfl) (fun h => absurd (by decide) h) (fun h => absurd (by decide) h) (fun h => absurd (by decide) h) (fun _ => rfl) (fun _ => rfl)))
  have xf := (unveil HW).2.1.free
  have zf := (unveil HW).1.free
  obtain ⟨z0, z1, z2, z3, z4, z5, z6, z7, z8, z9, z10⟩ := (unveil HW).1.cells
  obtain ⟨x0, x1, x2, x3, x4, x5, x6, x7, x8, x9, x10⟩ : W5.cell? ⟨w.heap.size + 2, 0, none⟩ = some (.int .i64 (2)) ∧ W5.cell? ⟨w.heap.size + 2, 1, none⟩ = some (.int .i64 (pickedOf a 5)) ∧ W5.cell? ⟨w.heap.size + 2, 2, none⟩ = some (.int .i64 (pickedOf b 4)) ∧ W5.cell? ⟨w.heap.size + 2, 3, none⟩ = some (.int .i64 (0)) ∧ W5.cell? ⟨w.heap.size + 2, 4, none⟩ = some (.int .i64 (0)) ∧ W5.cell? ⟨w.heap.size + 2, 5, none⟩ = some (.int .i64 (1)) ∧ W5.cell? ⟨w.heap.size + 2, 6, none⟩ = some (.int .i64 (p)) ∧ W5.cell? ⟨w.heap.size + 2, 7, none⟩ = some (.int .i64 (i)) ∧ W5.cell? ⟨w.heap.size + 2, 8, none⟩ = some (.int .i64 (x)) ∧ W5.cell? ⟨w.heap.size + 2, 9, none⟩ = some (.int .i64 (0)) ∧ W5.cell? ⟨w.heap.size + 2, 10, none⟩ = some (.int .i64 (0)) := (unveil HW).2.1.cells
  go_upto_region 23 with fail
  go_wp2
  obtain ⟨W7, hW7, d7, b7, _⟩ := a_stored (unveil HW).1 (unveil HW).2.2 (by omega) (2) (pickedOf a 5) (pickedOf b 4) (0) (0) (1) (p) (i) (x) (0) (0)
  rw [← hW7]
  exact bodyPost_ret (ret_Act d7 rfl) rfl ⟨_, rfl, unveil HG, b7⟩
set_option maxRecDepth 20000 in
set_option maxHeartbeats 8000000 in
theorem act_2r (k a b c d : Int) (w : World) (wk : (Lit.int .i64 k).wf = true) (wa : (Lit.int .i64 a).wf = true) (wb : (Lit.int .i64 b).wf = true) (wc : (Lit.int .i64 c).wf = true) (wd : (Lit.int .i64 d).wf = true) (hp : pickedOf k 10 = 1)  (he : evNums c d (wrap64 (d.tdiv 3)) a = [2, 0, 0, 0, 0, 0]) :
    Calls Tryd.prog 37 #[xVal k a b c d] w fun e w' => ∃ f, e = .returned (aVal f) ∧ chk f = 0 ∧ Below w.heap.size w w' := by
  have h1 := pickedOf_range a 5 (by omega)
  have h2 := pickedOf_range b 4 (by omega)
  have HEv : Hid (∀ u, Calls Tryd.prog 52 #[.agg #[.int .i64 c, .int .i64 d, .int .i64 (wrap64 (d.tdiv 3)), .int .i64 a]] u fun e w' => e = .returned (.agg #[.int .i64 (2), .int .i64 (0), .int .i64 (0), .int .i64 (0), .int .i64 (0), .int .i64 (0)]) ∧ Below u.heap.size u w') := veil fun u => by
    have := event_any c d (wrap64 (d.tdiv 3)) a u wc wd (wrap64_wf _) wa
    rw [he] at this
    exact this
  clear he
  go_enter Tryd.func37, Tryd.ntmps37
  go_upto_region 20 with (go_at_call 21; refine (picked_any _ _ _ (by assumption) (by omega) (by omega)).mono ?_; rintro e w' ⟨rfl, rfl⟩; try rw [hp])
  obtain ⟨U, hU⟩ : ∃ U, U = (((w.alloc (.cells #[.int .i64 k, .int .i64 a, .int .i64 b, .int .i64 c, .int .i64 d] 78)).alloc (.cells (aCells fun _ => 0) 27)).alloc (.cells (aCells (vec [2, pickedOf a 5, pickedOf b 4, 0, 0, 0, 0, 0, 0, 0, 0])) 27)) := ⟨_, rfl⟩
  have HU : Hid (aBlock U (w.heap.size + 1) (fun _ => 0) ∧ aBlock U (w.heap.size + 2) (vec [2, pickedOf a 5, pickedOf b 4, 0, 0, 0, 0, 0, 0, 0, 0]) ∧ Below w.heap.size w U) := veil (by
    rw [hU]
    have e1 := (aBlock.new (w.alloc (.cells #[.int .i64 k, .int .i64 a, .int .i64 b, .int .i64 c, .int .i64 d] 78)) (fun _ => 0)).next (below1 _ (.cells (aCells (vec [2, pickedOf a 5, pickedOf b 4, 0, 0, 0, 0, 0, 0, 0, 0])) 27))
    have e2 := aBlock.new ((w.alloc (.cells #[.int .i64 k, .int .i64 a, .int .i64 b, .int .i64 c, .int .i64 d] 78)).alloc (.cells (aCells fun _ => 0) 27)) (vec [2, pickedOf a 5, pickedOf b 4, 0, 0, 0, 0, 0, 0, 0, 0])
    simp only [World.size_alloc] at e1 e2
    exact ⟨e1, e2, Below.next (Below.next (below1 w _) (below1 _ _)) (below1 _ _)⟩)
  have hx : U.heap[w.heap.size]? = some (.cells #[.int .i64 k, .int .i64 a, .int .i64 b, .int .i64 c, .int .i64 d] 78 (0, 0)) := by
    rw [hU]
    exact ((below1 _ _).block _ (by simp; omega)).trans (((below1 _ _).block _ (by simp)).trans (heap_alloc_new w _))
  have y1 : U.cell? ⟨w.heap.size, 1, none⟩ = some (.int .i64 a) := by simp [World.cell?, hx]
  have y3 : U.cell? ⟨w.heap.size, 3, none⟩ = some (.int .i64 c) := by simp [World.cell?, hx]
  have y4 : U.cell? ⟨w.heap.size, 4, none⟩ = some (.int .i64 d) := by simp [World.cell?, hx]
  have hU2 : (((w.alloc (.cells #[.int .i64 k, .int .i64 a, .int .i64 b, .int .i64 c, .int .i64 d] 78)).alloc (.cells #[.int .i64 0, .int .i64 0, .int .i64 0, .int .i64 0, .int .i64 0, .int .i64 0, .int .i64 0, .int .i64 0, .int .i64 0, .int .i64 0, .int .i64 0] 27)).alloc (.cells #[.int .i64 2, .int .i64 (pickedOf a 5), .int .i64 (pickedOf b 4), .int .i64 0, .int .i64 0, .int .i64 0, .int .i64 0, .int .i64 0, .int .i64 0, .int .i64 0, .int .i64 0] 27)) = U := hU.symm
  rw [hU2]
  clear hU hU2 hx
  have HC := unveil HEv U
  clear HEv
  simp only [Nat.add_assoc, Nat.reduceAdd]
  have HX : Hid (∀ V, Below U.heap.size U V → aBlock V (w.heap.size + 1) (fun _ => 0) ∧ aBlock V (w.heap.size + 2) (vec [2, pickedOf a 5, pickedOf b 4, 0, 0, 0, 0, 0, 0, 0, 0]) ∧ Below w.heap.size w V) := veil fun V b => ⟨(unveil HU).1.next b, (unveil HU).2.1.next b, Below.next (unveil HU).2.2 b⟩
  clear HU
  go_upto_region 21 with (go_at_call 52; refine HC.mono ?_; rintro e V ⟨rfl, b1⟩; clear HC; have HV := veil (unveil HX V b1); clear HX; obtain ⟨x0, x1, x2, x3, x4, x5, x6, x7, x8, x9, x10⟩ := (unveil HV).2.1.cells; have xf := (unveil HV).2.1.free)
  obtain ⟨W5, hW5, A5, T5⟩ := op_set (unveil HV).2.1 (2) (0) (0) (0) (0) (0)
  rw [← hW5]
  have HW : Hid (aBlock W5 (w.heap.size + 1) (fun _ => 0) ∧ aBlock W5 (w.heap.size + 2) (vec [2, pickedOf a 5, pickedOf b 4, 0, 0, 2, 0, 0, 0, 0, 0]) ∧ Below w.heap.size w W5) := veil ⟨(unveil HV).1.turned T5 (by omega), A5, T5.under (unveil HV).2.2 (by omega)⟩
  clear hW5 A5 T5 HV x0 x1 x2 x3 x4 x5 x6 x7 x8 x9 x10 xf
  have HG : Hid (chk (vec [2, pickedOf a 5, pickedOf b 4, 0, 0, 2, 0, 0, 0, 0, 0]) = 0) := veil (chk_yes (i := 10) rfl (by omega) ((allIn_cons _ _ _ _).2 ⟨⟨(show (0 : Int) ≤ pickedOf a 5 by omega), (show pickedOf a 5 ≤ 4 by omega)⟩, (allIn_cons _ _ _ _).2 ⟨⟨(show (0 : Int) ≤ pickedOf b 4 by omega), (show pickedOf b 4 ≤ 3 by omega)⟩, (allIn_nil _).2 trivial⟩⟩) (below11 (fun _ => rfl) (fun h => absurd (by decide) h) (fun h => absurd (by decide) h) (fun _ => rfl) (fun _ => rfl) (fun _ => rfl) (fun _ => rfl) (fun _ => rfl) (fun _ => rfl) (fun _ => rfl) (fun _ => rfl)))
  have xf := (unveil HW).2.1.free
  have zf := (unveil HW).1.free
  obtain ⟨z0, z1, z2, z3, z4, z5, z6, z7, z8, z9, z10⟩ := (unveil HW).1.cells
  obtain ⟨x0, x1, x2, x3, x4, x5, x6, x7, x8, x9, x10⟩ : W5.cell? ⟨w.heap.size + 2, 0, none⟩ = some (.int .i64 (2)) ∧ W5.cell? ⟨w.heap.size + 2, 1, none⟩ = some (.int .i64 (pickedOf a 5)) ∧ W5.cell? ⟨w.heap.size + 2, 2, none⟩ = some (.int .i64 (pickedOf b 4)) ∧ W5.cell? ⟨w.heap.size + 2, 3, none⟩ = some (.int .i64 (0)) ∧ W5.cell? ⟨w.heap.size + 2, 4, none⟩ = some (.int .i64 (0)) ∧ W5.cell? ⟨w.heap.size + 2, 5, none⟩ = some (.int .i64 (2)) ∧ W5.cell? ⟨w.heap.size + 2, 6, none⟩ = some (.int .i64 (0)) ∧ W5.cell? ⟨w.heap.size + 2, 7, none⟩ = some (.int .i64 (0)) ∧ W5.cell? ⟨w.heap.size + 2, 8, none⟩ = some (.int .i64 (0)) ∧ W5.cell? ⟨w.heap.size + 2, 9, none⟩ = some (.int .i64 (0)) ∧ W5.cell? ⟨w.heap.size + 2, 10, none⟩ = some (.int .i64 (0)) := (unveil HW).2.1.cells
  go_upto_region 23 with fail
  go_wp2
  obtain ⟨W7, hW7, d7, b7, _⟩ := a_stored (unveil HW).1 (unveil HW).2.2 (by omega) (2) (pickedOf a 5) (pickedOf b 4) (0) (0) (2) (0) (0) (0) (0) (0)
  rw [← hW7]
  exact bodyPost_ret (ret_Act d7 rfl) rfl ⟨_, rfl, unveil HG, b7⟩
set_option maxRecDepth 20000 in
set_option maxHeartbeats 8000000 in
theorem act_2a (k a b c d : Int) (w : World) (wk : (Lit.int .i64 k).wf = true) (wa : (Lit.int .i64 a).wf = true) (wb : (Lit.int .i64 b).wf = true) (wc : (Lit.int .i64 c).wf = true) (wd : (Lit.int .i64 d).wf = true) (hp : pickedOf k 10 = 1) (p i : Int) (q1 : 0 ≤ p ∧ p ≤ 1048576 ∧ 0 ≤ i ∧ i ≤ 1073741824) (he : evNums c d (wrap64 (d.tdiv 3)) a = [3, 0, 0, 0, p, i]) :
    Calls Tryd.prog 37 #[xVal k a b c d] w fun e w' => ∃ f, e = .returned (aVal f) ∧ chk f = 0 ∧ Below w.heap.size w w' := by
  have h1 := pickedOf_range a 5 (by omega)
  have h2 := pickedOf_range b 4 (by omega)
  have HEv : Hid (∀ u, Calls Tryd.prog 52 #[.agg #[.int .i64 c, .int .i64 d, .int .i64 (wrap64 (d.tdiv 3)), .int .i64 a]] u fun e w' => e = .returned (.agg #[.int .i64 (3), .int .i64 (0), .int .i64 (0), .int .i64 (0), .int .i64 (p), .int .i64 (i)]) ∧ Below u.heap.size u w') := veil fun u => by
    have := event_any c d (wrap64 (d.tdiv 3)) a u wc wd (wrap64_wf _) wa
    rw [he] at this
    exact this
  clear he
  go_enter Tryd.func37, Tryd.ntmps37
  go_upto_region 20 with (go_at_call 21; refine (picked_any _ _ _ (by assumption) (by omega) (by omega)).mono ?_; rintro e w' ⟨rfl, rfl⟩; try rw [hp])
  obtain ⟨U, hU⟩ : ∃ U, U = (((w.alloc (.cells #[.int .i64 k, .int .i64 a, .int .i64 b, .int .i64 c, .int .i64 d] 78)).alloc (.cells (aCells fun _ => 0) 27)).alloc (.cells (aCells (vec [2, pickedOf a 5, pickedOf b 4, 0, 0, 0, 0, 0, 0, 0, 0])) 27)) := ⟨_, rfl⟩
  have HU : Hid (aBlock U (w.heap.size + 1) (fun _ => 0) ∧ aBlock U (w.heap.size + 2) (vec [2, pickedOf a 5, pickedOf b 4, 0, 0, 0, 0, 0, 0, 0, 0]) ∧ Below w.heap.size w U) := veil (by
    rw [hU]
    have e1 := (aBlock.new (w.alloc (.cells #[.int .i64 k, .int .i64 a, .int .i64 b, .int .i64 c, .int .i64 d] 78)) (fun _ => 0)).next (below1 _ (.cells (aCells (vec [2, pickedOf a 5, pickedOf b 4, 0, 0, 0, 0, 0, 0, 0, 0])) 27))
    have e2 := aBlock.new ((w.alloc (.cells #[.int .i64 k, .int .i64 a, .int .i64 b, .int .i64 c, .int .i64 d] 78)).alloc (.cells (aCells fun _ => 0) 27)) (vec [2, pickedOf a 5, pickedOf b 4, 0, 0, 0, 0, 0, 0, 0, 0])
    simp only [World.size_alloc] at e1 e2
    exact ⟨e1, e2, Below.next (Below.next (below1 w _) (below1 _ _)) (below1 _ _)⟩)
  have hx : U.heap[w.heap.size]? = some (.cells #[.int .i64 k, .int .i64 a, .int .i64 b, .int .i64 c, .int .i64 d] 78 (0, 0)) := by
    rw [hU]
    exact ((below1 _ _).block _ (by simp; omega)).trans (((below1 _ _).block _ (by simp)).trans (heap_alloc_new w _))
  have y1 : U.cell? ⟨w.heap.size, 1, none⟩ = some (.int .i64 a) := by simp [World.cell?, hx]
  have y3 : U.cell? ⟨w.heap.size, 3, none⟩ = some (.int .i64 c) := by simp [World.cell?, hx]
  have y4 : U.cell? ⟨w.heap.size, 4, none⟩ = some (.int .i64 d) := by simp [World.cell?, hx]
  have hU2 : (((w.alloc (.cells #[.int .i64 k, .int .i64 a, .int .i64 b, .int .i64 c, .int .i64 d] 78)).alloc (.cells #[.int .i64 0, .int .i64 0, .int .i64 0, .int .i64 0, .int .i64 0, .int .i64 0, .int .i64 0, .int .i64 0, .int .i64 0, .int .i64 0, .int .i64 0] 27)).alloc (.cells #[.int .i64 2, .int .i64 (pickedOf a 5), .int .i64 (pickedOf b 4), .int .i64 0, .int .i64 0, .int .i64 0, .int .i64 0, .int .i64 0, .int .i64 0, .int .i64 0, .int .i64 0] 27)) = U := hU.symm
  rw [hU2]
  clear hU hU2 hx
  have HC := unveil HEv U
  clear HEv
  simp only [Nat.add_assoc, Nat.reduceAdd]
  have HX : Hid (∀ V, Below U.heap.size U V → aBlock V (w.heap.size + 1) (fun _ => 0) ∧ aBlock V (w.heap.size + 2) (vec [2, pickedOf a 5, pickedOf b 4, 0, 0, 0, 0, 0, 0, 0, 0]) ∧ Below w.heap.size w V) := veil fun V b => ⟨(unveil HU).1.next b, (unveil HU).2.1.next b, Below.next (unveil HU).2.2 b⟩
  clear HU
  go_upto_region 21 with (go_at_call 52; refine HC.mono ?_; rintro e V ⟨rfl, b1⟩; clear HC; have HV := veil (unveil HX V b1); clear HX; obtain ⟨x0, x1, x2, x3, x4, x5, x6, x7, x8, x9, x10⟩ := (unveil HV).2.1.cells; have xf := (unveil HV).2.1.free)
  obtain ⟨W5, hW5, A5, T5⟩ := op_set (unveil HV).2.1 (3) (0) (0) (0) (p) (i)
  rw [← hW5]
  have HW : Hid (aBlock W5 (w.heap.size + 1) (fun _ => 0) ∧ aBlock W5 (w.heap.size + 2) (vec [2, pickedOf a 5, pickedOf b 4, 0, 0, 3, 0, 0, 0, p, i]) ∧ Below w.heap.size w W5) := veil ⟨(unveil HV).1.turned T5 (by omega), A5, T5.under (unveil HV).2.2 (by omega)⟩
  clear hW5 A5 T5 HV x0 x1 x2 x3 x4 x5 x6 x7 x8 x9 x10 xf
  have HG : Hid (chk (vec [2, pickedOf a 5, pickedOf b 4, 0, 0, 3, 0, 0, 0, p, i]) = 0) := veil (chk_yes (i := 11) rfl (by omega) ((allIn_cons _ _ _ _).2 ⟨⟨(show (0 : Int) ≤ pickedOf a 5 by omega), (show pickedOf a 5 ≤ 4 by omega)⟩, (allIn_cons _ _ _ _).2 ⟨⟨(show (0 : Int) ≤ pickedOf b 4 by omega), (show pickedOf b 4 ≤ 3 by omega)⟩, (allIn_cons _ _ _ _).2 ⟨⟨(show (0 : Int) ≤ p by omega), (show p ≤ 1048576 by omega)⟩, (allIn_cons _ _ _ _).2 ⟨⟨(show (0 : Int) ≤ i by omega), (show i ≤ 1073741824 by omega)⟩, (allIn_nil _).2 trivial⟩⟩⟩⟩) (below11 (fun _ => rfl) (fun h => absurd (by decide) h) (fun h => absurd (by decide) h) (fun _ => rfl) (fun _ => rfl) (fun _ => rfl) (fun _ => rfl) (fun _ => rfl) (fun _ => rfl) (fun h => absurd (by decide) h) (fun h => absurd (by decide) h)))
  have xf := (unveil HW).2.1.free
  have zf := (unveil HW).1.free
  obtain ⟨z0, z1, z2, z3, z4, z5, z6, z7, z8, z9, z10⟩ := (unveil HW).1.cells
  obtain ⟨x0, x1, x2, x3, x4, x5, x6, x7, x8, x9, x10⟩ : W5.cell? ⟨w.heap.size + 2, 0, none⟩ = some (.int .i64 (2)) ∧ W5.cell? ⟨w.heap.size + 2, 1, none⟩ = some (.int .i64 (pickedOf a 5)) ∧ W5.cell? ⟨w.heap.size + 2, 2, none⟩ = some (.int .i64 (pickedOf b 4)) ∧ W5.cell? ⟨w.heap.size + 2, 3, none⟩ = some (.int .i64 (0)) ∧ W5.cell? ⟨w.heap.size + 2, 4, none⟩ = some (.int .i64 (0)) ∧ W5.cell? ⟨w.heap.size + 2, 5, none⟩ = some (.int .i64 (3)) ∧ W5.cell? ⟨w.heap.size + 2, 6, none⟩ = some (.int .i64 (0)) ∧ W5.cell? ⟨w.heap.size + 2, 7, none⟩ = some (.int .i64 (0)) ∧ W5.cell? ⟨w.heap.size + 2, 8, none⟩ = some (.int .i64 (0)) ∧ W5.cell? ⟨w.heap.size + 2, 9, none⟩ = some (.int .i64 (p)) ∧ W5.cell? ⟨w.heap.size + 2, 10, none⟩ = some (.int .i64 (i)) := (unveil HW).2.1.cells
  go_upto_region 23 with fail
  go_wp2
  obtain ⟨W7, hW7, d7, b7, _⟩ := a_stored (unveil HW).1 (unveil HW).2.2 (by omega) (2) (pickedOf a 5) (pickedOf b 4) (0) (0) (3) (0) (0) (0) (p) (i)
  rw [← hW7]
  exact bodyPost_ret (ret_Act d7 rfl) rfl ⟨_, rfl, unveil HG, b7⟩
set_option maxRecDepth 20000 in
set_option maxHeartbeats 8000000 in
theorem act_2b (k a b c d : Int) (w : World) (wk : (Lit.int .i64 k).wf = true) (wa : (Lit.int .i64 a).wf = true) (wb : (Lit.int .i64 b).wf = true) (wc : (Lit.int .i64 c).wf = true) (wd : (Lit.int .i64 d).wf = true) (hp : pickedOf k 10 = 1)  (he : evNums c d (wrap64 (d.tdiv 3)) a = [4, 0, 0, 0, 0, 0]) :
    Calls Tryd.prog 37 #[xVal k a b c d] w fun e w' => ∃ f, e = .returned (aVal f) ∧ chk f = 0 ∧ Below w.heap.size w w' := by
  have h1 := pickedOf_range a 5 (by omega)
  have h2 := pickedOf_range b 4 (by omega)
  have HEv : Hid (∀ u, Calls Tryd.prog 52 #[.agg #[.int .i64 c, .int .i64 d, .int .i64 (wrap64 (d.tdiv 3)), .int .i64 a]] u fun e w' => e = .returned (.agg #[.int .i64 (4), .int .i64 (0), .int .i64 (0), .int .i64 (0), .int .i64 (0), .int .i64 (0)]) ∧ Below u.heap.size u w') := veil fun u => by
    have := event_any c d (wrap64 (d.tdiv 3)) a u wc wd (wrap64_wf _) wa
    rw [he] at this
    exact this
  clear he
  go_enter Tryd.func37, Tryd.ntmps37
  go_upto_region 20 with (go_at_call 21; refine (picked_any _ _ _ (by assumption) (by omega) (by omega)).mono ?_; rintro e w' ⟨rfl, rfl⟩; try rw [hp])
  obtain ⟨U, hU⟩ : ∃ U, U = (((w.alloc (.cells #[.int .i64 k, .int .i64 a, .int .i64 b, .int .i64 c, .int .i64 d] 78)).alloc (.cells (aCells fun _ => 0) 27)).alloc (.cells (aCells (vec [2, pickedOf a 5, pickedOf b 4, 0, 0, 0, 0, 0, 0, 0, 0])) 27)) := ⟨_, rfl⟩
  have HU : Hid (aBlock U (w.heap.size + 1) (fun _ => 0) ∧ aBlock U (w.heap.size + 2) (vec [2, pickedOf a 5, pickedOf b 4, 0, 0, 0, 0, 0, 0, 0, 0]) ∧ Below w.heap.size w U) := veil (by
    rw [hU]
    have e1 := (aBlock.new (w.alloc (.cells #[.int .i64 k, .int .i64 a, .int .i64 b, .int .i64 c, .int .i64 d] 78)) (fun _ => 0)).next (below1 _ (.cells (aCells (vec [2, pickedOf a 5, pickedOf b 4, 0, 0, 0, 0, 0, 0, 0, 0])) 27))
    have e2 := aBlock.new ((w.alloc (.cells #[.int .i64 k, .int .i64 a, .int .i64 b, .int .i64 c, .int .i64 d] 78)).alloc (.cells (aCells fun _ => 0) 27)) (vec [2, pickedOf a 5, pickedOf b 4, 0, 0, 0, 0, 0, 0, 0, 0])
    simp only [World.size_alloc] at e1 e2
    exact ⟨e1, e2, Below.next (Below.next (below1 w _) (below1 _ _)) (below1 _ _)⟩)
  have hx : U.heap[w.heap.size]? = some (.cells #[.int .i64 k, .int .i64 a, .int .i64 b, .int .i64 c, .int .i64 d] 78 (0, 0)) := by
    rw [hU]
    exact ((below1 _ _).block _ (by simp; omega)).trans (((below1 _ _).block _ (by simp)).trans (heap_alloc_new w _))
  have y1 : U.cell? ⟨w.heap.size, 1, none⟩ = some (.int .i64 a) := by simp [World.cell?, hx]
  have y3 : U.cell? ⟨w.heap.size, 3, none⟩ = some (.int .i64 c) := by simp [World.cell?, hx]
  have y4 : U.cell? ⟨w.heap.size, 4, none⟩ = some (.int .i64 d) := by simp [World.cell?, hx]
  have hU2 : (((w.alloc (.cells #[.int .i64 k, .int .i64 a, .int .i64 b, .int .i64 c, .int .i64 d] 78)).alloc (.cells #[.int .i64 0, .int .i64 0, .int .i64 0, .int .i64 0, .int .i64 0, .int .i64 0, .int .i64 0, .int .i64 0, .int .i64 0, .int .i64 0, .int .i64 0] 27)).alloc (.cells #[.int .i64 2, .int .i64 (pickedOf a 5), .int .i64 (pickedOf b 4), .int .i64 0, .int .i64 0, .int .i64 0, .int .i64 0, .int .i64 0, .int .i64 0, .int .i64 0, .int .i64 0] 27)) = U := hU.symm
  rw [hU2]
  clear hU hU2 hx
  have HC := unveil HEv U
  clear HEv
  simp only [Nat.add_assoc, Nat.reduceAdd]
  have HX : Hid (∀ V, Below U.heap.size U V → aBlock V (w.heap.size + 1) (fun _ => 0) ∧ aBlock V (w.heap.size + 2) (vec [2, pickedOf a 5, pickedOf b 4, 0, 0, 0, 0, 0, 0, 0, 0]) ∧ Below w.heap.size w V) := veil fun V b => ⟨(unveil HU).1.next b, (unveil HU).2.1.next b, Below.next (unveil HU).2.2 b⟩
  clear HU
  go_upto_region 21 with (go_at_call 52; refine HC.mono ?_; rintro e V ⟨rfl, b1⟩; clear HC; have HV := veil (unveil HX V b1); clear HX; obtain ⟨x0, x1, x2, x3, x4, x5, x6, x7, x8, x9, x10⟩ := (unveil HV).2.1.cells; have xf := (unveil HV).2.1.free)
  obtain ⟨W5, hW5, A5, T5⟩ := op_set (unveil HV).2.1 (4) (0) (0) (0) (0) (0)
  rw [← hW5]
  have HW : Hid (aBlock W5 (w.heap.size + 1) (fun _ => 0) ∧ aBlock W5 (w.heap.size + 2) (vec [2, pickedOf a 5, pickedOf b 4, 0, 0, 4, 0, 0, 0, 0, 0]) ∧ Below w.heap.size w W5) := veil ⟨(unveil HV).1.turned T5 (by omega), A5, T5.under (unveil HV).2.2 (by omega)⟩
  clear hW5 A5 T5 HV x0 x1 x2 x3 x4 x5 x6 x7 x8 x9 x10 xf
  have HG : Hid (chk (vec [2, pickedOf a 5, pickedOf b 4, 0, 0, 2, 0, 0, 0, 0, 0]) = 0) := veil (chk_yes (i := 10) rfl (by omega) ((allIn_cons _ _ _ _).2 ⟨⟨(show (0 : Int) ≤ pickedOf a 5 by omega), (show pickedOf a 5 ≤ 4 by omega)⟩, (allIn_cons _ _ _ _).2 ⟨⟨(show (0 : Int) ≤ pickedOf b 4 by omega), (show pickedOf b 4 ≤ 3 by omega)⟩, (allIn_nil _).2 trivial⟩⟩) (below11 (fun _ => rfl) (fun h => absurd (by decide) h) (fun h => absurd (by decide) h) (fun _ => rfl) (fun _ => rfl) (fun _ => rfl) (fun _ => rfl) (fun _ => rfl) (fun _ => rfl) (fun _ => rfl) (fun _ => rfl)))
  have xf := (unveil HW).2.1.free
  have zf := (unveil HW).1.free
  obtain ⟨z0, z1, z2, z3, z4, z5, z6, z7, z8, z9, z10⟩ := (unveil HW).1.cells
  obtain ⟨x0, x1, x2, x3, x4, x5, x6, x7, x8, x9, x10⟩ : W5.cell? ⟨w.heap.size + 2, 0, none⟩ = some (.int .i64 (2)) ∧ W5.cell? ⟨w.heap.size + 2, 1, none⟩ = some (.int .i64 (pickedOf a 5)) ∧ W5.cell? ⟨w.heap.size + 2, 2, none⟩ = some (.int .i64 (pickedOf b 4)) ∧ W5.cell? ⟨w.heap.size + 2, 3, none⟩ = some (.int .i64 (0)) ∧ W5.cell? ⟨w.heap.size + 2, 4, none⟩ = some (.int .i64 (0)) ∧ W5.cell? ⟨w.heap.size + 2, 5, none⟩ = some (.int .i64 (4)) ∧ W5.cell? ⟨w.heap.size + 2, 6, none⟩ = some (.int .i64 (0)) ∧ W5.cell? ⟨w.heap.size + 2, 7, none⟩ = some (.int .i64 (0)) ∧ W5.cell? ⟨w.heap.size + 2, 8, none⟩ = some (.int .i64 (0)) ∧ W5.cell? ⟨w.heap.size + 2, 9, none⟩ = some (.int .i64 (0)) ∧ W5.cell? ⟨w.heap.size + 2, 10, none⟩ = some (.int .i64 (0)) := (unveil HW).2.1.cells
  go_upto_region 23 with fail
  obtain ⟨W6, hW6, A6, R6, B6⟩ : ∃ W6, W6 = W5.setCell ⟨w.heap.size + 2, 5, none⟩ (.int .i64 2) ∧ aBlock W6 (w.heap.size + 2) (vec [2, pickedOf a 5, pickedOf b 4, 0, 0, 2, 0, 0, 0, 0, 0]) ∧ aBlock W6 (w.heap.size + 1) (fun _ => 0) ∧ Below w.heap.size w W6 := ⟨_, rfl, ((unveil HW).2.1.put 5 (by omega) 2).ext (below11 rfl rfl rfl rfl rfl rfl rfl rfl rfl rfl rfl), (unveil HW).1.turned (Turned.set _ 5 _ _) (by omega), (Turned.set _ 5 _ _).under (unveil HW).2.2 (by omega)⟩
  rw [← hW6]
  clear hW6 xf zf x0 x1 x2 x3 x4 x5 x6 x7 x8 x9 x10 z0 z1 z2 z3 z4 z5 z6 z7 z8 z9 z10
  have xf := A6.free
  have zf := R6.free
  obtain ⟨z0, z1, z2, z3, z4, z5, z6, z7, z8, z9, z10⟩ := R6.cells
  obtain ⟨x0, x1, x2, x3, x4, x5, x6, x7, x8, x9, x10⟩ : W6.cell? ⟨w.heap.size + 2, 0, none⟩ = some (.int .i64 (2)) ∧ W6.cell? ⟨w.heap.size + 2, 1, none⟩ = some (.int .i64 (pickedOf a 5)) ∧ W6.cell? ⟨w.heap.size + 2, 2, none⟩ = some (.int .i64 (pickedOf b 4)) ∧ W6.cell? ⟨w.heap.size + 2, 3, none⟩ = some (.int .i64 (0)) ∧ W6.cell? ⟨w.heap.size + 2, 4, none⟩ = some (.int .i64 (0)) ∧ W6.cell? ⟨w.heap.size + 2, 5, none⟩ = some (.int .i64 (2)) ∧ W6.cell? ⟨w.heap.size + 2, 6, none⟩ = some (.int .i64 (0)) ∧ W6.cell? ⟨w.heap.size + 2, 7, none⟩ = some (.int .i64 (0)) ∧ W6.cell? ⟨w.heap.size + 2, 8, none⟩ = some (.int .i64 (0)) ∧ W6.cell? ⟨w.heap.size + 2, 9, none⟩ = some (.int .i64 (0)) ∧ W6.cell? ⟨w.heap.size + 2, 10, none⟩ = some (.int .i64 (0)) := A6.cells
  go_wp2
  obtain ⟨W7, hW7, d7, b7, _⟩ := a_stored R6 B6 (by omega) (2) (pickedOf a 5) (pickedOf b 4) (0) (0) (2) (0) (0) (0) (0) (0)
  rw [← hW7]
  exact bodyPost_ret (ret_Act d7 rfl) rfl ⟨_, rfl, unveil HG, b7⟩
theorem act_any (k a b c d : Int) (w : World) (wk : (Lit.int .i64 k).wf = true) (wa : (Lit.int .i64 a).wf = true) (wb : (Lit.int .i64 b).wf = true) (wc : (Lit.int .i64 c).wf = true) (wd : (Lit.int .i64 d).wf = true) :
    Calls Tryd.prog 37 #[xVal k a b c d] w fun e w' => ∃ f, e = .returned (aVal f) ∧ chk f = 0 ∧ Below w.heap.size w w' := by
  have hr := pickedOf_range k 10 (by omega)
  have hp : pickedOf k 10 = 0 ∨ pickedOf k 10 = 1 ∨ pickedOf k 10 = 2 ∨ pickedOf k 10 = 3 ∨ pickedOf k 10 = 4 ∨ pickedOf k 10 = 5 ∨ pickedOf k 10 = 6 ∨ pickedOf k 10 = 7 ∨ pickedOf k 10 = 8 ∨ pickedOf k 10 = 9 := by omega
  rcases hp with h | h | h | h | h | h | h | h | h | h
  · exact act_1 k a b c d w wk wa wb h
  · rcases evNums_cases c d (wrap64 (d.tdiv 3)) a with ⟨p, i, x, he, q1⟩ | he | ⟨p, i, he, q1⟩ | he
    · exact act_2p k a b c d w wk wa wb wc wd h p i x q1 he
    · exact act_2r k a b c d w wk wa wb wc wd h he
    · exact act_2a k a b c d w wk wa wb wc wd h p i q1 he
    · exact act_2b k a b c d w wk wa wb wc wd h he
  · exact act_3 k a b c d w wk wa wb h
  · exact act_4 k a b c d w wk wa wb h
  · exact act_5 k a b c d w wk wa wb h
  · exact act_6 k a b c d w wk wa wb h
  · exact act_7 k a b c d w wk wa wb h
  · exact act_8 k a b c d w wk wa wb h
  · exact act_9 k a b c d w wk wa wb h
  · exact act_10 k a b c d w wk wa wb h
end Go.Proofs.YtekbdkppnjnaaaaDoor
