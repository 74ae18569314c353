/- Walk of the document's actOf. -/
import Derived.Test.YtekbdkppnjnaaaaDoorLnJ
namespace Go.Proofs.YtekbdkppnjnaaaaDoor
open Go.RowKit

theorem iRow.at {w : World} {base : Nat} {v : Value} {l : List Int} (h : iRow w base v l) (h0 : 0 < l.length) : ∃ G c, v = .slice (some ⟨G, 0, none⟩) l.length c ∧ base ≤ G ∧ G < w.heap.size ∧ (∀ k (hk : k < l.length), w.cell? ⟨G, k, none⟩ = some (.int .i64 l[k])) ∧ l.length ≤ c := by
  obtain ⟨hl, h2⟩ := id h
  rcases h2 with ⟨_, h0⟩ | ⟨G, c, cur, rfl, hb, hg, hc, _, _, _⟩
  · omega
  · refine ⟨G, c, rfl, hb, block_lt hg, fun k hk => ?_, hc⟩
    rw [h.cellAt k (by omega), List.getElem?_map, List.getElem?_eq_getElem hk]
    rfl
/-- the boxes of actOf: the bare act, the answer, the act on its way. -/
structure Ow (w wx : World) (f x : Nat → Int) : Prop where
  a : aBlock wx w.heap.size f
  r : aBlock wx (w.heap.size + 1) (fun _ => 0)
  x : aBlock wx (w.heap.size + 2) x
  bel : Below w.heap.size w wx
theorem Ow.next {w wx wy : World} {f x : Nat → Int} (p : Ow w wx f x) (b : Below wx.heap.size wx wy) : Ow w wy f x := ⟨p.a.next b, p.r.next b, p.x.next b, Below.next p.bel b⟩
theorem Ow.put {w wx : World} {f x : Nat → Int} (p : Ow w wx f x) (o : Nat) (ho : o < 11) (v : Int) : Ow w (wx.setCell ⟨w.heap.size + 2, o, none⟩ (.int .i64 v)) f (put1 x o v) :=
  ⟨p.a.turned (Turned.set _ _ _ _) (by omega), p.r.turned (Turned.set _ _ _ _) (by omega), p.x.put o ho v, (Turned.set _ _ _ _).under p.bel (by omega)⟩
theorem Ow.old {w wx : World} {f x : Nat → Int} (p : Ow w wx f x) {G k : Nat} {v : Value} (hG : G < w.heap.size) (h : w.cell? ⟨G, k, none⟩ = some v) : wx.cell? ⟨G, k, none⟩ = some v :=
  (p.bel.cell (p := ⟨G, k, none⟩) hG).trans h
theorem Ow.first (w : World) (f : Nat → Int) (a o : Int) : Ow w (((w.alloc (.cells (aCells f) 27)).alloc (.cells (aCells fun _ => 0) 27)).alloc (.cells (aCells (vec [a, 0, 0, 0, 0, o, 0, 0, 0, 0, 0])) 27)) f (vec [a, 0, 0, 0, 0, o, 0, 0, 0, 0, 0]) := by
  have h1 := aBlock.new (w.alloc (.cells (aCells f) 27)) (fun _ => 0)
  have h2 := aBlock.new ((w.alloc (.cells (aCells f) 27)).alloc (.cells (aCells fun _ => 0) 27)) (vec [a, 0, 0, 0, 0, o, 0, 0, 0, 0, 0])
  simp only [World.size_alloc] at h1 h2
  exact ⟨((aBlock.new w f).next (below1 _ _)).next (below1 _ _), h1.next (below1 _ _), h2, Below.next (below2 _ _ _) (below1 _ _)⟩
theorem Ow.ext {w wx : World} {f x y : Nat → Int} (p : Ow w wx f x) (e : ∀ i, i < 11 → x i = y i) : Ow w wx f y := ⟨p.a, p.r, p.x.ext e, p.bel⟩
theorem ret_actOf {W : World} {R : Nat} {h : Nat → Int} {tmps : Array Value} (d : aBlock W R h) (t4 : tmps[4]? = some (.pointer (some ⟨R, 0, none⟩))) :
    (results Tryd.f29 tmps).run Tryd.prog W = .ok (aVal h) W := by
  simp [results, Tryd.results29, t4, asAddr, load_act d]
set_option maxRecDepth 20000 in
set_option maxHeartbeats 2000000 in
theorem refActOf_0 (f h : Nat → Int) (base : Nat) (v : Value) (w : World) (hi : kno (f 0) (f 5) = 0) (hr : iRow w base v ((noffs 0).map h)) : Calls Tryd.prog 29 #[aVal f, v] w fun e w' => e = .returned (aVal (over (noffs 0) (bareK 0) h)) ∧ Below w.heap.size w w' := by
  have HA : Hid (kact 0 = f 0 ∧ (f 0 = 2 → kop 0 = f 5)) := veil (by obtain ⟨h1, h2, _⟩ := kno_act (f 0) (f 5) (by omega); rw [hi] at h1 h2; exact ⟨h1, h2⟩)
  have HC : Hid (∀ u, Calls Tryd.prog 26 #[aVal f] u fun e w' => e = .returned (.string ⟨#[109, 97, 107, 101]⟩) ∧ Below u.heap.size u w') := veil fun u => by
    have := actWord_any f u
    rw [hi] at this
    exact this
  clear hi
  obtain ⟨G, c, rfl, _, hG, hy, hc⟩ := hr.at (by rw [List.length_map]; decide)
  have hc' : 2 ≤ c := hc
  have hG2 : G ≠ w.heap.size + 2 := by omega
  have HY : Hid (∀ u f x, Ow w u f x → u.cell? ⟨G, 0, none⟩ = some (.int .i64 (h 2)) ∧ u.cell? ⟨G, 1, none⟩ = some (.int .i64 (h 1))) := veil fun u f x p => ⟨p.old hG (hy 0 (by rw [List.length_map]; decide)), p.old hG (hy 1 (by rw [List.length_map]; decide))⟩
  clear hr hy hc hG
  rw [show ((noffs 0).map h).length = 2 by rfl]
  have HX := veil (Ow.first w f (f 0) (f 5))
  obtain ⟨x0, x1, x2, x3, x4, x5, x6, x7, x8, x9, x10⟩ := (aBlock.new w f).cells
  go_enter Tryd.func29, Tryd.ntmps29
  go_upto_region 2 with fail
  obtain ⟨W1, hW1⟩ : ∃ W1, W1 = ((w.alloc (.cells (aCells f) 27)).alloc (.cells (aCells fun _ => 0) 27)).alloc (.cells (aCells (vec [f 0, 0, 0, 0, 0, f 5, 0, 0, 0, 0, 0])) 27) := ⟨_, rfl⟩
  rw [← hW1] at HX
  have hW1' : W1 = ((w.alloc (.cells (aCells f) 27)).alloc (.cells #[.int .i64 0, .int .i64 0, .int .i64 0, .int .i64 0, .int .i64 0, .int .i64 0, .int .i64 0, .int .i64 0, .int .i64 0, .int .i64 0, .int .i64 0] 27)).alloc (.cells #[.int .i64 (f 0), .int .i64 0, .int .i64 0, .int .i64 0, .int .i64 0, .int .i64 (f 5), .int .i64 0, .int .i64 0, .int .i64 0, .int .i64 0, .int .i64 0] 27) := hW1
  rw [← hW1']
  clear hW1 hW1' x0 x1 x2 x3 x4 x5 x6 x7 x8 x9 x10
  obtain ⟨x0, x1, x2, x3, x4, x5, x6, x7, x8, x9, x10⟩ := (unveil HX).a.cells
  have H1 := unveil HC W1
  go_upto_region 3 with (go_at_call 26; refine H1.mono ?_; rintro e V1 ⟨rfl, b1⟩; clear H1 x0 x1 x2 x3 x4 x5 x6 x7 x8 x9 x10)
  have p1 := (unveil HX).next b1
  clear HX b1
  obtain ⟨y0, y1⟩ := unveil HY _ _ _ p1
  have z2 : V1.cell? ⟨w.heap.size + 2, 2, none⟩ = some (.int .i64 0) := p1.x.cell 2 (by omega)
  have z1 : V1.cell? ⟨w.heap.size + 2, 1, none⟩ = some (.int .i64 0) := p1.x.cell 1 (by omega)
  have zf := p1.x.free
  go_upto_region 22 with fail
  obtain ⟨U1, hU1, q1⟩ : ∃ U, U = ((V1.setCell ⟨w.heap.size + 2, 2, none⟩ (.int .i64 (h 2))).setCell ⟨w.heap.size + 2, 1, none⟩ (.int .i64 (h 1))) ∧ Ow w U f (vec [f 0, h 1, h 2, 0, 0, f 5, 0, 0, 0, 0, 0]) := ⟨_, rfl, ((p1.put 2 (by omega) (h 2)).put 1 (by omega) (h 1)).ext (below11 rfl rfl rfl rfl rfl rfl rfl rfl rfl rfl rfl)⟩
  rw [← hU1]
  clear hU1 zf y0 y1 z2 z1
  clear p1
  have H2 := unveil HC U1
  obtain ⟨x0, x1, x2, x3, x4, x5, x6, x7, x8, x9, x10⟩ := q1.a.cells
  go_upto_region 26 with (first | (go_at_call 26; refine H2.mono ?_; rintro e V2 ⟨rfl, b2⟩; clear H2 x0 x1 x2 x3 x4 x5 x6 x7 x8 x9 x10))
  have p2 := q1.next b2
  clear q1 b2
  obtain ⟨U2, hU2, q2⟩ : ∃ U, U = V2 ∧ Ow w U f (vec [f 0, h 1, h 2, 0, 0, f 5, 0, 0, 0, 0, 0]) := ⟨_, rfl, p2⟩
  rw [← hU2]
  clear hU2 p2
  have H3 := unveil HC U2
  obtain ⟨x0, x1, x2, x3, x4, x5, x6, x7, x8, x9, x10⟩ := q2.a.cells
  go_upto_region 28 with (first | (go_at_call 26; refine H3.mono ?_; rintro e V3 ⟨rfl, b3⟩; clear H3 x0 x1 x2 x3 x4 x5 x6 x7 x8 x9 x10))
  have p3 := q2.next b3
  clear q2 b3
  obtain ⟨U3, hU3, q3⟩ : ∃ U, U = V3 ∧ Ow w U f (vec [f 0, h 1, h 2, 0, 0, f 5, 0, 0, 0, 0, 0]) := ⟨_, rfl, p3⟩
  rw [← hU3]
  clear hU3 p3
  have z0 : U3.cell? ⟨w.heap.size + 2, 0, none⟩ = some (.int .i64 (f 0)) := q3.x.cell 0 (by omega)
  have z1 : U3.cell? ⟨w.heap.size + 2, 1, none⟩ = some (.int .i64 (h 1)) := q3.x.cell 1 (by omega)
  have z2 : U3.cell? ⟨w.heap.size + 2, 2, none⟩ = some (.int .i64 (h 2)) := q3.x.cell 2 (by omega)
  have z3 : U3.cell? ⟨w.heap.size + 2, 3, none⟩ = some (.int .i64 0) := q3.x.cell 3 (by omega)
  have z4 : U3.cell? ⟨w.heap.size + 2, 4, none⟩ = some (.int .i64 0) := q3.x.cell 4 (by omega)
  have z5 : U3.cell? ⟨w.heap.size + 2, 5, none⟩ = some (.int .i64 (f 5)) := q3.x.cell 5 (by omega)
  have z6 : U3.cell? ⟨w.heap.size + 2, 6, none⟩ = some (.int .i64 0) := q3.x.cell 6 (by omega)
  have z7 : U3.cell? ⟨w.heap.size + 2, 7, none⟩ = some (.int .i64 0) := q3.x.cell 7 (by omega)
  have z8 : U3.cell? ⟨w.heap.size + 2, 8, none⟩ = some (.int .i64 0) := q3.x.cell 8 (by omega)
  have z9 : U3.cell? ⟨w.heap.size + 2, 9, none⟩ = some (.int .i64 0) := q3.x.cell 9 (by omega)
  have z10 : U3.cell? ⟨w.heap.size + 2, 10, none⟩ = some (.int .i64 0) := q3.x.cell 10 (by omega)
  have zf := q3.x.free
  obtain ⟨r0, r1, r2, r3, r4, r5, r6, r7, r8, r9, r10⟩ := q3.r.cells
  have rf := q3.r.free
  have g0 : (f 0 != 2) = true := by rw [← (unveil HA).1]; decide
  go_wp2
  have q4 := (q3.put 5 (by omega) 0).ext (y := vec [f 0, h 1, h 2, 0, 0, 0, 0, 0, 0, 0, 0]) (below11 rfl rfl rfl rfl rfl rfl rfl rfl rfl rfl rfl)
  obtain ⟨W5, hW5, d5, b5, _⟩ := a_stored q4.r q4.bel (by omega) (f 0) (h 1) (h 2) (0) (0) (0) (0) (0) (0) (0) (0)
  rw [← hW5]
  refine bodyPost_ret (ret_actOf d5 rfl) rfl ⟨?_, b5⟩
  have h0 := (unveil HA).1
  have h5 := (unveil HA).2
  refine congrArg Ending.returned (aVal_ext (below11 ?_ ?_ ?_ ?_ ?_ ?_ ?_ ?_ ?_ ?_ ?_)) <;> first
    | rfl
    | exact h0.symm
    | exact (h5 (h0.symm.trans rfl)).symm
set_option maxRecDepth 20000 in
set_option maxHeartbeats 2000000 in
theorem refActOf_1 (f h : Nat → Int) (base : Nat) (v : Value) (w : World) (hi : kno (f 0) (f 5) = 1) (hr : iRow w base v ((noffs 1).map h)) : Calls Tryd.prog 29 #[aVal f, v] w fun e w' => e = .returned (aVal (over (noffs 1) (bareK 1) h)) ∧ Below w.heap.size w w' := by
  have HA : Hid (kact 1 = f 0 ∧ (f 0 = 2 → kop 1 = f 5)) := veil (by obtain ⟨h1, h2, _⟩ := kno_act (f 0) (f 5) (by omega); rw [hi] at h1 h2; exact ⟨h1, h2⟩)
  have HC : Hid (∀ u, Calls Tryd.prog 26 #[aVal f] u fun e w' => e = .returned (.string ⟨#[109, 111, 118, 101]⟩) ∧ Below u.heap.size u w') := veil fun u => by
    have := actWord_any f u
    rw [hi] at this
    exact this
  clear hi
  obtain ⟨G, c, rfl, _, hG, hy, hc⟩ := hr.at (by rw [List.length_map]; decide)
  have hc' : 2 ≤ c := hc
  have hG2 : G ≠ w.heap.size + 2 := by omega
  have HY : Hid (∀ u f x, Ow w u f x → u.cell? ⟨G, 0, none⟩ = some (.int .i64 (h 2)) ∧ u.cell? ⟨G, 1, none⟩ = some (.int .i64 (h 1))) := veil fun u f x p => ⟨p.old hG (hy 0 (by rw [List.length_map]; decide)), p.old hG (hy 1 (by rw [List.length_map]; decide))⟩
  clear hr hy hc hG
  rw [show ((noffs 1).map h).length = 2 by rfl]
  have HX := veil (Ow.first w f (f 0) (f 5))
  obtain ⟨x0, x1, x2, x3, x4, x5, x6, x7, x8, x9, x10⟩ := (aBlock.new w f).cells
  go_enter Tryd.func29, Tryd.ntmps29
  go_upto_region 2 with fail
  obtain ⟨W1, hW1⟩ : ∃ W1, W1 = ((w.alloc (.cells (aCells f) 27)).alloc (.cells (aCells fun _ => 0) 27)).alloc (.cells (aCells (vec [f 0, 0, 0, 0, 0, f 5, 0, 0, 0, 0, 0])) 27) := ⟨_, rfl⟩
  rw [← hW1] at HX
  have hW1' : W1 = ((w.alloc (.cells (aCells f) 27)).alloc (.cells #[.int .i64 0, .int .i64 0, .int .i64 0, .int .i64 0, .int .i64 0, .int .i64 0, .int .i64 0, .int .i64 0, .int .i64 0, .int .i64 0, .int .i64 0] 27)).alloc (.cells #[.int .i64 (f 0), .int .i64 0, .int .i64 0, .int .i64 0, .int .i64 0, .int .i64 (f 5), .int .i64 0, .int .i64 0, .int .i64 0, .int .i64 0, .int .i64 0] 27) := hW1
  rw [← hW1']
  clear hW1 hW1' x0 x1 x2 x3 x4 x5 x6 x7 x8 x9 x10
  obtain ⟨x0, x1, x2, x3, x4, x5, x6, x7, x8, x9, x10⟩ := (unveil HX).a.cells
  have H1 := unveil HC W1
  go_upto_region 3 with (go_at_call 26; refine H1.mono ?_; rintro e V1 ⟨rfl, b1⟩; clear H1 x0 x1 x2 x3 x4 x5 x6 x7 x8 x9 x10)
  have p1 := (unveil HX).next b1
  clear HX b1
  obtain ⟨y0, y1⟩ := unveil HY _ _ _ p1
  have z2 : V1.cell? ⟨w.heap.size + 2, 2, none⟩ = some (.int .i64 0) := p1.x.cell 2 (by omega)
  have z1 : V1.cell? ⟨w.heap.size + 2, 1, none⟩ = some (.int .i64 0) := p1.x.cell 1 (by omega)
  have zf := p1.x.free
  go_upto_region 22 with fail
  obtain ⟨U1, hU1, q1⟩ : ∃ U, U = ((V1.setCell ⟨w.heap.size + 2, 2, none⟩ (.int .i64 (h 2))).setCell ⟨w.heap.size + 2, 1, none⟩ (.int .i64 (h 1))) ∧ Ow w U f (vec [f 0, h 1, h 2, 0, 0, f 5, 0, 0, 0, 0, 0]) := ⟨_, rfl, ((p1.put 2 (by omega) (h 2)).put 1 (by omega) (h 1)).ext (below11 rfl rfl rfl rfl rfl rfl rfl rfl rfl rfl rfl)⟩
  rw [← hU1]
  clear hU1 zf y0 y1 z2 z1
  clear p1
  have H2 := unveil HC U1
  obtain ⟨x0, x1, x2, x3, x4, x5, x6, x7, x8, x9, x10⟩ := q1.a.cells
  go_upto_region 26 with (first | (go_at_call 26; refine H2.mono ?_; rintro e V2 ⟨rfl, b2⟩; clear H2 x0 x1 x2 x3 x4 x5 x6 x7 x8 x9 x10))
  have p2 := q1.next b2
  clear q1 b2
  obtain ⟨U2, hU2, q2⟩ : ∃ U, U = V2 ∧ Ow w U f (vec [f 0, h 1, h 2, 0, 0, f 5, 0, 0, 0, 0, 0]) := ⟨_, rfl, p2⟩
  rw [← hU2]
  clear hU2 p2
  have H3 := unveil HC U2
  obtain ⟨x0, x1, x2, x3, x4, x5, x6, x7, x8, x9, x10⟩ := q2.a.cells
  go_upto_region 28 with (first | (go_at_call 26; refine H3.mono ?_; rintro e V3 ⟨rfl, b3⟩; clear H3 x0 x1 x2 x3 x4 x5 x6 x7 x8 x9 x10))
  have p3 := q2.next b3
  clear q2 b3
  obtain ⟨U3, hU3, q3⟩ : ∃ U, U = V3 ∧ Ow w U f (vec [f 0, h 1, h 2, 0, 0, f 5, 0, 0, 0, 0, 0]) := ⟨_, rfl, p3⟩
  rw [← hU3]
  clear hU3 p3
  have z0 : U3.cell? ⟨w.heap.size + 2, 0, none⟩ = some (.int .i64 (f 0)) := q3.x.cell 0 (by omega)
  have z1 : U3.cell? ⟨w.heap.size + 2, 1, none⟩ = some (.int .i64 (h 1)) := q3.x.cell 1 (by omega)
  have z2 : U3.cell? ⟨w.heap.size + 2, 2, none⟩ = some (.int .i64 (h 2)) := q3.x.cell 2 (by omega)
  have z3 : U3.cell? ⟨w.heap.size + 2, 3, none⟩ = some (.int .i64 0) := q3.x.cell 3 (by omega)
  have z4 : U3.cell? ⟨w.heap.size + 2, 4, none⟩ = some (.int .i64 0) := q3.x.cell 4 (by omega)
  have z5 : U3.cell? ⟨w.heap.size + 2, 5, none⟩ = some (.int .i64 (f 5)) := q3.x.cell 5 (by omega)
  have z6 : U3.cell? ⟨w.heap.size + 2, 6, none⟩ = some (.int .i64 0) := q3.x.cell 6 (by omega)
  have z7 : U3.cell? ⟨w.heap.size + 2, 7, none⟩ = some (.int .i64 0) := q3.x.cell 7 (by omega)
  have z8 : U3.cell? ⟨w.heap.size + 2, 8, none⟩ = some (.int .i64 0) := q3.x.cell 8 (by omega)
  have z9 : U3.cell? ⟨w.heap.size + 2, 9, none⟩ = some (.int .i64 0) := q3.x.cell 9 (by omega)
  have z10 : U3.cell? ⟨w.heap.size + 2, 10, none⟩ = some (.int .i64 0) := q3.x.cell 10 (by omega)
  have zf := q3.x.free
  obtain ⟨r0, r1, r2, r3, r4, r5, r6, r7, r8, r9, r10⟩ := q3.r.cells
  have rf := q3.r.free
  have g0 : (f 0 != 2) = true := by rw [← (unveil HA).1]; decide
  go_wp2
  have q4 := (q3.put 5 (by omega) 0).ext (y := vec [f 0, h 1, h 2, 0, 0, 0, 0, 0, 0, 0, 0]) (below11 rfl rfl rfl rfl rfl rfl rfl rfl rfl rfl rfl)
  obtain ⟨W5, hW5, d5, b5, _⟩ := a_stored q4.r q4.bel (by omega) (f 0) (h 1) (h 2) (0) (0) (0) (0) (0) (0) (0) (0)
  rw [← hW5]
  refine bodyPost_ret (ret_actOf d5 rfl) rfl ⟨?_, b5⟩
  have h0 := (unveil HA).1
  have h5 := (unveil HA).2
  refine congrArg Ending.returned (aVal_ext (below11 ?_ ?_ ?_ ?_ ?_ ?_ ?_ ?_ ?_ ?_ ?_)) <;> first
    | rfl
    | exact h0.symm
    | exact (h5 (h0.symm.trans rfl)).symm
set_option maxRecDepth 20000 in
set_option maxHeartbeats 2000000 in
theorem refActOf_2 (f h : Nat → Int) (base : Nat) (v : Value) (w : World) (hi : kno (f 0) (f 5) = 2) (hr : iRow w base v ((noffs 2).map h)) : Calls Tryd.prog 29 #[aVal f, v] w fun e w' => e = .returned (aVal (over (noffs 2) (bareK 2) h)) ∧ Below w.heap.size w w' := by
  have HA : Hid (kact 2 = f 0 ∧ (f 0 = 2 → kop 2 = f 5)) := veil (by obtain ⟨h1, h2, _⟩ := kno_act (f 0) (f 5) (by omega); rw [hi] at h1 h2; exact ⟨h1, h2⟩)
  have HC : Hid (∀ u, Calls Tryd.prog 26 #[aVal f] u fun e w' => e = .returned (.string ⟨#[115, 116, 101, 112]⟩) ∧ Below u.heap.size u w') := veil fun u => by
    have := actWord_any f u
    rw [hi] at this
    exact this
  clear hi
  obtain ⟨G, c, rfl, _, hG, hy, hc⟩ := hr.at (by rw [List.length_map]; decide)
  have hc' : 1 ≤ c := hc
  have hG2 : G ≠ w.heap.size + 2 := by omega
  have HY : Hid (∀ u f x, Ow w u f x → u.cell? ⟨G, 0, none⟩ = some (.int .i64 (h 1))) := veil fun u f x p => p.old hG (hy 0 (by rw [List.length_map]; decide))
  clear hr hy hc hG
  rw [show ((noffs 2).map h).length = 1 by rfl]
  have HX := veil (Ow.first w f (f 0) (f 5))
  obtain ⟨x0, x1, x2, x3, x4, x5, x6, x7, x8, x9, x10⟩ := (aBlock.new w f).cells
  go_enter Tryd.func29, Tryd.ntmps29
  go_upto_region 2 with fail
  obtain ⟨W1, hW1⟩ : ∃ W1, W1 = ((w.alloc (.cells (aCells f) 27)).alloc (.cells (aCells fun _ => 0) 27)).alloc (.cells (aCells (vec [f 0, 0, 0, 0, 0, f 5, 0, 0, 0, 0, 0])) 27) := ⟨_, rfl⟩
  rw [← hW1] at HX
  have hW1' : W1 = ((w.alloc (.cells (aCells f) 27)).alloc (.cells #[.int .i64 0, .int .i64 0, .int .i64 0, .int .i64 0, .int .i64 0, .int .i64 0, .int .i64 0, .int .i64 0, .int .i64 0, .int .i64 0, .int .i64 0] 27)).alloc (.cells #[.int .i64 (f 0), .int .i64 0, .int .i64 0, .int .i64 0, .int .i64 0, .int .i64 (f 5), .int .i64 0, .int .i64 0, .int .i64 0, .int .i64 0, .int .i64 0] 27) := hW1
  rw [← hW1']
  clear hW1 hW1' x0 x1 x2 x3 x4 x5 x6 x7 x8 x9 x10
  obtain ⟨x0, x1, x2, x3, x4, x5, x6, x7, x8, x9, x10⟩ := (unveil HX).a.cells
  have H1 := unveil HC W1
  go_upto_region 3 with (go_at_call 26; refine H1.mono ?_; rintro e V1 ⟨rfl, b1⟩; clear H1 x0 x1 x2 x3 x4 x5 x6 x7 x8 x9 x10)
  have p1 := (unveil HX).next b1
  clear HX b1
  have y0 := unveil HY _ _ _ p1
  have z1 : V1.cell? ⟨w.heap.size + 2, 1, none⟩ = some (.int .i64 0) := p1.x.cell 1 (by omega)
  have zf := p1.x.free
  go_upto_region 22 with fail
  obtain ⟨U1, hU1, q1⟩ : ∃ U, U = (V1.setCell ⟨w.heap.size + 2, 1, none⟩ (.int .i64 (h 1))) ∧ Ow w U f (vec [f 0, h 1, 0, 0, 0, f 5, 0, 0, 0, 0, 0]) := ⟨_, rfl, (p1.put 1 (by omega) (h 1)).ext (below11 rfl rfl rfl rfl rfl rfl rfl rfl rfl rfl rfl)⟩
  rw [← hU1]
  clear hU1 zf y0 z1
  clear p1
  have H2 := unveil HC U1
  obtain ⟨x0, x1, x2, x3, x4, x5, x6, x7, x8, x9, x10⟩ := q1.a.cells
  go_upto_region 26 with (first | (go_at_call 26; refine H2.mono ?_; rintro e V2 ⟨rfl, b2⟩; clear H2 x0 x1 x2 x3 x4 x5 x6 x7 x8 x9 x10))
  have p2 := q1.next b2
  clear q1 b2
  obtain ⟨U2, hU2, q2⟩ : ∃ U, U = V2 ∧ Ow w U f (vec [f 0, h 1, 0, 0, 0, f 5, 0, 0, 0, 0, 0]) := ⟨_, rfl, p2⟩
  rw [← hU2]
  clear hU2 p2
  have H3 := unveil HC U2
  obtain ⟨x0, x1, x2, x3, x4, x5, x6, x7, x8, x9, x10⟩ := q2.a.cells
  go_upto_region 28 with (first | (go_at_call 26; refine H3.mono ?_; rintro e V3 ⟨rfl, b3⟩; clear H3 x0 x1 x2 x3 x4 x5 x6 x7 x8 x9 x10))
  have p3 := q2.next b3
  clear q2 b3
  obtain ⟨U3, hU3, q3⟩ : ∃ U, U = V3 ∧ Ow w U f (vec [f 0, h 1, 0, 0, 0, f 5, 0, 0, 0, 0, 0]) := ⟨_, rfl, p3⟩
  rw [← hU3]
  clear hU3 p3
  have z0 : U3.cell? ⟨w.heap.size + 2, 0, none⟩ = some (.int .i64 (f 0)) := q3.x.cell 0 (by omega)
  have z1 : U3.cell? ⟨w.heap.size + 2, 1, none⟩ = some (.int .i64 (h 1)) := q3.x.cell 1 (by omega)
  have z2 : U3.cell? ⟨w.heap.size + 2, 2, none⟩ = some (.int .i64 0) := q3.x.cell 2 (by omega)
  have z3 : U3.cell? ⟨w.heap.size + 2, 3, none⟩ = some (.int .i64 0) := q3.x.cell 3 (by omega)
  have z4 : U3.cell? ⟨w.heap.size + 2, 4, none⟩ = some (.int .i64 0) := q3.x.cell 4 (by omega)
  have z5 : U3.cell? ⟨w.heap.size + 2, 5, none⟩ = some (.int .i64 (f 5)) := q3.x.cell 5 (by omega)
  have z6 : U3.cell? ⟨w.heap.size + 2, 6, none⟩ = some (.int .i64 0) := q3.x.cell 6 (by omega)
  have z7 : U3.cell? ⟨w.heap.size + 2, 7, none⟩ = some (.int .i64 0) := q3.x.cell 7 (by omega)
  have z8 : U3.cell? ⟨w.heap.size + 2, 8, none⟩ = some (.int .i64 0) := q3.x.cell 8 (by omega)
  have z9 : U3.cell? ⟨w.heap.size + 2, 9, none⟩ = some (.int .i64 0) := q3.x.cell 9 (by omega)
  have z10 : U3.cell? ⟨w.heap.size + 2, 10, none⟩ = some (.int .i64 0) := q3.x.cell 10 (by omega)
  have zf := q3.x.free
  obtain ⟨r0, r1, r2, r3, r4, r5, r6, r7, r8, r9, r10⟩ := q3.r.cells
  have rf := q3.r.free
  have g0 : (f 0 != 2) = true := by rw [← (unveil HA).1]; decide
  go_wp2
  have q4 := (q3.put 5 (by omega) 0).ext (y := vec [f 0, h 1, 0, 0, 0, 0, 0, 0, 0, 0, 0]) (below11 rfl rfl rfl rfl rfl rfl rfl rfl rfl rfl rfl)
  obtain ⟨W5, hW5, d5, b5, _⟩ := a_stored q4.r q4.bel (by omega) (f 0) (h 1) (0) (0) (0) (0) (0) (0) (0) (0) (0)
  rw [← hW5]
  refine bodyPost_ret (ret_actOf d5 rfl) rfl ⟨?_, b5⟩
  have h0 := (unveil HA).1
  have h5 := (unveil HA).2
  refine congrArg Ending.returned (aVal_ext (below11 ?_ ?_ ?_ ?_ ?_ ?_ ?_ ?_ ?_ ?_ ?_)) <;> first
    | rfl
    | exact h0.symm
    | exact (h5 (h0.symm.trans rfl)).symm
set_option maxRecDepth 20000 in
set_option maxHeartbeats 2000000 in
theorem refActOf_3 (f h : Nat → Int) (base : Nat) (v : Value) (w : World) (hi : kno (f 0) (f 5) = 3) (hr : iRow w base v ((noffs 3).map h)) : Calls Tryd.prog 29 #[aVal f, v] w fun e w' => e = .returned (aVal (over (noffs 3) (bareK 3) h)) ∧ Below w.heap.size w w' := by
  have HA : Hid (kact 3 = f 0 ∧ (f 0 = 2 → kop 3 = f 5)) := veil (by obtain ⟨h1, h2, _⟩ := kno_act (f 0) (f 5) (by omega); rw [hi] at h1 h2; exact ⟨h1, h2⟩)
  have HC : Hid (∀ u, Calls Tryd.prog 26 #[aVal f] u fun e w' => e = .returned (.string ⟨#[115, 116, 97, 114, 116]⟩) ∧ Below u.heap.size u w') := veil fun u => by
    have := actWord_any f u
    rw [hi] at this
    exact this
  clear hi
  obtain ⟨G, c, rfl, _, hG, hy, hc⟩ := hr.at (by rw [List.length_map]; decide)
  have hc' : 1 ≤ c := hc
  have hG2 : G ≠ w.heap.size + 2 := by omega
  have HY : Hid (∀ u f x, Ow w u f x → u.cell? ⟨G, 0, none⟩ = some (.int .i64 (h 1))) := veil fun u f x p => p.old hG (hy 0 (by rw [List.length_map]; decide))
  clear hr hy hc hG
  rw [show ((noffs 3).map h).length = 1 by rfl]
  have HX := veil (Ow.first w f (f 0) (f 5))
  obtain ⟨x0, x1, x2, x3, x4, x5, x6, x7, x8, x9, x10⟩ := (aBlock.new w f).cells
  go_enter Tryd.func29, Tryd.ntmps29
  go_upto_region 2 with fail
  obtain ⟨W1, hW1⟩ : ∃ W1, W1 = ((w.alloc (.cells (aCells f) 27)).alloc (.cells (aCells fun _ => 0) 27)).alloc (.cells (aCells (vec [f 0, 0, 0, 0, 0, f 5, 0, 0, 0, 0, 0])) 27) := ⟨_, rfl⟩
  rw [← hW1] at HX
  have hW1' : W1 = ((w.alloc (.cells (aCells f) 27)).alloc (.cells #[.int .i64 0, .int .i64 0, .int .i64 0, .int .i64 0, .int .i64 0, .int .i64 0, .int .i64 0, .int .i64 0, .int .i64 0, .int .i64 0, .int .i64 0] 27)).alloc (.cells #[.int .i64 (f 0), .int .i64 0, .int .i64 0, .int .i64 0, .int .i64 0, .int .i64 (f 5), .int .i64 0, .int .i64 0, .int .i64 0, .int .i64 0, .int .i64 0] 27) := hW1
  rw [← hW1']
  clear hW1 hW1' x0 x1 x2 x3 x4 x5 x6 x7 x8 x9 x10
  obtain ⟨x0, x1, x2, x3, x4, x5, x6, x7, x8, x9, x10⟩ := (unveil HX).a.cells
  have H1 := unveil HC W1
  go_upto_region 3 with (go_at_call 26; refine H1.mono ?_; rintro e V1 ⟨rfl, b1⟩; clear H1 x0 x1 x2 x3 x4 x5 x6 x7 x8 x9 x10)
  have p1 := (unveil HX).next b1
  clear HX b1
  have y0 := unveil HY _ _ _ p1
  have z1 : V1.cell? ⟨w.heap.size + 2, 1, none⟩ = some (.int .i64 0) := p1.x.cell 1 (by omega)
  have zf := p1.x.free
  go_upto_region 22 with fail
  obtain ⟨U1, hU1, q1⟩ : ∃ U, U = (V1.setCell ⟨w.heap.size + 2, 1, none⟩ (.int .i64 (h 1))) ∧ Ow w U f (vec [f 0, h 1, 0, 0, 0, f 5, 0, 0, 0, 0, 0]) := ⟨_, rfl, (p1.put 1 (by omega) (h 1)).ext (below11 rfl rfl rfl rfl rfl rfl rfl rfl rfl rfl rfl)⟩
  rw [← hU1]
  clear hU1 zf y0 z1
  clear p1
  have H2 := unveil HC U1
  obtain ⟨x0, x1, x2, x3, x4, x5, x6, x7, x8, x9, x10⟩ := q1.a.cells
  go_upto_region 26 with (first | (go_at_call 26; refine H2.mono ?_; rintro e V2 ⟨rfl, b2⟩; clear H2 x0 x1 x2 x3 x4 x5 x6 x7 x8 x9 x10))
  have p2 := q1.next b2
  clear q1 b2
  obtain ⟨U2, hU2, q2⟩ : ∃ U, U = V2 ∧ Ow w U f (vec [f 0, h 1, 0, 0, 0, f 5, 0, 0, 0, 0, 0]) := ⟨_, rfl, p2⟩
  rw [← hU2]
  clear hU2 p2
  have H3 := unveil HC U2
  obtain ⟨x0, x1, x2, x3, x4, x5, x6, x7, x8, x9, x10⟩ := q2.a.cells
  go_upto_region 28 with (first | (go_at_call 26; refine H3.mono ?_; rintro e V3 ⟨rfl, b3⟩; clear H3 x0 x1 x2 x3 x4 x5 x6 x7 x8 x9 x10))
  have p3 := q2.next b3
  clear q2 b3
  obtain ⟨U3, hU3, q3⟩ : ∃ U, U = V3 ∧ Ow w U f (vec [f 0, h 1, 0, 0, 0, f 5, 0, 0, 0, 0, 0]) := ⟨_, rfl, p3⟩
  rw [← hU3]
  clear hU3 p3
  have z0 : U3.cell? ⟨w.heap.size + 2, 0, none⟩ = some (.int .i64 (f 0)) := q3.x.cell 0 (by omega)
  have z1 : U3.cell? ⟨w.heap.size + 2, 1, none⟩ = some (.int .i64 (h 1)) := q3.x.cell 1 (by omega)
  have z2 : U3.cell? ⟨w.heap.size + 2, 2, none⟩ = some (.int .i64 0) := q3.x.cell 2 (by omega)
  have z3 : U3.cell? ⟨w.heap.size + 2, 3, none⟩ = some (.int .i64 0) := q3.x.cell 3 (by omega)
  have z4 : U3.cell? ⟨w.heap.size + 2, 4, none⟩ = some (.int .i64 0) := q3.x.cell 4 (by omega)
  have z5 : U3.cell? ⟨w.heap.size + 2, 5, none⟩ = some (.int .i64 (f 5)) := q3.x.cell 5 (by omega)
  have z6 : U3.cell? ⟨w.heap.size + 2, 6, none⟩ = some (.int .i64 0) := q3.x.cell 6 (by omega)
  have z7 : U3.cell? ⟨w.heap.size + 2, 7, none⟩ = some (.int .i64 0) := q3.x.cell 7 (by omega)
  have z8 : U3.cell? ⟨w.heap.size + 2, 8, none⟩ = some (.int .i64 0) := q3.x.cell 8 (by omega)
  have z9 : U3.cell? ⟨w.heap.size + 2, 9, none⟩ = some (.int .i64 0) := q3.x.cell 9 (by omega)
  have z10 : U3.cell? ⟨w.heap.size + 2, 10, none⟩ = some (.int .i64 0) := q3.x.cell 10 (by omega)
  have zf := q3.x.free
  obtain ⟨r0, r1, r2, r3, r4, r5, r6, r7, r8, r9, r10⟩ := q3.r.cells
  have rf := q3.r.free
  have g0 : (f 0 != 2) = true := by rw [← (unveil HA).1]; decide
  go_wp2
  have q4 := (q3.put 5 (by omega) 0).ext (y := vec [f 0, h 1, 0, 0, 0, 0, 0, 0, 0, 0, 0]) (below11 rfl rfl rfl rfl rfl rfl rfl rfl rfl rfl rfl)
  obtain ⟨W5, hW5, d5, b5, _⟩ := a_stored q4.r q4.bel (by omega) (f 0) (h 1) (0) (0) (0) (0) (0) (0) (0) (0) (0)
  rw [← hW5]
  refine bodyPost_ret (ret_actOf d5 rfl) rfl ⟨?_, b5⟩
  have h0 := (unveil HA).1
  have h5 := (unveil HA).2
  refine congrArg Ending.returned (aVal_ext (below11 ?_ ?_ ?_ ?_ ?_ ?_ ?_ ?_ ?_ ?_ ?_)) <;> first
    | rfl
    | exact h0.symm
    | exact (h5 (h0.symm.trans rfl)).symm
set_option maxRecDepth 20000 in
set_option maxHeartbeats 2000000 in
theorem refActOf_4 (f h : Nat → Int) (base : Nat) (v : Value) (w : World) (hi : kno (f 0) (f 5) = 4) (hr : iRow w base v ((noffs 4).map h)) : Calls Tryd.prog 29 #[aVal f, v] w fun e w' => e = .returned (aVal (over (noffs 4) (bareK 4) h)) ∧ Below w.heap.size w w' := by
  have HA : Hid (kact 4 = f 0 ∧ (f 0 = 2 → kop 4 = f 5)) := veil (by obtain ⟨h1, h2, _⟩ := kno_act (f 0) (f 5) (by omega); rw [hi] at h1 h2; exact ⟨h1, h2⟩)
  have HC : Hid (∀ u, Calls Tryd.prog 26 #[aVal f] u fun e w' => e = .returned (.string ⟨#[99, 114, 97, 115, 104]⟩) ∧ Below u.heap.size u w') := veil fun u => by
    have := actWord_any f u
    rw [hi] at this
    exact this
  clear hi
  obtain ⟨G, c, rfl, _, hG, hy, hc⟩ := hr.at (by rw [List.length_map]; decide)
  have hc' : 2 ≤ c := hc
  have hG2 : G ≠ w.heap.size + 2 := by omega
  have HY : Hid (∀ u f x, Ow w u f x → u.cell? ⟨G, 0, none⟩ = some (.int .i64 (h 1)) ∧ u.cell? ⟨G, 1, none⟩ = some (.int .i64 (h 4))) := veil fun u f x p => ⟨p.old hG (hy 0 (by rw [List.length_map]; decide)), p.old hG (hy 1 (by rw [List.length_map]; decide))⟩
  clear hr hy hc hG
  rw [show ((noffs 4).map h).length = 2 by rfl]
  have HX := veil (Ow.first w f (f 0) (f 5))
  obtain ⟨x0, x1, x2, x3, x4, x5, x6, x7, x8, x9, x10⟩ := (aBlock.new w f).cells
  go_enter Tryd.func29, Tryd.ntmps29
  go_upto_region 2 with fail
  obtain ⟨W1, hW1⟩ : ∃ W1, W1 = ((w.alloc (.cells (aCells f) 27)).alloc (.cells (aCells fun _ => 0) 27)).alloc (.cells (aCells (vec [f 0, 0, 0, 0, 0, f 5, 0, 0, 0, 0, 0])) 27) := ⟨_, rfl⟩
  rw [← hW1] at HX
  have hW1' : W1 = ((w.alloc (.cells (aCells f) 27)).alloc (.cells #[.int .i64 0, .int .i64 0, .int .i64 0, .int .i64 0, .int .i64 0, .int .i64 0, .int .i64 0, .int .i64 0, .int .i64 0, .int .i64 0, .int .i64 0] 27)).alloc (.cells #[.int .i64 (f 0), .int .i64 0, .int .i64 0, .int .i64 0, .int .i64 0, .int .i64 (f 5), .int .i64 0, .int .i64 0, .int .i64 0, .int .i64 0, .int .i64 0] 27) := hW1
  rw [← hW1']
  clear hW1 hW1' x0 x1 x2 x3 x4 x5 x6 x7 x8 x9 x10
  obtain ⟨x0, x1, x2, x3, x4, x5, x6, x7, x8, x9, x10⟩ := (unveil HX).a.cells
  have H1 := unveil HC W1
  go_upto_region 3 with (go_at_call 26; refine H1.mono ?_; rintro e V1 ⟨rfl, b1⟩; clear H1 x0 x1 x2 x3 x4 x5 x6 x7 x8 x9 x10)
  have p1 := (unveil HX).next b1
  clear HX b1
  obtain ⟨y0, y1⟩ := unveil HY _ _ _ p1
  have z1 : V1.cell? ⟨w.heap.size + 2, 1, none⟩ = some (.int .i64 0) := p1.x.cell 1 (by omega)
  have z4 : V1.cell? ⟨w.heap.size + 2, 4, none⟩ = some (.int .i64 0) := p1.x.cell 4 (by omega)
  have zf := p1.x.free
  go_upto_region 22 with fail
  obtain ⟨U1, hU1, q1⟩ : ∃ U, U = ((V1.setCell ⟨w.heap.size + 2, 1, none⟩ (.int .i64 (h 1))).setCell ⟨w.heap.size + 2, 4, none⟩ (.int .i64 (h 4))) ∧ Ow w U f (vec [f 0, h 1, 0, 0, h 4, f 5, 0, 0, 0, 0, 0]) := ⟨_, rfl, ((p1.put 1 (by omega) (h 1)).put 4 (by omega) (h 4)).ext (below11 rfl rfl rfl rfl rfl rfl rfl rfl rfl rfl rfl)⟩
  rw [← hU1]
  clear hU1 zf y0 y1 z1 z4
  clear p1
  have H2 := unveil HC U1
  obtain ⟨x0, x1, x2, x3, x4, x5, x6, x7, x8, x9, x10⟩ := q1.a.cells
  go_upto_region 26 with (first | (go_at_call 26; refine H2.mono ?_; rintro e V2 ⟨rfl, b2⟩; clear H2 x0 x1 x2 x3 x4 x5 x6 x7 x8 x9 x10))
  have p2 := q1.next b2
  clear q1 b2
  obtain ⟨U2, hU2, q2⟩ : ∃ U, U = V2 ∧ Ow w U f (vec [f 0, h 1, 0, 0, h 4, f 5, 0, 0, 0, 0, 0]) := ⟨_, rfl, p2⟩
  rw [← hU2]
  clear hU2 p2
  have H3 := unveil HC U2
  obtain ⟨x0, x1, x2, x3, x4, x5, x6, x7, x8, x9, x10⟩ := q2.a.cells
  go_upto_region 28 with (first | (go_at_call 26; refine H3.mono ?_; rintro e V3 ⟨rfl, b3⟩; clear H3 x0 x1 x2 x3 x4 x5 x6 x7 x8 x9 x10))
  have p3 := q2.next b3
  clear q2 b3
  obtain ⟨U3, hU3, q3⟩ : ∃ U, U = V3 ∧ Ow w U f (vec [f 0, h 1, 0, 0, h 4, f 5, 0, 0, 0, 0, 0]) := ⟨_, rfl, p3⟩
  rw [← hU3]
  clear hU3 p3
  have z0 : U3.cell? ⟨w.heap.size + 2, 0, none⟩ = some (.int .i64 (f 0)) := q3.x.cell 0 (by omega)
  have z1 : U3.cell? ⟨w.heap.size + 2, 1, none⟩ = some (.int .i64 (h 1)) := q3.x.cell 1 (by omega)
  have z2 : U3.cell? ⟨w.heap.size + 2, 2, none⟩ = some (.int .i64 0) := q3.x.cell 2 (by omega)
  have z3 : U3.cell? ⟨w.heap.size + 2, 3, none⟩ = some (.int .i64 0) := q3.x.cell 3 (by omega)
  have z4 : U3.cell? ⟨w.heap.size + 2, 4, none⟩ = some (.int .i64 (h 4)) := q3.x.cell 4 (by omega)
  have z5 : U3.cell? ⟨w.heap.size + 2, 5, none⟩ = some (.int .i64 (f 5)) := q3.x.cell 5 (by omega)
  have z6 : U3.cell? ⟨w.heap.size + 2, 6, none⟩ = some (.int .i64 0) := q3.x.cell 6 (by omega)
  have z7 : U3.cell? ⟨w.heap.size + 2, 7, none⟩ = some (.int .i64 0) := q3.x.cell 7 (by omega)
  have z8 : U3.cell? ⟨w.heap.size + 2, 8, none⟩ = some (.int .i64 0) := q3.x.cell 8 (by omega)
  have z9 : U3.cell? ⟨w.heap.size + 2, 9, none⟩ = some (.int .i64 0) := q3.x.cell 9 (by omega)
  have z10 : U3.cell? ⟨w.heap.size + 2, 10, none⟩ = some (.int .i64 0) := q3.x.cell 10 (by omega)
  have zf := q3.x.free
  obtain ⟨r0, r1, r2, r3, r4, r5, r6, r7, r8, r9, r10⟩ := q3.r.cells
  have rf := q3.r.free
  have g0 : (f 0 != 2) = true := by rw [← (unveil HA).1]; decide
  go_wp2
  have q4 := (q3.put 5 (by omega) 0).ext (y := vec [f 0, h 1, 0, 0, h 4, 0, 0, 0, 0, 0, 0]) (below11 rfl rfl rfl rfl rfl rfl rfl rfl rfl rfl rfl)
  obtain ⟨W5, hW5, d5, b5, _⟩ := a_stored q4.r q4.bel (by omega) (f 0) (h 1) (0) (0) (h 4) (0) (0) (0) (0) (0) (0)
  rw [← hW5]
  refine bodyPost_ret (ret_actOf d5 rfl) rfl ⟨?_, b5⟩
  have h0 := (unveil HA).1
  have h5 := (unveil HA).2
  refine congrArg Ending.returned (aVal_ext (below11 ?_ ?_ ?_ ?_ ?_ ?_ ?_ ?_ ?_ ?_ ?_)) <;> first
    | rfl
    | exact h0.symm
    | exact (h5 (h0.symm.trans rfl)).symm
set_option maxRecDepth 20000 in
set_option maxHeartbeats 2000000 in
theorem refActOf_5 (f h : Nat → Int) (base : Nat) (v : Value) (w : World) (hi : kno (f 0) (f 5) = 5) (hr : iRow w base v ((noffs 5).map h)) : Calls Tryd.prog 29 #[aVal f, v] w fun e w' => e = .returned (aVal (over (noffs 5) (bareK 5) h)) ∧ Below w.heap.size w w' := by
  have HA : Hid (kact 5 = f 0 ∧ (f 0 = 2 → kop 5 = f 5)) := veil (by obtain ⟨h1, h2, _⟩ := kno_act (f 0) (f 5) (by omega); rw [hi] at h1 h2; exact ⟨h1, h2⟩)
  have HC : Hid (∀ u, Calls Tryd.prog 26 #[aVal f] u fun e w' => e = .returned (.string ⟨#[99, 97, 114, 114, 121]⟩) ∧ Below u.heap.size u w') := veil fun u => by
    have := actWord_any f u
    rw [hi] at this
    exact this
  clear hi
  obtain ⟨G, c, rfl, _, hG, hy, hc⟩ := hr.at (by rw [List.length_map]; decide)
  have hc' : 1 ≤ c := hc
  have hG2 : G ≠ w.heap.size + 2 := by omega
  have HY : Hid (∀ u f x, Ow w u f x → u.cell? ⟨G, 0, none⟩ = some (.int .i64 (h 3))) := veil fun u f x p => p.old hG (hy 0 (by rw [List.length_map]; decide))
  clear hr hy hc hG
  rw [show ((noffs 5).map h).length = 1 by rfl]
  have HX := veil (Ow.first w f (f 0) (f 5))
  obtain ⟨x0, x1, x2, x3, x4, x5, x6, x7, x8, x9, x10⟩ := (aBlock.new w f).cells
  go_enter Tryd.func29, Tryd.ntmps29
  go_upto_region 2 with fail
  obtain ⟨W1, hW1⟩ : ∃ W1, W1 = ((w.alloc (.cells (aCells f) 27)).alloc (.cells (aCells fun _ => 0) 27)).alloc (.cells (aCells (vec [f 0, 0, 0, 0, 0, f 5, 0, 0, 0, 0, 0])) 27) := ⟨_, rfl⟩
  rw [← hW1] at HX
  have hW1' : W1 = ((w.alloc (.cells (aCells f) 27)).alloc (.cells #[.int .i64 0, .int .i64 0, .int .i64 0, .int .i64 0, .int .i64 0, .int .i64 0, .int .i64 0, .int .i64 0, .int .i64 0, .int .i64 0, .int .i64 0] 27)).alloc (.cells #[.int .i64 (f 0), .int .i64 0, .int .i64 0, .int .i64 0, .int .i64 0, .int .i64 (f 5), .int .i64 0, .int .i64 0, .int .i64 0, .int .i64 0, .int .i64 0] 27) := hW1
  rw [← hW1']
  clear hW1 hW1' x0 x1 x2 x3 x4 x5 x6 x7 x8 x9 x10
  obtain ⟨x0, x1, x2, x3, x4, x5, x6, x7, x8, x9, x10⟩ := (unveil HX).a.cells
  have H1 := unveil HC W1
  go_upto_region 3 with (go_at_call 26; refine H1.mono ?_; rintro e V1 ⟨rfl, b1⟩; clear H1 x0 x1 x2 x3 x4 x5 x6 x7 x8 x9 x10)
  have p1 := (unveil HX).next b1
  clear HX b1
  have y0 := unveil HY _ _ _ p1
  have z3 : V1.cell? ⟨w.heap.size + 2, 3, none⟩ = some (.int .i64 0) := p1.x.cell 3 (by omega)
  have zf := p1.x.free
  go_upto_region 22 with fail
  obtain ⟨U1, hU1, q1⟩ : ∃ U, U = (V1.setCell ⟨w.heap.size + 2, 3, none⟩ (.int .i64 (h 3))) ∧ Ow w U f (vec [f 0, 0, 0, h 3, 0, f 5, 0, 0, 0, 0, 0]) := ⟨_, rfl, (p1.put 3 (by omega) (h 3)).ext (below11 rfl rfl rfl rfl rfl rfl rfl rfl rfl rfl rfl)⟩
  rw [← hU1]
  clear hU1 zf y0 z3
  clear p1
  have H2 := unveil HC U1
  obtain ⟨x0, x1, x2, x3, x4, x5, x6, x7, x8, x9, x10⟩ := q1.a.cells
  go_upto_region 26 with (first | (go_at_call 26; refine H2.mono ?_; rintro e V2 ⟨rfl, b2⟩; clear H2 x0 x1 x2 x3 x4 x5 x6 x7 x8 x9 x10))
  have p2 := q1.next b2
  clear q1 b2
  obtain ⟨U2, hU2, q2⟩ : ∃ U, U = V2 ∧ Ow w U f (vec [f 0, 0, 0, h 3, 0, f 5, 0, 0, 0, 0, 0]) := ⟨_, rfl, p2⟩
  rw [← hU2]
  clear hU2 p2
  have H3 := unveil HC U2
  obtain ⟨x0, x1, x2, x3, x4, x5, x6, x7, x8, x9, x10⟩ := q2.a.cells
  go_upto_region 28 with (first | (go_at_call 26; refine H3.mono ?_; rintro e V3 ⟨rfl, b3⟩; clear H3 x0 x1 x2 x3 x4 x5 x6 x7 x8 x9 x10))
  have p3 := q2.next b3
  clear q2 b3
  obtain ⟨U3, hU3, q3⟩ : ∃ U, U = V3 ∧ Ow w U f (vec [f 0, 0, 0, h 3, 0, f 5, 0, 0, 0, 0, 0]) := ⟨_, rfl, p3⟩
  rw [← hU3]
  clear hU3 p3
  have z0 : U3.cell? ⟨w.heap.size + 2, 0, none⟩ = some (.int .i64 (f 0)) := q3.x.cell 0 (by omega)
  have z1 : U3.cell? ⟨w.heap.size + 2, 1, none⟩ = some (.int .i64 0) := q3.x.cell 1 (by omega)
  have z2 : U3.cell? ⟨w.heap.size + 2, 2, none⟩ = some (.int .i64 0) := q3.x.cell 2 (by omega)
  have z3 : U3.cell? ⟨w.heap.size + 2, 3, none⟩ = some (.int .i64 (h 3)) := q3.x.cell 3 (by omega)
  have z4 : U3.cell? ⟨w.heap.size + 2, 4, none⟩ = some (.int .i64 0) := q3.x.cell 4 (by omega)
  have z5 : U3.cell? ⟨w.heap.size + 2, 5, none⟩ = some (.int .i64 (f 5)) := q3.x.cell 5 (by omega)
  have z6 : U3.cell? ⟨w.heap.size + 2, 6, none⟩ = some (.int .i64 0) := q3.x.cell 6 (by omega)
  have z7 : U3.cell? ⟨w.heap.size + 2, 7, none⟩ = some (.int .i64 0) := q3.x.cell 7 (by omega)
  have z8 : U3.cell? ⟨w.heap.size + 2, 8, none⟩ = some (.int .i64 0) := q3.x.cell 8 (by omega)
  have z9 : U3.cell? ⟨w.heap.size + 2, 9, none⟩ = some (.int .i64 0) := q3.x.cell 9 (by omega)
  have z10 : U3.cell? ⟨w.heap.size + 2, 10, none⟩ = some (.int .i64 0) := q3.x.cell 10 (by omega)
  have zf := q3.x.free
  obtain ⟨r0, r1, r2, r3, r4, r5, r6, r7, r8, r9, r10⟩ := q3.r.cells
  have rf := q3.r.free
  have g0 : (f 0 != 2) = true := by rw [← (unveil HA).1]; decide
  go_wp2
  have q4 := (q3.put 5 (by omega) 0).ext (y := vec [f 0, 0, 0, h 3, 0, 0, 0, 0, 0, 0, 0]) (below11 rfl rfl rfl rfl rfl rfl rfl rfl rfl rfl rfl)
  obtain ⟨W5, hW5, d5, b5, _⟩ := a_stored q4.r q4.bel (by omega) (f 0) (0) (0) (h 3) (0) (0) (0) (0) (0) (0) (0)
  rw [← hW5]
  refine bodyPost_ret (ret_actOf d5 rfl) rfl ⟨?_, b5⟩
  have h0 := (unveil HA).1
  have h5 := (unveil HA).2
  refine congrArg Ending.returned (aVal_ext (below11 ?_ ?_ ?_ ?_ ?_ ?_ ?_ ?_ ?_ ?_ ?_)) <;> first
    | rfl
    | exact h0.symm
    | exact (h5 (h0.symm.trans rfl)).symm
set_option maxRecDepth 20000 in
set_option maxHeartbeats 2000000 in
theorem refActOf_6 (f h : Nat → Int) (base : Nat) (v : Value) (w : World) (hi : kno (f 0) (f 5) = 6) (hr : iRow w base v ((noffs 6).map h)) : Calls Tryd.prog 29 #[aVal f, v] w fun e w' => e = .returned (aVal (over (noffs 6) (bareK 6) h)) ∧ Below w.heap.size w w' := by
  have HA : Hid (kact 6 = f 0 ∧ (f 0 = 2 → kop 6 = f 5)) := veil (by obtain ⟨h1, h2, _⟩ := kno_act (f 0) (f 5) (by omega); rw [hi] at h1 h2; exact ⟨h1, h2⟩)
  have HC : Hid (∀ u, Calls Tryd.prog 26 #[aVal f] u fun e w' => e = .returned (.string ⟨#[108, 111, 115, 101]⟩) ∧ Below u.heap.size u w') := veil fun u => by
    have := actWord_any f u
    rw [hi] at this
    exact this
  clear hi
  obtain ⟨G, c, rfl, _, hG, hy, hc⟩ := hr.at (by rw [List.length_map]; decide)
  have hc' : 1 ≤ c := hc
  have hG2 : G ≠ w.heap.size + 2 := by omega
  have HY : Hid (∀ u f x, Ow w u f x → u.cell? ⟨G, 0, none⟩ = some (.int .i64 (h 3))) := veil fun u f x p => p.old hG (hy 0 (by rw [List.length_map]; decide))
  clear hr hy hc hG
  rw [show ((noffs 6).map h).length = 1 by rfl]
  have HX := veil (Ow.first w f (f 0) (f 5))
  obtain ⟨x0, x1, x2, x3, x4, x5, x6, x7, x8, x9, x10⟩ := (aBlock.new w f).cells
  go_enter Tryd.func29, Tryd.ntmps29
  go_upto_region 2 with fail
  obtain ⟨W1, hW1⟩ : ∃ W1, W1 = ((w.alloc (.cells (aCells f) 27)).alloc (.cells (aCells fun _ => 0) 27)).alloc (.cells (aCells (vec [f 0, 0, 0, 0, 0, f 5, 0, 0, 0, 0, 0])) 27) := ⟨_, rfl⟩
  rw [← hW1] at HX
  have hW1' : W1 = ((w.alloc (.cells (aCells f) 27)).alloc (.cells #[.int .i64 0, .int .i64 0, .int .i64 0, .int .i64 0, .int .i64 0, .int .i64 0, .int .i64 0, .int .i64 0, .int .i64 0, .int .i64 0, .int .i64 0] 27)).alloc (.cells #[.int .i64 (f 0), .int .i64 0, .int .i64 0, .int .i64 0, .int .i64 0, .int .i64 (f 5), .int .i64 0, .int .i64 0, .int .i64 0, .int .i64 0, .int .i64 0] 27) := hW1
  rw [← hW1']
  clear hW1 hW1' x0 x1 x2 x3 x4 x5 x6 x7 x8 x9 x10
  obtain ⟨x0, x1, x2, x3, x4, x5, x6, x7, x8, x9, x10⟩ := (unveil HX).a.cells
  have H1 := unveil HC W1
  go_upto_region 3 with (go_at_call 26; refine H1.mono ?_; rintro e V1 ⟨rfl, b1⟩; clear H1 x0 x1 x2 x3 x4 x5 x6 x7 x8 x9 x10)
  have p1 := (unveil HX).next b1
  clear HX b1
  have y0 := unveil HY _ _ _ p1
  have z3 : V1.cell? ⟨w.heap.size + 2, 3, none⟩ = some (.int .i64 0) := p1.x.cell 3 (by omega)
  have zf := p1.x.free
  go_upto_region 22 with fail
  obtain ⟨U1, hU1, q1⟩ : ∃ U, U = (V1.setCell ⟨w.heap.size + 2, 3, none⟩ (.int .i64 (h 3))) ∧ Ow w U f (vec [f 0, 0, 0, h 3, 0, f 5, 0, 0, 0, 0, 0]) := ⟨_, rfl, (p1.put 3 (by omega) (h 3)).ext (below11 rfl rfl rfl rfl rfl rfl rfl rfl rfl rfl rfl)⟩
  rw [← hU1]
  clear hU1 zf y0 z3
  clear p1
  have H2 := unveil HC U1
  obtain ⟨x0, x1, x2, x3, x4, x5, x6, x7, x8, x9, x10⟩ := q1.a.cells
  go_upto_region 26 with (first | (go_at_call 26; refine H2.mono ?_; rintro e V2 ⟨rfl, b2⟩; clear H2 x0 x1 x2 x3 x4 x5 x6 x7 x8 x9 x10))
  have p2 := q1.next b2
  clear q1 b2
  obtain ⟨U2, hU2, q2⟩ : ∃ U, U = V2 ∧ Ow w U f (vec [f 0, 0, 0, h 3, 0, f 5, 0, 0, 0, 0, 0]) := ⟨_, rfl, p2⟩
  rw [← hU2]
  clear hU2 p2
  have H3 := unveil HC U2
  obtain ⟨x0, x1, x2, x3, x4, x5, x6, x7, x8, x9, x10⟩ := q2.a.cells
  go_upto_region 28 with (first | (go_at_call 26; refine H3.mono ?_; rintro e V3 ⟨rfl, b3⟩; clear H3 x0 x1 x2 x3 x4 x5 x6 x7 x8 x9 x10))
  have p3 := q2.next b3
  clear q2 b3
  obtain ⟨U3, hU3, q3⟩ : ∃ U, U = V3 ∧ Ow w U f (vec [f 0, 0, 0, h 3, 0, f 5, 0, 0, 0, 0, 0]) := ⟨_, rfl, p3⟩
  rw [← hU3]
  clear hU3 p3
  have z0 : U3.cell? ⟨w.heap.size + 2, 0, none⟩ = some (.int .i64 (f 0)) := q3.x.cell 0 (by omega)
  have z1 : U3.cell? ⟨w.heap.size + 2, 1, none⟩ = some (.int .i64 0) := q3.x.cell 1 (by omega)
  have z2 : U3.cell? ⟨w.heap.size + 2, 2, none⟩ = some (.int .i64 0) := q3.x.cell 2 (by omega)
  have z3 : U3.cell? ⟨w.heap.size + 2, 3, none⟩ = some (.int .i64 (h 3)) := q3.x.cell 3 (by omega)
  have z4 : U3.cell? ⟨w.heap.size + 2, 4, none⟩ = some (.int .i64 0) := q3.x.cell 4 (by omega)
  have z5 : U3.cell? ⟨w.heap.size + 2, 5, none⟩ = some (.int .i64 (f 5)) := q3.x.cell 5 (by omega)
  have z6 : U3.cell? ⟨w.heap.size + 2, 6, none⟩ = some (.int .i64 0) := q3.x.cell 6 (by omega)
  have z7 : U3.cell? ⟨w.heap.size + 2, 7, none⟩ = some (.int .i64 0) := q3.x.cell 7 (by omega)
  have z8 : U3.cell? ⟨w.heap.size + 2, 8, none⟩ = some (.int .i64 0) := q3.x.cell 8 (by omega)
  have z9 : U3.cell? ⟨w.heap.size + 2, 9, none⟩ = some (.int .i64 0) := q3.x.cell 9 (by omega)
  have z10 : U3.cell? ⟨w.heap.size + 2, 10, none⟩ = some (.int .i64 0) := q3.x.cell 10 (by omega)
  have zf := q3.x.free
  obtain ⟨r0, r1, r2, r3, r4, r5, r6, r7, r8, r9, r10⟩ := q3.r.cells
  have rf := q3.r.free
  have g0 : (f 0 != 2) = true := by rw [← (unveil HA).1]; decide
  go_wp2
  have q4 := (q3.put 5 (by omega) 0).ext (y := vec [f 0, 0, 0, h 3, 0, 0, 0, 0, 0, 0, 0]) (below11 rfl rfl rfl rfl rfl rfl rfl rfl rfl rfl rfl)
  obtain ⟨W5, hW5, d5, b5, _⟩ := a_stored q4.r q4.bel (by omega) (f 0) (0) (0) (h 3) (0) (0) (0) (0) (0) (0) (0)
  rw [← hW5]
  refine bodyPost_ret (ret_actOf d5 rfl) rfl ⟨?_, b5⟩
  have h0 := (unveil HA).1
  have h5 := (unveil HA).2
  refine congrArg Ending.returned (aVal_ext (below11 ?_ ?_ ?_ ?_ ?_ ?_ ?_ ?_ ?_ ?_ ?_)) <;> first
    | rfl
    | exact h0.symm
    | exact (h5 (h0.symm.trans rfl)).symm
set_option maxRecDepth 20000 in
set_option maxHeartbeats 2000000 in
theorem refActOf_7 (f h : Nat → Int) (base : Nat) (v : Value) (w : World) (hi : kno (f 0) (f 5) = 7) (hr : iRow w base v ((noffs 7).map h)) : Calls Tryd.prog 29 #[aVal f, v] w fun e w' => e = .returned (aVal (over (noffs 7) (bareK 7) h)) ∧ Below w.heap.size w w' := by
  have HA : Hid (kact 7 = f 0 ∧ (f 0 = 2 → kop 7 = f 5)) := veil (by obtain ⟨h1, h2, _⟩ := kno_act (f 0) (f 5) (by omega); rw [hi] at h1 h2; exact ⟨h1, h2⟩)
  have HC : Hid (∀ u, Calls Tryd.prog 26 #[aVal f] u fun e w' => e = .returned (.string ⟨#[100, 111, 117, 98, 108, 101]⟩) ∧ Below u.heap.size u w') := veil fun u => by
    have := actWord_any f u
    rw [hi] at this
    exact this
  clear hi
  obtain ⟨G, c, rfl, _, hG, hy, hc⟩ := hr.at (by rw [List.length_map]; decide)
  have hc' : 1 ≤ c := hc
  have hG2 : G ≠ w.heap.size + 2 := by omega
  have HY : Hid (∀ u f x, Ow w u f x → u.cell? ⟨G, 0, none⟩ = some (.int .i64 (h 3))) := veil fun u f x p => p.old hG (hy 0 (by rw [List.length_map]; decide))
  clear hr hy hc hG
  rw [show ((noffs 7).map h).length = 1 by rfl]
  have HX := veil (Ow.first w f (f 0) (f 5))
  obtain ⟨x0, x1, x2, x3, x4, x5, x6, x7, x8, x9, x10⟩ := (aBlock.new w f).cells
  go_enter Tryd.func29, Tryd.ntmps29
  go_upto_region 2 with fail
  obtain ⟨W1, hW1⟩ : ∃ W1, W1 = ((w.alloc (.cells (aCells f) 27)).alloc (.cells (aCells fun _ => 0) 27)).alloc (.cells (aCells (vec [f 0, 0, 0, 0, 0, f 5, 0, 0, 0, 0, 0])) 27) := ⟨_, rfl⟩
  rw [← hW1] at HX
  have hW1' : W1 = ((w.alloc (.cells (aCells f) 27)).alloc (.cells #[.int .i64 0, .int .i64 0, .int .i64 0, .int .i64 0, .int .i64 0, .int .i64 0, .int .i64 0, .int .i64 0, .int .i64 0, .int .i64 0, .int .i64 0] 27)).alloc (.cells #[.int .i64 (f 0), .int .i64 0, .int .i64 0, .int .i64 0, .int .i64 0, .int .i64 (f 5), .int .i64 0, .int .i64 0, .int .i64 0, .int .i64 0, .int .i64 0] 27) := hW1
  rw [← hW1']
  clear hW1 hW1' x0 x1 x2 x3 x4 x5 x6 x7 x8 x9 x10
  obtain ⟨x0, x1, x2, x3, x4, x5, x6, x7, x8, x9, x10⟩ := (unveil HX).a.cells
  have H1 := unveil HC W1
  go_upto_region 3 with (go_at_call 26; refine H1.mono ?_; rintro e V1 ⟨rfl, b1⟩; clear H1 x0 x1 x2 x3 x4 x5 x6 x7 x8 x9 x10)
  have p1 := (unveil HX).next b1
  clear HX b1
  have y0 := unveil HY _ _ _ p1
  have z3 : V1.cell? ⟨w.heap.size + 2, 3, none⟩ = some (.int .i64 0) := p1.x.cell 3 (by omega)
  have zf := p1.x.free
  go_upto_region 22 with fail
  obtain ⟨U1, hU1, q1⟩ : ∃ U, U = (V1.setCell ⟨w.heap.size + 2, 3, none⟩ (.int .i64 (h 3))) ∧ Ow w U f (vec [f 0, 0, 0, h 3, 0, f 5, 0, 0, 0, 0, 0]) := ⟨_, rfl, (p1.put 3 (by omega) (h 3)).ext (below11 rfl rfl rfl rfl rfl rfl rfl rfl rfl rfl rfl)⟩
  rw [← hU1]
  clear hU1 zf y0 z3
  clear p1
  have H2 := unveil HC U1
  obtain ⟨x0, x1, x2, x3, x4, x5, x6, x7, x8, x9, x10⟩ := q1.a.cells
  go_upto_region 26 with (first | (go_at_call 26; refine H2.mono ?_; rintro e V2 ⟨rfl, b2⟩; clear H2 x0 x1 x2 x3 x4 x5 x6 x7 x8 x9 x10))
  have p2 := q1.next b2
  clear q1 b2
  obtain ⟨U2, hU2, q2⟩ : ∃ U, U = V2 ∧ Ow w U f (vec [f 0, 0, 0, h 3, 0, f 5, 0, 0, 0, 0, 0]) := ⟨_, rfl, p2⟩
  rw [← hU2]
  clear hU2 p2
  have H3 := unveil HC U2
  obtain ⟨x0, x1, x2, x3, x4, x5, x6, x7, x8, x9, x10⟩ := q2.a.cells
  go_upto_region 28 with (first | (go_at_call 26; refine H3.mono ?_; rintro e V3 ⟨rfl, b3⟩; clear H3 x0 x1 x2 x3 x4 x5 x6 x7 x8 x9 x10))
  have p3 := q2.next b3
  clear q2 b3
  obtain ⟨U3, hU3, q3⟩ : ∃ U, U = V3 ∧ Ow w U f (vec [f 0, 0, 0, h 3, 0, f 5, 0, 0, 0, 0, 0]) := ⟨_, rfl, p3⟩
  rw [← hU3]
  clear hU3 p3
  have z0 : U3.cell? ⟨w.heap.size + 2, 0, none⟩ = some (.int .i64 (f 0)) := q3.x.cell 0 (by omega)
  have z1 : U3.cell? ⟨w.heap.size + 2, 1, none⟩ = some (.int .i64 0) := q3.x.cell 1 (by omega)
  have z2 : U3.cell? ⟨w.heap.size + 2, 2, none⟩ = some (.int .i64 0) := q3.x.cell 2 (by omega)
  have z3 : U3.cell? ⟨w.heap.size + 2, 3, none⟩ = some (.int .i64 (h 3)) := q3.x.cell 3 (by omega)
  have z4 : U3.cell? ⟨w.heap.size + 2, 4, none⟩ = some (.int .i64 0) := q3.x.cell 4 (by omega)
  have z5 : U3.cell? ⟨w.heap.size + 2, 5, none⟩ = some (.int .i64 (f 5)) := q3.x.cell 5 (by omega)
  have z6 : U3.cell? ⟨w.heap.size + 2, 6, none⟩ = some (.int .i64 0) := q3.x.cell 6 (by omega)
  have z7 : U3.cell? ⟨w.heap.size + 2, 7, none⟩ = some (.int .i64 0) := q3.x.cell 7 (by omega)
  have z8 : U3.cell? ⟨w.heap.size + 2, 8, none⟩ = some (.int .i64 0) := q3.x.cell 8 (by omega)
  have z9 : U3.cell? ⟨w.heap.size + 2, 9, none⟩ = some (.int .i64 0) := q3.x.cell 9 (by omega)
  have z10 : U3.cell? ⟨w.heap.size + 2, 10, none⟩ = some (.int .i64 0) := q3.x.cell 10 (by omega)
  have zf := q3.x.free
  obtain ⟨r0, r1, r2, r3, r4, r5, r6, r7, r8, r9, r10⟩ := q3.r.cells
  have rf := q3.r.free
  have g0 : (f 0 != 2) = true := by rw [← (unveil HA).1]; decide
  go_wp2
  have q4 := (q3.put 5 (by omega) 0).ext (y := vec [f 0, 0, 0, h 3, 0, 0, 0, 0, 0, 0, 0]) (below11 rfl rfl rfl rfl rfl rfl rfl rfl rfl rfl rfl)
  obtain ⟨W5, hW5, d5, b5, _⟩ := a_stored q4.r q4.bel (by omega) (f 0) (0) (0) (h 3) (0) (0) (0) (0) (0) (0) (0)
  rw [← hW5]
  refine bodyPost_ret (ret_actOf d5 rfl) rfl ⟨?_, b5⟩
  have h0 := (unveil HA).1
  have h5 := (unveil HA).2
  refine congrArg Ending.returned (aVal_ext (below11 ?_ ?_ ?_ ?_ ?_ ?_ ?_ ?_ ?_ ?_ ?_)) <;> first
    | rfl
    | exact h0.symm
    | exact (h5 (h0.symm.trans rfl)).symm
set_option maxRecDepth 20000 in
set_option maxHeartbeats 2000000 in
theorem refActOf_8 (f h : Nat → Int) (base : Nat) (v : Value) (w : World) (hi : kno (f 0) (f 5) = 8) (hr : iRow w base v ((noffs 8).map h)) : Calls Tryd.prog 29 #[aVal f, v] w fun e w' => e = .returned (aVal (over (noffs 8) (bareK 8) h)) ∧ Below w.heap.size w w' := by
  have HA : Hid (kact 8 = f 0 ∧ (f 0 = 2 → kop 8 = f 5)) := veil (by obtain ⟨h1, h2, _⟩ := kno_act (f 0) (f 5) (by omega); rw [hi] at h1 h2; exact ⟨h1, h2⟩)
  have HC : Hid (∀ u, Calls Tryd.prog 26 #[aVal f] u fun e w' => e = .returned (.string ⟨#[97, 108, 108]⟩) ∧ Below u.heap.size u w') := veil fun u => by
    have := actWord_any f u
    rw [hi] at this
    exact this
  clear hi
  obtain ⟨a', c, rfl⟩ := own_form hr
  clear hr
  have HX := veil (Ow.first w f (f 0) (f 5))
  obtain ⟨x0, x1, x2, x3, x4, x5, x6, x7, x8, x9, x10⟩ := (aBlock.new w f).cells
  go_enter Tryd.func29, Tryd.ntmps29
  go_upto_region 2 with fail
  obtain ⟨W1, hW1⟩ : ∃ W1, W1 = ((w.alloc (.cells (aCells f) 27)).alloc (.cells (aCells fun _ => 0) 27)).alloc (.cells (aCells (vec [f 0, 0, 0, 0, 0, f 5, 0, 0, 0, 0, 0])) 27) := ⟨_, rfl⟩
  rw [← hW1] at HX
  have hW1' : W1 = ((w.alloc (.cells (aCells f) 27)).alloc (.cells #[.int .i64 0, .int .i64 0, .int .i64 0, .int .i64 0, .int .i64 0, .int .i64 0, .int .i64 0, .int .i64 0, .int .i64 0, .int .i64 0, .int .i64 0] 27)).alloc (.cells #[.int .i64 (f 0), .int .i64 0, .int .i64 0, .int .i64 0, .int .i64 0, .int .i64 (f 5), .int .i64 0, .int .i64 0, .int .i64 0, .int .i64 0, .int .i64 0] 27) := hW1
  rw [← hW1']
  clear hW1 hW1' x0 x1 x2 x3 x4 x5 x6 x7 x8 x9 x10
  obtain ⟨x0, x1, x2, x3, x4, x5, x6, x7, x8, x9, x10⟩ := (unveil HX).a.cells
  have H1 := unveil HC W1
  go_upto_region 3 with (go_at_call 26; refine H1.mono ?_; rintro e V1 ⟨rfl, b1⟩; clear H1 x0 x1 x2 x3 x4 x5 x6 x7 x8 x9 x10)
  have p1 := (unveil HX).next b1
  clear HX b1
  have zf := p1.x.free
  go_upto_region 22 with fail
  obtain ⟨U1, hU1, q1⟩ : ∃ U, U = V1 ∧ Ow w U f (vec [f 0, 0, 0, 0, 0, f 5, 0, 0, 0, 0, 0]) := ⟨_, rfl, p1⟩
  rw [← hU1]
  clear hU1 zf
  clear p1
  have H2 := unveil HC U1
  obtain ⟨x0, x1, x2, x3, x4, x5, x6, x7, x8, x9, x10⟩ := q1.a.cells
  go_upto_region 26 with (first | (go_at_call 26; refine H2.mono ?_; rintro e V2 ⟨rfl, b2⟩; clear H2 x0 x1 x2 x3 x4 x5 x6 x7 x8 x9 x10))
  have p2 := q1.next b2
  clear q1 b2
  obtain ⟨U2, hU2, q2⟩ : ∃ U, U = V2 ∧ Ow w U f (vec [f 0, 0, 0, 0, 0, f 5, 0, 0, 0, 0, 0]) := ⟨_, rfl, p2⟩
  rw [← hU2]
  clear hU2 p2
  have H3 := unveil HC U2
  obtain ⟨x0, x1, x2, x3, x4, x5, x6, x7, x8, x9, x10⟩ := q2.a.cells
  go_upto_region 28 with (first | (go_at_call 26; refine H3.mono ?_; rintro e V3 ⟨rfl, b3⟩; clear H3 x0 x1 x2 x3 x4 x5 x6 x7 x8 x9 x10))
  have p3 := q2.next b3
  clear q2 b3
  obtain ⟨U3, hU3, q3⟩ : ∃ U, U = V3 ∧ Ow w U f (vec [f 0, 0, 0, 0, 0, f 5, 0, 0, 0, 0, 0]) := ⟨_, rfl, p3⟩
  rw [← hU3]
  clear hU3 p3
  have z0 : U3.cell? ⟨w.heap.size + 2, 0, none⟩ = some (.int .i64 (f 0)) := q3.x.cell 0 (by omega)
  have z1 : U3.cell? ⟨w.heap.size + 2, 1, none⟩ = some (.int .i64 0) := q3.x.cell 1 (by omega)
  have z2 : U3.cell? ⟨w.heap.size + 2, 2, none⟩ = some (.int .i64 0) := q3.x.cell 2 (by omega)
  have z3 : U3.cell? ⟨w.heap.size + 2, 3, none⟩ = some (.int .i64 0) := q3.x.cell 3 (by omega)
  have z4 : U3.cell? ⟨w.heap.size + 2, 4, none⟩ = some (.int .i64 0) := q3.x.cell 4 (by omega)
  have z5 : U3.cell? ⟨w.heap.size + 2, 5, none⟩ = some (.int .i64 (f 5)) := q3.x.cell 5 (by omega)
  have z6 : U3.cell? ⟨w.heap.size + 2, 6, none⟩ = some (.int .i64 0) := q3.x.cell 6 (by omega)
  have z7 : U3.cell? ⟨w.heap.size + 2, 7, none⟩ = some (.int .i64 0) := q3.x.cell 7 (by omega)
  have z8 : U3.cell? ⟨w.heap.size + 2, 8, none⟩ = some (.int .i64 0) := q3.x.cell 8 (by omega)
  have z9 : U3.cell? ⟨w.heap.size + 2, 9, none⟩ = some (.int .i64 0) := q3.x.cell 9 (by omega)
  have z10 : U3.cell? ⟨w.heap.size + 2, 10, none⟩ = some (.int .i64 0) := q3.x.cell 10 (by omega)
  have zf := q3.x.free
  obtain ⟨r0, r1, r2, r3, r4, r5, r6, r7, r8, r9, r10⟩ := q3.r.cells
  have rf := q3.r.free
  have g0 : (f 0 != 2) = true := by rw [← (unveil HA).1]; decide
  go_wp2
  have q4 := (q3.put 5 (by omega) 0).ext (y := vec [f 0, 0, 0, 0, 0, 0, 0, 0, 0, 0, 0]) (below11 rfl rfl rfl rfl rfl rfl rfl rfl rfl rfl rfl)
  obtain ⟨W5, hW5, d5, b5, _⟩ := a_stored q4.r q4.bel (by omega) (f 0) (0) (0) (0) (0) (0) (0) (0) (0) (0) (0)
  rw [← hW5]
  refine bodyPost_ret (ret_actOf d5 rfl) rfl ⟨?_, b5⟩
  have h0 := (unveil HA).1
  have h5 := (unveil HA).2
  refine congrArg Ending.returned (aVal_ext (below11 ?_ ?_ ?_ ?_ ?_ ?_ ?_ ?_ ?_ ?_ ?_)) <;> first
    | rfl
    | exact h0.symm
    | exact (h5 (h0.symm.trans rfl)).symm
set_option maxRecDepth 20000 in
set_option maxHeartbeats 2000000 in
theorem refActOf_9 (f h : Nat → Int) (base : Nat) (v : Value) (w : World) (hi : kno (f 0) (f 5) = 9) (hr : iRow w base v ((noffs 9).map h)) : Calls Tryd.prog 29 #[aVal f, v] w fun e w' => e = .returned (aVal (over (noffs 9) (bareK 9) h)) ∧ Below w.heap.size w w' := by
  have HA : Hid (kact 9 = f 0 ∧ (f 0 = 2 → kop 9 = f 5)) := veil (by obtain ⟨h1, h2, _⟩ := kno_act (f 0) (f 5) (by omega); rw [hi] at h1 h2; exact ⟨h1, h2⟩)
  have HC : Hid (∀ u, Calls Tryd.prog 26 #[aVal f] u fun e w' => e = .returned (.string ⟨#[112, 117, 98, 108, 105, 115, 104]⟩) ∧ Below u.heap.size u w') := veil fun u => by
    have := actWord_any f u
    rw [hi] at this
    exact this
  clear hi
  obtain ⟨G, c, rfl, _, hG, hy, hc⟩ := hr.at (by rw [List.length_map]; decide)
  have hc' : 5 ≤ c := hc
  have hG2 : G ≠ w.heap.size + 2 := by omega
  have HY : Hid (∀ u f x, Ow w u f x → u.cell? ⟨G, 0, none⟩ = some (.int .i64 (h 1)) ∧ u.cell? ⟨G, 1, none⟩ = some (.int .i64 (h 2)) ∧ u.cell? ⟨G, 2, none⟩ = some (.int .i64 (h 6)) ∧ u.cell? ⟨G, 3, none⟩ = some (.int .i64 (h 7)) ∧ u.cell? ⟨G, 4, none⟩ = some (.int .i64 (h 8))) := veil fun u f x p => ⟨p.old hG (hy 0 (by rw [List.length_map]; decide)), p.old hG (hy 1 (by rw [List.length_map]; decide)), p.old hG (hy 2 (by rw [List.length_map]; decide)), p.old hG (hy 3 (by rw [List.length_map]; decide)), p.old hG (hy 4 (by rw [List.length_map]; decide))⟩
  clear hr hy hc hG
  rw [show ((noffs 9).map h).length = 5 by rfl]
  have HX := veil (Ow.first w f (f 0) (f 5))
  obtain ⟨x0, x1, x2, x3, x4, x5, x6, x7, x8, x9, x10⟩ := (aBlock.new w f).cells
  go_enter Tryd.func29, Tryd.ntmps29
  go_upto_region 2 with fail
  obtain ⟨W1, hW1⟩ : ∃ W1, W1 = ((w.alloc (.cells (aCells f) 27)).alloc (.cells (aCells fun _ => 0) 27)).alloc (.cells (aCells (vec [f 0, 0, 0, 0, 0, f 5, 0, 0, 0, 0, 0])) 27) := ⟨_, rfl⟩
  rw [← hW1] at HX
  have hW1' : W1 = ((w.alloc (.cells (aCells f) 27)).alloc (.cells #[.int .i64 0, .int .i64 0, .int .i64 0, .int .i64 0, .int .i64 0, .int .i64 0, .int .i64 0, .int .i64 0, .int .i64 0, .int .i64 0, .int .i64 0] 27)).alloc (.cells #[.int .i64 (f 0), .int .i64 0, .int .i64 0, .int .i64 0, .int .i64 0, .int .i64 (f 5), .int .i64 0, .int .i64 0, .int .i64 0, .int .i64 0, .int .i64 0] 27) := hW1
  rw [← hW1']
  clear hW1 hW1' x0 x1 x2 x3 x4 x5 x6 x7 x8 x9 x10
  obtain ⟨x0, x1, x2, x3, x4, x5, x6, x7, x8, x9, x10⟩ := (unveil HX).a.cells
  have H1 := unveil HC W1
  go_upto_region 3 with (go_at_call 26; refine H1.mono ?_; rintro e V1 ⟨rfl, b1⟩; clear H1 x0 x1 x2 x3 x4 x5 x6 x7 x8 x9 x10)
  have p1 := (unveil HX).next b1
  clear HX b1
  obtain ⟨y0, y1, y2, y3, y4⟩ := unveil HY _ _ _ p1
  have z1 : V1.cell? ⟨w.heap.size + 2, 1, none⟩ = some (.int .i64 0) := p1.x.cell 1 (by omega)
  have z2 : V1.cell? ⟨w.heap.size + 2, 2, none⟩ = some (.int .i64 0) := p1.x.cell 2 (by omega)
  have zf := p1.x.free
  go_upto_region 22 with fail
  obtain ⟨U1, hU1, q1⟩ : ∃ U, U = ((V1.setCell ⟨w.heap.size + 2, 1, none⟩ (.int .i64 (h 1))).setCell ⟨w.heap.size + 2, 2, none⟩ (.int .i64 (h 2))) ∧ Ow w U f (vec [f 0, h 1, h 2, 0, 0, f 5, 0, 0, 0, 0, 0]) := ⟨_, rfl, ((p1.put 1 (by omega) (h 1)).put 2 (by omega) (h 2)).ext (below11 rfl rfl rfl rfl rfl rfl rfl rfl rfl rfl rfl)⟩
  rw [← hU1]
  clear hU1 zf y0 y1 y2 y3 y4 z1 z2
  clear p1
  have H2 := unveil HC U1
  obtain ⟨x0, x1, x2, x3, x4, x5, x6, x7, x8, x9, x10⟩ := q1.a.cells
  go_upto_region 23 with (first | (go_at_call 26; refine H2.mono ?_; rintro e V2 ⟨rfl, b2⟩; clear H2 x0 x1 x2 x3 x4 x5 x6 x7 x8 x9 x10))
  have p2 := q1.next b2
  clear q1 b2
  obtain ⟨y0, y1, y2, y3, y4⟩ := unveil HY _ _ _ p2
  have z6 : V2.cell? ⟨w.heap.size + 2, 6, none⟩ = some (.int .i64 0) := p2.x.cell 6 (by omega)
  have z7 : V2.cell? ⟨w.heap.size + 2, 7, none⟩ = some (.int .i64 0) := p2.x.cell 7 (by omega)
  have z8 : V2.cell? ⟨w.heap.size + 2, 8, none⟩ = some (.int .i64 0) := p2.x.cell 8 (by omega)
  have zf := p2.x.free
  go_upto_region 26 with fail
  obtain ⟨U2, hU2, q2⟩ : ∃ U, U = (((V2.setCell ⟨w.heap.size + 2, 6, none⟩ (.int .i64 (h 6))).setCell ⟨w.heap.size + 2, 7, none⟩ (.int .i64 (h 7))).setCell ⟨w.heap.size + 2, 8, none⟩ (.int .i64 (h 8))) ∧ Ow w U f (vec [f 0, h 1, h 2, 0, 0, f 5, h 6, h 7, h 8, 0, 0]) := ⟨_, rfl, (((p2.put 6 (by omega) (h 6)).put 7 (by omega) (h 7)).put 8 (by omega) (h 8)).ext (below11 rfl rfl rfl rfl rfl rfl rfl rfl rfl rfl rfl)⟩
  rw [← hU2]
  clear hU2 zf y0 y1 y2 y3 y4 z6 z7 z8 p2
  have H3 := unveil HC U2
  obtain ⟨x0, x1, x2, x3, x4, x5, x6, x7, x8, x9, x10⟩ := q2.a.cells
  go_upto_region 28 with (first | (go_at_call 26; refine H3.mono ?_; rintro e V3 ⟨rfl, b3⟩; clear H3 x0 x1 x2 x3 x4 x5 x6 x7 x8 x9 x10))
  have p3 := q2.next b3
  clear q2 b3
  obtain ⟨U3, hU3, q3⟩ : ∃ U, U = V3 ∧ Ow w U f (vec [f 0, h 1, h 2, 0, 0, f 5, h 6, h 7, h 8, 0, 0]) := ⟨_, rfl, p3⟩
  rw [← hU3]
  clear hU3 p3
  have z0 : U3.cell? ⟨w.heap.size + 2, 0, none⟩ = some (.int .i64 (f 0)) := q3.x.cell 0 (by omega)
  have z1 : U3.cell? ⟨w.heap.size + 2, 1, none⟩ = some (.int .i64 (h 1)) := q3.x.cell 1 (by omega)
  have z2 : U3.cell? ⟨w.heap.size + 2, 2, none⟩ = some (.int .i64 (h 2)) := q3.x.cell 2 (by omega)
  have z3 : U3.cell? ⟨w.heap.size + 2, 3, none⟩ = some (.int .i64 0) := q3.x.cell 3 (by omega)
  have z4 : U3.cell? ⟨w.heap.size + 2, 4, none⟩ = some (.int .i64 0) := q3.x.cell 4 (by omega)
  have z5 : U3.cell? ⟨w.heap.size + 2, 5, none⟩ = some (.int .i64 (f 5)) := q3.x.cell 5 (by omega)
  have z6 : U3.cell? ⟨w.heap.size + 2, 6, none⟩ = some (.int .i64 (h 6)) := q3.x.cell 6 (by omega)
  have z7 : U3.cell? ⟨w.heap.size + 2, 7, none⟩ = some (.int .i64 (h 7)) := q3.x.cell 7 (by omega)
  have z8 : U3.cell? ⟨w.heap.size + 2, 8, none⟩ = some (.int .i64 (h 8)) := q3.x.cell 8 (by omega)
  have z9 : U3.cell? ⟨w.heap.size + 2, 9, none⟩ = some (.int .i64 0) := q3.x.cell 9 (by omega)
  have z10 : U3.cell? ⟨w.heap.size + 2, 10, none⟩ = some (.int .i64 0) := q3.x.cell 10 (by omega)
  have zf := q3.x.free
  obtain ⟨r0, r1, r2, r3, r4, r5, r6, r7, r8, r9, r10⟩ := q3.r.cells
  have rf := q3.r.free
  have g0 : (f 0 != 2) = false := by rw [← (unveil HA).1]; decide
  go_wp2
  obtain ⟨W5, hW5, d5, b5, _⟩ := a_stored q3.r q3.bel (by omega) (f 0) (h 1) (h 2) (0) (0) (f 5) (h 6) (h 7) (h 8) (0) (0)
  rw [← hW5]
  refine bodyPost_ret (ret_actOf d5 rfl) rfl ⟨?_, b5⟩
  have h0 := (unveil HA).1
  have h5 := (unveil HA).2
  refine congrArg Ending.returned (aVal_ext (below11 ?_ ?_ ?_ ?_ ?_ ?_ ?_ ?_ ?_ ?_ ?_)) <;> first
    | rfl
    | exact h0.symm
    | exact (h5 (h0.symm.trans rfl)).symm
set_option maxRecDepth 20000 in
set_option maxHeartbeats 2000000 in
theorem refActOf_10 (f h : Nat → Int) (base : Nat) (v : Value) (w : World) (hi : kno (f 0) (f 5) = 10) (hr : iRow w base v ((noffs 10).map h)) : Calls Tryd.prog 29 #[aVal f, v] w fun e w' => e = .returned (aVal (over (noffs 10) (bareK 10) h)) ∧ Below w.heap.size w w' := by
  have HA : Hid (kact 10 = f 0 ∧ (f 0 = 2 → kop 10 = f 5)) := veil (by obtain ⟨h1, h2, _⟩ := kno_act (f 0) (f 5) (by omega); rw [hi] at h1 h2; exact ⟨h1, h2⟩)
  have HC : Hid (∀ u, Calls Tryd.prog 26 #[aVal f] u fun e w' => e = .returned (.string ⟨#[114, 101, 99, 101, 105, 118, 101]⟩) ∧ Below u.heap.size u w') := veil fun u => by
    have := actWord_any f u
    rw [hi] at this
    exact this
  clear hi
  obtain ⟨G, c, rfl, _, hG, hy, hc⟩ := hr.at (by rw [List.length_map]; decide)
  have hc' : 2 ≤ c := hc
  have hG2 : G ≠ w.heap.size + 2 := by omega
  have HY : Hid (∀ u f x, Ow w u f x → u.cell? ⟨G, 0, none⟩ = some (.int .i64 (h 1)) ∧ u.cell? ⟨G, 1, none⟩ = some (.int .i64 (h 2))) := veil fun u f x p => ⟨p.old hG (hy 0 (by rw [List.length_map]; decide)), p.old hG (hy 1 (by rw [List.length_map]; decide))⟩
  clear hr hy hc hG
  rw [show ((noffs 10).map h).length = 2 by rfl]
  have HX := veil (Ow.first w f (f 0) (f 5))
  obtain ⟨x0, x1, x2, x3, x4, x5, x6, x7, x8, x9, x10⟩ := (aBlock.new w f).cells
  go_enter Tryd.func29, Tryd.ntmps29
  go_upto_region 2 with fail
  obtain ⟨W1, hW1⟩ : ∃ W1, W1 = ((w.alloc (.cells (aCells f) 27)).alloc (.cells (aCells fun _ => 0) 27)).alloc (.cells (aCells (vec [f 0, 0, 0, 0, 0, f 5, 0, 0, 0, 0, 0])) 27) := ⟨_, rfl⟩
  rw [← hW1] at HX
  have hW1' : W1 = ((w.alloc (.cells (aCells f) 27)).alloc (.cells #[.int .i64 0, .int .i64 0, .int .i64 0, .int .i64 0, .int .i64 0, .int .i64 0, .int .i64 0, .int .i64 0, .int .i64 0, .int .i64 0, .int .i64 0] 27)).alloc (.cells #[.int .i64 (f 0), .int .i64 0, .int .i64 0, .int .i64 0, .int .i64 0, .int .i64 (f 5), .int .i64 0, .int .i64 0, .int .i64 0, .int .i64 0, .int .i64 0] 27) := hW1
  rw [← hW1']
  clear hW1 hW1' x0 x1 x2 x3 x4 x5 x6 x7 x8 x9 x10
  obtain ⟨x0, x1, x2, x3, x4, x5, x6, x7, x8, x9, x10⟩ := (unveil HX).a.cells
  have H1 := unveil HC W1
  go_upto_region 3 with (go_at_call 26; refine H1.mono ?_; rintro e V1 ⟨rfl, b1⟩; clear H1 x0 x1 x2 x3 x4 x5 x6 x7 x8 x9 x10)
  have p1 := (unveil HX).next b1
  clear HX b1
  obtain ⟨y0, y1⟩ := unveil HY _ _ _ p1
  have z1 : V1.cell? ⟨w.heap.size + 2, 1, none⟩ = some (.int .i64 0) := p1.x.cell 1 (by omega)
  have z2 : V1.cell? ⟨w.heap.size + 2, 2, none⟩ = some (.int .i64 0) := p1.x.cell 2 (by omega)
  have zf := p1.x.free
  go_upto_region 22 with fail
  obtain ⟨U1, hU1, q1⟩ : ∃ U, U = ((V1.setCell ⟨w.heap.size + 2, 1, none⟩ (.int .i64 (h 1))).setCell ⟨w.heap.size + 2, 2, none⟩ (.int .i64 (h 2))) ∧ Ow w U f (vec [f 0, h 1, h 2, 0, 0, f 5, 0, 0, 0, 0, 0]) := ⟨_, rfl, ((p1.put 1 (by omega) (h 1)).put 2 (by omega) (h 2)).ext (below11 rfl rfl rfl rfl rfl rfl rfl rfl rfl rfl rfl)⟩
  rw [← hU1]
  clear hU1 zf y0 y1 z1 z2
  clear p1
  have H2 := unveil HC U1
  obtain ⟨x0, x1, x2, x3, x4, x5, x6, x7, x8, x9, x10⟩ := q1.a.cells
  go_upto_region 26 with (first | (go_at_call 26; refine H2.mono ?_; rintro e V2 ⟨rfl, b2⟩; clear H2 x0 x1 x2 x3 x4 x5 x6 x7 x8 x9 x10))
  have p2 := q1.next b2
  clear q1 b2
  obtain ⟨U2, hU2, q2⟩ : ∃ U, U = V2 ∧ Ow w U f (vec [f 0, h 1, h 2, 0, 0, f 5, 0, 0, 0, 0, 0]) := ⟨_, rfl, p2⟩
  rw [← hU2]
  clear hU2 p2
  have H3 := unveil HC U2
  obtain ⟨x0, x1, x2, x3, x4, x5, x6, x7, x8, x9, x10⟩ := q2.a.cells
  go_upto_region 28 with (first | (go_at_call 26; refine H3.mono ?_; rintro e V3 ⟨rfl, b3⟩; clear H3 x0 x1 x2 x3 x4 x5 x6 x7 x8 x9 x10))
  have p3 := q2.next b3
  clear q2 b3
  obtain ⟨U3, hU3, q3⟩ : ∃ U, U = V3 ∧ Ow w U f (vec [f 0, h 1, h 2, 0, 0, f 5, 0, 0, 0, 0, 0]) := ⟨_, rfl, p3⟩
  rw [← hU3]
  clear hU3 p3
  have z0 : U3.cell? ⟨w.heap.size + 2, 0, none⟩ = some (.int .i64 (f 0)) := q3.x.cell 0 (by omega)
  have z1 : U3.cell? ⟨w.heap.size + 2, 1, none⟩ = some (.int .i64 (h 1)) := q3.x.cell 1 (by omega)
  have z2 : U3.cell? ⟨w.heap.size + 2, 2, none⟩ = some (.int .i64 (h 2)) := q3.x.cell 2 (by omega)
  have z3 : U3.cell? ⟨w.heap.size + 2, 3, none⟩ = some (.int .i64 0) := q3.x.cell 3 (by omega)
  have z4 : U3.cell? ⟨w.heap.size + 2, 4, none⟩ = some (.int .i64 0) := q3.x.cell 4 (by omega)
  have z5 : U3.cell? ⟨w.heap.size + 2, 5, none⟩ = some (.int .i64 (f 5)) := q3.x.cell 5 (by omega)
  have z6 : U3.cell? ⟨w.heap.size + 2, 6, none⟩ = some (.int .i64 0) := q3.x.cell 6 (by omega)
  have z7 : U3.cell? ⟨w.heap.size + 2, 7, none⟩ = some (.int .i64 0) := q3.x.cell 7 (by omega)
  have z8 : U3.cell? ⟨w.heap.size + 2, 8, none⟩ = some (.int .i64 0) := q3.x.cell 8 (by omega)
  have z9 : U3.cell? ⟨w.heap.size + 2, 9, none⟩ = some (.int .i64 0) := q3.x.cell 9 (by omega)
  have z10 : U3.cell? ⟨w.heap.size + 2, 10, none⟩ = some (.int .i64 0) := q3.x.cell 10 (by omega)
  have zf := q3.x.free
  obtain ⟨r0, r1, r2, r3, r4, r5, r6, r7, r8, r9, r10⟩ := q3.r.cells
  have rf := q3.r.free
  have g0 : (f 0 != 2) = false := by rw [← (unveil HA).1]; decide
  go_wp2
  obtain ⟨W5, hW5, d5, b5, _⟩ := a_stored q3.r q3.bel (by omega) (f 0) (h 1) (h 2) (0) (0) (f 5) (0) (0) (0) (0) (0)
  rw [← hW5]
  refine bodyPost_ret (ret_actOf d5 rfl) rfl ⟨?_, b5⟩
  have h0 := (unveil HA).1
  have h5 := (unveil HA).2
  refine congrArg Ending.returned (aVal_ext (below11 ?_ ?_ ?_ ?_ ?_ ?_ ?_ ?_ ?_ ?_ ?_)) <;> first
    | rfl
    | exact h0.symm
    | exact (h5 (h0.symm.trans rfl)).symm
set_option maxRecDepth 20000 in
set_option maxHeartbeats 2000000 in
theorem refActOf_11 (f h : Nat → Int) (base : Nat) (v : Value) (w : World) (hi : kno (f 0) (f 5) = 11) (hr : iRow w base v ((noffs 11).map h)) : Calls Tryd.prog 29 #[aVal f, v] w fun e w' => e = .returned (aVal (over (noffs 11) (bareK 11) h)) ∧ Below w.heap.size w w' := by
  have HA : Hid (kact 11 = f 0 ∧ (f 0 = 2 → kop 11 = f 5)) := veil (by obtain ⟨h1, h2, _⟩ := kno_act (f 0) (f 5) (by omega); rw [hi] at h1 h2; exact ⟨h1, h2⟩)
  have HC : Hid (∀ u, Calls Tryd.prog 26 #[aVal f] u fun e w' => e = .returned (.string ⟨#[97, 99, 107]⟩) ∧ Below u.heap.size u w') := veil fun u => by
    have := actWord_any f u
    rw [hi] at this
    exact this
  clear hi
  obtain ⟨G, c, rfl, _, hG, hy, hc⟩ := hr.at (by rw [List.length_map]; decide)
  have hc' : 4 ≤ c := hc
  have hG2 : G ≠ w.heap.size + 2 := by omega
  have HY : Hid (∀ u f x, Ow w u f x → u.cell? ⟨G, 0, none⟩ = some (.int .i64 (h 1)) ∧ u.cell? ⟨G, 1, none⟩ = some (.int .i64 (h 2)) ∧ u.cell? ⟨G, 2, none⟩ = some (.int .i64 (h 9)) ∧ u.cell? ⟨G, 3, none⟩ = some (.int .i64 (h 10))) := veil fun u f x p => ⟨p.old hG (hy 0 (by rw [List.length_map]; decide)), p.old hG (hy 1 (by rw [List.length_map]; decide)), p.old hG (hy 2 (by rw [List.length_map]; decide)), p.old hG (hy 3 (by rw [List.length_map]; decide))⟩
  clear hr hy hc hG
  rw [show ((noffs 11).map h).length = 4 by rfl]
  have HX := veil (Ow.first w f (f 0) (f 5))
  obtain ⟨x0, x1, x2, x3, x4, x5, x6, x7, x8, x9, x10⟩ := (aBlock.new w f).cells
  go_enter Tryd.func29, Tryd.ntmps29
  go_upto_region 2 with fail
  obtain ⟨W1, hW1⟩ : ∃ W1, W1 = ((w.alloc (.cells (aCells f) 27)).alloc (.cells (aCells fun _ => 0) 27)).alloc (.cells (aCells (vec [f 0, 0, 0, 0, 0, f 5, 0, 0, 0, 0, 0])) 27) := ⟨_, rfl⟩
  rw [← hW1] at HX
  have hW1' : W1 = ((w.alloc (.cells (aCells f) 27)).alloc (.cells #[.int .i64 0, .int .i64 0, .int .i64 0, .int .i64 0, .int .i64 0, .int .i64 0, .int .i64 0, .int .i64 0, .int .i64 0, .int .i64 0, .int .i64 0] 27)).alloc (.cells #[.int .i64 (f 0), .int .i64 0, .int .i64 0, .int .i64 0, .int .i64 0, .int .i64 (f 5), .int .i64 0, .int .i64 0, .int .i64 0, .int .i64 0, .int .i64 0] 27) := hW1
  rw [← hW1']
  clear hW1 hW1' x0 x1 x2 x3 x4 x5 x6 x7 x8 x9 x10
  obtain ⟨x0, x1, x2, x3, x4, x5, x6, x7, x8, x9, x10⟩ := (unveil HX).a.cells
  have H1 := unveil HC W1
  go_upto_region 3 with (go_at_call 26; refine H1.mono ?_; rintro e V1 ⟨rfl, b1⟩; clear H1 x0 x1 x2 x3 x4 x5 x6 x7 x8 x9 x10)
  have p1 := (unveil HX).next b1
  clear HX b1
  obtain ⟨y0, y1, y2, y3⟩ := unveil HY _ _ _ p1
  have z1 : V1.cell? ⟨w.heap.size + 2, 1, none⟩ = some (.int .i64 0) := p1.x.cell 1 (by omega)
  have z2 : V1.cell? ⟨w.heap.size + 2, 2, none⟩ = some (.int .i64 0) := p1.x.cell 2 (by omega)
  have zf := p1.x.free
  go_upto_region 22 with fail
  obtain ⟨U1, hU1, q1⟩ : ∃ U, U = ((V1.setCell ⟨w.heap.size + 2, 1, none⟩ (.int .i64 (h 1))).setCell ⟨w.heap.size + 2, 2, none⟩ (.int .i64 (h 2))) ∧ Ow w U f (vec [f 0, h 1, h 2, 0, 0, f 5, 0, 0, 0, 0, 0]) := ⟨_, rfl, ((p1.put 1 (by omega) (h 1)).put 2 (by omega) (h 2)).ext (below11 rfl rfl rfl rfl rfl rfl rfl rfl rfl rfl rfl)⟩
  rw [← hU1]
  clear hU1 zf y0 y1 y2 y3 z1 z2
  clear p1
  have H2 := unveil HC U1
  obtain ⟨x0, x1, x2, x3, x4, x5, x6, x7, x8, x9, x10⟩ := q1.a.cells
  go_upto_region 26 with (first | (go_at_call 26; refine H2.mono ?_; rintro e V2 ⟨rfl, b2⟩; clear H2 x0 x1 x2 x3 x4 x5 x6 x7 x8 x9 x10))
  have p2 := q1.next b2
  clear q1 b2
  obtain ⟨U2, hU2, q2⟩ : ∃ U, U = V2 ∧ Ow w U f (vec [f 0, h 1, h 2, 0, 0, f 5, 0, 0, 0, 0, 0]) := ⟨_, rfl, p2⟩
  rw [← hU2]
  clear hU2 p2
  have H3 := unveil HC U2
  obtain ⟨x0, x1, x2, x3, x4, x5, x6, x7, x8, x9, x10⟩ := q2.a.cells
  go_upto_region 27 with (first | (go_at_call 26; refine H3.mono ?_; rintro e V3 ⟨rfl, b3⟩; clear H3 x0 x1 x2 x3 x4 x5 x6 x7 x8 x9 x10))
  have p3 := q2.next b3
  clear q2 b3
  obtain ⟨y0, y1, y2, y3⟩ := unveil HY _ _ _ p3
  have z9 : V3.cell? ⟨w.heap.size + 2, 9, none⟩ = some (.int .i64 0) := p3.x.cell 9 (by omega)
  have z10 : V3.cell? ⟨w.heap.size + 2, 10, none⟩ = some (.int .i64 0) := p3.x.cell 10 (by omega)
  have zf := p3.x.free
  go_region
  go_upto_region 28 with fail
  obtain ⟨U3, hU3, q3⟩ : ∃ U, U = ((V3.setCell ⟨w.heap.size + 2, 9, none⟩ (.int .i64 (h 9))).setCell ⟨w.heap.size + 2, 10, none⟩ (.int .i64 (h 10))).drew ∧ Ow w U f (vec [f 0, h 1, h 2, 0, 0, f 5, 0, 0, 0, h 9, h 10]) := ⟨_, rfl, (((p3.put 9 (by omega) (h 9)).put 10 (by omega) (h 10)).ext (y := vec [f 0, h 1, h 2, 0, 0, f 5, 0, 0, 0, h 9, h 10]) (below11 rfl rfl rfl rfl rfl rfl rfl rfl rfl rfl rfl)).next (below_drew _)⟩
  rw [← hU3]
  clear hU3 zf y0 y1 y2 y3 z9 z10 p3
  have z0 : U3.cell? ⟨w.heap.size + 2, 0, none⟩ = some (.int .i64 (f 0)) := q3.x.cell 0 (by omega)
  have z1 : U3.cell? ⟨w.heap.size + 2, 1, none⟩ = some (.int .i64 (h 1)) := q3.x.cell 1 (by omega)
  have z2 : U3.cell? ⟨w.heap.size + 2, 2, none⟩ = some (.int .i64 (h 2)) := q3.x.cell 2 (by omega)
  have z3 : U3.cell? ⟨w.heap.size + 2, 3, none⟩ = some (.int .i64 0) := q3.x.cell 3 (by omega)
  have z4 : U3.cell? ⟨w.heap.size + 2, 4, none⟩ = some (.int .i64 0) := q3.x.cell 4 (by omega)
  have z5 : U3.cell? ⟨w.heap.size + 2, 5, none⟩ = some (.int .i64 (f 5)) := q3.x.cell 5 (by omega)
  have z6 : U3.cell? ⟨w.heap.size + 2, 6, none⟩ = some (.int .i64 0) := q3.x.cell 6 (by omega)
  have z7 : U3.cell? ⟨w.heap.size + 2, 7, none⟩ = some (.int .i64 0) := q3.x.cell 7 (by omega)
  have z8 : U3.cell? ⟨w.heap.size + 2, 8, none⟩ = some (.int .i64 0) := q3.x.cell 8 (by omega)
  have z9 : U3.cell? ⟨w.heap.size + 2, 9, none⟩ = some (.int .i64 (h 9)) := q3.x.cell 9 (by omega)
  have z10 : U3.cell? ⟨w.heap.size + 2, 10, none⟩ = some (.int .i64 (h 10)) := q3.x.cell 10 (by omega)
  have zf := q3.x.free
  obtain ⟨r0, r1, r2, r3, r4, r5, r6, r7, r8, r9, r10⟩ := q3.r.cells
  have rf := q3.r.free
  have g0 : (f 0 != 2) = false := by rw [← (unveil HA).1]; decide
  go_wp2
  obtain ⟨W5, hW5, d5, b5, _⟩ := a_stored q3.r q3.bel (by omega) (f 0) (h 1) (h 2) (0) (0) (f 5) (0) (0) (0) (h 9) (h 10)
  rw [← hW5]
  refine bodyPost_ret (ret_actOf d5 rfl) rfl ⟨?_, b5⟩
  have h0 := (unveil HA).1
  have h5 := (unveil HA).2
  refine congrArg Ending.returned (aVal_ext (below11 ?_ ?_ ?_ ?_ ?_ ?_ ?_ ?_ ?_ ?_ ?_)) <;> first
    | rfl
    | exact h0.symm
    | exact (h5 (h0.symm.trans rfl)).symm
theorem refActOf_any (f h : Nat → Int) (base : Nat) (v : Value) (w : World) (hi : kno (f 0) (f 5) < 12) (hr : iRow w base v ((noffs (kno (f 0) (f 5))).map h)) : Calls Tryd.prog 29 #[aVal f, v] w fun e w' => e = .returned (aVal (over (noffs (kno (f 0) (f 5))) (bareK (kno (f 0) (f 5))) h)) ∧ Below w.heap.size w w' := by
  rcases kno_cases (f 0) (f 5) with ⟨_, g⟩ | ⟨_, g⟩ | ⟨_, g⟩ | ⟨_, g⟩ | ⟨_, g⟩ | ⟨_, g⟩ | ⟨_, g⟩ | ⟨_, g⟩ | ⟨_, g⟩ | ⟨_, _, g⟩ | ⟨_, _, g⟩ | ⟨_, _, g⟩ | ⟨g, _⟩
  · rw [g] at hr ⊢; exact refActOf_0 f h base v w g hr
  · rw [g] at hr ⊢; exact refActOf_1 f h base v w g hr
  · rw [g] at hr ⊢; exact refActOf_2 f h base v w g hr
  · rw [g] at hr ⊢; exact refActOf_3 f h base v w g hr
  · rw [g] at hr ⊢; exact refActOf_4 f h base v w g hr
  · rw [g] at hr ⊢; exact refActOf_5 f h base v w g hr
  · rw [g] at hr ⊢; exact refActOf_6 f h base v w g hr
  · rw [g] at hr ⊢; exact refActOf_7 f h base v w g hr
  · rw [g] at hr ⊢; exact refActOf_8 f h base v w g hr
  · rw [g] at hr ⊢; exact refActOf_9 f h base v w g hr
  · rw [g] at hr ⊢; exact refActOf_10 f h base v w g hr
  · rw [g] at hr ⊢; exact refActOf_11 f h base v w g hr
  · omega
end Go.Proofs.YtekbdkppnjnaaaaDoor
