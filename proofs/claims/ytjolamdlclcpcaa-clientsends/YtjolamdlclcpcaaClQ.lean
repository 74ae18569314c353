/- The walks of berthshiftlaw's ClientSends, ClientDones. -/
import Derived.Test.YtjolamdlclcpcaaClN
namespace Go.Proofs.Ytjolamdlclcpcaa
open Go.RowKit

set_option maxRecDepth 20000 in
set_option maxHeartbeats 4000000 in
theorem walk_ClientDones (w : World) (C : Cl) (a : Option Addr) (c : Nat) (h : CIn w C a c) (id : Int) (_ : (Lit.int .i64 id).wf = true) :
    Calls Try.prog 6 #[cVal C.p C.n a C.es.length c C.wh, .int .i64 id] w fun e w' => e = .returned (.bool true) ∧ Below w.heap.size w w' := by
  obtain ⟨W, hW, cb, B0⟩ := one_cl w C.p C.n a C.es.length c C.wh
  have H1 := clients_any C a c W (h.next B0)
  have H2 : Hid (∀ W a' c', CIn W C a' c' → Calls Try.prog 21 #[cVal C.p C.n a' C.es.length c' C.wh, .int .i64 id] W fun e w' => ∃ x, e = .returned x ∧ DoneOut W w' C id x ∧ Below W.heap.size W w') := veil fun W a' c' hc => done_any C a' c' id W hc
  have H3 : Hid (∀ W, Below w.heap.size w W → Calls Try.prog 22 #[cVal C.p C.n a C.es.length c C.wh, .int .i64 id] W fun e w' => ∃ x, e = .returned x ∧ DoneOut W w' C id x ∧ Below W.heap.size W w') := veil fun W b => refDone_any C a c id W (h.next b)
  have HB := veil (And.intro cb (And.intro B0 h))
  clear h
  go_enter Try.func6, Try.ntmps6
  go_upto_region 1 with fail
  rw [← hW]
  clear hW
  obtain ⟨c0, c1, c2, c3, c4, c5, c6⟩ := cb.cells
  clear cb B0
  go_upto_region 2 with (go_at_call 14; refine H1.mono ?_; rintro e W1 ⟨a1, k1, rfl, i1, d1⟩; clear H1 c0 c1 c2 c3 c4 c5 c6; have HI1 := veil (And.intro i1 d1); clear i1 d1)
  obtain ⟨W2, hW2, cb2, xb2, i2, B2⟩ : ∃ W2, W2 = W1.alloc (.cells (cCells C.p C.n a1 C.es.length k1 C.wh) 25) ∧ cBlock W2 w.heap.size C.p C.n a C.es.length c C.wh ∧ cBlock W2 W1.heap.size C.p C.n a1 C.es.length k1 C.wh ∧ CIn W2 C a1 k1 ∧ Below w.heap.size w W2 := ⟨_, rfl, ((unveil HB).1.next (unveil HI1).2).next (below1 _ _), cBlock.new _ _ _ _ _ _ _, (unveil HI1).1.next (below1 _ _), Below.next (Below.next (unveil HB).2.1 (unveil HI1).2) (below1 _ _)⟩
  rw [← hW2]
  clear hW2
  generalize W1.heap.size = X at *
  have H4 := unveil H2 W2 a1 k1 i2
  obtain ⟨x0, x1, x2, x3, x4, x5, x6⟩ := xb2.cells
  have H2' := veil (And.intro cb2 (And.intro xb2 (And.intro i2 B2)))
  clear cb2 xb2 i2 B2 H2 HI1
  go_upto_region 3 with (go_at_call 21; refine H4.mono ?_; rintro e W3 ⟨x3, rfl, ⟨D3, y3, e3, rfl, r3, ⟨a3, k3, rfl, i3, _⟩⟩, d3⟩; clear H4 x0 x1 x2 x3 x4 x5 x6; have HI3 := veil (And.intro r3 (And.intro i3 d3)); clear r3 i3 d3)
  obtain ⟨W4, hW4, cb4, xb4, yb4, i4, j4, B4⟩ : ∃ W4, W4 = W3.alloc (.cells (cCells D3.p D3.n a3 D3.es.length k3 D3.wh) 25) ∧ cBlock W4 w.heap.size C.p C.n a C.es.length c C.wh ∧ cBlock W4 X C.p C.n a1 C.es.length k1 C.wh ∧ cBlock W4 W3.heap.size D3.p D3.n a3 D3.es.length k3 D3.wh ∧ CIn W4 C a1 k1 ∧ CIn W4 D3 a3 k3 ∧ Below w.heap.size w W4 := ⟨_, rfl, ((unveil H2').1.next (unveil HI3).2.2).next (below1 _ _), ((unveil H2').2.1.next (unveil HI3).2.2).next (below1 _ _), cBlock.new _ _ _ _ _ _ _, ((unveil H2').2.2.1.next (unveil HI3).2.2).next (below1 _ _), (unveil HI3).2.1.next (below1 _ _), Below.next (Below.next (unveil H2').2.2.2 (unveil HI3).2.2) (below1 _ _)⟩
  rw [← hW4]
  clear hW4
  have HR3 := veil (unveil HI3).1
  generalize W3.heap.size = Y at *
  have H5 := unveil H3 W4 B4
  obtain ⟨c0, c1, c2, c3, c4, c5, c6⟩ := cb4.cells
  have H4' := veil (And.intro cb4 (And.intro xb4 (And.intro yb4 (And.intro i4 (And.intro j4 B4)))))
  clear cb4 xb4 yb4 i4 j4 B4 H3 HI3 H2'
  go_upto_region 4 with (go_at_call 22; refine H5.mono ?_; rintro e W5 ⟨x5, rfl, ⟨D5, y5, e5, rfl, r5, ⟨a5, k5, rfl, i5, _⟩⟩, d5⟩; obtain ⟨hsame, rfl⟩ := (unveil HR3).det r5; clear H5 c0 c1 c2 c3 c4 c5 c6; have HI5 := veil (And.intro hsame (And.intro i5 d5)); clear r5 i5 d5 hsame)
  obtain ⟨W6, hW6, cb6, xb6, yb6, zb6, B6, S1, HS2⟩ : ∃ W6, W6 = W5.alloc (.cells (cCells D5.p D5.n a5 D5.es.length k5 D5.wh) 25) ∧ cBlock W6 w.heap.size C.p C.n a C.es.length c C.wh ∧ cBlock W6 X C.p C.n a1 C.es.length k1 C.wh ∧ cBlock W6 Y D3.p D3.n a3 D3.es.length k3 D3.wh ∧ cBlock W6 W5.heap.size D5.p D5.n a5 D5.es.length k5 D5.wh ∧ Below w.heap.size w W6 ∧
      (Calls Try.prog 18 #[cVal D3.p D3.n a3 D3.es.length k3 D3.wh, cVal D5.p D5.n a5 D5.es.length k5 D5.wh] W6 fun e w' => e = .returned (.bool true) ∧ Below W6.heap.size W6 w') ∧
      Hid (∀ W7, Below W6.heap.size W6 W7 → Calls Try.prog 18 #[cVal C.p C.n a1 C.es.length k1 C.wh, cVal C.p C.n a C.es.length c C.wh] W7 fun e w' => e = .returned (.bool true) ∧ Below W7.heap.size W7 w') := by
    have d := (unveil HI5).2.2
    have b6 := Below.next (Below.next (unveil H4').2.2.2.2.2 d) (below1 W5 (.cells (cCells D5.p D5.n a5 D5.es.length k5 D5.wh) 25))
    exact ⟨_, rfl, ((unveil H4').1.next d).next (below1 _ _), ((unveil H4').2.1.next d).next (below1 _ _), ((unveil H4').2.2.1.next d).next (below1 _ _), cBlock.new _ _ _ _ _ _ _, b6,
      sameClient_yes D3 D5 a3 k3 a5 k5 _ (((unveil H4').2.2.2.2.1.next d).next (below1 _ _)) ((unveil HI5).2.1.next (below1 _ _)) (unveil HI5).1,
      veil fun W7 b7 => sameClient_one C a1 k1 a c W7 ((((unveil H4').2.2.2.1.next d).next (below1 _ _)).next b7) ((unveil HB).2.2.next (Below.next b6 b7))⟩
  rw [← hW6]
  clear hW6 HI5
  generalize W5.heap.size = Z at *
  obtain ⟨y0, y1, y2, y3, y4, y5, y6⟩ := yb6.cells
  obtain ⟨z0, z1, z2, z3, z4, z5, z6⟩ := zb6.cells
  have H6 := veil (And.intro cb6 (And.intro xb6 B6))
  clear cb6 xb6 yb6 zb6 B6 H4' HB HR3
  go_wp2_with (first
    | (go_at_call 18; with_reducible refine S1.mono ?_; rintro e W7 ⟨rfl, d7⟩; clear S1 y0 y1 y2 y3 y4 y5 y6 z0 z1 z2 z3 z4 z5 z6; have S2 := unveil HS2 W7 d7; obtain ⟨x0, x1, x2, x3, x4, x5, x6⟩ := ((unveil H6).2.1.next d7).cells; obtain ⟨c0, c1, c2, c3, c4, c5, c6⟩ := ((unveil H6).1.next d7).cells; clear HS2)
    | (go_at_call 18; refine S2.mono ?_; rintro e W8 ⟨rfl, d8⟩; clear S2))
  go_ret
  exact ⟨by simp, Below.next (Below.next (unveil H6).2.2 d7) d8⟩

set_option maxRecDepth 20000 in
set_option maxHeartbeats 4000000 in
theorem walk_ClientSends (w : World) (C : Cl) (a : Option Addr) (c : Nat) (h : CIn w C a c) (b : Int) (_ : (Lit.int .i64 b).wf = true) :
    Calls Try.prog 5 #[cVal C.p C.n a C.es.length c C.wh, .int .i64 b] w fun e w' => e = .returned (.bool true) ∧ Below w.heap.size w w' := by
  obtain ⟨W, hW, cb, B0⟩ := one_cl w C.p C.n a C.es.length c C.wh
  have H1 := clients_any C a c W (h.next B0)
  have H2 : Hid (∀ W a' c', CIn W C a' c' → Calls Try.prog 19 #[cVal C.p C.n a' C.es.length c' C.wh, .int .i64 b] W fun e w' => ∃ x, e = .returned x ∧ SendOut W w' C b x ∧ Below W.heap.size W w') := veil fun W a' c' hc => send_any C a' c' b W hc
  have H3 : Hid (∀ W, Below w.heap.size w W → Calls Try.prog 20 #[cVal C.p C.n a C.es.length c C.wh, .int .i64 b] W fun e w' => ∃ x, e = .returned x ∧ SendOut W w' C b x ∧ Below W.heap.size W w') := veil fun W bb => sent_any C a c b W (h.next bb)
  have HB := veil (And.intro cb (And.intro B0 h))
  clear h
  go_enter Try.func5, Try.ntmps5
  go_upto_region 1 with fail
  rw [← hW]
  clear hW
  obtain ⟨c0, c1, c2, c3, c4, c5, c6⟩ := cb.cells
  clear cb B0
  go_upto_region 2 with (go_at_call 14; refine H1.mono ?_; rintro e W1 ⟨a1, k1, rfl, i1, d1⟩; clear H1 c0 c1 c2 c3 c4 c5 c6; have HI1 := veil (And.intro i1 d1); clear i1 d1)
  obtain ⟨W2, hW2, cb2, xb2, i2, B2⟩ : ∃ W2, W2 = W1.alloc (.cells (cCells C.p C.n a1 C.es.length k1 C.wh) 25) ∧ cBlock W2 w.heap.size C.p C.n a C.es.length c C.wh ∧ cBlock W2 W1.heap.size C.p C.n a1 C.es.length k1 C.wh ∧ CIn W2 C a1 k1 ∧ Below w.heap.size w W2 := ⟨_, rfl, ((unveil HB).1.next (unveil HI1).2).next (below1 _ _), cBlock.new _ _ _ _ _ _ _, (unveil HI1).1.next (below1 _ _), Below.next (Below.next (unveil HB).2.1 (unveil HI1).2) (below1 _ _)⟩
  rw [← hW2]
  clear hW2
  generalize W1.heap.size = X at *
  have H4 := unveil H2 W2 a1 k1 i2
  obtain ⟨x0, x1, x2, x3, x4, x5, x6⟩ := xb2.cells
  have H2' := veil (And.intro cb2 (And.intro xb2 (And.intro i2 B2)))
  clear cb2 xb2 i2 B2 H2 HI1
  go_upto_region 3 with (go_at_call 19; refine H4.mono ?_; rintro e W3 ⟨x3, rfl, ⟨D3, y3, v3, e3, rfl, r3, ⟨a3, k3, rfl, i3, _⟩⟩, d3⟩; clear H4 x0 x1 x2 x3 x4 x5 x6; have HI3 := veil (And.intro r3 (And.intro i3 d3)); clear r3 i3 d3)
  obtain ⟨W4, hW4, cb4, xb4, yb4, vb4, i4, j4, B4⟩ : ∃ W4, W4 = (W3.alloc (.cells (cCells D3.p D3.n a3 D3.es.length k3 D3.wh) 25)).alloc (.cells #[.int .i64 v3.k, .int .i64 v3.p, .int .i64 v3.i, .int .i64 v3.b, .int .i64 v3.he, .int .i64 v3.hn] 37) ∧ cBlock W4 w.heap.size C.p C.n a C.es.length c C.wh ∧ cBlock W4 X C.p C.n a1 C.es.length k1 C.wh ∧ cBlock W4 W3.heap.size D3.p D3.n a3 D3.es.length k3 D3.wh ∧ eBlock W4 (W3.heap.size + 1) v3 ∧ CIn W4 C a1 k1 ∧ CIn W4 D3 a3 k3 ∧ Below w.heap.size w W4 := by
    refine ⟨_, rfl, ((unveil H2').1.next (unveil HI3).2.2).next (below2 _ _ _), ((unveil H2').2.1.next (unveil HI3).2.2).next (below2 _ _ _), (cBlock.new _ _ _ _ _ _ _).next (below1 _ _), ?_, ((unveil H2').2.2.1.next (unveil HI3).2.2).next (below2 _ _ _), (unveil HI3).2.1.next (below2 _ _ _), Below.next (Below.next (unveil H2').2.2.2 (unveil HI3).2.2) (below2 _ _ _)⟩
    have h0 := heap_alloc_new (W3.alloc (.cells (cCells D3.p D3.n a3 D3.es.length k3 D3.wh) 25)) (.cells #[.int .i64 v3.k, .int .i64 v3.p, .int .i64 v3.i, .int .i64 v3.b, .int .i64 v3.he, .int .i64 v3.hn] 37)
    rw [show (W3.alloc (.cells (cCells D3.p D3.n a3 D3.es.length k3 D3.wh) 25)).heap.size = W3.heap.size + 1 by simp] at h0
    exact h0
  rw [← hW4]
  clear hW4
  have HR3 := veil (unveil HI3).1
  generalize W3.heap.size = Y at *
  have H5 := unveil H3 W4 B4
  obtain ⟨c0, c1, c2, c3, c4, c5, c6⟩ := cb4.cells
  have H4' := veil (And.intro cb4 (And.intro xb4 (And.intro yb4 (And.intro i4 (And.intro j4 (And.intro B4 vb4))))))
  clear cb4 xb4 yb4 i4 j4 B4 vb4 H3 HI3 H2'
  go_upto_region 4 with (go_at_call 20; refine H5.mono ?_; rintro e W5 ⟨x5, rfl, ⟨D5, y5, v5, e5, rfl, r5, ⟨a5, k5, rfl, i5, _⟩⟩, d5⟩; obtain ⟨hsame, rfl, rfl⟩ := (unveil HR3).det r5; clear H5 c0 c1 c2 c3 c4 c5 c6; have HI5 := veil (And.intro hsame (And.intro i5 d5)); clear r5 i5 d5 hsame)
  obtain ⟨W6, hW6, cb6, xb6, yb6, zb6, B6, S1, HS2, vb6, ub6⟩ : ∃ W6, W6 = (W5.alloc (.cells (cCells D5.p D5.n a5 D5.es.length k5 D5.wh) 25)).alloc (.cells #[.int .i64 v3.k, .int .i64 v3.p, .int .i64 v3.i, .int .i64 v3.b, .int .i64 v3.he, .int .i64 v3.hn] 37) ∧ cBlock W6 w.heap.size C.p C.n a C.es.length c C.wh ∧ cBlock W6 X C.p C.n a1 C.es.length k1 C.wh ∧ cBlock W6 Y D3.p D3.n a3 D3.es.length k3 D3.wh ∧ cBlock W6 W5.heap.size D5.p D5.n a5 D5.es.length k5 D5.wh ∧ Below w.heap.size w W6 ∧
      (Calls Try.prog 18 #[cVal D3.p D3.n a3 D3.es.length k3 D3.wh, cVal D5.p D5.n a5 D5.es.length k5 D5.wh] W6 fun e w' => e = .returned (.bool true) ∧ Below W6.heap.size W6 w') ∧
      Hid (∀ W7, Below W6.heap.size W6 W7 → Calls Try.prog 18 #[cVal C.p C.n a1 C.es.length k1 C.wh, cVal C.p C.n a C.es.length c C.wh] W7 fun e w' => e = .returned (.bool true) ∧ Below W7.heap.size W7 w') ∧ eBlock W6 (Y + 1) v3 ∧ eBlock W6 (W5.heap.size + 1) v3 := by
    have d := (unveil HI5).2.2
    have b2 := below2 W5 (.cells (cCells D5.p D5.n a5 D5.es.length k5 D5.wh) 25) (.cells #[.int .i64 v3.k, .int .i64 v3.p, .int .i64 v3.i, .int .i64 v3.b, .int .i64 v3.he, .int .i64 v3.hn] 37)
    have b6 := Below.next (Below.next (unveil H4').2.2.2.2.2.1 d) b2
    have h0 := heap_alloc_new (W5.alloc (.cells (cCells D5.p D5.n a5 D5.es.length k5 D5.wh) 25)) (.cells #[.int .i64 v3.k, .int .i64 v3.p, .int .i64 v3.i, .int .i64 v3.b, .int .i64 v3.he, .int .i64 v3.hn] 37)
    rw [show (W5.alloc (.cells (cCells D5.p D5.n a5 D5.es.length k5 D5.wh) 25)).heap.size = W5.heap.size + 1 by simp] at h0
    exact ⟨_, rfl, ((unveil H4').1.next d).next b2, ((unveil H4').2.1.next d).next b2, ((unveil H4').2.2.1.next d).next b2, (cBlock.new _ _ _ _ _ _ _).next (below1 _ _), b6,
      sameClient_yes D3 D5 a3 k3 a5 k5 _ (((unveil H4').2.2.2.2.1.next d).next b2) ((unveil HI5).2.1.next b2) (unveil HI5).1,
      veil (fun W7 b7 => sameClient_one C a1 k1 a c W7 ((((unveil H4').2.2.2.1.next d).next b2).next b7) ((unveil HB).2.2.next (Below.next b6 b7))), ((unveil H4').2.2.2.2.2.2.next d).next b2, h0⟩
  rw [← hW6]
  clear hW6 HI5
  generalize W5.heap.size = Z at *
  obtain ⟨y0, y1, y2, y3, y4, y5, y6⟩ := yb6.cells
  obtain ⟨z0, z1, z2, z3, z4, z5, z6⟩ := zb6.cells
  obtain ⟨v0, v1, v2, v3', v4, v5⟩ := vb6.cells
  obtain ⟨u0, u1, u2, u3, u4, u5⟩ := ub6.cells
  have H6 := veil (And.intro cb6 (And.intro xb6 B6))
  clear cb6 xb6 yb6 zb6 B6 H4' HB HR3 vb6 ub6
  go_wp2_with (first
    | (go_at_call 18; with_reducible refine S1.mono ?_; rintro e W7 ⟨rfl, d7⟩; clear S1 y0 y1 y2 y3 y4 y5 y6 z0 z1 z2 z3 z4 z5 z6 v0 v1 v2 v3' v4 v5 u0 u1 u2 u3 u4 u5; have S2 := unveil HS2 W7 d7; obtain ⟨x0, x1, x2, x3, x4, x5, x6⟩ := ((unveil H6).2.1.next d7).cells; obtain ⟨c0, c1, c2, c3, c4, c5, c6⟩ := ((unveil H6).1.next d7).cells; clear HS2)
    | (go_at_call 18; refine S2.mono ?_; rintro e W8 ⟨rfl, d8⟩; clear S2))
  go_ret
  exact ⟨by simp, Below.next (Below.next (unveil H6).2.2 d7) d8⟩
end Go.Proofs.Ytjolamdlclcpcaa
