/- The walks of berthshiftlaw's ClientChecks, ClientNews, ClientAsks, ClientLearns. -/
import Derived.Test.YtjolamdlclcpcaaClN
namespace Go.Proofs.Ytjolamdlclcpcaa
open Go.RowKit

set_option maxRecDepth 20000 in
set_option maxHeartbeats 2000000 in
theorem walk_ClientChecks (w : World) (C : Cl) (a : Option Addr) (c : Nat) (h : CIn w C a c) :
    Calls Try.prog 3 #[cVal C.p C.n a C.es.length c C.wh] w fun e w' => e = .returned (.bool true) ∧ Below w.heap.size w w' := by
  obtain ⟨W, hW, cb, B0⟩ := one_cl w C.p C.n a C.es.length c C.wh
  have H1 := clients_any C a c W (h.next B0)
  have H2 : Hid (∀ W a' c', CIn W C a' c' → Calls Try.prog 13 #[cVal C.p C.n a' C.es.length c' C.wh] W fun e w' => e = .returned (.int .i64 (clFault C)) ∧ Below W.heap.size W w') := veil fun W a' c' hc => ccheck_any C a' c' W hc
  have H3 : Hid (∀ W, Below w.heap.size w W → Calls Try.prog 15 #[cVal C.p C.n a C.es.length c C.wh] W fun e w' => e = .returned (.int .i64 (clFault C)) ∧ Below W.heap.size W w') := veil fun W b => cfault_any C a c W (h.next b)
  have HB := veil (And.intro cb B0)
  clear h
  generalize clFault C = f at H2 H3
  go_enter Try.func3, Try.ntmps3
  go_upto_region 1 with fail
  rw [← hW]
  clear hW
  obtain ⟨c0, c1, c2, c3, c4, c5, c6⟩ := cb.cells
  clear cb B0
  go_wp2_with (first
    | (go_at_call 14; refine H1.mono ?_; rintro e W1 ⟨a1, k1, rfl, i1, d1⟩; clear H1)
    | (go_at_call 13; refine (unveil H2 _ _ _ i1).mono ?_; rintro e W2 ⟨rfl, d2⟩; clear H2 c0 c1 c2 c3 c4 c5 c6; obtain ⟨c0, c1, c2, c3, c4, c5, c6⟩ := (((unveil HB).1.next d1).next d2).cells)
    | (go_at_call 15; refine (unveil H3 W2 (Below.next (Below.next (unveil HB).2 d1) d2)).mono ?_; rintro e W3 ⟨rfl, d3⟩; clear H3 c0 c1 c2 c3 c4 c5 c6))
  go_ret
  exact ⟨by simp, Below.next (Below.next (Below.next (unveil HB).2 d1) d2) d3⟩

set_option maxRecDepth 20000 in
set_option maxHeartbeats 2000000 in
theorem walk_ClientAsks (w : World) (C : Cl) (a : Option Addr) (c : Nat) (h : CIn w C a c) (q : Int) (_ : (Lit.int .i64 q).wf = true) :
    Calls Try.prog 8 #[cVal C.p C.n a C.es.length c C.wh, .int .i64 q] w fun e w' => e = .returned (.bool true) ∧ Below w.heap.size w w' := by
  obtain ⟨W, hW, cb, B0⟩ := one_cl w C.p C.n a C.es.length c C.wh
  have H1 := clients_any C a c W (h.next B0)
  have H2 : Hid (∀ W a' c', CIn W C a' c' → Calls Try.prog 25 #[cVal C.p C.n a' C.es.length c' C.wh, .int .i64 q] W fun e w' => ∃ x, e = .returned x ∧ AskOut C q x ∧ Below W.heap.size W w') := veil fun W a' c' hc => ask_any C a' c' q W hc
  have H3 : Hid (∀ W, Below w.heap.size w W → Calls Try.prog 26 #[cVal C.p C.n a C.es.length c C.wh, .int .i64 q] W fun e w' => ∃ x, e = .returned x ∧ AskOut C q x ∧ Below W.heap.size W w') := veil fun W b => asked_any C a c q W (h.next b)
  have HB := veil (And.intro cb B0)
  clear h
  go_enter Try.func8, Try.ntmps8
  go_upto_region 1 with fail
  rw [← hW]
  clear hW
  obtain ⟨c0, c1, c2, c3, c4, c5, c6⟩ := cb.cells
  clear cb B0
  go_wp2_with (first
    | (go_at_call 14; refine H1.mono ?_; rintro e W1 ⟨a1, k1, rfl, i1, d1⟩; clear H1)
    | (go_at_call 25; refine (unveil H2 _ _ _ i1).mono ?_; rintro e W2 ⟨x2, rfl, ⟨n2, e2, rfl, r2⟩, d2⟩; clear H2 c0 c1 c2 c3 c4 c5 c6; obtain ⟨c0, c1, c2, c3, c4, c5, c6⟩ := (((unveil HB).1.next d1).next d2).cells; have HR2 := veil r2; clear r2)
    | (go_at_call 26; refine (unveil H3 W2 (Below.next (Below.next (unveil HB).2 d1) d2)).mono ?_; rintro e W3 ⟨x3, rfl, ⟨n3, e3, rfl, r3⟩, d3⟩; obtain ⟨rfl, rfl⟩ := (unveil HR2).det r3; clear H3 c0 c1 c2 c3 c4 c5 c6 r3))
  go_ret
  exact ⟨by simp, Below.next (Below.next (Below.next (unveil HB).2 d1) d2) d3⟩

set_option maxRecDepth 20000 in
set_option maxHeartbeats 2000000 in
theorem walk_ClientNews (w : World) (p : Int) (_ : (Lit.int .i64 p).wf = true) :
    Calls Try.prog 4 #[.int .i64 p] w fun e w' => e = .returned (.bool true) ∧ Below w.heap.size w w' := by
  have H1 := new_any p w
  have H2 := fun W => cnew_any p W
  go_enter Try.func4, Try.ntmps4
  go_upto_region 2 with (go_at_call 16; refine H1.mono ?_; rintro e W1 ⟨x1, rfl, ⟨D1, e1, rfl, r1, l1⟩, d1⟩; clear H1; have HR1 := veil (And.intro r1 l1); clear r1 l1)
  obtain ⟨W2, hW2, cb2, B2⟩ : ∃ W2, W2 = W1.alloc (.cells (cCells D1.p D1.n none 0 0 D1.wh) 25) ∧ cBlock W2 W1.heap.size D1.p D1.n none 0 0 D1.wh ∧ Below w.heap.size w W2 := ⟨_, rfl, cBlock.new _ _ _ _ _ _ _, Below.next d1 (below1 _ _)⟩
  rw [← hW2]
  clear hW2 d1
  generalize W1.heap.size = X at *
  have HB2 := veil (And.intro cb2 B2)
  clear cb2 B2
  have H3 := H2 W2
  clear H2
  go_upto_region 3 with (go_at_call 17; refine H3.mono ?_; rintro e W3 ⟨x3, rfl, ⟨D3, e3, rfl, r3, l3⟩, d3⟩; obtain ⟨rfl, rfl⟩ := (unveil HR1).1.det r3; clear H3 r3 l3; have HD3 := veil d3; clear d3)
  obtain ⟨W4, hW4, cb4, cb5, B4⟩ : ∃ W4, W4 = W3.alloc (.cells (cCells D1.p D1.n none 0 0 D1.wh) 25) ∧ cBlock W4 W3.heap.size D1.p D1.n none 0 0 D1.wh ∧ cBlock W4 X D1.p D1.n none 0 0 D1.wh ∧ Below w.heap.size w W4 := ⟨_, rfl, cBlock.new _ _ _ _ _ _ _, ((unveil HB2).1.next (unveil HD3)).next (below1 _ _), Below.next (Below.next (unveil HB2).2 (unveil HD3)) (below1 _ _)⟩
  rw [← hW4]
  clear hW4
  generalize W3.heap.size = Y at *
  have hS := sameClient_one D1 none 0 none 0 W4 (by rw [show D1 = ⟨D1.p, D1.n, D1.es, D1.wh⟩ from rfl]; exact ⟨by rw [(unveil HR1).2]; exact RowK.nil _ _ _, by rw [(unveil HR1).2]; exact Nat.le_refl _, fun _ => rfl, by rw [(unveil HR1).2]; simp⟩) ⟨by rw [(unveil HR1).2]; exact RowK.nil _ _ _, by rw [(unveil HR1).2]; exact Nat.le_refl _, fun _ => rfl, by rw [(unveil HR1).2]; simp⟩
  rw [(unveil HR1).2] at hS
  obtain ⟨x0, x1, x2, x3, x4, x5, x6⟩ := cb4.cells
  obtain ⟨y0, y1, y2, y3, y4, y5, y6⟩ := cb5.cells
  have HB4 := veil B4
  clear cb4 cb5 B4 HB2 HD3 HR1
  have hS' : Calls Try.prog 18 #[cVal D1.p D1.n none 0 0 D1.wh, cVal D1.p D1.n none 0 0 D1.wh] W4 fun e w' => e = .returned (.bool true) ∧ Below W4.heap.size W4 w' := hS
  clear hS
  go_wp2_with (go_at_call 18; refine hS'.mono ?_; rintro e W5 ⟨rfl, d5⟩; clear hS')
  go_ret
  exact ⟨by simp, Below.next (unveil HB4) d5⟩

set_option maxRecDepth 20000 in
set_option maxHeartbeats 4000000 in
theorem walk_ClientLearns (w : World) (C : Cl) (a : Option Addr) (c : Nat) (h : CIn w C a c) (q : Int) (_ : (Lit.int .i64 q).wf = true) (nd : Int) (_ : (Lit.int .i64 nd).wf = true) :
    Calls Try.prog 7 #[cVal C.p C.n a C.es.length c C.wh, .int .i64 q, .int .i64 nd] w fun e w' => e = .returned (.bool true) ∧ Below w.heap.size w w' := by
  obtain ⟨W, hW, cb, B0⟩ := one_cl w C.p C.n a C.es.length c C.wh
  have H1 := clients_any C a c W (h.next B0)
  have H2 : Hid (∀ W a' c', CIn W C a' c' → Calls Try.prog 23 #[cVal C.p C.n a' C.es.length c' C.wh, .int .i64 q, .int .i64 nd] W fun e w' => ∃ x, e = .returned x ∧ LearnOut W w' C q nd x ∧ Below W.heap.size W w') := veil fun W a' c' hc => learn_any C a' c' q nd W hc hc.row.wf
  have H3 : Hid (∀ W, Below w.heap.size w W → Calls Try.prog 24 #[cVal C.p C.n a C.es.length c C.wh, .int .i64 q, .int .i64 nd] W fun e w' => ∃ x, e = .returned x ∧ LearnOut W w' C q nd x ∧ Below W.heap.size W w') := veil fun W b => learnt_any C a c q nd W (h.next b) h.row.wf
  have HB := veil (And.intro cb B0)
  clear h
  go_enter Try.func7, Try.ntmps7
  go_upto_region 1 with fail
  rw [← hW]
  clear hW
  obtain ⟨c0, c1, c2, c3, c4, c5, c6⟩ := cb.cells
  clear cb B0
  go_upto_region 2 with (first
    | (go_at_call 14; refine H1.mono ?_; rintro e W1 ⟨a1, k1, rfl, i1, d1⟩; clear H1)
    | (go_at_call 23; refine (unveil H2 _ _ _ i1).mono ?_; rintro e W2 ⟨x2, rfl, ⟨D2, y2, e2, rfl, r2, ⟨a2, k2, rfl, i2, _⟩⟩, d2⟩; clear H2 c0 c1 c2 c3 c4 c5 c6; have HR2 := veil r2; have HI2 := veil (And.intro i2 (And.intro ((unveil HB).1.next (Below.next d1 d2)) (Below.next (unveil HB).2 (Below.next d1 d2)))); clear r2 i2 d1 d2 i1))
  obtain ⟨W3, hW3, cb3, yb3, i3, B3⟩ : ∃ W3, W3 = W2.alloc (.cells (cCells D2.p D2.n a2 D2.es.length k2 D2.wh) 25) ∧ cBlock W3 w.heap.size C.p C.n a C.es.length c C.wh ∧ cBlock W3 W2.heap.size D2.p D2.n a2 D2.es.length k2 D2.wh ∧ CIn W3 D2 a2 k2 ∧ Below w.heap.size w W3 := ⟨_, rfl, (unveil HI2).2.1.next (below1 _ _), cBlock.new _ _ _ _ _ _ _, (unveil HI2).1.next (below1 _ _), Below.next (unveil HI2).2.2 (below1 _ _)⟩
  rw [← hW3]
  clear hW3 HI2 HB
  generalize W2.heap.size = X at *
  have H4 := unveil H3 W3 B3
  obtain ⟨c0, c1, c2, c3, c4, c5, c6⟩ := cb3.cells
  have HI3 := veil (And.intro yb3 (And.intro i3 B3))
  clear cb3 yb3 i3 B3 H3
  go_upto_region 3 with (go_at_call 24; refine H4.mono ?_; rintro e W4 ⟨x4, rfl, ⟨D4, y4, e4, rfl, r4, ⟨a4, k4, rfl, i4, _⟩⟩, d4⟩; obtain ⟨hsame, rfl⟩ := (unveil HR2).det r4; clear H4 c0 c1 c2 c3 c4 c5 c6; have HI4 := veil (And.intro i4 (And.intro hsame d4)); clear i4 hsame d4 r4)
  obtain ⟨W5, hW5, xb5, yb5, B5, HS⟩ : ∃ W5, W5 = W4.alloc (.cells (cCells D4.p D4.n a4 D4.es.length k4 D4.wh) 25) ∧ cBlock W5 X D2.p D2.n a2 D2.es.length k2 D2.wh ∧ cBlock W5 W4.heap.size D4.p D4.n a4 D4.es.length k4 D4.wh ∧ Below w.heap.size w W5 ∧ Calls Try.prog 18 #[cVal D2.p D2.n a2 D2.es.length k2 D2.wh, cVal D4.p D4.n a4 D4.es.length k4 D4.wh] W5 fun e w' => e = .returned (.bool true) ∧ Below W5.heap.size W5 w' :=
    ⟨_, rfl, ((unveil HI3).1.next (unveil HI4).2.2).next (below1 _ _), cBlock.new _ _ _ _ _ _ _, Below.next (Below.next (unveil HI3).2.2 (unveil HI4).2.2) (below1 _ _), sameClient_yes D2 D4 a2 k2 a4 k4 _ (((unveil HI3).2.1.next (unveil HI4).2.2).next (below1 _ _)) ((unveil HI4).1.next (below1 _ _)) (unveil HI4).2.1⟩
  rw [← hW5]
  clear hW5 HI3 HI4
  generalize W4.heap.size = Y at *
  obtain ⟨x0, x1, x2, x3, x4, x5, x6⟩ := xb5.cells
  obtain ⟨y0, y1, y2, y3, y4, y5, y6⟩ := yb5.cells
  have HB5 := veil B5
  clear xb5 yb5 B5 HR2
  go_wp2_with (go_at_call 18; refine HS.mono ?_; rintro e W6 ⟨rfl, d6⟩; clear HS)
  go_ret
  exact ⟨by simp, Below.next (unveil HB5) d6⟩
end Go.Proofs.Ytjolamdlclcpcaa
