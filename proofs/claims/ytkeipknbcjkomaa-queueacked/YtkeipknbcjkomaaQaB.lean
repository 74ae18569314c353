/- The walk of berthshiftkeep.QueueAcked. -/
import Derived.Test.YtkeipknbcjkomaaQkE
namespace Go.Proofs.Ytkeipknbcjkomaa
open Go.RowKit

/-- a handle in memory. -/
def hdBlock (w : World) (R : Nat) (he hn : Int) : Prop := w.heap[R]? = some (.cells #[.int .i64 he, .int .i64 hn] 43 (0, 0))
theorem hdBlock.cells {w : World} {R : Nat} {he hn : Int} (h : hdBlock w R he hn) : w.cell? ⟨R, 0, none⟩ = some (.int .i64 he) ∧ w.cell? ⟨R, 1, none⟩ = some (.int .i64 hn) := by
  unfold hdBlock at h; simp [World.cell?, h]
theorem hdBlock.lt {w : World} {R : Nat} {he hn : Int} (h : hdBlock w R he hn) : R < w.heap.size := by
  unfold hdBlock at h
  rcases Nat.lt_or_ge R w.heap.size with h' | h'
  · exact h'
  · simp [Array.getElem?_eq_none h'] at h
theorem hdBlock.next {w w' : World} {R : Nat} {he hn : Int} (h : hdBlock w R he hn) (hb : Below w.heap.size w w') : hdBlock w' R he hn := by
  have := h.lt
  unfold hdBlock at h ⊢; rw [← h]; exact hb.block R this
theorem hd_new (w : World) (he hn : Int) : hdBlock (w.alloc (.cells #[.int .i64 he, .int .i64 hn] 43)) w.heap.size he hn := heap_alloc_new w _

set_option maxRecDepth 20000 in
set_option maxHeartbeats 4000000 in
theorem walk_QueueAcked (w : World) (a : Option Addr) (len cap : Nat) (D : List Int) (h : RowK .i64 w a (4 * len) D) (_ : len ≤ cap) (_ : cap ≤ maxLen) (_ : a = none → cap = 0) (which : Int) (wi : (Lit.int .i64 which).wf = true) :
    Calls Try.prog 7 #[.slice a len cap, .int .i64 which] w fun r w' => r = .returned (.bool true) ∧ Below w.heap.size w w' := by
  have HP := played_any a len cap 60 D w h (by omega)
  clear h
  go_enter Try.func7, Try.ntmps7
  go_upto_region 2 with (first
    | (go_at_call 15; refine HP.mono ?_; rintro r W1 ⟨s, es, ans, x, ve, va, rfl, hist, hl, _, _, ⟨⟨a1, c1, a2, c2, ws, rfl, r1, r2, l1, l2, n1, n2, hW, f1, f2⟩⟩, oe, oa, B1⟩; have HH := veil hist; clear hist oe oa f1 f2 HP)
    | (refine q_alloc 5 rfl rfl rfl ?_; intro W2 z2 b2)
    | (refine q_store (ra := a1) (la := a2) (ws' := ws) _ _ rfl rfl rfl rfl z2 hW ?_; intro W3 q3 t3; obtain ⟨X3, b3, B3⟩ := boxed r1 r2 n1 n2 hW B1 b2 t3 q3; have HX3 := veil X3; have HB3 := veil B3; clear z2 b2 q3 t3 r1 r2 n1 n2 B1 b3 X3 B3))
  have hist := unveil HH
  have sm := hist.small hl
  have wf := hist.wf
  have q3 := (unveil HX3).q
  obtain ⟨g0, g1, g2, g3, g4⟩ := q3.heads
  by_cases hln : s.ln = 0
  · have HDo : Calls Try.prog 19 #[qVal s.ep s.nx s.gv (.slice a1 s.rn c1) (.slice a2 s.ln c2) ws, .agg #[.int .i64 3, .int .i64 0, .int .i64 0, .int .i64 0, .int .i64 s.ep, .int .i64 1000]] W3 fun e w' => ∃ (s' : St) (x : Value), e = .returned (.tuple #[x, ansVal 7 0 0 0, .bool false, .int .i64 0]) ∧ QOut W3 w' s' x ∧ Below W3.heap.size W3 w' := by
      refine ((unveil HX3).do wf.ok ⟨3, 0, 0, 0, s.ep, 1000⟩ (ev_ack (by omega) (by omega))).mono ?_
      rintro e w' ⟨s', an, ch, x, rfl, st, qo, bb⟩
      obtain ⟨rfl, rfl⟩ := st.gone rfl rfl (by show ackAt _ _ s.L s.ln = -1; rw [hln]; exact ackAt_none _ _ _)
      exact ⟨s', x, rfl, qo, bb⟩
    clear hist sm wf HH
    obtain ⟨ln, hl0⟩ : ∃ ln, ln = s.ln := ⟨_, rfl⟩
    rw [← hl0] at HDo q3 g4 hln ⊢
    clear hl0
    subst hln
    go_upto_region 4 with (first
      | (refine q_loads _ rfl rfl rfl q3 ?_)
      | (go_at_call 19; refine HDo.mono ?_; rintro r W4 ⟨s', x', rfl, ⟨⟨a1', c1', a2', c2', ws', rfl, r1, r2, l1', l2', n1, n2, hW', f1, f2⟩⟩, b4⟩; have B4 := Below.next (unveil HB3) b4; clear HDo b4 f1 f2)
      | (refine q_alloc 9 rfl rfl rfl ?_; intro W5 z5 b5; have hN5 : W4.heap.size < W5.heap.size := z5.lt; have z5' := z5.next (below1 W5 (.cells #[.int .i64 0, .int .i64 0, .int .i64 0, .int .i64 0] 47)))
      | (refine q_store (ra := a1') (la := a2') (ws' := ws') _ _ rfl rfl rfl rfl z5' hW' ?_; intro W6 q6 t6; obtain ⟨y0, y1, y2, y3⟩ := (ans0 hN5 t6).cells; have yf := (ans0 hN5 t6).free))
    obtain ⟨W7, hW7, X7, A7, b7, B7⟩ := boxed2 7 0 0 0 r1 r2 n1 n2 hW' B4 b5 hN5 t6 q6
    rw [← hW7]
    clear hW7 y0 y1 y2 y3 yf q6 t6 z5 z5' b5 r1 r2 n1 n2 B4 q3 g0 g1 g2 g3 g4
    obtain ⟨y0, y1, y2, y3⟩ := A7.cells
    go_wp2
    go_ret
    exact ⟨rfl, B7⟩
  · obtain ⟨j, hj⟩ : ∃ j : Nat, pickedOf which s.ln = j := ⟨(pickedOf which s.ln).toNat, by have := pickedOf_range which s.ln (by omega); omega⟩
    have hjl : j < s.ln := by have := pickedOf_range which s.ln (by omega); omega
    have H1 := fun w => picked_any which s.ln w wi (by omega) (by omega)
    rw [hj] at H1
    clear hj
    obtain ⟨g, off, ha2⟩ := (unveil HX3).r2.form (by omega)
    subst ha2
    have k0 : W3.cell? ⟨g, off + j * 4, none⟩ = some (.int .i64 (s.L.getD (4 * j) 0)) := by rw [Nat.mul_comm j 4]; exact (unveil HX3).r2.at (4 * j) (by omega)
    have k1 : W3.cell? ⟨g, off + j * 4 + 1, none⟩ = some (.int .i64 (s.L.getD (4 * j + 1) 0)) := by rw [Nat.mul_comm j 4]; exact (unveil HX3).r2.at (4 * j + 1) (by omega)
    have lb := lease_bounds wf.ok hjl
    have HDo : Hid (∀ W, Below W3.heap.size W3 W → Calls Try.prog 19 #[qVal s.ep s.nx s.gv (.slice a1 s.rn c1) (.slice (some ⟨g, off, none⟩) s.ln c2) ws, .agg #[.int .i64 3, .int .i64 0, .int .i64 0, .int .i64 0, .int .i64 (s.L.getD (4 * j) 0), .int .i64 (s.L.getD (4 * j + 1) 0)]] W fun e w' => ∃ (s' : St) (x : Value), e = .returned (.tuple #[x, ansVal 0 0 0 0, .bool true, .int .i64 0]) ∧ (s'.Wf ∧ s'.rn = s.rn ∧ s'.ln = s.ln - 1 ∧ s'.ep = s.ep ∧ ackAt (s.L.getD (4 * j) 0) (s.L.getD (4 * j + 1) 0) s'.L s'.ln = -1) ∧ QOut W w' s' x ∧ Below W.heap.size W w') := veil fun W b => by
      refine (((unveil HX3).next b).do wf.ok ⟨3, 0, 0, 0, s.L.getD (4 * j) 0, s.L.getD (4 * j + 1) 0⟩ (ev_ack (by omega) (by omega))).mono ?_
      rintro e w' ⟨s', an, ch, x, rfl, st, qo, bb⟩
      have hw' := st.wf wf (ev_ack (by omega) (by omega))
      obtain ⟨rfl, rfl, h1, h2, h3, h4⟩ := st.acked wf rfl j hjl rfl rfl
      exact ⟨s', x, rfl, ⟨hw', h2, h3, h1, h4⟩, qo, bb⟩
    have HE : Hid (s.L.getD (4 * j) 0 = s.ep ∧ 0 ≤ s.L.getD (4 * j + 1) 0 ∧ s.L.getD (4 * j + 1) 0 ≤ 1073741824 ∧ 0 ≤ s.ep ∧ s.ep ≤ 60) := veil (by omega)
    have hln0 : ¬ s.ln = 0 := hln
    have hl2 : s.ln ≤ 60 := by omega
    clear hist sm wf HH hln lb
    generalize s.L.getD (4 * j) 0 = he' at k0 HDo HE
    generalize s.L.getD (4 * j + 1) 0 = hn at k1 HDo HE
    go_upto_region 5 with fail
    go_cut [13] (fun p wx => ∃ X, p = .pointer (some ⟨X, 0, none⟩) ∧ hdBlock wx X he' hn ∧ Below W3.heap.size W3 wx)
    case first =>
      go_region_held3 (fun w' => w'.cell? ⟨W1.heap.size, 4, none⟩ = some (.slice (some ⟨g, off, none⟩) s.ln c2) ∧ w'.cell? ⟨g, off + j * 4, none⟩ = some (.int .i64 he') ∧ w'.cell? ⟨g, off + j * 4 + 1, none⟩ = some (.int .i64 hn)) (go_keep) ((go_at_call 17; refine (H1 _).mono ?_; rintro r w' ⟨rfl, rfl⟩))
      all_goals (try go_wp2_with fail)
      all_goals go_meet
      all_goals exact ⟨_, rfl, hd_new _ _ _, (below1 _ _).drew⟩
    case rest =>
      obtain ⟨X, rfl, hd, b4⟩ := hcut
      obtain ⟨W4, hW4⟩ : ∃ W4, W4 = wc := ⟨_, rfl⟩
      subst hW4
      have q4 := q3.next b4
      obtain ⟨h0, h1⟩ := hd.cells
      have HX4 := veil ((unveil HX3).next b4)
      have HD4 := veil hd
      have B4 := Below.next (unveil HB3) b4
      have HDo4 := unveil HDo _ b4
      clear q3 g0 g1 g2 g3 g4 k0 k1 HDo hd HX3 b4 H1
      go_upto_region 7 with (first
        | (refine q_loads _ rfl rfl rfl q4 ?_)
        | (go_at_call 19; refine HDo4.mono ?_; rintro r W5 ⟨s', x', rfl, hs, ⟨⟨a1', c1', a2', c2', ws', rfl, r1, r2, l1', l2', n1, n2, hW', f1, f2⟩⟩, b5⟩; have HS := veil hs; have B5 := Below.next B4 b5; have X5 := (unveil HX4).next b5; have D5 := (unveil HD4).next b5; have HX5 := veil X5; have HD5 := veil D5; clear hs HDo4 q4 b5 X5 D5 f1 f2 h0 h1)
        | (refine q_alloc 14 rfl rfl rfl ?_; intro W6 z6 b6; have hN6 : W5.heap.size < W6.heap.size := z6.lt; have z6' := z6.next (below1 W6 (.cells #[.int .i64 0, .int .i64 0, .int .i64 0, .int .i64 0] 47)))
        | (refine q_store (ra := a1') (la := a2') (ws' := ws') _ _ rfl rfl rfl rfl z6' hW' ?_; intro W7 q7 t7; obtain ⟨y0, y1, y2, y3⟩ := (ans0 hN6 t7).cells; have yf := (ans0 hN6 t7).free))
      obtain ⟨W8, hW8, X8, A8, b8, B8⟩ := boxed2 0 0 0 0 r1 r2 n1 n2 hW' B5 b6 hN6 t7 q7
      rw [← hW8]
      have Y8 := (unveil HX5).next b8
      have D8 := (unveil HD5).next b8
      clear hW8 y0 y1 y2 y3 yf q7 t7 z6 z6' b6 r1 r2 n1 n2 B5 B4 b8
      have hs := unveil HS
      have he := unveil HE
      have HDo8 : Calls Try.prog 19 #[qVal s'.ep s'.nx s'.gv (.slice a1' s'.rn c1') (.slice a2' s'.ln c2') ws', .agg #[.int .i64 3, .int .i64 0, .int .i64 0, .int .i64 0, .int .i64 he', .int .i64 hn]] W8 fun e w' => ∃ (s' : St) (x : Value), e = .returned (.tuple #[x, ansVal 7 0 0 0, .bool false, .int .i64 0]) ∧ QOut W8 w' s' x ∧ Below W8.heap.size W8 w' := by
        refine (X8.do hs.1.ok ⟨3, 0, 0, 0, he', hn⟩ (ev_ack (by omega) (by omega))).mono ?_
        rintro e w' ⟨s2, an, ch, x, rfl, st, qo, bb⟩
        obtain ⟨rfl, rfl⟩ := st.gone rfl (by show he' = s'.ep; omega) hs.2.2.2.2
        exact ⟨s2, x, rfl, qo, bb⟩
      have q8 := X8.q
      obtain ⟨h0, h1⟩ := D8.cells
      have HX8 := veil X8
      have HY8 := veil Y8
      have HA8 := veil A8
      clear hs he X8 Y8 A8 HX5 HX4 HD4 HD5 D8
      go_upto_region 8 with (first
        | (refine q_loads _ rfl rfl rfl q8 ?_)
        | (go_at_call 19; refine HDo8.mono ?_; rintro r W9 ⟨s2, x2, rfl, ⟨⟨a1'', c1'', a2'', c2'', ws'', rfl, r1, r2, l1'', l2'', n1, n2, hW'', f1, f2⟩⟩, b9⟩; have B9 := Below.next B8 b9; have X9 := (unveil HX8).next b9; have Y9 := (unveil HY8).next b9; have A9 := (unveil HA8).next b9; have HX9 := veil X9; have HY9 := veil Y9; have HA9 := veil A9; clear HDo8 q8 b9 X9 Y9 A9 f1 f2 h0 h1)
        | (refine q_alloc 18 rfl rfl rfl ?_; intro W10 z10 b10; have hN10 : W9.heap.size < W10.heap.size := z10.lt; have z10' := z10.next (below1 W10 (.cells #[.int .i64 0, .int .i64 0, .int .i64 0, .int .i64 0] 47)))
        | (refine q_store (ra := a1'') (la := a2'') (ws' := ws'') _ _ rfl rfl rfl rfl z10' hW'' ?_; intro W11 q11 t11; obtain ⟨y0, y1, y2, y3⟩ := (ans0 hN10 t11).cells; have yf := (ans0 hN10 t11).free))
      obtain ⟨W12, hW12, X12, A12, b12, B12⟩ := boxed2 7 0 0 0 r1 r2 n1 n2 hW'' B9 b10 hN10 t11 q11
      rw [← hW12]
      have X13 := (unveil HX9).next b12
      have Y13 := (unveil HY9).next b12
      have A13 := (unveil HA9).next b12
      clear hW12 y0 y1 y2 y3 yf q11 t11 z10 z10' b10 r1 r2 n1 n2 B9 b12
      obtain ⟨y0, y1, y2, y3⟩ := A12.cells
      obtain ⟨u0, u1, u2, u3⟩ := A13.cells
      obtain ⟨g0, g1, g2, g3, g4⟩ := X13.q.heads
      obtain ⟨k0, k1, k2, k3, k4⟩ := Y13.q.heads
      have hs := unveil HS
      rw [hs.2.1] at g3
      rw [hs.2.2.1] at g4
      obtain ⟨lm, hlm⟩ : ∃ lm, s.ln = lm + 1 := ⟨s.ln - 1, by omega⟩
      rw [hlm] at g4 k4
      rw [Nat.add_sub_cancel] at g4
      have hlm60 : lm ≤ 60 := by omega
      clear hs X12 X13 Y13 A12 A13 hlm hln0 hl2 HS HE
      go_wp2
      go_ret
      exact ⟨by simp, B12⟩
end Go.Proofs.Ytkeipknbcjkomaa
