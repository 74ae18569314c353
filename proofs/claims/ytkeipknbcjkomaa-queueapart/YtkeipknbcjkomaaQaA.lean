/- The walk of berthshiftkeep.QueueApart. -/
import Derived.Test.YtkeipknbcjkomaaQkE
namespace Go.Proofs.Ytkeipknbcjkomaa
open Go.RowKit

set_option maxRecDepth 20000 in
set_option maxHeartbeats 4000000 in
theorem walk_QueueApart (w : World) (a : Option Addr) (len cap : Nat) (D : List Int) (h : RowK .i64 w a (4 * len) D) (_ : len ≤ cap) (_ : cap ≤ maxLen) (_ : a = none → cap = 0) (id : Int) (wi : (Lit.int .i64 id).wf = true) :
    Calls Try.prog 8 #[.slice a len cap, .int .i64 id] w fun r w' => r = .returned (.bool true) ∧ Below w.heap.size w w' := by
  have p1 := pickedOf_range id 1000 (by decide)
  have H1 := fun w => picked_any id 1000 w wi (by decide) (by decide)
  generalize pickedOf id 1000 = n at p1 H1
  have HP := played_any a len cap 60 D w h (by omega)
  clear h
  go_enter Try.func8, Try.ntmps8
  go_upto_region 3 with (first
    | (go_at_call 15; refine HP.mono ?_; rintro r W1 ⟨s, es, ans, x, ve, va, rfl, hist, hl, _, _, ⟨⟨a1, c1, a2, c2, ws, rfl, r1, r2, l1, l2, n1, n2, hW, f1, f2⟩⟩, oe, oa, B1⟩; have HH := veil hist; clear hist oe oa f1 f2 HP)
    | (refine q_alloc 5 rfl rfl rfl ?_; intro W2 z2 b2)
    | (refine q_store (ra := a1) (la := a2) (ws' := ws) _ _ rfl rfl rfl rfl z2 hW ?_; intro W3 q3 t3; obtain ⟨X3, b3, B3⟩ := boxed r1 r2 n1 n2 hW B1 b2 t3 q3; have HX3 := veil X3; have HB3 := veil B3; clear z2 b2 q3 t3 r1 r2 n1 n2 B1 b3 X3 B3)
    | (go_at_call 17; refine (H1 _).mono ?_; rintro r w1 ⟨rfl, rfl⟩; clear H1))
  have hist := unveil HH
  have sm := hist.small hl
  have hwin : s.wt 3 = 0 ∧ inWin (s.wt 3) (s.wz 3) n = false := by
    have hw := hist.win 3
    rw [hist.pubIds_none 3 (by omega)] at hw
    refine ⟨hw.zero rfl, ?_⟩
    cases hi : inWin (s.wt 3) (s.wz 3) n with
    | false => rfl
    | true =>
      have := (hw.mem n (by have := hw.zero rfl; omega)).1 hi
      cases this
  have HDo : Calls Try.prog 19 #[qVal s.ep s.nx s.gv (.slice a1 s.rn c1) (.slice a2 s.ln c2) ws, .agg #[.int .i64 1, .int .i64 3, .int .i64 n, .int .i64 5, .int .i64 0, .int .i64 0]] W3 fun e w' => ∃ (s' : St) (x : Value), e = .returned (.tuple #[x, ansVal 0 0 0 0, .bool true, .int .i64 0]) ∧ (s'.nx = s.nx + 1 ∧ ∀ p, p < 2 → s'.wt p = s.wt p ∧ s'.wz p = s.wz p) ∧ QOut W3 w' s' x ∧ Below W3.heap.size W3 w' := by
    refine ((unveil HX3).do hist.wf.ok ⟨1, 3, n, 5, 0, 0⟩ (ev_pub (by omega) (by omega) (by omega))).mono ?_
    rintro e w' ⟨s', an, ch, x, rfl, st, qo, bb⟩
    obtain ⟨rfl, rfl, hs⟩ := st.published rfl (by show s.wt 3 - 8 ≤ n; omega) hwin.2 (by omega) (by omega)
    refine ⟨s', x, rfl, ?_, qo, bb⟩
    rw [hs]
    refine ⟨rfl, fun p hp => ?_⟩
    show tput s.wt 3 _ p = _ ∧ tput s.wz 3 _ p = _
    unfold tput
    rw [if_neg (by omega), if_neg (by omega)]
    exact ⟨rfl, rfl⟩
  have q3 := (unveil HX3).q
  have hnx : IntKind.i64.wrap (s.nx + 1) = s.nx + 1 := by rw [IntKind.wrap_i64]; omega
  clear hist sm hwin HH
  go_upto_region 4 with (first
    | (refine q_loads _ rfl rfl rfl q3 ?_)
    | (go_at_call 19; refine HDo.mono ?_; rintro r W4 ⟨s', x', rfl, hs, ⟨⟨a1', c1', a2', c2', ws', rfl, r1, r2, l1', l2', n1, n2, hW', f1, f2⟩⟩, b4⟩; have HS := veil hs; have B4 := Below.next (unveil HB3) b4; have X4 := (unveil HX3).next b4; have HX4 := veil X4; clear hs HDo q3 b4 X4 f1 f2)
    | (refine q_alloc 10 rfl rfl rfl ?_; intro W5 z5 b5; have hN5 : W4.heap.size < W5.heap.size := z5.lt; have z5' := z5.next (below1 W5 (.cells #[.int .i64 0, .int .i64 0, .int .i64 0, .int .i64 0] 47)))
    | (refine q_store (ra := a1') (la := a2') (ws' := ws') _ _ rfl rfl rfl rfl z5' hW' ?_; intro W6 q6 t6; obtain ⟨y0, y1, y2, y3⟩ := (ans0 hN5 t6).cells; have yf := (ans0 hN5 t6).free))
  obtain ⟨W7, hW7, X7, A7, b7, B7⟩ := boxed2 0 0 0 0 r1 r2 n1 n2 hW' B4 b5 hN5 t6 q6
  rw [← hW7]
  have Y7 := (unveil HX4).next b7
  clear hW7 y0 y1 y2 y3 yf q6 t6 z5 z5' b5 r1 r2 n1 n2 B4
  obtain ⟨y0, y1, y2, y3⟩ := A7.cells
  obtain ⟨g0, g1, g2, g3, g4⟩ := X7.q.heads
  obtain ⟨k0, k1, k2, k3, k4⟩ := Y7.q.heads
  obtain ⟨u0, u1, u2, u3, u4, u5, u6, u7, u8⟩ := X7.q.nine X7.wins 0 (by omega)
  obtain ⟨v0, v1, v2, v3, v4, v5, v6, v7, v8⟩ := X7.q.nine X7.wins 1 (by omega)
  obtain ⟨m0, m1, m2, m3, m4, m5, m6, m7, m8⟩ := Y7.q.nine Y7.wins 0 (by omega)
  obtain ⟨o0, o1, o2, o3, o4, o5, o6, o7, o8⟩ := Y7.q.nine Y7.wins 1 (by omega)
  have hq := run_equal_seen_same
  rw [((unveil HS).2 0 (by omega)).1] at u0
  rw [((unveil HS).2 0 (by omega)).2] at u1 u2 u3 u4 u5 u6 u7 u8
  rw [((unveil HS).2 1 (by omega)).1] at v0
  rw [((unveil HS).2 1 (by omega)).2] at v1 v2 v3 v4 v5 v6 v7 v8
  rw [(unveil HS).1] at g1
  clear X7 Y7 A7
  simp only [Nat.mul_zero, Nat.mul_one, Nat.zero_add, Nat.add_zero, Nat.reduceAdd] at u0 u1 u2 u3 u4 u5 u6 u7 u8 v0 v1 v2 v3 v4 v5 v6 v7 v8 m0 m1 m2 m3 m4 m5 m6 m7 m8 o0 o1 o2 o3 o4 o5 o6 o7 o8
  go_wp2
  go_ret
  exact ⟨by simp, B7⟩
end Go.Proofs.Ytkeipknbcjkomaa
