/- The walk of berthshiftkeep.QueueOrder. -/
import Derived.Test.YtkeipknbcjkomaaQkE
import Derived.Deep.QuietTactic
import Derived.BigQuiet
namespace Go.Proofs.Ytkeipknbcjkomaa
open Go.RowKit

/-- how many messages are ready, in memory. -/
def readyLen (w : World) (B : Nat) : Nat := match w.cell? ⟨B, 3, none⟩ with
  | some (.slice _ n _) => n
  | _ => 0
theorem readyLen_eq {w : World} {B : Nat} {s : St} {a1 : Option Addr} {c1 : Nat} {a2 : Option Addr} {c2 : Nat} {ws : Nat → Value} (h : Bx w B s a1 c1 a2 c2 ws) : readyLen w B = s.rn := by
  unfold readyLen
  rw [h.q.heads.2.2.2.1]
/-- a queue that is emptied. -/
structure Od (s : St) (last : Int) : Prop where
  wf : s.Wf
  gv : s.gv + s.rn ≤ 80
  sz : s.rn + s.ln ≤ 40
  up : 0 < s.rn → last < s.R.getD 0 0
theorem Od.next {s : St} {last : Int} (h : Od s last) (h0 : 0 < s.rn) {s' : St} (hs : s' = ⟨s.ep, s.nx, s.gv + 1, s.rn - 1, s.R.drop 2, s.ln + 1, s.L ++ [s.ep, s.gv, s.R.getD 0 0, s.R.getD 1 0], s.wt, s.wz⟩) (hw : s'.Wf) : Od s' (s.R.getD 0 0) := by
  have g := h.gv
  have z := h.sz
  refine ⟨hw, ?_, ?_, fun h1 => ?_⟩
  · rw [hs]; show s.gv + 1 + ((s.rn - 1 : Nat) : Int) ≤ 80; omega
  · rw [hs]; show s.rn - 1 + (s.ln + 1) ≤ 40; omega
  · have h2 : 0 + 1 < s.rn := by rw [hs] at h1; have : 0 < s.rn - 1 := h1; omega
    have := ready_rise h.wf.ok h2
    rw [hs]
    show s.R.getD 0 0 < (s.R.drop 2).getD 0 0
    rw [getD_drop]
    exact this
set_option maxRecDepth 20000 in
set_option maxHeartbeats 4000000 in
theorem walk_QueueOrder (w : World) (a : Option Addr) (len cap : Nat) (D : List Int) (h : RowK .i64 w a (4 * len) D) (_ : len ≤ cap) (_ : cap ≤ maxLen) (_ : a = none → cap = 0) :
    Calls Try.prog 5 #[.slice a len cap] w fun r w' => r = .returned (.bool true) ∧ Below w.heap.size w w' := by
  have HP := played_any a len cap 40 D w h (by omega)
  clear h
  go_enter Try.func5, Try.ntmps5
  go_upto_region 4 with (first
    | (go_at_call 15; refine HP.mono ?_; rintro r W1 ⟨s, es, ans, x, ve, va, rfl, hist, hl, _, _, ⟨⟨a1, c1, a2, c2, ws, rfl, r1, r2, l1, l2, n1, n2, hW, f1, f2⟩⟩, oe, oa, B1⟩; have HH := veil hist; have HB1 := veil B1.size; clear hist oe oa f1 f2 HP)
    | (refine q_alloc 3 rfl rfl rfl ?_; intro W2 z2 b2)
    | (refine q_store (ra := a1) (la := a2) (ws' := ws) _ _ rfl rfl rfl rfl z2 hW ?_; intro W3 q3 t3; obtain ⟨X3, b3, B3⟩ := boxed r1 r2 n1 n2 hW B1 b2 t3 q3; have HX3 := veil X3; have HB3 := veil B3; clear z2 b2 q3 t3 r1 r2 n1 n2 B1 b3 X3 B3))
  have hist := unveil HH
  have sm := hist.small hl
  have o0 : Od s (-1) := ⟨hist.wf, by omega, by omega, fun h0 => Int.lt_of_lt_of_le (by decide) (show (0 : Int) ≤ s.R.getD 0 0 from (ready_bounds hist.wf.ok h0).1)⟩
  obtain ⟨B, hB⟩ : ∃ B, B = W1.heap.size := ⟨_, rfl⟩
  have hBw : w.heap.size ≤ B := by rw [hB]; exact unveil HB1
  rw [← hB] at HX3 ⊢
  clear hB hist sm HH HB1
  go_loopw [7, 8] (fun ls i wr => ∃ (s : St) (last : Int) (a1 : Option Addr) (c1 : Nat) (a2 : Option Addr) (c2 : Nat) (ws : Nat → Value), i = .int .i64 0 ∧ ls = .int .i64 last ∧ Hid (Od s last) ∧ Bx wr B s a1 c1 a2 c2 ws ∧ Below w.heap.size w wr) (fun _ _ wr => readyLen wr B)
  case atStart => exact ⟨s, -1, a1, c1, a2, c2, ws, rfl, rfl, veil o0, unveil HX3, unveil HB3⟩
  case round =>
    clear HX3 HB3 o0 hl l1 l2 hW
    obtain ⟨s, last, a1, c1, a2, c2, ws, rfl, rfl, HO, X, Bw⟩ := hrel
    have o := unveil HO
    have q0 := X.q
    obtain ⟨g0, g1, g2, g3, g4⟩ := q0.heads
    have HX := veil X
    rcases Nat.eq_zero_or_pos s.rn with hr0 | hr0
    · have HDo : Calls Try.prog 19 #[qVal s.ep s.nx s.gv (.slice a1 s.rn c1) (.slice a2 s.ln c2) ws, .agg #[.int .i64 2, .int .i64 0, .int .i64 0, .int .i64 0, .int .i64 0, .int .i64 0]] wr fun e w' => ∃ (x : Value), e = .returned (.tuple #[x, ansVal 10 0 0 0, .bool false, .int .i64 0]) ∧ QOut wr w' s x ∧ Below wr.heap.size wr w' := by
        refine (X.do o.wf.ok ⟨2, 0, 0, 0, 0, 0⟩ ev_recv).mono ?_
        rintro e w' ⟨s2, an, ch, x, rfl, st, qo, bb⟩
        obtain ⟨rfl, rfl, rfl⟩ := st.emptied rfl hr0
        exact ⟨x, rfl, qo, bb⟩
      have Hr0 := veil hr0
      obtain ⟨rn, hrn⟩ : ∃ rn, rn = s.rn := ⟨_, rfl⟩
      rw [← hrn] at HDo q0 g3 hr0
      subst hr0
      clear o X hrn
      go_upto_region 13 with (first
        | (refine q_loads _ rfl rfl rfl q0 ?_)
        | (go_at_call 19; refine HDo.mono ?_; rintro r W4 ⟨x', rfl, ⟨⟨a1', c1', a2', c2', ws', rfl, r1, r2, l1', l2', n1, n2, hW', f1, f2⟩⟩, b4⟩; have B4 := Below.next Bw b4; clear HDo q0 b4 f1 f2)
        | (refine q_alloc 13 rfl rfl rfl ?_; intro W5 z5 b5; have hN5 : W4.heap.size < W5.heap.size := z5.lt; have z5' := z5.next (below1 W5 (.cells #[.int .i64 0, .int .i64 0, .int .i64 0, .int .i64 0] 47)))
        | (refine q_store (ra := a1') (la := a2') (ws' := ws') _ _ rfl rfl rfl rfl z5' hW' ?_; intro W6 q6 t6; obtain ⟨y0, y1, y2, y3⟩ := (ans0 hN5 t6).cells; have yf := (ans0 hN5 t6).free))
      obtain ⟨W7, hW7, X7, A7, b7, B7⟩ := boxed2 10 0 0 0 r1 r2 n1 n2 hW' B4 b5 hN5 t6 q6
      rw [← hW7]
      clear hW7 y0 y1 y2 y3 yf q6 t6 z5 z5' b5 r1 r2 n1 n2 B4
      obtain ⟨y0, y1, y2, y3⟩ := A7.cells
      go_wp2
      go_ret
      exact ⟨rfl, B7⟩
    · have HDo : Calls Try.prog 19 #[qVal s.ep s.nx s.gv (.slice a1 s.rn c1) (.slice a2 s.ln c2) ws, .agg #[.int .i64 2, .int .i64 0, .int .i64 0, .int .i64 0, .int .i64 0, .int .i64 0]] wr fun e w' => ∃ (s' : St) (x : Value), e = .returned (.tuple #[x, ansVal 0 s.ep s.gv (s.R.getD 1 0), .bool true, .int .i64 0]) ∧ (Od s' (s.R.getD 0 0) ∧ s'.rn = s.rn - 1 ∧ s'.ln = s.ln + 1) ∧ QOut wr w' s' x ∧ Below wr.heap.size wr w' := by
        refine (X.do o.wf.ok ⟨2, 0, 0, 0, 0, 0⟩ ev_recv).mono ?_
        rintro e w' ⟨s2, an, ch, x, rfl, st, qo, bb⟩
        have hw' := st.wf o.wf ev_recv
        obtain ⟨rfl, rfl, hs⟩ := st.received rfl hr0 (by have := o.gv; omega)
        refine ⟨s2, x, rfl, ⟨o.next hr0 hs hw', ?_, ?_⟩, qo, bb⟩
        · rw [hs]
        · rw [hs]
      obtain ⟨g, off, ha1⟩ := X.r1.form (by omega)
      subst ha1
      have k0 : wr.cell? ⟨g, off, none⟩ = some (.int .i64 (s.R.getD 0 0)) := X.r1.at 0 (by omega)
      have k1 : wr.cell? ⟨g, off + 1, none⟩ = some (.int .i64 (s.R.getD 1 0)) := X.r1.at 1 (by omega)
      have hup : decide (s.R.getD 0 0 ≤ last) = false := decide_eq_false (Int.not_le.2 (o.up hr0))
      have hsz := o.sz
      have hBl : B < wr.heap.size := q0.lt
      have hgl : g < wr.heap.size := X.r1.lt (by omega)
      clear o X
      generalize s.R.getD 0 0 = R0 at k0 hup HDo
      generalize s.R.getD 1 0 = R1 at k1 HDo
      go_upto_region 7 with (first
        | (refine q_loads _ rfl rfl rfl q0 ?_)
        | (go_at_call 19; refine HDo.mono ?_; rintro r W4 ⟨s', x', rfl, hs', ⟨⟨a1', c1', a2', c2', ws', rfl, r1, r2, l1', l2', n1, n2, hW', f1, f2⟩⟩, b4⟩; have HS' := veil hs'; have HF := veil (And.intro f1 f2); have B4 := Below.next Bw b4; have X4 := (unveil HX).next b4; have k04 := (b4.cell (p := ⟨g, off, none⟩) hgl).trans k0; have k14 := (b4.cell (p := ⟨g, off + 1, none⟩) hgl).trans k1; have HX4 := veil X4; have hg4 : g < W4.heap.size := Nat.lt_of_lt_of_le hgl b4.size; clear hs' HDo q0 b4 X4 f1 f2 k0 k1 g0 g1 g2 g3 g4)
        | (refine q_alloc 9 rfl rfl rfl ?_; intro W5 z5 b5; have hN5 : W4.heap.size < W5.heap.size := z5.lt; have z5' := z5.next (below1 W5 (.cells #[.int .i64 0, .int .i64 0, .int .i64 0, .int .i64 0] 47)))
        | (refine q_store (ra := a1') (la := a2') (ws' := ws') _ _ rfl rfl rfl rfl z5' hW' ?_; intro W6 q6 t6; obtain ⟨y0, y1, y2, y3⟩ := (ans0 hN5 t6).cells; have yf := (ans0 hN5 t6).free))
      obtain ⟨W7, hW7, X7, A7, b7, B7⟩ := boxed2 0 s.ep s.gv R1 r1 r2 n1 n2 hW' B4 b5 hN5 t6 q6
      rw [← hW7]
      have Y7 := (unveil HX4).next b7
      have k0 := (b7.cell (p := ⟨g, off, none⟩) hg4).trans k04
      have k1 := (b7.cell (p := ⟨g, off + 1, none⟩) hg4).trans k14
      clear hW7 y0 y1 y2 y3 yf q6 t6 z5 z5' b5 r1 r2 n1 n2 B4 b7 k04 k14
      obtain ⟨y0, y1, y2, y3⟩ := A7.cells
      obtain ⟨g0, g1, g2, g3, g4⟩ := X7.q.heads
      obtain ⟨u0, u1, u2, u3, u4⟩ := Y7.q.heads
      obtain ⟨n', hn'⟩ : ∃ n', s'.rn = n' := ⟨_, rfl⟩
      obtain ⟨l', hl'⟩ : ∃ l', s'.ln = l' := ⟨_, rfl⟩
      have hw1 : IntKind.i64.wrap ((s.rn : Int) - 1) = (n' : Int) := by have := (unveil HS').2.1; rw [IntKind.wrap_i64]; omega
      have hw2 : IntKind.i64.wrap ((s.ln : Int) + 1) = (l' : Int) := by have := (unveil HS').2.2; rw [IntKind.wrap_i64]; omega
      rw [hn'] at g3
      rw [hl'] at g4
      have HX7 := veil X7
      have HY7 := veil Y7
      have HN := veil (And.intro hn' hl')
      have hr1 : ¬ s.rn = 0 := by omega
      have HO' := veil (unveil HS').1
      clear X7 Y7 A7 hn' hl' HX4
      go_quiet (fail)
      obtain ⟨W8, hW8, b8⟩ : ∃ W8, W8 = W7.drewN nq ∧ Below W7.heap.size W7 W8 := ⟨_, rfl, belowN _ _⟩
      rw [← hW8]
      have X8 := (unveil HX7).next b8
      have Y8 := (unveil HY7).next b8
      have k08 : W8.cell? ⟨g, off, none⟩ = some (.int .i64 R0) := by rw [hW8]; exact k0
      obtain ⟨v0, v1, v2, v3, v4⟩ := Y8.q.heads
      have qx := X8.q
      have qy := Y8.q
      have HX8 := veil X8
      have B8 := Below.next B7 b8
      clear hW8 b8 k0 k1 y0 y1 y2 y3 g0 g1 g2 g3 g4 u0 u1 u2 u3 u4 X8 Y8 HX7 HY7 hw1 hw2 hup
      go_wp2_with (first
        | (refine q_loads _ rfl rfl rfl qx ?_)
        | (refine q_store (ra := a1') (la := a2') (ws' := ws') _ _ rfl rfl rfl rfl qy hW' ?_; intro W9 q9 t9; have hX := unveil HX8; have X9 : Bx W9 B s' a1' c1' a2' c2' ws' := ⟨q9, t9.row hX.r1 (fun x hx _ => by have := (unveil HF).1 x hx; omega), t9.row hX.r2 (fun x hx _ => by have := (unveil HF).2 x hx; omega), hX.n1, hX.n2, hX.wins⟩; have B9 := t9.under B8 hBw; have HX9 := veil X9; clear q9 t9 hX X9 qx qy))
      go_roundw
      case rel => exact ⟨s', R0, a1', c1', a2', c2', ws', by go_num, rfl, HO', unveil HX9, B9⟩
      case measure =>
        rw [readyLen_eq (unveil HX9), readyLen_eq (unveil HX)]
        have := (unveil HS').2.1
        omega
end Go.Proofs.Ytkeipknbcjkomaa
