/- The walk of berthshiftkeep.QueueOnce. -/
import Derived.Test.YtkeipknbcjkomaaQaD
namespace Go.Proofs.Ytkeipknbcjkomaa
open Go.RowKit

set_option maxRecDepth 20000 in
theorem run_queue_build (x : Int) (w : World) : (Instr.build 30 #[(0, .int .i64 x)]).run Try.prog w = .ok (qVal x 0 0 (.slice none 0 0) (.slice none 0 0) zeroW) w := by
  simp [Instr.build, run_underlying Try.underlying30, Try.zeroValue30, go_sem]
  rfl
theorem q_build {ops : Array Oper} {rest : List Oper} {o : Oper} {a : Act} {Q : Exit → Act → World → Prop} {w : World} {z : Int} (x : Operand) (ho : o.op = .build 30 #[(0, x)]) (hw : Region.wanted o (yielded ops a.tmps) = true) (hx : a.eval x = .int .i64 z)
    (h : wpList Try.prog ops Q rest (a.put o.dst (qVal z 0 0 (.slice none 0 0) (.slice none 0 0) zeroW)) w) : wpList Try.prog ops Q (o :: rest) a w :=
  wpList_step fun K hK => by
    rw [if_pos hw]
    have hrun := run_queue_build z w
    have := hK _ _ h
    unfold Oper.wp
    simp only [execOp, ho]
    simp only [List.map_toArray, List.map_cons, List.map_nil, hx]
    simp [hrun, Result.andThen]
    exact this
set_option maxRecDepth 20000 in
set_option maxHeartbeats 4000000 in
theorem walk_QueueOnce (w : World) (a : Option Addr) (len cap : Nat) (D : List Int) (h : RowK .i64 w a (4 * len) D) (_ : len ≤ cap) (_ : cap ≤ maxLen) (_ : a = none → cap = 0) (which : Int) (ww : (Lit.int .i64 which).wf = true) (body : Int) (wb : (Lit.int .i64 body).wf = true) :
    Calls Try.prog 4 #[.slice a len cap, .int .i64 which, .int .i64 body] w fun r w' => r = .returned (.bool true) ∧ Below w.heap.size w w' := by
  have HP := played_any a len cap 60 D w h (by omega)
  clear h
  go_enter Try.func4, Try.ntmps4
  go_upto_region 2 with (first
    | (go_at_call 15; refine HP.mono ?_; rintro r W1 ⟨s, es, ans, x, ve, va, rfl, hist, hl, _, _, ⟨⟨a1, c1, a2, c2, ws, rfl, r1, r2, l1, l2, n1, n2, hW, f1, f2⟩⟩, oe, oa, B1⟩; have HH := veil hist; obtain ⟨ae, ce, rfl, re, _, _, _, _⟩ := RowK.ofMany oe (evFlat_wf fun v hv => (hist.like v hv).ok); clear hist oe oa f1 f2 HP)
    | (refine q_alloc 7 rfl rfl rfl ?_; intro W2 z2 b2)
    | (refine q_store (ra := a1) (la := a2) (ws' := ws) _ _ rfl rfl rfl rfl z2 hW ?_; intro W3 q3 t3; obtain ⟨X3, b3, B3⟩ := boxed r1 r2 n1 n2 hW B1 b2 t3 q3; have HX3 := veil X3; have HB3 := veil B3; have HE3 := veil (re.below b3); clear z2 b2 q3 t3 r1 r2 n1 n2 B1 b3 X3 B3 re))
  have hist := unveil HH
  have sm := hist.small hl
  obtain ⟨e1, e4, e3, _⟩ := hist.counts
  have HC : Calls Try.prog 16 #[.slice ae es.length ce, .int .i64 1] W3 fun e w' => e = .returned (.int .i64 (cnt es 1)) ∧ w' = W3 := by
    have := count_any ae es.length ce (evFlat es) 1 W3 (unveil HE3) (by omega)
    rw [cntTo_all] at this
    exact this
  have hN : cnt es 1 ≤ 60 := Nat.le_trans (cnt_le es 1) hl
  obtain ⟨N, hNN⟩ : ∃ N, cnt es 1 = N := ⟨_, rfl⟩
  rw [hNN] at HC hN e3
  have HNN := veil hNN
  have hr0 : N = 0 → s.rn = 0 := by omega
  clear hist sm e1 e4 hNN e3
  obtain ⟨g0, g1, g2, g3, g4⟩ := (unveil HX3).q.heads
  rcases Nat.eq_zero_or_pos N with h0 | h0
  · have hrn := hr0 h0
    rw [hrn] at g3
    subst h0
    have HCk : ∀ w, Calls Try.prog 18 #[qVal (-1) 0 0 (.slice none 0 0) (.slice none 0 0) zeroW] w fun e w' => e = .returned (.int .i64 6) ∧ Below w.heap.size w w' := fun w => qcheck_no (-1) 0 0 none none 0 0 0 0 [] [] zeroW (fun _ => 0) (fun _ _ => false) w (RowK.nil _ _ _) (RowK.nil _ _ _) zeroWins (by omega) (fun h => by have := h.count.e0; omega)
    clear hr0 hrn HH HE3
    go_wp2_with (first
      | (go_at_call 16; refine HC.mono ?_; rintro r w1 ⟨rfl, hw1⟩; subst w1)
      | (refine q_build _ rfl rfl rfl ?_)
      | (go_at_call 18; refine (HCk _).mono ?_; rintro r w5 ⟨rfl, b5⟩))
    go_ret
    exact ⟨rfl, Below.next (unveil HB3) b5⟩
  · clear hr0 g0 g1 g2 g3 g4
    obtain ⟨j, hj⟩ : ∃ j : Nat, pickedOf which N = j := ⟨(pickedOf which N).toNat, by have := pickedOf_range which N (by omega); omega⟩
    have hjN : j < N := by have := pickedOf_range which N (by omega); omega
    have H1 := fun w => picked_any which N w ww (by omega) (by omega)
    rw [hj] at H1
    clear hj
    have H2 := fun w => picked_any body 1000 w wb (by omega) (by omega)
    have hbd := pickedOf_range body 1000 (by omega)
    generalize pickedOf body 1000 = bd at H2 hbd
    have hN0 : ¬ N = 0 := by omega
    go_upto_region 7 with (first
      | (go_at_call 16; refine HC.mono ?_; rintro r w1 ⟨rfl, hw1⟩; subst w1)
      | (go_at_call 17; refine (H1 _).mono ?_; rintro r w1 ⟨rfl, rfl⟩))
    clear H1 HC
    go_loopw [12, 13] (fun kk i wr => ∃ m c : Nat, m ≤ es.length ∧ i = .int .i64 m ∧ kk = .int .i64 c ∧ Hid (c + cnt (es.take m) 1 = j) ∧ c ≤ 60 ∧ wr = W3) (fun _ i _ => es.length - (intOf i).toNat)
    case atStart => exact ⟨0, j, Nat.zero_le _, rfl, rfl, veil (by simp [cnt]), by omega, rfl⟩
    case round =>
      obtain ⟨m, c, hm, rfl, rfl, HJ, hc60, rfl⟩ := hrel
      by_cases hlt : m < es.length
      case neg =>
        exfalso
        have hme : m = es.length := by omega
        have := unveil HJ
        rw [hme, List.take_length, unveil HNN] at this
        omega
      case pos =>
        have hist := unveil HH
        have hu := hist.like es[m] (List.getElem_mem hlt)
        have hmem : es[m] ∈ es := List.getElem_mem hlt
        have hcs := Ev.cases hu.ok
        obtain ⟨g, off, hae⟩ := (unveil HE3).form (by omega)
        subst hae
        obtain ⟨x0, x1, x2, x3, x4, x5⟩ := (unveil HE3).six m hlt
        have ea : ∀ t, t < 6 → (evFlat es).getD (6 * m + t) 0 = (evCells es[m]).getD t 0 := fun t ht => evFlat_at es m hlt t ht
        rw [show 6 * m = 6 * m + 0 from rfl, ea 0 (by omega)] at x0
        rw [ea 1 (by omega)] at x1
        rw [ea 2 (by omega)] at x2
        rw [ea 3 (by omega)] at x3
        rw [ea 4 (by omega)] at x4
        rw [ea 5 (by omega)] at x5
        have hct : cnt (es.take (m + 1)) 1 = cnt (es.take m) 1 + if es[m].k = 1 then 1 else 0 := by
          rw [List.take_succ_eq_append_getElem hlt, cnt_snoc]
        have HCT := veil hct
        obtain ⟨u, hu'⟩ : ∃ u, u = es[m] := ⟨_, rfl⟩
        rw [← hu'] at x0 x1 x2 x3 x4 x5 hu hmem hcs HCT
        clear hct ea hu'
        simp only [evCells, List.getD_cons_zero, List.getD_cons_succ] at x0 x1 x2 x3 x4 x5
        by_cases hk : u.k = 1
        · rcases Nat.eq_zero_or_pos c with hc0 | hc0
          · subst hc0
            have hz : u.he = 0 ∧ u.hn = 0 ∧ 0 ≤ u.p ∧ u.p ≤ 3 ∧ 0 ≤ u.i ∧ u.i ≤ 1073741824 := by omega
            have HDo : Hid (∀ W, Below wr.heap.size wr W → Calls Try.prog 19 #[qVal s.ep s.nx s.gv (.slice a1 s.rn c1) (.slice a2 s.ln c2) ws, .agg #[.int .i64 1, .int .i64 u.p, .int .i64 u.i, .int .i64 bd, .int .i64 0, .int .i64 0]] W fun e w' => ∃ (cd : Int) (x : Value), (cd = 0 ∨ cd = 9) ∧ e = .returned (.tuple #[x, ansVal cd 0 0 0, .bool false, .int .i64 0]) ∧ QOut W w' s x ∧ Below W.heap.size W w') := veil fun W b => by
              refine (((unveil HX3).next b).do hist.wf.ok ⟨1, u.p, u.i, bd, 0, 0⟩ (ev_pub (by omega) (by omega) (by omega))).mono ?_
              rintro e w' ⟨s2, an, ch, x, rfl, st, qo, bb⟩
              obtain ⟨rfl, han, rfl⟩ := Step.twice (v := ⟨1, u.p, u.i, bd, 0, 0⟩) hist hmem hk rfl rfl rfl st
              rcases han with rfl | rfl
              · exact ⟨0, x, .inl rfl, rfl, qo, bb⟩
              · exact ⟨9, x, .inr rfl, rfl, qo, bb⟩
            rw [hk] at x0
            rw [hz.1] at x4
            rw [hz.2.1] at x5
            generalize u.p = p at x1 HDo
            generalize u.i = i at x2 HDo
            generalize u.b = b at x3
            clear hist hu hmem hcs hz HCT HJ hk
            go_upto_region 14 with (go_at_call 17; refine (H2 _).mono ?_; rintro r w1 ⟨rfl, rfl⟩)
            obtain ⟨W14, hW14, bb14, ev14⟩ : ∃ W14, W14 = wr.alloc (.cells #[.int .i64 1, .int .i64 p, .int .i64 i, .int .i64 bd, .int .i64 0, .int .i64 0] 45) ∧ Below wr.heap.size wr W14 ∧ W14.heap[wr.heap.size]? = some (.cells #[.int .i64 1, .int .i64 p, .int .i64 i, .int .i64 bd, .int .i64 0, .int .i64 0] 45 (0, 0)) := ⟨_, rfl, below1 _ _, heap_alloc_new _ _⟩
            rw [← hW14]
            have v0 : W14.cell? ⟨wr.heap.size, 0, none⟩ = some (.int .i64 1) := by simp [World.cell?, ev14]
            have v1 : W14.cell? ⟨wr.heap.size, 1, none⟩ = some (.int .i64 p) := by simp [World.cell?, ev14]
            have v2 : W14.cell? ⟨wr.heap.size, 2, none⟩ = some (.int .i64 i) := by simp [World.cell?, ev14]
            have v3 : W14.cell? ⟨wr.heap.size, 3, none⟩ = some (.int .i64 bd) := by simp [World.cell?, ev14]
            have v4 : W14.cell? ⟨wr.heap.size, 4, none⟩ = some (.int .i64 0) := by simp [World.cell?, ev14]
            have v5 : W14.cell? ⟨wr.heap.size, 5, none⟩ = some (.int .i64 0) := by simp [World.cell?, ev14]
            have HDo14 := unveil HDo _ bb14
            have q14 := (unveil HX3).q.next bb14
            have HX14 := veil ((unveil HX3).next bb14)
            have B14 := Below.next (unveil HB3) bb14
            clear hW14 bb14 ev14 HDo x0 x1 x2 x3 x4 x5
            go_upto_region 15 with (first
              | (refine q_loads _ rfl rfl rfl q14 ?_)
              | (go_at_call 19; refine HDo14.mono ?_; rintro r W4 ⟨cd, x', hcd, rfl, ⟨⟨a1', c1', a2', c2', ws', rfl, r1, r2, l1', l2', n1, n2, hW', f1, f2⟩⟩, b4⟩; have HCD := veil hcd; have B4 := Below.next B14 b4; have X4 := (unveil HX14).next b4; have HX4 := veil X4; clear hcd HDo14 q14 b4 X4 f1 f2 v0 v1 v2 v3 v4 v5)
              | (refine q_alloc 15 rfl rfl rfl ?_; intro W5 z5 b5; have hN5 : W4.heap.size < W5.heap.size := z5.lt; have z5' := z5.next (below1 W5 (.cells #[.int .i64 0, .int .i64 0, .int .i64 0, .int .i64 0] 47)))
              | (refine q_store (ra := a1') (la := a2') (ws' := ws') _ _ rfl rfl rfl rfl z5' hW' ?_; intro W6 q6 t6; obtain ⟨y0, y1, y2, y3⟩ := (ans0 hN5 t6).cells; have yf := (ans0 hN5 t6).free))
            obtain ⟨W7, hW7, X7, A7, b7, B7⟩ := boxed2 cd 0 0 0 r1 r2 n1 n2 hW' B4 b5 hN5 t6 q6
            rw [← hW7]
            have Y7 := (unveil HX4).next b7
            clear hW7 y0 y1 y2 y3 yf q6 t6 z5 z5' b5 r1 r2 n1 n2 B4
            obtain ⟨g0, g1, g2, g3, g4⟩ := X7.q.heads
            obtain ⟨k0, k1, k2, k3, k4⟩ := Y7.q.heads
            have hcd := unveil HCD
            rcases hcd with rfl | rfl
            all_goals
              obtain ⟨y0, y1, y2, y3⟩ := A7.cells
              clear X7 Y7 A7 HX4 HX14
              go_wp2
              go_ret
              exact ⟨by simp, B7⟩
          · have HJ1 : Hid (c - 1 + cnt (es.take (m + 1)) 1 = j) := veil (by have := unveil HJ; rw [unveil HCT, if_pos hk]; omega)
            obtain ⟨d, rfl⟩ : ∃ d, c = d + 1 := ⟨c - 1, by omega⟩
            rw [hk] at x0
            clear hist hu hmem hcs HCT HJ hk
            go_wp2
            go_roundw
            case rel => exact ⟨m + 1, d, by omega, by go_num, by go_num, HJ1, by omega, by first | rfl | trivial⟩
            case measure => simp [intOf]; omega
        · have HJ1 : Hid (c + cnt (es.take (m + 1)) 1 = j) := veil (by have := unveil HJ; rw [unveil HCT, if_neg hk]; omega)
          clear hist hu hmem hcs HCT HJ
          generalize u.k = uk at x0 hk
          go_wp2
          go_roundw
          case rel => exact ⟨m + 1, c, by omega, by go_num, rfl, HJ1, by omega, by first | rfl | trivial⟩
          case measure => simp [intOf]; omega
end Go.Proofs.Ytkeipknbcjkomaa
