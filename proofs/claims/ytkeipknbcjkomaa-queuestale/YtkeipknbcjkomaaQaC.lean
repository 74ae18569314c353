/- The walk of berthshiftkeep.QueueStale. -/
import Derived.Test.YtkeipknbcjkomaaQkF
import Derived.Deep.QuietTactic
import Derived.BigQuiet
namespace Go.Proofs.Ytkeipknbcjkomaa
open Go.RowKit

/-- the two queues of QueueStale, in their boxes. -/
structure Sl (w wr : World) (B C : Nat) (s t : St) (a1 : Option Addr) (c1 : Nat) (a2 : Option Addr) (c2 : Nat) (ws : Nat → Value) (b1 : Option Addr) (d1 : Nat) (b2 : Option Addr) (d2 : Nat) (vs : Nat → Value) : Prop where
  q : Bx wr B s a1 c1 a2 c2 ws
  t : Bx wr C t b1 d1 b2 d2 vs
  bel : Below w.heap.size w wr
theorem Sl.next {w wr wx : World} {B C : Nat} {s t : St} {a1 : Option Addr} {c1 : Nat} {a2 : Option Addr} {c2 : Nat} {ws : Nat → Value} {b1 : Option Addr} {d1 : Nat} {b2 : Option Addr} {d2 : Nat} {vs : Nat → Value} (h : Sl w wr B C s t a1 c1 a2 c2 ws b1 d1 b2 d2 vs) (b : Below wr.heap.size wr wx) : Sl w wx B C s t a1 c1 a2 c2 ws b1 d1 b2 d2 vs :=
  ⟨h.q.next b, h.t.next b, Below.next h.bel b⟩
set_option maxRecDepth 20000 in
set_option maxHeartbeats 4000000 in
theorem walk_QueueStale (w : World) (a : Option Addr) (len cap : Nat) (D : List Int) (h : RowK .i64 w a (4 * len) D) (_ : len ≤ cap) (_ : cap ≤ maxLen) (_ : a = none → cap = 0) :
    Calls Try.prog 6 #[.slice a len cap] w fun r w' => r = .returned (.bool true) ∧ Below w.heap.size w w' := by
  have HP := played_any a len cap 60 D w h (by omega)
  clear h
  go_enter Try.func6, Try.ntmps6
  go_upto_region 2 with (first
    | (go_at_call 15; refine HP.mono ?_; rintro r W1 ⟨s, es, ans, x, ve, va, rfl, hist, hl, _, _, ⟨⟨a1, c1, a2, c2, ws, rfl, r1, r2, l1, l2, n1, n2, hW, f1, f2⟩⟩, oe, oa, B1⟩; have HH := veil hist; clear hist oe oa f1 f2 HP)
    | (refine q_alloc 3 rfl rfl rfl ?_; intro W2 z2 b2)
    | (refine q_store (ra := a1) (la := a2) (ws' := ws) _ _ rfl rfl rfl rfl z2 hW ?_; intro W3 q3 t3; obtain ⟨X3, b3, B3⟩ := boxed r1 r2 n1 n2 hW B1 b2 t3 q3; have HX3 := veil X3; have HB3 := veil B3; clear z2 b2 q3 t3 r1 r2 n1 n2 B1 b3 X3 B3))
  have hist := unveil HH
  have sm := hist.small hl
  have wf := hist.wf
  have q3 := (unveil HX3).q
  have HDo : Calls Try.prog 19 #[qVal s.ep s.nx s.gv (.slice a1 s.rn c1) (.slice a2 s.ln c2) ws, .agg #[.int .i64 4, .int .i64 0, .int .i64 0, .int .i64 0, .int .i64 0, .int .i64 0]] W3 fun e w' => ∃ (t : St) (x : Value), e = .returned (.tuple #[x, ansVal 0 0 0 0, .bool true, .int .i64 0]) ∧ (t.Wf ∧ t.ep = s.ep + 1 ∧ t.rn = s.rn + s.ln ∧ t.ln = 0 ∧ ∀ i, i + 1 < t.rn → t.R.getD (2 * i) 0 < t.R.getD (2 * (i + 1)) 0) ∧ QOut W3 w' t x ∧ Below W3.heap.size W3 w' := by
    refine ((unveil HX3).do wf.ok ⟨4, 0, 0, 0, 0, 0⟩ ev_break).mono ?_
    rintro e w' ⟨t, an, ch, x, rfl, st, qo, bb⟩
    have hw' := st.wf wf ev_break
    obtain ⟨rfl, rfl, h1, _, h3, h4, _, _, h5⟩ := st.stopped wf rfl (by omega)
    exact ⟨t, x, rfl, ⟨hw', h1, h3, h4, h5⟩, qo, bb⟩
  have HS : Hid (s.Wf ∧ s.rn + s.ln ≤ 60 ∧ 0 ≤ s.ep ∧ s.ep ≤ 60) := veil ⟨wf, by omega, by omega, by omega⟩
  clear hist sm wf HH
  go_upto_region 3 with (first
    | (refine q_loads _ rfl rfl rfl q3 ?_)
    | (go_at_call 19; refine HDo.mono ?_; rintro r W4 ⟨t, x', rfl, ht, ⟨⟨b1, d1, b2, d2, vs, rfl, r1, r2, l1', l2', n1, n2, hW', f1, f2⟩⟩, b4⟩; have HT := veil ht; have B4 := Below.next (unveil HB3) b4; have X4 := (unveil HX3).next b4; have HX4 := veil X4; clear ht HDo q3 b4 X4 f1 f2)
    | (refine q_alloc 7 rfl rfl rfl ?_; intro W5 z5 b5; have hN5 : W4.heap.size < W5.heap.size := z5.lt; have z5' := z5.next (below1 W5 (.cells #[.int .i64 0, .int .i64 0, .int .i64 0, .int .i64 0] 47)))
    | (refine q_store (ra := b1) (la := b2) (ws' := vs) _ _ rfl rfl rfl rfl z5' hW' ?_; intro W6 q6 t6; obtain ⟨y0, y1, y2, y3⟩ := (ans0 hN5 t6).cells; have yf := (ans0 hN5 t6).free))
  obtain ⟨W7, hW7, X7, A7, b7, B7⟩ := boxed2 0 0 0 0 r1 r2 n1 n2 hW' B4 b5 hN5 t6 q6
  rw [← hW7]
  have S7 : Sl w W7 W1.heap.size W4.heap.size s t a1 c1 a2 c2 ws b1 d1 b2 d2 vs := ⟨(unveil HX4).next b7, X7, B7⟩
  clear hW7 y0 y1 y2 y3 yf q6 t6 z5 z5' b5 r1 r2 n1 n2 B4
  obtain ⟨y0, y1, y2, y3⟩ := A7.cells
  obtain ⟨g0, g1, g2, g3, g4⟩ := S7.q.q.heads
  obtain ⟨k0, k1, k2, k3, k4⟩ := S7.t.q.heads
  have ht := unveil HT
  have hs := unveil HS
  rw [ht.2.1] at k0
  rw [ht.2.2.1] at k3
  rw [ht.2.2.2.1] at k4
  have hep : IntKind.i64.wrap (s.ep + 1) = s.ep + 1 := by rw [IntKind.wrap_i64]; omega
  have hsum : IntKind.i64.wrap ((s.rn : Int) + (s.ln : Int)) = ((s.rn + s.ln : Nat) : Int) := by rw [IntKind.wrap_i64]; omega
  have hs60 := hs.2.1
  have HS7 := veil S7
  clear ht hs S7 X7 A7 b7 B7 HX4
  go_upto_region 6 with fail
  clear g0 g1 g2 g3 g4 k0 k1 k2 k3 k4 y0 y1 y2 y3
  obtain ⟨B, hB⟩ : ∃ B, B = W1.heap.size := ⟨_, rfl⟩
  obtain ⟨C, hC⟩ : ∃ C, C = W4.heap.size := ⟨_, rfl⟩
  rw [← hB, ← hC] at HS7 ⊢
  clear hB hC
  go_loopw [11] (fun i wr => ∃ m : Nat, m ≤ s.ln ∧ i = .int .i64 m ∧ Hid (Sl w wr B C s t a1 c1 a2 c2 ws b1 d1 b2 d2 vs)) (fun i _ => s.ln - (intOf i).toNat)
  case atStart => exact ⟨0, Nat.zero_le _, rfl, HS7⟩
  case round =>
    obtain ⟨m, hm, rfl, HM⟩ := hrel
    have S := unveil HM
    obtain ⟨g0, g1, g2, g3, g4⟩ := S.q.q.heads
    by_cases hlt : m < s.ln
    · have hs := unveil HS
      have ht := unveil HT
      obtain ⟨g, off, ha2⟩ := S.q.r2.form (by omega)
      subst ha2
      have k0 : wr.cell? ⟨g, off + m * 4, none⟩ = some (.int .i64 (s.L.getD (4 * m) 0)) := by rw [Nat.mul_comm m 4]; exact S.q.r2.at (4 * m) (by omega)
      have k1 : wr.cell? ⟨g, off + m * 4 + 1, none⟩ = some (.int .i64 (s.L.getD (4 * m + 1) 0)) := by rw [Nat.mul_comm m 4]; exact S.q.r2.at (4 * m + 1) (by omega)
      have lb := lease_bounds hs.1.ok hlt
      have gb := hs.1.ok.count.g1
      have HDo : Hid (∀ W, Below wr.heap.size wr W → Calls Try.prog 19 #[qVal t.ep t.nx t.gv (.slice b1 t.rn d1) (.slice b2 t.ln d2) vs, .agg #[.int .i64 3, .int .i64 0, .int .i64 0, .int .i64 0, .int .i64 (s.L.getD (4 * m) 0), .int .i64 (s.L.getD (4 * m + 1) 0)]] W fun e w' => ∃ (x : Value), e = .returned (.tuple #[x, ansVal 11 0 0 0, .bool false, .int .i64 0]) ∧ QOut W w' t x ∧ Below W.heap.size W w') := veil fun W b => by
        refine ((S.t.next b).do ht.1.ok ⟨3, 0, 0, 0, s.L.getD (4 * m) 0, s.L.getD (4 * m + 1) 0⟩ (ev_ack (by omega) (by omega))).mono ?_
        rintro e w' ⟨s2, an, ch, x, rfl, st, qo, bb⟩
        obtain ⟨rfl, rfl, rfl⟩ := st.stale rfl (by show ¬ s.L.getD (4 * m) 0 = t.ep; omega)
        exact ⟨x, rfl, qo, bb⟩
      generalize s.L.getD (4 * m) 0 = he at k0 HDo
      generalize s.L.getD (4 * m + 1) 0 = hn at k1 HDo
      have qt := S.t.q
      have hBl : B < wr.heap.size := S.q.q.lt
      have hgl : g < wr.heap.size := S.q.r2.lt (by omega)
      have hl60 : s.ln ≤ 60 := by omega
      clear hs ht lb gb S
      go_upto_region 8 with fail
      go_cut [12, 13, 14, 15] (fun p12 p13 c14 c15 wx => ∃ X A b1' d1' b2' d2' vs', p12 = .pointer (some ⟨X, 0, none⟩) ∧ p13 = .pointer (some ⟨A, 0, none⟩) ∧ c14 = .bool false ∧ c15 = .int .i64 0 ∧ Bx wx X t b1' d1' b2' d2' vs' ∧ ansBlock wx A 11 0 0 0 ∧ Below wr.heap.size wr wx)
      case first =>
        refine wp_region_held_drew (S := Below wr.heap.size wr) (by kernel_rfl) (below_drew wr) (fun hHeld => ?_)
        refine wpAnyH_take (i := 0) (v := _) rfl (by kernel_rfl) (by kernel_rfl) (by kernel_rfl) (fun _ _ _ h => h) (yields_q _ rfl rfl rfl (fun _ b => qt.next b)) hHeld ?_
        simp only [List.getElem_toArray, List.getElem_cons_zero, Act.put, List.setIfInBounds_toArray, List.set_cons_zero, List.set_cons_succ]
        refine wpAnyH_take (i := 1) (v := .pointer (some ⟨B, 4, none⟩)) rfl (by kernel_rfl) (by kernel_rfl) (by kernel_rfl) (fun _ _ _ h => h) (Or.inl ⟨by rfl, fun _ _ => by go_simp⟩) hHeld ?_
        simp only [List.getElem_toArray, List.getElem_cons_zero, List.getElem_cons_succ, Act.put, List.setIfInBounds_toArray, List.set_cons_zero, List.set_cons_succ]
        refine wpAnyH_take (i := 2) (v := .slice (some ⟨g, off, none⟩) s.ln c2) rfl (by kernel_rfl) (by kernel_rfl) (by kernel_rfl) (fun _ _ _ h => h) (Or.inl ⟨by rfl, fun w b => by have c := (b.cell (p := ⟨B, 4, none⟩) hBl).trans g4; go_simp⟩) hHeld ?_
        simp only [List.getElem_toArray, List.getElem_cons_zero, List.getElem_cons_succ, Act.put, List.setIfInBounds_toArray, List.set_cons_zero, List.set_cons_succ]
        refine wpAnyH_take (i := 3) (v := .int .i64 m) rfl (by kernel_rfl) (by kernel_rfl) (by kernel_rfl) (fun _ _ _ h => h) (Or.inl ⟨by rfl, fun _ _ => by go_simp⟩) hHeld ?_
        simp only [List.getElem_toArray, List.getElem_cons_zero, List.getElem_cons_succ, Act.put, List.setIfInBounds_toArray, List.set_cons_zero, List.set_cons_succ]
        refine wpAnyH_take (i := 4) (v := .pointer (some ⟨g, off + m * 4, none⟩)) rfl (by kernel_rfl) (by kernel_rfl) (by kernel_rfl) (fun _ _ _ h => h) (Or.inl ⟨by rfl, fun _ _ => by go_simp⟩) hHeld ?_
        simp only [List.getElem_toArray, List.getElem_cons_zero, List.getElem_cons_succ, Act.put, List.setIfInBounds_toArray, List.set_cons_zero, List.set_cons_succ]
        refine wpAnyH_take (i := 5) (v := .pointer (some ⟨g, off + m * 4, none⟩)) rfl (by kernel_rfl) (by kernel_rfl) (by kernel_rfl) (fun _ _ _ h => h) (Or.inl ⟨by rfl, fun _ _ => by go_simp⟩) hHeld ?_
        simp only [List.getElem_toArray, List.getElem_cons_zero, List.getElem_cons_succ, Act.put, List.setIfInBounds_toArray, List.set_cons_zero, List.set_cons_succ]
        refine wpAnyH_take (i := 6) (v := .agg #[.int .i64 he, .int .i64 hn]) rfl (by kernel_rfl) (by kernel_rfl) (by kernel_rfl) (fun _ _ _ h => h) (Or.inl ⟨by rfl, fun w b => by have c := (b.cell (p := ⟨g, off + m * 4, none⟩) hgl).trans k0; have c' := (b.cell (p := ⟨g, off + m * 4 + 1, none⟩) hgl).trans k1; go_simp⟩) hHeld ?_
        simp only [List.getElem_toArray, List.getElem_cons_zero, List.getElem_cons_succ, Act.put, List.setIfInBounds_toArray, List.set_cons_zero, List.set_cons_succ]
        refine wpAnyH_take (i := 7) (v := .agg #[.int .i64 3, .int .i64 0, .int .i64 0, .int .i64 0, .int .i64 he, .int .i64 hn]) rfl (by kernel_rfl) (by kernel_rfl) (by kernel_rfl) (fun _ _ _ h => h) (Or.inl ⟨by rfl, fun _ _ => by go_simp⟩) hHeld ?_
        simp only [List.getElem_toArray, List.getElem_cons_zero, List.getElem_cons_succ, Act.put, List.setIfInBounds_toArray, List.set_cons_zero, List.set_cons_succ]
        have bW0 := below_drew wr
        have hz0 : wr.heap.size ≤ wr.drew.heap.size := bW0.size
        obtain ⟨W0, hW0⟩ : ∃ W0, W0 = wr.drew := ⟨_, rfl⟩
        rw [← hW0] at bW0 hz0 hHeld ⊢
        clear hW0
        refine wpAnyH_ready (rs := [8, 14, 15]) (by kernel_rfl) (by simp) ?_
        refine AllReadyH.cons rfl (fun K hK => ?_) (AllReadyH.cons rfl (fun K hK => ?_) (AllReadyH.cons rfl (fun K hK => ?_) AllReadyH.nil))
        · simp only [List.getElem_toArray, List.getElem_cons_zero, List.getElem_cons_succ]
          go_simp
          refine (unveil HDo _ bW0).mono ?_
          rintro e WC ⟨x', rfl, ⟨⟨b1', d1', b2', d2', vs', rfl, r1, r2, l1', l2', n1, n2, hW'', f1, f2⟩⟩, bn⟩
          have hr1 := fun x hx h0 => r1.blk_lt x hx h0
          have hr2 := fun x hx h0 => r2.blk_lt x hx h0
          have bWC := Below.next bW0 bn
          have hSWC : W0.heap.size ≤ WC.heap.size := bn.size
          refine hK.out _ _ bWC (fun hHeld => ?_)
          clear hK K bn
          refine wpAnyH_take (i := 9) (v := .tuple #[qVal t.ep t.nx t.gv (.slice b1' t.rn d1') (.slice b2' t.ln d2') vs', ansVal 11 0 0 0, .bool false, .int .i64 0]) rfl (by kernel_rfl) (by kernel_rfl) (by kernel_rfl) (fun _ _ _ h => h) (Or.inl ⟨by rfl, fun _ _ => by go_simp⟩) hHeld ?_
          simp only [List.getElem_toArray, List.getElem_cons_zero, List.getElem_cons_succ, Act.put, List.setIfInBounds_toArray, List.set_cons_zero, List.set_cons_succ]
          refine wpAnyH_take (i := 10) (v := qVal t.ep t.nx t.gv (.slice b1' t.rn d1') (.slice b2' t.ln d2') vs') rfl (by kernel_rfl) (by kernel_rfl) (by kernel_rfl) (fun _ _ _ h => h) (Or.inl ⟨by rfl, fun _ _ => by go_simp⟩) hHeld ?_
          simp only [List.getElem_toArray, List.getElem_cons_zero, List.getElem_cons_succ, Act.put, List.setIfInBounds_toArray, List.set_cons_zero, List.set_cons_succ]
          refine wpAnyH_take (i := 11) (v := ansVal 11 0 0 0) rfl (by kernel_rfl) (by kernel_rfl) (by kernel_rfl) (fun _ _ _ h => h) (Or.inl ⟨by rfl, fun _ _ => by go_simp⟩) hHeld ?_
          simp only [List.getElem_toArray, List.getElem_cons_zero, List.getElem_cons_succ, Act.put, List.setIfInBounds_toArray, List.set_cons_zero, List.set_cons_succ]
          refine wpAnyH_take (i := 12) (v := .bool false) rfl (by kernel_rfl) (by kernel_rfl) (by kernel_rfl) (fun _ _ _ h => h) (Or.inl ⟨by rfl, fun _ _ => by go_simp⟩) hHeld ?_
          simp only [List.getElem_toArray, List.getElem_cons_zero, List.getElem_cons_succ, Act.put, List.setIfInBounds_toArray, List.set_cons_zero, List.set_cons_succ]
          refine wpAnyH_take (i := 13) (v := .int .i64 0) rfl (by kernel_rfl) (by kernel_rfl) (by kernel_rfl) (fun _ _ _ h => h) (Or.inl ⟨by rfl, fun _ _ => by go_simp⟩) hHeld ?_
          simp only [List.getElem_toArray, List.getElem_cons_zero, List.getElem_cons_succ, Act.put, List.setIfInBounds_toArray, List.set_cons_zero, List.set_cons_succ]
          refine wpAnyH_ready (rs := [14, 15]) (by kernel_rfl) (by simp) ?_
          refine AllReadyH.cons rfl (fun K hK => ?_) (AllReadyH.cons rfl (fun K hK => ?_) AllReadyH.nil)
          · simp only [List.getElem_toArray, List.getElem_cons_zero, List.getElem_cons_succ]
            refine ite_wanted rfl ?_
            refine q_alloc_wp 12 rfl rfl ?_
            intro WCQ zq bn
            have hXq : WC.heap.size < WCQ.heap.size := zq.lt
            have bWCQ := Below.next bWC bn
            have r1 := r1.below bn
            have r2 := r2.below bn
            have hSWCQ : WC.heap.size ≤ WCQ.heap.size := bn.size
            refine hK.out _ _ bWCQ (fun hHeld => ?_)
            clear hK K bn
            refine wpAnyH_ready (rs := [15]) (by kernel_rfl) (by simp) ?_
            refine AllReadyH.cons rfl (fun K hK => ?_) AllReadyH.nil
            · simp only [List.getElem_toArray, List.getElem_cons_zero, List.getElem_cons_succ]
              go_simp
              obtain ⟨WCQA, hWCQA, ya, bn⟩ : ∃ W, W = WCQ.alloc (.cells #[.int .i64 0, .int .i64 0, .int .i64 0, .int .i64 0] 47) ∧ ansBlock W WCQ.heap.size 0 0 0 0 ∧ Below WCQ.heap.size WCQ W := ⟨_, rfl, ansBlock.new _ 0 0 0 0, below1 _ _⟩
              rw [← hWCQA]
              have hXa : WCQ.heap.size < WCQA.heap.size := ya.lt
              have bWCQA := Below.next bWCQ bn
              clear hWCQA
              have zq := zq.next bn
              have r1 := r1.below bn
              have r2 := r2.below bn
              have hSWCQA : WCQ.heap.size ≤ WCQA.heap.size := bn.size
              refine hK.out _ _ bWCQA (fun hHeld => ?_)
              clear hK K bn
              refine wpAnyH_ready (rs := [16]) (by kernel_rfl) (by simp) ?_
              refine AllReadyH.cons rfl (fun K hK => ?_) AllReadyH.nil
              simp only [List.getElem_toArray, List.getElem_cons_zero, List.getElem_cons_succ]
              refine ite_wanted rfl ?_
              refine q_store_wp (ra := b1') (la := b2') (ws' := vs') _ _ rfl rfl rfl zq hW'' ?_
              intro Wq q5 t5
              have ya5 := ya.turned t5 (by omega)
              have r15 := t5.row r1 (fun x hx h0 => by have := f1 x hx; have := hr1 x hx h0; omega)
              have r25 := t5.row r2 (fun x hx h0 => by have := f2 x hx; have := hr2 x hx h0; omega)
              have b5 := t5.under bWCQA (by omega)
              refine hK.out _ _ b5 (fun hHeld => ?_)
              clear hK K
              refine wpAnyH_ready (rs := [17]) (by kernel_rfl) (by simp) ?_
              refine AllReadyH.cons rfl (fun K hK => ?_) AllReadyH.nil
              simp only [List.getElem_toArray, List.getElem_cons_zero, List.getElem_cons_succ]
              obtain ⟨y0, y1, y2, y3⟩ := ya5.cells
              have yf := ya5.free
              go_simp
              have t6 := ans_turned Wq (WCQ.heap.size) 11 0 0 0
              have ya6 := ya5.store 11 0 0 0
              have q6 := t6.queue q5 (by omega)
              have b6 := t6.under b5 (by omega)
              have X6 : Bx _ (WC.heap.size) t b1' d1' b2' d2' vs' := ⟨q6, t6.row r15 (fun x hx h0 => by have := f1 x hx; have := hr1 x hx h0; omega), t6.row r25 (fun x hx h0 => by have := f2 x hx; have := hr2 x hx h0; omega), n1, n2, hW''⟩
              unfold ansStore at ya6 X6 b6
              refine hK.out _ _ b6 (fun hHeld => ?_)
              clear hK K y0 y1 y2 y3 yf q6 t6
              generalize (((Wq.setCell ⟨WCQ.heap.size, 0, none⟩ (.int .i64 11)).setCell ⟨WCQ.heap.size, 1, none⟩ (.int .i64 0)).setCell ⟨WCQ.heap.size, 2, none⟩ (.int .i64 0)).setCell ⟨WCQ.heap.size, 3, none⟩ (.int .i64 0) = W6 at ya6 X6 b6 hHeld ⊢
              refine wpAnyH_take (i := 18) (v := .bool false) rfl (by kernel_rfl) (by kernel_rfl) (by kernel_rfl) (fun _ _ _ h => h) (Or.inl ⟨by rfl, fun _ _ => by go_simp⟩) hHeld ?_
              simp only [List.getElem_toArray, List.getElem_cons_zero, List.getElem_cons_succ, Act.put, List.setIfInBounds_toArray, List.set_cons_zero, List.set_cons_succ]
              refine wpAnyH_take (i := 19) (v := .int .i64 0) rfl (by kernel_rfl) (by kernel_rfl) (by kernel_rfl) (fun _ _ _ h => h) (Or.inl ⟨by rfl, fun _ _ => by go_simp⟩) hHeld ?_
              simp only [List.getElem_toArray, List.getElem_cons_zero, List.getElem_cons_succ, Act.put, List.setIfInBounds_toArray, List.set_cons_zero, List.set_cons_succ]
              refine wpAnyH_done (by kernel_rfl) ?_ _
              go_wp2_with fail
              go_meet
              exact ⟨_, _, _, _, _, _, _, rfl, rfl, rfl, rfl, X6, ya6, b6⟩
          · simp only [List.getElem_toArray, List.getElem_cons_zero, List.getElem_cons_succ]
            go_simp
            obtain ⟨WCA, hWCA, ya, bn⟩ : ∃ W, W = WC.alloc (.cells #[.int .i64 0, .int .i64 0, .int .i64 0, .int .i64 0] 47) ∧ ansBlock W WC.heap.size 0 0 0 0 ∧ Below WC.heap.size WC W := ⟨_, rfl, ansBlock.new _ 0 0 0 0, below1 _ _⟩
            rw [← hWCA]
            have hXa : WC.heap.size < WCA.heap.size := ya.lt
            have bWCA := Below.next bWC bn
            clear hWCA
            have r1 := r1.below bn
            have r2 := r2.below bn
            have hSWCA : WC.heap.size ≤ WCA.heap.size := bn.size
            refine hK.out _ _ bWCA (fun hHeld => ?_)
            clear hK K bn
            refine wpAnyH_ready (rs := [14]) (by kernel_rfl) (by simp) ?_
            refine AllReadyH.cons rfl (fun K hK => ?_) AllReadyH.nil
            · simp only [List.getElem_toArray, List.getElem_cons_zero, List.getElem_cons_succ]
              refine ite_wanted rfl ?_
              refine q_alloc_wp 12 rfl rfl ?_
              intro WCAQ zq bn
              have hXq : WCA.heap.size < WCAQ.heap.size := zq.lt
              have bWCAQ := Below.next bWCA bn
              have ya := ya.next bn
              have r1 := r1.below bn
              have r2 := r2.below bn
              have hSWCAQ : WCA.heap.size ≤ WCAQ.heap.size := bn.size
              refine hK.out _ _ bWCAQ (fun hHeld => ?_)
              clear hK K bn
              refine wpAnyH_ready (rs := [16]) (by kernel_rfl) (by simp) ?_
              refine AllReadyH.cons rfl (fun K hK => ?_) AllReadyH.nil
              simp only [List.getElem_toArray, List.getElem_cons_zero, List.getElem_cons_succ]
              refine ite_wanted rfl ?_
              refine q_store_wp (ra := b1') (la := b2') (ws' := vs') _ _ rfl rfl rfl zq hW'' ?_
              intro Wq q5 t5
              have ya5 := ya.turned t5 (by omega)
              have r15 := t5.row r1 (fun x hx h0 => by have := f1 x hx; have := hr1 x hx h0; omega)
              have r25 := t5.row r2 (fun x hx h0 => by have := f2 x hx; have := hr2 x hx h0; omega)
              have b5 := t5.under bWCAQ (by omega)
              refine hK.out _ _ b5 (fun hHeld => ?_)
              clear hK K
              refine wpAnyH_ready (rs := [17]) (by kernel_rfl) (by simp) ?_
              refine AllReadyH.cons rfl (fun K hK => ?_) AllReadyH.nil
              simp only [List.getElem_toArray, List.getElem_cons_zero, List.getElem_cons_succ]
              obtain ⟨y0, y1, y2, y3⟩ := ya5.cells
              have yf := ya5.free
              go_simp
              have t6 := ans_turned Wq (WC.heap.size) 11 0 0 0
              have ya6 := ya5.store 11 0 0 0
              have q6 := t6.queue q5 (by omega)
              have b6 := t6.under b5 (by omega)
              have X6 : Bx _ (WCA.heap.size) t b1' d1' b2' d2' vs' := ⟨q6, t6.row r15 (fun x hx h0 => by have := f1 x hx; have := hr1 x hx h0; omega), t6.row r25 (fun x hx h0 => by have := f2 x hx; have := hr2 x hx h0; omega), n1, n2, hW''⟩
              unfold ansStore at ya6 X6 b6
              refine hK.out _ _ b6 (fun hHeld => ?_)
              clear hK K y0 y1 y2 y3 yf q6 t6
              generalize (((Wq.setCell ⟨WC.heap.size, 0, none⟩ (.int .i64 11)).setCell ⟨WC.heap.size, 1, none⟩ (.int .i64 0)).setCell ⟨WC.heap.size, 2, none⟩ (.int .i64 0)).setCell ⟨WC.heap.size, 3, none⟩ (.int .i64 0) = W6 at ya6 X6 b6 hHeld ⊢
              refine wpAnyH_take (i := 18) (v := .bool false) rfl (by kernel_rfl) (by kernel_rfl) (by kernel_rfl) (fun _ _ _ h => h) (Or.inl ⟨by rfl, fun _ _ => by go_simp⟩) hHeld ?_
              simp only [List.getElem_toArray, List.getElem_cons_zero, List.getElem_cons_succ, Act.put, List.setIfInBounds_toArray, List.set_cons_zero, List.set_cons_succ]
              refine wpAnyH_take (i := 19) (v := .int .i64 0) rfl (by kernel_rfl) (by kernel_rfl) (by kernel_rfl) (fun _ _ _ h => h) (Or.inl ⟨by rfl, fun _ _ => by go_simp⟩) hHeld ?_
              simp only [List.getElem_toArray, List.getElem_cons_zero, List.getElem_cons_succ, Act.put, List.setIfInBounds_toArray, List.set_cons_zero, List.set_cons_succ]
              refine wpAnyH_done (by kernel_rfl) ?_ _
              go_wp2_with fail
              go_meet
              exact ⟨_, _, _, _, _, _, _, rfl, rfl, rfl, rfl, X6, ya6, b6⟩
        · simp only [List.getElem_toArray, List.getElem_cons_zero, List.getElem_cons_succ]
          refine ite_wanted rfl ?_
          refine q_alloc_wp 12 rfl rfl ?_
          intro WQ zq bn
          have hXq : W0.heap.size < WQ.heap.size := zq.lt
          have bWQ := Below.next bW0 bn
          have hSWQ : W0.heap.size ≤ WQ.heap.size := bn.size
          refine hK.out _ _ bWQ (fun hHeld => ?_)
          clear hK K bn
          refine wpAnyH_ready (rs := [8, 15]) (by kernel_rfl) (by simp) ?_
          refine AllReadyH.cons rfl (fun K hK => ?_) (AllReadyH.cons rfl (fun K hK => ?_) AllReadyH.nil)
          · simp only [List.getElem_toArray, List.getElem_cons_zero, List.getElem_cons_succ]
            go_simp
            refine (unveil HDo _ bWQ).mono ?_
            rintro e WQC ⟨x', rfl, ⟨⟨b1', d1', b2', d2', vs', rfl, r1, r2, l1', l2', n1, n2, hW'', f1, f2⟩⟩, bn⟩
            have hr1 := fun x hx h0 => r1.blk_lt x hx h0
            have hr2 := fun x hx h0 => r2.blk_lt x hx h0
            have bWQC := Below.next bWQ bn
            have zq := zq.next bn
            have hSWQC : WQ.heap.size ≤ WQC.heap.size := bn.size
            refine hK.out _ _ bWQC (fun hHeld => ?_)
            clear hK K bn
            refine wpAnyH_take (i := 9) (v := .tuple #[qVal t.ep t.nx t.gv (.slice b1' t.rn d1') (.slice b2' t.ln d2') vs', ansVal 11 0 0 0, .bool false, .int .i64 0]) rfl (by kernel_rfl) (by kernel_rfl) (by kernel_rfl) (fun _ _ _ h => h) (Or.inl ⟨by rfl, fun _ _ => by go_simp⟩) hHeld ?_
            simp only [List.getElem_toArray, List.getElem_cons_zero, List.getElem_cons_succ, Act.put, List.setIfInBounds_toArray, List.set_cons_zero, List.set_cons_succ]
            refine wpAnyH_take (i := 10) (v := qVal t.ep t.nx t.gv (.slice b1' t.rn d1') (.slice b2' t.ln d2') vs') rfl (by kernel_rfl) (by kernel_rfl) (by kernel_rfl) (fun _ _ _ h => h) (Or.inl ⟨by rfl, fun _ _ => by go_simp⟩) hHeld ?_
            simp only [List.getElem_toArray, List.getElem_cons_zero, List.getElem_cons_succ, Act.put, List.setIfInBounds_toArray, List.set_cons_zero, List.set_cons_succ]
            refine wpAnyH_take (i := 11) (v := ansVal 11 0 0 0) rfl (by kernel_rfl) (by kernel_rfl) (by kernel_rfl) (fun _ _ _ h => h) (Or.inl ⟨by rfl, fun _ _ => by go_simp⟩) hHeld ?_
            simp only [List.getElem_toArray, List.getElem_cons_zero, List.getElem_cons_succ, Act.put, List.setIfInBounds_toArray, List.set_cons_zero, List.set_cons_succ]
            refine wpAnyH_take (i := 12) (v := .bool false) rfl (by kernel_rfl) (by kernel_rfl) (by kernel_rfl) (fun _ _ _ h => h) (Or.inl ⟨by rfl, fun _ _ => by go_simp⟩) hHeld ?_
            simp only [List.getElem_toArray, List.getElem_cons_zero, List.getElem_cons_succ, Act.put, List.setIfInBounds_toArray, List.set_cons_zero, List.set_cons_succ]
            refine wpAnyH_take (i := 13) (v := .int .i64 0) rfl (by kernel_rfl) (by kernel_rfl) (by kernel_rfl) (fun _ _ _ h => h) (Or.inl ⟨by rfl, fun _ _ => by go_simp⟩) hHeld ?_
            simp only [List.getElem_toArray, List.getElem_cons_zero, List.getElem_cons_succ, Act.put, List.setIfInBounds_toArray, List.set_cons_zero, List.set_cons_succ]
            refine wpAnyH_ready (rs := [15]) (by kernel_rfl) (by simp) ?_
            refine AllReadyH.cons rfl (fun K hK => ?_) AllReadyH.nil
            · simp only [List.getElem_toArray, List.getElem_cons_zero, List.getElem_cons_succ]
              go_simp
              obtain ⟨WQCA, hWQCA, ya, bn⟩ : ∃ W, W = WQC.alloc (.cells #[.int .i64 0, .int .i64 0, .int .i64 0, .int .i64 0] 47) ∧ ansBlock W WQC.heap.size 0 0 0 0 ∧ Below WQC.heap.size WQC W := ⟨_, rfl, ansBlock.new _ 0 0 0 0, below1 _ _⟩
              rw [← hWQCA]
              have hXa : WQC.heap.size < WQCA.heap.size := ya.lt
              have bWQCA := Below.next bWQC bn
              clear hWQCA
              have zq := zq.next bn
              have r1 := r1.below bn
              have r2 := r2.below bn
              have hSWQCA : WQC.heap.size ≤ WQCA.heap.size := bn.size
              refine hK.out _ _ bWQCA (fun hHeld => ?_)
              clear hK K bn
              refine wpAnyH_ready (rs := [16]) (by kernel_rfl) (by simp) ?_
              refine AllReadyH.cons rfl (fun K hK => ?_) AllReadyH.nil
              simp only [List.getElem_toArray, List.getElem_cons_zero, List.getElem_cons_succ]
              refine ite_wanted rfl ?_
              refine q_store_wp (ra := b1') (la := b2') (ws' := vs') _ _ rfl rfl rfl zq hW'' ?_
              intro Wq q5 t5
              have ya5 := ya.turned t5 (by omega)
              have r15 := t5.row r1 (fun x hx h0 => by have := f1 x hx; have := hr1 x hx h0; omega)
              have r25 := t5.row r2 (fun x hx h0 => by have := f2 x hx; have := hr2 x hx h0; omega)
              have b5 := t5.under bWQCA (by omega)
              refine hK.out _ _ b5 (fun hHeld => ?_)
              clear hK K
              refine wpAnyH_ready (rs := [17]) (by kernel_rfl) (by simp) ?_
              refine AllReadyH.cons rfl (fun K hK => ?_) AllReadyH.nil
              simp only [List.getElem_toArray, List.getElem_cons_zero, List.getElem_cons_succ]
              obtain ⟨y0, y1, y2, y3⟩ := ya5.cells
              have yf := ya5.free
              go_simp
              have t6 := ans_turned Wq (WQC.heap.size) 11 0 0 0
              have ya6 := ya5.store 11 0 0 0
              have q6 := t6.queue q5 (by omega)
              have b6 := t6.under b5 (by omega)
              have X6 : Bx _ (W0.heap.size) t b1' d1' b2' d2' vs' := ⟨q6, t6.row r15 (fun x hx h0 => by have := f1 x hx; have := hr1 x hx h0; omega), t6.row r25 (fun x hx h0 => by have := f2 x hx; have := hr2 x hx h0; omega), n1, n2, hW''⟩
              unfold ansStore at ya6 X6 b6
              refine hK.out _ _ b6 (fun hHeld => ?_)
              clear hK K y0 y1 y2 y3 yf q6 t6
              generalize (((Wq.setCell ⟨WQC.heap.size, 0, none⟩ (.int .i64 11)).setCell ⟨WQC.heap.size, 1, none⟩ (.int .i64 0)).setCell ⟨WQC.heap.size, 2, none⟩ (.int .i64 0)).setCell ⟨WQC.heap.size, 3, none⟩ (.int .i64 0) = W6 at ya6 X6 b6 hHeld ⊢
              refine wpAnyH_take (i := 18) (v := .bool false) rfl (by kernel_rfl) (by kernel_rfl) (by kernel_rfl) (fun _ _ _ h => h) (Or.inl ⟨by rfl, fun _ _ => by go_simp⟩) hHeld ?_
              simp only [List.getElem_toArray, List.getElem_cons_zero, List.getElem_cons_succ, Act.put, List.setIfInBounds_toArray, List.set_cons_zero, List.set_cons_succ]
              refine wpAnyH_take (i := 19) (v := .int .i64 0) rfl (by kernel_rfl) (by kernel_rfl) (by kernel_rfl) (fun _ _ _ h => h) (Or.inl ⟨by rfl, fun _ _ => by go_simp⟩) hHeld ?_
              simp only [List.getElem_toArray, List.getElem_cons_zero, List.getElem_cons_succ, Act.put, List.setIfInBounds_toArray, List.set_cons_zero, List.set_cons_succ]
              refine wpAnyH_done (by kernel_rfl) ?_ _
              go_wp2_with fail
              go_meet
              exact ⟨_, _, _, _, _, _, _, rfl, rfl, rfl, rfl, X6, ya6, b6⟩
          · simp only [List.getElem_toArray, List.getElem_cons_zero, List.getElem_cons_succ]
            go_simp
            obtain ⟨WQA, hWQA, ya, bn⟩ : ∃ W, W = WQ.alloc (.cells #[.int .i64 0, .int .i64 0, .int .i64 0, .int .i64 0] 47) ∧ ansBlock W WQ.heap.size 0 0 0 0 ∧ Below WQ.heap.size WQ W := ⟨_, rfl, ansBlock.new _ 0 0 0 0, below1 _ _⟩
            rw [← hWQA]
            have hXa : WQ.heap.size < WQA.heap.size := ya.lt
            have bWQA := Below.next bWQ bn
            clear hWQA
            have zq := zq.next bn
            have hSWQA : WQ.heap.size ≤ WQA.heap.size := bn.size
            refine hK.out _ _ bWQA (fun hHeld => ?_)
            clear hK K bn
            refine wpAnyH_ready (rs := [8]) (by kernel_rfl) (by simp) ?_
            refine AllReadyH.cons rfl (fun K hK => ?_) AllReadyH.nil
            · simp only [List.getElem_toArray, List.getElem_cons_zero, List.getElem_cons_succ]
              go_simp
              refine (unveil HDo _ bWQA).mono ?_
              rintro e WQAC ⟨x', rfl, ⟨⟨b1', d1', b2', d2', vs', rfl, r1, r2, l1', l2', n1, n2, hW'', f1, f2⟩⟩, bn⟩
              have hr1 := fun x hx h0 => r1.blk_lt x hx h0
              have hr2 := fun x hx h0 => r2.blk_lt x hx h0
              have bWQAC := Below.next bWQA bn
              have zq := zq.next bn
              have ya := ya.next bn
              have hSWQAC : WQA.heap.size ≤ WQAC.heap.size := bn.size
              refine hK.out _ _ bWQAC (fun hHeld => ?_)
              clear hK K bn
              refine wpAnyH_take (i := 9) (v := .tuple #[qVal t.ep t.nx t.gv (.slice b1' t.rn d1') (.slice b2' t.ln d2') vs', ansVal 11 0 0 0, .bool false, .int .i64 0]) rfl (by kernel_rfl) (by kernel_rfl) (by kernel_rfl) (fun _ _ _ h => h) (Or.inl ⟨by rfl, fun _ _ => by go_simp⟩) hHeld ?_
              simp only [List.getElem_toArray, List.getElem_cons_zero, List.getElem_cons_succ, Act.put, List.setIfInBounds_toArray, List.set_cons_zero, List.set_cons_succ]
              refine wpAnyH_take (i := 10) (v := qVal t.ep t.nx t.gv (.slice b1' t.rn d1') (.slice b2' t.ln d2') vs') rfl (by kernel_rfl) (by kernel_rfl) (by kernel_rfl) (fun _ _ _ h => h) (Or.inl ⟨by rfl, fun _ _ => by go_simp⟩) hHeld ?_
              simp only [List.getElem_toArray, List.getElem_cons_zero, List.getElem_cons_succ, Act.put, List.setIfInBounds_toArray, List.set_cons_zero, List.set_cons_succ]
              refine wpAnyH_take (i := 11) (v := ansVal 11 0 0 0) rfl (by kernel_rfl) (by kernel_rfl) (by kernel_rfl) (fun _ _ _ h => h) (Or.inl ⟨by rfl, fun _ _ => by go_simp⟩) hHeld ?_
              simp only [List.getElem_toArray, List.getElem_cons_zero, List.getElem_cons_succ, Act.put, List.setIfInBounds_toArray, List.set_cons_zero, List.set_cons_succ]
              refine wpAnyH_take (i := 12) (v := .bool false) rfl (by kernel_rfl) (by kernel_rfl) (by kernel_rfl) (fun _ _ _ h => h) (Or.inl ⟨by rfl, fun _ _ => by go_simp⟩) hHeld ?_
              simp only [List.getElem_toArray, List.getElem_cons_zero, List.getElem_cons_succ, Act.put, List.setIfInBounds_toArray, List.set_cons_zero, List.set_cons_succ]
              refine wpAnyH_take (i := 13) (v := .int .i64 0) rfl (by kernel_rfl) (by kernel_rfl) (by kernel_rfl) (fun _ _ _ h => h) (Or.inl ⟨by rfl, fun _ _ => by go_simp⟩) hHeld ?_
              simp only [List.getElem_toArray, List.getElem_cons_zero, List.getElem_cons_succ, Act.put, List.setIfInBounds_toArray, List.set_cons_zero, List.set_cons_succ]
              refine wpAnyH_ready (rs := [16]) (by kernel_rfl) (by simp) ?_
              refine AllReadyH.cons rfl (fun K hK => ?_) AllReadyH.nil
              simp only [List.getElem_toArray, List.getElem_cons_zero, List.getElem_cons_succ]
              refine ite_wanted rfl ?_
              refine q_store_wp (ra := b1') (la := b2') (ws' := vs') _ _ rfl rfl rfl zq hW'' ?_
              intro Wq q5 t5
              have ya5 := ya.turned t5 (by omega)
              have r15 := t5.row r1 (fun x hx h0 => by have := f1 x hx; have := hr1 x hx h0; omega)
              have r25 := t5.row r2 (fun x hx h0 => by have := f2 x hx; have := hr2 x hx h0; omega)
              have b5 := t5.under bWQAC (by omega)
              refine hK.out _ _ b5 (fun hHeld => ?_)
              clear hK K
              refine wpAnyH_ready (rs := [17]) (by kernel_rfl) (by simp) ?_
              refine AllReadyH.cons rfl (fun K hK => ?_) AllReadyH.nil
              simp only [List.getElem_toArray, List.getElem_cons_zero, List.getElem_cons_succ]
              obtain ⟨y0, y1, y2, y3⟩ := ya5.cells
              have yf := ya5.free
              go_simp
              have t6 := ans_turned Wq (WQ.heap.size) 11 0 0 0
              have ya6 := ya5.store 11 0 0 0
              have q6 := t6.queue q5 (by omega)
              have b6 := t6.under b5 (by omega)
              have X6 : Bx _ (W0.heap.size) t b1' d1' b2' d2' vs' := ⟨q6, t6.row r15 (fun x hx h0 => by have := f1 x hx; have := hr1 x hx h0; omega), t6.row r25 (fun x hx h0 => by have := f2 x hx; have := hr2 x hx h0; omega), n1, n2, hW''⟩
              unfold ansStore at ya6 X6 b6
              refine hK.out _ _ b6 (fun hHeld => ?_)
              clear hK K y0 y1 y2 y3 yf q6 t6
              generalize (((Wq.setCell ⟨WQ.heap.size, 0, none⟩ (.int .i64 11)).setCell ⟨WQ.heap.size, 1, none⟩ (.int .i64 0)).setCell ⟨WQ.heap.size, 2, none⟩ (.int .i64 0)).setCell ⟨WQ.heap.size, 3, none⟩ (.int .i64 0) = W6 at ya6 X6 b6 hHeld ⊢
              refine wpAnyH_take (i := 18) (v := .bool false) rfl (by kernel_rfl) (by kernel_rfl) (by kernel_rfl) (fun _ _ _ h => h) (Or.inl ⟨by rfl, fun _ _ => by go_simp⟩) hHeld ?_
              simp only [List.getElem_toArray, List.getElem_cons_zero, List.getElem_cons_succ, Act.put, List.setIfInBounds_toArray, List.set_cons_zero, List.set_cons_succ]
              refine wpAnyH_take (i := 19) (v := .int .i64 0) rfl (by kernel_rfl) (by kernel_rfl) (by kernel_rfl) (fun _ _ _ h => h) (Or.inl ⟨by rfl, fun _ _ => by go_simp⟩) hHeld ?_
              simp only [List.getElem_toArray, List.getElem_cons_zero, List.getElem_cons_succ, Act.put, List.setIfInBounds_toArray, List.set_cons_zero, List.set_cons_succ]
              refine wpAnyH_done (by kernel_rfl) ?_ _
              go_wp2_with fail
              go_meet
              exact ⟨_, _, _, _, _, _, _, rfl, rfl, rfl, rfl, X6, ya6, b6⟩
        · simp only [List.getElem_toArray, List.getElem_cons_zero, List.getElem_cons_succ]
          go_simp
          obtain ⟨WA, hWA, ya, bn⟩ : ∃ W, W = W0.alloc (.cells #[.int .i64 0, .int .i64 0, .int .i64 0, .int .i64 0] 47) ∧ ansBlock W W0.heap.size 0 0 0 0 ∧ Below W0.heap.size W0 W := ⟨_, rfl, ansBlock.new _ 0 0 0 0, below1 _ _⟩
          rw [← hWA]
          have hXa : W0.heap.size < WA.heap.size := ya.lt
          have bWA := Below.next bW0 bn
          clear hWA
          have hSWA : W0.heap.size ≤ WA.heap.size := bn.size
          refine hK.out _ _ bWA (fun hHeld => ?_)
          clear hK K bn
          refine wpAnyH_ready (rs := [8, 14]) (by kernel_rfl) (by simp) ?_
          refine AllReadyH.cons rfl (fun K hK => ?_) (AllReadyH.cons rfl (fun K hK => ?_) AllReadyH.nil)
          · simp only [List.getElem_toArray, List.getElem_cons_zero, List.getElem_cons_succ]
            go_simp
            refine (unveil HDo _ bWA).mono ?_
            rintro e WAC ⟨x', rfl, ⟨⟨b1', d1', b2', d2', vs', rfl, r1, r2, l1', l2', n1, n2, hW'', f1, f2⟩⟩, bn⟩
            have hr1 := fun x hx h0 => r1.blk_lt x hx h0
            have hr2 := fun x hx h0 => r2.blk_lt x hx h0
            have bWAC := Below.next bWA bn
            have ya := ya.next bn
            have hSWAC : WA.heap.size ≤ WAC.heap.size := bn.size
            refine hK.out _ _ bWAC (fun hHeld => ?_)
            clear hK K bn
            refine wpAnyH_take (i := 9) (v := .tuple #[qVal t.ep t.nx t.gv (.slice b1' t.rn d1') (.slice b2' t.ln d2') vs', ansVal 11 0 0 0, .bool false, .int .i64 0]) rfl (by kernel_rfl) (by kernel_rfl) (by kernel_rfl) (fun _ _ _ h => h) (Or.inl ⟨by rfl, fun _ _ => by go_simp⟩) hHeld ?_
            simp only [List.getElem_toArray, List.getElem_cons_zero, List.getElem_cons_succ, Act.put, List.setIfInBounds_toArray, List.set_cons_zero, List.set_cons_succ]
            refine wpAnyH_take (i := 10) (v := qVal t.ep t.nx t.gv (.slice b1' t.rn d1') (.slice b2' t.ln d2') vs') rfl (by kernel_rfl) (by kernel_rfl) (by kernel_rfl) (fun _ _ _ h => h) (Or.inl ⟨by rfl, fun _ _ => by go_simp⟩) hHeld ?_
            simp only [List.getElem_toArray, List.getElem_cons_zero, List.getElem_cons_succ, Act.put, List.setIfInBounds_toArray, List.set_cons_zero, List.set_cons_succ]
            refine wpAnyH_take (i := 11) (v := ansVal 11 0 0 0) rfl (by kernel_rfl) (by kernel_rfl) (by kernel_rfl) (fun _ _ _ h => h) (Or.inl ⟨by rfl, fun _ _ => by go_simp⟩) hHeld ?_
            simp only [List.getElem_toArray, List.getElem_cons_zero, List.getElem_cons_succ, Act.put, List.setIfInBounds_toArray, List.set_cons_zero, List.set_cons_succ]
            refine wpAnyH_take (i := 12) (v := .bool false) rfl (by kernel_rfl) (by kernel_rfl) (by kernel_rfl) (fun _ _ _ h => h) (Or.inl ⟨by rfl, fun _ _ => by go_simp⟩) hHeld ?_
            simp only [List.getElem_toArray, List.getElem_cons_zero, List.getElem_cons_succ, Act.put, List.setIfInBounds_toArray, List.set_cons_zero, List.set_cons_succ]
            refine wpAnyH_take (i := 13) (v := .int .i64 0) rfl (by kernel_rfl) (by kernel_rfl) (by kernel_rfl) (fun _ _ _ h => h) (Or.inl ⟨by rfl, fun _ _ => by go_simp⟩) hHeld ?_
            simp only [List.getElem_toArray, List.getElem_cons_zero, List.getElem_cons_succ, Act.put, List.setIfInBounds_toArray, List.set_cons_zero, List.set_cons_succ]
            refine wpAnyH_ready (rs := [14]) (by kernel_rfl) (by simp) ?_
            refine AllReadyH.cons rfl (fun K hK => ?_) AllReadyH.nil
            · simp only [List.getElem_toArray, List.getElem_cons_zero, List.getElem_cons_succ]
              refine ite_wanted rfl ?_
              refine q_alloc_wp 12 rfl rfl ?_
              intro WACQ zq bn
              have hXq : WAC.heap.size < WACQ.heap.size := zq.lt
              have bWACQ := Below.next bWAC bn
              have ya := ya.next bn
              have r1 := r1.below bn
              have r2 := r2.below bn
              have hSWACQ : WAC.heap.size ≤ WACQ.heap.size := bn.size
              refine hK.out _ _ bWACQ (fun hHeld => ?_)
              clear hK K bn
              refine wpAnyH_ready (rs := [16]) (by kernel_rfl) (by simp) ?_
              refine AllReadyH.cons rfl (fun K hK => ?_) AllReadyH.nil
              simp only [List.getElem_toArray, List.getElem_cons_zero, List.getElem_cons_succ]
              refine ite_wanted rfl ?_
              refine q_store_wp (ra := b1') (la := b2') (ws' := vs') _ _ rfl rfl rfl zq hW'' ?_
              intro Wq q5 t5
              have ya5 := ya.turned t5 (by omega)
              have r15 := t5.row r1 (fun x hx h0 => by have := f1 x hx; have := hr1 x hx h0; omega)
              have r25 := t5.row r2 (fun x hx h0 => by have := f2 x hx; have := hr2 x hx h0; omega)
              have b5 := t5.under bWACQ (by omega)
              refine hK.out _ _ b5 (fun hHeld => ?_)
              clear hK K
              refine wpAnyH_ready (rs := [17]) (by kernel_rfl) (by simp) ?_
              refine AllReadyH.cons rfl (fun K hK => ?_) AllReadyH.nil
              simp only [List.getElem_toArray, List.getElem_cons_zero, List.getElem_cons_succ]
              obtain ⟨y0, y1, y2, y3⟩ := ya5.cells
              have yf := ya5.free
              go_simp
              have t6 := ans_turned Wq (W0.heap.size) 11 0 0 0
              have ya6 := ya5.store 11 0 0 0
              have q6 := t6.queue q5 (by omega)
              have b6 := t6.under b5 (by omega)
              have X6 : Bx _ (WAC.heap.size) t b1' d1' b2' d2' vs' := ⟨q6, t6.row r15 (fun x hx h0 => by have := f1 x hx; have := hr1 x hx h0; omega), t6.row r25 (fun x hx h0 => by have := f2 x hx; have := hr2 x hx h0; omega), n1, n2, hW''⟩
              unfold ansStore at ya6 X6 b6
              refine hK.out _ _ b6 (fun hHeld => ?_)
              clear hK K y0 y1 y2 y3 yf q6 t6
              generalize (((Wq.setCell ⟨W0.heap.size, 0, none⟩ (.int .i64 11)).setCell ⟨W0.heap.size, 1, none⟩ (.int .i64 0)).setCell ⟨W0.heap.size, 2, none⟩ (.int .i64 0)).setCell ⟨W0.heap.size, 3, none⟩ (.int .i64 0) = W6 at ya6 X6 b6 hHeld ⊢
              refine wpAnyH_take (i := 18) (v := .bool false) rfl (by kernel_rfl) (by kernel_rfl) (by kernel_rfl) (fun _ _ _ h => h) (Or.inl ⟨by rfl, fun _ _ => by go_simp⟩) hHeld ?_
              simp only [List.getElem_toArray, List.getElem_cons_zero, List.getElem_cons_succ, Act.put, List.setIfInBounds_toArray, List.set_cons_zero, List.set_cons_succ]
              refine wpAnyH_take (i := 19) (v := .int .i64 0) rfl (by kernel_rfl) (by kernel_rfl) (by kernel_rfl) (fun _ _ _ h => h) (Or.inl ⟨by rfl, fun _ _ => by go_simp⟩) hHeld ?_
              simp only [List.getElem_toArray, List.getElem_cons_zero, List.getElem_cons_succ, Act.put, List.setIfInBounds_toArray, List.set_cons_zero, List.set_cons_succ]
              refine wpAnyH_done (by kernel_rfl) ?_ _
              go_wp2_with fail
              go_meet
              exact ⟨_, _, _, _, _, _, _, rfl, rfl, rfl, rfl, X6, ya6, b6⟩
          · simp only [List.getElem_toArray, List.getElem_cons_zero, List.getElem_cons_succ]
            refine ite_wanted rfl ?_
            refine q_alloc_wp 12 rfl rfl ?_
            intro WAQ zq bn
            have hXq : WA.heap.size < WAQ.heap.size := zq.lt
            have bWAQ := Below.next bWA bn
            have ya := ya.next bn
            have hSWAQ : WA.heap.size ≤ WAQ.heap.size := bn.size
            refine hK.out _ _ bWAQ (fun hHeld => ?_)
            clear hK K bn
            refine wpAnyH_ready (rs := [8]) (by kernel_rfl) (by simp) ?_
            refine AllReadyH.cons rfl (fun K hK => ?_) AllReadyH.nil
            · simp only [List.getElem_toArray, List.getElem_cons_zero, List.getElem_cons_succ]
              go_simp
              refine (unveil HDo _ bWAQ).mono ?_
              rintro e WAQC ⟨x', rfl, ⟨⟨b1', d1', b2', d2', vs', rfl, r1, r2, l1', l2', n1, n2, hW'', f1, f2⟩⟩, bn⟩
              have hr1 := fun x hx h0 => r1.blk_lt x hx h0
              have hr2 := fun x hx h0 => r2.blk_lt x hx h0
              have bWAQC := Below.next bWAQ bn
              have zq := zq.next bn
              have ya := ya.next bn
              have hSWAQC : WAQ.heap.size ≤ WAQC.heap.size := bn.size
              refine hK.out _ _ bWAQC (fun hHeld => ?_)
              clear hK K bn
              refine wpAnyH_take (i := 9) (v := .tuple #[qVal t.ep t.nx t.gv (.slice b1' t.rn d1') (.slice b2' t.ln d2') vs', ansVal 11 0 0 0, .bool false, .int .i64 0]) rfl (by kernel_rfl) (by kernel_rfl) (by kernel_rfl) (fun _ _ _ h => h) (Or.inl ⟨by rfl, fun _ _ => by go_simp⟩) hHeld ?_
              simp only [List.getElem_toArray, List.getElem_cons_zero, List.getElem_cons_succ, Act.put, List.setIfInBounds_toArray, List.set_cons_zero, List.set_cons_succ]
              refine wpAnyH_take (i := 10) (v := qVal t.ep t.nx t.gv (.slice b1' t.rn d1') (.slice b2' t.ln d2') vs') rfl (by kernel_rfl) (by kernel_rfl) (by kernel_rfl) (fun _ _ _ h => h) (Or.inl ⟨by rfl, fun _ _ => by go_simp⟩) hHeld ?_
              simp only [List.getElem_toArray, List.getElem_cons_zero, List.getElem_cons_succ, Act.put, List.setIfInBounds_toArray, List.set_cons_zero, List.set_cons_succ]
              refine wpAnyH_take (i := 11) (v := ansVal 11 0 0 0) rfl (by kernel_rfl) (by kernel_rfl) (by kernel_rfl) (fun _ _ _ h => h) (Or.inl ⟨by rfl, fun _ _ => by go_simp⟩) hHeld ?_
              simp only [List.getElem_toArray, List.getElem_cons_zero, List.getElem_cons_succ, Act.put, List.setIfInBounds_toArray, List.set_cons_zero, List.set_cons_succ]
              refine wpAnyH_take (i := 12) (v := .bool false) rfl (by kernel_rfl) (by kernel_rfl) (by kernel_rfl) (fun _ _ _ h => h) (Or.inl ⟨by rfl, fun _ _ => by go_simp⟩) hHeld ?_
              simp only [List.getElem_toArray, List.getElem_cons_zero, List.getElem_cons_succ, Act.put, List.setIfInBounds_toArray, List.set_cons_zero, List.set_cons_succ]
              refine wpAnyH_take (i := 13) (v := .int .i64 0) rfl (by kernel_rfl) (by kernel_rfl) (by kernel_rfl) (fun _ _ _ h => h) (Or.inl ⟨by rfl, fun _ _ => by go_simp⟩) hHeld ?_
              simp only [List.getElem_toArray, List.getElem_cons_zero, List.getElem_cons_succ, Act.put, List.setIfInBounds_toArray, List.set_cons_zero, List.set_cons_succ]
              refine wpAnyH_ready (rs := [16]) (by kernel_rfl) (by simp) ?_
              refine AllReadyH.cons rfl (fun K hK => ?_) AllReadyH.nil
              simp only [List.getElem_toArray, List.getElem_cons_zero, List.getElem_cons_succ]
              refine ite_wanted rfl ?_
              refine q_store_wp (ra := b1') (la := b2') (ws' := vs') _ _ rfl rfl rfl zq hW'' ?_
              intro Wq q5 t5
              have ya5 := ya.turned t5 (by omega)
              have r15 := t5.row r1 (fun x hx h0 => by have := f1 x hx; have := hr1 x hx h0; omega)
              have r25 := t5.row r2 (fun x hx h0 => by have := f2 x hx; have := hr2 x hx h0; omega)
              have b5 := t5.under bWAQC (by omega)
              refine hK.out _ _ b5 (fun hHeld => ?_)
              clear hK K
              refine wpAnyH_ready (rs := [17]) (by kernel_rfl) (by simp) ?_
              refine AllReadyH.cons rfl (fun K hK => ?_) AllReadyH.nil
              simp only [List.getElem_toArray, List.getElem_cons_zero, List.getElem_cons_succ]
              obtain ⟨y0, y1, y2, y3⟩ := ya5.cells
              have yf := ya5.free
              go_simp
              have t6 := ans_turned Wq (W0.heap.size) 11 0 0 0
              have ya6 := ya5.store 11 0 0 0
              have q6 := t6.queue q5 (by omega)
              have b6 := t6.under b5 (by omega)
              have X6 : Bx _ (WA.heap.size) t b1' d1' b2' d2' vs' := ⟨q6, t6.row r15 (fun x hx h0 => by have := f1 x hx; have := hr1 x hx h0; omega), t6.row r25 (fun x hx h0 => by have := f2 x hx; have := hr2 x hx h0; omega), n1, n2, hW''⟩
              unfold ansStore at ya6 X6 b6
              refine hK.out _ _ b6 (fun hHeld => ?_)
              clear hK K y0 y1 y2 y3 yf q6 t6
              generalize (((Wq.setCell ⟨W0.heap.size, 0, none⟩ (.int .i64 11)).setCell ⟨W0.heap.size, 1, none⟩ (.int .i64 0)).setCell ⟨W0.heap.size, 2, none⟩ (.int .i64 0)).setCell ⟨W0.heap.size, 3, none⟩ (.int .i64 0) = W6 at ya6 X6 b6 hHeld ⊢
              refine wpAnyH_take (i := 18) (v := .bool false) rfl (by kernel_rfl) (by kernel_rfl) (by kernel_rfl) (fun _ _ _ h => h) (Or.inl ⟨by rfl, fun _ _ => by go_simp⟩) hHeld ?_
              simp only [List.getElem_toArray, List.getElem_cons_zero, List.getElem_cons_succ, Act.put, List.setIfInBounds_toArray, List.set_cons_zero, List.set_cons_succ]
              refine wpAnyH_take (i := 19) (v := .int .i64 0) rfl (by kernel_rfl) (by kernel_rfl) (by kernel_rfl) (fun _ _ _ h => h) (Or.inl ⟨by rfl, fun _ _ => by go_simp⟩) hHeld ?_
              simp only [List.getElem_toArray, List.getElem_cons_zero, List.getElem_cons_succ, Act.put, List.setIfInBounds_toArray, List.set_cons_zero, List.set_cons_succ]
              refine wpAnyH_done (by kernel_rfl) ?_ _
              go_wp2_with fail
              go_meet
              exact ⟨_, _, _, _, _, _, _, rfl, rfl, rfl, rfl, X6, ya6, b6⟩
      case rest =>
        obtain ⟨X, A, b1', d1', b2', d2', vs', rfl, rfl, rfl, rfl, X17, A17, b17⟩ := hcut
        obtain ⟨W17, hW17⟩ : ∃ W17, W17 = wc := ⟨_, rfl⟩
        subst hW17
        have S17 := (unveil HM).next b17
        clear g0 g1 g2 g3 g4 k0 k1 qt
        obtain ⟨y0, y1, y2, y3⟩ := A17.cells
        obtain ⟨g0, g1, g2, g3, g4⟩ := S17.t.q.heads
        obtain ⟨k0, k1, k2, k3, k4⟩ := X17.q.heads
        have HS17 := veil S17
        clear S17 X17 A17 b17 HM
        go_wp2
        go_roundw
        case rel => exact ⟨m + 1, by omega, by go_num, HS17⟩
        case measure => simp [intOf]; omega
    · obtain rfl : m = s.ln := by omega
      clear S HS7
      go_upto_region 12 with fail
      go_loopw [16] (fun i wx => ∃ m2 k : Nat, Hid (m2 = k + 1) ∧ (m2 = 1 ∨ m2 ≤ t.rn) ∧ i = .int .i64 m2 ∧ Hid (Sl w wx B C s t a1 c1 a2 c2 ws b1 d1 b2 d2 vs)) (fun i _ => t.rn - (intOf i).toNat)
      case atStart => exact ⟨1, 0, veil rfl, .inl rfl, rfl, HM⟩
      case round =>
        obtain ⟨m2, k, HK, hm2, rfl, HM2⟩ := hrel
        clear HM g0 g1 g2 g3 g4
        have S := unveil HM2
        obtain ⟨g0, g1, g2, g3, g4⟩ := S.t.q.heads
        have ht := unveil HT
        have hs := unveil HS
        have hr60 : t.rn ≤ 60 := by omega
        by_cases hlt2 : m2 < t.rn
        · have hk := unveil HK
          have hkl : k < t.rn := by omega
          have hris := ht.2.2.2.2 k (by omega)
          obtain ⟨g, off, hb1⟩ := S.t.r1.form (by omega)
          subst hb1
          have x0 := S.t.r1.at (2 * m2) (by omega)
          have y0 := S.t.r1.at (2 * k) (by omega)
          rw [Nat.mul_comm 2 m2] at x0
          rw [Nat.mul_comm 2 k] at y0
          have hup : decide (t.R.getD (m2 * 2) 0 ≤ t.R.getD (k * 2) 0) = false := decide_eq_false (by rw [Nat.mul_comm m2 2, Nat.mul_comm k 2, hk]; omega)
          have hw : IntKind.i64.wrap ((m2 : Int) - 1) = (k : Int) := by rw [IntKind.wrap_i64]; omega
          generalize t.R.getD (m2 * 2) 0 = X at x0 hup
          generalize t.R.getD (k * 2) 0 = Y at y0 hup
          clear S ht hs hk hris
          go_wp2_with fail
          go_quiet (fail)
          go_wp2
          go_roundw
          case rel => exact ⟨m2 + 1, m2, veil rfl, by omega, by go_num, veil ((unveil HM2).next (belowN _ _))⟩
          case measure => simp [intOf]; omega
        · have Bw := S.bel
          clear S ht hs
          go_wp2
          go_ret
          exact ⟨rfl, Bw⟩
end Go.Proofs.Ytkeipknbcjkomaa
