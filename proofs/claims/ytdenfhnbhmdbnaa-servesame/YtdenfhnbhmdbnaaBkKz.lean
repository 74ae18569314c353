/- The walk of berthshiftkeep.ServeSame. -/
import Derived.Test.YtdenfhnbhmdbnaaBkMore
namespace Go.Proofs.Ytdenfhnbhmdbnaa
open Go.RowKit

theorem serve_brk (B : Bt) (a : Option Addr) (c : Nat) (v : Ev) (w : World) (hb : BIn w B a c) (ok : B.Ok) (hv : v.Ok) (hk : v.k = 4) :
    Calls Try.prog 20 #[bVal B.r B.e B.f B.t B.o a B.es.length c, evIn v] w fun x w' => ∃ a' c', x = .returned (.tuple #[bVal 0 0 0 0 0 a' 0 c', ansVal 0 0 0 0, .bool false, .int .i64 3]) ∧ BIn w' (Bt.nob 0) a' c' ∧ Below w.heap.size w w' := by
  refine (serve_any B a c v w hb (ev_wf hv)).mono ?_
  rintro x w' ⟨y, an, ch, er, B', rfl, sr, ⟨⟨a', c', rfl, i, u⟩⟩, b⟩
  cases sr with
  | state h => exact absurd ok h
  | fault _ f hf h0 => exact absurd (hf.symm.trans hv) h0
  | brk _ _ h => exact ⟨a', c', rfl, i, b⟩
  | shut _ _ h => exact absurd hk h
  | none _ _ h => exact absurd hk h
  | same _ _ h => exact absurd hk h
  | full _ _ h => exact absurd hk h
  | done _ _ h => exact absurd hk h

set_option maxRecDepth 20000 in
set_option maxHeartbeats 4000000 in
theorem walk_ServeSame (w : World) (ep : Int) (wep : (Lit.int .i64 ep).wf = true) (a0 : Option Addr) (len cap : Nat) (D : List Int) (h : RowK .i64 w a0 (4 * len) D) (_ : len ≤ cap) (_ : cap ≤ maxLen) (_ : a0 = none → cap = 0) (x0 x1 x2 x3 : Int) (hxw : ∀ z ∈ [x0, x1, x2, x3], (Lit.int .i64 z).wf = true) (dr : Bool) (pa : Int) (wpa : (Lit.int .i64 pa).wf = true) :
    Calls Try.prog 3 #[.int .i64 ep, .slice a0 len cap, .agg #[.int .i64 x0, .int .i64 x1, .int .i64 x2, .int .i64 x3], .bool dr, .int .i64 pa] w fun r w' => r = .returned (.bool true) ∧ Below w.heap.size w w' := by
  have HSv : Hid (∀ W, Below w.heap.size w W → _) := veil fun W b => kserved_any ep a0 len cap 40 D W (h.below b) wep (by omega)
  clear h
  have p0 := pickedOf_range pa 5 (by decide)
  have Pp : ∀ w, Calls Try.prog 16 #[.int .i64 pa, .int .i64 5] w fun e w' => e = .returned (.int .i64 (pickedOf pa 5)) ∧ w' = w := fun w => (picked_any pa 5 w wpa (by decide) (by decide)).mono fun _ _ h => ⟨h.1, h.2.symm⟩
  generalize pickedOf pa 5 = p at p0 Pp
  have hEv := event_at x0 x1 x2 x3 hxw
  have hvl := deedEv_like x0 x1 x2 x3
  generalize deedEv x0 x1 x2 x3 = v at hEv hvl
  have hvk := hvl.ok
  clear hvl
  go_enter Try.func3, Try.ntmps3
  go_upto_region 1 with fail
  obtain ⟨W9, hW9, q9, b9⟩ : ∃ W, W = w.alloc (.cells #[.int .i64 x0, .int .i64 x1, .int .i64 x2, .int .i64 x3] 24) ∧ Db W w.heap.size x0 x1 x2 x3 ∧ Below w.heap.size w W := ⟨_, rfl, heap_alloc_new _ _, below1 _ _⟩
  rw [← hW9]
  clear hW9
  have hSv := unveil HSv W9 b9
  clear HSv
  go_upto_region 2 with (go_at_call 14; refine hSv.mono ?_; rintro x V1 ⟨E, es, s, ans, y, rfl, hist, hl, nb, hE1, hE2, ⟨⟨a, c, rfl, i1, u1⟩⟩, b1⟩; clear hSv)
  obtain ⟨W1, hW1, K1, d1⟩ := Kb.new i1 b9 b1
  rw [← hW1]
  obtain ⟨Rb, hR⟩ : ∃ R, R = V1.heap.size := ⟨_, rfl⟩
  have hRd : w.heap.size < Rb := by rw [hR]; exact Nat.lt_of_lt_of_le q9.lt b1.size
  have HDx := veil ((q9.next b1).next d1)
  rw [← hR] at K1 ⊢
  clear hW1 hR i1 u1 b1 b9 d1 q9
  have ht := hist.tells
  have HKb := veil K1
  clear K1 hist nb
  cases dr with
  | false =>
    go_upto_region 7 with fail
    obtain ⟨B, hB⟩ : ∃ B, B = Bt.act E es := ⟨_, rfl⟩
    have ok : B.Ok := by rw [hB]; exact ht.act_ok (by omega) hE1 (by omega)
    have hr : B.r = 1 ∨ B.r = 2 := by rw [hB]; exact .inl rfl
    have ht' : Tells B.es s ans := by rw [hB]; exact ht
    have hl' : B.es.length ≤ 40 := by rw [hB]; exact hl
    have K1 := unveil HKb
    rw [← hB] at K1
    clear hB ht hl HKb
    have ht := ht'
    have hl := hl'
    have hHR := veil hr
    clear ht' hl' hr
    have HKb := veil K1
    clear K1
    obtain ⟨WB, hWB⟩ : ∃ WB, WB = W1 := ⟨_, rfl⟩
    rw [← hWB] at HKb HDx ⊢
    obtain ⟨aB, haB⟩ : ∃ aB, aB = a := ⟨_, rfl⟩
    obtain ⟨cB, hcB⟩ : ∃ cB, cB = c := ⟨_, rfl⟩
    rw [← haB, ← hcB] at HKb
    clear haB hcB hWB
    obtain ⟨k0, k1, k2, k3⟩ := (unveil HDx).cells
    go_upto_region 8 with (go_at_call 17; refine (hEv _).mono ?_; rintro x V5 ⟨rfl, b5⟩; clear k0 k1 k2 k3 hEv)
    obtain ⟨W5, hW5, y5, d5⟩ := Eb.new V5 v
    rw [← hW5]
    clear hW5
    have HKn := veil ((unveil HKb).next (Below.next b5 d5))
    clear HKb
    have HKb := HKn
    clear HKn
    have Hn := veil ((unveil HDx).next (Below.next b5 d5))
    clear HDx
    have HDx := Hn
    clear Hn
    clear HDx
    obtain ⟨Ry, hRy⟩ : ∃ R, R = V5.heap.size := ⟨_, rfl⟩
    rw [← hRy] at y5 ⊢
    clear hRy b5 d5
    have HY := veil y5
    clear y5
    have HR := replay_yes B.es B.es.length rfl s ans ht aB cB W5 (unveil HKb).i.row (by omega) (fun v hv => ht.oks v hv)
    obtain ⟨xb0, xb1, xb2, xb3, xb4, xb5⟩ := (unveil HKb).b.cells
    have lb := (unveil HKb).b.lt
    go_upto_region 9 with (first | (go_at_call 18; refine HR.mono ?_; rintro x V11 ⟨y, rfl, ⟨⟨qa11, qc11, qb11, qd11, ws11, rfl, r1, r2, _, _, n1, n2, hW11, _, _⟩⟩, b11⟩; clear HR xb0 xb1 xb2 xb3 xb4 xb5 lb) | (refine q_alloc 16 rfl rfl rfl ?_; intro Y11 z11 e11) | (refine q_store (ra := qa11) (la := qb11) (ws' := ws11) _ _ rfl rfl rfl rfl z11 hW11 ?_; intro W11 q11 t11; obtain ⟨X11, d11, _⟩ := boxed r1 r2 n1 n2 hW11 (Below.next (unveil HKb).bel b11) e11 t11 q11; have HXq := veil X11; clear q11 t11 z11 e11 X11 r1 r2))
    have HKn := veil ((unveil HKb).next (Below.next b11 d11))
    clear HKb
    have HKb := HKn
    clear HKn
    have Hn := veil ((unveil HY).next (Below.next b11 d11))
    clear HY
    have HY := Hn
    clear Hn
    clear b11 d11
    have HD := (unveil HXq).do ht.wf.ok v hvk
    have q0 := (unveil HXq).q
    have hb9 := (unveil HKb).bel
    obtain ⟨v0, v1, v2, v3, v4, v5⟩ := (unveil HY).cells
    go_upto_region 10 with (first
      | (refine q_loads _ rfl rfl rfl q0 ?_)
      | (go_at_call 19; refine HD.mono ?_; rintro x V20 ⟨s2, an2, ch2, x2, rfl, st2, ⟨⟨qa20, qc20, qb20, qd20, ws20, rfl, r1, r2, _, _, n1, n2, hW20, _, _⟩⟩, b20⟩; clear HD q0 v0 v1 v2 v3 v4 v5; have HST := veil st2; clear st2)
      | (refine q_alloc 18 rfl rfl rfl ?_; intro Y20 z20 e20; have z20' := z20.next (below1 Y20 (.cells #[.int .i64 0, .int .i64 0, .int .i64 0, .int .i64 0] 50)); have hN20 : V20.heap.size < Y20.heap.size := z20.lt; clear z20)
      | (refine q_store (ra := qa20) (la := qb20) (ws' := ws20) _ _ rfl rfl rfl rfl z20' hW20 ?_; intro W20 q20 t20; have y20 := ans0 hN20 t20; obtain ⟨y0, y1, y2, y3⟩ := y20.cells; have yf := y20.free; have HQ20 := veil (And.intro q20 t20); clear z20' q20 t20 y20))
    obtain ⟨W21, hW21, X21, y21, d21, B21⟩ := boxed2 an2.c an2.he an2.no an2.bd r1 r2 n1 n2 hW20 (Below.next hb9 b20) e20 hN20 (unveil HQ20).2 (unveil HQ20).1
    rw [← hW21]
    clear hW21 y0 y1 y2 y3 yf HQ20 r1 r2 n1 n2 hb9
    clear HXq
    have HKn := veil ((unveil HKb).next (Below.next b20 d21))
    clear HKb
    have HKb := HKn
    clear HKn
    have Hn := veil ((unveil HY).next (Below.next b20 d21))
    clear HY
    have HY := Hn
    clear Hn
    have HXy := veil X21
    have HAw := veil y21
    clear X21 y21 b20 d21 B21 e20
    by_cases hk : v.k = 4
    · have HC := serve_brk B aB cB v W21 (unveil HKb).i ok hvk hk
      have HKk := veil hk
      clear hk
      obtain ⟨xb0, xb1, xb2, xb3, xb4, xb5⟩ := (unveil HKb).b.cells
      have lb := (unveil HKb).b.lt
      obtain ⟨v0, v1, v2, v3, v4, v5⟩ := (unveil HY).cells
      go_upto_region 11 with (first | (go_at_call 20; refine HC.mono ?_; rintro x V30 ⟨a30, c30, rfl, i30, b30⟩; clear HC v0 v1 v2 v3 v4 v5 xb0 xb1 xb2 xb3 xb4 xb5 lb))
      obtain ⟨W30, hW30, K30, A30, d30⟩ : ∃ W, W = (V30.alloc (.cells (bCells 0 0 0 0 0 a30 0 c30) 27)).alloc (.cells #[.int .i64 0, .int .i64 0, .int .i64 0, .int .i64 0] 50) ∧ Kb w W V30.heap.size (Bt.nob 0) a30 c30 ∧ ansBlock W (V30.heap.size + 1) 0 0 0 0 ∧ Below V30.heap.size V30 W := Kb.new2 0 0 0 0 i30 (unveil HKb).bel b30
      rw [← hW30]
      clear hW30
      have HKn := veil ((unveil HKb).next (Below.next b30 d30))
      clear HKb
      have HKb := HKn
      clear HKn
      have Hn := veil ((unveil HY).next (Below.next b30 d30))
      clear HY
      have HY := Hn
      clear Hn
      have Hn := veil ((unveil HXy).next (Below.next b30 d30))
      clear HXy
      have HXy := Hn
      clear Hn
      have Hn := veil ((unveil HAw).next (Below.next b30 d30))
      clear HAw
      have HAw := Hn
      clear Hn
      obtain ⟨v0, v1, v2, v3, v4, v5⟩ := (unveil HY).cells
      have hk := unveil HKk
      obtain ⟨u0, u1, u2, u3, u4, u5⟩ := K30.b.cells
      go_wp2
      go_ret
      exact ⟨by simp, (unveil HKb).bel⟩
    · have HC := serve_keep B aB cB v s ans W21 (unveil HKb).i ok (unveil hHR) (by omega) ht hvk hk
      have e0 : (v.k == 4) = false := by simpa using hk
      clear hk
      obtain ⟨xb0, xb1, xb2, xb3, xb4, xb5⟩ := (unveil HKb).b.cells
      have lb := (unveil HKb).b.lt
      obtain ⟨v0, v1, v2, v3, v4, v5⟩ := (unveil HY).cells
      go_upto_region 11 with (first | (go_at_call 20; refine HC.mono ?_; rintro x V30 ⟨y, an, ch, s', l, rfl, st, hl0, hl1, ⟨⟨a30, c30, rfl, i30, u30⟩⟩, b30⟩; clear HC v0 v1 v2 v3 v4 v5 xb0 xb1 xb2 xb3 xb4 xb5 lb; obtain ⟨e1, e2, e3⟩ := st.det ht.wf (unveil HST); have HEQ := veil (And.intro e1 (And.intro e2 e3)); have HLL := veil (And.intro st (And.intro hl0 hl1)); clear e1 e2 e3 st hl0 hl1))
      obtain ⟨W30, hW30, K30, A30, d30⟩ := Kb.new2 an.c an.he an.no an.bd i30 (unveil HKb).bel b30
      rw [← hW30]
      clear hW30
      have HKn := veil ((unveil HKb).next (Below.next b30 d30))
      clear HKb
      have HKb := HKn
      clear HKn
      have Hn := veil ((unveil HY).next (Below.next b30 d30))
      clear HY
      have HY := Hn
      clear Hn
      have Hn := veil ((unveil HXy).next (Below.next b30 d30))
      clear HXy
      have HXy := Hn
      clear Hn
      have Hn := veil ((unveil HAw).next (Below.next b30 d30))
      clear HAw
      have HAw := Hn
      clear Hn
      obtain ⟨e1, e2, e3⟩ := unveil HEQ
      subst e1
      subst e2
      subst e3
      clear HEQ
      have htl : ∃ ans', Tells (B.es ++ l) s' ans' := by
        obtain ⟨st, g0, g1⟩ := unveil HLL
        cases ch with
        | false => rw [g0 rfl, List.append_nil, st.same]; exact ⟨ans, ht⟩
        | true => rw [g1 rfl]; exact ⟨_, .snoc ht hvk st⟩
      obtain ⟨ans', htl⟩ := htl
      have hll : l.length ≤ 1 := by
        obtain ⟨st, g0, g1⟩ := unveil HLL
        cases ch with
        | false => rw [g0 rfl]; simp
        | true => rw [g1 rfl]; simp
      obtain ⟨B2, hB2⟩ : ∃ B2, B2 = B.more l := ⟨_, rfl⟩
      rw [← hB2] at K30
      have he2 : B2.r = B.r ∧ B2.es = B.es ++ l := by rw [hB2]; exact ⟨rfl, rfl⟩
      have hl2 : B2.es.length ≤ 60 := by rw [he2.2, List.length_append]; omega
      have ht2 : Tells B2.es s' ans' := by rw [he2.2]; exact htl
      obtain ⟨Rc, hRc⟩ : ∃ R, R = V30.heap.size := ⟨_, rfl⟩
      rw [← hRc] at K30 A30 ⊢
      have HE2 := veil he2.1
      have HKc := veil K30
      have HAg := veil A30
      clear K30 A30 hB2 he2 hRc i30 u30 b30 d30 htl hll HLL HST
      obtain ⟨v0, v1, v2, v3, v4, v5⟩ := (unveil HY).cells
      go_upto_region 13 with fail
      clear v0 v1 v2 v3 v4 v5 e0
      have HR := replay_yes B2.es B2.es.length rfl s' ans' ht2 a30 c30 W30 (unveil HKc).i.row (by omega) (fun v hv => ht2.oks v hv)
      obtain ⟨xc0, xc1, xc2, xc3, xc4, xc5⟩ := (unveil HKc).b.cells
      have lc := (unveil HKc).b.lt
      go_upto_region 14 with (first | (go_at_call 18; refine HR.mono ?_; rintro x V31 ⟨y, rfl, ⟨⟨qa31, qc31, qb31, qd31, ws31, rfl, r1, r2, _, _, n1, n2, hW31, _, _⟩⟩, b31⟩; clear HR xc0 xc1 xc2 xc3 xc4 xc5 lc) | (refine q_alloc 26 rfl rfl rfl ?_; intro Y31 z31 e31) | (refine q_store (ra := qa31) (la := qb31) (ws' := ws31) _ _ rfl rfl rfl rfl z31 hW31 ?_; intro W31 q31 t31; obtain ⟨X31, d31, _⟩ := boxed r1 r2 n1 n2 hW31 (Below.next (unveil HKb).bel b31) e31 t31 q31; have HXz := veil X31; clear q31 t31 z31 e31 X31 r1 r2))
      have HKn := veil ((unveil HKb).next (Below.next b31 d31))
      clear HKb
      have HKb := HKn
      clear HKn
      have HKn := veil ((unveil HKc).next (Below.next b31 d31))
      clear HKc
      have HKc := HKn
      clear HKn
      have Hn := veil ((unveil HY).next (Below.next b31 d31))
      clear HY
      have HY := Hn
      clear Hn
      have Hn := veil ((unveil HXy).next (Below.next b31 d31))
      clear HXy
      have HXy := Hn
      clear Hn
      have Hn := veil ((unveil HAw).next (Below.next b31 d31))
      clear HAw
      have HAw := Hn
      clear Hn
      have Hn := veil ((unveil HAg).next (Below.next b31 d31))
      clear HAg
      have HAg := Hn
      clear Hn
      clear b31 d31
      have X1 := unveil HXy
      have X2 := unveil HXz
      have q1 := X1.q
      have q2 := X2.q
      have HSQ := sameQueue_yes s' qa20 qc20 qb20 qd20 ws20 qa31 qc31 qb31 qd31 ws31 W31 X1.r1 X1.r2 X2.r1 X2.r2 X1.wins X2.wins ht2.wf.ok.count.sz
      clear X1 X2 HXy HXz
      obtain ⟨xb0, xb1, xb2, xb3, xb4, xb5⟩ := (unveil HKb).b.cells
      have lb := (unveil HKb).b.lt
      obtain ⟨xc0, xc1, xc2, xc3, xc4, xc5⟩ := (unveil HKc).b.cells
      have lc := (unveil HKc).b.lt
      obtain ⟨y0, y1, y2, y3⟩ := (unveil HAw).cells
      obtain ⟨z0, z1, z2, z3⟩ := (unveil HAg).cells
      have e1 : (B2.r == B.r) = true := by rw [unveil HE2]; simp
      go_wp2_with (first
        | (refine q_loads _ rfl rfl rfl q1 ?_)
        | (refine q_loads _ rfl rfl rfl q2 ?_)
        | (go_at_call 21; refine HSQ.mono ?_; rintro x W40 ⟨rfl, b40⟩; clear HSQ; obtain ⟨ub0, ub1, ub2, ub3, ub4, ub5⟩ := ((unveil HKb).next b40).b.cells; obtain ⟨uc0, uc1, uc2, uc3, uc4, uc5⟩ := ((unveil HKc).next b40).b.cells; clear xb0 xb1 xb2 xb3 xb4 xb5 xc0 xc1 xc2 xc3 xc4 xc5))
      go_ret
      exact ⟨by simp, Below.next (unveil HKb).bel b40⟩
  | true =>
    go_upto_region 3 with fail
    have HG1 : Hid (∀ W, Below W1.heap.size W1 W → Calls Try.prog 15 #[bVal 1 E 0 0 0 a es.length c, .int .i64 p] W fun x w' => ∃ a' c', x = .returned (.tuple #[bVal 2 E 0 p 0 a' es.length c', .int .i64 0]) ∧ BIn w' (Bt.drn E p 0 es) a' c' ∧ (∀ x, a' = some x → W.heap.size ≤ x.block) ∧ Below W.heap.size W w') := veil fun W b => go_act E es s ans a c W p ((unveil HKb).i.next b) ht (by omega) hE1 hE2 (by omega) (by omega)
    have lRb1 := (unveil HKb).b.lt
    go_cut [13, 14] (fun pX eX wx => ∃ (X : Nat) (a3 : Option Addr) (c3 : Nat), pX = .pointer (some ⟨X, 0, none⟩) ∧ eX = .int .i64 0 ∧ bBlock wx X 2 E 0 p 0 a3 es.length c3 ∧ BIn wx (Bt.drn E p 0 es) a3 c3 ∧ (∀ x, a3 = some x → 0 < es.length → x.block ≠ X) ∧ W1.heap.size ≤ X ∧ Below W1.heap.size W1 wx ∧ (∀ x, a3 = some x → W1.heap.size ≤ x.block))
    case first =>
      refine wp_region_held_drew (S := Below W1.heap.size W1) (by kernel_rfl) (below_drew W1) (fun hHeld => ?_)
      refine wpAnyH_take (i := 0) (v := bVal 1 E 0 0 0 a es.length c) rfl (by kernel_rfl) (by kernel_rfl) (by kernel_rfl) (fun _ _ _ h => h) (Or.inl ⟨by rfl, fun u b => by obtain ⟨y0, y1, y2, y3, y4, y5⟩ := ((unveil HKb).next b).b.cells; go_simp⟩) hHeld ?_
      simp only [List.getElem_toArray, List.getElem_cons_zero, Act.put, List.setIfInBounds_toArray, List.set_cons_zero, List.set_cons_succ]
      refine wpAnyH_take (i := 1) (v := .int .i64 pa) rfl (by kernel_rfl) (by kernel_rfl) (by kernel_rfl) (fun _ _ _ h => h) (Or.inl ⟨by rfl, fun _ _ => by go_simp⟩) hHeld ?_
      simp only [List.getElem_toArray, List.getElem_cons_zero, List.getElem_cons_succ, Act.put, List.setIfInBounds_toArray, List.set_cons_zero, List.set_cons_succ]
      have bW0 := below_drew W1
      obtain ⟨W0, hW0⟩ : ∃ W0, W0 = W1.drew := ⟨_, rfl⟩
      rw [← hW0] at bW0 hHeld ⊢
      clear hW0
      refine wpAnyH_ready (rs := [2, 7]) (by kernel_rfl) (by simp) ?_
      refine AllReadyH.cons rfl (fun K hK => ?_) (AllReadyH.cons rfl (fun K hK => ?_) AllReadyH.nil)
      · simp only [List.getElem_toArray, List.getElem_cons_zero, List.getElem_cons_succ]
        go_simp
        refine (Pp _).mono ?_
        rintro x w9 ⟨rfl, hw9⟩
        subst w9
        refine hK.out _ _ bW0 (fun hHeld => ?_)
        clear hK K
        refine wpAnyH_ready (rs := [3, 7]) (by kernel_rfl) (by simp) ?_
        refine AllReadyH.cons rfl (fun K hK => ?_) (AllReadyH.cons rfl (fun K hK => ?_) AllReadyH.nil)
        · simp only [List.getElem_toArray, List.getElem_cons_zero, List.getElem_cons_succ]
          go_simp
          refine (unveil HG1 _ bW0).mono ?_
          rintro x W0PC ⟨a3, c3, rfl, iC, uC, bC⟩
          have bW0PC := Below.next bW0 bC
          have iC0 := iC
          have hgC : ∀ x, a3 = some x → W1.heap.size ≤ x.block := fun x hx => Nat.le_trans bW0.size (uC x hx)
          have hsW0PC : W0.heap.size ≤ W0PC.heap.size := bC.size
          refine hK.out _ _ bW0PC (fun hHeld => ?_)
          clear hK K bC
          refine wpAnyH_take (i := 4) (v := .tuple #[bVal 2 E 0 p 0 a3 es.length c3, .int .i64 0]) rfl (by kernel_rfl) (by kernel_rfl) (by kernel_rfl) (fun _ _ _ h => h) (Or.inl ⟨by rfl, fun _ _ => by go_simp⟩) hHeld ?_
          simp only [List.getElem_toArray, List.getElem_cons_zero, List.getElem_cons_succ, Act.put, List.setIfInBounds_toArray, List.set_cons_zero, List.set_cons_succ]
          refine wpAnyH_take (i := 5) (v := bVal 2 E 0 p 0 a3 es.length c3) rfl (by kernel_rfl) (by kernel_rfl) (by kernel_rfl) (fun _ _ _ h => h) (Or.inl ⟨by rfl, fun _ _ => by go_simp⟩) hHeld ?_
          simp only [List.getElem_toArray, List.getElem_cons_zero, List.getElem_cons_succ, Act.put, List.setIfInBounds_toArray, List.set_cons_zero, List.set_cons_succ]
          refine wpAnyH_take (i := 6) (v := .int .i64 0) rfl (by kernel_rfl) (by kernel_rfl) (by kernel_rfl) (fun _ _ _ h => h) (Or.inl ⟨by rfl, fun _ _ => by go_simp⟩) hHeld ?_
          simp only [List.getElem_toArray, List.getElem_cons_zero, List.getElem_cons_succ, Act.put, List.setIfInBounds_toArray, List.set_cons_zero, List.set_cons_succ]
          refine wpAnyH_ready (rs := [7]) (by kernel_rfl) (by simp) ?_
          refine AllReadyH.cons rfl (fun K hK => ?_) AllReadyH.nil
          · simp only [List.getElem_toArray, List.getElem_cons_zero, List.getElem_cons_succ]
            go_simp
            obtain ⟨W0PCA, hW0PCA, zA, bA⟩ := zb_made W0PC
            rw [← hW0PCA]
            clear hW0PCA
            obtain ⟨XA, hX⟩ : ∃ X, X = W0PC.heap.size := ⟨_, rfl⟩
            have hXA : W1.heap.size ≤ XA := by rw [hX]; exact bW0PC.size
            have hXl : XA < W0PCA.heap.size := by rw [hX]; exact zA.lt
            have hXe : W0PC.heap.size ≤ XA := by omega
            rw [← hX] at zA ⊢
            clear hX
            have bW0PCA := Below.next bW0PC bA
            have iC := iC.next bA
            refine hK.out _ _ bW0PCA (fun hHeld => ?_)
            clear hK K bA
            refine wpAnyH_ready (rs := [8]) (by kernel_rfl) (by simp) ?_
            refine AllReadyH.cons rfl (fun K hK => ?_) AllReadyH.nil
            simp only [List.getElem_toArray, List.getElem_cons_zero, List.getElem_cons_succ]
            obtain ⟨z0, z1, z2, z3, z4, z5⟩ := zA.cells
            have zf := zA.free
            go_simp
            obtain ⟨We, hWe, dE, bE, tE⟩ := b_stored zA bW0PCA hXA 2 E 0 p 0 a3 es.length c3
            rw [← hWe]
            clear hWe z0 z1 z2 z3 z4 z5 zf
            have hf : ∀ x, a3 = some x → 0 < es.length → x.block ≠ XA := fun x hx h0 => by have := iC0.row.blk_lt x hx (by show 0 < 6 * es.length; omega); omega
            have iE := iC.turned tE hf
            refine hK.out _ _ bE (fun hHeld => ?_)
            clear hK K
            refine wpAnyH_take (i := 9) (v := .int .i64 0) rfl (by kernel_rfl) (by kernel_rfl) (by kernel_rfl) (fun _ _ _ h => h) (Or.inl ⟨by rfl, fun _ _ => by go_simp⟩) hHeld ?_
            simp only [List.getElem_toArray, List.getElem_cons_zero, List.getElem_cons_succ, Act.put, List.setIfInBounds_toArray, List.set_cons_zero, List.set_cons_succ]
            refine wpAnyH_done (by kernel_rfl) ?_ _
            go_wp2_with fail
            go_meet
            exact ⟨XA, a3, c3, rfl, rfl, dE, iE, hf, hXA, bE, hgC⟩
        · simp only [List.getElem_toArray, List.getElem_cons_zero, List.getElem_cons_succ]
          go_simp
          obtain ⟨W0PA, hW0PA, zA, bA⟩ := zb_made W0
          rw [← hW0PA]
          clear hW0PA
          obtain ⟨XA, hX⟩ : ∃ X, X = W0.heap.size := ⟨_, rfl⟩
          have hXA : W1.heap.size ≤ XA := by rw [hX]; exact bW0.size
          have hXl : XA < W0PA.heap.size := by rw [hX]; exact zA.lt
          have hXe : W0.heap.size ≤ XA := by omega
          rw [← hX] at zA ⊢
          clear hX
          have bW0PA := Below.next bW0 bA
          refine hK.out _ _ bW0PA (fun hHeld => ?_)
          clear hK K bA
          refine wpAnyH_ready (rs := [3]) (by kernel_rfl) (by simp) ?_
          refine AllReadyH.cons rfl (fun K hK => ?_) AllReadyH.nil
          · simp only [List.getElem_toArray, List.getElem_cons_zero, List.getElem_cons_succ]
            go_simp
            refine (unveil HG1 _ bW0PA).mono ?_
            rintro x W0PAC ⟨a3, c3, rfl, iC, uC, bC⟩
            have bW0PAC := Below.next bW0PA bC
            have iC0 := iC
            have hgC : ∀ x, a3 = some x → W1.heap.size ≤ x.block := fun x hx => Nat.le_trans bW0PA.size (uC x hx)
            have hsW0PAC : W0PA.heap.size ≤ W0PAC.heap.size := bC.size
            have zA := zA.next bC
            refine hK.out _ _ bW0PAC (fun hHeld => ?_)
            clear hK K bC
            refine wpAnyH_take (i := 4) (v := .tuple #[bVal 2 E 0 p 0 a3 es.length c3, .int .i64 0]) rfl (by kernel_rfl) (by kernel_rfl) (by kernel_rfl) (fun _ _ _ h => h) (Or.inl ⟨by rfl, fun _ _ => by go_simp⟩) hHeld ?_
            simp only [List.getElem_toArray, List.getElem_cons_zero, List.getElem_cons_succ, Act.put, List.setIfInBounds_toArray, List.set_cons_zero, List.set_cons_succ]
            refine wpAnyH_take (i := 5) (v := bVal 2 E 0 p 0 a3 es.length c3) rfl (by kernel_rfl) (by kernel_rfl) (by kernel_rfl) (fun _ _ _ h => h) (Or.inl ⟨by rfl, fun _ _ => by go_simp⟩) hHeld ?_
            simp only [List.getElem_toArray, List.getElem_cons_zero, List.getElem_cons_succ, Act.put, List.setIfInBounds_toArray, List.set_cons_zero, List.set_cons_succ]
            refine wpAnyH_take (i := 6) (v := .int .i64 0) rfl (by kernel_rfl) (by kernel_rfl) (by kernel_rfl) (fun _ _ _ h => h) (Or.inl ⟨by rfl, fun _ _ => by go_simp⟩) hHeld ?_
            simp only [List.getElem_toArray, List.getElem_cons_zero, List.getElem_cons_succ, Act.put, List.setIfInBounds_toArray, List.set_cons_zero, List.set_cons_succ]
            refine wpAnyH_ready (rs := [8]) (by kernel_rfl) (by simp) ?_
            refine AllReadyH.cons rfl (fun K hK => ?_) AllReadyH.nil
            simp only [List.getElem_toArray, List.getElem_cons_zero, List.getElem_cons_succ]
            obtain ⟨z0, z1, z2, z3, z4, z5⟩ := zA.cells
            have zf := zA.free
            go_simp
            obtain ⟨We, hWe, dE, bE, tE⟩ := b_stored zA bW0PAC hXA 2 E 0 p 0 a3 es.length c3
            rw [← hWe]
            clear hWe z0 z1 z2 z3 z4 z5 zf
            have hf : ∀ x, a3 = some x → 0 < es.length → x.block ≠ XA := fun x hx h0 => by have := uC x hx; omega
            have iE := iC.turned tE hf
            refine hK.out _ _ bE (fun hHeld => ?_)
            clear hK K
            refine wpAnyH_take (i := 9) (v := .int .i64 0) rfl (by kernel_rfl) (by kernel_rfl) (by kernel_rfl) (fun _ _ _ h => h) (Or.inl ⟨by rfl, fun _ _ => by go_simp⟩) hHeld ?_
            simp only [List.getElem_toArray, List.getElem_cons_zero, List.getElem_cons_succ, Act.put, List.setIfInBounds_toArray, List.set_cons_zero, List.set_cons_succ]
            refine wpAnyH_done (by kernel_rfl) ?_ _
            go_wp2_with fail
            go_meet
            exact ⟨XA, a3, c3, rfl, rfl, dE, iE, hf, hXA, bE, hgC⟩
      · simp only [List.getElem_toArray, List.getElem_cons_zero, List.getElem_cons_succ]
        go_simp
        obtain ⟨W0A, hW0A, zA, bA⟩ := zb_made W0
        rw [← hW0A]
        clear hW0A
        obtain ⟨XA, hX⟩ : ∃ X, X = W0.heap.size := ⟨_, rfl⟩
        have hXA : W1.heap.size ≤ XA := by rw [hX]; exact bW0.size
        have hXl : XA < W0A.heap.size := by rw [hX]; exact zA.lt
        have hXe : W0.heap.size ≤ XA := by omega
        rw [← hX] at zA ⊢
        clear hX
        have bW0A := Below.next bW0 bA
        refine hK.out _ _ bW0A (fun hHeld => ?_)
        clear hK K bA
        refine wpAnyH_ready (rs := [2]) (by kernel_rfl) (by simp) ?_
        refine AllReadyH.cons rfl (fun K hK => ?_) AllReadyH.nil
        · simp only [List.getElem_toArray, List.getElem_cons_zero, List.getElem_cons_succ]
          go_simp
          refine (Pp _).mono ?_
          rintro x w9 ⟨rfl, hw9⟩
          subst w9
          refine hK.out _ _ bW0A (fun hHeld => ?_)
          clear hK K
          refine wpAnyH_ready (rs := [3]) (by kernel_rfl) (by simp) ?_
          refine AllReadyH.cons rfl (fun K hK => ?_) AllReadyH.nil
          · simp only [List.getElem_toArray, List.getElem_cons_zero, List.getElem_cons_succ]
            go_simp
            refine (unveil HG1 _ bW0A).mono ?_
            rintro x W0APC ⟨a3, c3, rfl, iC, uC, bC⟩
            have bW0APC := Below.next bW0A bC
            have iC0 := iC
            have hgC : ∀ x, a3 = some x → W1.heap.size ≤ x.block := fun x hx => Nat.le_trans bW0A.size (uC x hx)
            have hsW0APC : W0A.heap.size ≤ W0APC.heap.size := bC.size
            have zA := zA.next bC
            refine hK.out _ _ bW0APC (fun hHeld => ?_)
            clear hK K bC
            refine wpAnyH_take (i := 4) (v := .tuple #[bVal 2 E 0 p 0 a3 es.length c3, .int .i64 0]) rfl (by kernel_rfl) (by kernel_rfl) (by kernel_rfl) (fun _ _ _ h => h) (Or.inl ⟨by rfl, fun _ _ => by go_simp⟩) hHeld ?_
            simp only [List.getElem_toArray, List.getElem_cons_zero, List.getElem_cons_succ, Act.put, List.setIfInBounds_toArray, List.set_cons_zero, List.set_cons_succ]
            refine wpAnyH_take (i := 5) (v := bVal 2 E 0 p 0 a3 es.length c3) rfl (by kernel_rfl) (by kernel_rfl) (by kernel_rfl) (fun _ _ _ h => h) (Or.inl ⟨by rfl, fun _ _ => by go_simp⟩) hHeld ?_
            simp only [List.getElem_toArray, List.getElem_cons_zero, List.getElem_cons_succ, Act.put, List.setIfInBounds_toArray, List.set_cons_zero, List.set_cons_succ]
            refine wpAnyH_take (i := 6) (v := .int .i64 0) rfl (by kernel_rfl) (by kernel_rfl) (by kernel_rfl) (fun _ _ _ h => h) (Or.inl ⟨by rfl, fun _ _ => by go_simp⟩) hHeld ?_
            simp only [List.getElem_toArray, List.getElem_cons_zero, List.getElem_cons_succ, Act.put, List.setIfInBounds_toArray, List.set_cons_zero, List.set_cons_succ]
            refine wpAnyH_ready (rs := [8]) (by kernel_rfl) (by simp) ?_
            refine AllReadyH.cons rfl (fun K hK => ?_) AllReadyH.nil
            simp only [List.getElem_toArray, List.getElem_cons_zero, List.getElem_cons_succ]
            obtain ⟨z0, z1, z2, z3, z4, z5⟩ := zA.cells
            have zf := zA.free
            go_simp
            obtain ⟨We, hWe, dE, bE, tE⟩ := b_stored zA bW0APC hXA 2 E 0 p 0 a3 es.length c3
            rw [← hWe]
            clear hWe z0 z1 z2 z3 z4 z5 zf
            have hf : ∀ x, a3 = some x → 0 < es.length → x.block ≠ XA := fun x hx h0 => by have := uC x hx; omega
            have iE := iC.turned tE hf
            refine hK.out _ _ bE (fun hHeld => ?_)
            clear hK K
            refine wpAnyH_take (i := 9) (v := .int .i64 0) rfl (by kernel_rfl) (by kernel_rfl) (by kernel_rfl) (fun _ _ _ h => h) (Or.inl ⟨by rfl, fun _ _ => by go_simp⟩) hHeld ?_
            simp only [List.getElem_toArray, List.getElem_cons_zero, List.getElem_cons_succ, Act.put, List.setIfInBounds_toArray, List.set_cons_zero, List.set_cons_succ]
            refine wpAnyH_done (by kernel_rfl) ?_ _
            go_wp2_with fail
            go_meet
            exact ⟨XA, a3, c3, rfl, rfl, dE, iE, hf, hXA, bE, hgC⟩
    case rest =>
    obtain ⟨Rn, a3, c3, rfl, rfl, k3, i3, f3, u3, b3, hfrn⟩ := hcut
    obtain ⟨W3, hW3⟩ : ∃ W3, W3 = wc := ⟨_, rfl⟩
    subst hW3
    have K3 : Kb w W3 Rn (Bt.drn E p 0 es) a3 c3 := ⟨k3, i3, f3, Below.next (unveil HKb).bel b3, Nat.le_trans (unveil HKb).bel.size u3⟩
    have HKn := veil ((unveil HKb).next b3)
    clear HKb
    have HKb := HKn
    clear HKn
    have Hn := veil ((unveil HDx).next b3)
    clear HDx
    have HDx := Hn
    clear Hn
    clear k3 i3 f3 u3 b3
    have HKn := veil K3
    clear K3
    have hfB : ∀ x, a3 = some x → 0 < es.length → x.block ≠ Rb := fun x hx _ => by have := hfrn x hx; omega
    obtain ⟨xn0, xn1, xn2, xn3, xn4, xn5⟩ := (unveil HKn).b.cells
    have ln := (unveil HKn).b.lt
    obtain ⟨xb0, xb1, xb2, xb3, xb4, xb5⟩ := (unveil HKb).b.cells
    have lb := (unveil HKb).b.lt
    have xbf := (unveil HKb).b.free
    go_upto_region 7 with fail
    clear xn0 xn1 xn2 xn3 xn4 xn5 ln xb0 xb1 xb2 xb3 xb4 xb5 lb
    obtain ⟨WB, hWB, kB, bB, tB⟩ := b_stored (unveil HKb).b (unveil HKb).bel (unveil HKb).up 2 E 0 p 0 a3 es.length c3
    rw [← hWB]
    have Hn := veil ((unveil HDx).turned tB (by omega))
    clear HDx
    have HDx := Hn
    clear Hn
    obtain ⟨B, hB⟩ : ∃ B, B = Bt.drn E p 0 es := ⟨_, rfl⟩
    have K1 : Kb w WB Rb (Bt.drn E p 0 es) a3 c3 := ⟨kB, (unveil HKn).i.turned tB hfB, hfB, bB, (unveil HKb).up⟩
    have ok : B.Ok := by rw [hB]; exact ht.drn_ok (by omega) hE1 (by omega) (by omega) (by omega) (by omega) (by omega)
    have hr : B.r = 1 ∨ B.r = 2 := by rw [hB]; exact .inr rfl
    have ht' : Tells B.es s ans := by rw [hB]; exact ht
    have hl' : B.es.length ≤ 40 := by rw [hB]; exact hl
    rw [← hB] at K1
    clear hB ht hl HKb HKn kB bB tB hWB hfB xbf HG1
    have ht := ht'
    have hl := hl'
    have hHR := veil hr
    clear ht' hl' hr
    have HKb := veil K1
    clear K1
    obtain ⟨aB, haB⟩ : ∃ aB, aB = a3 := ⟨_, rfl⟩
    obtain ⟨cB, hcB⟩ : ∃ cB, cB = c3 := ⟨_, rfl⟩
    rw [← haB, ← hcB] at HKb
    clear haB hcB
    obtain ⟨k0, k1, k2, k3⟩ := (unveil HDx).cells
    go_upto_region 8 with (go_at_call 17; refine (hEv _).mono ?_; rintro x V5 ⟨rfl, b5⟩; clear k0 k1 k2 k3 hEv)
    obtain ⟨W5, hW5, y5, d5⟩ := Eb.new V5 v
    rw [← hW5]
    clear hW5
    have HKn := veil ((unveil HKb).next (Below.next b5 d5))
    clear HKb
    have HKb := HKn
    clear HKn
    have Hn := veil ((unveil HDx).next (Below.next b5 d5))
    clear HDx
    have HDx := Hn
    clear Hn
    clear HDx
    obtain ⟨Ry, hRy⟩ : ∃ R, R = V5.heap.size := ⟨_, rfl⟩
    rw [← hRy] at y5 ⊢
    clear hRy b5 d5
    have HY := veil y5
    clear y5
    have HR := replay_yes B.es B.es.length rfl s ans ht aB cB W5 (unveil HKb).i.row (by omega) (fun v hv => ht.oks v hv)
    obtain ⟨xb0, xb1, xb2, xb3, xb4, xb5⟩ := (unveil HKb).b.cells
    have lb := (unveil HKb).b.lt
    go_upto_region 9 with (first | (go_at_call 18; refine HR.mono ?_; rintro x V11 ⟨y, rfl, ⟨⟨qa11, qc11, qb11, qd11, ws11, rfl, r1, r2, _, _, n1, n2, hW11, _, _⟩⟩, b11⟩; clear HR xb0 xb1 xb2 xb3 xb4 xb5 lb) | (refine q_alloc 16 rfl rfl rfl ?_; intro Y11 z11 e11) | (refine q_store (ra := qa11) (la := qb11) (ws' := ws11) _ _ rfl rfl rfl rfl z11 hW11 ?_; intro W11 q11 t11; obtain ⟨X11, d11, _⟩ := boxed r1 r2 n1 n2 hW11 (Below.next (unveil HKb).bel b11) e11 t11 q11; have HXq := veil X11; clear q11 t11 z11 e11 X11 r1 r2))
    have HKn := veil ((unveil HKb).next (Below.next b11 d11))
    clear HKb
    have HKb := HKn
    clear HKn
    have Hn := veil ((unveil HY).next (Below.next b11 d11))
    clear HY
    have HY := Hn
    clear Hn
    clear b11 d11
    have HD := (unveil HXq).do ht.wf.ok v hvk
    have q0 := (unveil HXq).q
    have hb9 := (unveil HKb).bel
    obtain ⟨v0, v1, v2, v3, v4, v5⟩ := (unveil HY).cells
    go_upto_region 10 with (first
      | (refine q_loads _ rfl rfl rfl q0 ?_)
      | (go_at_call 19; refine HD.mono ?_; rintro x V20 ⟨s2, an2, ch2, x2, rfl, st2, ⟨⟨qa20, qc20, qb20, qd20, ws20, rfl, r1, r2, _, _, n1, n2, hW20, _, _⟩⟩, b20⟩; clear HD q0 v0 v1 v2 v3 v4 v5; have HST := veil st2; clear st2)
      | (refine q_alloc 18 rfl rfl rfl ?_; intro Y20 z20 e20; have z20' := z20.next (below1 Y20 (.cells #[.int .i64 0, .int .i64 0, .int .i64 0, .int .i64 0] 50)); have hN20 : V20.heap.size < Y20.heap.size := z20.lt; clear z20)
      | (refine q_store (ra := qa20) (la := qb20) (ws' := ws20) _ _ rfl rfl rfl rfl z20' hW20 ?_; intro W20 q20 t20; have y20 := ans0 hN20 t20; obtain ⟨y0, y1, y2, y3⟩ := y20.cells; have yf := y20.free; have HQ20 := veil (And.intro q20 t20); clear z20' q20 t20 y20))
    obtain ⟨W21, hW21, X21, y21, d21, B21⟩ := boxed2 an2.c an2.he an2.no an2.bd r1 r2 n1 n2 hW20 (Below.next hb9 b20) e20 hN20 (unveil HQ20).2 (unveil HQ20).1
    rw [← hW21]
    clear hW21 y0 y1 y2 y3 yf HQ20 r1 r2 n1 n2 hb9
    clear HXq
    have HKn := veil ((unveil HKb).next (Below.next b20 d21))
    clear HKb
    have HKb := HKn
    clear HKn
    have Hn := veil ((unveil HY).next (Below.next b20 d21))
    clear HY
    have HY := Hn
    clear Hn
    have HXy := veil X21
    have HAw := veil y21
    clear X21 y21 b20 d21 B21 e20
    by_cases hk : v.k = 4
    · have HC := serve_brk B aB cB v W21 (unveil HKb).i ok hvk hk
      have HKk := veil hk
      clear hk
      obtain ⟨xb0, xb1, xb2, xb3, xb4, xb5⟩ := (unveil HKb).b.cells
      have lb := (unveil HKb).b.lt
      obtain ⟨v0, v1, v2, v3, v4, v5⟩ := (unveil HY).cells
      go_upto_region 11 with (first | (go_at_call 20; refine HC.mono ?_; rintro x V30 ⟨a30, c30, rfl, i30, b30⟩; clear HC v0 v1 v2 v3 v4 v5 xb0 xb1 xb2 xb3 xb4 xb5 lb))
      obtain ⟨W30, hW30, K30, A30, d30⟩ : ∃ W, W = (V30.alloc (.cells (bCells 0 0 0 0 0 a30 0 c30) 27)).alloc (.cells #[.int .i64 0, .int .i64 0, .int .i64 0, .int .i64 0] 50) ∧ Kb w W V30.heap.size (Bt.nob 0) a30 c30 ∧ ansBlock W (V30.heap.size + 1) 0 0 0 0 ∧ Below V30.heap.size V30 W := Kb.new2 0 0 0 0 i30 (unveil HKb).bel b30
      rw [← hW30]
      clear hW30
      have HKn := veil ((unveil HKb).next (Below.next b30 d30))
      clear HKb
      have HKb := HKn
      clear HKn
      have Hn := veil ((unveil HY).next (Below.next b30 d30))
      clear HY
      have HY := Hn
      clear Hn
      have Hn := veil ((unveil HXy).next (Below.next b30 d30))
      clear HXy
      have HXy := Hn
      clear Hn
      have Hn := veil ((unveil HAw).next (Below.next b30 d30))
      clear HAw
      have HAw := Hn
      clear Hn
      obtain ⟨v0, v1, v2, v3, v4, v5⟩ := (unveil HY).cells
      have hk := unveil HKk
      obtain ⟨u0, u1, u2, u3, u4, u5⟩ := K30.b.cells
      go_wp2
      go_ret
      exact ⟨by simp, (unveil HKb).bel⟩
    · have HC := serve_keep B aB cB v s ans W21 (unveil HKb).i ok (unveil hHR) (by omega) ht hvk hk
      have e0 : (v.k == 4) = false := by simpa using hk
      clear hk
      obtain ⟨xb0, xb1, xb2, xb3, xb4, xb5⟩ := (unveil HKb).b.cells
      have lb := (unveil HKb).b.lt
      obtain ⟨v0, v1, v2, v3, v4, v5⟩ := (unveil HY).cells
      go_upto_region 11 with (first | (go_at_call 20; refine HC.mono ?_; rintro x V30 ⟨y, an, ch, s', l, rfl, st, hl0, hl1, ⟨⟨a30, c30, rfl, i30, u30⟩⟩, b30⟩; clear HC v0 v1 v2 v3 v4 v5 xb0 xb1 xb2 xb3 xb4 xb5 lb; obtain ⟨e1, e2, e3⟩ := st.det ht.wf (unveil HST); have HEQ := veil (And.intro e1 (And.intro e2 e3)); have HLL := veil (And.intro st (And.intro hl0 hl1)); clear e1 e2 e3 st hl0 hl1))
      obtain ⟨W30, hW30, K30, A30, d30⟩ := Kb.new2 an.c an.he an.no an.bd i30 (unveil HKb).bel b30
      rw [← hW30]
      clear hW30
      have HKn := veil ((unveil HKb).next (Below.next b30 d30))
      clear HKb
      have HKb := HKn
      clear HKn
      have Hn := veil ((unveil HY).next (Below.next b30 d30))
      clear HY
      have HY := Hn
      clear Hn
      have Hn := veil ((unveil HXy).next (Below.next b30 d30))
      clear HXy
      have HXy := Hn
      clear Hn
      have Hn := veil ((unveil HAw).next (Below.next b30 d30))
      clear HAw
      have HAw := Hn
      clear Hn
      obtain ⟨e1, e2, e3⟩ := unveil HEQ
      subst e1
      subst e2
      subst e3
      clear HEQ
      have htl : ∃ ans', Tells (B.es ++ l) s' ans' := by
        obtain ⟨st, g0, g1⟩ := unveil HLL
        cases ch with
        | false => rw [g0 rfl, List.append_nil, st.same]; exact ⟨ans, ht⟩
        | true => rw [g1 rfl]; exact ⟨_, .snoc ht hvk st⟩
      obtain ⟨ans', htl⟩ := htl
      have hll : l.length ≤ 1 := by
        obtain ⟨st, g0, g1⟩ := unveil HLL
        cases ch with
        | false => rw [g0 rfl]; simp
        | true => rw [g1 rfl]; simp
      obtain ⟨B2, hB2⟩ : ∃ B2, B2 = B.more l := ⟨_, rfl⟩
      rw [← hB2] at K30
      have he2 : B2.r = B.r ∧ B2.es = B.es ++ l := by rw [hB2]; exact ⟨rfl, rfl⟩
      have hl2 : B2.es.length ≤ 60 := by rw [he2.2, List.length_append]; omega
      have ht2 : Tells B2.es s' ans' := by rw [he2.2]; exact htl
      obtain ⟨Rc, hRc⟩ : ∃ R, R = V30.heap.size := ⟨_, rfl⟩
      rw [← hRc] at K30 A30 ⊢
      have HE2 := veil he2.1
      have HKc := veil K30
      have HAg := veil A30
      clear K30 A30 hB2 he2 hRc i30 u30 b30 d30 htl hll HLL HST
      obtain ⟨v0, v1, v2, v3, v4, v5⟩ := (unveil HY).cells
      go_upto_region 13 with fail
      clear v0 v1 v2 v3 v4 v5 e0
      have HR := replay_yes B2.es B2.es.length rfl s' ans' ht2 a30 c30 W30 (unveil HKc).i.row (by omega) (fun v hv => ht2.oks v hv)
      obtain ⟨xc0, xc1, xc2, xc3, xc4, xc5⟩ := (unveil HKc).b.cells
      have lc := (unveil HKc).b.lt
      go_upto_region 14 with (first | (go_at_call 18; refine HR.mono ?_; rintro x V31 ⟨y, rfl, ⟨⟨qa31, qc31, qb31, qd31, ws31, rfl, r1, r2, _, _, n1, n2, hW31, _, _⟩⟩, b31⟩; clear HR xc0 xc1 xc2 xc3 xc4 xc5 lc) | (refine q_alloc 26 rfl rfl rfl ?_; intro Y31 z31 e31) | (refine q_store (ra := qa31) (la := qb31) (ws' := ws31) _ _ rfl rfl rfl rfl z31 hW31 ?_; intro W31 q31 t31; obtain ⟨X31, d31, _⟩ := boxed r1 r2 n1 n2 hW31 (Below.next (unveil HKb).bel b31) e31 t31 q31; have HXz := veil X31; clear q31 t31 z31 e31 X31 r1 r2))
      have HKn := veil ((unveil HKb).next (Below.next b31 d31))
      clear HKb
      have HKb := HKn
      clear HKn
      have HKn := veil ((unveil HKc).next (Below.next b31 d31))
      clear HKc
      have HKc := HKn
      clear HKn
      have Hn := veil ((unveil HY).next (Below.next b31 d31))
      clear HY
      have HY := Hn
      clear Hn
      have Hn := veil ((unveil HXy).next (Below.next b31 d31))
      clear HXy
      have HXy := Hn
      clear Hn
      have Hn := veil ((unveil HAw).next (Below.next b31 d31))
      clear HAw
      have HAw := Hn
      clear Hn
      have Hn := veil ((unveil HAg).next (Below.next b31 d31))
      clear HAg
      have HAg := Hn
      clear Hn
      clear b31 d31
      have X1 := unveil HXy
      have X2 := unveil HXz
      have q1 := X1.q
      have q2 := X2.q
      have HSQ := sameQueue_yes s' qa20 qc20 qb20 qd20 ws20 qa31 qc31 qb31 qd31 ws31 W31 X1.r1 X1.r2 X2.r1 X2.r2 X1.wins X2.wins ht2.wf.ok.count.sz
      clear X1 X2 HXy HXz
      obtain ⟨xb0, xb1, xb2, xb3, xb4, xb5⟩ := (unveil HKb).b.cells
      have lb := (unveil HKb).b.lt
      obtain ⟨xc0, xc1, xc2, xc3, xc4, xc5⟩ := (unveil HKc).b.cells
      have lc := (unveil HKc).b.lt
      obtain ⟨y0, y1, y2, y3⟩ := (unveil HAw).cells
      obtain ⟨z0, z1, z2, z3⟩ := (unveil HAg).cells
      have e1 : (B2.r == B.r) = true := by rw [unveil HE2]; simp
      go_wp2_with (first
        | (refine q_loads _ rfl rfl rfl q1 ?_)
        | (refine q_loads _ rfl rfl rfl q2 ?_)
        | (go_at_call 21; refine HSQ.mono ?_; rintro x W40 ⟨rfl, b40⟩; clear HSQ; obtain ⟨ub0, ub1, ub2, ub3, ub4, ub5⟩ := ((unveil HKb).next b40).b.cells; obtain ⟨uc0, uc1, uc2, uc3, uc4, uc5⟩ := ((unveil HKc).next b40).b.cells; clear xb0 xb1 xb2 xb3 xb4 xb5 xc0 xc1 xc2 xc3 xc4 xc5))
      go_ret
      exact ⟨by simp, Below.next (unveil HKb).bel b40⟩
end Go.Proofs.Ytdenfhnbhmdbnaa
