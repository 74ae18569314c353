/- The walk of berthshiftkeep.WakeEnds. -/
import Derived.Test.YtdenfhnbhmdbnaaBkMore
namespace Go.Proofs.Ytdenfhnbhmdbnaa
open Go.RowKit

theorem Tells.oks {es : List Ev} {s : St} {ans : List An} (h : Tells es s ans) : ∀ v ∈ es, v.Ok := by
  induction h with
  | nil => intro v hv; cases hv
  | snoc h hv st ih =>
    intro v hv'
    rcases List.mem_append.1 hv' with h1 | h1
    · exact ih v h1
    · rw [List.mem_singleton.1 h1]; exact hv

set_option maxRecDepth 20000 in
set_option maxHeartbeats 4000000 in
theorem walk_WakeEnds (w : World) (ep : Int) (wep : (Lit.int .i64 ep).wf = true) (a0 : Option Addr) (len cap : Nat) (D : List Int) (h : RowK .i64 w a0 (4 * len) D) (_ : len ≤ cap) (_ : cap ≤ maxLen) (_ : a0 = none → cap = 0) (dr : Bool) :
    Calls Try.prog 9 #[.int .i64 ep, .slice a0 len cap, .bool dr] w fun r w' => r = .returned (.bool true) ∧ Below w.heap.size w w' := by
  have HSv := kserved_any ep a0 len cap 40 D w h wep (by omega)
  clear h
  go_enter Try.func9, Try.ntmps9
  go_upto_region 2 with (go_at_call 14; refine HSv.mono ?_; rintro x V1 ⟨E, es, s, ans, y, rfl, hist, hl, nb, hE1, hE2, ⟨⟨a, c, rfl, i1, u1⟩⟩, b1⟩; clear HSv)
  obtain ⟨W1, hW1, K1, _⟩ := Kb.new i1 (Below.refl _ _) b1
  rw [← hW1]
  obtain ⟨Rb, hR⟩ : ∃ R, R = V1.heap.size := ⟨_, rfl⟩
  rw [← hR] at K1 ⊢
  clear hW1 hR i1 u1 b1
  have ht := hist.tells
  have HH := veil hist
  have HNB := veil nb
  clear hist nb
  have HKb := veil K1
  clear K1
  cases dr with
  | false =>
    go_upto_region 7 with fail
    obtain ⟨B, hB⟩ : ∃ B, B = Bt.act E es := ⟨_, rfl⟩
    have ok : B.Ok := by rw [hB]; exact ht.act_ok (by omega) hE1 (by omega)
    have hr : B.r = 1 ∨ B.r = 2 := by rw [hB]; exact .inl rfl
    have ht' : Tells B.es s ans := by rw [hB]; exact ht
    have hl' : B.es.length ≤ 40 := by rw [hB]; exact hl
    have K1 := unveil HKb
    rw [← hB] at K1
    clear hB ht hl HKb
    have ht := ht'
    have hl := hl'
    clear ht' hl'
    have HKb := veil K1
    clear K1
    obtain ⟨WB, hWB⟩ : ∃ WB, WB = W1 := ⟨_, rfl⟩
    rw [← hWB] at HKb ⊢
    obtain ⟨aB, haB⟩ : ∃ aB, aB = a := ⟨_, rfl⟩
    obtain ⟨cB, hcB⟩ : ∃ cB, cB = c := ⟨_, rfl⟩
    rw [← haB, ← hcB] at HKb
    clear haB hcB hWB
    obtain ⟨s', an', stB, htB, hlnB⟩ := ht.brk (by omega)
    have okB := broken_ok ok hr htB (by omega)
    have HSTB := veil stB
    have HTB := veil htB
    have HLNB := veil hlnB
    clear stB htB hlnB
    have hHR := veil hr
    clear hr
    have hwk : wakeOf B = (B.broken, 0) := by
      unfold wakeOf
      rw [if_neg (fun h => h ok), if_neg (fun h => h (unveil hHR)), if_neg (fun h => h okB)]
    obtain ⟨B2, hB2⟩ : ∃ B2, B2 = B.broken := ⟨_, rfl⟩
    rw [← hB2] at hwk okB
    have he2 : B2.r = 1 ∧ B2.e = B.e ∧ B2.es = B.es ++ [Ev.brk] := by rw [hB2]; exact ⟨rfl, rfl, rfl⟩
    have HE2 := veil he2
    clear hB2 he2
    have HC := bt_out (bwake_any B aB cB WB (unveil HKb).i) (B2 := B2) (er2 := 0) hwk
    obtain ⟨xb0, xb1, xb2, xb3, xb4, xb5⟩ := (unveil HKb).b.cells
    have lb := (unveil HKb).b.lt
    go_upto_region 8 with (first | (go_at_call 23; refine HC.mono ?_; rintro x V11 ⟨a11, c11, rfl, i11, u11, b11⟩; clear HC xb0 xb1 xb2 xb3 xb4 xb5 lb))
    obtain ⟨W11, hW11, K11, d11⟩ := Kb.new (B := B2) i11 (unveil HKb).bel b11
    rw [← hW11]
    clear hW11
    have HKn := veil ((unveil HKb).next (Below.next b11 d11))
    clear HKb
    have HKb := HKn
    clear HKn
    obtain ⟨Rw, hR⟩ : ∃ R, R = V11.heap.size := ⟨_, rfl⟩
    rw [← hR] at K11 ⊢
    clear hR
    have HKw := veil K11
    clear K11 i11 u11 b11 d11
    clear hwk
    have HR := replay_yes B.es B.es.length rfl s ans ht aB cB W11 (unveil HKb).i.row (by omega) (fun v hv => ht.oks v hv)
    obtain ⟨xb0, xb1, xb2, xb3, xb4, xb5⟩ := (unveil HKb).b.cells
    have lb := (unveil HKb).b.lt
    go_upto_region 9 with (first | (go_at_call 18; refine HR.mono ?_; rintro x V12 ⟨y, rfl, ⟨⟨qa12, qc12, qb12, qd12, ws12, rfl, r1, r2, _, _, n1, n2, hW12, _, _⟩⟩, b12⟩; clear HR xb0 xb1 xb2 xb3 xb4 xb5 lb) | (refine q_alloc 13 rfl rfl rfl ?_; intro Y12 z12 e12) | (refine q_store (ra := qa12) (la := qb12) (ws' := ws12) _ _ rfl rfl rfl rfl z12 hW12 ?_; intro W12 q12 t12; obtain ⟨X12, d12, _⟩ := boxed r1 r2 n1 n2 hW12 (Below.next (unveil HKb).bel b12) e12 t12 q12; have HXq := veil X12; clear q12 t12 z12 e12 X12 r1 r2))
    have HKn := veil ((unveil HKb).next (Below.next b12 d12))
    clear HKb
    have HKb := HKn
    clear HKn
    have HKn := veil ((unveil HKw).next (Below.next b12 d12))
    clear HKw
    have HKw := HKn
    clear HKn
    clear b12 d12
    have HR := replay_yes B2.es B2.es.length rfl s' _ (by rw [(unveil HE2).2.2]; exact unveil HTB) a11 c11 W12 (unveil HKw).i.row okB.len (fun v hv => by have h2 := unveil HTB; rw [← (unveil HE2).2.2] at h2; exact h2.oks v hv)
    obtain ⟨xw0, xw1, xw2, xw3, xw4, xw5⟩ := (unveil HKw).b.cells
    have lw := (unveil HKw).b.lt
    go_upto_region 10 with (first | (go_at_call 18; refine HR.mono ?_; rintro x V13 ⟨y, rfl, ⟨⟨qa13, qc13, qb13, qd13, ws13, rfl, r1, r2, _, _, n1, n2, hW13, _, _⟩⟩, b13⟩; clear HR xw0 xw1 xw2 xw3 xw4 xw5 lw) | (refine q_alloc 15 rfl rfl rfl ?_; intro Y13 z13 e13) | (refine q_store (ra := qa13) (la := qb13) (ws' := ws13) _ _ rfl rfl rfl rfl z13 hW13 ?_; intro W13 q13 t13; obtain ⟨X13, d13, _⟩ := boxed r1 r2 n1 n2 hW13 (Below.next (unveil HKb).bel b13) e13 t13 q13; have HXx := veil X13; clear q13 t13 z13 e13 X13 r1 r2))
    have HKn := veil ((unveil HKb).next (Below.next b13 d13))
    clear HKb
    have HKb := HKn
    clear HKn
    have HKn := veil ((unveil HKw).next (Below.next b13 d13))
    clear HKw
    have HKw := HKn
    clear HKn
    have Hn := veil ((unveil HXq).next (Below.next b13 d13))
    clear HXq
    have HXq := Hn
    clear Hn
    clear b13 d13
    have HD := (unveil HXq).do ht.wf.ok Ev.brk Ev.brk_ok
    have q0 := (unveil HXq).q
    have hb9 := (unveil HKb).bel
    go_upto_region 11 with (first
      | (refine q_loads _ rfl rfl rfl q0 ?_)
      | (go_at_call 19; refine HD.mono ?_; rintro x V20 ⟨s2, an2, ch2, x2, rfl, st2, ⟨⟨qa20, qc20, qb20, qd20, ws20, rfl, r1, r2, _, _, n1, n2, hW20, _, _⟩⟩, b20⟩; clear HD q0; obtain ⟨e1, e2, e3⟩ := st2.det ht.wf (unveil HSTB); have HEQ := veil (And.intro e1 (And.intro e2 e3)); clear e1 e2 e3 st2)
      | (refine q_alloc 17 rfl rfl rfl ?_; intro Y20 z20 e20; have z20' := z20.next (below1 Y20 (.cells #[.int .i64 0, .int .i64 0, .int .i64 0, .int .i64 0] 50)); have hN20 : V20.heap.size < Y20.heap.size := z20.lt; clear z20)
      | (refine q_store (ra := qa20) (la := qb20) (ws' := ws20) _ _ rfl rfl rfl rfl z20' hW20 ?_; intro W20 q20 t20; have y20 := ans0 hN20 t20; obtain ⟨y0, y1, y2, y3⟩ := y20.cells; have yf := y20.free; have HQ20 := veil (And.intro q20 t20); clear z20' q20 t20 y20))
    obtain ⟨W21, hW21, X21, y21, d21, B21⟩ := boxed2 an2.c an2.he an2.no an2.bd r1 r2 n1 n2 hW20 (Below.next hb9 b20) e20 hN20 (unveil HQ20).2 (unveil HQ20).1
    rw [← hW21]
    clear hW21 y0 y1 y2 y3 yf HQ20 r1 r2 n1 n2 y21 hb9
    obtain ⟨e1, e2, e3⟩ := unveil HEQ
    subst e1
    subst e2
    subst e3
    clear HEQ
    have HKn := veil ((unveil HKb).next (Below.next b20 d21))
    clear HKb
    have HKb := HKn
    clear HKn
    have HKn := veil ((unveil HKw).next (Below.next b20 d21))
    clear HKw
    have HKw := HKn
    clear HKn
    have Hn := veil ((unveil HXq).next (Below.next b20 d21))
    clear HXq
    have HXq := Hn
    clear Hn
    have Hn := veil ((unveil HXx).next (Below.next b20 d21))
    clear HXx
    have HXx := Hn
    clear Hn
    have X22 := unveil HXx
    have q22 := X22.q
    have q21 := X21.q
    have HSQ := sameQueue_yes s2 qa13 qc13 qb13 qd13 ws13 qa20 qc20 qb20 qd20 ws20 W21 X22.r1 X22.r2 X21.r1 X21.r2 X22.wins X21.wins (by have h2 := (unveil HTB).wf.ok.count.sz; exact h2)
    have hln : s2.ln = 0 := unveil HLNB
    obtain ⟨u0, u1, u2, u3, u4⟩ := q22.heads
    have HX22 := veil X22
    clear X22 X21 HXq HXx
    obtain ⟨xb0, xb1, xb2, xb3, xb4, xb5⟩ := (unveil HKb).b.cells
    have lb := (unveil HKb).b.lt
    obtain ⟨xw0, xw1, xw2, xw3, xw4, xw5⟩ := (unveil HKw).b.cells
    have lw := (unveil HKw).b.lt
    have e1 : (B2.r == 1) = true := by rw [(unveil HE2).1]; rfl
    have e2 : (B2.e == B.e) = true := by rw [(unveil HE2).2.1]; simp
    have e3 : ((s2.ln : Int) == 0) = true := by rw [hln]; rfl
    clear hln
    go_wp2_with (first
      | (refine q_loads _ rfl rfl rfl q22 ?_)
      | (refine q_loads _ rfl rfl rfl q21 ?_)
      | (go_at_call 21; refine HSQ.mono ?_; rintro x W30 ⟨rfl, b30⟩; clear HSQ u0 u1 u2 u3 u4; obtain ⟨u0, u1, u2, u3, u4⟩ := ((unveil HX22).next b30).q.heads))
    go_ret
    exact ⟨by simp, Below.next (unveil HKb).bel b30⟩
  | true =>
    go_upto_region 3 with fail
    have HC := go_act E es s ans a c W1 2 (unveil HKb).i ht (by omega) hE1 hE2 (by omega) (by omega)
    obtain ⟨xb0, xb1, xb2, xb3, xb4, xb5⟩ := (unveil HKb).b.cells
    have lb := (unveil HKb).b.lt
    go_upto_region 4 with (first | (go_at_call 15; refine HC.mono ?_; rintro x V3 ⟨a3, c3, rfl, i3, u3, b3⟩; clear HC xb0 xb1 xb2 xb3 xb4 xb5 lb))
    have hfr : ∀ x, a3 = some x → 0 < es.length → x.block ≠ Rb := fun x hx _ => by have := u3 x hx; have := (unveil HKb).b.lt; omega
    obtain ⟨W3, hW3, K3, d3⟩ := Kb.new (B := (Bt.drn E 2 0 es)) i3 (unveil HKb).bel b3
    rw [← hW3]
    clear hW3
    have HKn := veil ((unveil HKb).next (Below.next b3 d3))
    clear HKb
    have HKb := HKn
    clear HKn
    obtain ⟨Rn, hR⟩ : ∃ R, R = V3.heap.size := ⟨_, rfl⟩
    rw [← hR] at K3 ⊢
    clear hR
    have HKn := veil K3
    clear K3 i3 u3 b3 d3
    obtain ⟨xn0, xn1, xn2, xn3, xn4, xn5⟩ := (unveil HKn).b.cells
    have ln := (unveil HKn).b.lt
    obtain ⟨xb0, xb1, xb2, xb3, xb4, xb5⟩ := (unveil HKb).b.cells
    have lb := (unveil HKb).b.lt
    have xbf := (unveil HKb).b.free
    go_upto_region 7 with fail
    clear xn0 xn1 xn2 xn3 xn4 xn5 ln xb0 xb1 xb2 xb3 xb4 xb5 lb
    obtain ⟨WB, hWB, kB, bB, tB⟩ := b_stored (unveil HKb).b (unveil HKb).bel (unveil HKb).up 2 E 0 2 0 a3 es.length c3
    rw [← hWB]
    have lRb := (unveil HKb).b.lt
    have hfB : ∀ x, a3 = some x → 0 < es.length → x.block ≠ Rb := hfr
    obtain ⟨B, hB⟩ : ∃ B, B = Bt.drn E 2 0 es := ⟨_, rfl⟩
    have K1 : Kb w WB Rb (Bt.drn E 2 0 es) a3 c3 := ⟨kB, (unveil HKn).i.turned tB hfB, hfB, bB, (unveil HKb).up⟩
    have ok : B.Ok := by rw [hB]; exact ht.drn_ok (by omega) hE1 (by omega) (by omega) (by omega) (by omega) (by omega)
    have hr : B.r = 1 ∨ B.r = 2 := by rw [hB]; exact .inr rfl
    have ht' : Tells B.es s ans := by rw [hB]; exact ht
    have hl' : B.es.length ≤ 40 := by rw [hB]; exact hl
    rw [← hB] at K1
    clear hB ht hl HKb HKn kB bB tB hWB hfB hfr xbf lRb
    have ht := ht'
    have hl := hl'
    clear ht' hl'
    have HKb := veil K1
    clear K1
    obtain ⟨aB, haB⟩ : ∃ aB, aB = a3 := ⟨_, rfl⟩
    obtain ⟨cB, hcB⟩ : ∃ cB, cB = c3 := ⟨_, rfl⟩
    rw [← haB, ← hcB] at HKb
    clear haB hcB
    obtain ⟨s', an', stB, htB, hlnB⟩ := ht.brk (by omega)
    have okB := broken_ok ok hr htB (by omega)
    have HSTB := veil stB
    have HTB := veil htB
    have HLNB := veil hlnB
    clear stB htB hlnB
    have hHR := veil hr
    clear hr
    have hwk : wakeOf B = (B.broken, 0) := by
      unfold wakeOf
      rw [if_neg (fun h => h ok), if_neg (fun h => h (unveil hHR)), if_neg (fun h => h okB)]
    obtain ⟨B2, hB2⟩ : ∃ B2, B2 = B.broken := ⟨_, rfl⟩
    rw [← hB2] at hwk okB
    have he2 : B2.r = 1 ∧ B2.e = B.e ∧ B2.es = B.es ++ [Ev.brk] := by rw [hB2]; exact ⟨rfl, rfl, rfl⟩
    have HE2 := veil he2
    clear hB2 he2
    have HC := bt_out (bwake_any B aB cB WB (unveil HKb).i) (B2 := B2) (er2 := 0) hwk
    obtain ⟨xb0, xb1, xb2, xb3, xb4, xb5⟩ := (unveil HKb).b.cells
    have lb := (unveil HKb).b.lt
    go_upto_region 8 with (first | (go_at_call 23; refine HC.mono ?_; rintro x V11 ⟨a11, c11, rfl, i11, u11, b11⟩; clear HC xb0 xb1 xb2 xb3 xb4 xb5 lb))
    obtain ⟨W11, hW11, K11, d11⟩ := Kb.new (B := B2) i11 (unveil HKb).bel b11
    rw [← hW11]
    clear hW11
    have HKn := veil ((unveil HKb).next (Below.next b11 d11))
    clear HKb
    have HKb := HKn
    clear HKn
    obtain ⟨Rw, hR⟩ : ∃ R, R = V11.heap.size := ⟨_, rfl⟩
    rw [← hR] at K11 ⊢
    clear hR
    have HKw := veil K11
    clear K11 i11 u11 b11 d11
    clear hwk
    have HR := replay_yes B.es B.es.length rfl s ans ht aB cB W11 (unveil HKb).i.row (by omega) (fun v hv => ht.oks v hv)
    obtain ⟨xb0, xb1, xb2, xb3, xb4, xb5⟩ := (unveil HKb).b.cells
    have lb := (unveil HKb).b.lt
    go_upto_region 9 with (first | (go_at_call 18; refine HR.mono ?_; rintro x V12 ⟨y, rfl, ⟨⟨qa12, qc12, qb12, qd12, ws12, rfl, r1, r2, _, _, n1, n2, hW12, _, _⟩⟩, b12⟩; clear HR xb0 xb1 xb2 xb3 xb4 xb5 lb) | (refine q_alloc 13 rfl rfl rfl ?_; intro Y12 z12 e12) | (refine q_store (ra := qa12) (la := qb12) (ws' := ws12) _ _ rfl rfl rfl rfl z12 hW12 ?_; intro W12 q12 t12; obtain ⟨X12, d12, _⟩ := boxed r1 r2 n1 n2 hW12 (Below.next (unveil HKb).bel b12) e12 t12 q12; have HXq := veil X12; clear q12 t12 z12 e12 X12 r1 r2))
    have HKn := veil ((unveil HKb).next (Below.next b12 d12))
    clear HKb
    have HKb := HKn
    clear HKn
    have HKn := veil ((unveil HKw).next (Below.next b12 d12))
    clear HKw
    have HKw := HKn
    clear HKn
    clear b12 d12
    have HR := replay_yes B2.es B2.es.length rfl s' _ (by rw [(unveil HE2).2.2]; exact unveil HTB) a11 c11 W12 (unveil HKw).i.row okB.len (fun v hv => by have h2 := unveil HTB; rw [← (unveil HE2).2.2] at h2; exact h2.oks v hv)
    obtain ⟨xw0, xw1, xw2, xw3, xw4, xw5⟩ := (unveil HKw).b.cells
    have lw := (unveil HKw).b.lt
    go_upto_region 10 with (first | (go_at_call 18; refine HR.mono ?_; rintro x V13 ⟨y, rfl, ⟨⟨qa13, qc13, qb13, qd13, ws13, rfl, r1, r2, _, _, n1, n2, hW13, _, _⟩⟩, b13⟩; clear HR xw0 xw1 xw2 xw3 xw4 xw5 lw) | (refine q_alloc 15 rfl rfl rfl ?_; intro Y13 z13 e13) | (refine q_store (ra := qa13) (la := qb13) (ws' := ws13) _ _ rfl rfl rfl rfl z13 hW13 ?_; intro W13 q13 t13; obtain ⟨X13, d13, _⟩ := boxed r1 r2 n1 n2 hW13 (Below.next (unveil HKb).bel b13) e13 t13 q13; have HXx := veil X13; clear q13 t13 z13 e13 X13 r1 r2))
    have HKn := veil ((unveil HKb).next (Below.next b13 d13))
    clear HKb
    have HKb := HKn
    clear HKn
    have HKn := veil ((unveil HKw).next (Below.next b13 d13))
    clear HKw
    have HKw := HKn
    clear HKn
    have Hn := veil ((unveil HXq).next (Below.next b13 d13))
    clear HXq
    have HXq := Hn
    clear Hn
    clear b13 d13
    have HD := (unveil HXq).do ht.wf.ok Ev.brk Ev.brk_ok
    have q0 := (unveil HXq).q
    have hb9 := (unveil HKb).bel
    go_upto_region 11 with (first
      | (refine q_loads _ rfl rfl rfl q0 ?_)
      | (go_at_call 19; refine HD.mono ?_; rintro x V20 ⟨s2, an2, ch2, x2, rfl, st2, ⟨⟨qa20, qc20, qb20, qd20, ws20, rfl, r1, r2, _, _, n1, n2, hW20, _, _⟩⟩, b20⟩; clear HD q0; obtain ⟨e1, e2, e3⟩ := st2.det ht.wf (unveil HSTB); have HEQ := veil (And.intro e1 (And.intro e2 e3)); clear e1 e2 e3 st2)
      | (refine q_alloc 17 rfl rfl rfl ?_; intro Y20 z20 e20; have z20' := z20.next (below1 Y20 (.cells #[.int .i64 0, .int .i64 0, .int .i64 0, .int .i64 0] 50)); have hN20 : V20.heap.size < Y20.heap.size := z20.lt; clear z20)
      | (refine q_store (ra := qa20) (la := qb20) (ws' := ws20) _ _ rfl rfl rfl rfl z20' hW20 ?_; intro W20 q20 t20; have y20 := ans0 hN20 t20; obtain ⟨y0, y1, y2, y3⟩ := y20.cells; have yf := y20.free; have HQ20 := veil (And.intro q20 t20); clear z20' q20 t20 y20))
    obtain ⟨W21, hW21, X21, y21, d21, B21⟩ := boxed2 an2.c an2.he an2.no an2.bd r1 r2 n1 n2 hW20 (Below.next hb9 b20) e20 hN20 (unveil HQ20).2 (unveil HQ20).1
    rw [← hW21]
    clear hW21 y0 y1 y2 y3 yf HQ20 r1 r2 n1 n2 y21 hb9
    obtain ⟨e1, e2, e3⟩ := unveil HEQ
    subst e1
    subst e2
    subst e3
    clear HEQ
    have HKn := veil ((unveil HKb).next (Below.next b20 d21))
    clear HKb
    have HKb := HKn
    clear HKn
    have HKn := veil ((unveil HKw).next (Below.next b20 d21))
    clear HKw
    have HKw := HKn
    clear HKn
    have Hn := veil ((unveil HXq).next (Below.next b20 d21))
    clear HXq
    have HXq := Hn
    clear Hn
    have Hn := veil ((unveil HXx).next (Below.next b20 d21))
    clear HXx
    have HXx := Hn
    clear Hn
    have X22 := unveil HXx
    have q22 := X22.q
    have q21 := X21.q
    have HSQ := sameQueue_yes s2 qa13 qc13 qb13 qd13 ws13 qa20 qc20 qb20 qd20 ws20 W21 X22.r1 X22.r2 X21.r1 X21.r2 X22.wins X21.wins (by have h2 := (unveil HTB).wf.ok.count.sz; exact h2)
    have hln : s2.ln = 0 := unveil HLNB
    obtain ⟨u0, u1, u2, u3, u4⟩ := q22.heads
    have HX22 := veil X22
    clear X22 X21 HXq HXx
    obtain ⟨xb0, xb1, xb2, xb3, xb4, xb5⟩ := (unveil HKb).b.cells
    have lb := (unveil HKb).b.lt
    obtain ⟨xw0, xw1, xw2, xw3, xw4, xw5⟩ := (unveil HKw).b.cells
    have lw := (unveil HKw).b.lt
    have e1 : (B2.r == 1) = true := by rw [(unveil HE2).1]; rfl
    have e2 : (B2.e == B.e) = true := by rw [(unveil HE2).2.1]; simp
    have e3 : ((s2.ln : Int) == 0) = true := by rw [hln]; rfl
    clear hln
    go_wp2_with (first
      | (refine q_loads _ rfl rfl rfl q22 ?_)
      | (refine q_loads _ rfl rfl rfl q21 ?_)
      | (go_at_call 21; refine HSQ.mono ?_; rintro x W30 ⟨rfl, b30⟩; clear HSQ u0 u1 u2 u3 u4; obtain ⟨u0, u1, u2, u3, u4⟩ := ((unveil HX22).next b30).q.heads))
    go_ret
    exact ⟨by simp, Below.next (unveil HKb).bel b30⟩
end Go.Proofs.Ytdenfhnbhmdbnaa
