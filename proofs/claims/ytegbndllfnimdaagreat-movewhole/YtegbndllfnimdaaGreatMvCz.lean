/- The walk of berthshiftkeep.MoveWhole. -/
import Derived.Test.YtegbndllfnimdaaGreatMvBz
import Derived.Test.YtegbndllfnimdaaGreatBkLst
namespace Go.Proofs.YtegbndllfnimdaaGreat
open Go.RowKit

/-- two berths in two new boxes. -/
theorem two_boxed {w V : World} {S T : Bt} {aS aT : Option Addr} {cS cT : Nat} (iS : BIn V S aS cS) (iT : BIn V T aT cT) (b : Below w.heap.size w V) :
    ∃ W, W = (V.alloc (.cells (bCells S.r S.e S.f S.t S.o aS S.es.length cS) 26)).alloc (.cells (bCells T.r T.e T.f T.t T.o aT T.es.length cT) 26) ∧ Kb w W V.heap.size S aS cS ∧ Kb w W (V.heap.size + 1) T aT cT := by
  obtain ⟨W1, hW1, K1, d1⟩ := Kb.new iS (Below.refl _ _) b
  obtain ⟨W2, hW2, K2, d2⟩ := Kb.new (w := w) (iT.next d1) (Below.next b d1) (Below.refl _ _)
  have hs : W1.heap.size = V.heap.size + 1 := by rw [hW1]; simp
  rw [hs] at K2
  rw [hW1] at hW2
  exact ⟨W2, hW2, K1.next d2, K2⟩
theorem forget_sld {B : Bt} {ep : Int} (ok : B.Ok) (hr : B.r = 3) (he : B.e < ep) : forgetOf B ep = (Bt.nob B.e, 0) := by
  unfold forgetOf
  rw [if_neg (fun h => h ok), if_neg (fun h => h hr), if_neg (by omega)]
set_option maxRecDepth 20000 in
set_option maxHeartbeats 8000000 in
theorem walk_MoveWhole (w : World) (ep : Int) (wep : (Lit.int .i64 ep).wf = true) (a0 : Option Addr) (len cap : Nat) (D : List Int) (h : RowK .i64 w a0 (4 * len) D) (_ : len ≤ cap) (_ : cap ≤ maxLen) (_ : a0 = none → cap = 0) (a1 : Option Addr) (len1 cap1 : Nat) (D1 : List Int) (h1 : RowK .i64 w a1 (4 * len1) D1) (_ : len1 ≤ cap1) (_ : cap1 ≤ maxLen) (_ : a1 = none → cap1 = 0) (a2 : Option Addr) (len2 cap2 : Nat) (f2 : Nat → Bool) (h2 : RowB w a2 len2 f2) :
    Calls Tryz.prog 3 #[.int .i64 ep, .slice a0 len cap, .slice a1 len1 cap1, .slice a2 len2 cap2] w fun r w' => r = .returned (.bool true) ∧ Below w.heap.size w w' := by
  have HMv := moved_any ep wep a0 len cap D a1 len1 cap1 D1 a2 len2 cap2 f2 w h h1 h2
  clear h h1 h2
  go_enter Tryz.func3, Tryz.ntmps3
  go_upto_region 2 with (go_at_call 11; refine HMv.mono ?_; rintro x V1 ⟨E, es, S, aS, cS, aT, cT, rfl, mo⟩; clear HMv; obtain ⟨Ub, hUb⟩ : ∃ Ub, Ub = es ++ [Ev.brk] := ⟨_, rfl⟩; rw [← hUb]; have HUb := veil hUb; have HMo := veil mo; have hSes := mo.src.es_; rw [hSes]; have HSe := veil hSes; clear hUb mo hSes)
  have mo := unveil HMo
  have iT := mo.iT
  rw [← unveil HUb] at iT
  obtain ⟨W1, hW1, KS, KT⟩ : ∃ W, W = (V1.alloc (.cells (bCells S.r S.e S.f S.t S.o aS es.length cS) 26)).alloc (.cells (bCells 1 (E + 1) 0 0 0 aT Ub.length cT) 26) ∧ Kb w W V1.heap.size S aS cS ∧ Kb w W (V1.heap.size + 1) (Bt.act (E + 1) Ub) aT cT := by
    have := two_boxed mo.iS iT mo.bel
    rw [unveil HSe] at this
    exact this
  rw [← hW1]
  have hl50 := mo.src.len
  have hE1 := mo.e1
  have hE2 := mo.e2
  obtain ⟨s, ans, ht⟩ := mo.src.tells
  have hSok := mo.src.ok
  have hSr := mo.r
  have hSE := mo.src.e
  have hUl : Ub.length = es.length + 1 := by rw [unveil HUb]; simp
  obtain ⟨Rb, hRb⟩ : ∃ R, R = V1.heap.size := ⟨_, rfl⟩
  rw [← hRb] at KS KT ⊢
  clear hW1 hRb iT mo HMo
  obtain ⟨bT, oT, rfl⟩ := KT.i.row.form (by show 0 < 6 * Ub.length; omega)
  have rT := KT.i.row.firsts (6 * es.length) (by show 6 * es.length ≤ 6 * Ub.length; omega)
  have eT : (evFlat Ub).take (6 * es.length) = evFlat es := by
    rw [evFlat_take, unveil HUb, List.take_append_of_le_length (Nat.le_refl _), List.take_length]
  have rT' : RowK .i64 W1 (some ⟨bT, oT, none⟩) (6 * es.length) (evFlat es) := by rw [← eT]; exact rT
  have rS := KS.i.row
  rw [unveil HSe] at rS
  have HSm : ∀ n : Nat, Calls Tryz.prog 12 #[.slice (some ⟨bT, oT, none⟩) es.length cT, .slice aS es.length cS] (W1.drewN n) fun e w' => e = .returned (.bool true) ∧ ∃ m, w' = (W1.drewN n).drewN m := fun n => sameEventsK_yes _ aS es.length cT cS (evFlat es) _ (rT'.below (belowN _ _)) (rS.below (belowN _ _)) (by omega)
  have hcT : es.length ≤ cT := by have := KT.i.cap; have h0 : Ub.length ≤ cT := this; omega
  obtain ⟨sb0, sb1, sb2, sb3, sb4, sb5⟩ := KS.b.cells
  obtain ⟨tb0, tb1, tb2, tb3, tb4, tb5⟩ := KT.b.cells
  dsimp only at tb0 tb1 tb2 tb3 tb4 tb5
  rw [hSr] at sb0
  rw [hSE] at sb1
  rw [unveil HSe] at sb5
  have hwE : IntKind.i64.wrap (E + 1) = E + 1 := by rw [IntKind.wrap_i64]; omega
  have hwl : IntKind.i64.wrap ((es.length : Int) + 1) = (es.length : Int) + 1 := by rw [IntKind.wrap_i64]; omega
  have hbl : ((Ub.length : Int) != (es.length : Int) + 1) = false := by rw [hUl]; simp
  have HKS := veil KS
  have HKT := veil KT
  have HUl := veil hUl
  have HSr := veil hSr
  have HSE := veil hSE
  have HSok := veil hSok
  clear KS KT rT rT' rS eT hUl hSr hSE hSok
  go_quiet (first | (go_at_call 12; refine Calls.quiet_of (HSm _)))
  clear HSm sb0 sb1 sb2 sb3 sb4 sb5 tb0 tb1 tb2 tb3 tb4 tb5 hbl hwl
  have HKb := veil ((unveil HKS).next (belowN W1 nq))
  have HKw := veil ((unveil HKT).next (belowN W1 nq))
  clear HKS HKT
  generalize W1.drewN nq = W2 at *
  have htS : Tells S.es s ans := by rw [unveil HSe]; exact ht
  obtain ⟨s', an', stB, htB, hlnB⟩ := ht.brk (by omega)
  have HSTB := veil stB
  have HTB : Hid (Tells Ub s' (ans ++ [an'])) := veil (by rw [unveil HUb]; exact htB)
  clear stB htB hlnB
  have hlS : S.es.length ≤ 50 := by rw [unveil HSe]; exact hl50
  have hU51 : Ub.length ≤ 51 := by have := unveil HUl; omega
  have HR := replay_yes S.es S.es.length rfl s ans htS aS cS W2 (unveil HKb).i.row (by omega) (fun v hv => htS.oks v hv)
  obtain ⟨xb0, xb1, xb2, xb3, xb4, xb5⟩ := (unveil HKb).b.cells
  have lb := (unveil HKb).b.lt
  go_upto_region 5 with (first | (go_at_call 13; refine HR.mono ?_; rintro x V12 ⟨y, rfl, ⟨⟨qa12, qc12, qb12, qd12, ws12, rfl, r1, r2, _, _, n1, n2, hW12, _, _⟩⟩, b12⟩; clear HR xb0 xb1 xb2 xb3 xb4 xb5 lb) | (refine q_alloc 12 rfl rfl rfl ?_; intro Y12 z12 e12) | (refine q_store (ra := qa12) (la := qb12) (ws' := ws12) _ _ rfl rfl rfl rfl z12 hW12 ?_; intro W12 q12 t12; obtain ⟨X12, d12, _⟩ := boxed r1 r2 n1 n2 hW12 (Below.next (unveil HKb).bel b12) e12 t12 q12; have HXq := veil X12; clear q12 t12 z12 e12 X12 r1 r2))
  have HKn := veil ((unveil HKb).next (Below.next b12 d12))
  clear HKb
  have HKb := HKn
  clear HKn
  have HKn := veil ((unveil HKw).next (Below.next b12 d12))
  clear HKw
  have HKw := HKn
  clear HKn
  clear b12 d12
  have HR := replay_yes Ub Ub.length rfl s' _ (unveil HTB) (some ⟨bT, oT, none⟩) cT W12 (unveil HKw).i.row (by omega) (fun v hv => (unveil HTB).oks v hv)
  obtain ⟨xw0, xw1, xw2, xw3, xw4, xw5⟩ := (unveil HKw).b.cells
  have lw := (unveil HKw).b.lt
  go_upto_region 6 with (first | (go_at_call 13; refine HR.mono ?_; rintro x V13 ⟨y, rfl, ⟨⟨qa13, qc13, qb13, qd13, ws13, rfl, r1, r2, _, _, n1, n2, hW13, _, _⟩⟩, b13⟩; clear HR xw0 xw1 xw2 xw3 xw4 xw5 lw) | (refine q_alloc 14 rfl rfl rfl ?_; intro Y13 z13 e13) | (refine q_store (ra := qa13) (la := qb13) (ws' := ws13) _ _ rfl rfl rfl rfl z13 hW13 ?_; intro W13 q13 t13; obtain ⟨X13, d13, _⟩ := boxed r1 r2 n1 n2 hW13 (Below.next (unveil HKb).bel b13) e13 t13 q13; have HXx := veil X13; clear q13 t13 z13 e13 X13 r1 r2))
  have HKn := veil ((unveil HKb).next (Below.next b13 d13))
  clear HKb
  have HKb := HKn
  clear HKn
  have HKn := veil ((unveil HKw).next (Below.next b13 d13))
  clear HKw
  have HKw := HKn
  clear HKn
  have Hn := veil ((unveil HXq).next (Below.next b13 d13))
  clear HXq
  have HXq := Hn
  clear Hn
  clear b13 d13
  have HD := (unveil HXq).do ht.wf.ok Ev.brk Ev.brk_ok
  have q0 := (unveil HXq).q
  have hb9 := (unveil HKb).bel
  go_upto_region 7 with (first
    | (refine q_loads _ rfl rfl rfl q0 ?_)
    | (go_at_call 14; refine HD.mono ?_; rintro x V20 ⟨s2, an2, ch2, x2, rfl, st2, ⟨⟨qa20, qc20, qb20, qd20, ws20, rfl, r1, r2, _, _, n1, n2, hW20, _, _⟩⟩, b20⟩; clear HD q0; obtain ⟨e1, e2, e3⟩ := st2.det ht.wf (unveil HSTB); have HEQ := veil (And.intro e1 (And.intro e2 e3)); clear e1 e2 e3 st2)
    | (refine q_alloc 16 rfl rfl rfl ?_; intro Y20 z20 e20; have z20' := z20.next (below1 Y20 (.cells #[.int .i64 0, .int .i64 0, .int .i64 0, .int .i64 0] 44)); have hN20 : V20.heap.size < Y20.heap.size := z20.lt; clear z20)
    | (refine q_store (ra := qa20) (la := qb20) (ws' := ws20) _ _ rfl rfl rfl rfl z20' hW20 ?_; intro W20 q20 t20; have y20 := ans0 hN20 t20; obtain ⟨y0, y1, y2, y3⟩ := y20.cells; have yf := y20.free; have HQ20 := veil (And.intro q20 t20); clear z20' q20 t20 y20))
  obtain ⟨W21, hW21, X21, y21, d21, B21⟩ := boxed2 an2.c an2.he an2.no an2.bd r1 r2 n1 n2 hW20 (Below.next hb9 b20) e20 hN20 (unveil HQ20).2 (unveil HQ20).1
  rw [← hW21]
  clear hW21 y0 y1 y2 y3 yf HQ20 r1 r2 n1 n2 y21 hb9
  obtain ⟨e1, e2, e3⟩ := unveil HEQ
  subst e1
  subst e2
  subst e3
  clear HEQ
  have HKn := veil ((unveil HKb).next (Below.next b20 d21))
  clear HKb
  have HKb := HKn
  clear HKn
  have HKn := veil ((unveil HKw).next (Below.next b20 d21))
  clear HKw
  have HKw := HKn
  clear HKn
  have Hn := veil ((unveil HXx).next (Below.next b20 d21))
  clear HXx
  have HXx := Hn
  clear Hn
  have HX21 := veil X21
  clear X21 HXq d21 b20 B21
  have HF := bt_out (bforget_any S aS cS (E + 1) W21 (unveil HKb).i) (forget_sld (unveil HSok) (unveil HSr) (by rw [unveil HSE]; omega))
  obtain ⟨xb0, xb1, xb2, xb3, xb4, xb5⟩ := (unveil HKb).b.cells
  obtain ⟨xw0, xw1, xw2, xw3, xw4, xw5⟩ := (unveil HKw).b.cells
  go_upto_region 8 with (go_at_call 15; refine HF.mono ?_; rintro x V22 ⟨a22, c22, rfl, i22, u22, b22⟩; clear HF xb0 xb1 xb2 xb3 xb4 xb5 xw0 xw1 xw2 xw3 xw4 xw5)
  obtain ⟨W22, hW22, K22, d22⟩ : ∃ W, W = V22.alloc (.cells (bCells 0 S.e 0 0 0 a22 0 c22) 26) ∧ Kb w W V22.heap.size (Bt.nob S.e) a22 c22 ∧ Below V22.heap.size V22 W := Kb.new (B := Bt.nob S.e) i22 (unveil HKb).bel b22
  rw [← hW22]
  have X22 := (unveil HXx).next (Below.next b22 d22)
  have X21 := (unveil HX21).next (Below.next b22 d22)
  obtain ⟨Rf, hRf⟩ : ∃ R, R = V22.heap.size := ⟨_, rfl⟩
  rw [← hRf] at K22 ⊢
  clear hW22 hRf i22 u22 b22 d22 HXx HX21 HKb HKw
  have q22 := X22.q
  have q21 := X21.q
  have HSQ := sameQueue_yes s2 qa13 qc13 qb13 qd13 ws13 qa20 qc20 qb20 qd20 ws20 W22 X22.r1 X22.r2 X21.r1 X21.r2 X22.wins X21.wins (by have h2 := (unveil HTB).wf.ok.count.sz; exact h2)
  have HK22 := veil K22
  obtain ⟨fb0, fb1, fb2, fb3, fb4, fb5⟩ := K22.b.cells
  clear X22 X21 K22
  go_wp2_with (first
    | (refine q_loads _ rfl rfl rfl q22 ?_)
    | (refine q_loads _ rfl rfl rfl q21 ?_)
    | (go_at_call 16; refine HSQ.mono ?_; rintro x W30 ⟨rfl, b30⟩; clear HSQ fb0 fb1 fb2 fb3 fb4 fb5; obtain ⟨fb0, fb1, fb2, fb3, fb4, fb5⟩ := ((unveil HK22).next b30).b.cells))
  go_ret
  exact ⟨by simp, Below.next (unveil HK22).bel b30⟩
end Go.Proofs.YtegbndllfnimdaaGreat
