/- The walk of berthshiftlaw.QueueDoes. -/
import Derived.Test.YtbhlpiomoookcaaLqAz
import Derived.Test.YtbhlpiomoookcaaLsHz
import Derived.Test.YtbhlpiomoookcaaQuJ
import Derived.Test.YtbhlpiomoookcaaQuOz
namespace Go.Proofs.Ytbhlpiomoookcaa
open Go.RowKit

set_option maxRecDepth 20000 in
set_option maxHeartbeats 8000000 in
theorem walk_QueueDoes (w : World) (ep nx gv : Int) (ra : Option Addr) (rn rc : Nat) (la : Option Addr) (ln lc : Nat) (R L : List Int) (ws : Nat → Value) (wt : Nat → Int) (wz : Nat → Nat → Bool) (qo : QueueIn w ep nx gv ra rn rc la ln lc R L ws wt wz) (hz : rc * 16 ≤ 140737488351232 ∧ lc * 32 ≤ 140737488351232)
    (xk xp xi xb xe xn : Int) (_ : ∀ z ∈ [xk, xp, xi, xb, xe, xn], (Lit.int .i64 z).wf = true) :
    Calls Try.prog 3 #[qVal ep nx gv (.slice ra rn rc) (.slice la ln lc) ws, .agg #[.int .i64 xk, .int .i64 xp, .int .i64 xi, .int .i64 xb, .int .i64 xe, .int .i64 xn]] w fun e w' => e = .returned (.bool true) ∧ Below w.heap.size w w' := by
  have h1 := qo.lenR
  have h2 := qo.lenL
  obtain ⟨z1, z2⟩ := hz
  obtain ⟨s, hs⟩ : ∃ s : St, s = ⟨ep, nx, gv, rn, R, ln, L, wt, wz⟩ := ⟨_, rfl⟩
  obtain ⟨v, hv⟩ : ∃ v : Ev, v = ⟨xk, xp, xi, xb, xe, xn⟩ := ⟨_, rfl⟩
  obtain ⟨rfl, rfl, rfl, rfl, rfl, rfl, rfl, rfl, rfl⟩ : ep = s.ep ∧ nx = s.nx ∧ gv = s.gv ∧ rn = s.rn ∧ R = s.R ∧ ln = s.ln ∧ L = s.L ∧ wt = s.wt ∧ wz = s.wz := by subst hs; exact ⟨rfl, rfl, rfl, rfl, rfl, rfl, rfl, rfl, rfl⟩
  obtain ⟨rfl, rfl, rfl, rfl, rfl, rfl⟩ : xk = v.k ∧ xp = v.p ∧ xi = v.i ∧ xb = v.b ∧ xe = v.he ∧ xn = v.hn := by subst hv; exact ⟨rfl, rfl, rfl, rfl, rfl, rfl⟩
  clear hs hv
  have hsum : s.rn + s.ln ≤ 9223372036854775807 := by omega
  have hsr : s.rn ≤ 9000000000000 := by omega
  have hsl : s.ln ≤ 9000000000000 := by omega
  have HQO := veil qo
  have hwR := veil qo.rowR.wf
  have hwL := veil qo.rowL.wf
  have hW := qo.wins
  clear qo
  go_enter Try.func3, Try.ntmps3
  go_upto_region 1 with (refine q_box 2 _ rfl rfl rfl rfl ?_; intro W1 q1 b1)
  obtain ⟨W2, hW2, e2, b2⟩ : ∃ W, W = W1.alloc (.cells #[.int .i64 v.k, .int .i64 v.p, .int .i64 v.i, .int .i64 v.b, .int .i64 v.he, .int .i64 v.hn] 33) ∧ W.heap[W1.heap.size]? = some (.cells #[.int .i64 v.k, .int .i64 v.p, .int .i64 v.i, .int .i64 v.b, .int .i64 v.he, .int .i64 v.hn] 33 (0, 0)) ∧ Below W1.heap.size W1 W := ⟨_, rfl, heap_alloc_new _ _, below1 _ _⟩
  rw [← hW2]
  have q2 := q1.next b2
  have X2 : Bx W2 w.heap.size s ra rc la lc ws := ⟨q2, (unveil HQO).rowR.below (Below.next b1 b2), (unveil HQO).rowL.below (Below.next b1 b2), (unveil HQO).nilR, (unveil HQO).nilL, hW⟩
  have B2 := Below.next b1 b2
  have E2 : Hid (∀ W, Below W2.heap.size W2 W → W.heap[W1.heap.size]? = some (.cells #[.int .i64 v.k, .int .i64 v.p, .int .i64 v.i, .int .i64 v.b, .int .i64 v.he, .int .i64 v.hn] 33 (0, 0))) := veil fun W hb => (hb.block _ (block_lt e2)).trans e2
  have HQ := veil (queues_any s.ep s.nx s.gv ra la s.rn rc s.ln lc s.R s.L ws s.wt s.wz W2 X2.r1 X2.r2 hW (by omega) (by omega))
  have HX2 := veil X2
  have HB2 := veil B2
  clear hW2 q1 b1 e2 b2 X2 B2
  go_upto_region 2 with (first
    | (refine q_loads _ rfl rfl rfl q2 ?_)
    | (go_at_call 12; refine (unveil HQ).mono ?_; rintro e W3 ⟨a1, c1, a2, c2, rfl, o1, o2, b3⟩; obtain ⟨_, _, e1, r1, _, _, n1, _⟩ := RowK.ofMany o1 (unveil hwR); obtain ⟨_, _, e2, r2, _, _, n2, _⟩ := RowK.ofMany o2 (unveil hwL); cases e1; cases e2; clear HQ o1 o2 q2)
    | (refine q_alloc 5 rfl rfl rfl ?_; intro W4 z4 b4; have hW4 := z4.lt)
    | (refine q_store (ra := a1) (la := a2) (ws' := ws) _ _ rfl rfl rfl rfl z4 hW ?_; intro W5 q5 t5; have B4 := Below.next b3 b4; have B5 := t5.under B4 b3.size; have HQ5 := veil q5; have HT5 := veil t5; have HB5 := veil B5; clear z4 q5 t5 B5))
  have X5 : Bx W5 W3.heap.size s a1 c1 a2 c2 ws := ⟨unveil HQ5, (unveil HT5).row (r1.below b4) (fun x hx h0 => by have := r1.blk_lt x hx h0; omega), (unveil HT5).row (r2.below b4) (fun x hx h0 => by have := r2.blk_lt x hx h0; omega), n1, n2, hW⟩
  have HX5 := veil X5
  have q5 := X5.q
  have HD := veil (do_all s a1 a2 c1 c2 ws v W5 X5.r1 X5.r2 n1 n2 hW hsum)
  have ev := unveil E2 W5 (unveil HB5)
  have v0 : W5.cell? ⟨W1.heap.size, 0, none⟩ = some (.int .i64 v.k) := by simp [World.cell?, ev]
  have v1 : W5.cell? ⟨W1.heap.size, 1, none⟩ = some (.int .i64 v.p) := by simp [World.cell?, ev]
  have v2 : W5.cell? ⟨W1.heap.size, 2, none⟩ = some (.int .i64 v.i) := by simp [World.cell?, ev]
  have v3 : W5.cell? ⟨W1.heap.size, 3, none⟩ = some (.int .i64 v.b) := by simp [World.cell?, ev]
  have v4 : W5.cell? ⟨W1.heap.size, 4, none⟩ = some (.int .i64 v.he) := by simp [World.cell?, ev]
  have v5 : W5.cell? ⟨W1.heap.size, 5, none⟩ = some (.int .i64 v.hn) := by simp [World.cell?, ev]
  clear X5 ev r1 r2 b4 HQ5 HT5 b3 B4 hW4
  go_upto_region 3 with (first
    | (refine q_loads _ rfl rfl rfl q5 ?_)
    | (go_at_call 13; refine (unveil HD).mono ?_; rintro e W6 ⟨s6, an, ch, er, x6, rfl, d6, ⟨⟨p6, i6, o6, j6, u6, rfl, r6, t6, _, _, m6, n6, w6, _, _⟩⟩, b6⟩; have HD6 := veil d6; clear HD d6 q5 v0 v1 v2 v3 v4 v5)
    | (refine q_alloc 6 rfl rfl rfl ?_; intro W7 z7 b7; have hW7 := z7.lt; have zz7 := z7.next (below1 W7 (.cells #[.int .i64 0, .int .i64 0, .int .i64 0, .int .i64 0] 37)); have y7 := ansBlock.new W7 0 0 0 0; clear z7)
    | (refine q_store (ra := p6) (la := o6) (ws' := u6) _ _ rfl rfl rfl rfl zz7 w6 ?_; intro W8 q8 t8; have y8 := y7.turned t8 (by omega); obtain ⟨k0, k1, k2, k3⟩ := y8.cells; have kf := y8.free; clear y7 y8 zz7))
  obtain ⟨W9, hW9, X9, y9, b9⟩ := dq_made an.c an.he an.no an.bd r6 t6 m6 n6 w6 hW7 b7 q8 t8
  rw [← hW9]
  have B9 := Below.next b6 b9
  have HX9 := veil X9
  have HY9 := veil y9
  have HB9 := veil B9
  have X29 := ((unveil HX2).next (unveil HB5)).next B9
  have q29 := X29.q
  have HDq := veil (queueDone_all s ra la rc lc ws v W9 X29.r1 X29.r2 hW hsum)
  have ev := unveil E2 W9 (Below.next (unveil HB5) B9)
  have v0 : W9.cell? ⟨W1.heap.size, 0, none⟩ = some (.int .i64 v.k) := by simp [World.cell?, ev]
  have v1 : W9.cell? ⟨W1.heap.size, 1, none⟩ = some (.int .i64 v.p) := by simp [World.cell?, ev]
  have v2 : W9.cell? ⟨W1.heap.size, 2, none⟩ = some (.int .i64 v.i) := by simp [World.cell?, ev]
  have v3 : W9.cell? ⟨W1.heap.size, 3, none⟩ = some (.int .i64 v.b) := by simp [World.cell?, ev]
  have v4 : W9.cell? ⟨W1.heap.size, 4, none⟩ = some (.int .i64 v.he) := by simp [World.cell?, ev]
  have v5 : W9.cell? ⟨W1.heap.size, 5, none⟩ = some (.int .i64 v.hn) := by simp [World.cell?, ev]
  have HX29 := veil X29
  clear hW9 X9 y9 B9 b9 X29 ev r6 t6 q8 t8 b7 b6 k0 k1 k2 k3 kf hW7
  have hlr := (unveil HQO).rowR.len_eq
  have hll := (unveil HQO).rowL.len_eq
  go_upto_region 4 with (first
    | (refine q_loads _ rfl rfl rfl q29 ?_)
    | (go_at_call 14; refine (unveil HDq).mono ?_; rintro e Wa ⟨sa, ana, cha, era, xa, rfl, da, ⟨⟨pa, ia, oa, ja, ua, rfl, ra', ta, _, _, ma, na, wa, _, _⟩⟩, ba⟩; obtain ⟨rfl, rfl, rfl, rfl⟩ := DoZ.det hlr hll (unveil HD6) da; clear HDq da q29 v0 v1 v2 v3 v4 v5)
    | (refine q_alloc 10 rfl rfl rfl ?_; intro Wb zb bb; have hWb := zb.lt; have zzb := zb.next (below1 Wb (.cells #[.int .i64 0, .int .i64 0, .int .i64 0, .int .i64 0] 37)); have yb := ansBlock.new Wb 0 0 0 0; clear zb)
    | (refine q_store (ra := pa) (la := oa) (ws' := ua) _ _ rfl rfl rfl rfl zzb wa ?_; intro Wc qc tc; have yc := yb.turned tc (by omega); obtain ⟨k0, k1, k2, k3⟩ := yc.cells; have kf := yc.free; clear yb yc zzb))
  obtain ⟨Wd, hWd, Xd, yd, bd⟩ := dq_made an.c an.he an.no an.bd ra' ta ma na wa hWb bb qc tc
  rw [← hWd]
  have Bd := Below.next ba bd
  have X9d := (unveil HX9).next Bd
  have X5d := ((unveil HX5).next (unveil HB9)).next Bd
  have X2d := (unveil HX29).next Bd
  have y9d := (unveil HY9).next Bd
  obtain ⟨k0, k1, k2, k3⟩ := y9d.cells
  obtain ⟨l0, l1, l2, l3⟩ := yd.cells
  have hok : s6.rn + s6.ln ≤ 500 ∨ (s6.rn ≤ 9000000000000 ∧ s6.ln ≤ 9000000000000) := .inr (DoZ.size (unveil HD6) hsr hsl)
  have hs6 : s6.rn ≤ 9000000000000 ∧ s6.ln ≤ 9000000000000 := by omega
  have HS1 := veil (sameBx X9d Xd hs6.1 hs6.2)
  have q9d := X9d.q
  have qd := Xd.q
  have HX5d := veil X5d
  have HX2d := veil X2d
  have HBd := veil (Below.next (Below.next (Below.next (unveil HB2) (unveil HB5)) (unveil HB9)) Bd)
  clear hWd Xd yd bd Bd X9d X5d X2d y9d hok HX9 HY9 HX5 HX29 HX2 qc tc ra' ta
  go_wp2_with (first
    | (refine q_loads _ rfl rfl rfl q9d ?_)
    | (refine q_loads _ rfl rfl rfl qd ?_)
    | (go_at_call 15; refine (unveil HS1).mono ?_; rintro e We ⟨rfl, be⟩; have X5e := (unveil HX5d).next be; have X2e := (unveil HX2d).next be; have q5e := X5e.q; have q2e := X2e.q; have HS2 := veil (sameBx X5e X2e hsr hsl); have HBe := veil (Below.next (unveil HBd) be); clear HS1 q9d qd X5e X2e be k0 k1 k2 k3 l0 l1 l2 l3)
    | (refine q_loads _ rfl rfl rfl q5e ?_)
    | (refine q_loads _ rfl rfl rfl q2e ?_)
    | (go_at_call 15; refine (unveil HS2).mono ?_; rintro e Wf ⟨rfl, bf⟩; clear HS2))
  go_ret
  exact ⟨by first | rfl | simp, Below.next (unveil HBe) bf⟩
end Go.Proofs.Ytbhlpiomoookcaa
