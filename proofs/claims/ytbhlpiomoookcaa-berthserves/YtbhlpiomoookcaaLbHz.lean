/- The walk of berthshiftlaw.BerthServes. -/
import Derived.Test.YtbhlpiomoookcaaLbAz
import Derived.Test.YtbhlpiomoookcaaRbGz
namespace Go.Proofs.Ytbhlpiomoookcaa
open Go.RowKit

theorem ServeR.len {B B' : Bt} {v : Ev} {an : An} {ch : Bool} {er : Int} (h : ServeR B v B' an ch er) : B'.es.length ≤ B.es.length + 1 := by
  cases h <;> first | exact Nat.zero_le _ | exact Nat.le_succ _ | (simp [Bt.more])
set_option maxRecDepth 20000 in
set_option maxHeartbeats 8000000 in
theorem walk_BerthServes (w : World) (B : Bt) (a : Option Addr) (cap : Nat) (bi : BIn w B a cap) (z : cap * 48 ≤ 140737488351232) (xk xp xi xb xe xn : Int) (hvw0 : ∀ z ∈ [xk, xp, xi, xb, xe, xn], (Lit.int .i64 z).wf = true) :
    Calls Try.prog 6 #[bVal B.r B.e B.f B.t B.o a B.es.length cap, .agg #[.int .i64 xk, .int .i64 xp, .int .i64 xi, .int .i64 xb, .int .i64 xe, .int .i64 xn]] w fun r w' => r = .returned (.bool true) ∧ Below w.heap.size w w' := by
  have hcap := bi.cap
  have hs : B.es.length * 48 ≤ 140737488351232 := by omega
  have hm : B.es.length ≤ 3000000000000 := by omega
  obtain ⟨v, hv⟩ : ∃ v : Ev, v = ⟨xk, xp, xi, xb, xe, xn⟩ := ⟨_, rfl⟩
  obtain ⟨rfl, rfl, rfl, rfl, rfl, rfl⟩ : xk = v.k ∧ xp = v.p ∧ xi = v.i ∧ xb = v.b ∧ xe = v.he ∧ xn = v.hn := by subst hv; exact ⟨rfl, rfl, rfl, rfl, rfl, rfl⟩
  have hvw : ∀ u ∈ evCells v, (Lit.int .i64 u).wf = true := hvw0
  have HVW := veil hvw
  clear hv hvw0 hvw
  go_enter Try.func6, Try.ntmps6
  go_upto_region 1 with fail
  obtain ⟨W1, hW1, K1, e1⟩ : ∃ W, W = (w.alloc (.cells (bCells B.r B.e B.f B.t B.o a B.es.length cap) 49)).alloc (.cells #[.int .i64 v.k, .int .i64 v.p, .int .i64 v.i, .int .i64 v.b, .int .i64 v.he, .int .i64 v.hn] 33) ∧ Kb w W w.heap.size B a cap ∧ W.heap[w.heap.size + 1]? = some (.cells #[.int .i64 v.k, .int .i64 v.p, .int .i64 v.i, .int .i64 v.b, .int .i64 v.he, .int .i64 v.hn] 33 (0, 0)) := by
    obtain ⟨V, hV, K, _⟩ := Kb.new bi (Below.refl _ _) (Below.refl _ _)
    have hsz : V.heap.size = w.heap.size + 1 := by rw [hV]; simp
    have he := heap_alloc_new V (.cells #[.int .i64 v.k, .int .i64 v.p, .int .i64 v.i, .int .i64 v.b, .int .i64 v.he, .int .i64 v.hn] 33)
    rw [hsz] at he
    rw [← hV]
    exact ⟨_, rfl, K.next (below1 _ _), he⟩
  rw [← hW1]
  clear hW1
  obtain ⟨x0, x1, x2, x3, x4, x5⟩ := K1.b.cells
  have HBs := veil (berths_any B a cap W1 K1.i hs)
  have HKx := veil K1
  have HE := veil e1
  clear K1 e1
  go_upto_region 2 with (go_at_call 21; refine (unveil HBs).mono ?_; rintro x W2 ⟨y, rfl, ⟨a2, c2, rfl, i2, f2⟩, b2⟩; have K2 := (unveil HKx).next b2; have e2 := (b2.block _ (block_lt (unveil HE))).trans (unveil HE); clear HBs HKx HE x0 x1 x2 x3 x4 x5; have HKx := veil K2; have HE := veil e2; have HI2 := veil i2; clear K2 i2 b2 f2 e2)
  obtain ⟨W3, hW3, K3, b3⟩ := Kb.new (w := w) (unveil HI2) (unveil HKx).bel (Below.refl _ _)
  rw [← hW3]
  clear hW3
  have Kx3 := (unveil HKx).next b3
  have e3 := (b3.block _ (block_lt (unveil HE))).trans (unveil HE)
  clear HKx HI2 b3 HE
  have HKx := veil Kx3
  have HE := veil e3
  obtain ⟨g0, g1, g2, g3, g4, g5⟩ := K3.b.cells
  have v0 : W3.cell? ⟨w.heap.size + 1, 0, none⟩ = some (.int .i64 v.k) := by simp [World.cell?, unveil HE]
  have v1 : W3.cell? ⟨w.heap.size + 1, 1, none⟩ = some (.int .i64 v.p) := by simp [World.cell?, unveil HE]
  have v2 : W3.cell? ⟨w.heap.size + 1, 2, none⟩ = some (.int .i64 v.i) := by simp [World.cell?, unveil HE]
  have v3 : W3.cell? ⟨w.heap.size + 1, 3, none⟩ = some (.int .i64 v.b) := by simp [World.cell?, unveil HE]
  have v4 : W3.cell? ⟨w.heap.size + 1, 4, none⟩ = some (.int .i64 v.he) := by simp [World.cell?, unveil HE]
  have v5 : W3.cell? ⟨w.heap.size + 1, 5, none⟩ = some (.int .i64 v.hn) := by simp [World.cell?, unveil HE]
  have HF := veil (serve_any B a2 c2 v W3 K3.i (unveil HVW))
  have HKc := veil K3
  clear K3 Kx3 e3
  go_upto_region 3 with (go_at_call 23; refine (unveil HF).mono ?_; rintro x W4 ⟨y, an, ch, er, B', rfl, sv, ⟨a4, c4, rfl, i4, f4⟩, b4⟩; have HSV := veil sv; have HI4 := veil i4; have Kx4 := (unveil HKx).next b4; have Kc4 := (unveil HKc).next b4; have e4 := (b4.block _ (block_lt (unveil HE))).trans (unveil HE); clear HF HKx HKc HE g0 g1 g2 g3 g4 g5 v0 v1 v2 v3 v4 v5 sv i4 f4 b4; have HKx := veil Kx4; have HKc := veil Kc4; have HE := veil e4; clear Kx4 Kc4 e4)
  obtain ⟨W5, hW5, K5, y5, b5⟩ := Kb.new2 (w := w) an.c an.he an.no an.bd (unveil HI4) (unveil HKx).bel (Below.refl _ _)
  rw [← hW5]
  clear hW5
  have Kx5 := (unveil HKx).next b5
  have Kc5 := (unveil HKc).next b5
  have e5 := (b5.block _ (block_lt (unveil HE))).trans (unveil HE)
  clear HKx HKc HE HI4 b5
  have HKx := veil Kx5
  have HKc := veil Kc5
  have HKa := veil K5
  have HYa := veil y5
  have HE := veil e5
  obtain ⟨x0, x1, x2, x3, x4, x5⟩ := Kx5.b.cells
  have v0 : W5.cell? ⟨w.heap.size + 1, 0, none⟩ = some (.int .i64 v.k) := by simp [World.cell?, unveil HE]
  have v1 : W5.cell? ⟨w.heap.size + 1, 1, none⟩ = some (.int .i64 v.p) := by simp [World.cell?, unveil HE]
  have v2 : W5.cell? ⟨w.heap.size + 1, 2, none⟩ = some (.int .i64 v.i) := by simp [World.cell?, unveil HE]
  have v3 : W5.cell? ⟨w.heap.size + 1, 3, none⟩ = some (.int .i64 v.b) := by simp [World.cell?, unveil HE]
  have v4 : W5.cell? ⟨w.heap.size + 1, 4, none⟩ = some (.int .i64 v.he) := by simp [World.cell?, unveil HE]
  have v5 : W5.cell? ⟨w.heap.size + 1, 5, none⟩ = some (.int .i64 v.hn) := by simp [World.cell?, unveil HE]
  have HD := veil (servedBy_any B a cap v W5 Kx5.i (unveil HVW) hs)
  clear Kx5 Kc5 K5 y5 e5
  go_upto_region 4 with (go_at_call 24; refine (unveil HD).mono ?_; rintro x W6 ⟨y, an', ch', er', B'', rfl, sv, ⟨a6, c6, rfl, i6, f6⟩, b6⟩; obtain ⟨rfl, rfl, rfl, rfl⟩ := ServeR.det (unveil HSV) sv; have HI6 := veil i6; have Kx6 := (unveil HKx).next b6; have Kc6 := (unveil HKc).next b6; have Ka6 := (unveil HKa).next b6; have ya6 := (unveil HYa).next b6; clear HD HKx HKc HKa HYa HE x0 x1 x2 x3 x4 x5 v0 v1 v2 v3 v4 v5 sv i6 f6 b6; have HKx := veil Kx6; have HKc := veil Kc6; have HKa := veil Ka6; have HYa := veil ya6; clear Kx6 Kc6 Ka6 ya6)
  have hm' : B'.es.length ≤ 3000000000000 := by
    have := (unveil HSV).len
    omega
  obtain ⟨W7, hW7, K7, y7, b7⟩ := Kb.new2 (w := w) an.c an.he an.no an.bd (unveil HI6) (unveil HKx).bel (Below.refl _ _)
  rw [← hW7]
  clear hW7
  have Kx7 := (unveil HKx).next b7
  have Kc7 := (unveil HKc).next b7
  have Ka7 := (unveil HKa).next b7
  have ya7 := (unveil HYa).next b7
  obtain ⟨p0, p1, p2, p3, p4, p5⟩ := Ka7.b.cells
  obtain ⟨q0, q1, q2, q3, q4, q5⟩ := K7.b.cells
  obtain ⟨k0, k1, k2, k3⟩ := ya7.cells
  obtain ⟨l0, l1, l2, l3⟩ := y7.cells
  have HS1 := veil (sameKb Ka7 K7 hm')
  have HKx := veil Kx7
  have HKc := veil Kc7
  clear Ka7 K7 Kx7 Kc7 ya7 y7 b7
  go_wp2_with (first
    | (go_at_call 25; refine (unveil HS1).mono ?_; rintro x W8 ⟨rfl, b8⟩; clear HS1 p0 p1 p2 p3 p4 p5 q0 q1 q2 q3 q4 q5 k0 k1 k2 k3 l0 l1 l2 l3; have Kc8 := (unveil HKc).next b8; have Kx8 := (unveil HKx).next b8; obtain ⟨p0, p1, p2, p3, p4, p5⟩ := Kc8.b.cells; obtain ⟨q0, q1, q2, q3, q4, q5⟩ := Kx8.b.cells; have HS2 := veil (sameKb Kc8 Kx8 hm); have HB8 := veil Kx8.bel; clear Kc8 Kx8 b8)
    | (go_at_call 25; refine (unveil HS2).mono ?_; rintro x W9 ⟨rfl, b9⟩; clear HS2))
  go_ret
  exact ⟨by first | rfl | simp, Below.next (unveil HB8) b9⟩
end Go.Proofs.Ytbhlpiomoookcaa
