/- The walk of berthshiftlaw.BerthBegins. -/
import Derived.Test.YtbhlpiomoookcaaGreatLbAz
import Derived.Test.YtbhlpiomoookcaaGreatBeAll
import Derived.Test.YtbhlpiomoookcaaGreatRbHz
namespace Go.Proofs.YtbhlpiomoookcaaGreat
open Go.RowKit
set_option maxRecDepth 20000 in
set_option maxHeartbeats 4000000 in
theorem walk_BerthBegins (w : World) (B : Bt) (a : Option Addr) (cap : Nat) (bi : BIn w B a cap) (z : cap * 48 ≤ 140737488351232) (ep : Int) (_ : (Lit.int .i64 ep).wf = true) (fr : Int) (_ : (Lit.int .i64 fr).wf = true) : Calls Tryz.prog 4 #[bVal B.r B.e B.f B.t B.o a B.es.length cap, .int .i64 ep, .int .i64 fr] w fun r w' => r = .returned (.bool true) ∧ Below w.heap.size w w' := by
  have hcap := bi.cap
  have hs : B.es.length * 48 ≤ 140737488351232 := by omega
  have hm : B.es.length ≤ 3000000000000 := by omega
  go_enter Tryz.func4, Tryz.ntmps4
  go_upto_region 1 with fail
  obtain ⟨W1, hW1, K1, _⟩ := Kb.new bi (Below.refl _ _) (Below.refl _ _)
  rw [← hW1]
  clear hW1
  obtain ⟨x0, x1, x2, x3, x4, x5⟩ := K1.b.cells
  have HBs := veil (berths_any B a cap W1 K1.i hs)
  have HKx := veil K1
  clear K1
  go_upto_region 2 with (go_at_call 6; refine (unveil HBs).mono ?_; rintro x W2 ⟨y, rfl, ⟨a2, c2, rfl, i2, f2⟩, b2⟩; have K2 := (unveil HKx).next b2; clear HBs HKx x0 x1 x2 x3 x4 x5; have HKx := veil K2; have HI2 := veil i2; clear K2 i2 b2 f2)
  obtain ⟨W3, hW3, K3, b3⟩ := Kb.new (w := w) (unveil HI2) (unveil HKx).bel (Below.refl _ _)
  rw [← hW3]
  clear hW3
  have Kx3 := (unveil HKx).next b3
  clear HKx HI2 b3
  have HKx := veil Kx3
  obtain ⟨g0, g1, g2, g3, g4, g5⟩ := K3.b.cells
  have HF := veil (bbegin_any B a2 c2 ep fr W3 K3.i)
  have HKc := veil K3
  clear K3 Kx3
  go_upto_region 3 with (go_at_call 10; refine (unveil HF).mono ?_; rintro x W4 ⟨y, B', er, rfl, hof, ⟨a4, c4, rfl, i4, f4⟩, b4⟩; have HOF := veil hof; have HI4 := veil i4; have Kx4 := (unveil HKx).next b4; have Kc4 := (unveil HKc).next b4; clear HF HKx HKc g0 g1 g2 g3 g4 g5 hof i4 f4 b4; have HKx := veil Kx4; have HKc := veil Kc4; clear Kx4 Kc4)
  obtain ⟨W5, hW5, K5, b5⟩ := Kb.new (w := w) (unveil HI4) (unveil HKx).bel (Below.refl _ _)
  rw [← hW5]
  clear hW5
  have Kx5 := (unveil HKx).next b5
  have Kc5 := (unveil HKc).next b5
  clear HKx HI4 HKc b5
  obtain ⟨x0, x1, x2, x3, x4, x5⟩ := Kx5.b.cells
  have HD := veil (bbegun_any B a cap ep fr W5 Kx5.i hs)
  have HKx := veil Kx5
  have HKa := veil K5
  have HKc := veil Kc5
  clear Kx5 K5 Kc5
  go_upto_region 4 with (go_at_call 11; refine (unveil HD).mono ?_; rintro x W6 ⟨y, B'', er', rfl, hof, ⟨a6, c6, rfl, i6, f6⟩, b6⟩; obtain ⟨rfl, rfl⟩ := Prod.mk.inj ((unveil HOF).symm.trans hof); have HI6 := veil i6; have Kx6 := (unveil HKx).next b6; have Ka6 := (unveil HKa).next b6; have Kc6 := (unveil HKc).next b6; clear HD HKx HKa x0 x1 x2 x3 x4 x5 hof i6 f6 b6 HKc; have HKx := veil Kx6; have HKa := veil Ka6; have HKc := veil Kc6; clear Kx6 Ka6 Kc6)
  have hm' : B'.es.length ≤ 3000000000000 := by
    have h := unveil HOF
    unfold beginOf at h
    repeat' split at h
    all_goals (cases h; first | exact hm | exact Nat.zero_le _)
  obtain ⟨W7, hW7, K7, b7⟩ := Kb.new (w := w) (unveil HI6) (unveil HKx).bel (Below.refl _ _)
  rw [← hW7]
  clear hW7
  have Kx7 := (unveil HKx).next b7
  have Ka7 := (unveil HKa).next b7
  have Kc7 := (unveil HKc).next b7
  obtain ⟨p0, p1, p2, p3, p4, p5⟩ := Ka7.b.cells
  obtain ⟨q0, q1, q2, q3, q4, q5⟩ := K7.b.cells
  have HS1 := veil (sameKb Ka7 K7 hm')
  have HKx := veil Kx7
  have HKc := veil Kc7
  clear Ka7 K7 Kx7 b7 Kc7
  go_wp2_with (first | (go_at_call 9; refine (unveil HS1).mono ?_; rintro x W8 ⟨rfl, b8⟩; clear HS1 p0 p1 p2 p3 p4 p5 q0 q1 q2 q3 q4 q5; have Kc8 := (unveil HKc).next b8; have Kx8 := (unveil HKx).next b8; obtain ⟨p0, p1, p2, p3, p4, p5⟩ := Kc8.b.cells; obtain ⟨q0, q1, q2, q3, q4, q5⟩ := Kx8.b.cells; have HS2 := veil (sameKb Kc8 Kx8 hm); have HB8 := veil Kx8.bel; clear Kc8 Kx8 b8) | (go_at_call 9; refine (unveil HS2).mono ?_; rintro x W9 ⟨rfl, b9⟩; clear HS2))
  go_ret
  exact ⟨by first | rfl | simp, Below.next (unveil HB8) b9⟩
end Go.Proofs.YtbhlpiomoookcaaGreat
