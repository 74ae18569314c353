/- The walk of berthshiftlaw.BerthForgets. -/
import Derived.Test.YtbhlpiomoookcaaLbAz
import Derived.Test.YtbhlpiomoookcaaBeAll
import Derived.Test.YtbhlpiomoookcaaRbCz
namespace Go.Proofs.Ytbhlpiomoookcaa
open Go.RowKit
set_option maxRecDepth 20000 in
set_option maxHeartbeats 4000000 in
theorem walk_BerthForgets (w : World) (B : Bt) (a : Option Addr) (cap : Nat) (bi : BIn w B a cap) (z : cap * 48 ≤ 140737488351232) (ep : Int) (_ : (Lit.int .i64 ep).wf = true) : Calls Try.prog 10 #[bVal B.r B.e B.f B.t B.o a B.es.length cap, .int .i64 ep] w fun r w' => r = .returned (.bool true) ∧ Below w.heap.size w w' := by
  have hcap := bi.cap
  have hs : B.es.length * 48 ≤ 140737488351232 := by omega
  have hm : B.es.length ≤ 3000000000000 := by omega
  go_enter Try.func10, Try.ntmps10
  go_upto_region 1 with fail
  obtain ⟨W1, hW1, K1, _⟩ := Kb.new bi (Below.refl _ _) (Below.refl _ _)
  rw [← hW1]
  clear hW1
  obtain ⟨x0, x1, x2, x3, x4, x5⟩ := K1.b.cells
  have HBs := veil (berths_any B a cap W1 K1.i hs)
  have HKx := veil K1
  clear K1
  go_upto_region 2 with (first
    | (go_at_call 21; refine (unveil HBs).mono ?_; rintro x W2 ⟨y, rfl, ⟨a2, c2, rfl, i2, f2⟩, b2⟩; have K2 := (unveil HKx).next b2; clear HBs HKx x0 x1 x2 x3 x4 x5; have HKx := veil K2; have HI2 := veil i2; clear K2 i2 b2 f2; have HF := veil (bforget_any B a2 c2 ep W2 (unveil HI2)))
    | (go_at_call 32; refine (unveil HF).mono ?_; rintro x W4 ⟨y, B', er, rfl, hof, ⟨a4, c4, rfl, i4, f4⟩, b4⟩; have HOF := veil hof; have HI4 := veil i4; have Kx4 := (unveil HKx).next b4; clear HF HKx hof i4 f4 b4; have HKx := veil Kx4; clear Kx4))
  obtain ⟨W5, hW5, K5, b5⟩ := Kb.new (w := w) (unveil HI4) (unveil HKx).bel (Below.refl _ _)
  rw [← hW5]
  clear hW5
  have Kx5 := (unveil HKx).next b5
  clear HKx HI4 b5
  obtain ⟨x0, x1, x2, x3, x4, x5⟩ := Kx5.b.cells
  have HD := veil (bforgotten_any B a cap ep W5 Kx5.i)
  have HKx := veil Kx5
  have HKa := veil K5
  clear Kx5 K5
  go_upto_region 3 with (go_at_call 33; refine (unveil HD).mono ?_; rintro x W6 ⟨y, B'', er', rfl, hof, ⟨a6, c6, rfl, i6, f6⟩, b6⟩; obtain ⟨rfl, rfl⟩ := Prod.mk.inj ((unveil HOF).symm.trans hof); have HI6 := veil i6; have Kx6 := (unveil HKx).next b6; have Ka6 := (unveil HKa).next b6; clear HD HKx HKa x0 x1 x2 x3 x4 x5 hof i6 f6 b6; have HKx := veil Kx6; have HKa := veil Ka6; clear Kx6 Ka6)
  have hm' : B'.es.length ≤ 3000000000000 := by
    have h := unveil HOF
    unfold forgetOf at h
    repeat' split at h
    all_goals (cases h; first | exact hm | exact Nat.zero_le _)
  obtain ⟨W7, hW7, K7, b7⟩ := Kb.new (w := w) (unveil HI6) (unveil HKx).bel (Below.refl _ _)
  rw [← hW7]
  clear hW7
  have Kx7 := (unveil HKx).next b7
  have Ka7 := (unveil HKa).next b7
  obtain ⟨p0, p1, p2, p3, p4, p5⟩ := Ka7.b.cells
  obtain ⟨q0, q1, q2, q3, q4, q5⟩ := K7.b.cells
  have HS1 := veil (sameKb Ka7 K7 hm')
  have HKx := veil Kx7
  clear Ka7 K7 Kx7 b7
  go_wp2_with (first | (go_at_call 25; refine (unveil HS1).mono ?_; rintro x W8 ⟨rfl, b8⟩; clear HS1 p0 p1 p2 p3 p4 p5 q0 q1 q2 q3 q4 q5; have HB8 := veil (Below.next (unveil HKx).bel b8); clear b8))
  go_ret
  exact ⟨by first | rfl | simp, unveil HB8⟩
end Go.Proofs.Ytbhlpiomoookcaa
