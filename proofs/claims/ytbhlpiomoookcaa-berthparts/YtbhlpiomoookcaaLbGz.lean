/- The walk of berthshiftlaw.BerthParts. -/
import Derived.Test.YtbhlpiomoookcaaLbAz
import Derived.Test.YtbhlpiomoookcaaRbFz
namespace Go.Proofs.Ytbhlpiomoookcaa
open Go.RowKit

set_option maxRecDepth 20000 in
set_option maxHeartbeats 4000000 in
theorem walk_BerthParts (w : World) (B : Bt) (a : Option Addr) (cap : Nat) (bi : BIn w B a cap) (z : cap * 48 ≤ 140737488351232) (hv : Int) (_ : (Lit.int .i64 hv).wf = true) : Calls Try.prog 9 #[bVal B.r B.e B.f B.t B.o a B.es.length cap, .int .i64 hv] w fun r w' => r = .returned (.bool true) ∧ Below w.heap.size w w' := by
  have hcap := bi.cap
  have hs : B.es.length * 48 ≤ 140737488351232 := by omega
  have hm : B.es.length ≤ 3000000000000 := by omega
  go_enter Try.func9, Try.ntmps9
  go_upto_region 1 with fail
  obtain ⟨W1, hW1, K1, _⟩ := Kb.new bi (Below.refl _ _) (Below.refl _ _)
  rw [← hW1]
  clear hW1
  obtain ⟨x0, x1, x2, x3, x4, x5⟩ := K1.b.cells
  have HBs := veil (berths_any B a cap W1 K1.i hs)
  have HKx := veil K1
  clear K1
  go_upto_region 2 with (go_at_call 21; refine (unveil HBs).mono ?_; rintro x W2 ⟨y, rfl, ⟨a2, c2, rfl, i2, f2⟩, b2⟩; have K2 := (unveil HKx).next b2; clear HBs HKx x0 x1 x2 x3 x4 x5; have HKx := veil K2; have HI2 := veil i2; clear K2 i2 b2 f2)
  obtain ⟨W3, hW3, K3, b3⟩ := Kb.new (w := w) (unveil HI2) (unveil HKx).bel (Below.refl _ _)
  rw [← hW3]
  clear hW3
  have Kx3 := (unveil HKx).next b3
  clear HKx HI2 b3
  have HKx := veil Kx3
  obtain ⟨c0, c1, c2', c3, c4, c5⟩ := K3.b.cells
  have HF := veil (bpart_any B a2 c2 hv W3 K3.i)
  have HKc := veil K3
  clear K3 Kx3
  go_upto_region 3 with (go_at_call 30; refine (unveil HF).mono ?_; rintro x W4 ⟨p4, q4, n4, l4, lt4, er4, rfl, hn4, hof4, po4, b4⟩; have HOF := veil hof4; have Kx4 := (unveil HKx).next b4; have Kc4 := (unveil HKc).next b4; have HP4 := veil po4; clear HF HKx HKc c0 c1 c2' c3 c4 c5 hof4 po4 b4; obtain ⟨x0, x1, x2, x3, x4, x5⟩ := Kx4.b.cells; have HD := veil (bpartOf_any B a cap hv W4 Kx4.i); have HKx := veil Kx4; have HKc := veil Kc4; clear Kx4 Kc4)
  go_upto_region 4 with (go_at_call 31; refine (unveil HD).mono ?_; rintro x W5 ⟨p5, q5, n5, l5, lt5, er5, rfl, hn5, hof5, po5, b5⟩; obtain ⟨rfl, hpr⟩ := Prod.mk.inj ((unveil HOF).symm.trans hof5); obtain ⟨rfl, rfl⟩ := Prod.mk.inj hpr; have Kx5 := (unveil HKx).next b5; have Kc5 := (unveil HKc).next b5; have HR4 := veil ((unveil HP4).row.below b5); have HR5 := veil po5.row; clear HD HKx HKc x0 x1 x2 x3 x4 x5 hof5 po5 b5 hpr; have HKx := veil Kx5; have HKc := veil Kc5; clear Kx5 Kc5)
  subst hn4
  subst hn5
  have hl4 : l4.length ≤ 3000000000000 := by
    have h := unveil HOF
    unfold partOf at h
    split at h
    · cases h; exact Nat.zero_le _
    · cases h; rw [List.length_take]; omega
  have HS1 := veil (sameEventsL_below p4 p5 l4.length q4 q5 (evFlat l4) W5 (unveil HR4) (unveil HR5) hl4)
  go_wp2_with (first
    | (go_at_call 19; refine (unveil HS1).mono ?_; rintro x W8 ⟨rfl, b8⟩; clear HS1; have Kc8 := (unveil HKc).next b8; have Kx8 := (unveil HKx).next b8; obtain ⟨u0, u1, u2, u3, u4, u5⟩ := Kc8.b.cells; obtain ⟨v0, v1, v2, v3, v4, v5⟩ := Kx8.b.cells; have HS2 := veil (sameKb Kc8 Kx8 hm); have HB8 := veil Kx8.bel; clear Kc8 Kx8 b8)
    | (go_at_call 25; refine (unveil HS2).mono ?_; rintro x W9 ⟨rfl, b9⟩; clear HS2))
  go_ret
  exact ⟨by first | rfl | simp, Below.next (unveil HB8) b9⟩
end Go.Proofs.Ytbhlpiomoookcaa
