/- The walk of berthshiftlaw.BerthChecks. -/
import Derived.Test.YtbhlpiomoookcaaLbAz
import Derived.Test.YtbhlpiomoookcaaRbAz
namespace Go.Proofs.Ytbhlpiomoookcaa
open Go.RowKit

set_option maxRecDepth 20000 in
set_option maxHeartbeats 4000000 in
theorem walk_BerthChecks (w : World) (B : Bt) (a : Option Addr) (cap : Nat) (bi : BIn w B a cap) (z : cap * 48 ≤ 140737488351232) : Calls Try.prog 5 #[bVal B.r B.e B.f B.t B.o a B.es.length cap] w fun r w' => r = .returned (.bool true) ∧ Below w.heap.size w w' := by
  have hcap := bi.cap
  have hs : B.es.length * 48 ≤ 140737488351232 := by omega
  have HC : ∃ er : Int, Hid (∀ a c w, BIn w B a c → Calls Try.prog 20 #[bVal B.r B.e B.f B.t B.o a B.es.length c] w fun x w' => x = .returned (.int .i64 er) ∧ Below w.heap.size w w') ∧ Hid (∀ a c w, BIn w B a c → Calls Try.prog 22 #[bVal B.r B.e B.f B.t B.o a B.es.length c] w fun x w' => x = .returned (.int .i64 er) ∧ Below w.heap.size w w') := by
    by_cases ok : B.Ok
    · exact ⟨0, veil fun a c w hb => bcheck_yes B a c w hb ok, veil fun a c w hb => faultB_yes B a c w hb ok⟩
    · exact ⟨6, veil fun a c w hb => bcheck_no B a c w hb ok, veil fun a c w hb => faultB_no B a c w hb ok⟩
  obtain ⟨er, HC1, HC2⟩ := HC
  go_enter Try.func5, Try.ntmps5
  go_upto_region 1 with fail
  obtain ⟨W1, hW1, K1, _⟩ := Kb.new bi (Below.refl _ _) (Below.refl _ _)
  rw [← hW1]
  clear hW1
  obtain ⟨x0, x1, x2, x3, x4, x5⟩ := K1.b.cells
  have HBs := veil (berths_any B a cap W1 K1.i hs)
  have HKx := veil K1
  clear K1
  go_wp2_with (first
    | (go_at_call 21; refine (unveil HBs).mono ?_; rintro x W2 ⟨y, rfl, ⟨a2, c2, rfl, i2, f2⟩, b2⟩; have HF := veil (unveil HC1 a2 c2 W2 i2); have K2 := (unveil HKx).next b2; clear HBs HKx HC1 x0 x1 x2 x3 x4 x5 i2 f2 b2; have HKx := veil K2; clear K2)
    | (go_at_call 20; refine (unveil HF).mono ?_; rintro x W3 ⟨rfl, b3⟩; have K3 := (unveil HKx).next b3; obtain ⟨x0, x1, x2, x3, x4, x5⟩ := K3.b.cells; have HD := veil (unveil HC2 a cap W3 K3.i); have HB3 := veil K3.bel; clear HF HKx HC2 K3 b3)
    | (go_at_call 22; refine (unveil HD).mono ?_; rintro x W4 ⟨rfl, b4⟩; clear HD))
  go_ret
  exact ⟨by first | rfl | simp, Below.next (unveil HB3) b4⟩
end Go.Proofs.Ytbhlpiomoookcaa
