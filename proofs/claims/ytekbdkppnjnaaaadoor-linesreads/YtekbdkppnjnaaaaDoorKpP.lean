/- Walks of berthshiftkeep.picked: a number from nought on, below a bound. -/
import Derived.Test.YtekbdkppnjnaaaaDoorBase
import Derived.Test.YtekbdkppnjnaaaaDoorProg
namespace Go.Proofs.YtekbdkppnjnaaaaDoor
open Go.RowKit

def pickedOf (n m : Int) : Int := (if n < 0 then -(n + 1) else n) % m
theorem pickedOf_range (n m : Int) (h : 0 < m) : 0 ≤ pickedOf n m ∧ pickedOf n m < m := by
  unfold pickedOf
  exact ⟨Int.emod_nonneg _ (by omega), Int.emod_lt_of_pos _ h⟩

theorem picked_any (n m : Int) (w : World) (hn : (Lit.int .i64 n).wf = true) (hm : 0 < m) (hm2 : m ≤ 4294967296) :
    Calls Tryd.prog 21 #[.int .i64 n, .int .i64 m] w fun e w' => e = .returned (.int .i64 (pickedOf n m)) ∧ w = w' := by
  have hb := bounds_i64 hn
  clear hn
  obtain ⟨hb1, hb2⟩ := hb
  by_cases h : n < 0
  · have e1 : pickedOf n m = (-(n + 1)) % m := by unfold pickedOf; rw [if_pos h]
    rw [e1]
    clear e1
    have hm0 : ¬ m = 0 := by omega
    go_enter Tryd.func21, Tryd.ntmps21
    go_wp2
    go_ret
    refine ⟨congrArg (fun z => Ending.returned (.int .i64 z)) ?_, rfl⟩
    rw [← Int.neg_tmod, Int.tmod_eq_emod_of_nonneg (by omega)]
  · have e1 : pickedOf n m = n % m := by unfold pickedOf; rw [if_neg h]
    rw [e1]
    clear e1
    have hm0 : ¬ m = 0 := by omega
    go_enter Tryd.func21, Tryd.ntmps21
    go_wp2
    go_ret
    exact ⟨rfl, rfl⟩
end Go.Proofs.YtekbdkppnjnaaaaDoor
