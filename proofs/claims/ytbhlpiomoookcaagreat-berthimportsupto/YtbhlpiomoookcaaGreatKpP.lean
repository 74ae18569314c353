/- Walks of berthshiftkeep.picked: a number from nought on, below a bound. -/
import Derived.Test.YtbhlpiomoookcaaGreatBase
import Derived.Test.YtbhlpiomoookcaaGreatProg
namespace Go.Proofs.YtbhlpiomoookcaaGreat
open Go.RowKit

def pickedOf (n m : Int) : Int := (if n < 0 then -(n + 1) else n) % m
theorem pickedOf_range (n m : Int) (h : 0 < m) : 0 ≤ pickedOf n m ∧ pickedOf n m < m := by
  unfold pickedOf
  exact ⟨Int.emod_nonneg _ (by omega), Int.emod_lt_of_pos _ h⟩

end Go.Proofs.YtbhlpiomoookcaaGreat
