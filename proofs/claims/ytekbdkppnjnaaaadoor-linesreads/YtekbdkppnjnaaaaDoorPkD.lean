/- Walks of berthshiftref.EventFault: it answers the plain function eventFault. -/
import Derived.Test.YtekbdkppnjnaaaaDoorPkC
namespace Go.Proofs.YtekbdkppnjnaaaaDoor
open Go.RowKit

theorem tri (x m : Int) : x < 0 ∨ (¬ x ≤ m ∧ 0 ≤ x) ∨ (0 ≤ x ∧ x ≤ m) := by omega
theorem ne_true {x : Int} (h : ¬ x = 0) : (x != 0) = true := by simpa using h
theorem ne_false {x : Int} (h : x = 0) : (x != 0) = false := by simpa using h

end Go.Proofs.YtekbdkppnjnaaaaDoor
