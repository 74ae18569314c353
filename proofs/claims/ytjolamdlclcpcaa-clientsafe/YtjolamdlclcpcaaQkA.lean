/- The walk of berthshiftkeep.event: an event that may be. -/
import Derived.Test.YtjolamdlclcpcaaKpP
import Derived.Test.YtjolamdlclcpcaaQvD
import Derived.Deep.RegionHeld3
namespace Go.Proofs.Ytjolamdlclcpcaa
open Go.RowKit

/-- the event of raw numbers. -/
def evNums (k a b c : Int) : List Int :=
  if pickedOf k 8 < 3 then [1, pickedOf a 2, pickedOf b 24, pickedOf c 1000, 0, 0]
  else if pickedOf k 8 < 5 then [2, 0, 0, 0, 0, 0]
  else if pickedOf k 8 < 7 then [3, 0, 0, 0, pickedOf a 3, pickedOf b 6]
  else [4, 0, 0, 0, 0, 0]

/-- the event of a deed. -/
def deedEv (k a b c : Int) : Ev :=
  if pickedOf k 8 < 3 then ⟨1, pickedOf a 2, pickedOf b 24, pickedOf c 1000, 0, 0⟩
  else if pickedOf k 8 < 5 then ⟨2, 0, 0, 0, 0, 0⟩
  else if pickedOf k 8 < 7 then ⟨3, 0, 0, 0, pickedOf a 3, pickedOf b 6⟩
  else ⟨4, 0, 0, 0, 0, 0⟩
theorem evNums_eq (k a b c : Int) : Value.agg ((evNums k a b c).map (Value.int .i64)).toArray = evIn (deedEv k a b c) := by
  unfold evNums deedEv
  repeat' split
  all_goals rfl
/-- an event as deeds make them. -/
structure DeedLike (v : Ev) : Prop where
  ok : v.Ok
  p : 0 ≤ v.p ∧ v.p < 2
  i : 0 ≤ v.i ∧ v.i < 24
theorem deedEv_like (k a b c : Int) : DeedLike (deedEv k a b c) := by
  have h1 := pickedOf_range a 2 (by omega)
  have h2 := pickedOf_range b 24 (by omega)
  have h3 := pickedOf_range c 1000 (by omega)
  have h4 := pickedOf_range a 3 (by omega)
  have h5 := pickedOf_range b 6 (by omega)
  unfold deedEv
  repeat' split
  all_goals (refine ⟨?_, ?_, ?_⟩ <;> simp only [Ev.Ok, eventFault] <;> first | omega | (split <;> omega) | simp)
  all_goals (repeat' split)
  all_goals first | omega | rfl | simp_all
end Go.Proofs.Ytjolamdlclcpcaa
