/- A deed, and a slice of deeds, that came in: their cells are integers (without the packing). -/
import Derived.Test.YtjolamdlclcpcaaPkO
import Derived.Deep.Slices
namespace Go.Proofs.Ytjolamdlclcpcaa
open Go.ChangeShapes Go.WideShapes Go.ChangeAt Go.RowKit

section
variable {H : Type} {enc : TypeId × Value → H} {W : World}

/-- the number that a cell holds. -/
def numAtCell (w : World) (a : Addr) : Int := match w.cell? a with
  | some (.int .i64 z) => z
  | _ => 0

end
end Go.Proofs.Ytjolamdlclcpcaa
