/- Walks of berthshiftref.EventFault at the kinds without fields, and at what is no kind. -/
import Derived.Test.YtooanomcbenmeabPkD
namespace Go.Proofs.Ytooanomcbenmeab
open Go.RowKit

end Go.Proofs.Ytooanomcbenmeab
