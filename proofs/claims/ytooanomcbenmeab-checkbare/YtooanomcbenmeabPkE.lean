/- Walks of berthshiftref.EventFault at the other kinds: it answers the plain function eventFault. -/
import Derived.Test.YtooanomcbenmeabPkD
namespace Go.Proofs.Ytooanomcbenmeab
open Go.RowKit

end Go.Proofs.Ytooanomcbenmeab
