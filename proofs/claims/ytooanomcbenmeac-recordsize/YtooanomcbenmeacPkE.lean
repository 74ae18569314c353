/- Walks of berthshiftref.EventFault at the other kinds: it answers the plain function eventFault. -/
import Derived.Test.YtooanomcbenmeacPkD
namespace Go.Proofs.Ytooanomcbenmeac
open Go.RowKit

end Go.Proofs.Ytooanomcbenmeac
