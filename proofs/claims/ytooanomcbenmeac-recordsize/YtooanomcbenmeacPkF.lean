/- Walks of berthshiftref.EventFault at the kinds without fields, and at what is no kind. -/
import Derived.Test.YtooanomcbenmeacPkD
namespace Go.Proofs.Ytooanomcbenmeac
open Go.RowKit

end Go.Proofs.Ytooanomcbenmeac
