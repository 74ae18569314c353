/- Walks of berthshiftref.EventFault at the kinds without fields, and at what is no kind. -/
import Derived.Test.YthbjnjbcmcollabPkD
namespace Go.Proofs.Ythbjnjbcmcollab
open Go.RowKit

end Go.Proofs.Ythbjnjbcmcollab
