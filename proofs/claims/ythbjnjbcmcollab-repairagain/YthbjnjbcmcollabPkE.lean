/- Walks of berthshiftref.EventFault at the other kinds: it answers the plain function eventFault. -/
import Derived.Test.YthbjnjbcmcollabPkD
namespace Go.Proofs.Ythbjnjbcmcollab
open Go.RowKit

end Go.Proofs.Ythbjnjbcmcollab
