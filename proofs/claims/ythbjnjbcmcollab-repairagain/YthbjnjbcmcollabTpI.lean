/- The walk of the document's answer's Written. -/
import Derived.Test.YthbjnjbcmcollabTpH
namespace Go.Proofs.Ythbjnjbcmcollab
open Go.RowKit

end Go.Proofs.Ythbjnjbcmcollab
