/- Both: records of raw numbers, and what their bytes are decoded to. -/
import Derived.Test.YthbjnjbcmcollabKpE
import Derived.Test.YthbjnjbcmcollabPlB
namespace Go.Proofs.Ythbjnjbcmcollab
end Go.Proofs.Ythbjnjbcmcollab
