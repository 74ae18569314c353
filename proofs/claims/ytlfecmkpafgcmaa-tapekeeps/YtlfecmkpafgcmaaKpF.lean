/- Both: records of raw numbers, and what their bytes are decoded to. -/
import Derived.Test.YtlfecmkpafgcmaaKpE
import Derived.Test.YtlfecmkpafgcmaaPlB
namespace Go.Proofs.Ytlfecmkpafgcmaa
end Go.Proofs.Ytlfecmkpafgcmaa
