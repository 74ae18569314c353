/- The walk of berthshiftkeep.some: the first bytes of a slice, in new memory. -/
import Derived.Test.YtlfecmkpafgcmaaTpE
import Derived.Test.YtlfecmkpafgcmaaKpF
namespace Go.Proofs.Ytlfecmkpafgcmaa
open Go.RowKit

end Go.Proofs.Ytlfecmkpafgcmaa
