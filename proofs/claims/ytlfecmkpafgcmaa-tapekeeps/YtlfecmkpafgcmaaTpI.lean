/- The walk of the document's answer's Written. -/
import Derived.Test.YtlfecmkpafgcmaaTpH
namespace Go.Proofs.Ytlfecmkpafgcmaa
open Go.RowKit

end Go.Proofs.Ytlfecmkpafgcmaa
