/- The walk of the document's answer's Written. -/
import Derived.Test.YtdpenbgmmgljoabTpH
namespace Go.Proofs.Ytdpenbgmmgljoab
open Go.RowKit

end Go.Proofs.Ytdpenbgmmgljoab
