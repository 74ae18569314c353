/- Walks of berthshiftref.EventFault at the kinds without fields, and at what is no kind. -/
import Derived.Test.YtdpenbgmmgljoabPkD
namespace Go.Proofs.Ytdpenbgmmgljoab
open Go.RowKit

end Go.Proofs.Ytdpenbgmmgljoab
