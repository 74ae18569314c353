/- Walks of berthshiftref.EventFault at the other kinds: it answers the plain function eventFault. -/
import Derived.Test.YtdpenbgmmgljoabPkD
namespace Go.Proofs.Ytdpenbgmmgljoab
open Go.RowKit

end Go.Proofs.Ytdpenbgmmgljoab
