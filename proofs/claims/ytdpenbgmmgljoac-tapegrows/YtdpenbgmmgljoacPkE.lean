/- Walks of berthshiftref.EventFault at the other kinds: it answers the plain function eventFault. -/
import Derived.Test.YtdpenbgmmgljoacPkD
namespace Go.Proofs.Ytdpenbgmmgljoac
open Go.RowKit

end Go.Proofs.Ytdpenbgmmgljoac
