/- Walks of berthshiftref.EventFault at the kinds without fields, and at what is no kind. -/
import Derived.Test.YtdpenbgmmgljoacPkD
namespace Go.Proofs.Ytdpenbgmmgljoac
open Go.RowKit

end Go.Proofs.Ytdpenbgmmgljoac
