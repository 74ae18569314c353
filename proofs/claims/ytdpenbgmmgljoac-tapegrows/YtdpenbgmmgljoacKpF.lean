/- Both: records of raw numbers, and what their bytes are decoded to. -/
import Derived.Test.YtdpenbgmmgljoacKpE
import Derived.Test.YtdpenbgmmgljoacPlB
namespace Go.Proofs.Ytdpenbgmmgljoac
end Go.Proofs.Ytdpenbgmmgljoac
