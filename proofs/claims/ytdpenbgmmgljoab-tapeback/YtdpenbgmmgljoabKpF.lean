/- Both: records of raw numbers, and what their bytes are decoded to. -/
import Derived.Test.YtdpenbgmmgljoabKpE
import Derived.Test.YtdpenbgmmgljoabPlB
namespace Go.Proofs.Ytdpenbgmmgljoab
end Go.Proofs.Ytdpenbgmmgljoab
