/- What the calls of packages addr and waymarkref01 do that find what two prefixes have in common, and of how many bits a mask is. Each under the conditions that it names. -/
import Derived.Test.YtodfimnmbfdicaaAddrW4
namespace Go.Proofs.Ytodfimnmbfdicaa
open Go.RowKit
end Go.Proofs.Ytodfimnmbfdicaa
