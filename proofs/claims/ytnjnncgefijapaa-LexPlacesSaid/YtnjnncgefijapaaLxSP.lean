/- What samePos says of a place and itself. No condition. -/
import Derived.Test.YtnjnncgefijapaaLxY
namespace Go.Proofs.Ytnjnncgefijapaa
open Go.RowKit
end Go.Proofs.Ytnjnncgefijapaa
