/- What the calls do that ask one rule and one header: Fits of waymarkref10. No condition but that what is handed in is of its kind. -/
import Derived.Test.YtipdhokcjgojoaaDoorFlA
namespace Go.Proofs.YtipdhokcjgojoaaDoor
open Go.RowKit
end Go.Proofs.YtipdhokcjgojoaaDoor
