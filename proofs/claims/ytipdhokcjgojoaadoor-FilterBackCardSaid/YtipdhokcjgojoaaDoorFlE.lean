/- What Decides of waymarkref10 does. No condition but that what is handed in is of its kind. -/
import Derived.Test.YtipdhokcjgojoaaDoorFlD
namespace Go.Proofs.YtipdhokcjgojoaaDoor
open Go.RowKit
end Go.Proofs.YtipdhokcjgojoaaDoor
