/- What the calls do that ask one rule and one header: Fits of waymarkref10. No condition but that what is handed in is of its kind. -/
import Derived.Test.YtgggmhaopcgkkaaGreatDoorFlA
namespace Go.Proofs.YtgggmhaopcgkkaaGreatDoor
open Go.RowKit
end Go.Proofs.YtgggmhaopcgkkaaGreatDoor
