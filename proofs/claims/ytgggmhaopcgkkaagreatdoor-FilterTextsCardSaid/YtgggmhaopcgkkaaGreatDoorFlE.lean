/- What Decides of waymarkref10 does. No condition but that what is handed in is of its kind. -/
import Derived.Test.YtgggmhaopcgkkaaGreatDoorFlD
namespace Go.Proofs.YtgggmhaopcgkkaaGreatDoor
open Go.RowKit
end Go.Proofs.YtgggmhaopcgkkaaGreatDoor
