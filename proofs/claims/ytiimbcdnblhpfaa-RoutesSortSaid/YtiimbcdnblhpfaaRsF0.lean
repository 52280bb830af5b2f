/- The order of routes of package waymarkref08. No condition. -/
import Derived.Test.YtiimbcdnblhpfaaRsE
namespace Go.Proofs.Ytiimbcdnblhpfaa
open Go.RowKit Go.Shelf
theorem one_s (x y : ByteArray) (w : World) : Calls Try.prog 15 #[.bool (Op.bytesLess x.toList y.toList), .bool (!Op.bytesLess x.toList y.toList && !x.toList == y.toList)] w fun e w' => e = .returned (.int .i64 (cS x y)) ∧ w = w' := by
  refine (one_is _ _ _).mono ?_
  rintro e w' ⟨rfl, h⟩
  refine ⟨?_, h⟩
  unfold cS
  cases Op.bytesLess x.toList y.toList <;> cases (x.toList == y.toList) <;> rfl
end Go.Proofs.Ytiimbcdnblhpfaa
