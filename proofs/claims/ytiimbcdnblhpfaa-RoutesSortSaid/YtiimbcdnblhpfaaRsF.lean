/- The order of routes of package waymarkref08, all ways. No condition. -/
import Derived.Test.YtiimbcdnblhpfaaRsFff
import Derived.Test.YtiimbcdnblhpfaaRsFft
import Derived.Test.YtiimbcdnblhpfaaRsFtf
import Derived.Test.YtiimbcdnblhpfaaRsFtt
namespace Go.Proofs.Ytiimbcdnblhpfaa
open Go.RowKit Go.Shelf
theorem rrcmp_is (r s : RtD) (w : World) : Calls Try.prog 9 #[.agg (encRt r).toArray, .agg (encRt s).toArray] w fun e w' => e = .returned (.int .i64 (cR r s)) ∧ Below w.heap.size w w' := by
  obtain ⟨a, b, fr, di, me, ta, nm, ho, dc⟩ := r
  obtain ⟨a2, b2, fr2, di2, me2, ta2, nm2, ho2, dc2⟩ := s
  cases dc <;> cases dc2
  · exact rrc_ff a b fr di me ta nm ho a2 b2 fr2 di2 me2 ta2 nm2 ho2 w
  · exact rrc_ft a b fr di me ta nm ho a2 b2 fr2 di2 me2 ta2 nm2 ho2 w
  · exact rrc_tf a b fr di me ta nm ho a2 b2 fr2 di2 me2 ta2 nm2 ho2 w
  · exact rrc_tt a b fr di me ta nm ho a2 b2 fr2 di2 me2 ta2 nm2 ho2 w
end Go.Proofs.Ytiimbcdnblhpfaa
