/- What same and works of package waymarklaw03 hand back. -/
import Derived.Test.YtbmleejeffaciaaDoorHdT
import Derived.Test.YtbmleejeffaciaaDoorHdH
import Derived.Test.YtbmleejeffaciaaDoorHdK
namespace Go.Proofs.YtbmleejeffaciaaDoor
open Go.RowKit
set_option maxRecDepth 100000 in
set_option maxHeartbeats 2000000 in
theorem same_is (s d p sp dp s' d' p' sp' dp' : Int) (w : World) :
    Calls Tryd.prog 9 #[.agg #[.int .u32 s, .int .u32 d, .int .u8 p, .int .u16 sp, .int .u16 dp], .agg #[.int .u32 s', .int .u32 d', .int .u8 p', .int .u16 sp', .int .u16 dp']] w fun e w' => e = .returned (.bool (decide ((s = s' ∧ d = d') ∧ p = p' ∧ sp = sp' ∧ dp = dp'))) ∧ Below w.heap.size w w' := by
  go_enter Tryd.func9, Tryd.ntmps9
  go_wp2
  all_goals
    go_ret
    exact ⟨ret_bool (by first | (simp [*]; done) | (simp [*]; rfl)), ((Below.refl _ _).alloc (Nat.le_refl _) _).alloc (by simp) _⟩
end Go.Proofs.YtbmleejeffaciaaDoor
