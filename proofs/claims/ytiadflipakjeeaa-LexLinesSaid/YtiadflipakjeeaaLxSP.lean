/- What samePos says of a place and itself. No condition. -/
import Derived.Test.YtiadflipakjeeaaLxY
namespace Go.Proofs.Ytiadflipakjeeaa
open Go.RowKit
theorem samePos_same (a b : Int) (W : World) : Calls Try.prog 8 #[.agg #[.int .i64 a, .int .i64 b], .agg #[.int .i64 a, .int .i64 b]] W fun e w' => e = .returned (.bool true) ∧ Below W.heap.size W w' := by
  go_enter Try.func8, Try.ntmps8
  go_wp2
  go_ret
  exact ⟨rfl, ((Below.refl _ _).alloc (Nat.le_refl _) _).alloc (by simp) _⟩
end Go.Proofs.Ytiadflipakjeeaa
