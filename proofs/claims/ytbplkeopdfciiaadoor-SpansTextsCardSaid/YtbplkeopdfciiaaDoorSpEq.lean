/- Two spans held against each other by != and ==, as the model runs it. No condition. -/
import Derived.Test.YtbplkeopdfciiaaDoorSpKit
import Derived.Test.YtbplkeopdfciiaaDoorProg
namespace Go.Proofs.YtbplkeopdfciiaaDoor
open Go.RowKit
theorem eqS3 : Tryd.prog.eqGuardType Tryd.prog.depth 33 = false := by kernel_rfl
theorem neq_run (x1 x2 y1 y2 : Int) (w : World) : (binOp .neq 33 (.agg #[.int .u32 x1, .int .u32 x2]) (.agg #[.int .u32 y1, .int .u32 y2])).run Tryd.prog w = .ok (.bool (!(x1 == y1 && x2 == y2))) w := by
  simp [go_sem]
  by_cases h1 : x1 = y1 <;> by_cases h2 : x2 = y2 <;> simp [h1, h2]
theorem eql_run (x1 x2 y1 y2 : Int) (w : World) : (binOp .eql 33 (.agg #[.int .u32 x1, .int .u32 x2]) (.agg #[.int .u32 y1, .int .u32 y2])).run Tryd.prog w = .ok (.bool (x1 == y1 && x2 == y2)) w := by
  simp [go_sem]
  by_cases h1 : x1 = y1 <;> by_cases h2 : x2 = y2 <;> simp [h1, h2]
theorem neq_no (x1 x2 : Int) (w : World) : (binOp .neq 33 (.agg #[.int .u32 x1, .int .u32 x2]) (.agg #[.int .u32 x1, .int .u32 x2])).run Tryd.prog w = .ok (.bool false) w := by
  rw [neq_run]; simp
theorem neq_yes (x1 x2 y1 y2 : Int) (h : (x1 == y1 && x2 == y2) = false) (w : World) : (binOp .neq 33 (.agg #[.int .u32 x1, .int .u32 x2]) (.agg #[.int .u32 y1, .int .u32 y2])).run Tryd.prog w = .ok (.bool true) w := by
  rw [neq_run, h]; rfl
theorem guard_run (op : BinOp) (a b : Operand) (x1 x2 y1 y2 : Int) (w : World) : (eqGuard op 33 a b (.agg #[.int .u32 x1, .int .u32 x2]) (.agg #[.int .u32 y1, .int .u32 y2])).run Tryd.prog w = .ok () w :=
  run_eqGuard_agg _ _ _ _ _ _ _ eqS3
end Go.Proofs.YtbplkeopdfciiaaDoor
