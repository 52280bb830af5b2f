/- What the calls of packages addr and waymarkref01 do that read one prefix or a number: Mask, size, Check, Ends, Subnet. Each under the conditions that it names. -/
import Derived.Test.YtidcipefoplncaaRows
import Derived.Test.YtidcipefoplncaaShelf
import Derived.Test.YtidcipefoplncaaAddrMath
import Derived.Test.YtidcipefoplncaaKit
namespace Go.Proofs.Ytidcipefoplncaa
open Go.RowKit
theorem agg_eq {a b c d : Int} (h : a = b) (h2 : c = d) : Value.agg #[.int .u32 a, .int .i64 c] = .agg #[.int .u32 b, .int .i64 d] := by rw [h, h2]
theorem ret_pe {v v' : Value} {c d : Int} (h : v = v') (h2 : c = d) : Ending.returned (.tuple #[v, .int .i64 c]) = .returned (.tuple #[v', .int .i64 d]) := by rw [h, h2]
theorem inB_ok (x a n : Int) (h : ck a n = 0) : inB x a n = (decide (a ≤ x) && decide (x < a + pw n)) := by simp [inB, h]
theorem inB_no (x a n : Int) (h : ck a n ≠ 0) : inB x a n = false := by simp [inB, h]
theorem inB_no2 (x a n : Int) (h : ¬ a ≤ x) : inB x a n = false := by simp [inB, h]
end Go.Proofs.Ytidcipefoplncaa
