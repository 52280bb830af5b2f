/- The law SpansCut: whatever sets and numbers it is handed it answers true; what was there stands. No condition but that the sets read and the numbers are numbers. -/
import Derived.Test.YtdjlbenjbhkfiaaSpCutLawA
import Derived.Test.YtdjlbenjbhkfiaaSpCutLawB
namespace Go.Proofs.Ytdjlbenjbhkfiaa
open Go.RowKit
theorem cut_is (most : Nat) (hmt : most < top) (x : Int) (hx : 0 ≤ x ∧ x < 4294967296) (ls : List (List (Nat × Nat))) (v : Value) (w : World) (hr : RdS w v ls) :
    Calls Try.prog 8 #[.int .u32 most, v, .int .u32 x] w fun e w' => e = .returned (.bool true) ∧ Below w.heap.size w w' :=
  if h : 12 < ls.length then cut_many most hmt x hx ls v w hr h else cut_few most hmt x hx ls v w hr h
end Go.Proofs.Ytdjlbenjbhkfiaa
