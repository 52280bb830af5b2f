/- AddrCovers answers true for every three addresses. Conditions: the tables of packages math/bits and strconv are what their texts say. -/
import Derived.Test.YtdjjogcagolcjaaDoorCov
namespace Go.Proofs.YtdjjogcagolcjaaDoor
open Go.RowKit
theorem covers_any (lo hi x : Int) (w : World) (h0 : 0 ≤ lo) (h1 : lo < 4294967296) (h2 : 0 ≤ hi) (h3 : hi < 4294967296) (hx : 0 ≤ x) (hx2 : x < 4294967296) (hT : Tab w) (h10 : Tab10 w) :
    Calls Tryd.prog 8 #[.int .u32 lo, .int .u32 hi, .int .u32 x] w fun e w' => e = .returned (.bool true) ∧ Below w.heap.size w w' := by
  by_cases h : lo ≤ hi
  · exact covers_walk lo hi x lo hi w hx hx2 h0 h3 h (Lib.hid (.inl ⟨rfl, rfl, h⟩)) hT h10
  · exact covers_walk lo hi x hi lo w hx hx2 h2 h1 (by omega) (Lib.hid (.inr ⟨rfl, rfl, by omega⟩)) hT h10
end Go.Proofs.YtdjjogcagolcjaaDoor
