/- What Parse and ParsePrefix of package addr read in a text. No condition but that the text is one that can be. -/
import Derived.Test.YtkkhmdiffddllaaDoorSCut
namespace Go.Proofs.YtkkhmdiffddllaaDoor
open Go.RowKit
theorem mk_toList (l : List UInt8) : (⟨l.toArray⟩ : ByteArray).data.toList = l := by simp
theorem mk_size (l : List UInt8) : (⟨l.toArray⟩ : ByteArray).size = l.length := by simp [ByteArray.size]
/-- An address that may be none, and the error. -/
def adrI : Option Nat → Int × Int | some n => ((n : Int), 0) | none => (0, 4)
theorem ret_adr {o : Option Nat} {x y : Int} (h : adrI o = (x, y)) : Ending.returned (.tuple #[.int .u32 x, .int .i64 y]) = .returned (.tuple #[.int .u32 (adrI o).1, .int .i64 (adrI o).2]) := by rw [h]
theorem parseN_bad {k : Nat} {l : List UInt8} {a : Nat} (h : num (cut1 l 46).1 255 = none) : parseN (k + 1) l a = none := by unfold parseN; rw [h]
theorem parseN_dot {k : Nat} {l : List UInt8} {a n : Nat} (h : num (cut1 l 46).1 255 = some n) (h2 : (cut1 l 46).2.2 = decide (k = 0)) : parseN (k + 1) l a = none := by unfold parseN; rw [h]; simp [h2]
theorem parseN_next {k : Nat} {l : List UInt8} {a n : Nat} (h : num (cut1 l 46).1 255 = some n) (h2 : ¬ (cut1 l 46).2.2 = decide (k = 0)) : parseN (k + 1) l a = parseN k (cut1 l 46).2.1 (a * 256 + n) := by
  conv => lhs; unfold parseN
  rw [h]; simp [h2]
theorem shl8_or (a n : Int) (h0 : 0 ≤ a) (h1 : a < 16777216) (h2 : 0 ≤ n) (h3 : n ≤ 255) : bits .or .u32 (a * 256) n = a * 256 + n := by
  rw [u32_or _ _ (by omega) (by omega) h2 (by omega), nat_join 8 _ _ (by omega) (by omega)]
  omega
theorem ret_pp {q : Int × Int × Int} {x y z : Int} (h : q = (x, y, z)) : Ending.returned (.tuple #[.agg #[.int .u32 x, .int .i64 y], .int .i64 z]) = .returned (.tuple #[.agg #[.int .u32 q.1, .int .i64 q.2.1], .int .i64 q.2.2]) := by rw [h]
end Go.Proofs.YtkkhmdiffddllaaDoor
