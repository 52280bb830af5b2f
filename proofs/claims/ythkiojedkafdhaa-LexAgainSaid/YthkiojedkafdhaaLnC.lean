/- Small words on rows of one's own. No condition. -/
import Derived.Test.YthkiojedkafdhaaLnQ
import Derived.Test.YthkiojedkafdhaaLxY
namespace Go.Proofs.Ythkiojedkafdhaa
open Go.RowKit
/-- A word's cells. -/
def wdC (ln : Int) (t : List UInt8 × Int) : List Value := [.string ⟨t.1.toArray⟩, .int .i64 ln, .int .i64 t.2]
theorem own_sl {W : World} {B n k : Nat} {e : TypeId} {v : Value} {xs : List Value} (h : W.ownsRow B e k v n xs) : ∃ p c, v = .slice p n c := by
  rcases h.2 with ⟨rfl, rfl⟩ | ⟨g, cap, cur, rfl, hg, hh, _⟩
  · exact ⟨_, _, rfl⟩
  · exact ⟨_, _, rfl⟩
theorem set2v {w : World} {g : Nat} {n0 n1 : Value} (m0 m1 : Value) {t : TypeId} (h : w.heap[g]? = some (.cells #[n0, n1] t (0, 0))) :
    ((w.setCell ⟨g, 0, none⟩ m0).setCell ⟨g, 1, none⟩ m1).heap[g]? = some (.cells #[m0, m1] t (0, 0)) :=
  Lib.heap_setCell_same (i := 1) (Lib.heap_setCell_same (i := 0) h m0) m1
end Go.Proofs.Ythkiojedkafdhaa
