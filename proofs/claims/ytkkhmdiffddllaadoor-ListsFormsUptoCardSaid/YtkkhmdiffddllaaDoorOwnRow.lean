/- Rows of one's own: with a lower base, and where their block stands. No condition. -/
import Derived.Test.YtkkhmdiffddllaaDoorKit
import Derived.Laws.AppendOwn
namespace Go.Proofs.YtkkhmdiffddllaaDoor
open Go.RowKit
theorem ownsRow_base {w : World} {b b' : Nat} {e : TypeId} {k : Nat} {v : Value} {n : Nat} {xs : List Value} (h : w.ownsRow b e k v n xs) (hb : b' ≤ b) : w.ownsRow b' e k v n xs := by
  refine ⟨h.1, ?_⟩
  rcases h.2 with hn | ⟨g, cap, cur, rfl, hg, rest⟩
  · exact .inl hn
  · exact .inr ⟨g, cap, cur, rfl, Nat.le_trans hb hg, rest⟩
theorem ownsRow_of {w w' : World} {b : Nat} {e : TypeId} {k : Nat} {v : Value} {n : Nat} {xs : List Value} (h : w.ownsRow b e k v n xs) (hk : ∀ g, v.ownBlock = some g → b ≤ g → g < w.heap.size → w'.heap[g]? = w.heap[g]?) : w'.ownsRow b e k v n xs := by
  have hlt := h.lt
  refine ⟨h.1, ?_⟩
  rcases h.2 with hn | ⟨g, cap, cur, rfl, hg, hh, rest⟩
  · exact .inl hn
  · have := hlt g rfl
    exact .inr ⟨g, cap, cur, rfl, hg, by rw [hk g rfl this.1 this.2]; exact hh, rest⟩
end Go.Proofs.YtkkhmdiffddllaaDoor
