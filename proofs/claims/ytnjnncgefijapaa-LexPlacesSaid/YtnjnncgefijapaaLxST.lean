/- What sameTokens says of two lists that are the same. Under the conditions that it names. -/
import Derived.Test.YtnjnncgefijapaaLxY
import Derived.Laws.OwnMore
namespace Go.Proofs.Ytnjnncgefijapaa
open Go.RowKit
theorem tok_at (d : List (Int × List UInt8 × (Int × Int))) (k : Nat) (hk : k < d.length) (o : Nat) (ho : o < 4) : (d.flatMap tokC)[k * 4 + o]? = (tokC d[k])[o]? := by
  induction d generalizing k with
  | nil => simp at hk
  | cons t r ih =>
    have ht : (tokC t).length = 4 := rfl
    rw [List.flatMap_cons]
    cases k with
    | zero => rw [List.getElem?_append_left (by omega)]; simp
    | succ k =>
      rw [List.getElem?_append_right (by omega), ht, show (k + 1) * 4 + o - 4 = k * 4 + o by omega, ih k (by simpa using hk)]
      simp
theorem tok_cells {W : World} {B g cap : Nat} {e : TypeId} {d : List (Int × List UInt8 × (Int × Int))} (h : W.ownsRow B e 4 (.slice (some ⟨g, 0, none⟩) d.length cap) d.length (d.flatMap tokC)) {k : Nat} (hk : k < d.length) :
    W.cell? ⟨g, k * 4, none⟩ = some (.int .u8 d[k].1) ∧ W.cell? ⟨g, k * 4 + 1, none⟩ = some (.string ⟨d[k].2.1.toArray⟩) ∧ W.cell? ⟨g, k * 4 + 2, none⟩ = some (.int .i64 d[k].2.2.1) ∧ W.cell? ⟨g, k * 4 + 3, none⟩ = some (.int .i64 d[k].2.2.2) := by
  refine ⟨?_, ?_, ?_, ?_⟩
  · rw [h.cellAt (k * 4) (by omega)]; exact tok_at d k hk 0 (by omega)
  · rw [h.cellAt (k * 4 + 1) (by omega)]; exact tok_at d k hk 1 (by omega)
  · rw [h.cellAt (k * 4 + 2) (by omega)]; exact tok_at d k hk 2 (by omega)
  · rw [h.cellAt (k * 4 + 3) (by omega)]; exact tok_at d k hk 3 (by omega)
end Go.Proofs.Ytnjnncgefijapaa
