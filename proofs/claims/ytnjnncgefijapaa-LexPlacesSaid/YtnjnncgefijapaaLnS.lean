/- What sameLines says of two lists that are the same. Under the conditions that it names. -/
import Derived.Test.YtnjnncgefijapaaLnD
import Derived.Test.YtnjnncgefijapaaLxSP
import Derived.Laws.OwnMore
import Derived.BigQuiet
namespace Go.Proofs.Ytnjnncgefijapaa
open Go.RowKit
theorem flat_at {α β : Type} (f : α → List β) (m : Nat) (hf : ∀ x, (f x).length = m) : ∀ (d : List α) (k : Nat) (hk : k < d.length) (o : Nat), o < m → (d.flatMap f)[k * m + o]? = (f d[k])[o]?
  | [], k, hk, _, _ => by simp at hk
  | t :: r, k, hk, o, ho => by
    rw [List.flatMap_cons]
    cases k with
    | zero => rw [List.getElem?_append_left (by rw [hf]; omega)]; simp
    | succ k =>
      rw [List.getElem?_append_right (by rw [hf, Nat.add_mul]; omega), hf, show (k + 1) * m + o - m = k * m + o by rw [Nat.add_mul]; omega, flat_at f m hf r k (by simpa using hk) o ho]
      simp
theorem ln_cells {W : World} {B g cap : Nat} {e : TypeId} {L : List (Ln × Value)} (h : W.ownsRow B e 2 (.slice (some ⟨g, 0, none⟩) L.length cap) L.length (L.flatMap lnC)) {k : Nat} (hk : k < L.length) :
    W.cell? ⟨g, k * 2, none⟩ = some (.int .i64 L[k].1.2.1) ∧ W.cell? ⟨g, k * 2 + 1, none⟩ = some L[k].2 := by
  refine ⟨?_, ?_⟩
  · rw [h.cellAt (k * 2) (by omega)]; exact flat_at lnC 2 (fun _ => rfl) L k hk 0 (by omega)
  · rw [h.cellAt (k * 2 + 1) (by omega)]; exact flat_at lnC 2 (fun _ => rfl) L k hk 1 (by omega)
theorem wd_cells {W : World} {B g cap : Nat} {e : TypeId} {num : Int} {d : List (List UInt8 × Int)} (h : W.ownsRow B e 3 (.slice (some ⟨g, 0, none⟩) d.length cap) d.length (d.flatMap (wdC num))) {k : Nat} (hk : k < d.length) :
    W.cell? ⟨g, k * 3, none⟩ = some (.string ⟨d[k].1.toArray⟩) ∧ W.cell? ⟨g, k * 3 + 1, none⟩ = some (.int .i64 num) ∧ W.cell? ⟨g, k * 3 + 2, none⟩ = some (.int .i64 d[k].2) := by
  refine ⟨?_, ?_, ?_⟩
  · rw [h.cellAt (k * 3) (by omega)]; exact flat_at (wdC num) 3 (fun _ => rfl) d k hk 0 (by omega)
  · rw [h.cellAt (k * 3 + 1) (by omega)]; exact flat_at (wdC num) 3 (fun _ => rfl) d k hk 1 (by omega)
  · rw [h.cellAt (k * 3 + 2) (by omega)]; exact flat_at (wdC num) 3 (fun _ => rfl) d k hk 2 (by omega)
end Go.Proofs.Ytnjnncgefijapaa
