/- What sign and begins of package waymarkref07 hand back. No condition but those named. -/
import Derived.Test.YthkiojedkafdhaaLxS
namespace Go.Proofs.Ythkiojedkafdhaa
open Go.RowKit
theorem two_at (l : List UInt8) (i : Nat) (h : i + 1 < l.length) : [47, 42].isPrefixOf (l.drop i) = ((l[i]'(by omega)) == 47 && (l[i + 1]'h) == 42) := by
  rw [List.drop_eq_getElem_cons (by omega : i < l.length), List.drop_eq_getElem_cons h]
  simp only [List.isPrefixOf, Bool.and_true]
  rw [Bool.eq_iff_iff]
  simp only [Bool.and_eq_true, beq_iff_eq]
  exact ⟨fun ⟨a, b⟩ => ⟨a.symm, b.symm⟩, fun ⟨a, b⟩ => ⟨a.symm, b.symm⟩⟩
theorem two_end (l : List UInt8) (i : Nat) (h : ¬ i + 1 < l.length) : [47, 42].isPrefixOf (l.drop i) = false :=
  pre_long _ _ (by rw [List.length_drop]; simp; omega)
end Go.Proofs.Ythkiojedkafdhaa
