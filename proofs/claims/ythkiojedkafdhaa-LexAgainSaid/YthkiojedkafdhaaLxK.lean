/- Small facts on texts and their cells. No condition but those named. -/
import Derived.Test.YthkiojedkafdhaaKit
import Derived.PlainAid
import Derived.Lib.Bytes
import Derived.Lib.Strings
namespace Go.Proofs.Ythkiojedkafdhaa
theorem row_cell' {W : World} {g j : Nat} {cs : Array Value} {t : TypeId} {v : Value} (h : W.heap[g]? = some (.cells cs t (0, 0))) (hj : cs[j]? = some v) : W.cell? ⟨g, j, none⟩ = some v ∧ W.frozen? ⟨g, j, none⟩ = false :=
  ⟨(cell_of_row _ _ j _ _ (0, 0) h).trans hj, frozen_of_row _ _ j _ _ h⟩
theorem all_of' (s : ByteArray) : s = ⟨(s.data.toList).toArray⟩ := by simp
theorem mk_size (l : List UInt8) : (⟨l.toArray⟩ : ByteArray).size = l.length := by simp [ByteArray.size]
theorem pre_take (a m : List UInt8) (h : m.length ≤ a.length) : (a.take m.length == m) = m.isPrefixOf a := by
  rw [Bool.eq_iff_iff, beq_iff_eq, List.isPrefixOf_iff_prefix, List.prefix_iff_eq_take]
  exact ⟨fun e => e.symm, fun e => e.symm⟩
theorem get_at' (t : List UInt8) (k : Nat) (h : k < (⟨t.toArray⟩ : ByteArray).size) (hl : k < t.length) : (⟨t.toArray⟩ : ByteArray)[k]'h = t[k]'hl := by
  simp [ByteArray.getElem_eq_getElem_data]
theorem ext_list (a : List UInt8) (n : Nat) : ((⟨a.toArray⟩ : ByteArray).extract 0 n).toList = a.take n := by
  rw [Lib.toList_data]; simp [ByteArray.data_extract]
theorem pre_long (a m : List UInt8) (h : a.length < m.length) : m.isPrefixOf a = false := by
  cases hp : m.isPrefixOf a with
  | false => rfl
  | true =>
    have := (List.isPrefixOf_iff_prefix.1 hp).length_le
    omega
end Go.Proofs.Ythkiojedkafdhaa
