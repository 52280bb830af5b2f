/- A new table, and what Put does of a first prefix. Under the conditions that they name. -/
import Derived.Test.YtfnakobkibljiaaTrC
import Derived.Deep.RegionLaw
import Derived.StillTailTactics
import Derived.MapKept
namespace Go.Proofs.Ytfnakobkibljiaa
open Go.RowKit Go.Shelf
theorem new_is (w : World) : Calls Try.prog 9 #[] w fun e w' => e = .returned (.pointer (some ⟨w.heap.size + 1, 0, none⟩)) ∧ w'.heap[w.heap.size]? = some (.map #[] 0) ∧ w'.heap[w.heap.size + 1]? = some (.cells #[.map (some w.heap.size), .pointer none] 47 (0, 0)) ∧ w.heap.size + 1 < w'.heap.size ∧ Below w.heap.size w w' := by
  have hmm := @run_makeMap Try.prog
  go_enter Try.func9, Try.ntmps9
  go_wp2_with fail
  go_ret
  refine ⟨rfl, ?_, ?_, by simp, ((Below.refl _ _).alloc (Nat.le_refl _) _).alloc (by simp) _⟩
  · exact (Below.heap_alloc _ _ _ (by simp)).trans (heap_alloc_new w _)
  · have := heap_alloc_new (w.alloc (.map #[] 0)) (.cells #[.map (some w.heap.size), .pointer none] 47)
    rwa [World.size_alloc] at this
theorem with_nil (a b : Int) (q : Addr) (w : World) : Calls Try.prog 21 #[.pointer none, .agg #[.int .u32 a, .int .i64 b], .pointer (some q)] w fun e w' => e = .returned (.pointer (some ⟨w.heap.size + 1, 0, none⟩)) ∧ w'.heap[w.heap.size + 1]? = some (.cells #[.int .u32 a, .int .i64 b, .pointer (some q), .pointer none, .pointer none] 62 (0, 0)) ∧ w.heap.size + 1 < w'.heap.size ∧ Below w.heap.size w w' := by
  go_enter Try.func21, Try.ntmps21
  go_wp2_with fail
  go_ret
  refine ⟨rfl, ?_, by simp, ((Below.refl _ _).alloc (Nat.le_refl _) _).alloc (by simp) _⟩
  have := heap_alloc_new (w.alloc (.cells #[.int .u32 a, .int .i64 b] 28)) (.cells #[.int .u32 a, .int .i64 b, .pointer (some q), .pointer none, .pointer none] 62)
  rwa [World.size_alloc] at this
theorem key_ok (a b : Int) (w : World) : (Instr.checkKey false 10000 28 (.agg #[.int .u32 a, .int .i64 b])).run Try.prog w = .ok () w := by kernel_rfl
theorem key_ok2 (a b : Int) (w : World) : (Instr.checkKey true 10000 28 (.agg #[.int .u32 a, .int .i64 b])).run Try.prog w = .ok () w := by kernel_rfl
theorem key_ne (w : World) : (Op.equal 28 (.agg #[.int .u32 0, .int .i64 1]) (.agg #[.int .u32 0, .int .i64 0])).run Try.prog w = .ok false w := by kernel_rfl
theorem map_some (r : Nat) (w : World) : (binOp .eql 44 (.map (some r)) (.map none)).run Try.prog w = .ok (.bool false) w := by kernel_rfl
theorem zero_ptr (w : World) : (zeroValue 42).run Try.prog w = .ok (.pointer none) w := by kernel_rfl
theorem find_miss (v : Value) (n : Nat) (w : World) : (Instr.findKey 28 (.agg #[.int .u32 0, .int .i64 1]) [{ key := .agg #[.int .u32 0, .int .i64 0], val := v, born := n }]).run Try.prog w = .ok none w := by kernel_rfl
theorem find_empty (w : World) : (Instr.findKey 28 (.agg #[.int .u32 0, .int .i64 0]) []).run Try.prog w = .ok none w := by kernel_rfl
theorem store_first {w : World} {r : Nat} (q : Addr) (h : w.heap[r]? = some (.map #[] 0)) : (Instr.mapUpdate 44 (.map (some r)) (.agg #[.int .u32 0, .int .i64 0]) (.pointer (some q))).run Try.prog w = .ok () (w.putObj r (.map #[{ key := .agg #[.int .u32 0, .int .i64 0], val := .pointer (some q), born := 0 }] 1)) := by
  unfold Instr.mapUpdate
  have e1 := MapKept.run_getObj_map (P := Try.prog) h
  have e2 := fun o => MapKept.run_setObj_map (P := Try.prog) o h
  simp [run_underlying Try.underlying44, e1, e2, key_ok, find_empty, go_sem, World.putObj]
theorem lookup_miss {w : World} {r : Nat} (v : Value) (h : w.heap[r]? = some (.map #[{ key := .agg #[.int .u32 0, .int .i64 0], val := v, born := 0 }] 1)) : (Instr.lookup 44 (.map (some r)) (.agg #[.int .u32 0, .int .i64 1]) true).run Try.prog w = .ok (.tuple #[.pointer none, .bool false]) w := by
  unfold Instr.lookup
  have e1 := MapKept.run_getObj_map (P := Try.prog) h
  simp [run_underlying Try.underlying44, e1, key_ok, find_miss, zero_ptr, go_sem]
end Go.Proofs.Ytfnakobkibljiaa
