/- slices.Sort at uint32 of a row of one's own. Under the conditions that it names. -/
import Derived.Test.YtkkhmdiffddllaaDoorUsJ
import Derived.Test.YtkkhmdiffddllaaDoorUsM
import Derived.Test.YtkkhmdiffddllaaDoorUrA
import Derived.Test.YtkkhmdiffddllaaDoorShelf
import Derived.Sort.WalkA14
namespace Go.Proofs.YtkkhmdiffddllaaDoor
open Go.Shelf Go.RowKit Go.Lib Go.Sort
theorem ins_zero (p : Option Addr) (c : Nat) (w : World) : Calls Tryd.prog 42 #[.slice p 0 c, .int .i64 0, .int .i64 0] w fun e w' => e = .returned (.tuple #[]) ∧ w' = w := by
  go_enter Tryd.func42, Tryd.ntmps42
  go_wp2
  refine wp_loop_rounds 1 ?_
  rw [rounds_succ]
  go_wp2
  go_end0
  exact ⟨rfl, rfl⟩
theorem pdq_zero (p : Option Addr) (c : Nat) (w : World) : Calls Tryd.prog 29 #[.slice p 0 c, .int .i64 0, .int .i64 0, .int .i64 0] w fun e w' => e = .returned (.tuple #[]) ∧ w' = w := by
  have C := Lib.hid (ins_zero p c w)
  go_enter Tryd.func29, Tryd.ntmps29
  go_wp2
  refine wp_loop_rounds 1 ?_
  rw [rounds_succ]
  go_wp2_with (first | (go_at_call 42; refine C.out.mono ?_; rintro e w1 ⟨rfl, rfl⟩))
  refine bodyPost_ret (results_none rfl _ _ _) rfl ?_
  exact ⟨rfl, rfl⟩
theorem sort_zero (p : Option Addr) (c : Nat) (w : World) : Calls Tryd.prog 17 #[.slice p 0 c] w fun e w' => e = .returned (.tuple #[]) ∧ w' = w := by
  have C := Lib.hid (pdq_zero p c w)
  have hLen : Calls Tryd.prog 30 #[.int .u64 0] w fun e w' => e = .returned (.int .i64 0) ∧ w' = w := by
    have h := Tryd.bits_Len 0 w (by omega) (by omega)
    rwa [show (Lib.bitLen (0 : Int).toNat) = 0 from by decide +kernel] at h
  go_enter Tryd.func17, Tryd.ntmps17
  go_wp2_with (first | (go_at_call 30; refine hLen.mono ?_; rintro e w1 ⟨rfl, rfl⟩) | (go_at_call 29; refine C.out.mono ?_; rintro e w1 ⟨rfl, rfl⟩))
  go_end0
  exact ⟨rfl, rfl⟩
/-- The row behind a sort: its block. -/
theorem sw_block {w W : World} {g : Nat} {cur : Array Value} {e : TypeId} {d : Array Int} (hb : w.heap[g]? = some (.cells cur e (0, 0))) (S : SW encW w g 0 d W) : W.heap[g]? = some (.cells (putCells encW 0 d cur) e (0, 0)) := by
  obtain ⟨m, os, rfl⟩ := S
  have hg : g < w.heap.size := (Array.getElem?_eq_some_iff.1 hb).1
  unfold sortWorld
  rw [heap_grow_old _ _ (by simpa using hg)]
  simp [putRow, mapBlock, Sort.ahead, Array.getElem?_modify, hb, onCells]
theorem sw_grown {w W : World} {g : Nat} {d : Array Int} (S : SW encW w g 0 d W) : w.grownBy W (some g) := by
  obtain ⟨m, os, rfl⟩ := S
  refine ⟨rfl, rfl, rfl, by simp [sortWorld], fun k hk hne => ?_⟩
  unfold sortWorld
  rw [heap_grow_old _ _ (by simpa using hk)]
  have : g ≠ k := fun e => hne (by rw [e])
  simp [putRow, mapBlock, Sort.ahead, Array.getElem?_modify, this]
theorem take_put (cur : Array Value) (d : Array Int) (h : d.size ≤ cur.size) : (putCells encW 0 d cur).toList.take d.size = d.toList.map encW := by
  apply List.ext_getElem?
  intro j
  by_cases hj : j < d.size
  · rw [List.getElem?_take_of_lt hj, Array.getElem?_toList]
    simp [putCells, hj, show j < cur.size by omega]
  · rw [List.getElem?_take_eq_none (by omega), List.getElem?_eq_none (by simp; omega)]
theorem holds_block {w : World} {g : Nat} {cur : Array Value} {e : TypeId} {l : List Int} (hb : w.heap[g]? = some (.cells cur e (0, 0))) (ht : cur.toList.take l.length = l.map encW) : Holds encW w g 0 l.toArray := by
  intro j hj
  have hj' : j < l.length := by simpa using hj
  refine ⟨?_, by simp [World.frozen?, hb]⟩
  have h1 : (cur.toList.take l.length)[j]? = (l.map encW)[j]? := by rw [ht]
  rw [List.getElem?_take_of_lt hj'] at h1
  rw [cell_heap hb, Nat.zero_add, ← Array.getElem?_toList, h1]
  simp [hj']
theorem oneW : OneCell encW := fun _ => rfl
set_option maxRecDepth 100000 in
theorem sort_row (g cap : Nat) (cur : Array Value) (l : List Int) (w : World) (h0 : 0 < l.length) (hb : w.heap[g]? = some (.cells cur 23 (0, 0))) (ht : cur.toList.take l.length = l.map encW) (hl : l.length < 35184372088832) :
    Calls Tryd.prog 17 #[.slice (some ⟨g, 0, none⟩) l.length cap] w fun e w' => e = .returned (.tuple #[]) ∧ ∃ R : Array Int, SW encW w g 0 R w' ∧ Done 0 l.length l.toArray R := by
  have hH := holds_block hb ht
  have C := Lib.hid (pdq_is (l.length + 1) g 0 cap 0 l.length (Lib.bitLen l.length) l.toArray l.toArray w w (by omega) ⟨oneW, hH, (Array.getElem?_eq_some_iff.1 hb).1⟩ rfl (SW.start hH) (Nat.zero_le _) (by simp) (by simpa using hl)
    (by
      have h := (bitsLen_le_iff l.length 45).2 (by omega)
      rw [← bitLen_eq l.length (by omega)] at h
      omega) (.inl rfl))
  have hLen : Calls Tryd.prog 30 #[.int .u64 (l.length : Int)] w fun e w' => e = .returned (.int .i64 (Lib.bitLen l.length : Nat)) ∧ w' = w := by
    have h := Tryd.bits_Len (l.length : Int) w (by omega) (by omega)
    rwa [Int.toNat_natCast] at h
  rw [show l.toArray.size = l.length by simp] at C
  go_enter Tryd.func17, Tryd.ntmps17
  go_wp2_with (first | (go_at_call 30; refine hLen.mono ?_; rintro e w1 ⟨rfl, rfl⟩) | (go_at_call 29; refine C.out.mono ?_; rintro e w1 ⟨rfl, hw1⟩))
  go_end0
  exact ⟨rfl, hw1⟩
end Go.Proofs.YtkkhmdiffddllaaDoor
