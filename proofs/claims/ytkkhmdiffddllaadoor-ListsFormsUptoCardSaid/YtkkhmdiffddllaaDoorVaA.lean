/- slices.Concat of two lists of numbers, Join of package lists: two lists' communities in form. Under the conditions that they name. -/
import Derived.Test.YtkkhmdiffddllaaDoorUsN
import Derived.Shelf.Spec.SlicesGrow
namespace Go.Proofs.YtkkhmdiffddllaaDoor
open Go.Shelf Go.RowKit Go.Lib Go.Sort
theorem grow_nil (n : Nat) (hn : n ≤ 35184372087808) (w : World) : Calls Tryd.prog 31 #[.slice none 0 0, .int .i64 n] w fun e w' =>
    ∃ v, e = .returned v ∧ OwnU w.heap.size w' v [] ∧ Below w.heap.size w w' := by
  by_cases h0 : n = 0
  · subst h0
    refine (Any8.slices_Grow_room Tryd.growL none 0 0 0 w (by omega) (by omega) (by omega) (by omega)).mono ?_
    rintro e w' ⟨rfl, rfl⟩
    exact ⟨_, rfl, World.ownsRow_nil _ _ _ _, Below.refl _ _⟩
  · obtain ⟨i0, hi0, hy0, hy1, hy2⟩ := info_parts infoU
    refine (Any8.slices_Grow_grow Tryd.growL i0 (.int .u32 0) hi0 hy0 (by omega) none 0 0 n [] w (by omega) (by omega) (by rw [hy2]; omega) (by omega) (by simp) (fun _ => rfl) (fun a h => by cases h)).mono ?_
    rintro e w' ⟨rfl, rfl⟩
    have hge := grownCap_ge w (0 + n) 0 (Tryd.growL_ren.t 25)
    have hle := grownCap_le_maxLen w (0 + n) 0 (Tryd.growL_ren.t 25) (by unfold maxLen; omega)
    refine ⟨_, rfl, ⟨rfl, .inr ⟨w.heap.size, _, _, rfl, Nat.le_refl _, heap_newU w.drew _, Nat.zero_le _, hle, ?_, rfl⟩⟩, ?_⟩
    · simp [size_zeroCells, Value.cells] at hge ⊢
      omega
    · exact ((Below.refl _ _).drew).alloc (Nat.le_refl _) _
end Go.Proofs.YtkkhmdiffddllaaDoor
