/- The order of routes, with what it draws. Under the conditions that they name. -/
import Derived.Test.YtmbkkjofikijiaaGreatDoorRsB
namespace Go.Proofs.YtmbkkjofikijiaaGreatDoor
open Go.RowKit Go.Shelf
theorem prefss (a b c d : Int) (w : World) : Calls Tryz.prog 81 #[.agg #[.int .u32 a, .int .i64 b], .agg #[.int .u32 c, .int .i64 d]] w fun e w' => e = .returned (.int .i64 (cP a b c d)) ∧ Below w.heap.size w w' ∧ w.drawn ≤ w'.drawn := by
  have H1 := Lib.hid fun W => cmpa a c W
  have H2 := Lib.hid fun W => cmpi b d W
  unfold cP
  by_cases h : cI a c = 0
  · rw [if_pos h]
    rw [h] at H1
    go_enter Tryz.func81, Tryz.ntmps81
    go_wp2_with (first | (go_at_call 87; refine (H1.out _).mono ?_; rintro e w' ⟨rfl, rfl⟩) | (go_at_call 83; refine (H2.out _).mono ?_; rintro e w' ⟨rfl, rfl⟩))
    go_ret
    exact ⟨rfl, ((Below.refl _ _).alloc (Nat.le_refl _) _).alloc (by simp) _, Nat.le_refl _⟩
  · rw [if_neg h]
    obtain ⟨k, hk⟩ : ∃ k, cI a c = k := ⟨_, rfl⟩
    rw [hk] at H1 h ⊢
    have e1 : (k != 0) = true := by simpa using h
    have e2 : (k == 0) = false := by simpa using h
    clear hk
    go_enter Tryz.func81, Tryz.ntmps81
    go_wp2_with (first | (go_at_call 87; refine (H1.out _).mono ?_; rintro e w' ⟨rfl, rfl⟩) | (go_at_call 83; refine (H2.out _).mono ?_; rintro e w' ⟨rfl, rfl⟩))
    go_ret
    exact ⟨rfl, ((Below.refl _ _).alloc (Nat.le_refl _) _).alloc (by simp) _, Nat.le_refl _⟩
end Go.Proofs.YtmbkkjofikijiaaGreatDoor
