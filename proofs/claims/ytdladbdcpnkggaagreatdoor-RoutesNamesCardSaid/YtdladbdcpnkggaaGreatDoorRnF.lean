/- Sort and Same of package routes at no route. No condition. -/
import Derived.Test.YtdladbdcpnkggaaGreatDoorRnE
namespace Go.Proofs.YtdladbdcpnkggaaGreatDoor
open Go.RowKit
theorem infoR : (Tryz.prog.info? 27).map (fun i => i.size) = some 9 := by kernel_rfl
theorem equal_nil (w : World) : Calls Tryz.prog 20 #[.slice none 0 0, .slice none 0 0] w fun e w' => e = .returned (.bool true) ∧ w' = w := by
  go_enter Tryz.func20, Tryz.ntmps20
  go_wp2
  refine wp_loop_rounds 1 ?_
  rw [rounds_succ]
  go_wp2
  go_ret
  exact ⟨rfl, rfl⟩
theorem same_nil (w : World) : Calls Tryz.prog 7 #[.slice none 0 0, .slice none 0 0] w fun e w' => e = .returned (.bool true) ∧ w' = w := by
  have HE := Lib.hid (equal_nil w)
  go_enter Tryz.func7, Tryz.ntmps7
  go_wp2_with fail
  go_at_call 20
  refine HE.out.mono ?_
  rintro e w' ⟨rfl, rfl⟩
  go_wp2
  go_ret
  exact ⟨rfl, rfl⟩
theorem copied_nil (w : World) : Calls Tryz.prog 27 #[.slice none 0 0] w fun e w' => e = .returned (.slice none 0 0) ∧ w' = w := by
  obtain ⟨i0, hi0, hs0⟩ := Option.map_eq_some_iff.1 infoR
  go_enter Tryz.func27, Tryz.ntmps27
  go_wp2_with (first
    | (at_builtin; refine wpList_append_own_none rfl _ _ 36 rfl w.heap.size 27 i0 9 Tryz.underlying36 hi0 _ 0 [] rfl (World.ownsRow_nil _ _ _ _) rfl ?_))
  go_ret
  exact ⟨rfl, rfl⟩
theorem inTurn_is (p : Option Addr) (n c : Nat) (w : World) : Calls Tryz.prog 31 #[.slice p n c] w fun e w' => ∃ f c a, e = .returned (.func f c a) ∧ Below w.heap.size w w' := by
  go_enter Tryz.func31, Tryz.ntmps31
  go_wp2
  go_ret
  exact ⟨_, _, _, rfl, (Below.refl _ _).alloc (Nat.le_refl _) _⟩
theorem order_is (w : World) : Calls Tryz.prog 19 #[] w fun e w' => ∃ f c a, e = .returned (.func f c a) ∧ Below w.heap.size w w' := by
  go_enter Tryz.func19, Tryz.ntmps19
  go_wp2_with fail
  go_at_call 31
  refine (inTurn_is _ _ _ _).mono ?_
  rintro e w' ⟨f, c, a, rfl, hb⟩
  have hb := Lib.hid (Below.step ((Below.refl _ _).alloc (Nat.le_refl _) _) hb)
  go_wp2
  go_ret
  exact ⟨_, _, _, rfl, hb.out⟩
theorem even_is (f : Fn) (c a : Array Value) (w : World) : Calls Tryz.prog 30 #[.func f c a] w fun e w' => ∃ f c a, e = .returned (.func f c a) ∧ Below w.heap.size w w' := by
  go_enter Tryz.func30, Tryz.ntmps30
  go_wp2
  go_ret
  exact ⟨_, _, _, rfl, (Below.refl _ _).alloc (Nat.le_refl _) _⟩
theorem compact_nil (v : Value) (w : World) : Calls Tryz.prog 29 #[.slice none 0 0, v] w fun e w' => e = .returned (.slice none 0 0) ∧ w' = w := by
  go_enter Tryz.func29, Tryz.ntmps29
  go_wp2
  go_ret
  exact ⟨rfl, rfl⟩
theorem sortf_nil (v : Value) (w : World) : Calls Tryz.prog 28 #[.slice none 0 0, v] w fun e w' => e = .returned (.tuple #[]) ∧ w' = w := by
  have h := AnyF.slices_SortFunc_none { Tryz.sortL with } none 0 v w
  exact h
theorem sorted_nil (f : Fn) (c a : Array Value) (w : World) : Calls Tryz.prog 18 #[.slice none 0 0, .func f c a] w fun e w' => e = .returned (.slice none 0 0) ∧ Below w.heap.size w w' := by
  have HC := Lib.hid (copied_nil w)
  have HS := Lib.hid (sortf_nil (.func f c a) w)
  have HE := Lib.hid (even_is f c a w)
  go_enter Tryz.func18, Tryz.ntmps18
  go_wp2_with fail
  go_at_call 27
  refine HC.out.mono ?_
  rintro e w' ⟨rfl, rfl⟩
  go_wp2_with fail
  go_at_call 28
  refine HS.out.mono ?_
  rintro e w' ⟨rfl, rfl⟩
  go_wp2_with fail
  go_at_call 30
  refine HE.out.mono ?_
  rintro e w2 ⟨f2, c2, a2, rfl, hb⟩
  have HB := Lib.hid hb
  clear hb
  go_wp2_with fail
  go_at_call 29
  refine (compact_nil _ _).mono ?_
  rintro e w3 ⟨rfl, rfl⟩
  go_wp2
  go_ret
  exact ⟨rfl, HB.out⟩
theorem sort_nil (w : World) : Calls Tryz.prog 6 #[.slice none 0 0] w fun e w' => e = .returned (.slice none 0 0) ∧ Below w.heap.size w w' := by
  have HO := Lib.hid (order_is w)
  go_enter Tryz.func6, Tryz.ntmps6
  go_wp2_with fail
  go_at_call 19
  refine HO.out.mono ?_
  rintro e w2 ⟨f2, c2, a2, rfl, hb⟩
  have HB := Lib.hid hb
  clear hb
  go_wp2_with fail
  go_at_call 18
  refine (sorted_nil _ _ _ _).mono ?_
  rintro e w3 ⟨rfl, hb⟩
  have HB := Lib.hid (Below.step HB.out hb)
  clear hb
  go_wp2
  go_ret
  exact ⟨rfl, HB.out⟩
end Go.Proofs.YtdladbdcpnkggaaGreatDoor
