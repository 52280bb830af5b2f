/- What sign and begins of package waymarkref07 hand back. No condition but those named. -/
import Derived.Test.YtiadflipakjeeaaLxS
namespace Go.Proofs.Ytiadflipakjeeaa
open Go.RowKit
set_option maxRecDepth 100000 in
set_option maxHeartbeats 4000000 in
theorem rsign_is (C : Int) (W : World) : Calls Try.prog 23 #[.int .u8 C] W fun e w' => e = .returned (.int .u8 (sgn C)) ∧ W = w' := by
  rcases sgn_ways C with ⟨h1, hb⟩ | ⟨h1, hb⟩ | ⟨h1, hb⟩ | ⟨h1, hb⟩ | ⟨h1, hb⟩ | ⟨h1, h2, h3, h4, h5, hb⟩
  all_goals
    rw [hb]
    try (have e1 : (C == 123) = false := by simp; omega)
    try (have e2 : (C == 125) = false := by simp; omega)
    try (have e3 : (C == 59) = false := by simp; omega)
    try (have e4 : (C == 91) = false := by simp; omega)
    try (have e5 : (C == 93) = false := by simp; omega)
    clear hb
    go_enter Try.func23, Try.ntmps23
    go_wp2
    go_ret
    exact ⟨rfl, rfl⟩
theorem two_at (l : List UInt8) (i : Nat) (h : i + 1 < l.length) : [47, 42].isPrefixOf (l.drop i) = ((l[i]'(by omega)) == 47 && (l[i + 1]'h) == 42) := by
  rw [List.drop_eq_getElem_cons (by omega : i < l.length), List.drop_eq_getElem_cons h]
  simp only [List.isPrefixOf, Bool.and_true]
  rw [Bool.eq_iff_iff]
  simp only [Bool.and_eq_true, beq_iff_eq]
  exact ⟨fun ⟨a, b⟩ => ⟨a.symm, b.symm⟩, fun ⟨a, b⟩ => ⟨a.symm, b.symm⟩⟩
theorem two_end (l : List UInt8) (i : Nat) (h : ¬ i + 1 < l.length) : [47, 42].isPrefixOf (l.drop i) = false :=
  pre_long _ _ (by rw [List.length_drop]; simp; omega)
set_option maxRecDepth 100000 in
set_option maxHeartbeats 4000000 in
theorem begins_is (l : List UInt8) (i : Nat) (hi : i ≤ 65536) (W : World) : Calls Try.prog 20 #[.string ⟨l.toArray⟩, .int .i64 i] W fun e w' => e = .returned (.bool ([47, 42].isPrefixOf (l.drop i))) ∧ W = w' := by
  have hsz := mk_size l
  by_cases h : i + 1 < l.length
  · rw [two_at l i h]
    have hi1 : i < (⟨l.toArray⟩ : ByteArray).size := by rw [mk_size]; omega
    have hi2 : i + 1 < (⟨l.toArray⟩ : ByteArray).size := by rw [mk_size]; exact h
    have g1 := get_at' l i hi1 (by omega)
    have g2 := get_at' l (i + 1) hi2 h
    have hd : decide ((i : Int) + 1 < (l.length : Int)) = true := by simp; omega
    have hd1 : (i : Int) + 1 < (l.length : Int) := by omega
    have hd2 : (i : Int) < (l.length : Int) := by omega
    obtain ⟨x, hx⟩ : ∃ x, ((l[i]'(by omega)) == 47) = x := ⟨_, rfl⟩
    obtain ⟨y, hy⟩ : ∃ y, ((l[i + 1]'h) == 42) = y := ⟨_, rfl⟩
    have f1 : ((((⟨l.toArray⟩ : ByteArray)[i]'hi1).toNat : Int) == 47) = x := by
      rw [g1, ← hx, Bool.eq_iff_iff]
      simp only [beq_iff_eq]
      exact ⟨fun h => UInt8.toNat_inj.mp (by have h10 : (47 : UInt8).toNat = 47 := rfl; omega), fun h => by rw [h]; rfl⟩
    have f2 : ((((⟨l.toArray⟩ : ByteArray)[i + 1]'hi2).toNat : Int) == 42) = y := by
      rw [g2, ← hy, Bool.eq_iff_iff]
      simp only [beq_iff_eq]
      exact ⟨fun h => UInt8.toNat_inj.mp (by have h10 : (42 : UInt8).toNat = 42 := rfl; omega), fun h => by rw [h]; rfl⟩
    rw [hx, hy]
    clear hx hy g1 g2
    cases x <;> cases y
    all_goals
      go_enter Try.func20, Try.ntmps20
      go_wp2
      go_ret
      exact ⟨ret_bool (by first | rfl | simp), rfl⟩
  · rw [two_end l i h]
    have hd : decide ((i : Int) + 1 < (l.length : Int)) = false := by simp; omega
    have hd1 : ¬ (i : Int) + 1 < (l.length : Int) := by omega
    go_enter Try.func20, Try.ntmps20
    go_wp2
    go_ret
    exact ⟨ret_bool (by first | rfl | simp), rfl⟩
end Go.Proofs.Ytiadflipakjeeaa
