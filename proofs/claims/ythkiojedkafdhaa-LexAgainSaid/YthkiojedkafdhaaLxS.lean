/- The reader of package lex: sign, atWordEnd, take where nothing is left. Under the conditions that they name. -/
import Derived.Test.YthkiojedkafdhaaLxF
namespace Go.Proofs.Ythkiojedkafdhaa
open Go.RowKit
/-- The kind of a sign; 0: it is none. -/
def sgn (C : Int) : Int := if C = 123 then 2 else if C = 125 then 3 else if C = 59 then 4 else if C = 91 then 5 else if C = 93 then 6 else 0
theorem sgn_ways (C : Int) : (C = 123 ∧ sgn C = 2) ∨ (C = 125 ∧ sgn C = 3) ∨ (C = 59 ∧ sgn C = 4) ∨ (C = 91 ∧ sgn C = 5) ∨ (C = 93 ∧ sgn C = 6) ∨ (C ≠ 123 ∧ C ≠ 125 ∧ C ≠ 59 ∧ C ≠ 91 ∧ C ≠ 93 ∧ sgn C = 0) := by
  by_cases h1 : C = 123
  · subst h1; exact .inl ⟨rfl, by decide⟩
  by_cases h2 : C = 125
  · subst h2; exact .inr (.inl ⟨rfl, by decide⟩)
  by_cases h3 : C = 59
  · subst h3; exact .inr (.inr (.inl ⟨rfl, by decide⟩))
  by_cases h4 : C = 91
  · subst h4; exact .inr (.inr (.inr (.inl ⟨rfl, by decide⟩)))
  by_cases h5 : C = 93
  · subst h5; exact .inr (.inr (.inr (.inr (.inl ⟨rfl, by decide⟩))))
  refine .inr (.inr (.inr (.inr (.inr ⟨h1, h2, h3, h4, h5, ?_⟩))))
  unfold sgn
  rw [if_neg h1, if_neg h2, if_neg h3, if_neg h4, if_neg h5]
set_option maxRecDepth 100000 in
set_option maxHeartbeats 4000000 in
theorem sign_is (g : Nat) (b : UInt8) (r : List UInt8) (ln c : Int) (W : World) (h : Rd W g (b :: r) ln c) : Calls Try.prog 23 #[.pointer (some ⟨g, 0, none⟩)] W fun e w' => e = .returned (.int .u8 (sgn b.toNat)) ∧ W = w' := by
  obtain ⟨k0, _⟩ := row_cell' (j := 0) h rfl
  have hs := mk_size (b :: r)
  have hpos : 0 < (⟨(b :: r).toArray⟩ : ByteArray).size := by rw [hs]; simp
  have hget := get_at' (b :: r) 0 hpos (by simp)
  obtain ⟨C, hC⟩ : ∃ C : Int, (b.toNat : Int) = C := ⟨_, rfl⟩
  have hC2 : ((((⟨(b :: r).toArray⟩ : ByteArray)[0]'hpos).toNat : Int)) = C := by rw [hget]; exact hC
  rw [hC]
  clear h hget hC
  rcases sgn_ways C with ⟨h1, hb⟩ | ⟨h1, hb⟩ | ⟨h1, hb⟩ | ⟨h1, hb⟩ | ⟨h1, hb⟩ | ⟨h1, h2, h3, h4, h5, hb⟩
  all_goals
    rw [hb]
    try (have e1 : (C == 123) = false := by simp; omega)
    try (have e2 : (C == 125) = false := by simp; omega)
    try (have e3 : (C == 59) = false := by simp; omega)
    try (have e4 : (C == 91) = false := by simp; omega)
    try (have e5 : (C == 93) = false := by simp; omega)
    clear hb
    go_enter Try.func23, Try.ntmps23
    go_wp2
    go_ret
    exact ⟨rfl, rfl⟩
/-- Does what is next end a word of a text of braces? A byte is left. -/
def pWord (l : List UInt8) : Bool := match l with
  | [] => false
  | b :: r => pBlank (b :: r) || (sgn b.toNat != 0) || [34].isPrefixOf (b :: r) || [35].isPrefixOf (b :: r) || [47, 42].isPrefixOf (b :: r)
set_option maxRecDepth 100000 in
set_option maxHeartbeats 4000000 in
theorem wordEnd_is (g : Nat) (b : UInt8) (r : List UInt8) (ln c : Int) (W : World) (h : Rd W g (b :: r) ln c) (hl : (b :: r).length ≤ 65536) : Calls Try.prog 27 #[.pointer (some ⟨g, 0, none⟩)] W fun e w' => e = .returned (.bool (pWord (b :: r))) ∧ W = w' := by
  have H1 := Lib.hid (blank_is g (b :: r) ln c W h (by omega))
  have H2 := Lib.hid (sign_is g b r ln c W h)
  have H3 := Lib.hid (at_is g (b :: r) [34] ln c W h (by omega))
  have H4 := Lib.hid (at_is g (b :: r) [35] ln c W h (by omega))
  have H5 := Lib.hid (at_is g (b :: r) [47, 42] ln c W h (by omega))
  unfold pWord
  simp only
  obtain ⟨x1, h1⟩ : ∃ x, pBlank (b :: r) = x := ⟨_, rfl⟩
  obtain ⟨x2, h2⟩ : ∃ x, sgn b.toNat = x := ⟨_, rfl⟩
  obtain ⟨x3, h3⟩ : ∃ x, [34].isPrefixOf (b :: r) = x := ⟨_, rfl⟩
  obtain ⟨x4, h4⟩ : ∃ x, [35].isPrefixOf (b :: r) = x := ⟨_, rfl⟩
  obtain ⟨x5, h5⟩ : ∃ x, [47, 42].isPrefixOf (b :: r) = x := ⟨_, rfl⟩
  obtain ⟨y2, hy⟩ : ∃ y, (x2 != 0) = y := ⟨_, rfl⟩
  rw [h1] at H1 ⊢
  rw [h2] at H2 ⊢
  rw [h3] at H3 ⊢
  rw [h4] at H4 ⊢
  rw [h5] at H5 ⊢
  rw [hy]
  clear h h1 h2 h3 h4 h5
  cases x1 <;> cases y2 <;> cases x3 <;> cases x4
  all_goals
    go_enter Try.func27, Try.ntmps27
    go_wp2_with (first | (go_at_call 21; (refine H1.out.mono ?_); rintro e w1 ⟨rfl, rfl⟩) | (go_at_call 23; (refine H2.out.mono ?_); rintro e w1 ⟨rfl, rfl⟩) | (go_at_call 19; (with_reducible refine H3.out.mono ?_); rintro e w1 ⟨rfl, rfl⟩) | (go_at_call 19; (with_reducible refine H4.out.mono ?_); rintro e w1 ⟨rfl, rfl⟩) | (go_at_call 19; (with_reducible refine H5.out.mono ?_); rintro e w1 ⟨rfl, rfl⟩))
    go_ret
    exact ⟨ret_bool (by first | rfl | simp), rfl⟩
set_option maxRecDepth 100000 in
theorem take_nil (g : Nat) (ln c : Int) (W : World) (h : Rd W g [] ln c) :
    Calls Try.prog 22 #[.pointer (some ⟨g, 0, none⟩), .int .i64 1] W fun e w' => e = .returned (.string ⟨#[]⟩) ∧ Rd w' g [] ln c ∧ W.grownBy w' (some g) := by
  obtain ⟨k0, kf0⟩ := row_cell' (j := 0) h rfl
  have HH := Lib.hid h
  clear h
  go_enter Try.func22, Try.ntmps22
  go_wp2_with fail
  go_quiet (fail)
  go_wp2_with fail
  refine wp_loop_rounds 1 ?_
  rw [rounds_succ]
  go_wp2
  go_ret
  exact ⟨rfl, Lib.heap_setCell_same (i := 0) HH.out _, gb_set (gb_draw W _ g) _ _⟩
end Go.Proofs.Ythkiojedkafdhaa
