/- Names: what letter, inName and Name of package lex, and Name of package waymarkref07, hand back. No condition but those named. -/
import Derived.Test.YtidcipefoplncaaLxM
import Derived.Test.YtidcipefoplncaaKit
import Derived.Test.YtidcipefoplncaaShelf
namespace Go.Proofs.Ytidcipefoplncaa
open Go.RowKit
/-- A letter's byte. -/
def lttr (C : Int) : Bool := (decide (97 ≤ C) && decide (C ≤ 122)) || (decide (65 ≤ C) && decide (C ≤ 90))
/-- A byte that may stand in a name. -/
def inNm (C : Int) : Bool := lttr C || (decide (48 ≤ C) && decide (C ≤ 57)) || C == 45 || C == 95 || C == 46 || C == 47
def Fc (C : Int) (a b c d e f g h i j l n : Bool) : Prop := (decide (97 ≤ C) = a) ∧ (decide (C ≤ 122) = b) ∧ (decide (65 ≤ C) = c) ∧ (decide (C ≤ 90) = d) ∧ (decide (48 ≤ C) = e) ∧ (decide (C ≤ 57) = f) ∧ ((C == 45) = g) ∧ ((C == 95) = h) ∧ ((C == 46) = i) ∧ ((C == 47) = j) ∧ (lttr C = l) ∧ (inNm C = n)
theorem ways (C : Int) (h0 : 0 ≤ C) (h1 : C < 256) : Fc C false true false true false true false false false false false false ∨ Fc C false true false true false true true false false false false true ∨ Fc C false true false true false true false false true false false true ∨ Fc C false true false true false true false false false true false true ∨ Fc C false true false true true true false false false false false true ∨ Fc C false true false true true false false false false false false false ∨ Fc C false true true true true false false false false false true true ∨ Fc C false true true false true false false false false false false false ∨ Fc C false true true false true false false true false false false true ∨ Fc C false true true false true false false false false false false false ∨ Fc C true true true false true false false false false false true true ∨ Fc C true false true false true false false false false false false false := by
  have h : (0 ≤ C ∧ C ≤ 44) ∨ (45 ≤ C ∧ C ≤ 45) ∨ (46 ≤ C ∧ C ≤ 46) ∨ (47 ≤ C ∧ C ≤ 47) ∨ (48 ≤ C ∧ C ≤ 57) ∨ (58 ≤ C ∧ C ≤ 64) ∨ (65 ≤ C ∧ C ≤ 90) ∨ (91 ≤ C ∧ C ≤ 94) ∨ (95 ≤ C ∧ C ≤ 95) ∨ (96 ≤ C ∧ C ≤ 96) ∨ (97 ≤ C ∧ C ≤ 122) ∨ (123 ≤ C ∧ C ≤ 255) := by omega
  unfold Fc
  rcases h with ⟨p, q⟩ | ⟨p, q⟩ | ⟨p, q⟩ | ⟨p, q⟩ | ⟨p, q⟩ | ⟨p, q⟩ | ⟨p, q⟩ | ⟨p, q⟩ | ⟨p, q⟩ | ⟨p, q⟩ | ⟨p, q⟩ | ⟨p, q⟩
  · refine Or.inl ?_
    have f : (decide (97 ≤ C) = false) ∧ (decide (C ≤ 122) = true) ∧ (decide (65 ≤ C) = false) ∧ (decide (C ≤ 90) = true) ∧ (decide (48 ≤ C) = false) ∧ (decide (C ≤ 57) = true) ∧ ((C == 45) = false) ∧ ((C == 95) = false) ∧ ((C == 46) = false) ∧ ((C == 47) = false) := ⟨decide_eq_false (by omega), decide_eq_true (by omega), decide_eq_false (by omega), decide_eq_true (by omega), decide_eq_false (by omega), decide_eq_true (by omega), beq_eq_false_iff_ne.2 (by omega), beq_eq_false_iff_ne.2 (by omega), beq_eq_false_iff_ne.2 (by omega), beq_eq_false_iff_ne.2 (by omega)⟩
    obtain ⟨f1, f2, f3, f4, f5, f6, f7, f8, f9, f10⟩ := f
    refine ⟨f1, f2, f3, f4, f5, f6, f7, f8, f9, f10, ?_, ?_⟩
    · unfold lttr; rw [f1, f2, f3, f4]; rfl
    · unfold inNm lttr; rw [f1, f2, f3, f4, f5, f6, f7, f8, f9, f10]; rfl
  · refine Or.inr <| Or.inl ?_
    have f : (decide (97 ≤ C) = false) ∧ (decide (C ≤ 122) = true) ∧ (decide (65 ≤ C) = false) ∧ (decide (C ≤ 90) = true) ∧ (decide (48 ≤ C) = false) ∧ (decide (C ≤ 57) = true) ∧ ((C == 45) = true) ∧ ((C == 95) = false) ∧ ((C == 46) = false) ∧ ((C == 47) = false) := ⟨decide_eq_false (by omega), decide_eq_true (by omega), decide_eq_false (by omega), decide_eq_true (by omega), decide_eq_false (by omega), decide_eq_true (by omega), beq_iff_eq.2 (by omega), beq_eq_false_iff_ne.2 (by omega), beq_eq_false_iff_ne.2 (by omega), beq_eq_false_iff_ne.2 (by omega)⟩
    obtain ⟨f1, f2, f3, f4, f5, f6, f7, f8, f9, f10⟩ := f
    refine ⟨f1, f2, f3, f4, f5, f6, f7, f8, f9, f10, ?_, ?_⟩
    · unfold lttr; rw [f1, f2, f3, f4]; rfl
    · unfold inNm lttr; rw [f1, f2, f3, f4, f5, f6, f7, f8, f9, f10]; rfl
  · refine Or.inr <| Or.inr <| Or.inl ?_
    have f : (decide (97 ≤ C) = false) ∧ (decide (C ≤ 122) = true) ∧ (decide (65 ≤ C) = false) ∧ (decide (C ≤ 90) = true) ∧ (decide (48 ≤ C) = false) ∧ (decide (C ≤ 57) = true) ∧ ((C == 45) = false) ∧ ((C == 95) = false) ∧ ((C == 46) = true) ∧ ((C == 47) = false) := ⟨decide_eq_false (by omega), decide_eq_true (by omega), decide_eq_false (by omega), decide_eq_true (by omega), decide_eq_false (by omega), decide_eq_true (by omega), beq_eq_false_iff_ne.2 (by omega), beq_eq_false_iff_ne.2 (by omega), beq_iff_eq.2 (by omega), beq_eq_false_iff_ne.2 (by omega)⟩
    obtain ⟨f1, f2, f3, f4, f5, f6, f7, f8, f9, f10⟩ := f
    refine ⟨f1, f2, f3, f4, f5, f6, f7, f8, f9, f10, ?_, ?_⟩
    · unfold lttr; rw [f1, f2, f3, f4]; rfl
    · unfold inNm lttr; rw [f1, f2, f3, f4, f5, f6, f7, f8, f9, f10]; rfl
  · refine Or.inr <| Or.inr <| Or.inr <| Or.inl ?_
    have f : (decide (97 ≤ C) = false) ∧ (decide (C ≤ 122) = true) ∧ (decide (65 ≤ C) = false) ∧ (decide (C ≤ 90) = true) ∧ (decide (48 ≤ C) = false) ∧ (decide (C ≤ 57) = true) ∧ ((C == 45) = false) ∧ ((C == 95) = false) ∧ ((C == 46) = false) ∧ ((C == 47) = true) := ⟨decide_eq_false (by omega), decide_eq_true (by omega), decide_eq_false (by omega), decide_eq_true (by omega), decide_eq_false (by omega), decide_eq_true (by omega), beq_eq_false_iff_ne.2 (by omega), beq_eq_false_iff_ne.2 (by omega), beq_eq_false_iff_ne.2 (by omega), beq_iff_eq.2 (by omega)⟩
    obtain ⟨f1, f2, f3, f4, f5, f6, f7, f8, f9, f10⟩ := f
    refine ⟨f1, f2, f3, f4, f5, f6, f7, f8, f9, f10, ?_, ?_⟩
    · unfold lttr; rw [f1, f2, f3, f4]; rfl
    · unfold inNm lttr; rw [f1, f2, f3, f4, f5, f6, f7, f8, f9, f10]; rfl
  · refine Or.inr <| Or.inr <| Or.inr <| Or.inr <| Or.inl ?_
    have f : (decide (97 ≤ C) = false) ∧ (decide (C ≤ 122) = true) ∧ (decide (65 ≤ C) = false) ∧ (decide (C ≤ 90) = true) ∧ (decide (48 ≤ C) = true) ∧ (decide (C ≤ 57) = true) ∧ ((C == 45) = false) ∧ ((C == 95) = false) ∧ ((C == 46) = false) ∧ ((C == 47) = false) := ⟨decide_eq_false (by omega), decide_eq_true (by omega), decide_eq_false (by omega), decide_eq_true (by omega), decide_eq_true (by omega), decide_eq_true (by omega), beq_eq_false_iff_ne.2 (by omega), beq_eq_false_iff_ne.2 (by omega), beq_eq_false_iff_ne.2 (by omega), beq_eq_false_iff_ne.2 (by omega)⟩
    obtain ⟨f1, f2, f3, f4, f5, f6, f7, f8, f9, f10⟩ := f
    refine ⟨f1, f2, f3, f4, f5, f6, f7, f8, f9, f10, ?_, ?_⟩
    · unfold lttr; rw [f1, f2, f3, f4]; rfl
    · unfold inNm lttr; rw [f1, f2, f3, f4, f5, f6, f7, f8, f9, f10]; rfl
  · refine Or.inr <| Or.inr <| Or.inr <| Or.inr <| Or.inr <| Or.inl ?_
    have f : (decide (97 ≤ C) = false) ∧ (decide (C ≤ 122) = true) ∧ (decide (65 ≤ C) = false) ∧ (decide (C ≤ 90) = true) ∧ (decide (48 ≤ C) = true) ∧ (decide (C ≤ 57) = false) ∧ ((C == 45) = false) ∧ ((C == 95) = false) ∧ ((C == 46) = false) ∧ ((C == 47) = false) := ⟨decide_eq_false (by omega), decide_eq_true (by omega), decide_eq_false (by omega), decide_eq_true (by omega), decide_eq_true (by omega), decide_eq_false (by omega), beq_eq_false_iff_ne.2 (by omega), beq_eq_false_iff_ne.2 (by omega), beq_eq_false_iff_ne.2 (by omega), beq_eq_false_iff_ne.2 (by omega)⟩
    obtain ⟨f1, f2, f3, f4, f5, f6, f7, f8, f9, f10⟩ := f
    refine ⟨f1, f2, f3, f4, f5, f6, f7, f8, f9, f10, ?_, ?_⟩
    · unfold lttr; rw [f1, f2, f3, f4]; rfl
    · unfold inNm lttr; rw [f1, f2, f3, f4, f5, f6, f7, f8, f9, f10]; rfl
  · refine Or.inr <| Or.inr <| Or.inr <| Or.inr <| Or.inr <| Or.inr <| Or.inl ?_
    have f : (decide (97 ≤ C) = false) ∧ (decide (C ≤ 122) = true) ∧ (decide (65 ≤ C) = true) ∧ (decide (C ≤ 90) = true) ∧ (decide (48 ≤ C) = true) ∧ (decide (C ≤ 57) = false) ∧ ((C == 45) = false) ∧ ((C == 95) = false) ∧ ((C == 46) = false) ∧ ((C == 47) = false) := ⟨decide_eq_false (by omega), decide_eq_true (by omega), decide_eq_true (by omega), decide_eq_true (by omega), decide_eq_true (by omega), decide_eq_false (by omega), beq_eq_false_iff_ne.2 (by omega), beq_eq_false_iff_ne.2 (by omega), beq_eq_false_iff_ne.2 (by omega), beq_eq_false_iff_ne.2 (by omega)⟩
    obtain ⟨f1, f2, f3, f4, f5, f6, f7, f8, f9, f10⟩ := f
    refine ⟨f1, f2, f3, f4, f5, f6, f7, f8, f9, f10, ?_, ?_⟩
    · unfold lttr; rw [f1, f2, f3, f4]; rfl
    · unfold inNm lttr; rw [f1, f2, f3, f4, f5, f6, f7, f8, f9, f10]; rfl
  · refine Or.inr <| Or.inr <| Or.inr <| Or.inr <| Or.inr <| Or.inr <| Or.inr <| Or.inl ?_
    have f : (decide (97 ≤ C) = false) ∧ (decide (C ≤ 122) = true) ∧ (decide (65 ≤ C) = true) ∧ (decide (C ≤ 90) = false) ∧ (decide (48 ≤ C) = true) ∧ (decide (C ≤ 57) = false) ∧ ((C == 45) = false) ∧ ((C == 95) = false) ∧ ((C == 46) = false) ∧ ((C == 47) = false) := ⟨decide_eq_false (by omega), decide_eq_true (by omega), decide_eq_true (by omega), decide_eq_false (by omega), decide_eq_true (by omega), decide_eq_false (by omega), beq_eq_false_iff_ne.2 (by omega), beq_eq_false_iff_ne.2 (by omega), beq_eq_false_iff_ne.2 (by omega), beq_eq_false_iff_ne.2 (by omega)⟩
    obtain ⟨f1, f2, f3, f4, f5, f6, f7, f8, f9, f10⟩ := f
    refine ⟨f1, f2, f3, f4, f5, f6, f7, f8, f9, f10, ?_, ?_⟩
    · unfold lttr; rw [f1, f2, f3, f4]; rfl
    · unfold inNm lttr; rw [f1, f2, f3, f4, f5, f6, f7, f8, f9, f10]; rfl
  · refine Or.inr <| Or.inr <| Or.inr <| Or.inr <| Or.inr <| Or.inr <| Or.inr <| Or.inr <| Or.inl ?_
    have f : (decide (97 ≤ C) = false) ∧ (decide (C ≤ 122) = true) ∧ (decide (65 ≤ C) = true) ∧ (decide (C ≤ 90) = false) ∧ (decide (48 ≤ C) = true) ∧ (decide (C ≤ 57) = false) ∧ ((C == 45) = false) ∧ ((C == 95) = true) ∧ ((C == 46) = false) ∧ ((C == 47) = false) := ⟨decide_eq_false (by omega), decide_eq_true (by omega), decide_eq_true (by omega), decide_eq_false (by omega), decide_eq_true (by omega), decide_eq_false (by omega), beq_eq_false_iff_ne.2 (by omega), beq_iff_eq.2 (by omega), beq_eq_false_iff_ne.2 (by omega), beq_eq_false_iff_ne.2 (by omega)⟩
    obtain ⟨f1, f2, f3, f4, f5, f6, f7, f8, f9, f10⟩ := f
    refine ⟨f1, f2, f3, f4, f5, f6, f7, f8, f9, f10, ?_, ?_⟩
    · unfold lttr; rw [f1, f2, f3, f4]; rfl
    · unfold inNm lttr; rw [f1, f2, f3, f4, f5, f6, f7, f8, f9, f10]; rfl
  · refine Or.inr <| Or.inr <| Or.inr <| Or.inr <| Or.inr <| Or.inr <| Or.inr <| Or.inr <| Or.inr <| Or.inl ?_
    have f : (decide (97 ≤ C) = false) ∧ (decide (C ≤ 122) = true) ∧ (decide (65 ≤ C) = true) ∧ (decide (C ≤ 90) = false) ∧ (decide (48 ≤ C) = true) ∧ (decide (C ≤ 57) = false) ∧ ((C == 45) = false) ∧ ((C == 95) = false) ∧ ((C == 46) = false) ∧ ((C == 47) = false) := ⟨decide_eq_false (by omega), decide_eq_true (by omega), decide_eq_true (by omega), decide_eq_false (by omega), decide_eq_true (by omega), decide_eq_false (by omega), beq_eq_false_iff_ne.2 (by omega), beq_eq_false_iff_ne.2 (by omega), beq_eq_false_iff_ne.2 (by omega), beq_eq_false_iff_ne.2 (by omega)⟩
    obtain ⟨f1, f2, f3, f4, f5, f6, f7, f8, f9, f10⟩ := f
    refine ⟨f1, f2, f3, f4, f5, f6, f7, f8, f9, f10, ?_, ?_⟩
    · unfold lttr; rw [f1, f2, f3, f4]; rfl
    · unfold inNm lttr; rw [f1, f2, f3, f4, f5, f6, f7, f8, f9, f10]; rfl
  · refine Or.inr <| Or.inr <| Or.inr <| Or.inr <| Or.inr <| Or.inr <| Or.inr <| Or.inr <| Or.inr <| Or.inr <| Or.inl ?_
    have f : (decide (97 ≤ C) = true) ∧ (decide (C ≤ 122) = true) ∧ (decide (65 ≤ C) = true) ∧ (decide (C ≤ 90) = false) ∧ (decide (48 ≤ C) = true) ∧ (decide (C ≤ 57) = false) ∧ ((C == 45) = false) ∧ ((C == 95) = false) ∧ ((C == 46) = false) ∧ ((C == 47) = false) := ⟨decide_eq_true (by omega), decide_eq_true (by omega), decide_eq_true (by omega), decide_eq_false (by omega), decide_eq_true (by omega), decide_eq_false (by omega), beq_eq_false_iff_ne.2 (by omega), beq_eq_false_iff_ne.2 (by omega), beq_eq_false_iff_ne.2 (by omega), beq_eq_false_iff_ne.2 (by omega)⟩
    obtain ⟨f1, f2, f3, f4, f5, f6, f7, f8, f9, f10⟩ := f
    refine ⟨f1, f2, f3, f4, f5, f6, f7, f8, f9, f10, ?_, ?_⟩
    · unfold lttr; rw [f1, f2, f3, f4]; rfl
    · unfold inNm lttr; rw [f1, f2, f3, f4, f5, f6, f7, f8, f9, f10]; rfl
  · refine Or.inr <| Or.inr <| Or.inr <| Or.inr <| Or.inr <| Or.inr <| Or.inr <| Or.inr <| Or.inr <| Or.inr <| Or.inr <| ?_
    have f : (decide (97 ≤ C) = true) ∧ (decide (C ≤ 122) = false) ∧ (decide (65 ≤ C) = true) ∧ (decide (C ≤ 90) = false) ∧ (decide (48 ≤ C) = true) ∧ (decide (C ≤ 57) = false) ∧ ((C == 45) = false) ∧ ((C == 95) = false) ∧ ((C == 46) = false) ∧ ((C == 47) = false) := ⟨decide_eq_true (by omega), decide_eq_false (by omega), decide_eq_true (by omega), decide_eq_false (by omega), decide_eq_true (by omega), decide_eq_false (by omega), beq_eq_false_iff_ne.2 (by omega), beq_eq_false_iff_ne.2 (by omega), beq_eq_false_iff_ne.2 (by omega), beq_eq_false_iff_ne.2 (by omega)⟩
    obtain ⟨f1, f2, f3, f4, f5, f6, f7, f8, f9, f10⟩ := f
    refine ⟨f1, f2, f3, f4, f5, f6, f7, f8, f9, f10, ?_, ?_⟩
    · unfold lttr; rw [f1, f2, f3, f4]; rfl
    · unfold inNm lttr; rw [f1, f2, f3, f4, f5, f6, f7, f8, f9, f10]; rfl
set_option maxRecDepth 100000 in
set_option maxHeartbeats 2000000 in
theorem letter_is (C : Int) (h0 : 0 ≤ C) (h1 : C < 256) (w : World) : Calls Try.prog 16 #[.int .u8 C] w fun e w' => e = .returned (.bool (lttr C)) ∧ w = w' := by
  rcases ways C h0 h1 with ⟨f1, f2, f3, f4, f5, f6, f7, f8, f9, f10, fl, fi⟩ | ⟨f1, f2, f3, f4, f5, f6, f7, f8, f9, f10, fl, fi⟩ | ⟨f1, f2, f3, f4, f5, f6, f7, f8, f9, f10, fl, fi⟩ | ⟨f1, f2, f3, f4, f5, f6, f7, f8, f9, f10, fl, fi⟩ | ⟨f1, f2, f3, f4, f5, f6, f7, f8, f9, f10, fl, fi⟩ | ⟨f1, f2, f3, f4, f5, f6, f7, f8, f9, f10, fl, fi⟩ | ⟨f1, f2, f3, f4, f5, f6, f7, f8, f9, f10, fl, fi⟩ | ⟨f1, f2, f3, f4, f5, f6, f7, f8, f9, f10, fl, fi⟩ | ⟨f1, f2, f3, f4, f5, f6, f7, f8, f9, f10, fl, fi⟩ | ⟨f1, f2, f3, f4, f5, f6, f7, f8, f9, f10, fl, fi⟩ | ⟨f1, f2, f3, f4, f5, f6, f7, f8, f9, f10, fl, fi⟩ | ⟨f1, f2, f3, f4, f5, f6, f7, f8, f9, f10, fl, fi⟩
  all_goals
    rw [fl]
    clear fl fi f5 f6 f7 f8 f9 f10
    go_enter Try.func16, Try.ntmps16
    go_wp2
    go_ret
    exact ⟨rfl, rfl⟩
theorem indexByte_in (C : Int) (h0 : 0 ≤ C) (h1 : C < 256) : decide (0 ≤ Lib.indexByte [45, 95, 46, 47] C.toNat.toUInt8) = (C == 45 || C == 95 || C == 46 || C == 47) := by
  obtain ⟨N, rfl⟩ := Int.eq_ofNat_of_zero_le h0
  have h : ∀ n : Fin 256, decide (0 ≤ Lib.indexByte [45, 95, 46, 47] ((n.val : Int)).toNat.toUInt8) = ((n.val : Int) == 45 || (n.val : Int) == 95 || (n.val : Int) == 46 || (n.val : Int) == 47) := by decide +kernel
  exact h ⟨N, by omega⟩
set_option maxRecDepth 100000 in
set_option maxHeartbeats 4000000 in
theorem inName_is (C : Int) (h0 : 0 ≤ C) (h1 : C < 256) (w : World) : Calls Try.prog 17 #[.int .u8 C] w fun e w' => e = .returned (.bool (inNm C)) ∧ w = w' := by
  have HL : Hid (∀ W, Calls Try.prog 16 #[.int .u8 C] W fun e w' => e = .returned (.bool (lttr C)) ∧ W = w') := Lib.hid fun W => letter_is C h0 h1 W
  have hix := indexByte_in C h0 h1
  obtain ⟨X, hX⟩ : ∃ X, Lib.indexByte [45, 95, 46, 47] C.toNat.toUInt8 = X := ⟨_, rfl⟩
  have HI : Hid (∀ W, Calls Try.prog 33 #[.string ⟨#[45, 95, 46, 47]⟩, .int .u8 C] W fun e w' => e = .returned (.int .i64 X) ∧ w' = W) := Lib.hid fun W => by rw [← hX]; exact Try.strings_IndexByte ⟨#[45, 95, 46, 47]⟩ C W
  rw [hX] at hix
  clear hX
  rcases ways C h0 h1 with ⟨f1, f2, f3, f4, f5, f6, f7, f8, f9, f10, fl, fi⟩ | ⟨f1, f2, f3, f4, f5, f6, f7, f8, f9, f10, fl, fi⟩ | ⟨f1, f2, f3, f4, f5, f6, f7, f8, f9, f10, fl, fi⟩ | ⟨f1, f2, f3, f4, f5, f6, f7, f8, f9, f10, fl, fi⟩ | ⟨f1, f2, f3, f4, f5, f6, f7, f8, f9, f10, fl, fi⟩ | ⟨f1, f2, f3, f4, f5, f6, f7, f8, f9, f10, fl, fi⟩ | ⟨f1, f2, f3, f4, f5, f6, f7, f8, f9, f10, fl, fi⟩ | ⟨f1, f2, f3, f4, f5, f6, f7, f8, f9, f10, fl, fi⟩ | ⟨f1, f2, f3, f4, f5, f6, f7, f8, f9, f10, fl, fi⟩ | ⟨f1, f2, f3, f4, f5, f6, f7, f8, f9, f10, fl, fi⟩ | ⟨f1, f2, f3, f4, f5, f6, f7, f8, f9, f10, fl, fi⟩ | ⟨f1, f2, f3, f4, f5, f6, f7, f8, f9, f10, fl, fi⟩
  all_goals
    rw [fl] at HL
    rw [fi]
    simp only [f7, f8, f9, f10, Bool.or_false, Bool.or_true, Bool.true_or, Bool.false_or] at hix
    clear fl fi f1 f2 f3 f4 f7 f8 f9 f10
    go_enter Try.func17, Try.ntmps17
    go_wp2_with (first | (go_at_call 16; (with_reducible refine (HL.out _).mono ?_); rintro e w1 ⟨rfl, rfl⟩) | (go_at_call 33; (with_reducible refine (HI.out _).mono ?_); rintro e w1 ⟨rfl, rfl⟩))
    go_ret
    exact ⟨rfl, rfl⟩
/-- Is a text a name? -/
def nameB (l : List UInt8) : Bool := decide (1 ≤ l.length) && decide (l.length ≤ 32) && (l.head?.any fun c => lttr c.toNat) && l.all fun c => inNm c.toNat
theorem name_len {l : List UInt8} (h : l.length = 0 ∨ 32 < l.length) : nameB l = false := by
  unfold nameB
  rcases h with h | h
  · simp [h]
  · rw [show decide (l.length ≤ 32) = false by simp; omega]; simp
theorem name_head {l : List UInt8} (h : 0 < l.length) (hl : lttr (l[0]).toNat = false) : nameB l = false := by
  cases l with
  | nil => simp at h
  | cons c r => unfold nameB; simp at hl; simp [hl]
theorem name_at {l : List UInt8} {k : Nat} (h : k < l.length) (hl : inNm (l[k]).toNat = false) : nameB l = false := by
  unfold nameB
  have : (l.all fun c => inNm c.toNat) = false := by
    rw [List.all_eq_false]
    exact ⟨l[k], List.getElem_mem h, by simp [hl]⟩
  rw [this]; simp
theorem name_yes {l : List UInt8} (h : 0 < l.length) (h2 : l.length ≤ 32) (hl : lttr (l[0]).toNat = true) (ha : (l.all fun c => inNm c.toNat) = true) : nameB l = true := by
  cases l with
  | nil => simp at h
  | cons c r =>
    unfold nameB
    rw [ha]
    simp at hl h2
    simp [hl, h2]
theorem all_more {l : List UInt8} {k : Nat} (h : k < l.length) (ha : ((l.take k).all fun c => inNm c.toNat) = true) (hi : inNm (l[k]).toNat = true) : ((l.take (k + 1)).all fun c => inNm c.toNat) = true := by
  rw [List.take_succ_eq_append_getElem h, List.all_append, ha]
  simp [hi]
set_option maxRecDepth 100000 in
set_option maxHeartbeats 4000000 in
theorem name_is (s : ByteArray) (w : World) (hs : s.size ≤ 9223372036854775807) : Calls Try.prog 8 #[.string s] w fun e w' => e = .returned (.bool (nameB s.data.toList)) ∧ w = w' := by
  by_cases h0 : s.size = 0
  · have e : s.data.toList = [] := List.eq_nil_of_length_eq_zero (by rw [str_toList]; exact h0)
    have H : Hid (nameB s.data.toList = false) := Lib.hid (name_len (.inl (by rw [e]; rfl)))
    have hE : s.toList.isEmpty = true := by rw [Lib.toList_data, e]; rfl
    clear e h0
    go_enter Try.func8, Try.ntmps8
    go_wp2_with fail
    go_ret
    exact ⟨ret_bool H.out.symm, rfl⟩
  · have hpos : 0 < s.size := by omega
    have hne : s.data.toList ≠ [] := fun h => by have := str_toList s; rw [h] at this; simp at this; omega
    have hE : s.toList.isEmpty = false := by rw [Lib.toList_data]; simpa using hne
    by_cases h32 : 32 < s.size
    · have H : Hid (nameB s.data.toList = false) := Lib.hid (name_len (.inr (by rw [str_toList]; exact h32)))
      have hd : decide ((32 : Int) < (s.size : Int)) = true := by simp; omega
      clear h0 hne
      go_enter Try.func8, Try.ntmps8
      go_wp2_with fail
      go_ret
      exact ⟨ret_bool H.out.symm, rfl⟩
    · have hd : decide ((32 : Int) < (s.size : Int)) = false := by simp; omega
      have hl0 : 0 < s.data.toList.length := by rw [str_toList]; exact hpos
      have hget := get_at s 0 hpos hl0
      have hb := (s[0]'hpos).toNat_lt
      obtain ⟨y, hy⟩ : ∃ y, lttr ((s[0]'hpos).toNat : Int) = y := ⟨_, rfl⟩
      have HL : Hid (∀ W, Calls Try.prog 16 #[.int .u8 ((s[0]'hpos).toNat : Int)] W fun e w' => e = .returned (.bool y) ∧ W = w') := Lib.hid fun W => by rw [← hy]; exact letter_is _ (by omega) (by omega) W
      rw [← hget] at hy
      cases y with
      | false =>
        have H : Hid (nameB s.data.toList = false) := Lib.hid (name_head hl0 hy)
        clear h0 hne hy hget hb hl0
        go_enter Try.func8, Try.ntmps8
        go_wp2_with (go_at_call 16; (with_reducible refine (HL.out _).mono ?_); rintro e w1 ⟨rfl, rfl⟩)
        go_ret
        exact ⟨ret_bool H.out.symm, rfl⟩
      | true =>
        have HY : Hid (∀ h : 0 < s.data.toList.length, lttr (s.data.toList[0]).toNat = true) := Lib.hid fun _ => hy
        clear h0 hne hy hget hb hl0
        go_enter Try.func8, Try.ntmps8
        go_wp2_with (go_at_call 16; (with_reducible refine (HL.out _).mono ?_); rintro e w1 ⟨rfl, rfl⟩)
        go_loop [19] (fun s19 => ∃ k : Nat, k ≤ s.size ∧ s19 = .int .i64 k ∧ Hid (((s.data.toList.take k).all fun c => inNm c.toNat) = true)) (fun s19 => s.size - (intOf s19).toNat)
        case atStart => exact ⟨0, by omega, rfl, Lib.hid (by simp)⟩
        case round =>
          obtain ⟨k, hk, rfl, HA⟩ := hrel
          by_cases hlt : k < s.size
          · have hkl : k < s.data.toList.length := by rw [str_toList]; exact hlt
            have hget := get_at s k hlt hkl
            have hb := (s[k]'hlt).toNat_lt
            obtain ⟨z, hz⟩ : ∃ z, inNm ((s[k]'hlt).toNat : Int) = z := ⟨_, rfl⟩
            have HN : Hid (∀ W, Calls Try.prog 17 #[.int .u8 ((s[k]'hlt).toNat : Int)] W fun e w' => e = .returned (.bool z) ∧ W = w') := Lib.hid fun W => by rw [← hz]; exact inName_is _ (by omega) (by omega) W
            rw [← hget] at hz
            cases z with
            | false =>
              have H : Hid (nameB s.data.toList = false) := Lib.hid (name_at hkl hz)
              clear hz hget hb
              go_wp2_with (go_at_call 17; (with_reducible refine (HN.out _).mono ?_); rintro e w1 ⟨rfl, rfl⟩)
              go_ret
              exact ⟨ret_bool H.out.symm, rfl⟩
            | true =>
              have HA2 := Lib.hid (all_more hkl HA.out hz)
              clear hz hget hb
              go_wp2_with (go_at_call 17; (with_reducible refine (HN.out _).mono ?_); rintro e w1 ⟨rfl, rfl⟩)
              go_round
              case rel => exact ⟨k + 1, by omega, by go_num, HA2⟩
              case measure => first | (simp [intOf]; done) | (simp [intOf]; omega)
          · obtain rfl : k = s.size := by omega
            have H : Hid (nameB s.data.toList = true) := Lib.hid (name_yes (by rw [str_toList]; exact hpos) (by rw [str_toList]; omega) (HY.out _) (by have := HA.out; rwa [List.take_of_length_le (by rw [str_toList]; omega)] at this))
            clear hlt
            go_wp2_with fail
            go_ret
            exact ⟨ret_bool H.out.symm, rfl⟩
end Go.Proofs.Ytidcipefoplncaa
