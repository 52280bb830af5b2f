/- What the sets of package waymarkref02 are (Form, Or, And, Less, Not, Count), and the two helpers of the statements (large, awake). Under the conditions that they name. -/
import Derived.Test.YtbplkeopdfciiaaDoorSpMade
namespace Go.Proofs.YtbplkeopdfciiaaDoor
open Go.RowKit
theorem NewSet_congr {T T' : Nat → Bool} (h : ∀ x, x < top → T x = T' x) : NewSet T = NewSet T' := by
  unfold NewSet; rw [Cn_congr h]
theorem rform_is (l : List (Nat × Nat)) (v : Value) (w : World) (hr : Rd w v l) (hlen : l.length ≤ 400000000) :
    Calls Tryd.prog 20 #[v] w (NewSet (has l) w) := by
  have h := made_is l [] v (.slice none 0 0) 4294967295 1 (by simp) w hr (Rd.nil w) (by rw [top_def]; omega) (by simpa using hlen)
  rw [NewSet_congr (T' := has l) (fun x hx => by rw [top_def] at hx; have h : x ≤ 4294967295 := (by omega); simp [mdT, soB, h, has_nil])] at h
  have H := Lib.hid h
  clear h
  go_enter Tryd.func20, Tryd.ntmps20
  go_wp2_with fail
  go_at_call 32
  refine H.out.mono ?_
  rintro e w1 ⟨v1, rfl, ho, hb⟩
  go_wp2
  go_ret
  exact ⟨_, rfl, ho, hb⟩
theorem large_no (p q : Option Addr) (n m c d : Nat) (w : World) (h1 : n ≤ 200) (h2 : m ≤ 200) :
    Calls Tryd.prog 5 #[.slice p n c, .slice q m d] w fun e w' => e = .returned (.bool false) ∧ w = w' := by
  have d1 : decide (200 < n) = false := by simp; omega
  have d2 : decide (200 < m) = false := by simp; omega
  go_enter Tryd.func5, Tryd.ntmps5
  go_wp2
  go_ret
  exact ⟨ret_bool (by simp; try omega), rfl⟩
theorem large_yes (p q : Option Addr) (n m c d : Nat) (w : World) (h : 200 < n ∨ 200 < m) :
    Calls Tryd.prog 5 #[.slice p n c, .slice q m d] w fun e w' => e = .returned (.bool true) ∧ w = w' := by
  by_cases h1 : 200 < n
  · have d1 : decide (200 < n) = true := by simpa using h1
    go_enter Tryd.func5, Tryd.ntmps5
    go_wp2
    go_ret
    exact ⟨rfl, rfl⟩
  · have d1 : decide (200 < n) = false := by simpa using h1
    have d2 : decide (200 < m) = true := by simp; omega
    go_enter Tryd.func5, Tryd.ntmps5
    go_wp2
    go_ret
    exact ⟨ret_bool (by simp; try omega), rfl⟩
theorem wake_form : Cn (has [(4, 6), (1, 3)]) = [(1, 6)] := by
  symm
  refine Cn_eq ⟨by simp, by simp⟩ (by simp [top_def]) fun x _ => ?_
  rw [Bool.eq_iff_iff]; simp [has]; omega
set_option maxHeartbeats 400000 in
theorem awake_is (w : World) : Calls Tryd.prog 6 #[] w fun e w' => e = .returned (.bool true) ∧ Below w.heap.size w w' := by
  have hR : Rd (w.alloc (.cells #[.int .u32 4, .int .u32 6, .int .u32 1, .int .u32 3] 33)) (.slice (some ⟨w.heap.size, 0, none⟩) 2 2) [(4, 6), (1, 3)] := by
    refine ⟨fun s hs => by simp at hs; rcases hs with rfl | rfl <;> simp [top_def], .inr ⟨w.heap.size, 0, 2, rfl, Nat.le_refl _, by unfold maxLen; omega, by simp, fun i s hi => ?_⟩⟩
    rw [cell_of_heap (heap_new _ _), cell_of_heap (heap_new _ _)]
    match i, hi with
    | 0, hi => simp at hi; subst hi; exact ⟨rfl, rfl⟩
    | 1, hi => simp at hi; subst hi; exact ⟨rfl, rfl⟩
    | i + 2, hi => simp at hi
  have H := Lib.hid (form_is _ _ _ hR (by simp))
  clear hR
  go_enter Tryd.func6, Tryd.ntmps6
  go_wp2_with fail
  go_at_call 12
  refine H.out.mono ?_
  rintro e w1 ⟨v1, rfl, ho, hb1⟩
  rw [wake_form] at ho
  have hb01 : Below w.heap.size w w1 := Below.step ((Below.refl _ _).alloc (Nat.le_refl _) _) hb1
  have HC := Lib.hid (count_is _ v1 w1 ho.rd (by simp))
  have HR := Lib.hid ho.rd
  rcases ho.row with ⟨_, h⟩ | ⟨g, cap, rfl, hg, hle, hcap, hrow, hglt⟩
  · cases h
  obtain ⟨c1, c2⟩ := hrow.cellL (k := 0) (s := (1, 6)) (Nat.le_refl _) rfl
  have hq := eql_run 1 6 1 6
  have hg1 := fun op a b w => guard_run op a b 1 6 1 6 w
  have h1 : Cn (has [(1, 6)]) = [(1, 6)] := Cn_self ⟨by simp, by simp⟩ (by simp [top_def])
  have h2 : cnt (Cn (has [(1, 6)])) = 6 := by rw [h1]; rfl
  rw [h2] at HC
  clear ho h1 h2 H hrow
  go_wp2_with fail
  go_at_call 14
  refine HC.out.mono ?_
  rintro e w2 ⟨rfl, hb2⟩
  have HR2 := HR.out.below hb2
  have HR3 := Lib.hid HR2
  clear HR2 c1 c2
  go_wp2_with fail
  go_at_call 15
  refine (has_any _ _ 5 w2 HR3.out (by omega) (by simp)).mono ?_
  rintro e w3 ⟨rfl, hb3⟩
  have h5 : has [(1, 6)] (5 : Int).toNat = true := by decide
  rw [h5]
  clear h5
  go_wp2_with fail
  go_at_call 15
  refine (has_any _ _ 7 w3 (HR3.out.below hb3) (by omega) (by simp)).mono ?_
  rintro e w4 ⟨rfl, hb4⟩
  have h7 : has [(1, 6)] (7 : Int).toNat = false := by decide
  rw [h7]
  clear h7
  go_wp2
  go_ret
  exact ⟨rfl, Below.step (Below.step (Below.step hb01 hb2) hb3) hb4⟩
end Go.Proofs.YtbplkeopdfciiaaDoor
