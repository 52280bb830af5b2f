/- What the law asks of a set's numbers, one by one; Each itself. Under the conditions that they name. -/
import Derived.Test.YtnlmploeildapaaSpEa
import Derived.Test.YtnlmploeildapaaSpSA
namespace Go.Proofs.Ytnlmploeildapaa
open Go.RowKit Go.Shelf
theorem KpE.setCell {n0 m0 : Nat} (W : World) {b k : Nat} (v : Value) (h0 : n0 ≤ b) (h1 : b < m0) : KpE n0 m0 W (W.setCell ⟨b, k, none⟩ v) :=
  ⟨(Below.refl n0 W).setCell (p := ⟨b, k, none⟩) h0 v, fun x cs t f hx hc => (Below.heap_setCell W ⟨b, k, none⟩ v x (by show x ≠ b; omega)).trans hc⟩
/-- What is still to come at span i, number y. -/
def restOf (F : List (Nat × Nat)) (i y : Nat) : List Nat := match F[i]? with
  | some s => List.range' y (s.2 + 1 - y) ++ nums (F.drop (i + 1))
  | none => []
/-- Where one is, when pre has come. -/
def St (F : List (Nat × Nat)) (pre : List Nat) (i y : Nat) : Prop := i ≤ F.length ∧ nums F = pre ++ restOf F i y ∧ ∀ s, F[i]? = some s → s.1 ≤ y ∧ y ≤ s.2
theorem nums_cons (s : Nat × Nat) (F : List (Nat × Nat)) : nums (s :: F) = List.range' s.1 (s.2 + 1 - s.1) ++ nums F := rfl
theorem st_start (F : List (Nat × Nat)) (hF : ∀ s ∈ F, s.1 ≤ s.2) : St F [] 0 (match F with | [] => 0 | s :: _ => s.1) := by
  cases F with
  | nil => exact ⟨Nat.le_refl _, rfl, fun s h => by simp at h⟩
  | cons s r =>
    refine ⟨Nat.zero_le _, ?_, fun t ht => ?_⟩
    · simp [restOf, nums_cons]
    · simp only [List.getElem?_cons_zero, Option.some.injEq] at ht
      subst ht
      exact ⟨Nat.le_refl _, hF _ (List.mem_cons_self ..)⟩
theorem rest_none {F : List (Nat × Nat)} {i y : Nat} (h : F.length ≤ i) : restOf F i y = [] := by
  unfold restOf
  rw [List.getElem?_eq_none h]
theorem rest_some {F : List (Nat × Nat)} {i y : Nat} {s : Nat × Nat} (h : F[i]? = some s) (hy : y ≤ s.2) : restOf F i y = y :: (List.range' (y + 1) (s.2 - y) ++ nums (F.drop (i + 1))) := by
  unfold restOf
  rw [h]
  simp only
  rw [show s.2 + 1 - y = (s.2 - y) + 1 by omega, List.range'_succ]
  rfl
theorem pre_snoc {l r : List Nat} {x : Nat} (h : l ++ [x] <+: l ++ r) : ∃ t, r = x :: t := by
  rw [List.prefix_append_right_inj] at h
  obtain ⟨t, ht⟩ := h
  exact ⟨t, by rw [← ht]; rfl⟩
/-- Another number than the one that is due: not the set's. -/
theorem st_no {F : List (Nat × Nat)} {pre : List Nat} {i y x : Nat} (h : St F pre i y) (hx : F.length ≤ i ∨ x ≠ y) : ¬ (pre ++ [x] <+: nums F) := by
  intro hp
  rw [h.2.1] at hp
  obtain ⟨t, ht⟩ := pre_snoc hp
  by_cases hi : F.length ≤ i
  · rw [rest_none hi] at ht; cases ht
  · obtain ⟨s, hs⟩ : ∃ s, F[i]? = some s := ⟨_, List.getElem?_eq_getElem (by omega)⟩
    rw [rest_some hs (h.2.2 s hs).2] at ht
    have := (List.cons.inj ht).1
    rcases hx with hx | hx
    · exact hi hx
    · exact hx this.symm
/-- The one that is due, and its span goes on. -/
theorem st_on {F : List (Nat × Nat)} {pre : List Nat} {i y : Nat} {s : Nat × Nat} (h : St F pre i y) (hs : F[i]? = some s) (hy : y + 1 ≤ s.2) : St F (pre ++ [y]) i (y + 1) := by
  refine ⟨h.1, ?_, fun t ht => ?_⟩
  · rw [h.2.1, rest_some hs (h.2.2 s hs).2]
    unfold restOf
    rw [hs]
    simp only
    rw [show s.2 + 1 - (y + 1) = s.2 - y by omega]
    simp
  · rw [hs] at ht
    cases ht
    have := h.2.2 s hs
    omega
/-- The one that is due, and its span ends. -/
theorem st_next {F : List (Nat × Nat)} {pre : List Nat} {i y y' : Nat} {s : Nat × Nat} (hF : ∀ s ∈ F, s.1 ≤ s.2) (h : St F pre i y) (hs : F[i]? = some s) (hy : s.2 < y + 1) (hn : ∀ t, F[i + 1]? = some t → y' = t.1) : St F (pre ++ [y]) (i + 1) y' := by
  have hil := (List.getElem?_eq_some_iff.1 hs).1
  refine ⟨by omega, ?_, fun t ht => ?_⟩
  · have hb := h.2.2 s hs
    rw [h.2.1, rest_some hs hb.2, show s.2 - y = 0 by omega]
    simp only [List.range'_zero, List.nil_append, List.append_assoc, List.singleton_append, List.append_cancel_left_eq, List.cons.injEq, true_and]
    by_cases hi : i + 1 < F.length
    · have ht : F[i + 1]? = some F[i + 1] := List.getElem?_eq_getElem hi
      rw [List.drop_eq_getElem_cons hi, nums_cons]
      unfold restOf
      rw [ht, hn _ ht]
    · rw [rest_none (by omega), List.drop_of_length_le (by omega)]
      rfl
  · rw [hn t ht]
    exact ⟨Nat.le_refl _, hF t (List.mem_of_getElem? ht)⟩
theorem st_end {F : List (Nat × Nat)} {i y : Nat} (h : St F (nums F) i y) : i = F.length := by
  by_cases hi : F.length ≤ i
  · have := h.1; omega
  · obtain ⟨s, hs⟩ : ∃ s, F[i]? = some s := ⟨_, List.getElem?_eq_getElem (by omega)⟩
    have h2 := h.2.1
    rw [rest_some hs (h.2.2 s hs).2] at h2
    have := congrArg List.length h2
    simp at this
/-- A value of one's own is a slice. -/
theorem own_spans {W : World} {B n k : Nat} {e : TypeId} {v : Value} {xs : List Value} (h : W.ownsRow B e k v n xs) : ∃ p c, v = .slice p n c := by
  rcases h.2 with ⟨rfl, rfl⟩ | ⟨g, cap, cur, rfl, hg, hh, _⟩
  · exact ⟨_, _, rfl⟩
  · exact ⟨_, _, rfl⟩
theorem each_is (l : List (Nat × Nat)) (v : Value) (w : World) (hr : Rd w v l) (hl : l.length ≤ 1000000000) : Calls Try.prog 6 #[v] w fun e w' => ∃ (b : Nat) (p : Option Addr) (c : Nat), e = .returned (.func (.func 11) #[] #[.pointer (some ⟨b, 0, none⟩)]) ∧ w'.heap[b]? = some (.cells #[.slice p (Cn (has l)).length c] 22 (0, 0)) ∧ Own w.heap.size w' (.slice p (Cn (has l)).length c) (Cn (has l)) ∧ w.heap.size ≤ b ∧ b < w'.heap.size ∧ (∀ g o k, p = some ⟨g, o, k⟩ → g < b) ∧ Below w.heap.size w w' := by
  have HF := Lib.hid (form_is l v w hr hl)
  clear hr
  go_enter Try.func6, Try.ntmps6
  go_wp2_with fail
  go_at_call 8
  refine HF.out.mono ?_
  rintro e w1 ⟨v1, rfl, ho, hb⟩
  obtain ⟨p, c, rfl⟩ := own_spans ho.2
  have HO := Lib.hid ho; have HB := Lib.hid hb
  have hz := hb.size
  clear ho hb
  go_wp2_with fail
  go_ret
  refine ⟨w1.heap.size, p, c, rfl, heap_alloc_new w1 _, HO.out.below ((Below.refl _ _).alloc (Nat.le_refl _) _), hz, by simp, fun g o k hp => ?_, HB.out.alloc hz _⟩
  subst hp
  exact (HO.out.2.lt g rfl).2
end Go.Proofs.Ytnlmploeildapaa
