/- Plain facts on how many numbers a set has. No condition; nothing here speaks of the program. -/
import Derived.Test.YtdjlbenjbhkfiaaSpGlue
namespace Go.Proofs.Ytdjlbenjbhkfiaa
theorem countP_or {p q : Nat → Bool} (l : List Nat) (h : ∀ x, p x = true → q x = false) : l.countP (fun x => p x || q x) = l.countP p + l.countP q := by
  induction l with
  | nil => rfl
  | cons a l ih =>
    simp only [List.countP_cons, ih]
    have := h a
    cases hp : p a <;> cases hq : q a <;> simp_all <;> omega
theorem countP_iv (n a b : Nat) : (List.range n).countP (fun x => decide (a ≤ x) && decide (x ≤ b)) = min n (b + 1) - min n a := by
  induction n with
  | zero => simp
  | succ n ih =>
    rw [List.range_succ, List.countP_append, ih]
    by_cases h1 : a ≤ n <;> by_cases h2 : n ≤ b <;> simp [h1, h2] <;> omega
theorem countP_le (n b : Nat) (h : b < n) : (List.range n).countP (fun x => decide (x ≤ b)) = b + 1 := by
  have := countP_iv n 0 b
  simp at this
  rw [this]; omega
theorem cnt_card {f : List (Nat × Nat)} (hc : Canon f) {n : Nat} (hb : ∀ s ∈ f, s.2 < n) : cnt f = (List.range n).countP (has f) := by
  induction f with
  | nil =>
    have : has [] = fun _ => false := funext fun x => has_nil x
    rw [this]; simp [cnt]
  | cons s l ih =>
    have e : has (s :: l) = fun x => (fun x => decide (s.1 ≤ x) && decide (x ≤ s.2)) x || has l x := funext fun x => has_cons s l x
    rw [e, countP_or, countP_iv, ← ih hc.tail fun t ht => hb t (List.mem_cons_of_mem _ ht)]
    · have := hb s List.mem_cons_self
      have := hc.some s List.mem_cons_self
      simp only [cnt]; omega
    · intro x hx
      simp only [Bool.and_eq_true, decide_eq_true_eq] at hx
      exact has_false.2 fun t ht h1 => by have := hc.head t ht; omega
theorem Cn_card (T : Nat → Bool) : cnt (Cn T) = (List.range top).countP T := by
  rw [cnt_card (Cn_canon T) (Cn_lt T)]
  refine List.countP_congr fun x hx => ?_
  rw [Cn_has]
  have := List.mem_range.1 hx
  simp [this]
theorem Cn_false : Cn (fun _ => false) = [] := (Cn_eq Canon.nil (by simp) fun _ _ => rfl).symm
/-- What is in a set up to most, and what is not, are most and 1 together. -/
theorem cnt_parts {T : Nat → Bool} {most : Nat} (h : most < top) : cnt (Cn fun x => T x && decide (x ≤ most)) + cnt (Cn fun x => decide (x ≤ most) && !T x) = most + 1 := by
  rw [Cn_card, Cn_card, ← countP_or _ (fun x hx => by simp at hx ⊢; intro _; exact hx.1), ← countP_le top most h]
  refine List.countP_congr fun x _ => ?_
  cases T x <;> simp
theorem cnt_top (T : Nat → Bool) : cnt (Cn T) ≤ top := by
  rw [Cn_card]
  have := List.countP_le_length (p := T) (l := List.range top)
  simpa using this
end Go.Proofs.Ytdjlbenjbhkfiaa
