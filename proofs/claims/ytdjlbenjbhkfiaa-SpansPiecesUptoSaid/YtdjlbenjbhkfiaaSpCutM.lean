/- Plain facts on the pieces into which numbers are cut. No condition; nothing here speaks of the program. -/
import Derived.Test.YtdjlbenjbhkfiaaSpBtw
namespace Go.Proofs.Ytdjlbenjbhkfiaa
theorem pp_at : ∀ (R : List Nat) (i a c : Nat), R[i]? = some a → R[i + 1]? = some c → (pp R)[i]? = some (a, c - 1) := by
  intro R
  induction R with
  | nil => intro i a c h; simp at h
  | cons x R ih =>
    intro i a c h1 h2
    cases R with
    | nil => simp at h2
    | cons y R =>
      cases i with
      | zero => simp at h1 h2; subst h1 h2; rfl
      | succ i => simp only [pp, List.getElem?_cons_succ] at h1 h2 ⊢; exact ih i a c (by simpa using h1) (by simpa using h2)
theorem pcs_at {most : Nat} {R : List Nat} {i c : Nat} (h : R[i]? = some c) : (pcs most R)[i]? = some (c, nxt most R (i + 1) - 1) := by
  have hi := (List.getElem?_eq_some_iff.1 h).1
  rcases List.eq_nil_or_concat R with rfl | ⟨A, a, rfl⟩
  · simp at h
  · rw [List.concat_eq_append] at *
    rw [pcs_snoc]
    have hl := pp_length A a
    by_cases hA : i < A.length
    · have h2 : (A ++ [a])[i + 1]? = some ((A ++ [a])[i + 1]'(by simp; omega)) := List.getElem?_eq_getElem _
      rw [List.getElem?_append_left (by omega), nxt_some h2]
      exact pp_at _ _ _ _ h h2
    · have e : i = A.length := by simp at hi; omega
      subst e
      simp at h
      subst h
      rw [List.getElem?_append_right (by omega), hl, nxt_none (by simp)]
      simp
theorem next_of {most : Nat} {R : List Nat} (hr : R.Pairwise (· < ·)) (hle : ∀ c ∈ R, c ≤ most) {i c : Nat} (hi : R[i]? = some c) : c < nxt most R (i + 1) ∧ nxt most R (i + 1) ≤ most + 1 ∧ ∀ d ∈ R, d ≤ c ∨ nxt most R (i + 1) ≤ d := by
  have hc := hle c (List.mem_of_getElem? hi)
  obtain ⟨hlt, rfl⟩ := List.getElem?_eq_some_iff.1 hi
  have hp := List.pairwise_iff_getElem.1 hr
  by_cases hl : i + 1 < R.length
  · have hs : R[i + 1]? = some R[i + 1] := List.getElem?_eq_getElem hl
    have h1 := hp i (i + 1) hlt hl (by omega)
    have h2 := hle _ (List.getElem_mem hl)
    rw [nxt_some hs]
    refine ⟨h1, by omega, fun d hd => ?_⟩
    obtain ⟨j, hj, rfl⟩ := List.getElem_of_mem hd
    rcases Nat.lt_trichotomy j i with a | a | a
    · exact .inl (Nat.le_of_lt (hp j i hj hlt a))
    · subst a; exact .inl (Nat.le_refl _)
    · rcases Nat.eq_or_lt_of_le a with b | b
      · subst b; exact .inr (Nat.le_refl _)
      · exact .inr (Nat.le_of_lt (hp (i + 1) j hl hj b))
  · rw [nxt_none (by omega)]
    refine ⟨by omega, by omega, fun d hd => .inl ?_⟩
    obtain ⟨j, hj, rfl⟩ := List.getElem_of_mem hd
    rcases Nat.eq_or_lt_of_le (show j ≤ i by omega) with a | a
    · subst a; exact Nat.le_refl _
    · exact Nat.le_of_lt (hp j i hj hlt a)
theorem Beg.first {most : Nat} {ls : List (List (Nat × Nat))} {R : List Nat} (h : Beg most ls R) : R[0]? = some 0 := by
  cases R with
  | nil => have := (h.mem 0).2 (.inl rfl); cases this
  | cons c R =>
    have hp := List.pairwise_cons.1 h.rising
    rcases List.mem_cons.1 ((h.mem 0).2 (.inl rfl)) with e | e
    · subst e; rfl
    · have := hp.1 0 e; omega
theorem has_form {l : List (Nat × Nat)} (hl : Small l) (x : Nat) : has (Cn (has l)) x = has l x := by
  rw [Cn_has]
  by_cases hx : x < top
  · simp [hx]
  · rw [has_top hl.two (by omega)]; simp
/-- Of one piece all numbers are in the same sets. -/
theorem Beg.still {most : Nat} {ls : List (List (Nat × Nat))} {R : List Nat} (h : Beg most ls R) {l : List (Nat × Nat)} (hl : l ∈ ls) (hs : Small l) {i c x : Nat} (hi : R[i]? = some c) (h1 : c ≤ x) (h2 : x < nxt most R (i + 1)) : has l x = has l c := by
  have hn := next_of h.rising h.le hi
  rw [← has_form hs, ← has_form hs c]
  have key : ∀ e ∈ cutsOf (Cn (has l)), e ≤ x → e ≤ c := by
    intro e he hx
    rcases hn.2.2 e ((h.mem e).2 (.inr ⟨by omega, l, hl, he⟩)) with h3 | h3 <;> omega
  rw [Bool.eq_iff_iff, has_iff, has_iff]
  constructor
  · rintro ⟨s, hs', a, b⟩
    exact ⟨s, hs', key s.1 (mem_cutsOf.2 ⟨s, hs', .inl rfl⟩) a, by omega⟩
  · rintro ⟨s, hs', a, b⟩
    refine ⟨s, hs', by omega, ?_⟩
    rcases Nat.lt_or_ge s.2 x with h4 | h4
    · have := key (s.2 + 1) (mem_cutsOf.2 ⟨s, hs', .inr rfl⟩) (by omega); omega
    · exact h4
/-- Of two pieces side by side one set has the one and not the other. -/
theorem Beg.cut {most : Nat} {ls : List (List (Nat × Nat))} {R : List Nat} (h : Beg most ls R) (hm : ∀ l ∈ ls, Small l) {i c : Nat} (hi : R[i]? = some c) (h0 : c ≠ 0) : ∃ l ∈ ls, has l c ≠ has l (c - 1) := by
  rcases (h.mem c).1 (List.mem_of_getElem? hi) with e | ⟨_, l, hl, hc⟩
  · exact absurd e h0
  · refine ⟨l, hl, ?_⟩
    rw [← has_form (hm l hl), ← has_form (hm l hl) (c - 1)]
    obtain ⟨s, hs, e⟩ := mem_cutsOf.1 hc
    have hcan := Cn_canon (has l)
    rcases e with rfl | rfl
    · obtain ⟨a, b⟩ := starts hcan s hs
      rcases b with b | b
      · exact absurd b h0
      · rw [a, b]; simp
    · have a : has (Cn (has l)) (s.2 + 1 - 1) = true := has_iff.2 ⟨s, hs, by have := hcan.some s hs; omega, by omega⟩
      have b : has (Cn (has l)) (s.2 + 1) = false := by
        refine has_false.2 fun t ht h1 => ?_
        obtain ⟨p, hp, rfl⟩ := List.getElem_of_mem hs
        obtain ⟨q, hq, rfl⟩ := List.getElem_of_mem ht
        have hpw := List.pairwise_iff_getElem.1 hcan.apart
        have s1 := hcan.some _ (List.getElem_mem hp)
        have s2 := hcan.some _ (List.getElem_mem hq)
        rcases Nat.lt_trichotomy p q with a | a | a
        · have := hpw p q hp hq a; omega
        · subst a; omega
        · have := hpw q p hq hp a; omega
      rw [a, b]; simp
theorem Beg.rises {most : Nat} {ls : List (List (Nat × Nat))} {R : List Nat} (h : Beg most ls R) {i c : Nat} (hi : R[i]? = some c) (h0 : i ≠ 0) : c ≠ 0 := by
  have h1 := h.first
  obtain ⟨a, rfl⟩ := List.getElem?_eq_some_iff.1 hi
  obtain ⟨b, e⟩ := List.getElem?_eq_some_iff.1 h1
  have := List.pairwise_iff_getElem.1 h.rising 0 i b a (by omega)
  omega
end Go.Proofs.Ytdjlbenjbhkfiaa
