/- Plain facts on the numbers at which pieces begin, picked out of those at which something may begin. No condition; nothing here speaks of the program. -/
import Derived.Test.YtdjlbenjbhkfiaaSpCutM
namespace Go.Proofs.Ytdjlbenjbhkfiaa
/-- Two rising lists of the same numbers are one. -/
theorem rising_one : ∀ {A B : List Nat}, A.Pairwise (· < ·) → B.Pairwise (· < ·) → (∀ x, x ∈ A ↔ x ∈ B) → A = B := by
  intro A
  induction A with
  | nil =>
    intro B _ _ h
    cases B with
    | nil => rfl
    | cons b B => exact absurd ((h b).2 List.mem_cons_self) (by simp)
  | cons a A ih =>
    intro B hA hB h
    cases B with
    | nil => exact absurd ((h a).1 List.mem_cons_self) (by simp)
    | cons b B =>
      have h1 := List.pairwise_cons.1 hA
      have h2 := List.pairwise_cons.1 hB
      have e : a = b := by
        have ha := (h a).1 List.mem_cons_self
        have hb := (h b).2 List.mem_cons_self
        rcases List.mem_cons.1 ha with e | ha
        · exact e
        · rcases List.mem_cons.1 hb with e | hb
          · exact e.symm
          · have := h1.1 b hb
            have := h2.1 a ha
            omega
      subst e
      refine congrArg (a :: ·) (ih h1.2 h2.2 fun x => ⟨fun hx => ?_, fun hx => ?_⟩)
      · rcases List.mem_cons.1 ((h x).1 (List.mem_cons_of_mem _ hx)) with e | e
        · have := h1.1 x hx; omega
        · exact e
      · rcases List.mem_cons.1 ((h x).2 (List.mem_cons_of_mem _ hx)) with e | e
        · have := h2.1 x hx; omega
        · exact e
theorem Beg.one_of {most : Nat} {ls : List (List (Nat × Nat))} {A B : List Nat} (hA : Beg most ls A) (hB : Beg most ls B) : A = B :=
  rising_one hA.rising hB.rising fun x => (hA.mem x).trans (hB.mem x).symm
/-- Does a set begin or end at a number? -/
def chg (ls : List (List (Nat × Nat))) (c : Nat) : Bool := ls.any fun l => has l c != has l (c - 1)
theorem chg_iff {ls : List (List (Nat × Nat))} {c : Nat} : chg ls c = true ↔ ∃ l ∈ ls, has l c ≠ has l (c - 1) := by
  simp [chg]
/-- Is it the first, or does a set begin or end there? -/
def isCut (ls : List (List (Nat × Nat))) (c : Nat) : Bool := decide (c = 0) || chg ls c
theorem Cov.mem_of {most : Nat} {done l : List (Nat × Nat)} {R : List Nat} (h : Cov most done R) (hl : ∀ s ∈ l, s ∈ done) {c : Nat} (hc : c ≤ most) (h0 : c ≠ 0) (hne : has l c ≠ has l (c - 1)) : c ∈ R := by
  by_cases h1 : has l c = true
  · have h2 : has l (c - 1) = false := by
      cases h3 : has l (c - 1) with
      | true => exact absurd (h1.trans h3.symm) hne
      | false => rfl
    obtain ⟨s, hs, a, b⟩ := has_iff.1 h1
    have h4 := has_false.1 h2 s hs
    have e : s.1 = c := by
      by_cases h5 : s.1 ≤ c - 1
      · have := h4 h5; omega
      · omega
    rw [← e]
    exact h.lo s (hl s hs) (by omega) (by omega)
  · have h1' : has l c = false := by simpa using h1
    have h2 : has l (c - 1) = true := by
      cases h3 : has l (c - 1) with
      | true => rfl
      | false => exact absurd (h1'.trans h3.symm) hne
    obtain ⟨s, hs, a, b⟩ := has_iff.1 h2
    have h4 := has_false.1 h1' s hs (by omega)
    have e : s.2 + 1 = c := by omega
    rw [← e]
    exact h.hi s (hl s hs) (by omega) (by omega)
theorem cutsOf_of {l : List (Nat × Nat)} (hl : Small l) {c : Nat} (h0 : c ≠ 0) (hne : has l c ≠ has l (c - 1)) : c ∈ cutsOf (Cn (has l)) := by
  rw [← has_form hl, ← has_form hl (c - 1)] at hne
  by_cases h1 : has (Cn (has l)) c = true
  · have h2 : has (Cn (has l)) (c - 1) = false := by
      cases h3 : has (Cn (has l)) (c - 1) with
      | true => exact absurd (h1.trans h3.symm) hne
      | false => rfl
    obtain ⟨s, hs, a, b⟩ := has_iff.1 h1
    have h4 := has_false.1 h2 s hs
    refine mem_cutsOf.2 ⟨s, hs, .inl ?_⟩
    by_cases h5 : s.1 ≤ c - 1
    · have := h4 h5; omega
    · omega
  · have h1' : has (Cn (has l)) c = false := by simpa using h1
    have h2 : has (Cn (has l)) (c - 1) = true := by
      cases h3 : has (Cn (has l)) (c - 1) with
      | true => rfl
      | false => exact absurd (h1'.trans h3.symm) hne
    obtain ⟨s, hs, a, b⟩ := has_iff.1 h2
    have h4 := has_false.1 h1' s hs (by omega)
    exact mem_cutsOf.2 ⟨s, hs, .inr (by omega)⟩
theorem cut_of_cutsOf {l : List (Nat × Nat)} (hl : Small l) {c : Nat} (h0 : c ≠ 0) (hc : c ∈ cutsOf (Cn (has l))) : has l c ≠ has l (c - 1) := by
  rw [← has_form hl, ← has_form hl (c - 1)]
  obtain ⟨s, hs, e⟩ := mem_cutsOf.1 hc
  have hcan := Cn_canon (has l)
  rcases e with rfl | rfl
  · obtain ⟨a, b⟩ := starts hcan s hs
    rcases b with b | b
    · exact absurd b h0
    · rw [a, b]; simp
  · have a : has (Cn (has l)) (s.2 + 1 - 1) = true := has_iff.2 ⟨s, hs, by have := hcan.some s hs; omega, by omega⟩
    have b : has (Cn (has l)) (s.2 + 1) = false := by
      refine has_false.2 fun t ht h1 => ?_
      obtain ⟨p, hp, rfl⟩ := List.getElem_of_mem hs
      obtain ⟨q, hq, rfl⟩ := List.getElem_of_mem ht
      have hpw := List.pairwise_iff_getElem.1 hcan.apart
      have s1 := hcan.some _ (List.getElem_mem hp)
      have s2 := hcan.some _ (List.getElem_mem hq)
      rcases Nat.lt_trichotomy p q with a | a | a
      · have := hpw p q hp hq a; omega
      · subst a; omega
      · have := hpw q p hq hp a; omega
    rw [a, b]; simp
/-- The numbers at which something may begin, picked: those at which pieces begin. -/
theorem Cov.beg {most : Nat} {ls : List (List (Nat × Nat))} {C : List Nat} (h : Cov most ls.flatten C) (hs : ∀ l ∈ ls, Small l) : Beg most ls (C.filter (isCut ls)) := by
  refine ⟨h.rising.filter _, fun c => ?_, ?_⟩
  · rw [List.mem_filter]
    unfold isCut
    simp only [Bool.or_eq_true, decide_eq_true_eq]
    rw [chg_iff]
    constructor
    · rintro ⟨hc, e | ⟨l, hl, hne⟩⟩
      · exact .inl e
      · by_cases h0 : c = 0
        · exact .inl h0
        · exact .inr ⟨h.le c hc, l, hl, cutsOf_of (hs l hl) h0 hne⟩
    · rintro (rfl | ⟨hc, l, hl, hm⟩)
      · exact ⟨h.nought, .inl rfl⟩
      · by_cases h0 : c = 0
        · subst h0; exact ⟨h.nought, .inl rfl⟩
        · have hne := cut_of_cutsOf (hs l hl) h0 hm
          exact ⟨h.mem_of (l := l) (fun s hx => List.mem_flatten.2 ⟨l, hl, hx⟩) hc h0 hne, .inr ⟨l, hl, hne⟩⟩
  · have h1 := List.length_filter_le (isCut ls) C
    have h2 := h.len
    omega
theorem filter_take {C : List Nat} {p : Nat → Bool} {k c : Nat} (h : C[k]? = some c) : (C.take (k + 1)).filter p = (C.take k).filter p ++ if p c then [c] else [] := by
  rw [List.take_add_one, h]
  simp only [Option.toList_some, List.filter_append, List.filter_cons, List.filter_nil]
theorem any_take {ls : List (List (Nat × Nat))} {m : Nat} {l : List (Nat × Nat)} (p : List (Nat × Nat) → Bool) (h : ls[m]? = some l) : (ls.take (m + 1)).any p = ((ls.take m).any p || p l) := by
  rw [List.take_add_one, h]
  simp
theorem any_of_take {ls : List (List (Nat × Nat))} {m : Nat} {p : List (Nat × Nat) → Bool} (h : (ls.take m).any p = true) : ls.any p = true := by
  simp only [List.any_eq_true] at h ⊢
  obtain ⟨l, hl, hp⟩ := h
  exact ⟨l, List.mem_of_mem_take hl, hp⟩
/-- A row of cells of one's own. -/
theorem owns_raw {w : World} {b g cap n : Nat} {cc : Array Value} (h : w.heap[g]? = some (.cells cc 27 (0, 0))) (hb : b ≤ g) (hs : cc.size = cap * 2) (hm : cap ≤ maxLen) (hn : n ≤ cap) :
    w.ownsRow b 27 2 (.slice (some ⟨g, 0, none⟩) n cap) n (cc.toList.take (n * 2)) :=
  ⟨by rw [List.length_take, Array.length_toList]; omega, .inr ⟨g, cap, cc, rfl, hb, h, hn, hm, hs, rfl⟩⟩
/-- The pieces with one more. -/
theorem pcs_more (most : Nat) (A : List Nat) (a c : Nat) : pcs most (A ++ [a] ++ [c]) = pp (A ++ [a]) ++ [(a, c - 1)] ++ [(c, most)] := by
  rw [pcs_snoc, pp_snoc]
end Go.Proofs.Ytdjlbenjbhkfiaa
