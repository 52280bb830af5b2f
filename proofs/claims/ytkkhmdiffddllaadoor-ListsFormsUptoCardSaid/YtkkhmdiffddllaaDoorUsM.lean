/- Sorted rows as math: what stands in form, and that it is one list. No condition; nothing here speaks of the program. -/
import Derived.Sort.LotA
import Derived.Lib.SlicesCompact
namespace Go.Proofs.YtkkhmdiffddllaaDoor
open Go.Sort Go.Lib
/-- The form of a list of numbers: rising, each once. -/
def IsForm (l r : List Int) : Prop := r.Pairwise (· < ·) ∧ ∀ x, x ∈ r ↔ x ∈ l
theorem form_one {l r s : List Int} (hr : r.Pairwise (· < ·)) (hs : s.Pairwise (· < ·)) (h : ∀ x, x ∈ r ↔ x ∈ s) : r = s := by
  induction r generalizing s with
  | nil =>
    cases s with
    | nil => rfl
    | cons y s => exact absurd ((h y).2 (List.mem_cons_self ..)) (by simp)
  | cons x r ih =>
    cases s with
    | nil => exact absurd ((h x).1 (List.mem_cons_self ..)) (by simp)
    | cons y s =>
      rw [List.pairwise_cons] at hr hs
      have hxy : x = y := by
        rcases List.mem_cons.1 ((h x).1 (List.mem_cons_self ..)) with e | e
        · exact e
        · rcases List.mem_cons.1 ((h y).2 (List.mem_cons_self ..)) with e2 | e2
          · exact e2.symm
          · have h1 := hs.1 x e
            have h2 := hr.1 y e2
            omega
      subst hxy
      congr 1
      refine ih hr.2 hs.2 fun z => ?_
      constructor
      · intro hz
        rcases List.mem_cons.1 ((h z).1 (List.mem_cons_of_mem _ hz)) with e | e
        · have := hr.1 z hz; omega
        · exact e
      · intro hz
        rcases List.mem_cons.1 ((h z).2 (List.mem_cons_of_mem _ hz)) with e | e
        · have := hs.1 z hz; omega
        · exact e
theorem IsForm.one {l m r s : List Int} (hr : IsForm l r) (hs : IsForm m s) (h : ∀ x, x ∈ l ↔ x ∈ m) : r = s :=
  form_one (l := l) hr.1 hs.1 fun x => by rw [hr.2, hs.2, h]
theorem compact_form (d : Array Int) (hS : SortedIn ltInt 0 d.size d) : ∀ m, m ≤ d.size → (compactUpTo d m).Pairwise (· < ·) ∧ ∀ x, x ∈ compactUpTo d m ↔ ∃ j, j < m ∧ d[j]! = x := by
  intro m
  induction m with
  | zero => intro _; exact ⟨by simp [compactUpTo], fun x => by simp [compactUpTo]⟩
  | succ m ih =>
    intro hm
    obtain ⟨h1, h2⟩ := ih (by omega)
    have hle : ∀ i j, i < j → j < d.size → d[i]! ≤ d[j]! := fun i j hij hj => by
      have := hS i j (Nat.zero_le _) hij hj
      simp only [ltInt, decide_eq_false_iff_not] at this; omega
    rw [compactUpTo_succ]
    by_cases hk : keeps d m = true
    · rw [if_pos hk]
      constructor
      · rw [List.pairwise_append]
        refine ⟨h1, List.pairwise_singleton _ _, fun x hx y hy => ?_⟩
        obtain rfl := List.mem_singleton.1 hy
        obtain ⟨j, hj, rfl⟩ := (h2 x).1 hx
        have h3 : d[m]! ≠ d[m - 1]! := by
          unfold keeps at hk
          simp at hk
          rcases hk with h | h
          · omega
          · exact h
        have h4 := hle (m - 1) m (by omega) (by omega)
        by_cases e : j = m - 1
        · subst e; omega
        · have := hle j (m - 1) (by omega) (by omega); omega
      · intro x
        rw [List.mem_append, h2]
        constructor
        · rintro (⟨j, hj, rfl⟩ | h)
          · exact ⟨j, by omega, rfl⟩
          · obtain rfl := List.mem_singleton.1 h
            exact ⟨m, by omega, rfl⟩
        · rintro ⟨j, hj, rfl⟩
          by_cases e : j = m
          · subst e; exact .inr (List.mem_singleton.2 rfl)
          · exact .inl ⟨j, by omega, rfl⟩
    · rw [if_neg hk, List.append_nil]
      refine ⟨h1, fun x => ?_⟩
      rw [h2]
      have h3 : m ≠ 0 ∧ d[m]! = d[m - 1]! := by
        unfold keeps at hk
        simp at hk
        exact hk
      constructor
      · rintro ⟨j, hj, rfl⟩; exact ⟨j, by omega, rfl⟩
      · rintro ⟨j, hj, rfl⟩
        by_cases e : j = m
        · subst e; exact ⟨j - 1, by omega, h3.2.symm⟩
        · exact ⟨j, by omega, rfl⟩
theorem mem_get {d : Array Int} {x : Int} : x ∈ d.toList ↔ ∃ j, j < d.size ∧ d[j]! = x := by
  rw [List.mem_iff_getElem?]
  constructor
  · rintro ⟨j, hj⟩
    have hl : j < d.size := by have := (List.getElem?_eq_some_iff.1 hj).1; simpa using this
    refine ⟨j, hl, ?_⟩
    rw [Array.getElem?_toList] at hj
    rw [getElem!_pos d j hl]
    rw [Array.getElem?_eq_getElem hl] at hj
    exact Option.some.inj hj
  · rintro ⟨j, hj, rfl⟩
    refine ⟨j, ?_⟩
    rw [Array.getElem?_toList, Array.getElem?_eq_getElem hj, getElem!_pos d j hj]
/-- A row that was sorted, and what slices.Compact leaves of it: the form. -/
theorem sorted_form {l : List Int} {R : Array Int} (hP : PermIn 0 l.length l.toArray R) (hS : SortedIn ltInt 0 l.length R) : IsForm l (compactUpTo R R.size) := by
  have hz : R.size = l.length := by have := hP.1; simpa using this
  obtain ⟨h1, h2⟩ := compact_form R (by rw [hz]; exact hS) R.size (Nat.le_refl _)
  refine ⟨h1, fun x => ?_⟩
  rw [h2, ← mem_get]
  have e := sorted_unique_holds swo_ltInt (fun x y h1 h2 => by simp only [ltInt, decide_eq_false_iff_not] at h1 h2; omega) l.toArray R (by simpa using hP) (by simpa using hS)
  rw [e, List.mem_mergeSort]
end Go.Proofs.YtkkhmdiffddllaaDoor
