/- Plain facts on a set that is put together from cut to cut. No condition; nothing here speaks of the program. -/
import Derived.Test.YtbplkeopdfciiaaDoorSpCuts
namespace Go.Proofs.YtbplkeopdfciiaaDoor
/-- What has been put together of the numbers below y. -/
structure Md (T : Nat → Bool) (y : Nat) (M : List (Nat × Nat)) : Prop where
  canon : Canon M
  same : ∀ x, x < y → has M x = T x
  lt : ∀ s ∈ M, s.2 < y
theorem Md.start (T : Nat → Bool) : Md T 0 [] := ⟨Canon.nil, fun x h => by omega, by simp⟩
theorem Md.skip {T : Nat → Bool} {y z : Nat} {M : List (Nat × Nat)} (h : Md T y M) (hyz : y ≤ z) (hT : ∀ x, y ≤ x → x < z → T x = false) : Md T z M := by
  refine ⟨h.canon, fun x hx => ?_, fun s hs => by have := h.lt s hs; omega⟩
  by_cases hy : x < y
  · exact h.same x hy
  · rw [hT x (by omega) hx]
    exact has_false.2 fun s hs _ => by have := h.lt s hs; omega
theorem Md.new {T : Nat → Bool} {y z : Nat} {M : List (Nat × Nat)} (h : Md T y M) (hyz : y < z) (hT : ∀ x, y ≤ x → x < z → T x = true) (hl : ∀ s ∈ M, s.2 + 1 < y) : Md T z (M ++ [(y, z - 1)]) := by
  refine ⟨h.canon.snoc (by simp; omega) hl, fun x hx => ?_, fun s hs => ?_⟩
  · rw [has_append]
    by_cases hy : x < y
    · rw [h.same x hy]
      have : has [(y, z - 1)] x = false := by simp [has]; omega
      rw [this, Bool.or_false]
    · rw [hT x (by omega) hx]
      have : has [(y, z - 1)] x = true := by simp [has]; omega
      rw [this, Bool.or_true]
  · rcases List.mem_append.1 hs with hs | hs
    · have := h.lt s hs; omega
    · simp at hs; subst hs; simp; omega
theorem Md.join {T : Nat → Bool} {y z : Nat} {L : List (Nat × Nat)} {t : Nat × Nat} (h : Md T y (L ++ [t])) (hyz : y < z) (hT : ∀ x, y ≤ x → x < z → T x = true) (ht : t.2 + 1 = y) : Md T z (L ++ [(t.1, z - 1)]) := by
  have hi := h.canon.init
  refine ⟨hi.1.snoc (by simp; omega) hi.2.2, fun x hx => ?_, fun s hs => ?_⟩
  · by_cases hy : x < y
    · rw [← h.same x hy, has_append, has_append]
      congr 1
      simp [has]
      rw [Bool.eq_iff_iff]; simp; omega
    · rw [hT x (by omega) hx, has_append]
      have : has [(t.1, z - 1)] x = true := by simp [has]; omega
      rw [this, Bool.or_true]
  · rcases List.mem_append.1 hs with hs | hs
    · have := h.lt s (by simp [hs]); omega
    · simp at hs; subst hs; simp; omega
theorem Md.last {T : Nat → Bool} {y : Nat} {L : List (Nat × Nat)} {t : Nat × Nat} (h : Md T y (L ++ [t])) (ht : t.2 + 1 ≠ y) : ∀ s ∈ L ++ [t], s.2 + 1 < y := by
  intro s hs
  have h1 := h.canon.below s hs
  have h2 := h.lt t (by simp)
  omega
theorem Md.done {T : Nat → Bool} {y : Nat} {M : List (Nat × Nat)} (h : Md T y M) (hy : y ≤ top) (hT : ∀ x, y ≤ x → T x = false) : M = Cn T := by
  refine Cn_eq h.canon (fun s hs => by have := h.lt s hs; omega) fun x hx => ?_
  by_cases hxy : x < y
  · exact h.same x hxy
  · rw [hT x (by omega)]
    exact has_false.2 fun s hs _ => by have := h.lt s hs; omega
/-- Between two numbers at which something may begin nothing turns. -/
theorem Cov.still {most : Nat} {done l : List (Nat × Nat)} {R : List Nat} (h : Cov most done R) (hl : ∀ s ∈ l, s ∈ done) {c x : Nat} (hcx : c ≤ x) (hx : x ≤ most) (hno : ∀ d ∈ R, d ≤ c ∨ x < d) : has l x = has l c := by
  rw [Bool.eq_iff_iff, has_iff, has_iff]
  constructor
  · rintro ⟨s, hs, h1, h2⟩
    refine ⟨s, hs, ?_, by omega⟩
    rcases hno s.1 (h.lo s (hl s hs) (by omega) (by omega)) with h3 | h3 <;> omega
  · rintro ⟨s, hs, h1, h2⟩
    refine ⟨s, hs, by omega, ?_⟩
    rcases Nat.lt_or_ge s.2 x with h4 | h4
    · rcases hno (s.2 + 1) (h.hi s (hl s hs) (by omega) (by omega)) with h3 | h3 <;> omega
    · exact h4
/-- The number that follows the i-th; one more than most behind the last one. -/
def nxt (most : Nat) (R : List Nat) (i : Nat) : Nat := match R[i]? with | some c => c | none => most + 1
theorem nxt_some {most : Nat} {R : List Nat} {i c : Nat} (h : R[i]? = some c) : nxt most R i = c := by simp [nxt, h]
theorem nxt_none {most : Nat} {R : List Nat} {i : Nat} (h : R.length ≤ i) : nxt most R i = most + 1 := by simp [nxt, List.getElem?_eq_none h]
theorem Cov.next {most : Nat} {done : List (Nat × Nat)} {R : List Nat} (h : Cov most done R) {i c : Nat} (hi : R[i]? = some c) : c < nxt most R (i + 1) ∧ nxt most R (i + 1) ≤ most + 1 ∧ ∀ d ∈ R, d ≤ c ∨ nxt most R (i + 1) ≤ d := by
  have hc := h.le c (List.mem_of_getElem? hi)
  obtain ⟨hlt, rfl⟩ := List.getElem?_eq_some_iff.1 hi
  have hp := List.pairwise_iff_getElem.1 h.rising
  by_cases hl : i + 1 < R.length
  · have hs : R[i + 1]? = some R[i + 1] := List.getElem?_eq_getElem hl
    have h1 := hp i (i + 1) hlt hl (by omega)
    have h2 := h.le _ (List.getElem_mem hl)
    rw [nxt_some hs]
    refine ⟨h1, by omega, fun d hd => ?_⟩
    obtain ⟨j, hj, rfl⟩ := List.getElem_of_mem hd
    rcases Nat.lt_trichotomy j i with a | a | a
    · exact .inl (Nat.le_of_lt (hp j i hj hlt a))
    · subst a; exact .inl (Nat.le_refl _)
    · rcases Nat.eq_or_lt_of_le a with b | b
      · subst b; exact .inr (Nat.le_refl _)
      · exact .inr (Nat.le_of_lt (hp (i + 1) j hl hj b))
  · rw [nxt_none (by omega)]
    refine ⟨by omega, by omega, fun d hd => .inl ?_⟩
    obtain ⟨j, hj, rfl⟩ := List.getElem_of_mem hd
    rcases Nat.eq_or_lt_of_le (show j ≤ i by omega) with a | a
    · subst a; exact Nat.le_refl _
    · exact Nat.le_of_lt (hp j i hj hlt a)
theorem Cov.first {most : Nat} {done : List (Nat × Nat)} {R : List Nat} (h : Cov most done R) : nxt most R 0 = 0 := by
  cases R with
  | nil => have := h.nought; cases this
  | cons c R =>
    have hp := List.pairwise_cons.1 h.rising
    rcases List.mem_cons.1 h.nought with e | e
    · subst e; rfl
    · have := hp.1 0 e; omega
end Go.Proofs.YtbplkeopdfciiaaDoor
