/- The plain arithmetic of a range that is cut into prefixes: each of its addresses is in just one, at most 62 of them, no two neighbours are halves of one. Nothing here speaks of the program. No condition. -/
import Derived.Test.YtdjjogcagolcjaaDoorCutMath
import Derived.Test.YtdjjogcagolcjaaDoorInMath
namespace Go.Proofs.YtdjjogcagolcjaaDoor
open Go.RowKit
theorem Step.ck {e f n : Int} (h : Step e f n) : ck f n = 0 := ck_mk f n h.1 h.2.1 h.2.2.1
/-- In how many prefixes of a list an address is. -/
def cnt (y : Int) (l : List (Int × Int)) : Nat := (l.filter fun p => inB y p.1 p.2).length
theorem cnt_nil (y : Int) : cnt y [] = 0 := rfl
theorem cnt_snoc (y : Int) (l : List (Int × Int)) (p : Int × Int) : cnt y (l ++ [p]) = cnt y l + (if inB y p.1 p.2 = true then 1 else 0) := by
  unfold cnt
  rw [List.filter_append, List.length_append]
  by_cases h : inB y p.1 p.2 = true <;> simp [h]
theorem cnt_cons (y : Int) (l : List (Int × Int)) (p : Int × Int) : cnt y (p :: l) = (if inB y p.1 p.2 = true then 1 else 0) + cnt y l := by
  unfold cnt
  by_cases h : inB y p.1 p.2 = true <;> simp [h]
  omega
theorem cnt_le (y : Int) (l : List (Int × Int)) : cnt y l ≤ l.length := List.length_filter_le _ _
theorem cnt_cuts {e f : Int} {l : List (Int × Int)} (h : Cuts e f l) (y : Int) : cnt y l = if f ≤ y ∧ y < e then 1 else 0 := by
  induction h with
  | nil => rw [if_neg (by omega)]; rfl
  | cons f n l hlt hs _ ih =>
    have hp := pw_pos n
    have h4 := hs.2.2.2.1
    rw [cnt_cons, ih]
    have e1 : inB y f n = (decide (f ≤ y) && decide (y < f + pw n)) := inB_ok y f n hs.ck
    simp only [e1, Bool.and_eq_true, decide_eq_true_eq]
    by_cases c1 : f ≤ y ∧ y < f + pw n
    · rw [if_pos c1, if_neg (by omega), if_pos (by omega)]
    · rw [if_neg c1]
      by_cases c2 : f + pw n ≤ y ∧ y < e
      · rw [if_pos c2, if_pos (by omega)]
      · rw [if_neg c2, if_neg (by omega)]
theorem Step.great {e f n k : Int} (h : Step e f n) (k0 : 0 ≤ k) (hk : k < n) (hd : f % pw k = 0) : e < f + pw k := by
  have := h.2.2.2.2 k k0 hk
  by_cases hh : f + pw k ≤ e
  · exact absurd ⟨hd, hh⟩ this
  · omega
theorem mod_mono {f : Int} {k n : Int} (h : f % pw k = 0) (hkn : k ≤ n) (hn : n ≤ 32) : f % pw n = 0 :=
  Int.emod_eq_zero_of_dvd (Int.dvd_trans (pw_dvd k n hkn hn) (Int.dvd_of_emod_eq_zero h))
/-- Where the room falls below what the beginning is a multiple of, each further prefix is smaller. -/
theorem Cuts.room {e f : Int} {l : List (Int × Int)} (h : Cuts e f l) : ∀ k, 0 ≤ k → k ≤ 32 → f % pw k = 0 → e - f < pw k → (l.length : Int) ≤ 32 - k := by
  induction h with
  | nil => intro k _ _ _ _; simp; omega
  | cons f n l hlt hs _ ih =>
    intro k k0 k1 hd hr
    have h4 := hs.2.2.2.1
    have hkn : k < n := by
      by_cases hh : k < n
      · exact hh
      · have := pw_mono n k (by omega) k1
        omega
    have hn1 := mod_mono hd (by omega : k ≤ n - 1) (by have := hs.2.1; omega)
    have h5 := hs.great (k := n - 1) (by omega) (by omega) hn1
    have h6 := pw_succ (n - 1) (by have := hs.2.1; omega)
    rw [show n - 1 + 1 = n by omega] at h6
    have h7 := ih n hs.1 hs.2.1 (by rw [Int.add_emod_right]; exact hs.2.2.1) (by omega)
    simp only [List.length_cons]
    omega
theorem pw_31 : pw 1 = 2147483648 := rfl
/-- Ahead of that each prefix is greater than the one before. -/
theorem Cuts.rise {e f : Int} {l : List (Int × Int)} (he : e ≤ 4294967296) (h : Cuts e f l) : ∀ k, 1 ≤ k → k ≤ 32 → f % pw k = 0 → 0 < f → (l.length : Int) ≤ (k - 1) + 31 := by
  induction h with
  | nil => intro k _ _ _ _; simp; omega
  | cons f n l hlt hs hl ih =>
    intro k k0 k1 hd hf
    have h4 := hs.2.2.2.1
    have hp := pw_pos n
    have n0 : 1 ≤ n := by
      by_cases hh : 1 ≤ n
      · exact hh
      · have e : n = 0 := by have := hs.1; omega
        subst e
        have := pw_0
        omega
    by_cases hr : f % pw (n - 1) = 0
    · -- the room decides
      have h5 := hs.great (k := n - 1) (by omega) (by omega) hr
      have h6 : n - 1 ≠ 0 := fun e1 => by
        rw [e1, pw_0] at hr
        have : f < 4294967296 := by omega
        omega
      have h7 := (Cuts.cons f n l hlt hs hl).room (n - 1) (by omega) (by have := hs.2.1; omega) hr (by omega)
      omega
    · -- the beginning decides
      have hkn : n ≤ k := by
        by_cases hh : n ≤ k
        · exact hh
        · exact absurd (mod_mono hd (by omega : k ≤ n - 1) (by have := hs.2.1; omega)) hr
      have h6 := pw_succ (n - 1) (by have := hs.2.1; omega)
      rw [show n - 1 + 1 = n by omega] at h6
      have h3 := hs.2.2.1
      have hd' : (f + pw n) % pw (n - 1) = 0 := by
        obtain ⟨q, hq⟩ := Int.dvd_of_emod_eq_zero h3
        have hodd : q % 2 = 1 := by
          by_cases hq2 : q % 2 = 0
          · exfalso
            apply hr
            obtain ⟨j, hj⟩ := Int.dvd_of_emod_eq_zero hq2
            rw [hq, hj, h6, ← Int.mul_assoc, Int.mul_comm (pw n) 2]
            exact Int.mul_emod_right _ _
          · omega
        obtain ⟨j, hj⟩ : ∃ j, q = 2 * j + 1 := ⟨q / 2, by omega⟩
        have e1 : f + pw n = 2 * pw n * (j + 1) := by
          rw [hq, hj, Int.mul_add, Int.mul_one, Int.mul_add, Int.mul_one, ← Int.mul_assoc, Int.mul_comm (pw n) 2]
          omega
        rw [e1, h6]
        exact Int.mul_emod_right _ _
      by_cases hn1 : n = 1
      · subst hn1
        have : f + pw 1 = 4294967296 := by
          have e1 : (1 : Int) - 1 = 0 := rfl
          rw [e1, pw_0] at hd'
          have := pw_31
          omega
        have e2 : f + pw 1 = e := by omega
        rw [e2] at hl
        cases hl with
        | nil => simp; omega
        | cons n' l' hlt' _ _ => omega
      · have := ih (n - 1) (by omega) (by have := hs.2.1; omega) hd' (by omega)
        simp only [List.length_cons]
        omega
theorem Cuts.len62 {e f : Int} {l : List (Int × Int)} (h : Cuts e f l) (h0 : 0 ≤ f) (he : e ≤ 4294967296) : l.length ≤ 62 := by
  by_cases hf : 0 < f
  · have := h.rise he 32 (by omega) (by omega) (by rw [pw_32]; omega) hf
    omega
  · have e0 : f = 0 := by omega
    subst e0
    by_cases hw : e < 4294967296
    · have := h.room 0 (by omega) (by omega) (Int.zero_emod _) (by rw [pw_0]; omega)
      omega
    · cases h with
      | nil => simp
      | cons _ n l hlt hs hl =>
        have hn : n = 0 := by
          by_cases hh : n = 0
          · exact hh
          · have := hs.great (k := 0) (by omega) (by have := hs.1; omega) (Int.zero_emod _)
            rw [pw_0] at this
            omega
        subst hn
        rw [pw_0] at hl
        have e1 : (0 : Int) + 4294967296 = e := by omega
        rw [e1] at hl
        cases hl with
        | nil => simp
        | cons n' l' hlt' _ _ => omega
theorem Cuts.at {e f : Int} {l : List (Int × Int)} (h : Cuts e f l) : ∀ i (hi : i < l.length), f ≤ (l[i]).1 ∧ (l[i]).1 < e ∧ Step e (l[i]).1 (l[i]).2 := by
  induction h with
  | nil => intro i hi; simp at hi
  | cons f n l hlt hs hl ih =>
    intro i hi
    cases i with
    | zero => exact ⟨Int.le_refl _, hlt, hs⟩
    | succ i =>
      have hp := pw_pos n
      have := ih i (by simpa using hi)
      simp only [List.getElem_cons_succ]
      exact ⟨by omega, this.2⟩
theorem Cuts.next {e f : Int} {l : List (Int × Int)} (h : Cuts e f l) : ∀ i (hi : i + 1 < l.length), (l[i + 1]).1 = (l[i]).1 + pw (l[i]).2 := by
  induction h with
  | nil => intro i hi; simp at hi
  | cons f n l hlt hs hl ih =>
    intro i hi
    cases i with
    | zero =>
      simp only [List.getElem_cons_succ, List.getElem_cons_zero]
      cases hl with
      | nil => simp at hi
      | cons n' l' _ _ _ => rfl
    | succ i =>
      simp only [List.getElem_cons_succ]
      exact ih i (by simpa using hi)
/-- Two neighbours are no halves of one. -/
theorem no_halves {e a n : Int} (h0 : 0 ≤ a) (he : e ≤ 4294967296) (hs : Step e a n) (ht : Step e (a + pw n) n) : cmK a n (a + pw n) n ≠ n - 1 := by
  intro hk
  have hp := pw_pos n
  have h4 := hs.2.2.2.1
  have h5 := ht.2.2.2.1
  obtain ⟨r0, r1⟩ := cmK_range a n (a + pw n) n h0 (by omega) (by omega) (by omega) hs.1 hs.1
  obtain ⟨_, _, c3⟩ := cm_at a n (a + pw n) n h0 (by omega) (by omega) (by omega) hs.1 hs.1
  rw [hk] at c3 r0 r1
  have h6 := pw_succ (n - 1) (by have := hs.2.1; omega)
  rw [show n - 1 + 1 = n by omega] at h6
  have hq : a % pw (n - 1) = 0 := by
    obtain ⟨q, hq⟩ := Int.dvd_of_emod_eq_zero hs.2.2.1
    have hodd : q % 2 = 0 := by
      by_cases hq2 : q % 2 = 0
      · exact hq2
      · exfalso
        obtain ⟨j, hj⟩ : ∃ j, q = 2 * j + 1 := ⟨q / 2, by omega⟩
        have e1 : a = pw n + 2 * pw n * j := by
          rw [hq, hj, Int.mul_add, Int.mul_one, ← Int.mul_assoc, Int.mul_comm (pw n) 2]; omega
        have e2 : a + pw n = 0 + 2 * pw n * (j + 1) := by rw [e1, Int.mul_add, Int.mul_one]; omega
        rw [e2, e1, h6, Int.add_mul_ediv_left _ _ (by omega), Int.add_mul_ediv_left _ _ (by omega), Int.ediv_eq_zero_of_lt (by omega) (by omega), Int.ediv_eq_zero_of_lt (by omega) (by omega)] at c3
        omega
    obtain ⟨j, hj⟩ := Int.dvd_of_emod_eq_zero hodd
    rw [hq, hj, h6, ← Int.mul_assoc, Int.mul_comm (pw n) 2]
    exact Int.mul_emod_right _ _
  have := hs.great (k := n - 1) (by omega) (by omega) hq
  omega
end Go.Proofs.YtdjjogcagolcjaaDoor
