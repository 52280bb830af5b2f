/- How many pieces odd numbers and all numbers make, and their texts. No condition; nothing here speaks of the program. -/
import Derived.Test.YtelncpmphgndjaaDoorSpBeg2
import Derived.Test.YtelncpmphgndjaaDoorSpTm
namespace Go.Proofs.YtelncpmphgndjaaDoor
open Go.RowKit
/-- The first n odd numbers. -/
def ods (n : Nat) : List (Nat × Nat) := (List.range n).map fun i => (2 * i + 1, 2 * i + 1)
theorem ods_length (n : Nat) : (ods n).length = n := by simp [ods]
theorem ods_snoc (n : Nat) : ods (n + 1) = ods n ++ [(2 * n + 1, 2 * n + 1)] := by simp [ods, List.range_succ]
theorem ods_mem {n : Nat} {s : Nat × Nat} (h : s ∈ ods n) : ∃ i, i < n ∧ s = (2 * i + 1, 2 * i + 1) := by
  simp [ods] at h
  obtain ⟨i, hi, rfl⟩ := h
  exact ⟨i, hi, rfl⟩
theorem ods_canon (n : Nat) : Canon (ods n) := by
  refine ⟨?_, fun s hs => ?_⟩
  · unfold ods
    rw [List.pairwise_map]
    exact List.pairwise_lt_range.imp fun h => by show 2 * _ + 1 + 1 < 2 * _ + 1; omega
  · obtain ⟨i, _, rfl⟩ := ods_mem hs
    exact Nat.le_refl _
theorem ods_small {n : Nat} (h : n ≤ 100000) : Small (ods n) := fun s hs => by
  obtain ⟨i, hi, rfl⟩ := ods_mem hs
  have e : (2 * i + 1 : Nat) < top := by unfold top; omega
  exact ⟨e, e⟩
theorem ods_cuts {n c : Nat} : c ∈ cutsOf (ods n) ↔ 1 ≤ c ∧ c ≤ 2 * n := by
  rw [mem_cutsOf]
  constructor
  · rintro ⟨s, hs, h⟩
    obtain ⟨i, hi, rfl⟩ := ods_mem hs
    simp only at h
    omega
  · intro h
    refine ⟨(2 * ((c - 1) / 2) + 1, 2 * ((c - 1) / 2) + 1), ?_, ?_⟩
    · exact List.mem_map.2 ⟨(c - 1) / 2, List.mem_range.2 (by omega), rfl⟩
    · show c = 2 * ((c - 1) / 2) + 1 ∨ c = 2 * ((c - 1) / 2) + 1 + 1
      omega
theorem beg_ods {n most : Nat} {R : List Nat} (hn : n ≤ 100000) (hm : most ≤ 2 * n) (h : Beg most [ods n] R) : R.length = most + 1 := by
  have hmem : ∀ c, c ∈ R ↔ c ∈ List.range (most + 1) := fun c => by
    rw [h.mem, List.mem_range]
    simp only [List.mem_singleton, exists_eq_left]
    rw [Cn_self (ods_canon n) (ods_small hn).two, ods_cuts]
    omega
  have h1 := inj_length h.rising fun x hx => (hmem x).1 hx
  have h2 := inj_length List.pairwise_lt_range fun x hx => (hmem x).2 hx
  rw [List.length_range] at h1 h2
  omega
def allS : List (Nat × Nat) := [(0, 4294967295)]
theorem all_canon : Canon allS := ⟨by simp [allS], by simp [allS]⟩
theorem all_small : Small allS := fun s hs => by simp [allS] at hs; subst hs; exact ⟨by unfold top; decide, by unfold top; decide⟩
theorem all_form : Cn (has allS) = allS := Cn_self all_canon all_small.two
theorem one_beg {R : List Nat} (h1 : R.Pairwise (· < ·)) (h2 : ∀ c, c ∈ R ↔ c = 0) : R.length = 1 := by
  have a := inj_length (g := [0]) h1 fun x hx => by rw [(h2 x).1 hx]; simp
  have b := inj_length (f := [0]) (g := R) (by simp) fun x hx => (h2 x).2 (by simpa using hx)
  simp at a b
  omega
theorem beg_alls {R : List Nat} (h : Beg 4294967295 [allS] R) : R.length = 1 := by
  refine one_beg h.rising fun c => ?_
  rw [h.mem]
  simp only [List.mem_singleton, exists_eq_left]
  rw [all_form]
  simp [allS, cutsOf]
  omega
theorem Cn_none : Cn (has []) = [] := Cn_self Canon.nil (by simp)
theorem beg_nils {n most : Nat} {R : List Nat} (h : Beg most (List.replicate n []) R) : R.length = 1 := by
  refine one_beg h.rising fun c => ?_
  rw [h.mem]
  refine ⟨fun hc => ?_, .inl⟩
  rcases hc with h | ⟨_, l, hl, hc⟩
  · exact h
  · obtain rfl := (List.mem_replicate.1 hl).2
    rw [Cn_none] at hc
    simp [cutsOf] at hc
theorem all_cnt : cnt (Cn (has allS)) = 4294967296 := by rw [all_form]; rfl
theorem all_not : Cn (fun x => decide (x ≤ 4294967295) && !has allS x) = [] := by
  rw [Cn_congr (q := fun _ => false) fun x hx => ?_]
  · exact (Cn_eq Canon.nil (by simp) fun _ _ => rfl).symm
  · have : has allS x = true := by
      unfold top at hx
      simp [allS, has]; omega
    rw [this]; simp
theorem all_txt : txt (Cn (has allS)) = [48, 45, 52, 50, 57, 52, 57, 54, 55, 50, 57, 53] := by
  rw [all_form]
  decide +kernel
end Go.Proofs.YtelncpmphgndjaaDoor
