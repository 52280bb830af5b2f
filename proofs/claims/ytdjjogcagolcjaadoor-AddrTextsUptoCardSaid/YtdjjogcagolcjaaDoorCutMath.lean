/- The plain arithmetic of cutting a range into prefixes: the greatest one that begins at an address and does not go past the end; the list of them is one. No condition; nothing here speaks of the program. -/
import Derived.Test.YtdjjogcagolcjaaDoorAddrMath
import Derived.Lib.TrailingZeros
namespace Go.Proofs.YtdjjogcagolcjaaDoor
open Go.RowKit
/-- Of n bits is the greatest prefix that begins at f and ends before e. -/
def Step (e f n : Int) : Prop := 0 ≤ n ∧ n ≤ 32 ∧ f % pw n = 0 ∧ f + pw n ≤ e ∧ ∀ k, 0 ≤ k → k < n → ¬ (f % pw k = 0 ∧ f + pw k ≤ e)
theorem Step.one {e f n m : Int} (h : Step e f n) (h2 : Step e f m) : n = m := by
  obtain ⟨a1, a2, a3, a4, a5⟩ := h
  obtain ⟨b1, b2, b3, b4, b5⟩ := h2
  by_cases h : n < m
  · exact absurd ⟨a3, a4⟩ (b5 n a1 h)
  · by_cases h2 : m < n
    · exact absurd ⟨b3, b4⟩ (a5 m b1 h2)
    · omega
/-- The prefixes from f to e. -/
inductive Cuts (e : Int) : Int → List (Int × Int) → Prop
  | nil : Cuts e e []
  | cons (f n : Int) (l : List (Int × Int)) : f < e → Step e f n → Cuts e (f + pw n) l → Cuts e f ((f, n) :: l)
theorem Cuts.one {e f : Int} {l m : List (Int × Int)} (h : Cuts e f l) : Cuts e f m → l = m := by
  induction h generalizing m with
  | nil =>
    intro h2
    cases h2 with
    | nil => rfl
    | cons n l hlt _ _ => omega
  | cons f n l hlt hs _ ih =>
    intro h2
    cases h2 with
    | nil => omega
    | cons _ n2 l2 _ hs2 h3 =>
      have e1 := hs.one hs2
      subst e1
      rw [ih h3]
/-- What has been cut so far, from lo to f. -/
def Done (e lo f : Int) (d : List (Int × Int)) : Prop := ∀ l, Cuts e f l → Cuts e lo (d ++ l)
theorem Done.start (e lo : Int) : Done e lo lo [] := fun _ h => h
theorem Done.snoc {e lo f n : Int} {d : List (Int × Int)} (h : Done e lo f d) (hlt : f < e) (hs : Step e f n) : Done e lo (f + pw n) (d ++ [(f, n)]) := by
  intro l hl
  rw [List.append_assoc]
  exact h _ (Cuts.cons f n l hlt hs hl)
theorem Done.all {e lo : Int} {d : List (Int × Int)} (h : Done e lo e d) : Cuts e lo d := by
  have := h [] Cuts.nil
  simpa using this
/-- How the program reckons the step. -/
def stp (f e : Int) : Int := 32 - (if (Lib.ctz 64 f.toNat : Int) ≤ (Lib.bitLen (e - f).toNat : Int) - 1 then (Lib.ctz 64 f.toNat : Int) else (Lib.bitLen (e - f).toNat : Int) - 1)
theorem bitLen_ge (x : Nat) (h : x < 18446744073709551616) (h0 : x ≠ 0) : 1 ≤ Lib.bitLen x ∧ 2 ^ (Lib.bitLen x - 1) ≤ x ∧ x < 2 ^ Lib.bitLen x := Lib.bitLenAux_bounds 64 x (by omega) h0
theorem ctz_dvd (x j : Nat) (h : x < 18446744073709551616) (hj : j ≤ 64) : x % 2 ^ j = 0 ↔ j ≤ Lib.ctz 64 x := by
  by_cases h0 : x = 0
  · subst h0
    simp [Lib.ctz, hj]
  · obtain ⟨m, hm, hk⟩ := Lib.ctzFrom_spec 64 x (by omega) h
    have e : Lib.ctz 64 x = Lib.ctzFrom 64 x := by simp [Lib.ctz, h0]
    rw [e]
    generalize Lib.ctzFrom 64 x = c at *
    constructor
    · intro hd
      by_cases hc : j ≤ c
      · exact hc
      · exfalso
        have h1 : 2 ^ (c + 1) ∣ x := Nat.dvd_trans (Nat.pow_dvd_pow 2 (by omega)) (Nat.dvd_of_mod_eq_zero hd)
        obtain ⟨q, hq⟩ := h1
        rw [hm, Nat.pow_succ, Nat.mul_assoc] at hq
        have := Nat.eq_of_mul_eq_mul_left (Nat.two_pow_pos c) hq
        omega
    · intro hc
      apply Nat.mod_eq_zero_of_dvd
      rw [hm]
      exact Nat.dvd_trans (Nat.pow_dvd_pow 2 hc) (Nat.dvd_mul_right _ _)
theorem stp_step (f e : Int) (h0 : 0 ≤ f) (h1 : f < e) (h2 : e ≤ 4294967296) : Step e f (stp f e) ∧ Lib.ctz 64 f.toNat ≤ 64 ∧ Lib.bitLen (e - f).toNat ≤ 33 ∧ 1 ≤ Lib.bitLen (e - f).toNat := by
  have hb := bitLen_ge (e - f).toNat (by omega) (by omega)
  have hb33 := Lib.bitLen_le (e - f).toNat 33 (by omega) (by omega)
  have hc64 : Lib.ctz 64 f.toNat ≤ 64 := by
    by_cases hz : f.toNat = 0
    · rw [hz]; decide
    · obtain ⟨m, hm, hk⟩ := Lib.ctzFrom_spec 64 f.toNat (by omega) (by omega)
      have e : Lib.ctz 64 f.toNat = Lib.ctzFrom 64 f.toNat := by simp [Lib.ctz, hz]
      omega
  have hd := fun j hj => ctz_dvd f.toNat j (by omega) hj
  have ef : ∀ k : Int, f % pw k = ((f.toNat % 2 ^ (32 - k).toNat : Nat) : Int) := fun k => by rw [Int.natCast_emod, ← pw_nat, Int.toNat_of_nonneg h0]
  refine ⟨?_, hc64, hb33, hb.1⟩
  obtain ⟨b1, b2, b3⟩ := hb
  generalize hbl : Lib.bitLen (e - f).toNat = bl at *
  generalize hcl : Lib.ctz 64 f.toNat = c at *
  have main : ∀ s : Nat, (s : Int) = (if (c : Int) ≤ (bl : Int) - 1 then (c : Int) else (bl : Int) - 1) → Step e f (32 - (s : Int)) := by
    intro s hs
    have s1 : s ≤ c ∧ s ≤ bl - 1 ∧ (s = c ∨ s = bl - 1) := by
      split at hs <;> omega
    have s32 : s ≤ 32 := by omega
    have es : (32 - (32 - (s : Int))).toNat = s := by omega
    refine ⟨by omega, by omega, ?_, ?_, ?_⟩
    · rw [ef, es]
      have := (hd s (by omega)).mpr s1.1
      omega
    · rw [pw_nat, es]
      have : 2 ^ s ≤ 2 ^ (bl - 1) := Nat.pow_le_pow_right (by omega) s1.2.1
      omega
    · rintro k k0 k1 ⟨k2, k3⟩
      rw [ef] at k2
      rw [pw_nat] at k3
      have j1 : (32 - k).toNat ≤ c := (hd (32 - k).toNat (by omega)).mp (by omega)
      have j2 : (32 - k).toNat ≤ bl - 1 := by
        by_cases hh : (32 - k).toNat ≤ bl - 1
        · exact hh
        · exfalso
          have : 2 ^ bl ≤ 2 ^ (32 - k).toNat := Nat.pow_le_pow_right (by omega) (by omega)
          omega
      omega
  unfold stp
  rw [hcl, hbl]
  by_cases hh : (c : Int) ≤ (bl : Int) - 1
  · have := main c (by rw [if_pos hh])
    rw [if_pos hh]; exact this
  · have := main (bl - 1) (by rw [if_neg hh]; omega)
    rw [if_neg hh]
    have e : ((bl - 1 : Nat) : Int) = (bl : Int) - 1 := by omega
    rw [e] at this
    exact this
/-- The cells of a list of prefixes. -/
def flat (l : List (Int × Int)) : List Value := l.flatMap fun p => [.int .u32 p.1, .int .i64 p.2]
theorem flat_len (l : List (Int × Int)) : (flat l).length = l.length * 2 := by
  induction l with
  | nil => rfl
  | cons p l ih => simp only [flat, List.flatMap_cons, List.length_append, List.length_cons, List.length_nil] at *; omega
theorem flat_snoc (l : List (Int × Int)) (a n : Int) : flat (l ++ [(a, n)]) = flat l ++ [.int .u32 a, .int .i64 n] := by simp [flat]
theorem flat_at (l : List (Int × Int)) (i : Nat) (h : i < l.length) : (flat l)[i * 2]? = some (.int .u32 (l[i]).1) ∧ (flat l)[i * 2 + 1]? = some (.int .i64 (l[i]).2) := by
  induction l generalizing i with
  | nil => simp at h
  | cons p l ih =>
    cases i with
    | zero => simp [flat]
    | succ i =>
      have := ih i (by simpa using h)
      have e1 : (i + 1) * 2 = i * 2 + 1 + 1 := by omega
      simp only [flat, List.flatMap_cons] at *
      rw [e1]
      simpa using this
end Go.Proofs.YtdjjogcagolcjaaDoor
