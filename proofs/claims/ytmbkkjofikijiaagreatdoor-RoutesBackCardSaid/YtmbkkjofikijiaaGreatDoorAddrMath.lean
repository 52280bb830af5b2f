/- The plain arithmetic of prefixes: sizes, masks, which addresses a prefix holds; nothing here speaks of the program. No condition. -/
import Derived.Lib.BitFns
import Derived.Lib.ItoaNum
import Derived.Lib.Hide
import Derived.Laws.BitsAllLaws
namespace Go.Proofs.YtmbkkjofikijiaaGreatDoor
open Go.RowKit

/-- How many addresses a prefix of n bits has. -/
def pw (n : Int) : Int := 2 ^ (32 - n).toNat
theorem pw_def (n : Int) : (2 : Int) ^ (32 - n).toNat = pw n := rfl
theorem pw_nat (n : Int) : pw n = ((2 ^ (32 - n).toNat : Nat) : Int) := by unfold pw; rw [Int.natCast_pow]; rfl
theorem pw_pos (n : Int) : 1 ≤ pw n := by
  rw [pw_nat]; have := Nat.two_pow_pos (32 - n).toNat; omega
theorem pw_le (n : Int) (h0 : 0 ≤ n) : pw n ≤ 4294967296 := by
  rw [pw_nat]
  have : 2 ^ (32 - n).toNat ≤ 2 ^ 32 := Nat.pow_le_pow_right (by omega) (by omega)
  omega
theorem pw_32 : pw 32 = 1 := rfl
theorem pw_0 : pw 0 = 4294967296 := rfl
theorem pw_succ (n : Int) (h : n < 32) : pw n = 2 * pw (n + 1) := by
  rw [pw_nat, pw_nat, show (32 - n).toNat = (32 - (n + 1)).toNat + 1 by omega, Nat.pow_succ]; omega
theorem pw_split (m n : Int) (h : m ≤ n) (h1 : n ≤ 32) : pw m = pw n * ((2 ^ (n - m).toNat : Nat) : Int) := by
  rw [pw_nat, pw_nat, show (32 - m).toNat = (32 - n).toNat + (n - m).toNat by omega, Nat.pow_add]; simp
theorem pw_dvd (m n : Int) (h : m ≤ n) (h1 : n ≤ 32) : pw n ∣ pw m := ⟨_, pw_split m n h h1⟩
theorem pw_mono (m n : Int) (h : m ≤ n) (h1 : n ≤ 32) : pw n ≤ pw m := by
  have := pw_pos m
  exact Int.le_of_dvd (by omega) (pw_dvd m n h h1)
theorem pw_inj (m n : Int) (h0 : m ≤ 32) (h1 : n ≤ 32) (h : pw m = pw n) : m = n := by
  rw [pw_nat, pw_nat] at h
  have h : 2 ^ (32 - m).toNat = 2 ^ (32 - n).toNat := by omega
  have := (Nat.pow_right_inj (by omega : 1 < 2)).mp h
  omega
/-- The mask's number. -/
def mk (n : Int) : Int := 4294967296 - pw n
theorem mk_shl (n : Int) (h0 : 0 ≤ n) : 4294967295 * pw n % 4294967296 = mk n := by
  have h1 := pw_pos n
  have h2 := pw_le n h0
  unfold mk
  omega
theorem mk_0 (n : Int) : 4294967296 - pw n = mk n := rfl
theorem mk_nonneg (n : Int) (h0 : 0 ≤ n) : 0 ≤ mk n := by have := pw_le n h0; unfold mk; omega
theorem mk_lt (n : Int) : mk n ≤ 4294967295 := by have := pw_pos n; unfold mk; omega
theorem mk_inj (m n : Int) (h0 : m ≤ 32) (h1 : n ≤ 32) (h : mk m = mk n) : m = n := pw_inj m n h0 h1 (by unfold mk at h; omega)
/-- a without its last k bits. -/
theorem and_high (a k : Nat) (h : a < 4294967296) (hk : k ≤ 32) : a &&& (4294967296 - 2 ^ k) = a / 2 ^ k * 2 ^ k := by
  apply Nat.eq_of_testBit_eq
  intro i
  rw [Nat.testBit_and, Nat.testBit_mul_two_pow]
  have e : 4294967296 - 2 ^ k = 2 ^ 32 - (2 ^ k - 1 + 1) := by have := Nat.two_pow_pos k; omega
  rw [e, Nat.testBit_two_pow_sub_succ (by have := Nat.two_pow_pos k; have : 2 ^ k ≤ 2 ^ 32 := Nat.pow_le_pow_right (by omega) hk; omega), Nat.testBit_two_pow_sub_one, Nat.testBit_div_two_pow]
  by_cases h1 : i < k
  · simp [h1]; intro _ ; omega
  · have h3 : k ≤ i := by omega
    by_cases h2 : i < 32
    · simp [h1, h2, h3]
    · have : a.testBit i = false := Nat.testBit_lt_two_pow (Nat.lt_of_lt_of_le h (Nat.pow_le_pow_right (n := 2) (by omega) (by omega : 32 ≤ i)))
      simp [h3, this]
theorem and_mk (a n : Int) (h0 : 0 ≤ a) (h1 : a < 4294967296) (hn : 0 ≤ n) : ((a.toNat &&& (mk n).toNat : Nat) : Int) = a / pw n * pw n := by
  have hp := pw_pos n
  have hl := pw_le n hn
  have e : (mk n).toNat = 4294967296 - 2 ^ (32 - n).toNat := by
    unfold mk; rw [pw_nat] at *; omega
  rw [e, and_high _ _ (by omega) (by omega), Int.natCast_mul, Int.natCast_ediv, ← pw_nat, Int.toNat_of_nonneg h0]
theorem andNot_mk (a n : Int) (h0 : 0 ≤ a) (hn : 0 ≤ n) : ((a.toNat &&& (4294967295 - (mk n).toNat) : Nat) : Int) = a % pw n := by
  have hp := pw_pos n
  have hl := pw_le n hn
  have e : 4294967295 - (mk n).toNat = 2 ^ (32 - n).toNat - 1 := by
    unfold mk; rw [pw_nat] at *; omega
  rw [e, Nat.and_two_pow_sub_one_eq_mod, Int.natCast_emod, ← pw_nat, Int.toNat_of_nonneg h0]
theorem bnot_mk (a n : Int) (h0 : 0 ≤ a) (h1 : a < 4294967296) (hn : 0 ≤ n) : bits .andNot .u32 a (mk n) = a % pw n := by
  have h4 := mk_nonneg n hn
  have h5 := mk_lt n
  rw [u32_andNot a (mk n) h0 h1 h4 (by omega), andNot_mk a n h0 hn]
theorem band_mk (a n : Int) (h0 : 0 ≤ a) (h1 : a < 4294967296) (hn : 0 ≤ n) : bits .and .u32 a (mk n) = a / pw n * pw n := by
  have h4 := mk_nonneg n hn
  have h5 := mk_lt n
  rw [u32_and a (mk n) h0 h1 h4 (by omega), and_mk a n h0 h1 hn]
/-- What Check answers. -/
def ck (a n : Int) : Int := if n < 0 ∨ 32 < n then 1 else if a % pw n = 0 then 0 else 10
theorem ck_three (a n : Int) : (ck a n = 1 ∧ (n < 0 ∨ 32 < n)) ∨ (ck a n = 0 ∧ 0 ≤ n ∧ n ≤ 32 ∧ a % pw n = 0) ∨ (ck a n = 10 ∧ 0 ≤ n ∧ n ≤ 32 ∧ a % pw n ≠ 0) := by
  unfold ck
  by_cases h : n < 0 ∨ 32 < n
  · simp [h]
  · by_cases h2 : a % pw n = 0
    · simp [h, h2]; omega
    · simp [h, h2]; omega
theorem ck_ok (a n : Int) (h : ck a n = 0) : 0 ≤ n ∧ n ≤ 32 ∧ a % pw n = 0 := by rcases ck_three a n with h1 | h1 | h1 <;> omega
theorem ck_mk (a n : Int) (h0 : 0 ≤ n) (h1 : n ≤ 32) (h2 : a % pw n = 0) : ck a n = 0 := by rcases ck_three a n with h3 | h3 | h3 <;> omega
theorem or_mk (a n : Int) (h0 : 0 ≤ a) (hn : 0 ≤ n) (h : a % pw n = 0) : ((a.toNat ||| (4294967295 - mk n).toNat : Nat) : Int) = a + (pw n - 1) := by
  have hp := pw_pos n
  have hl := pw_le n hn
  have e : (4294967295 - mk n).toNat = 2 ^ (32 - n).toNat - 1 := by
    unfold mk; rw [pw_nat] at *; omega
  have hx : a.toNat % 2 ^ (32 - n).toNat = 0 := by
    have h' : ((a.toNat % 2 ^ (32 - n).toNat : Nat) : Int) = 0 := by rw [Int.natCast_emod, ← pw_nat, Int.toNat_of_nonneg h0]; exact h
    omega
  have hy := Nat.two_pow_pos (32 - n).toNat
  rw [e, nat_join _ _ _ hx (by omega), pw_nat]
  omega
theorem bor_mk (a n x : Int) (h0 : 0 ≤ a) (h1 : a < 4294967296) (hn : 0 ≤ n) (h : a % pw n = 0) (hx : x = 4294967295 - mk n) : bits .or .u32 a x = a + (pw n - 1) := by
  have h4 := mk_nonneg n hn
  have h5 := mk_lt n
  rw [hx, u32_or a _ h0 h1 (by omega) (by omega), or_mk a n h0 hn h]
theorem bxor_all (m : Int) (h4 : 0 ≤ m) (h5 : m < 4294967296) : bits .xor .u32 4294967295 m = 4294967295 - m := by
  rw [u32_xor 4294967295 m (by omega) (by omega) h4 h5]
  have e : ((4294967295 : Int).toNat ^^^ m.toNat) = 4294967295 - m.toNat := by
    apply Nat.eq_of_testBit_eq
    intro i
    rw [Nat.testBit_xor, show (4294967295 : Int).toNat = 2 ^ 32 - 1 from rfl, Nat.testBit_two_pow_sub_one, show 4294967295 - m.toNat = 2 ^ 32 - (m.toNat + 1) by omega, Nat.testBit_two_pow_sub_succ (by omega)]
    by_cases h : i < 32
    · simp [h]
    · have : m.toNat.testBit i = false := Nat.testBit_lt_two_pow (Nat.lt_of_lt_of_le (by omega : m.toNat < 2 ^ 32) (Nat.pow_le_pow_right (n := 2) (by omega) (by omega : 32 ≤ i)))
      simp [h, this]
  rw [e]; omega
theorem bxor_mk (n : Int) (hn : 0 ≤ n) : bits .xor .u32 4294967295 (mk n) = 4294967295 - mk n := by
  have h4 := mk_nonneg n hn
  have h5 := mk_lt n
  exact bxor_all (mk n) h4 (by omega)
theorem ck_last (a n : Int) (h1 : a < 4294967296) (h : ck a n = 0) : a + pw n ≤ 4294967296 := by
  obtain ⟨hn, hn2, h⟩ := ck_ok a n h
  have hp := pw_pos n
  obtain ⟨k, hk⟩ := Int.dvd_of_emod_eq_zero h
  obtain ⟨j, hj⟩ := pw_dvd 0 n hn hn2
  rw [pw_0] at hj
  have : k < j := by
    apply Int.lt_of_mul_lt_mul_left (a := pw n) _ (by omega)
    rw [← hk, ← hj]; exact h1
  have h3 : pw n * (k + 1) ≤ pw n * j := Int.mul_le_mul_of_nonneg_left (by omega) (by omega)
  rw [Int.mul_add, ← hk, ← hj] at h3
  omega
/-- Is x in the prefix? -/
def inB (x a n : Int) : Bool := decide (ck a n = 0) && (decide (a ≤ x) && decide (x < a + pw n))
/-- Is one prefix in another? -/
def wiB (a n b m : Int) : Bool := decide (ck a n = 0) && (decide (ck b m = 0) && (decide (m ≤ n) && (decide (b ≤ a) && decide (a < b + pw m))))
/-- The order of prefixes. -/
def cmpI (a n b m : Int) : Int := if a < b ∨ a = b ∧ n < m then -1 else if a = b ∧ n = m then 0 else 1
theorem bitLen_lt (x : Nat) (h : x < 4294967296) : x < 2 ^ Lib.bitLen x := by
  by_cases h0 : x = 0
  · subst h0; decide
  · exact (Lib.bitLenAux_bounds 64 x (by omega) h0).2.2
theorem bitLen_iff (x j : Nat) (h : x < 4294967296) (hj : j ≤ 64) : Lib.bitLen x ≤ j ↔ x < 2 ^ j :=
  ⟨fun hh => Nat.lt_of_lt_of_le (bitLen_lt x h) (Nat.pow_le_pow_right (by omega) hh), fun hh => Lib.bitLen_le x j hj hh⟩
theorem bitLen_ones (j : Nat) (hj : j ≤ 32) : Lib.bitLen (2 ^ j - 1) = j := by
  have hp := Nat.two_pow_pos j
  have hl : 2 ^ j ≤ 2 ^ 32 := Nat.pow_le_pow_right (by omega) hj
  have h1 := (bitLen_iff (2 ^ j - 1) j (by omega) (by omega)).mpr (by omega)
  by_cases h0 : j = 0
  · subst h0; decide
  · have h2 := mt (bitLen_iff (2 ^ j - 1) (j - 1) (by omega) (by omega)).mp (by
      have : 2 ^ j = 2 ^ (j - 1) * 2 := by rw [← Nat.pow_succ]; congr 1; omega
      have := Nat.two_pow_pos (j - 1)
      omega)
    omega
theorem xor_zero (x y : Nat) : x ^^^ y = 0 ↔ x = y :=
  ⟨fun h => by
    have h2 : (x ^^^ y) ^^^ y = 0 ^^^ y := by rw [h]
    rw [Nat.xor_assoc, Nat.xor_self, Nat.xor_zero, Nat.zero_xor] at h2
    exact h2, fun h => by rw [h, Nat.xor_self]⟩
/-- How many bits two numbers have in common, from the first on. -/
def lz (a b : Int) : Int := 32 - (Lib.bitLen (a.toNat ^^^ b.toNat) : Int)
theorem xor_lt (a b : Int) (ha : 0 ≤ a) (ha2 : a < 4294967296) (hb : 0 ≤ b) (hb2 : b < 4294967296) : a.toNat ^^^ b.toNat < 4294967296 :=
  Nat.xor_lt_two_pow (n := 32) (by omega) (by omega)
theorem lz_range (a b : Int) (ha : 0 ≤ a) (ha2 : a < 4294967296) (hb : 0 ≤ b) (hb2 : b < 4294967296) : 0 ≤ lz a b ∧ lz a b ≤ 32 := by
  have := Lib.bitLen_le (a.toNat ^^^ b.toNat) 32 (by omega) (xor_lt a b ha ha2 hb hb2)
  unfold lz; omega
theorem lz_iff (a b k : Int) (ha : 0 ≤ a) (ha2 : a < 4294967296) (hb : 0 ≤ b) (hb2 : b < 4294967296) (h0 : 0 ≤ k) (h1 : k ≤ 32) : a / pw k = b / pw k ↔ k ≤ lz a b := by
  have e1 : a / pw k = ((a.toNat / 2 ^ (32 - k).toNat : Nat) : Int) := by rw [Int.natCast_ediv, ← pw_nat, Int.toNat_of_nonneg ha]
  have e2 : b / pw k = ((b.toNat / 2 ^ (32 - k).toNat : Nat) : Int) := by rw [Int.natCast_ediv, ← pw_nat, Int.toNat_of_nonneg hb]
  have hx := xor_lt a b ha ha2 hb hb2
  have e3 := bitLen_iff (a.toNat ^^^ b.toNat) (32 - k).toNat hx (by omega)
  have e4 : (a.toNat ^^^ b.toNat) / 2 ^ (32 - k).toNat = (a.toNat / 2 ^ (32 - k).toNat) ^^^ (b.toNat / 2 ^ (32 - k).toNat) := by
    rw [← Nat.shiftRight_eq_div_pow, ← Nat.shiftRight_eq_div_pow, ← Nat.shiftRight_eq_div_pow, Nat.shiftRight_xor_distrib]
  have hp := Nat.two_pow_pos (32 - k).toNat
  have e5 : (a.toNat ^^^ b.toNat) / 2 ^ (32 - k).toNat = 0 ↔ a.toNat ^^^ b.toNat < 2 ^ (32 - k).toNat := by
    rw [Nat.div_eq_zero_iff]; omega
  have e6 : (a.toNat / 2 ^ (32 - k).toNat) ^^^ (b.toNat / 2 ^ (32 - k).toNat) = 0 ↔ a.toNat / 2 ^ (32 - k).toNat = b.toNat / 2 ^ (32 - k).toNat := by
    exact xor_zero _ _
  rw [e4, e6] at e5
  rw [e1, e2]
  unfold lz
  omega
theorem half_sub (a n : Int) (hn : n < 32) (h : a % pw n = 0) : (a + (pw n - 1)) / pw (n + 1) * pw (n + 1) = a + pw (n + 1) := by
  have h1 := pw_succ n hn
  have hp := pw_pos (n + 1)
  obtain ⟨k, hk⟩ := Int.dvd_of_emod_eq_zero h
  have e : a + (pw n - 1) = pw (n + 1) - 1 + pw (n + 1) * (2 * k + 1) := by
    rw [hk, h1, Int.mul_add, ← Int.mul_assoc, Int.mul_comm (pw (n + 1)) 2]; omega
  rw [e, Int.add_mul_ediv_left _ _ (by omega), Int.ediv_eq_zero_of_lt (by omega) (by omega), Int.zero_add, hk, h1, Int.add_mul, Int.one_mul, Int.mul_comm (2 * k), Int.mul_comm 2 (pw (n + 1)), Int.mul_assoc]
end Go.Proofs.YtmbkkjofikijiaaGreatDoor
