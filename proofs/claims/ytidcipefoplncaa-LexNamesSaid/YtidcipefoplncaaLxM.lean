/- Plain facts on a text as a number of at most nineteen digits, and as a name. No condition but those named. -/
import Derived.Test.YtidcipefoplncaaNum
import Derived.Lib.AtoiAllCases
import GoSem.Op.String
namespace Go.Proofs.Ytidcipefoplncaa
theorem val_split : ∀ (l : List UInt8) (n : Nat), val l n = n * 10 ^ l.length + val l 0
  | [], n => by simp [val]
  | c :: l, n => by
    simp only [val, List.length_cons, Nat.zero_mul, Nat.zero_add]
    rw [val_split l (n * 10 + (c.toNat - 48)), val_split l (c.toNat - 48), Nat.pow_succ, Nat.add_mul, Nat.mul_assoc, Nat.mul_comm 10]
    omega
theorem val_lt10 : ∀ (l : List UInt8), l.all dig = true → val l 0 < 10 ^ l.length
  | [], _ => by simp [val]
  | c :: l, h => by
    simp only [List.all_cons, Bool.and_eq_true] at h
    have h1 : c.toNat - 48 ≤ 9 := by have := h.1; simp [dig] at this; omega
    have h2 := val_lt10 l h.2
    simp only [val, List.length_cons, Nat.pow_succ, Nat.zero_mul, Nat.zero_add]
    rw [val_split]
    have h3 : (c.toNat - 48) * 10 ^ l.length ≤ 9 * 10 ^ l.length := Nat.mul_le_mul_right _ h1
    omega
/-- Of two rows of as many digits the one that comes first is the smaller number. -/
theorem less_val : ∀ (l m : List UInt8), l.length = m.length → l.all dig = true → m.all dig = true → Op.bytesLess l m = decide (val l 0 < val m 0)
  | [], [], _, _, _ => by simp [Op.bytesLess, val]
  | [], _ :: _, h, _, _ => by simp at h
  | _ :: _, [], h, _, _ => by simp at h
  | a :: x, b :: y, h, hl, hm => by
    have hxy : x.length = y.length := by simpa using h
    simp only [List.all_cons, Bool.and_eq_true] at hl hm
    have ih := less_val x y hxy hl.2 hm.2
    have vx := val_lt10 x hl.2
    have vy := val_lt10 y hm.2
    have ha : 48 ≤ a.toNat := by have := hl.1; simp [dig] at this; omega
    have hb : 48 ≤ b.toNat := by have := hm.1; simp [dig] at this; omega
    rw [hxy] at vx
    simp only [Op.bytesLess, val, Nat.zero_mul, Nat.zero_add]
    rw [val_split x (a.toNat - 48), val_split y (b.toNat - 48), hxy, ih]
    by_cases h1 : a < b
    · have h2 : a.toNat < b.toNat := UInt8.lt_iff_toNat_lt.1 h1
      have hmul := Nat.mul_le_mul_right (10 ^ y.length) (show (a.toNat - 48) + 1 ≤ b.toNat - 48 by omega)
      rw [Nat.add_mul, Nat.one_mul] at hmul
      have : (a.toNat - 48) * 10 ^ y.length + val x 0 < (b.toNat - 48) * 10 ^ y.length + val y 0 := by omega
      simp [h1, this]
    · have h2 : ¬ a.toNat < b.toNat := fun c => h1 (UInt8.lt_iff_toNat_lt.2 c)
      by_cases h3 : a = b
      · subst h3
        simp [h1]
      · have h4 : b.toNat < a.toNat := by
          have : a.toNat ≠ b.toNat := fun e => h3 (UInt8.toNat_inj.mp e)
          omega
        have hmul := Nat.mul_le_mul_right (10 ^ y.length) (show (b.toNat - 48) + 1 ≤ a.toNat - 48 by omega)
        rw [Nat.add_mul, Nat.one_mul] at hmul
        have h5 : ¬ (a.toNat - 48) * 10 ^ y.length + val x 0 < (b.toNat - 48) * 10 ^ y.length + val y 0 := by omega
        simp [h1, h3, h5]
theorem pu_ok : ∀ (l : List UInt8) (acc : Nat), l.all dig = true → val l acc < 18446744073709551616 → Lib.parseUint10 acc l = .ok (val l acc)
  | [], acc, _, _ => rfl
  | c :: l, acc, h, hv => by
    simp only [List.all_cons, Bool.and_eq_true] at h
    have hd : 48 ≤ c.toNat ∧ c.toNat ≤ 57 := by have := h.1; simpa [dig] using this
    simp only [val] at hv ⊢
    have hg := val_ge l (acc * 10 + (c.toNat - 48))
    simp only [Lib.parseUint10]
    rw [if_pos hd, if_neg (by omega), if_neg (by omega)]
    exact pu_ok l _ h.2 hv
theorem atoi_dec (n : Nat) (h : n ≤ 9223372036854775807) : Lib.atoiAll (Lib.decDigits n) = .ok (n : Int) := by
  obtain ⟨hne, hall, hval, _, _⟩ := dec_facts n
  generalize Lib.decDigits n = l at *
  cases l with
  | nil => exact absurd rfl hne
  | cons c r =>
    have hc : 48 ≤ c.toNat ∧ c.toNat ≤ 57 := by
      simp only [List.all_cons, Bool.and_eq_true] at hall
      have := hall.1; simpa [dig] using this
    rw [Lib.atoiAll_plain c r (by omega) (by omega)]
    have hp : Lib.parseMag (c :: r) = .ok n := by
      unfold Lib.parseMag
      rw [if_neg (by simp), pu_ok (c :: r) 0 hall (by rw [hval]; omega), hval]
    rw [hp]
    simp only [Lib.signless]
    rw [if_neg (by omega)]
/-- The number from 0 to most that a text is; no number above 2^63 - 1 is one. -/
def numOf (l : List UInt8) (most : Int) : Option Nat := if most < 0 then none else num l (min most.toNat 9223372036854775807)
theorem numOf_some {l : List UInt8} {most : Int} {n : Nat} (h : numOf l most = some n) : l = Lib.decDigits n ∧ n ≤ 9223372036854775807 ∧ (n : Int) ≤ most := by
  unfold numOf at h
  split at h
  · cases h
  · have h1 := (num_some h).2.2.2.1
    exact ⟨(dec_num h).symm, by omega, by omega⟩
theorem numOf_dec {most : Int} {n : Nat} (h1 : n ≤ 9223372036854775807) (h2 : (n : Int) ≤ most) : numOf (Lib.decDigits n) most = some n := by
  unfold numOf
  rw [if_neg (by omega)]
  exact num_dec _ _ (by omega)
theorem numOf_err {l : List UInt8} {most : Int} (h : ∀ v, Lib.atoiAll l ≠ .ok v) : numOf l most = none := by
  cases hn : numOf l most with
  | none => rfl
  | some n =>
    obtain ⟨rfl, h1, _⟩ := numOf_some hn
    exact absurd (atoi_dec n h1) (h _)
theorem numOf_no {l : List UInt8} {most v : Int} (h : Lib.atoiAll l = .ok v) (hb : v < 0 ∨ most < v ∨ Lib.itoa v ≠ l) : numOf l most = none := by
  cases hn : numOf l most with
  | none => rfl
  | some n =>
    obtain ⟨rfl, h1, h2⟩ := numOf_some hn
    rw [atoi_dec n h1] at h
    injection h with h
    subst h
    rcases hb with hb | hb | hb
    · omega
    · omega
    · exact absurd (by unfold Lib.itoa; rw [if_neg (by omega)]; simp) hb
theorem numOf_yes {l : List UInt8} {most v : Int} (h : Lib.atoiAll l = .ok v) (h0 : 0 ≤ v) (h1 : v ≤ most) (h2 : Lib.itoa v = l) : numOf l most = some v.toNat := by
  have hb := Lib.atoiAll_bounds h
  obtain ⟨n, rfl⟩ := Int.eq_ofNat_of_zero_le h0
  have e : Lib.itoa (n : Int) = Lib.decDigits n := by unfold Lib.itoa; rw [if_neg (by omega)]; simp
  rw [e] at h2
  rw [← h2]
  exact numOf_dec (by omega) h1
/-- What Number hands back. -/
def NVal (o : Option Nat) : Value := .tuple #[.int .i64 (numI o), .bool o.isSome]
theorem nv_none {o : Option Nat} (h : o = none) : Ending.returned (.tuple #[.int .i64 0, .bool false]) = .returned (NVal o) := by rw [h]; rfl
theorem nv_some {o : Option Nat} {n : Nat} {x : Int} (h : o = some n) (hx : x = n) : Ending.returned (.tuple #[.int .i64 x, .bool true]) = .returned (NVal o) := by rw [h, hx]; rfl
/-- The greatest int's digits. -/
def maxL : List UInt8 := [57, 50, 50, 51, 51, 55, 50, 48, 51, 54, 56, 53, 52, 55, 55, 53, 56, 48, 55]
theorem maxL_val : val maxL 0 = 9223372036854775807 := by decide
theorem maxL_dig : maxL.all dig = true := by decide
theorem maxL_dec : Lib.decDigits 9223372036854775807 = maxL := by
  have h : num maxL 9223372036854775807 = some 9223372036854775807 := by decide
  exact dec_num h
theorem numOf_nodig {l : List UInt8} {most : Int} {k : Nat} (h : k < l.length) (hd : dig (l[k]) = false) : numOf l most = none := by
  unfold numOf
  split
  · rfl
  · exact num_nodig h hd
theorem numOf_lead {l : List UInt8} {most : Int} (h : lead l = true) : numOf l most = none := by
  unfold numOf
  split
  · rfl
  · unfold num; rw [if_pos (.inr (.inl h))]
theorem numOf_nil {most : Int} : numOf [] most = none := by
  unfold numOf
  split
  · rfl
  · rfl
theorem dec_short' (k : Nat) : ∀ u : Nat, u < 10 ^ (k + 1) → (Lib.decDigits u).length ≤ k + 1 := by
  induction k with
  | zero => intro u h; rw [dec_small (by omega)]; simp
  | succ k ih =>
    intro u h
    by_cases h2 : u < 10
    · rw [dec_small h2]; simp
    · rw [dec_big h2]
      have := ih (u / 10) (by rw [Nat.pow_succ] at h; omega)
      simp
      omega
theorem numOf_long {l : List UInt8} {most : Int} (h : 19 < l.length) : numOf l most = none := by
  cases hn : numOf l most with
  | none => rfl
  | some n =>
    obtain ⟨rfl, h1, _⟩ := numOf_some hn
    have := dec_short' 18 n (by omega)
    omega
theorem numOf_big {l : List UInt8} {most : Int} (h : l.length = 19) (hb : (Op.bytesLess l maxL || l == maxL) = false) : numOf l most = none := by
  cases hn : numOf l most with
  | none => rfl
  | some n =>
    obtain ⟨rfl, h1, _⟩ := numOf_some hn
    obtain ⟨_, hall, hval, _, _⟩ := dec_facts n
    rw [less_val _ _ (by rw [h]; rfl) hall maxL_dig, hval, maxL_val] at hb
    simp only [Bool.or_eq_false_iff, decide_eq_false_iff_not, beq_eq_false_iff_ne, ne_eq] at hb
    obtain ⟨hb1, hb2⟩ := hb
    have e : n = 9223372036854775807 := by omega
    exact absurd (by rw [e]; exact maxL_dec) hb2
theorem numOf_val {l : List UInt8} {most : Int} (h1 : l ≠ []) (h2 : lead l = false) (h3 : l.all dig = true) (h4 : val l 0 ≤ 9223372036854775807) : numOf l most = if most < (val l 0 : Int) then none else some (val l 0) := by
  unfold numOf
  by_cases hm : most < 0
  · rw [if_pos hm, if_pos (by omega)]
  · rw [if_neg hm]
    by_cases hb : most < (val l 0 : Int)
    · rw [if_pos hb]
      exact num_big (k := l.length) (by rw [List.take_length]; omega)
    · rw [if_neg hb]
      exact num_mk h1 h2 h3 (by omega)
theorem val_19 {l : List UInt8} (h : l.length = 19) (hall : l.all dig = true) (hb : (Op.bytesLess l maxL || l == maxL) = true) : val l 0 ≤ 9223372036854775807 := by
  rw [less_val _ _ (by rw [h]; rfl) hall maxL_dig, maxL_val] at hb
  simp only [Bool.or_eq_true, decide_eq_true_eq, beq_iff_eq] at hb
  rcases hb with hb | hb
  · omega
  · rw [hb, maxL_val]; omega
end Go.Proofs.Ytidcipefoplncaa
