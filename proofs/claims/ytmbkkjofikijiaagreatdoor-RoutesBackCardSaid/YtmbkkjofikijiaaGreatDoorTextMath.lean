/- The plain reading and writing of numbers, addresses and prefixes as lists of bytes. No condition; nothing here speaks of the program. -/
import Derived.Test.YtmbkkjofikijiaaGreatDoorAddrMath
import Derived.Lib.ItoaNum
import Derived.Lib.Bytealg
namespace Go.Proofs.YtmbkkjofikijiaaGreatDoor
open Go.RowKit
def dig (c : UInt8) : Bool := decide (48 ≤ c.toNat) && decide (c.toNat ≤ 57)
/-- The number that digits are, behind n. -/
def val : List UInt8 → Nat → Nat
  | [], n => n
  | c :: l, n => val l (n * 10 + (c.toNat - 48))
theorem val_snoc (l : List UInt8) (c : UInt8) : ∀ n, val (l ++ [c]) n = val l n * 10 + (c.toNat - 48) := by
  induction l with
  | nil => intro n; rfl
  | cons b l ih => intro n; exact ih _
theorem val_ge (l : List UInt8) : ∀ n, n ≤ val l n := by
  induction l with
  | nil => intro n; exact Nat.le_refl _
  | cons b l ih => intro n; exact Nat.le_trans (by omega) (ih _)
theorem val_append (l m : List UInt8) : ∀ n, val (l ++ m) n = val m (val l n) := by
  induction l with
  | nil => intro n; rfl
  | cons b l ih => intro n; exact ih _
/-- A nought ahead of another digit. -/
def lead (l : List UInt8) : Bool := decide (1 < l.length) && (l.head? == some 48)
/-- The number from 0 to top that a text is. -/
def num (l : List UInt8) (top : Nat) : Option Nat := if l = [] ∨ lead l = true ∨ l.all dig = false ∨ top < val l 0 then none else some (val l 0)
theorem num_some {l : List UInt8} {top n : Nat} (h : num l top = some n) : l ≠ [] ∧ lead l = false ∧ l.all dig = true ∧ n ≤ top ∧ n = val l 0 := by
  unfold num at h
  by_cases hh : l = [] ∨ lead l = true ∨ l.all dig = false ∨ top < val l 0
  · rw [if_pos hh] at h; simp at h
  · rw [if_neg hh] at h
    simp only [Option.some.injEq] at h
    refine ⟨fun e => hh (.inl e), ?_, ?_, ?_, h.symm⟩
    · cases hl : lead l with
      | false => rfl
      | true => exact absurd (.inr (.inl hl)) hh
    · cases hl : l.all dig with
      | true => rfl
      | false => exact absurd (.inr (.inr (.inl hl))) hh
    · have : ¬ top < val l 0 := fun e => hh (.inr (.inr (.inr e)))
      omega
theorem num_mk {l : List UInt8} {top : Nat} (h1 : l ≠ []) (h2 : lead l = false) (h3 : l.all dig = true) (h4 : val l 0 ≤ top) : num l top = some (val l 0) := by
  unfold num
  rw [if_neg]
  rintro (h | h | h | h)
  · exact h1 h
  · rw [h2] at h; simp at h
  · rw [h3] at h; simp at h
  · omega
theorem ofNat_toNat (u : Nat) (h : u < 256) : (UInt8.ofNat u).toNat = u := by simp [UInt8.toNat_ofNat', Nat.mod_eq_of_lt h]
theorem dec_small {u : Nat} (h : u < 10) : Lib.decDigits u = [UInt8.ofNat (48 + u)] := by rw [Lib.decDigits, dif_pos h]
theorem dec_big {u : Nat} (h : ¬ u < 10) : Lib.decDigits u = Lib.decDigits (u / 10) ++ [UInt8.ofNat (48 + u % 10)] := by rw [Lib.decDigits, dif_neg h]
theorem dec_facts (u : Nat) : Lib.decDigits u ≠ [] ∧ (Lib.decDigits u).all dig = true ∧ val (Lib.decDigits u) 0 = u ∧ (1 ≤ u → (Lib.decDigits u).head? ≠ some 48) ∧ (u < 10 → (Lib.decDigits u).length = 1) := by
  induction u using Nat.strongRecOn with
  | _ u ih =>
    by_cases h : u < 10
    · rw [dec_small h]
      have e := ofNat_toNat (48 + u) (by omega)
      refine ⟨by simp, ?_, ?_, ?_, fun _ => rfl⟩
      · simp only [List.all_cons, List.all_nil, Bool.and_true, dig, e]; simp; omega
      · simp only [val, e]; omega
      · intro h1 h2
        simp only [List.head?_cons, Option.some.injEq] at h2
        have h3 := congrArg UInt8.toNat h2
        rw [e] at h3
        have : (48 : UInt8).toNat = 48 := rfl
        omega
    · rw [dec_big h]
      obtain ⟨i1, i2, i3, i4, _⟩ := ih (u / 10) (by omega)
      have e := ofNat_toNat (48 + u % 10) (by omega)
      refine ⟨by simp, ?_, ?_, ?_, fun hh => absurd hh h⟩
      · rw [List.all_append, i2]; simp only [List.all_cons, List.all_nil, Bool.and_true, dig, e, Bool.true_and]; simp; omega
      · rw [val_snoc, i3, e]; omega
      · intro _
        obtain ⟨c, m, hm⟩ := List.exists_cons_of_ne_nil i1
        have i5 := i4 (by omega)
        rw [hm] at i5 ⊢
        simpa using i5
theorem dec_lead (u : Nat) : lead (Lib.decDigits u) = false := by
  obtain ⟨_, _, _, i4, i5⟩ := dec_facts u
  unfold lead
  by_cases h : u < 10
  · simp [i5 h]
  · have := i4 (by omega)
    simp [this]
theorem num_dec (u top : Nat) (h : u ≤ top) : num (Lib.decDigits u) top = some u := by
  obtain ⟨i1, i2, i3, _⟩ := dec_facts u
  have := num_mk (top := top) i1 (dec_lead u) i2 (by rw [i3]; exact h)
  rw [this, i3]
theorem list_snoc (l : List UInt8) (h : l ≠ []) : ∃ m c, l = m ++ [c] := ⟨l.dropLast, l.getLast h, (List.dropLast_concat_getLast h).symm⟩
theorem dec_val (k : Nat) : ∀ l : List UInt8, l.length = k → l ≠ [] → lead l = false → l.all dig = true → Lib.decDigits (val l 0) = l ∧ (l.head? ≠ some 48 → 1 ≤ val l 0) := by
  induction k with
  | zero => intro l hl h; exact absurd (List.eq_nil_of_length_eq_zero hl) h
  | succ k ih =>
    intro l hl hne hlead hall
    obtain ⟨m, c, rfl⟩ := list_snoc l hne
    rw [List.all_append, Bool.and_eq_true] at hall
    obtain ⟨ha, hc⟩ := hall
    simp only [List.all_cons, List.all_nil, Bool.and_true, dig, Bool.and_eq_true, decide_eq_true_eq] at hc
    have hback : ∀ d : Nat, d = c.toNat - 48 → UInt8.ofNat (48 + d) = c := fun d hd => by
      rw [hd, show 48 + (c.toNat - 48) = c.toNat by omega]
      exact UInt8.ofNat_toNat
    by_cases hm : m = []
    · subst hm
      have e : val ([] ++ [c]) 0 = c.toNat - 48 := by simp [val]
      rw [e, dec_small (by omega), hback _ rfl]
      refine ⟨rfl, fun h => ?_⟩
      have : c ≠ 48 := fun h2 => h (by rw [h2]; rfl)
      have h3 : c.toNat ≠ 48 := fun h2 => this (UInt8.toNat_inj.mp h2)
      omega
    · have hlen : m.length = k := by simpa using hl
      have hhead : (m ++ [c]).head? = m.head? := by
        obtain ⟨b, r, rfl⟩ := List.exists_cons_of_ne_nil hm
        rfl
      have hpos : 0 < m.length := List.length_pos_iff.mpr hm
      have h48 : m.head? ≠ some 48 := fun h => by
        unfold lead at hlead
        rw [hhead, h] at hlead
        simp at hlead
        exact hm hlead
      have hlm : lead m = false := by
        unfold lead
        simp [h48]
      obtain ⟨i1, i2⟩ := ih m hlen hm hlm ha
      have i3 := i2 h48
      rw [val_snoc, dec_big (by omega)]
      have e1 : (val m 0 * 10 + (c.toNat - 48)) / 10 = val m 0 := by omega
      have e2 : (val m 0 * 10 + (c.toNat - 48)) % 10 = c.toNat - 48 := by omega
      rw [e1, e2, i1, hback _ rfl]
      exact ⟨rfl, fun _ => by omega⟩
theorem dec_num {l : List UInt8} {top n : Nat} (h : num l top = some n) : Lib.decDigits n = l := by
  obtain ⟨h1, h2, h3, _, h5⟩ := num_some h
  rw [h5]
  exact (dec_val l.length l rfl h1 h2 h3).1
/-- What stands ahead of the first c, what stands behind it, and whether there is one. -/
def cut1 : List UInt8 → UInt8 → List UInt8 × List UInt8 × Bool
  | [], _ => ([], [], false)
  | b :: l, c => if b == c then ([], l, true) else (b :: (cut1 l c).1, (cut1 l c).2.1, (cut1 l c).2.2)
theorem cut1_index (l : List UInt8) (c : UInt8) : (if 0 ≤ Lib.indexByte l c then (l.take (Lib.indexByte l c).toNat, l.drop ((Lib.indexByte l c).toNat + 1), true) else (l, [], false)) = cut1 l c := by
  induction l with
  | nil => simp [Lib.indexByte, cut1]
  | cons b l ih =>
    have hge := Lib.indexByte_ge l c
    unfold Lib.indexByte cut1
    by_cases h : b == c
    · simp [h]
    · simp only [h]
      rw [← ih]
      by_cases h2 : Lib.indexByte l c == -1
      · have e : Lib.indexByte l c = -1 := by simpa using h2
        simp [e]
      · have e : ¬ Lib.indexByte l c = -1 := by simpa using h2
        have e0 : 0 ≤ Lib.indexByte l c := by omega
        have e1 : 0 ≤ Lib.indexByte l c + 1 := by omega
        have e2 : (Lib.indexByte l c + 1).toNat = (Lib.indexByte l c).toNat + 1 := by omega
        simp [h2, e0, e1, e2]
theorem cut1_mk (p r : List UInt8) (c : UInt8) (h : c ∉ p) : cut1 (p ++ c :: r) c = (p, r, true) := by
  induction p with
  | nil => simp [cut1]
  | cons b p ih =>
    simp only [List.mem_cons, not_or] at h
    have hb : (b == c) = false := by simpa using fun e => h.1 e.symm
    simp only [List.cons_append, cut1, hb]
    rw [ih h.2]
    rfl
theorem cut1_none (p : List UInt8) (c : UInt8) (h : c ∉ p) : cut1 p c = (p, [], false) := by
  induction p with
  | nil => rfl
  | cons b p ih =>
    simp only [List.mem_cons, not_or] at h
    have hb : (b == c) = false := by simpa using fun e => h.1 e.symm
    simp only [cut1, hb]
    rw [ih h.2]
    rfl
theorem cut1_yes (l : List UInt8) (c : UInt8) (h : (cut1 l c).2.2 = true) : l = (cut1 l c).1 ++ c :: (cut1 l c).2.1 := by
  induction l with
  | nil => simp [cut1] at h
  | cons b l ih =>
    unfold cut1 at h ⊢
    by_cases hb : b == c
    · simp only [hb, if_true, List.nil_append]
      rw [show b = c by simpa using hb]
    · simp only [hb] at h ⊢
      exact congrArg (b :: ·) (ih h)
theorem cut1_no (l : List UInt8) (c : UInt8) (h : (cut1 l c).2.2 = false) : (cut1 l c).1 = l := by
  induction l with
  | nil => rfl
  | cons b l ih =>
    unfold cut1 at h ⊢
    by_cases hb : b == c
    · simp [hb] at h
    · simp only [hb] at h ⊢
      exact congrArg (b :: ·) (ih h)
theorem cut1_len (l : List UInt8) (c : UInt8) : (cut1 l c).1.length ≤ l.length ∧ (cut1 l c).2.1.length ≤ l.length := by
  induction l with
  | nil => simp [cut1]
  | cons b l ih =>
    unfold cut1
    by_cases hb : b == c
    · simp [hb]
    · simp only [hb]
      simp
      omega
/-- So many numbers, dots between; a: what was read so far. -/
def parseN : Nat → List UInt8 → Nat → Option Nat
  | 0, _, a => some a
  | k + 1, l, a => match num (cut1 l 46).1 255 with
    | none => none
    | some n => if (cut1 l 46).2.2 = decide (k = 0) then none else parseN k (cut1 l 46).2.1 (a * 256 + n)
/-- The address that a text is. -/
def parse (l : List UInt8) : Option Nat := parseN 4 l 0
theorem parseN_lt : ∀ (k : Nat) (l : List UInt8) (a r : Nat), parseN k l a = some r → r < (a + 1) * 256 ^ k := by
  intro k
  induction k with
  | zero => intro l a r h; simp only [parseN, Option.some.injEq] at h; simp; omega
  | succ k ih =>
    intro l a r h
    unfold parseN at h
    cases hn : num (cut1 l 46).1 255 with
    | none => rw [hn] at h; simp at h
    | some n =>
      rw [hn] at h
      have hn2 := (num_some hn).2.2.2.1
      simp only at h
      split at h
      · simp at h
      · have := ih _ _ _ h
        have h2 : (a * 256 + n + 1) * 256 ^ k ≤ (a + 1) * 256 * 256 ^ k := Nat.mul_le_mul_right _ (by omega)
        rw [Nat.pow_succ, Nat.mul_comm (256 ^ k) 256, ← Nat.mul_assoc]
        omega
theorem parse_lt {l : List UInt8} {r : Nat} (h : parse l = some r) : r < 4294967296 := by
  have := parseN_lt 4 l 0 r h
  omega
/-- An address's text. -/
def text (a : Nat) : List UInt8 := Lib.decDigits (a / 16777216) ++ 46 :: (Lib.decDigits (a / 65536 % 256) ++ 46 :: (Lib.decDigits (a / 256 % 256) ++ 46 :: Lib.decDigits (a % 256)))
theorem dec_no (u : Nat) (c : UInt8) (h : dig c = false) : c ∉ Lib.decDigits u := fun hm => by
  have := List.all_eq_true.mp (dec_facts u).2.1 c hm
  rw [h] at this
  simp at this
theorem parse_text (a : Nat) (h : a < 4294967296) : parse (text a) = some a := by
  have d : dig 46 = false := by decide
  unfold parse text
  unfold parseN
  rw [cut1_mk _ _ _ (dec_no _ _ d), num_dec _ _ (by omega)]
  simp only
  unfold parseN
  rw [cut1_mk _ _ _ (dec_no _ _ d), num_dec _ _ (by omega)]
  simp only
  unfold parseN
  rw [cut1_mk _ _ _ (dec_no _ _ d), num_dec _ _ (by omega)]
  simp only
  unfold parseN
  rw [cut1_none _ _ (dec_no _ _ d), num_dec _ _ (by omega)]
  simp [parseN]
  omega
theorem text_parse {l : List UInt8} {a : Nat} (h : parse l = some a) : text a = l := by
  have step : ∀ (k : Nat) (l : List UInt8) (a r : Nat), parseN (k + 1) l a = some r → ∃ n, n ≤ 255 ∧ Lib.decDigits n = (cut1 l 46).1 ∧ (cut1 l 46).2.2 = !decide (k = 0) ∧ parseN k (cut1 l 46).2.1 (a * 256 + n) = some r := by
    intro k l a r h
    unfold parseN at h
    cases hn : num (cut1 l 46).1 255 with
    | none => rw [hn] at h; simp at h
    | some n =>
      rw [hn] at h
      simp only at h
      split at h
      · simp at h
      · rename_i hc
        refine ⟨n, (num_some hn).2.2.2.1, dec_num hn, ?_, h⟩
        cases h1 : (cut1 l 46).2.2 <;> cases h2 : decide (k = 0) <;> simp_all
  obtain ⟨n1, l1, d1, c1, h⟩ := step 3 _ _ _ h
  obtain ⟨n2, l2, d2, c2, h⟩ := step 2 _ _ _ h
  obtain ⟨n3, l3, d3, c3, h⟩ := step 1 _ _ _ h
  obtain ⟨n4, l4, d4, c4, h⟩ := step 0 _ _ _ h
  simp only [parseN, Option.some.injEq] at h
  have e1 := cut1_yes _ _ (c1.trans (by decide))
  have e2 := cut1_yes _ _ (c2.trans (by decide))
  have e3 := cut1_yes _ _ (c3.trans (by decide))
  have e4 := cut1_no _ _ (c4.trans (by decide))
  unfold text
  rw [show a / 16777216 = n1 by omega, show a / 65536 % 256 = n2 by omega, show a / 256 % 256 = n3 by omega, show a % 256 = n4 by omega, d1, d2, d3, d4, e4, ← e3, ← e2, ← e1]
/-- The prefix that a text is, and the error: 0 none. -/
def pparse (l : List UInt8) : Int × Int × Int := match parse (cut1 l 47).1, num (cut1 l 47).2.1 32, (cut1 l 47).2.2 with
  | some a, some n, true => if ck (a : Int) (n : Int) = 0 then ((a : Int), (n : Int), 0) else (0, 0, ck (a : Int) (n : Int))
  | _, _, _ => (0, 0, 4)
end Go.Proofs.YtmbkkjofikijiaaGreatDoor
