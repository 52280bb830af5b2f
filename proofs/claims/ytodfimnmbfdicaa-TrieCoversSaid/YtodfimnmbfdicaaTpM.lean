/- Prefixes by the bits that they have in common, and trees of them: what is put in is in, and what covers a tree covers just what is in it, each address once. No condition; nothing here speaks of the program. -/
import Derived.Test.YtodfimnmbfdicaaAddrW6
namespace Go.Proofs.Ytodfimnmbfdicaa
/-- Two addresses have their first k bits in common. -/
def Eq32 (k a b : Int) : Prop := a / pw k = b / pw k
/-- The bit behind the first k. -/
def sd (a k : Int) : Int := if k < 32 then a / pw (k + 1) % 2 else 0
theorem Eq32.refl (k a : Int) : Eq32 k a a := rfl
theorem Eq32.symm {k a b : Int} (h : Eq32 k a b) : Eq32 k b a := Eq.symm h
theorem Eq32.trans {k a b c : Int} (h : Eq32 k a b) (h2 : Eq32 k b c) : Eq32 k a c := Eq.trans h h2
theorem div_half (a k : Int) (h : k < 32) : a / pw k = a / pw (k + 1) / 2 := by
  rw [pw_succ k h, Int.mul_comm, ← Int.ediv_ediv_of_nonneg (by have := pw_pos (k + 1); omega)]
theorem eq_succ {k a b : Int} (h : k < 32) : Eq32 (k + 1) a b ↔ Eq32 k a b ∧ sd a k = sd b k := by
  unfold Eq32 sd
  rw [div_half a k h, div_half b k h, if_pos h, if_pos h]
  constructor
  · intro e; rw [e]; exact ⟨rfl, rfl⟩
  · rintro ⟨e1, e2⟩; omega
theorem eq_mono {j k a b : Int} (hjk : j ≤ k) (hk : k ≤ 32) (h : Eq32 k a b) : Eq32 j a b := by
  unfold Eq32 at *
  have hp := pw_split j k hjk hk
  have hpos := pw_pos k
  rw [hp, ← Int.ediv_ediv_of_nonneg (by omega), h, Int.ediv_ediv_of_nonneg (by omega)]
theorem sd_two (a k : Int) : sd a k = 0 ∨ sd a k = 1 := by unfold sd; split <;> omega
/-- A prefix that may be. -/
def PfOk (a n : Int) : Prop := 0 ≤ a ∧ a < 4294967296 ∧ ck a n = 0
theorem PfOk.bits {a n : Int} (h : PfOk a n) : 0 ≤ n ∧ n ≤ 32 ∧ a % pw n = 0 := ck_ok a n h.2.2
theorem pf_eq {a n b : Int} (h : PfOk a n) (h2 : PfOk b n) (e : Eq32 n a b) : a = b := by
  have h1 := h.bits.2.2
  have h3 := h2.bits.2.2
  have := Int.mul_ediv_add_emod a (pw n)
  have := Int.mul_ediv_add_emod b (pw n)
  unfold Eq32 at e
  rw [e] at *
  omega
theorem in_iff {x a n : Int} (h : PfOk a n) : inB x a n = true ↔ Eq32 n x a := by
  have hp := pw_pos n
  have hb := h.bits.2.2
  have hq := Int.mul_ediv_add_emod a (pw n)
  have hx := Int.mul_ediv_add_emod x (pw n)
  have h1 := Int.emod_nonneg x (b := pw n) (by omega)
  have h2 := Int.emod_lt_of_pos x (b := pw n) (by omega)
  rw [inB_ok x a n h.2.2]
  simp only [Bool.and_eq_true, decide_eq_true_eq]
  unfold Eq32
  constructor
  · rintro ⟨h3, h4⟩
    refine (Int.ediv_eq_iff_of_pos (by omega)).2 ⟨?_, ?_⟩
    · rw [Int.mul_comm]; omega
    · rw [Int.mul_comm]; omega
  · intro e
    rw [e] at hx
    omega
theorem in_no {x a n : Int} (h : ¬ PfOk a n) (ha : 0 ≤ a) (ha2 : a < 4294967296) : inB x a n = false := inB_no x a n fun e => h ⟨ha, ha2, e⟩
/-- A tree of prefixes, some with values. -/
inductive Tr (V : Type) where
  | nil : Tr V
  | node (a n : Int) (u : Option V) (l r : Tr V) : Tr V
namespace Tr
variable {V : Type}
/-- All nodes' prefixes. -/
def All (p : Int → Int → Prop) : Tr V → Prop
  | nil => True
  | node a n _ l r => p a n ∧ l.All p ∧ r.All p
/-- A prefix has a value. -/
def Has (b m : Int) (v : V) : Tr V → Prop
  | nil => False
  | node a n u l r => (b = a ∧ m = n ∧ u = some v) ∨ l.Has b m v ∨ r.Has b m v
end Tr
/-- What begins with the first k bits of c. -/
def Reg (k c b m : Int) : Prop := k ≤ m ∧ Eq32 k b c
namespace Tr
variable {V : Type}
def Ok : Tr V → Prop
  | nil => True
  | node a n _ l r => PfOk a n ∧ l.All (Reg (n + 1) a) ∧ r.All (Reg (n + 1) (a + pw (n + 1))) ∧ l.Ok ∧ r.Ok
def ins (b m : Int) (v : V) : Tr V → Tr V
  | nil => node b m (some v) nil nil
  | node a n u l r =>
    if cmK a n b m = n then
      if cmK a n b m = m then node a n (some v) l r
      else if sd b n = 0 then node a n u (ins b m v l) r else node a n u l (ins b m v r)
    else if cmK a n b m = m then
      if sd a m = 0 then node b m (some v) (node a n u l r) nil else node b m (some v) nil (node a n u l r)
    else if sd a (cmK a n b m) = 0 then node (a / pw (cmK a n b m) * pw (cmK a n b m)) (cmK a n b m) none (node a n u l r) (node b m (some v) nil nil)
    else node (a / pw (cmK a n b m) * pw (cmK a n b m)) (cmK a n b m) none (node b m (some v) nil nil) (node a n u l r)
theorem All.imp {p q : Int → Int → Prop} (h : ∀ a n, p a n → q a n) : ∀ {t : Tr V}, t.All p → t.All q
  | nil, _ => trivial
  | node _ _ _ _ _, ⟨h1, h2, h3⟩ => ⟨h _ _ h1, All.imp h h2, All.imp h h3⟩
theorem Has.all {p : Int → Int → Prop} {b m : Int} {v : V} : ∀ {t : Tr V}, t.All p → t.Has b m v → p b m
  | node _ _ _ _ _, ⟨h1, h2, h3⟩, h => by
    rcases h with ⟨rfl, rfl, _⟩ | h | h
    · exact h1
    · exact Has.all h2 h
    · exact Has.all h3 h
end Tr
/-- What two prefixes have in common, at its place. -/
theorem cm_k {a n b m : Int} (h : PfOk a n) (h2 : PfOk b m) : 0 ≤ cmK a n b m ∧ cmK a n b m ≤ n ∧ cmK a n b m ≤ m ∧ Eq32 (cmK a n b m) a b := by
  obtain ⟨h3, h4, _⟩ := h.bits
  obtain ⟨h5, h6, _⟩ := h2.bits
  obtain ⟨h7, h8⟩ := cmK_range a n b m h.1 h.2.1 h2.1 h2.2.1 h3 h5
  obtain ⟨h9, h10, h11⟩ := (cmK_iff a n b m _ h.1 h.2.1 h2.1 h2.2.1 h7 h8).2 (Int.le_refl _)
  exact ⟨h7, h9, h10, h11⟩
theorem cm_le {a n b m k : Int} (h : PfOk a n) (h2 : PfOk b m) (h0 : 0 ≤ k) (hn : k ≤ n) (hm : k ≤ m) (he : Eq32 k a b) : k ≤ cmK a n b m := by
  obtain ⟨h3, h4, _⟩ := h.bits
  exact (cmK_iff a n b m k h.1 h.2.1 h2.1 h2.2.1 h0 (by omega)).1 ⟨hn, hm, he⟩
theorem cut_ok {a k : Int} (ha : 0 ≤ a) (ha2 : a < 4294967296) (h0 : 0 ≤ k) (h1 : k ≤ 32) : PfOk (a / pw k * pw k) k :=
  ⟨(sub_range a k ha ha2 h0 h1).1, (sub_range a k ha ha2 h0 h1).2, sub_ck a k h0 h1⟩
theorem cut_eq (a k : Int) : Eq32 k (a / pw k * pw k) a := by
  have := pw_pos k
  unfold Eq32
  rw [Int.mul_ediv_cancel _ (by omega)]
theorem cut_self {a n : Int} (h : PfOk a n) : a / pw n * pw n = a := by
  have := Int.mul_ediv_add_emod a (pw n)
  have := h.bits.2.2
  rw [Int.mul_comm]; omega
/-- A half of a prefix. -/
theorem half_lo {a n b : Int} (h : PfOk a n) (hn : n < 32) (he : Eq32 n b a) (hs : sd b n = 0) : Eq32 (n + 1) b a := by
  refine (eq_succ hn).2 ⟨he, ?_⟩
  rw [hs]
  unfold sd
  rw [if_pos hn]
  have h1 := h.bits.2.2
  have h2 := pw_pos (n + 1)
  rw [pw_succ n hn] at h1
  obtain ⟨q, hq⟩ : (2 * pw (n + 1)) ∣ a := Int.dvd_of_emod_eq_zero h1
  rw [hq, show 2 * pw (n + 1) * q = pw (n + 1) * (2 * q) by rw [Int.mul_comm 2, Int.mul_assoc], Int.mul_ediv_cancel_left _ (by omega)]
  omega
theorem half_hi_eq {a n : Int} (h : PfOk a n) (hn : n < 32) : Eq32 n (a + pw (n + 1)) a ∧ sd (a + pw (n + 1)) n = 1 ∧ sd a n = 0 := by
  have h1 := h.bits.2.2
  have h2 := pw_pos (n + 1)
  rw [pw_succ n hn] at h1
  obtain ⟨q, hq⟩ : (2 * pw (n + 1)) ∣ a := Int.dvd_of_emod_eq_zero h1
  have e1 : a / pw (n + 1) = 2 * q := by rw [hq, show 2 * pw (n + 1) * q = pw (n + 1) * (2 * q) by rw [Int.mul_comm 2, Int.mul_assoc], Int.mul_ediv_cancel_left _ (by omega)]
  have e2 : (a + pw (n + 1)) / pw (n + 1) = 2 * q + 1 := by rw [Int.add_ediv_of_dvd_right (Int.dvd_refl _), e1, Int.ediv_self (by omega)]
  unfold Eq32 sd
  rw [if_pos hn, if_pos hn, div_half a n hn, div_half _ n hn, e1, e2]
  omega
theorem half_hi {a n b : Int} (h : PfOk a n) (hn : n < 32) (he : Eq32 n b a) (hs : sd b n = 1) : Eq32 (n + 1) b (a + pw (n + 1)) := by
  obtain ⟨h1, h2, _⟩ := half_hi_eq h hn
  exact (eq_succ hn).2 ⟨he.trans h1.symm, by rw [hs, h2]⟩
theorem half_ok {a n : Int} (h : PfOk a n) (hn : n < 32) : PfOk a (n + 1) ∧ PfOk (a + pw (n + 1)) (n + 1) := by
  obtain ⟨h0, h1, h2⟩ := h.bits
  have h3 := pw_pos (n + 1)
  have hl := ck_last a n h.2.1 h.2.2
  rw [pw_succ n hn] at h2 hl
  obtain ⟨q, hq⟩ : (2 * pw (n + 1)) ∣ a := Int.dvd_of_emod_eq_zero h2
  have e : a % pw (n + 1) = 0 := by
    rw [hq, show 2 * pw (n + 1) * q = pw (n + 1) * (2 * q) by rw [Int.mul_comm 2, Int.mul_assoc]]
    exact Int.mul_emod_right _ _
  exact ⟨⟨h.1, h.2.1, ck_mk _ _ (by omega) (by omega) e⟩, ⟨by have := h.1; omega, by omega, ck_mk _ _ (by omega) (by omega) (by rw [Int.add_emod_right, e])⟩⟩
theorem Reg.mono {j k c d b m : Int} (hjk : j ≤ k) (hk : k ≤ 32) (hd : Eq32 j d c) (h : Reg k d b m) : Reg j c b m :=
  ⟨by have := h.1; omega, (eq_mono hjk hk h.2).trans hd⟩
namespace Tr
variable {V : Type}
theorem all_ok : ∀ {t : Tr V}, t.Ok → t.All PfOk
  | nil, _ => trivial
  | node _ _ _ _ _, ⟨h, _, _, hl, hr⟩ => ⟨h, all_ok hl, all_ok hr⟩
theorem all_both {p q : Int → Int → Prop} : ∀ {t : Tr V}, t.All p → t.All q → t.All fun a n => p a n ∧ q a n
  | nil, _, _ => trivial
  | node _ _ _ _ _, ⟨h1, h2, h3⟩, ⟨k1, k2, k3⟩ => ⟨⟨h1, k1⟩, all_both h2 k2, all_both h3 k3⟩
end Tr
/-- All below a node has its bits. -/
theorem reg_lo {a n b m : Int} (h : PfOk a n) (hb : PfOk b m) (hr : Reg (n + 1) a b m) : Reg n a b m :=
  Reg.mono (k := n + 1) (by omega) (by have := hr.1; have := hb.bits; omega) (Eq32.refl _ _) hr
theorem reg_hi {a n b m : Int} (h : PfOk a n) (hb : PfOk b m) (hr : Reg (n + 1) (a + pw (n + 1)) b m) : Reg n a b m :=
  Reg.mono (k := n + 1) (by omega) (by have := hr.1; have := hb.bits; omega) (half_hi_eq h (by have := hr.1; have := hb.bits; omega)).1 hr
end Go.Proofs.Ytodfimnmbfdicaa
