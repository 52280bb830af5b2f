/- The plain arithmetic of prefixes in one another: an order, told by the ends; two that meet; the least that holds two; halves. Nothing here speaks of the program. No condition. -/
import Derived.Test.YtdjjogcagolcjaaDoorAddrW6
namespace Go.Proofs.YtdjjogcagolcjaaDoor
open Go.RowKit
theorem mul_of_ck {a n : Int} (h : ck a n = 0) : a / pw n * pw n = a := Int.ediv_mul_cancel (Int.dvd_of_emod_eq_zero (ck_ok a n h).2.2)
theorem wi_div {a n b m : Int} (h : ck a n = 0) (h2 : ck b m = 0) : wiB a n b m = decide (m ≤ n ∧ b / pw m = a / pw m) := by
  obtain ⟨m0, m1, _⟩ := ck_ok b m h2
  have h3 := wi_other a n b m h m0 m1
  rw [mul_of_ck h2] at h3
  exact h3
theorem in_div {x b m : Int} (h : ck b m = 0) : inB x b m = decide (x / pw m = b / pw m) := by
  have hp := pw_pos m
  have hb := mul_of_ck h
  have h1 := Int.ediv_mul_le x (b := pw m) (by omega)
  have h2 := Int.lt_ediv_add_one_mul_self x (b := pw m) (by omega)
  rw [Int.add_mul, Int.one_mul] at h2
  rw [inB_ok x b m h]
  by_cases e : x / pw m = b / pw m
  · rw [e, hb] at h1 h2
    simp [e, h1, h2]
  · have : ¬ (b ≤ x ∧ x < b + pw m) := fun ⟨u, v⟩ => e (by
      obtain ⟨r, hr⟩ : ∃ r, r = x - b := ⟨_, rfl⟩
      have e1 : x = r + b / pw m * pw m := by omega
      rw [e1, Int.add_mul_ediv_right _ _ (by omega), Int.ediv_eq_zero_of_lt (by omega) (by omega), Int.zero_add])
    simp only [e, decide_false]
    simp only [Bool.and_eq_false_iff, decide_eq_false_iff_not]
    omega
theorem div_mono {x y m l : Int} (h : l ≤ m) (h1 : m ≤ 32) (e : x / pw m = y / pw m) : x / pw l = y / pw l := by
  have hp := pw_pos m
  rw [pw_split l m h h1, ← Int.ediv_ediv_of_nonneg (by omega), ← Int.ediv_ediv_of_nonneg (by omega), e]
theorem wi_refl {a n : Int} (h : ck a n = 0) : wiB a n a n = true := by rw [wi_div h h]; simp
theorem wi_anti {a n b m : Int} (h : ck a n = 0) (h2 : ck b m = 0) : (wiB a n b m && wiB b m a n) = decide (a = b ∧ n = m) := by
  rw [wi_div h h2, wi_div h2 h]
  by_cases e : a = b ∧ n = m
  · obtain ⟨rfl, rfl⟩ := e; simp
  · have : ¬ ((m ≤ n ∧ b / pw m = a / pw m) ∧ (n ≤ m ∧ a / pw n = b / pw n)) := fun ⟨u, v⟩ => e (by
      have e1 : n = m := by omega
      subst e1
      exact ⟨by rw [← mul_of_ck h, ← mul_of_ck h2, v.2], rfl⟩)
    rw [← Bool.decide_and]
    simp only [this, e, decide_false]
theorem wi_trans {a n b m c l : Int} (h : ck a n = 0) (h2 : ck b m = 0) (h3 : ck c l = 0) (e : wiB a n b m = true) (e2 : wiB b m c l = true) : wiB a n c l = true := by
  rw [wi_div h h2] at e
  rw [wi_div h2 h3] at e2
  rw [wi_div h h3]
  simp only [decide_eq_true_eq] at *
  obtain ⟨m0, m1, _⟩ := ck_ok b m h2
  exact ⟨by omega, e2.2.trans (div_mono (by omega) m1 e.2)⟩
theorem wi_ends {a n b m : Int} (h : ck a n = 0) (h2 : ck b m = 0) : wiB a n b m = (inB a b m && inB (a + (pw n - 1)) b m) := by
  obtain ⟨n0, n1, hn⟩ := ck_ok a n h
  obtain ⟨m0, m1, hm⟩ := ck_ok b m h2
  have hp := pw_pos n
  by_cases hmn : m ≤ n
  · have e : (a + (pw n - 1)) / pw n = a / pw n := by
      have e1 : a + (pw n - 1) = (pw n - 1) + a / pw n * pw n := by rw [mul_of_ck h]; omega
      rw [e1, Int.add_mul_ediv_right _ _ (by omega), Int.ediv_eq_zero_of_lt (by omega) (by omega), Int.zero_add]
    rw [wi_div h h2, in_div h2, in_div h2, div_mono hmn n1 e]
    by_cases e2 : b / pw m = a / pw m
    · simp [hmn, e2]
    · simp [e2, Ne.symm e2]
  · have e1 : wiB a n b m = false := wiB_no2 a n b m hmn
    rw [e1]
    have hs := pw_split n m (by omega) m1
    have hx : (2 : Int) ≤ ((2 ^ (m - n).toNat : Nat) : Int) := by
      have : 2 ^ 1 ≤ 2 ^ (m - n).toNat := Nat.pow_le_pow_right (by omega) (by omega)
      omega
    have hq := pw_pos m
    have hy : pw m * 2 ≤ pw n := by rw [hs]; exact Int.mul_le_mul_of_nonneg_left hx (by omega)
    rw [inB_ok a b m h2, inB_ok _ b m h2]
    symm
    simp only [Bool.and_eq_false_iff, decide_eq_false_iff_not]
    omega
theorem wi_meet {x a n b m : Int} (h : ck a n = 0) (h2 : ck b m = 0) (e : inB x a n = true) (e2 : inB x b m = true) (e3 : wiB a n b m = false) : wiB b m a n = true := by
  rw [in_div h] at e
  rw [in_div h2] at e2
  rw [wi_div h h2] at e3
  rw [wi_div h2 h]
  obtain ⟨n0, n1, _⟩ := ck_ok a n h
  obtain ⟨m0, m1, _⟩ := ck_ok b m h2
  simp only [decide_eq_true_eq, decide_eq_false_iff_not] at *
  by_cases hmn : m ≤ n
  · exact absurd ⟨hmn, by rw [← e2]; exact div_mono hmn n1 e⟩ e3
  · exact ⟨by omega, by rw [← e]; exact div_mono (by omega) m1 e2⟩
theorem in_ends {x a n : Int} (h : ck a n = 0) : inB x a n = (decide (a ≤ x) && decide (x ≤ a + (pw n - 1))) := by
  rw [inB_ok x a n h]
  have e : (x < a + pw n) ↔ (x ≤ a + (pw n - 1)) := by omega
  simp only [e]
theorem cm_at (a n b m : Int) (ha : 0 ≤ a) (ha2 : a < 4294967296) (hb : 0 ≤ b) (hb2 : b < 4294967296) (hn : 0 ≤ n) (hm : 0 ≤ m) : cmK a n b m ≤ n ∧ cmK a n b m ≤ m ∧ a / pw (cmK a n b m) = b / pw (cmK a n b m) := by
  obtain ⟨r0, r1⟩ := cmK_range a n b m ha ha2 hb hb2 hn hm
  exact (cmK_iff a n b m _ ha ha2 hb hb2 r0 r1).mpr (by omega)
theorem cm_wi1 {a n b m : Int} (ha : 0 ≤ a) (ha2 : a < 4294967296) (hb : 0 ≤ b) (hb2 : b < 4294967296) (h : ck a n = 0) (h2 : ck b m = 0) : wiB a n (a / pw (cmK a n b m) * pw (cmK a n b m)) (cmK a n b m) = true := by
  obtain ⟨n0, n1, _⟩ := ck_ok a n h
  obtain ⟨m0, m1, _⟩ := ck_ok b m h2
  obtain ⟨r0, r1⟩ := cmK_range a n b m ha ha2 hb hb2 n0 m0
  rw [wi_self a n _ h r0 r1]
  simpa using (cm_at a n b m ha ha2 hb hb2 n0 m0).1
theorem cm_wi2 {a n b m : Int} (ha : 0 ≤ a) (ha2 : a < 4294967296) (hb : 0 ≤ b) (hb2 : b < 4294967296) (h : ck a n = 0) (h2 : ck b m = 0) : wiB b m (a / pw (cmK a n b m) * pw (cmK a n b m)) (cmK a n b m) = true := by
  obtain ⟨n0, n1, _⟩ := ck_ok a n h
  obtain ⟨m0, m1, _⟩ := ck_ok b m h2
  obtain ⟨r0, r1⟩ := cmK_range a n b m ha ha2 hb hb2 n0 m0
  rw [wi_other b m a _ h2 r0 r1]
  simpa using (cm_at a n b m ha ha2 hb hb2 n0 m0).2
theorem cm_least {a n b m c l : Int} (ha : 0 ≤ a) (ha2 : a < 4294967296) (hb : 0 ≤ b) (hb2 : b < 4294967296) (h : ck a n = 0) (h2 : ck b m = 0) (h3 : ck c l = 0) (e : wiB a n c l = true) (e2 : wiB b m c l = true) : wiB (a / pw (cmK a n b m) * pw (cmK a n b m)) (cmK a n b m) c l = true := by
  obtain ⟨n0, n1, _⟩ := ck_ok a n h
  obtain ⟨m0, m1, _⟩ := ck_ok b m h2
  obtain ⟨l0, l1, _⟩ := ck_ok c l h3
  obtain ⟨r0, r1⟩ := cmK_range a n b m ha ha2 hb hb2 n0 m0
  rw [wi_div h h3] at e
  rw [wi_div h2 h3] at e2
  simp only [decide_eq_true_eq] at e e2
  have hl := (cmK_iff a n b m l ha ha2 hb hb2 l0 l1).mp ⟨e.1, e2.1, by rw [← e.2, ← e2.2]⟩
  rw [wi_div (sub_ck a _ r0 r1) h3]
  simp only [decide_eq_true_eq]
  have hp := pw_pos (cmK a n b m)
  refine ⟨hl, e.2.trans (div_mono hl r1 ?_)⟩
  rw [Int.mul_ediv_cancel _ (by omega)]
theorem half_ck {a n : Int} (h : ck a n = 0) (hn : n < 32) : ck a (n + 1) = 0 ∧ ck (a + pw (n + 1)) (n + 1) = 0 := by
  obtain ⟨n0, n1, h1⟩ := ck_ok a n h
  have hs := pw_succ n hn
  have hp := pw_pos (n + 1)
  have e : a % pw (n + 1) = 0 := by
    apply Int.emod_eq_zero_of_dvd
    exact Int.dvd_trans (pw_dvd n (n + 1) (by omega) (by omega)) (Int.dvd_of_emod_eq_zero h1)
  exact ⟨ck_mk _ _ (by omega) (by omega) e, ck_mk _ _ (by omega) (by omega) (by rw [Int.add_emod_right, e])⟩
theorem half_in {x a n : Int} (h : ck a n = 0) (hn : n < 32) : inB x a n = (inB x a (n + 1) != inB x (a + pw (n + 1)) (n + 1)) := by
  obtain ⟨h1, h2⟩ := half_ck h hn
  have hs := pw_succ n hn
  have hp := pw_pos (n + 1)
  rw [inB_ok x a n h, inB_ok x a _ h1, inB_ok x _ _ h2]
  rw [Bool.eq_iff_iff]
  simp only [bne_iff_ne, ne_eq, Bool.and_eq_true, decide_eq_true_eq]
  rw [Bool.eq_iff_iff]
  simp only [Bool.and_eq_true, decide_eq_true_eq]
  omega
theorem half_cmp (a n : Int) : cmpI a (n + 1) (a + pw (n + 1)) (n + 1) = -1 := by
  have hp := pw_pos (n + 1)
  unfold cmpI
  rw [if_pos (by omega)]
theorem half_wi1 {a n : Int} (h : ck a n = 0) (hn : n < 32) : wiB a (n + 1) a n = true := by
  rw [wi_div (half_ck h hn).1 h]; simp; omega
theorem half_wi2 {a n : Int} (h : ck a n = 0) (hn : n < 32) : wiB (a + pw (n + 1)) (n + 1) a n = true := by
  have hs := pw_succ n hn
  have hp := pw_pos (n + 1)
  obtain ⟨n0, n1, _⟩ := ck_ok a n h
  have hi := @in_div (a + pw (n + 1)) a n h
  rw [inB_ok _ _ _ h] at hi
  rw [wi_div (half_ck h hn).2 h]
  have : (decide (a ≤ a + pw (n + 1)) && decide (a + pw (n + 1) < a + pw n)) = true := by simp; omega
  rw [this] at hi
  have hi := of_decide_eq_true hi.symm
  simp only [decide_eq_true_eq]
  exact ⟨by omega, hi.symm⟩
end Go.Proofs.YtdjjogcagolcjaaDoor
