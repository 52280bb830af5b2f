/- Plain facts: the lines of a text by their numbers, and what stands at a place. No condition but those named. -/
import Derived.Test.YtnjnncgefijapaaLnQ
import Derived.Test.YtnjnncgefijapaaLxZ
namespace Go.Proofs.Ytnjnncgefijapaa
/-- The line of a number from 0 on; none: empty. -/
def rowN : List UInt8 → Nat → List UInt8
  | l, 0 => l.take (nE l)
  | l, n + 1 => if l.drop (nE l) = [] then [] else rowN ((l.drop (nE l)).drop 1) n
/-- Does a word stand at a place? -/
def standsB (l w : List UInt8) (q : Int × Int) : Bool :=
  decide (1 ≤ q.2) && decide (q.2 - 1 + w.length ≤ (rowN l (q.1 - 1).toNat).length) && ((((rowN l (q.1 - 1).toNat).drop (q.2 - 1).toNat).take w.length) == w)
theorem rowN_cons_nl (r : List UInt8) (n : Nat) : rowN (10 :: r) (n + 1) = rowN r n := by
  simp only [rowN]
  rw [nE_cons, if_pos rfl]
  simp
theorem rowN_cons {b : UInt8} (hb : b ≠ 10) (r : List UInt8) (n : Nat) : rowN (b :: r) (n + 1) = rowN r (n + 1) := by
  simp only [rowN]
  rw [nE_cons, if_neg hb, List.drop_succ_cons]
theorem adv_mono : ∀ (t : List UInt8) (q : Int × Int), q.1 ≤ (adv t q).1
  | [], _ => by simp [adv]
  | b :: t, q => by
    simp only [adv]
    split
    · have := adv_mono t (q.1 + 1, 1)
      simp only at this; omega
    · exact adv_mono t (q.1, q.2 + 1)
theorem adv_shift : ∀ (t : List UInt8) (ln c d : Int), adv t (ln + d, c) = ((adv t (ln, c)).1 + d, (adv t (ln, c)).2)
  | [], _, _, _ => by simp [adv]
  | b :: t, ln, c, d => by
    simp only [adv]
    split
    · have := adv_shift t (ln + 1) 1 d
      rw [show ln + d + 1 = ln + 1 + d by omega]
      exact this
    · exact adv_shift t ln (c + 1) d
theorem adv_col : ∀ (t : List UInt8) (ln c e : Int), adv t (ln, c + e) = if (adv t (ln, c)).1 = ln then ((adv t (ln, c)).1, (adv t (ln, c)).2 + e) else adv t (ln, c)
  | [], _, _, _ => by simp [adv]
  | b :: t, ln, c, e => by
    simp only [adv]
    split
    · have := adv_mono t (ln + 1, 1)
      simp only at this
      rw [if_neg (by omega)]
    · rw [show c + e + 1 = c + 1 + e by omega]
      exact adv_col t ln (c + 1) e
/-- The line in which byte k stands, and where in it. -/
theorem row_place : ∀ (l : List UInt8) (k : Nat), k ≤ l.length → ∃ n c : Nat, adv (l.take k) (1, 1) = (1 + (n : Int), 1 + (c : Int)) ∧ c ≤ (rowN l n).length ∧ (rowN l n).drop c = (l.drop k).take (nE (l.drop k))
  | l, 0, _ => ⟨0, 0, by simp [adv], by omega, by simp [rowN]⟩
  | [], k + 1, h => by simp at h
  | b :: r, k + 1, h => by
    have hk : k ≤ r.length := by simpa using h
    obtain ⟨n, c, h1, h2, h3⟩ := row_place r k hk
    by_cases hb : b = 10
    · subst hb
      refine ⟨n + 1, c, ?_, by rw [rowN_cons_nl]; exact h2, by rw [rowN_cons_nl, List.drop_succ_cons]; exact h3⟩
      rw [List.take_succ_cons]
      simp only [adv, if_true]
      rw [adv_shift (r.take k) 1 1 1, h1]
      simp only [Prod.mk.injEq, and_true]
      omega
    · have hc := adv_col (r.take k) 1 1 1
      rw [h1] at hc
      cases n with
      | zero =>
        refine ⟨0, c + 1, ?_, ?_, ?_⟩
        · rw [List.take_succ_cons]
          simp only [adv, if_neg hb]
          rw [hc, if_pos (by simp)]
          have e : (1 + (c : Int) + 1) = 1 + ((c + 1 : Nat) : Int) := by omega
          rw [← e]
        · simp only [rowN] at h2 ⊢
          rw [nE_cons, if_neg hb, List.take_succ_cons, List.length_cons]
          omega
        · simp only [rowN] at h3 ⊢
          rw [nE_cons, if_neg hb, List.take_succ_cons, List.drop_succ_cons, List.drop_succ_cons]
          exact h3
      | succ n =>
        refine ⟨n + 1, c, ?_, ?_, ?_⟩
        · rw [List.take_succ_cons]
          simp only [adv, if_neg hb]
          rw [hc, if_neg (by simp only; omega)]
        · rw [rowN_cons hb]; exact h2
        · rw [rowN_cons hb, List.drop_succ_cons]; exact h3
/-- What stands at the place of byte k. -/
theorem stands_at (l w : List UInt8) (k : Nat) (hk : k ≤ l.length) : standsB l w (adv (l.take k) (1, 1)) = w.isPrefixOf ((l.drop k).take (nE (l.drop k))) := by
  obtain ⟨n, c, h1, h2, h3⟩ := row_place l k hk
  unfold standsB
  rw [h1]
  simp only
  rw [show (1 + (n : Int) - 1).toNat = n by omega, show (1 + (c : Int) - 1).toNat = c by omega, h3]
  have hl : ((l.drop k).take (nE (l.drop k))).length = (rowN l n).length - c := by rw [← h3, List.length_drop]
  have hd : decide (1 ≤ 1 + (c : Int)) = true := by simp; omega
  rw [hd, Bool.true_and]
  by_cases hw : w.length ≤ ((l.drop k).take (nE (l.drop k))).length
  · rw [decide_eq_true (by omega), Bool.true_and, pre_take _ _ hw]
  · rw [decide_eq_false (by omega), Bool.false_and, pre_long _ _ (by omega)]
end Go.Proofs.Ytnjnncgefijapaa
