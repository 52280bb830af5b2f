/- Bits of thirteen bytes: what setting one does to the others; bytes with the same bits are the same; bytes made out of others bit by bit. Each under the conditions that it names. -/
import Derived.Test.YtbmleejeffaciaaDoorHdW0
namespace Go.Proofs.YtbmleejeffaciaaDoor
open Go.RowKit
theorem stb_same (y : Int) (i : Nat) (b : Bool) (h0 : 0 ≤ y) (h1 : y < 256) : stb y i b / pm i % 2 = if b then 1 else 0 := by
  unfold stb
  cases b <;> simp only [Bool.false_eq_true, if_false, if_true] <;> rcases pm_cases i with h | h | h | h | h | h | h | h <;> rw [h] <;> omega
set_option maxHeartbeats 4000000 in
theorem stb_other (y : Int) (i j : Nat) (b : Bool) (hij : i % 8 ≠ j % 8) (h0 : 0 ≤ y) (h1 : y < 256) : stb y i b / pm j % 2 = y / pm j % 2 := by
  have hi : i % 8 = 0 ∨ i % 8 = 1 ∨ i % 8 = 2 ∨ i % 8 = 3 ∨ i % 8 = 4 ∨ i % 8 = 5 ∨ i % 8 = 6 ∨ i % 8 = 7 := by omega
  have hj : j % 8 = 0 ∨ j % 8 = 1 ∨ j % 8 = 2 ∨ j % 8 = 3 ∨ j % 8 = 4 ∨ j % 8 = 5 ∨ j % 8 = 6 ∨ j % 8 = 7 := by omega
  unfold stb
  rcases hi with hi | hi | hi | hi | hi | hi | hi | hi <;> rcases hj with hj | hj | hj | hj | hj | hj | hj | hj <;>
    first
      | (exfalso; omega)
      | (simp only [pm_at hi, pm_at hj, Int.reducePow, Int.reduceDiv]; clear hi hj hij; cases b <;> simp only [Bool.false_eq_true, if_false, if_true] <;> omega)
theorem getD_wb {l : List Int} (h : B13 l) {q i : Nat} (hi : i < 104) (b : Bool) : (wb l i b).getD q 0 = if q = i / 8 then stb (l.getD q 0) i b else l.getD q 0 := by
  unfold wb
  have hl := h.len
  by_cases hq : q = i / 8
  · subst hq
    rw [if_pos rfl, List.getD_eq_getElem?_getD, List.getElem?_set_self (by omega)]
    rfl
  · rw [if_neg hq, List.getD_eq_getElem?_getD, List.getElem?_set_ne (by omega), ← List.getD_eq_getElem?_getD]
theorem tb_wb {l : List Int} (h : B13 l) {i j : Nat} (hi : i < 104) (hj : j < 104) (b : Bool) : tb (wb l i b) j = if j = i then b else tb l j := by
  unfold tb
  rw [getD_wb h hi]
  by_cases hq : j / 8 = i / 8
  · rw [if_pos hq]
    have y0 := h.at_lo (q := j / 8) (by omega)
    have y1 := h.at_hi (q := j / 8) (by omega)
    by_cases hji : j = i
    · subst hji
      rw [if_pos rfl, stb_same _ _ _ y0 y1]
      cases b <;> simp
    · rw [if_neg hji, stb_other _ _ _ _ (by omega) y0 y1]
  · rw [if_neg hq, if_neg (by omega)]
theorem byte_ext {y z : Int} (y0 : 0 ≤ y) (y1 : y < 256) (z0 : 0 ≤ z) (z1 : z < 256) (h : ∀ r : Nat, r < 8 → decide (y / pm r % 2 = 1) = decide (z / pm r % 2 = 1)) : y = z := by
  have e : ∀ r : Nat, r < 8 → y / pm r % 2 = z / pm r % 2 := fun r hr => by
    have := decide_eq_decide.1 (h r hr)
    omega
  have e0 := e 0 (by omega)
  have e1 := e 1 (by omega)
  have e2 := e 2 (by omega)
  have e3 := e 3 (by omega)
  have e4 := e 4 (by omega)
  have e5 := e 5 (by omega)
  have e6 := e 6 (by omega)
  have e7 := e 7 (by omega)
  rw [show pm 0 = 128 by decide] at e0
  rw [show pm 1 = 64 by decide] at e1
  rw [show pm 2 = 32 by decide] at e2
  rw [show pm 3 = 16 by decide] at e3
  rw [show pm 4 = 8 by decide] at e4
  rw [show pm 5 = 4 by decide] at e5
  rw [show pm 6 = 2 by decide] at e6
  rw [show pm 7 = 1 by decide] at e7
  clear h e
  omega
theorem ext13 {a b : List Int} (ha : B13 a) (hb : B13 b) (h : ∀ i, i < 104 → tb a i = tb b i) : a = b := by
  have key : ∀ q, q < 13 → a.getD q 0 = b.getD q 0 := fun q hq => by
    refine byte_ext (ha.at_lo hq) (ha.at_hi hq) (hb.at_lo hq) (hb.at_hi hq) fun r hr => ?_
    have := h (8 * q + r) (by omega)
    unfold tb at this
    rw [show (8 * q + r) / 8 = q by omega] at this
    have e : pm (8 * q + r) = pm r := by unfold pm; rw [show (8 * q + r) % 8 = r % 8 by omega]
    rw [e] at this
    exact this
  refine List.ext_getElem (ha.len.trans hb.len.symm) fun q h1 h2 => ?_
  have := key q (by rw [ha.len] at h1; exact h1)
  rw [List.getD_eq_getElem?_getD, List.getD_eq_getElem?_getD, List.getElem?_eq_getElem h1, List.getElem?_eq_getElem h2] at this
  exact this
/-- Bytes r with the first n bits of l. -/
def mix (l r : List Int) : Nat → List Int
  | 0 => r
  | n + 1 => wb (mix l r n) n (tb l n)
theorem mix_13 {l r : List Int} (hr : B13 r) : ∀ n, n ≤ 104 → B13 (mix l r n) := by
  intro n
  induction n with
  | zero => intro _; exact hr
  | succ n ih => intro h; exact (ih (by omega)).wb n (by omega) _
theorem tb_mix {l r : List Int} (hr : B13 r) : ∀ n, n ≤ 104 → ∀ j, j < 104 → tb (mix l r n) j = if j < n then tb l j else tb r j := by
  intro n
  induction n with
  | zero => intro _ j _; simp [mix]
  | succ n ih =>
    intro h j hj
    show tb (wb (mix l r n) n (tb l n)) j = _
    rw [tb_wb (mix_13 hr n (by omega)) (by omega) hj, ih (by omega) j hj]
    by_cases h1 : j = n
    · subst h1; rw [if_pos rfl, if_pos (by omega)]
    · rw [if_neg h1]
      by_cases h2 : j < n
      · rw [if_pos h2, if_pos (by omega)]
      · rw [if_neg h2, if_neg (by omega)]
theorem mix_all {l r : List Int} (hl : B13 l) (hr : B13 r) : mix l r 104 = l :=
  ext13 (mix_13 hr 104 (by omega)) hl fun i hi => by rw [tb_mix hr 104 (by omega) i hi, if_pos hi]
end Go.Proofs.YtbmleejeffaciaaDoor
