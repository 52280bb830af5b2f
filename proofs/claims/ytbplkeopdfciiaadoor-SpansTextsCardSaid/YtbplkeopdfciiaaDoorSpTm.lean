/- A set's text, letter by letter: numbers, what stands between them, how long it is. No condition; nothing here speaks of the program. -/
import Derived.Test.YtbplkeopdfciiaaDoorSpKit
import Derived.Lib.ItoaNum
namespace Go.Proofs.YtbplkeopdfciiaaDoor
open Go.RowKit
theorem dgt_small {u : Nat} (h : u < 10) : Lib.decDigits u = [UInt8.ofNat (48 + u)] := by rw [Lib.decDigits, dif_pos h]
theorem dgt_big {u : Nat} (h : ¬ u < 10) : Lib.decDigits u = Lib.decDigits (u / 10) ++ [UInt8.ofNat (48 + u % 10)] := by rw [Lib.decDigits, dif_neg h]
theorem dgt_le : ∀ (n u : Nat), u < 10 ^ (n + 1) → (Lib.decDigits u).length ≤ n + 1
  | 0, u, h => by rw [dgt_small (by simpa using h)]; simp
  | n + 1, u, h => by
    by_cases hu : u < 10
    · rw [dgt_small hu]; simp
    · rw [dgt_big hu]
      have := dgt_le n (u / 10) (by rw [Nat.pow_succ] at h; omega)
      simp; omega
theorem dgt_top {u : Nat} (h : u < top) : (Lib.decDigits u).length ≤ 10 := dgt_le 9 u (by unfold top at h; omega)
theorem dgt_ne (u : Nat) : Lib.decDigits u ≠ [] := by
  by_cases hu : u < 10
  · rw [dgt_small hu]; simp
  · rw [dgt_big hu]; simp
/-- One span's text. -/
def oneT (s : Nat × Nat) : List UInt8 := Lib.decDigits s.1 ++ (if s.1 = s.2 then [] else 45 :: Lib.decDigits s.2)
def txb : List (Nat × Nat) → List UInt8
  | [] => []
  | s :: l => 44 :: (oneT s ++ txb l)
/-- The text of spans, one by one. -/
def txs (l : List (Nat × Nat)) : List UInt8 := (txb l).drop 1
/-- A set's text. -/
def txt (f : List (Nat × Nat)) : List UInt8 := if f = [] then [45] else txs f
theorem oneT_ne (s : Nat × Nat) : oneT s ≠ [] := by unfold oneT; simp [dgt_ne]
theorem txb_snoc (l : List (Nat × Nat)) (s : Nat × Nat) : txb (l ++ [s]) = txb l ++ 44 :: oneT s := by
  induction l with
  | nil => simp [txb]
  | cons t l ih => simp [txb, ih]
theorem txb_len {l : List (Nat × Nat)} (h : Small l) : (txb l).length ≤ l.length * 22 := by
  induction l with
  | nil => simp [txb]
  | cons s l ih =>
    have h1 := dgt_top (h s (List.mem_cons_self ..)).1
    have h2 := dgt_top (h s (List.mem_cons_self ..)).2
    have := ih (fun t ht => h t (List.mem_cons_of_mem _ ht))
    have h3 : (oneT s).length ≤ 21 := by unfold oneT; split <;> simp <;> omega
    simp only [txb, List.length_cons, List.length_append]
    omega
theorem txs_len {l : List (Nat × Nat)} (h : Small l) : (txs l).length ≤ l.length * 22 := by
  have := txb_len h
  unfold txs
  rw [List.length_drop]; omega
theorem txs_first {l : List (Nat × Nat)} {s : Nat × Nat} (h : l[0]? = some s) : txs (l.take 1) = oneT s := by
  cases l with
  | nil => simp at h
  | cons t l => simp at h; subst h; simp [txs, txb]
theorem txs_next {l : List (Nat × Nat)} {s : Nat × Nat} {k : Nat} (hk : 0 < k) (h : l[k]? = some s) : txs (l.take (k + 1)) = txs (l.take k) ++ 44 :: oneT s := by
  obtain ⟨hl, e⟩ := List.getElem?_eq_some_iff.1 h
  rw [List.take_succ_eq_append_getElem hl, e]
  unfold txs
  rw [txb_snoc, List.drop_append_of_le_length]
  cases l with
  | nil => simp at hl
  | cons t l =>
    cases k with
    | zero => omega
    | succ k => simp [txb]
end Go.Proofs.YtbplkeopdfciiaaDoor
