/- What Parse of package waymarkref01 answers of a text of at most 1048576 bytes: what Parse of package addr does. The text is cut at its dots; there must be four pieces, each a number. -/
import Derived.Test.YtgggmhaopcgkkaaGreatDoorRRead
import Derived.Test.YtgggmhaopcgkkaaGreatDoorParse
namespace Go.Proofs.YtgggmhaopcgkkaaGreatDoor
open Go.RowKit
/-- A text's pieces between its dots. -/
def spl : List UInt8 → List (List UInt8)
  | [] => [[]]
  | c :: l => if c = 46 then [] :: spl l else match spl l with
    | p :: ps => (c :: p) :: ps
    | [] => [[c]]
theorem spl_ne : ∀ l, spl l ≠ []
  | [] => by simp [spl]
  | c :: l => by
    unfold spl
    by_cases h : c = 46
    · rw [if_pos h]; simp
    · rw [if_neg h]; split <;> simp
theorem spl_dot : ∀ (p r : List UInt8), 46 ∉ p → spl (p ++ 46 :: r) = p :: spl r
  | [], r, _ => by simp [spl]
  | c :: p, r, h => by
    have h1 : ¬ c = 46 := fun e => h (by rw [e]; simp)
    have h2 := spl_dot p r (fun hm => h (by simp [hm]))
    simp only [List.cons_append, spl]
    rw [if_neg h1, h2]
theorem spl_none : ∀ (p : List UInt8), 46 ∉ p → spl p = [p]
  | [], _ => by simp [spl]
  | c :: p, h => by
    have h1 : ¬ c = 46 := fun e => h (by rw [e]; simp)
    have h2 := spl_none p (fun hm => h (by simp [hm]))
    simp only [spl]
    rw [if_neg h1, h2]
/-- The pieces' numbers, one behind the other. -/
def foldP : List (List UInt8) → Nat → Option Nat
  | [], a => some a
  | p :: ps, a => match num p 255 with
    | none => none
    | some n => foldP ps (a * 256 + n)
theorem mem_cut1 (l : List UInt8) (c : UInt8) : c ∉ (cut1 l c).1 := by
  induction l with
  | nil => simp [cut1]
  | cons b l ih =>
    unfold cut1
    by_cases h : b = c
    · simp [h]
    · simp [h]
      exact ⟨fun e => h e.symm, ih⟩
theorem spl_cut (l : List UInt8) : spl l = (cut1 l 46).1 :: (if (cut1 l 46).2.2 = true then spl (cut1 l 46).2.1 else []) := by
  by_cases h : (cut1 l 46).2.2 = true
  · rw [if_pos h]
    have h2 := cut1_yes l 46 h
    exact (congrArg spl h2).trans (spl_dot _ _ (mem_cut1 l 46))
  · rw [if_neg h]
    have h2 := cut1_no l 46 (by simpa using h)
    have h3 := spl_none _ (mem_cut1 l 46)
    rw [h2] at h3
    rw [h3, h2]
theorem parseN_spl : ∀ (k : Nat) (l : List UInt8) (a : Nat), parseN (k + 1) l a = if (spl l).length = k + 1 then foldP (spl l) a else none := by
  intro k
  induction k with
  | zero =>
    intro l a
    rw [spl_cut l]
    cases hn : num (cut1 l 46).1 255 with
    | none => rw [parseN_bad hn]; simp [foldP, hn]
    | some n =>
      by_cases hd : (cut1 l 46).2.2 = true
      · rw [parseN_dot hn (by simp [hd])]
        simp [hd, spl_ne]
      · rw [parseN_next hn (by simp at hd; simp [hd])]
        simp [hd, foldP, hn, parseN]
  | succ k ih =>
    intro l a
    rw [spl_cut l]
    cases hn : num (cut1 l 46).1 255 with
    | none => rw [parseN_bad hn]; simp [foldP, hn]
    | some n =>
      by_cases hd : (cut1 l 46).2.2 = true
      · rw [parseN_next hn (by simp [hd]), ih]
        simp [hd, foldP, hn]
      · rw [parseN_dot hn (by simp at hd; simp [hd])]
        simp [hd]
theorem parse_spl (l : List UInt8) : parse l = if (spl l).length = 4 then foldP (spl l) 0 else none := parseN_spl 3 l 0
theorem foldP_lt : ∀ (ps : List (List UInt8)) (a r : Nat), foldP ps a = some r → r < (a + 1) * 256 ^ ps.length
  | [], a, r, h => by simp [foldP] at h; simp; omega
  | p :: ps, a, r, h => by
    unfold foldP at h
    cases hn : num p 255 with
    | none => rw [hn] at h; simp at h
    | some n =>
      rw [hn] at h
      have h1 := (num_some hn).2.2.2.1
      have h2 := foldP_lt ps (a * 256 + n) r h
      have h3 : (a * 256 + n + 1) * 256 ^ ps.length ≤ ((a + 1) * 256) * 256 ^ ps.length := Nat.mul_le_mul_right _ (by omega)
      rw [List.length_cons, Nat.pow_succ, Nat.mul_comm (256 ^ ps.length) 256, ← Nat.mul_assoc]
      omega
theorem spl_len : ∀ (l : List UInt8) (p : List UInt8), p ∈ spl l → p.length ≤ l.length
  | [], p, h => by simp [spl] at h; simp [h]
  | c :: l, p, h => by
    unfold spl at h
    by_cases hc : c = 46
    · rw [if_pos hc] at h
      rcases List.mem_cons.mp h with h | h
      · simp [h]
      · have := spl_len l p h; simp; omega
    · rw [if_neg hc] at h
      cases hs : spl l with
      | nil => exact absurd hs (spl_ne l)
      | cons q qs =>
        rw [hs] at h
        rcases List.mem_cons.mp h with h | h
        · have := spl_len l q (by rw [hs]; simp)
          rw [h]; simp; omega
        · have := spl_len l p (by rw [hs]; simp [h])
          simp; omega
def strV (p : List UInt8) : Value := .string ⟨p.toArray⟩
theorem ext_mid (s : ByteArray) (f k : Nat) : s.extract f k = ⟨((s.data.toList.drop f).take (k - f)).toArray⟩ := by
  apply ByteArray.ext
  simp only [ByteArray.data_extract]
  apply Array.ext'
  simp [Array.toList_extract, List.extract_eq_take_drop]
theorem infoS : (Tryz.prog.info? 9).map (fun i => (i.zero, i.size, i.bytes)) = some (some (.string ⟨#[]⟩), 1, 16) := by kernel_rfl
end Go.Proofs.YtgggmhaopcgkkaaGreatDoor
