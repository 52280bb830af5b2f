/- What closed of package waymarkref07 hands back. No condition but those named. -/
import Derived.Test.YthkiojedkafdhaaLxQ
import Derived.Test.YthkiojedkafdhaaLxP
namespace Go.Proofs.Ythkiojedkafdhaa
open Go.RowKit
theorem cntU_free (p : List UInt8 → Int → Bool) (hp : ∀ l a b, p l a = p l b) : ∀ (l : List UInt8) (q q' : Int × Int), cntU p l q = cntU p l q'
  | [], _, _ => rfl
  | b :: r, q, q' => by
    simp only [cntU]
    rw [hp (b :: r) q.1 q'.1, cntU_free p hp r (stp b q) (stp b q')]
/-- Where a quoted word ends whose text begins at k; -1: it does not. -/
def clQ (l : List UInt8) (k : Nat) : Int := if [34].isPrefixOf (l.drop (k + cntU pQuo (l.drop k) (0, 0))) = true then ((k + cntU pQuo (l.drop k) (0, 0) + 1 : Nat) : Int) else -1
/-- Where a comment ends whose text begins at k; -1: it does not. -/
def clC (l : List UInt8) (k : Nat) : Int := if [42, 47].isPrefixOf (l.drop (k + cntU pCom (l.drop k) (0, 0))) = true then ((k + cntU pCom (l.drop k) (0, 0) + 2 : Nat) : Int) else -1
theorem pQuo_cons (b : UInt8) (r : List UInt8) (x : Int) : pQuo (b :: r) x = (b == 34 || b == 10) := by
  unfold pQuo pEnd
  simp only [List.isPrefixOf, Bool.and_true]
  rw [Bool.eq_iff_iff]
  simp only [Bool.or_eq_true, beq_iff_eq]
  exact ⟨fun h => h.imp Eq.symm Eq.symm, fun h => h.imp Eq.symm Eq.symm⟩
theorem one_cons (c b : UInt8) (r : List UInt8) : [c].isPrefixOf (b :: r) = (b == c) := by
  simp only [List.isPrefixOf, Bool.and_true]
  rw [Bool.eq_iff_iff]
  simp only [beq_iff_eq]
  exact ⟨Eq.symm, Eq.symm⟩
theorem clQ_end {l : List UInt8} {k : Nat} (h : l.length ≤ k) : clQ l k = -1 := by
  unfold clQ
  rw [if_neg]
  rw [List.drop_of_length_le (by omega)]
  simp
theorem clQ_at {l : List UInt8} {k : Nat} (h : k < l.length) (hb : l[k] = 34) : clQ l k = ((k + 1 : Nat) : Int) := by
  unfold clQ
  rw [List.drop_eq_getElem_cons h, hb]
  have e : cntU pQuo (34 :: l.drop (k + 1)) (0, 0) = 0 := by simp only [cntU]; rw [if_pos (by rw [pQuo_cons]; rfl)]
  rw [e, Nat.add_zero, List.drop_eq_getElem_cons h, one_cons, hb, if_pos (by rfl)]
theorem clQ_nl {l : List UInt8} {k : Nat} (h : k < l.length) (hb : l[k] = 10) : clQ l k = -1 := by
  unfold clQ
  rw [List.drop_eq_getElem_cons h, hb]
  have e : cntU pQuo (10 :: l.drop (k + 1)) (0, 0) = 0 := by simp only [cntU]; rw [if_pos (by rw [pQuo_cons]; rfl)]
  rw [e, Nat.add_zero, List.drop_eq_getElem_cons h, one_cons, hb, if_neg (by decide)]
theorem clQ_step {l : List UInt8} {k : Nat} (h : k < l.length) (h1 : l[k] ≠ 34) (h2 : l[k] ≠ 10) : clQ l k = clQ l (k + 1) := by
  have e : cntU pQuo (l.drop k) (0, 0) = cntU pQuo (l.drop (k + 1)) (0, 0) + 1 := by
    rw [List.drop_eq_getElem_cons h]
    simp only [cntU]
    rw [if_neg (by rw [pQuo_cons]; simp [h1, h2]), cntU_free pQuo (fun _ _ _ => rfl) _ (stp l[k] (0, 0)) (0, 0)]
  unfold clQ
  rw [e]
  have e2 : k + (cntU pQuo (l.drop (k + 1)) (0, 0) + 1) = k + 1 + cntU pQuo (l.drop (k + 1)) (0, 0) := by omega
  rw [e2]
theorem clC_end {l : List UInt8} {k : Nat} (h : ¬ k + 1 < l.length) : clC l k = -1 := by
  unfold clC
  rw [if_neg]
  rw [pre_long _ _ (by rw [List.length_drop]; simp; omega)]
  simp
theorem two_com (l : List UInt8) (i : Nat) (h : i + 1 < l.length) : [42, 47].isPrefixOf (l.drop i) = ((l[i]'(by omega)) == 42 && (l[i + 1]'h) == 47) := by
  rw [List.drop_eq_getElem_cons (by omega : i < l.length), List.drop_eq_getElem_cons h]
  simp only [List.isPrefixOf, Bool.and_true]
  rw [Bool.eq_iff_iff]
  simp only [Bool.and_eq_true, beq_iff_eq]
  exact ⟨fun ⟨a, b⟩ => ⟨a.symm, b.symm⟩, fun ⟨a, b⟩ => ⟨a.symm, b.symm⟩⟩
theorem clC_at {l : List UInt8} {k : Nat} (h : k + 1 < l.length) (hp : [42, 47].isPrefixOf (l.drop k) = true) : clC l k = ((k + 2 : Nat) : Int) := by
  have e : cntU pCom (l.drop k) (0, 0) = 0 := by
    rw [List.drop_eq_getElem_cons (by omega : k < l.length)] at hp ⊢
    simp only [cntU]
    rw [if_pos (by unfold pCom; exact hp)]
  unfold clC
  rw [e, Nat.add_zero, if_pos hp]
theorem clC_step {l : List UInt8} {k : Nat} (h : k + 1 < l.length) (hp : [42, 47].isPrefixOf (l.drop k) = false) : clC l k = clC l (k + 1) := by
  have e : cntU pCom (l.drop k) (0, 0) = cntU pCom (l.drop (k + 1)) (0, 0) + 1 := by
    rw [List.drop_eq_getElem_cons (by omega : k < l.length)] at hp ⊢
    simp only [cntU]
    rw [if_neg (by unfold pCom; rw [hp]; simp), cntU_free pCom (fun _ _ _ => rfl) _ (stp l[k] (0, 0)) (0, 0)]
  unfold clC
  rw [e]
  have e2 : k + (cntU pCom (l.drop (k + 1)) (0, 0) + 1) = k + 1 + cntU pCom (l.drop (k + 1)) (0, 0) := by omega
  rw [e2]
theorem byte_eq (l : List UInt8) (i : Nat) (h : i < (⟨l.toArray⟩ : ByteArray).size) (hl : i < l.length) (c : UInt8) (C : Int) (hC : C = (c.toNat : Int)) : ((((⟨l.toArray⟩ : ByteArray)[i]'h).toNat : Int) == C) = ((l[i]'hl) == c) := by
  rw [get_at' l i h hl, hC, Bool.eq_iff_iff]
  simp only [beq_iff_eq]
  exact ⟨fun h => UInt8.toNat_inj.mp (by omega), fun h => by rw [h]⟩
end Go.Proofs.Ythkiojedkafdhaa
