/- Plain facts: the tokens from a place on, way by way, as the document's own answer goes through a text. No condition but those named. -/
import Derived.Test.YthkiojedkafdhaaLxX
import Derived.Test.YthkiojedkafdhaaLxV
namespace Go.Proofs.Ythkiojedkafdhaa
/-- The tokens from byte k on. -/
def tk (l : List UInt8) (k : Nat) : List (Int × List UInt8 × (Int × Int)) × Option (Int × Int) := toks (l.drop k).length (l.drop k) (adv (l.take k) (1, 1))
theorem tk_all (l : List UInt8) : toks l.length l (1, 1) = tk l 0 := by simp [tk, adv]
theorem tk_end {l : List UInt8} {k : Nat} (h : l.length ≤ k) : tk l k = ([], none) := by
  unfold tk
  rw [List.drop_of_length_le h]
  rfl
theorem tk_fail {l r : List UInt8} {k : Nat} {b : UInt8} (hd : l.drop k = b :: r) (h : (partR (b :: r) (adv (l.take k) (1, 1))).ok = false) : tk l k = ([], some (adv (l.take k) (1, 1))) := by
  unfold tk
  rw [hd, List.length_cons]
  simp only [toks]
  rw [if_pos h]
theorem tk_step {l r : List UInt8} {k E : Nat} {b : UInt8} (hd : l.drop k = b :: r) (hE : E ≤ l.length) (h : (partR (b :: r) (adv (l.take k) (1, 1))).ok = true) (hr : (partR (b :: r) (adv (l.take k) (1, 1))).rest = l.drop E) :
    tk l k = ((if (partR (b :: r) (adv (l.take k) (1, 1))).kind = 0 then [] else [((partR (b :: r) (adv (l.take k) (1, 1))).kind, (partR (b :: r) (adv (l.take k) (1, 1))).text, adv (l.take k) (1, 1))]) ++ (tk l E).1, (tk l E).2) ∧ k < E := by
  have hk : k < l.length := by
    by_cases hk : k < l.length
    · exact hk
    · rw [List.drop_of_length_le (by omega)] at hd; cases hd
  have hoff := part_off b r (adv (l.take k) (1, 1))
  have hlt := hoff.lt
  obtain ⟨n, n1, n2, n3, n4⟩ := hoff
  have hlen : (b :: r).length = l.length - k := by rw [← hd, List.length_drop]
  rw [hr] at n3
  have e1 : (l.drop E).length = l.length - E := List.length_drop
  have e2 : ((b :: r).drop n).length = l.length - k - n := by rw [List.length_drop, hlen]
  have hEn : E = k + n := by rw [n3, e2] at e1; omega
  have hat : (partR (b :: r) (adv (l.take k) (1, 1))).at' = adv (l.take E) (1, 1) := by
    rw [n4, hEn, adv_add, hd]
  refine ⟨?_, by omega⟩
  unfold tk
  rw [hd]
  conv => lhs; rw [List.length_cons]
  simp only [toks]
  rw [if_neg (by rw [h]; simp), hr, hat, toks_fuel r.length (l.drop E).length _ _ (by rw [hr] at hlt; simp at hlt ⊢; omega) (Nat.le_refl _)]
theorem drop_cons {l : List UInt8} {k : Nat} (h : k < l.length) : l.drop k = l[k] :: l.drop (k + 1) := List.drop_eq_getElem_cons h
theorem sgn_none {b : UInt8} (h : b = 32 ∨ b = 10 ∨ b = 35 ∨ b = 47 ∨ b = 34) : ¬ sgn b.toNat ≠ 0 := by
  rcases h with rfl | rfl | rfl | rfl | rfl <;> decide
theorem pBlank_cons (b : UInt8) (r : List UInt8) : pBlank (b :: r) = (b == 32 || b == 10) := by
  unfold pBlank
  rw [one_cons, one_cons]
theorem tk_blank {l : List UInt8} {k : Nat} (h : k < l.length) (hb : l[k] = 32 ∨ l[k] = 10) : tk l k = tk l (k + 1) := by
  have hp : partR (l[k] :: l.drop (k + 1)) (adv (l.take k) (1, 1)) = ⟨0, [], true, l.drop (k + 1), stp l[k] (adv (l.take k) (1, 1))⟩ := by
    simp only [partR]
    rw [if_neg (sgn_none (by rcases hb with h | h <;> simp [h])), if_pos (by rw [pBlank_cons]; rcases hb with h | h <;> simp [h])]
  have := (tk_step (E := k + 1) (drop_cons h) h (by rw [hp]) (by rw [hp])).1
  rw [this, hp]
  simp
/-- How many bytes stand ahead of a line's end. -/
def pE (l : List UInt8) (_ : Int) : Bool := pEnd l
theorem tk_note {l : List UInt8} {k : Nat} (h : k < l.length) (hb : l[k] = 35) : tk l k = tk l (k + cntU pE (l.drop k) (0, 0)) ∧ k + cntU pE (l.drop k) (0, 0) ≤ l.length := by
  have hle : cntU pE (l.drop k) (0, 0) ≤ l.length - k := by have := cntU_le pE (l.drop k) (0, 0); rw [List.length_drop] at this; exact this
  refine ⟨?_, by omega⟩
  have hc : cntU (fun l _ => pEnd l) (l[k] :: l.drop (k + 1)) (adv (l.take k) (1, 1)) = cntU pE (l.drop k) (0, 0) := by
    rw [← drop_cons h]; exact cntU_free pE (fun _ _ _ => rfl) _ _ _
  have hp : partR (l[k] :: l.drop (k + 1)) (adv (l.take k) (1, 1)) = ⟨0, [], true, l.drop (k + cntU pE (l.drop k) (0, 0)), adv ((l.drop k).take (cntU pE (l.drop k) (0, 0))) (adv (l.take k) (1, 1))⟩ := by
    simp only [partR]
    rw [if_neg (sgn_none (by simp [hb])), if_neg (by rw [pBlank_cons]; simp [hb]), if_pos (by rw [one_cons]; simp [hb]), hc, ← drop_cons h, List.drop_drop]
  have := (tk_step (E := k + cntU pE (l.drop k) (0, 0)) (drop_cons h) (by omega) (by rw [hp]) (by rw [hp])).1
  rw [this, hp]
  simp
theorem drop_pre {m l : List UInt8} {a : Nat} (h : m.isPrefixOf (l.drop a) = true) : a + m.length ≤ l.length ∨ m = [] := by
  have := (List.isPrefixOf_iff_prefix.1 h).length_le
  rw [List.length_drop] at this
  cases m with
  | nil => exact .inr rfl
  | cons x y => left; simp at this ⊢; omega
theorem tk_com {l : List UInt8} {k : Nat} (h : k < l.length) (hp2 : [47, 42].isPrefixOf (l.drop k) = true) :
    (clC l (k + 2) = -1 ∧ tk l k = ([], some (adv (l.take k) (1, 1)))) ∨ (∃ E : Nat, clC l (k + 2) = (E : Int) ∧ k < E ∧ E ≤ l.length ∧ tk l k = tk l E) := by
  have hb : l[k] = 47 := by
    rw [drop_cons h] at hp2
    simp only [List.isPrefixOf, Bool.and_eq_true, beq_iff_eq] at hp2
    exact hp2.1.symm
  have hp : partR (l[k] :: l.drop (k + 1)) (adv (l.take k) (1, 1)) = btw 0 false [42, 47] (l.drop (k + 2)) (cntU pCom (l.drop (k + 2)) (0, 0)) (adv [47, 42] (adv (l.take k) (1, 1))) := by
    simp only [partR]
    rw [if_neg (sgn_none (by simp [hb])), if_neg (by rw [pBlank_cons]; simp [hb]), if_neg (by rw [one_cons]; simp [hb]), ← drop_cons h, if_pos hp2, List.drop_drop, cntU_free pCom (fun _ _ _ => rfl) _ _ (0, 0)]
  obtain ⟨n, hn⟩ : ∃ n, cntU pCom (l.drop (k + 2)) (0, 0) = n := ⟨_, rfl⟩
  rw [hn] at hp
  by_cases hcl : [42, 47].isPrefixOf (l.drop (k + 2 + n)) = true
  · right
    have hlen := drop_pre hcl
    simp at hlen
    have hp' : partR (l[k] :: l.drop (k + 1)) (adv (l.take k) (1, 1)) = ⟨0, [], true, l.drop (k + 2 + n + 2), adv [42, 47] (adv ((l.drop (k + 2)).take n) (adv [47, 42] (adv (l.take k) (1, 1))))⟩ := by
      rw [hp]
      unfold btw
      rw [List.drop_drop, if_pos hcl, List.drop_drop]
      rfl
    refine ⟨k + 2 + n + 2, by unfold clC; rw [hn, if_pos hcl], by omega, by omega, ?_⟩
    have := (tk_step (E := k + 2 + n + 2) (drop_cons h) (by omega) (by rw [hp']) (by rw [hp'])).1
    rw [this, hp']
    simp
  · left
    refine ⟨by unfold clC; rw [hn, if_neg hcl], tk_fail (drop_cons h) ?_⟩
    rw [hp]
    unfold btw
    rw [List.drop_drop, if_neg hcl]
theorem tk_quo {l : List UInt8} {k : Nat} (h : k < l.length) (hb : l[k] = 34) :
    (clQ l (k + 1) = -1 ∧ tk l k = ([], some (adv (l.take k) (1, 1)))) ∨ (∃ E : Nat, clQ l (k + 1) = (E : Int) ∧ k + 1 < E ∧ E ≤ l.length ∧ tk l k = ([(1, (l.drop (k + 1)).take (E - 1 - (k + 1)), adv (l.take k) (1, 1))] ++ (tk l E).1, (tk l E).2)) := by
  have hp : partR (l[k] :: l.drop (k + 1)) (adv (l.take k) (1, 1)) = btw 1 true [34] (l.drop (k + 1)) (cntU pQuo (l.drop (k + 1)) (0, 0)) (adv [34] (adv (l.take k) (1, 1))) := by
    simp only [partR]
    rw [if_neg (sgn_none (by simp [hb])), if_neg (by rw [pBlank_cons]; simp [hb]), if_neg (by rw [one_cons]; simp [hb]), if_neg (by rw [hb]; simp [List.isPrefixOf]), if_pos (by rw [one_cons]; simp [hb]), ← drop_cons h, List.drop_drop, cntU_free pQuo (fun _ _ _ => rfl) _ _ (0, 0)]
  obtain ⟨n, hn⟩ : ∃ n, cntU pQuo (l.drop (k + 1)) (0, 0) = n := ⟨_, rfl⟩
  rw [hn] at hp
  by_cases hcl : [34].isPrefixOf (l.drop (k + 1 + n)) = true
  · right
    have hlen := drop_pre hcl
    simp at hlen
    have hp' : partR (l[k] :: l.drop (k + 1)) (adv (l.take k) (1, 1)) = ⟨1, (l.drop (k + 1)).take n, true, l.drop (k + 1 + n + 1), adv [34] (adv ((l.drop (k + 1)).take n) (adv [34] (adv (l.take k) (1, 1))))⟩ := by
      rw [hp]
      unfold btw
      rw [List.drop_drop, if_pos hcl, List.drop_drop]
      rfl
    refine ⟨k + 1 + n + 1, by unfold clQ; rw [hn, if_pos hcl], by omega, by omega, ?_⟩
    have := (tk_step (E := k + 1 + n + 1) (drop_cons h) (by omega) (by rw [hp']) (by rw [hp'])).1
    rw [this, hp', show k + 1 + n + 1 - 1 - (k + 1) = n by omega]
    simp
  · left
    refine ⟨by unfold clQ; rw [hn, if_neg hcl], tk_fail (drop_cons h) ?_⟩
    rw [hp]
    unfold btw
    rw [List.drop_drop, if_neg hcl]
theorem tk_sign {l : List UInt8} {k : Nat} (h : k < l.length) (hb : sgn (l[k]).toNat ≠ 0) : tk l k = ([(sgn (l[k]).toNat, [l[k]], adv (l.take k) (1, 1))] ++ (tk l (k + 1)).1, (tk l (k + 1)).2) := by
  have hp : partR (l[k] :: l.drop (k + 1)) (adv (l.take k) (1, 1)) = ⟨sgn (l[k]).toNat, [l[k]], true, l.drop (k + 1), stp l[k] (adv (l.take k) (1, 1))⟩ := by
    simp only [partR]
    rw [if_pos hb]
  have := (tk_step (E := k + 1) (drop_cons h) h (by rw [hp]) (by rw [hp])).1
  rw [this, hp]
  simp only
  rw [if_neg hb]
def pW (l : List UInt8) (_ : Int) : Bool := pWord l
theorem pWord_cons (b : UInt8) (r : List UInt8) : pWord (b :: r) = ((b == 32) || (b == 10) || (sgn b.toNat != 0) || (b == 34) || (b == 35) || [47, 42].isPrefixOf (b :: r)) := by
  unfold pWord
  simp only
  rw [pBlank_cons, one_cons, one_cons]
theorem tk_word {l : List UInt8} {k : Nat} (h : k < l.length) (hb : pWord (l.drop k) = false) : tk l k = ([(1, (l.drop k).take (cntU pW (l.drop k) (0, 0)), adv (l.take k) (1, 1))] ++ (tk l (k + cntU pW (l.drop k) (0, 0))).1, (tk l (k + cntU pW (l.drop k) (0, 0))).2) ∧ k + cntU pW (l.drop k) (0, 0) ≤ l.length ∧ k < k + cntU pW (l.drop k) (0, 0) := by
  have hle : cntU pW (l.drop k) (0, 0) ≤ l.length - k := by have := cntU_le pW (l.drop k) (0, 0); rw [List.length_drop] at this; exact this
  have hc : cntU (fun l _ => pWord l) (l[k] :: l.drop (k + 1)) (adv (l.take k) (1, 1)) = cntU pW (l.drop k) (0, 0) := by
    rw [← drop_cons h]; exact cntU_free pW (fun _ _ _ => rfl) _ _ _
  rw [drop_cons h, pWord_cons] at hb
  simp only [Bool.or_eq_false_iff, beq_eq_false_iff_ne] at hb
  obtain ⟨⟨⟨⟨⟨b1, b2⟩, b3⟩, b4⟩, b5⟩, b6⟩ := hb
  have b3' : sgn (l[k]).toNat = 0 := by simpa using b3
  have hp : partR (l[k] :: l.drop (k + 1)) (adv (l.take k) (1, 1)) = ⟨1, (l.drop k).take (cntU pW (l.drop k) (0, 0)), true, l.drop (k + cntU pW (l.drop k) (0, 0)), adv ((l.drop k).take (cntU pW (l.drop k) (0, 0))) (adv (l.take k) (1, 1))⟩ := by
    simp only [partR]
    rw [if_neg (by simpa using b3'), if_neg (by rw [pBlank_cons]; simp [b1, b2]), if_neg (by rw [one_cons]; simp [b5]), if_neg (by rw [b6]; simp), if_neg (by rw [one_cons]; simp [b4]), hc, ← drop_cons h, List.drop_drop]
  have := tk_step (E := k + cntU pW (l.drop k) (0, 0)) (drop_cons h) (by omega) (by rw [hp]) (by rw [hp])
  refine ⟨?_, by omega, this.2⟩
  rw [this.1, hp]
  simp
theorem ext_mid (l : List UInt8) (a b : Nat) : (⟨l.toArray⟩ : ByteArray).extract a b = ⟨((l.drop a).take (b - a)).toArray⟩ := by
  apply WideShapes.bytes_inj
  simp [ByteArray.data_extract]
theorem cntE_at {l : List UInt8} {k : Nat} (h : k < l.length) (hb : l[k] = 10) : cntU pE (l.drop k) (0, 0) = 0 := by
  rw [drop_cons h]
  simp only [cntU]
  rw [if_pos (by unfold pE pEnd; rw [one_cons]; simp [hb])]
theorem cntE_step {l : List UInt8} {k : Nat} (h : k < l.length) (hb : l[k] ≠ 10) : cntU pE (l.drop k) (0, 0) = cntU pE (l.drop (k + 1)) (0, 0) + 1 := by
  rw [drop_cons h]
  simp only [cntU]
  rw [if_neg (by unfold pE pEnd; rw [one_cons]; simp [hb]), cntU_free pE (fun _ _ _ => rfl) _ (stp l[k] (0, 0)) (0, 0)]
theorem cnt_nil (p : List UInt8 → Int → Bool) {l : List UInt8} {k : Nat} (h : l.length ≤ k) : cntU p (l.drop k) (0, 0) = 0 := by
  rw [List.drop_of_length_le h]; rfl
theorem cntW_at {l : List UInt8} {k : Nat} (h : k < l.length) (hb : pWord (l.drop k) = true) : cntU pW (l.drop k) (0, 0) = 0 := by
  rw [drop_cons h] at hb ⊢
  simp only [cntU]
  rw [if_pos (by unfold pW; exact hb)]
theorem cntW_step {l : List UInt8} {k : Nat} (h : k < l.length) (hb : pWord (l.drop k) = false) : cntU pW (l.drop k) (0, 0) = cntU pW (l.drop (k + 1)) (0, 0) + 1 := by
  rw [drop_cons h] at hb ⊢
  simp only [cntU]
  rw [if_neg (by unfold pW; rw [hb]; simp), cntU_free pW (fun _ _ _ => rfl) _ (stp l[k] (0, 0)) (0, 0)]
end Go.Proofs.Ythkiojedkafdhaa
