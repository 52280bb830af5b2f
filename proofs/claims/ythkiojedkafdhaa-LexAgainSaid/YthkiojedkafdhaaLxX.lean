/- Plain facts on the parts of a text of braces: each takes off some bytes, and the place goes with them. No condition but those named. -/
import Derived.Test.YthkiojedkafdhaaLxP
namespace Go.Proofs.Ythkiojedkafdhaa
theorem adv_add (l : List UInt8) (a b : Nat) (q : Int × Int) : adv (l.take (a + b)) q = adv ((l.drop a).take b) (adv (l.take a) q) := by
  rw [List.take_add, adv_app]
/-- What is left is what stood behind n bytes, at their place. -/
def Off (l : List UInt8) (q : Int × Int) (x : PartR) : Prop := ∃ n, 1 ≤ n ∧ n ≤ l.length ∧ x.rest = l.drop n ∧ x.at' = adv (l.take n) q
theorem cntU_pos (p : List UInt8 → Int → Bool) (b : UInt8) (r : List UInt8) (q : Int × Int) (h : p (b :: r) q.1 = false) : 1 ≤ cntU p (b :: r) q := by
  simp only [cntU]
  rw [if_neg (by rw [h]; simp)]
  omega
theorem btw_off (k : Int) (keep : Bool) (op cl l : List UInt8) (n : Nat) (q : Int × Int) (ho : 1 ≤ op.length) (hop : op.isPrefixOf l = true) (hn : n ≤ (l.drop op.length).length) :
    Off l q (btw k keep cl (l.drop op.length) n (adv op q)) := by
  obtain ⟨e1, e2⟩ := pre_drop hop
  have ha : adv op q = adv (l.take op.length) q := by rw [e1]
  have hln : (l.drop op.length).length = l.length - op.length := List.length_drop
  unfold btw
  by_cases h : cl.isPrefixOf ((l.drop op.length).drop n) = true
  · rw [if_pos h]
    obtain ⟨e3, e4⟩ := pre_drop h
    have hl2 : ((l.drop op.length).drop n).length = l.length - op.length - n := by rw [List.length_drop, hln]
    refine ⟨op.length + n + cl.length, by omega, by omega, ?_, ?_⟩
    · simp only [List.drop_drop]
    · simp only
      rw [adv_add l (op.length + n) cl.length, adv_add l op.length n, ha, ← List.drop_drop, e3]
  · rw [if_neg h]
    refine ⟨op.length + n, by omega, by omega, ?_, ?_⟩
    · simp only [List.drop_drop]
    · simp only
      rw [adv_add l op.length n, ha]
theorem part_off (b : UInt8) (r : List UInt8) (q : Int × Int) : Off (b :: r) q (partR (b :: r) q) := by
  simp only [partR]
  by_cases h1 : sgn b.toNat ≠ 0
  · rw [if_pos h1]; exact ⟨1, by omega, by simp, rfl, rfl⟩
  rw [if_neg h1]
  by_cases h2 : pBlank (b :: r) = true
  · rw [if_pos h2]; exact ⟨1, by omega, by simp, rfl, rfl⟩
  rw [if_neg h2]
  have h2' : pBlank (b :: r) = false := Bool.eq_false_iff.2 h2
  by_cases h3 : [35].isPrefixOf (b :: r) = true
  · rw [if_pos h3]
    refine ⟨_, cntU_pos _ b r q ?_, cntU_le _ _ _, rfl, rfl⟩
    unfold pBlank at h2'
    exact (Bool.or_eq_false_iff.1 h2').2
  rw [if_neg h3]
  by_cases h4 : [47, 42].isPrefixOf (b :: r) = true
  · rw [if_pos h4]
    exact btw_off 0 false [47, 42] [42, 47] (b :: r) _ q (by simp) h4 (cntU_le _ _ _)
  rw [if_neg h4]
  by_cases h5 : [34].isPrefixOf (b :: r) = true
  · rw [if_pos h5]
    exact btw_off 1 true [34] [34] (b :: r) _ q (by simp) h5 (cntU_le _ _ _)
  rw [if_neg h5]
  refine ⟨_, cntU_pos _ b r q ?_, cntU_le _ _ _, rfl, rfl⟩
  unfold pWord
  simp only
  rw [h2', Bool.eq_false_iff.2 h3, Bool.eq_false_iff.2 h4, Bool.eq_false_iff.2 h5]
  have h1' : sgn b.toNat = 0 := by simpa using h1
  rw [h1']
  rfl
theorem Off.lt {l : List UInt8} {q : Int × Int} {x : PartR} (h : Off l q x) : x.rest.length < l.length := by
  obtain ⟨n, h1, h2, h3, _⟩ := h
  rw [h3, List.length_drop]; omega
/-- Tokens of a text that begins at a place; some q: what begins at q is not closed. -/
def toks : Nat → List UInt8 → Int × Int → List (Int × List UInt8 × (Int × Int)) × Option (Int × Int)
  | 0, _, _ => ([], none)
  | _ + 1, [], _ => ([], none)
  | f + 1, b :: r, q =>
    if (partR (b :: r) q).ok = false then ([], some q)
    else ((if (partR (b :: r) q).kind = 0 then [] else [((partR (b :: r) q).kind, (partR (b :: r) q).text, q)]) ++ (toks f (partR (b :: r) q).rest (partR (b :: r) q).at').1, (toks f (partR (b :: r) q).rest (partR (b :: r) q).at').2)
theorem toks_fuel : ∀ (f f' : Nat) (l : List UInt8) (q : Int × Int), l.length ≤ f → l.length ≤ f' → toks f l q = toks f' l q
  | 0, 0, _, _, _, _ => rfl
  | 0, f' + 1, [], _, _, _ => rfl
  | f + 1, 0, [], _, _, _ => rfl
  | 0, _ + 1, _ :: _, _, h, _ => by simp at h
  | _ + 1, 0, _ :: _, _, _, h => by simp at h
  | f + 1, f' + 1, [], _, _, _ => rfl
  | f + 1, f' + 1, b :: r, q, h, h' => by
    have hlt := (part_off b r q).lt
    have ih := toks_fuel f f' (partR (b :: r) q).rest (partR (b :: r) q).at' (by simp at h hlt; omega) (by simp at h' hlt; omega)
    simp only [toks]
    rw [ih]
end Go.Proofs.Ythkiojedkafdhaa
