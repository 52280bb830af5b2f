/- Plain facts: a text's lines, one after another, and how each line's words lie in the line alone. No condition but those named. -/
import Derived.Test.YthkiojedkafdhaaLnM
namespace Go.Proofs.Ythkiojedkafdhaa
/-- A line: its words, and what is left. -/
def lineR (l : List UInt8) : List (List UInt8 × Int) × List UInt8 × Int :=
  if [33].isPrefixOf (l.drop (nS l)) then wdsR ((l.drop (nS l)).drop (nE (l.drop (nS l)))).length ((l.drop (nS l)).drop (nE (l.drop (nS l)))) (1 + nS l + nE (l.drop (nS l)))
  else wdsR (l.drop (nS l)).length (l.drop (nS l)) (1 + nS l)
/-- The words of a line that stands alone. -/
def wds (t : List UInt8) : List (List UInt8 × Int) := (wdsR t.length (t.drop (nS t)) (1 + nS t)).1
def bang (t : List UInt8) : Bool := [33].isPrefixOf (t.drop (nS t))
theorem pre1_app (a u : List UInt8) (h : AtEnd u) : [33].isPrefixOf (a ++ u) = [33].isPrefixOf a := by
  cases a with
  | nil =>
    rcases h with rfl | ⟨r, rfl⟩
    · rfl
    · rw [List.nil_append, one_cons]; rfl
  | cons b r => rw [List.cons_append, one_cons, one_cons]
theorem lineR_app (t u : List UInt8) (ht : noNl t) (hu : AtEnd u) : (lineR (t ++ u)).1 = (if bang t then [] else wds t) ∧ (lineR (t ++ u)).2.1 = u := by
  have e1 := nS_app t u hu
  have e2 : (t ++ u).drop (nS t) = t.drop (nS t) ++ u := List.drop_append_of_le_length (nS_le t)
  unfold lineR bang wds
  rw [e1, e2, pre1_app _ _ hu]
  split
  · rw [nE_app _ _ (noNl_drop ht _) hu, List.drop_left, wdsR_stop (atEnd_stop hu)]
    exact ⟨rfl, rfl⟩
  · have := (wdsR_app (t.drop (nS t) ++ u).length (t.drop (nS t)) u (1 + nS t) (noNl_drop ht _) hu (drop_nS t) (by simp)).1
    rw [this]
    refine ⟨?_, rfl⟩
    rw [wdsR_fuel _ t.length _ _ (drop_nS t) (by simp) (by simp)]
theorem lineR_is (l : List UInt8) : (lineR l).1 = (if bang (l.take (nE l)) then [] else wds (l.take (nE l))) ∧ (lineR l).2.1 = l.drop (nE l) ∧ nS l = nS (l.take (nE l)) := by
  have := lineR_app (l.take (nE l)) (l.drop (nE l)) (take_nE l) (drop_nE l)
  have h2 := nS_app (l.take (nE l)) (l.drop (nE l)) (drop_nE l)
  rw [List.take_append_drop] at this h2
  exact ⟨this.1, this.2, h2⟩
theorem wds_ways (t : List UInt8) (ht : noNl t) : (wds t = [] ∧ bang t = false) ∨ ∃ (b : UInt8) (x : List UInt8) (c : Int) (ws : List (List UInt8 × Int)), wds t = (b :: x, c) :: ws ∧ bang t = (b == 33) := by
  unfold wds bang
  have hs := drop_nS t
  have hn := noNl_drop ht (nS t)
  have hl : (t.drop (nS t)).length ≤ t.length := by rw [List.length_drop]; omega
  obtain ⟨r, hr⟩ : ∃ r, t.drop (nS t) = r := ⟨_, rfl⟩
  rw [hr] at hs hn hl ⊢
  cases r with
  | nil => left; rw [wdsR_stop (by rfl)]; exact ⟨rfl, rfl⟩
  | cons b x =>
    right
    have hb : b ≠ 10 := hn b (by simp)
    have hb2 : b ≠ 32 := by rw [one_cons] at hs; simpa using hs
    have e1 : ((b :: x).isEmpty || pEnd (b :: x)) = false := by unfold pEnd; rw [one_cons]; simp [hb]
    cases hf : t.length with
    | zero => rw [hf] at hl; simp at hl
    | succ f =>
      unfold wdsR
      rw [if_neg (by rw [e1]; simp)]
      have hk := nB_pos e1 hs
      obtain ⟨k, hkk⟩ : ∃ k, nB (b :: x) = k + 1 := ⟨nB (b :: x) - 1, by omega⟩
      refine ⟨b, x.take k, 1 + nS t, (wdsR f (List.drop (nS (List.drop (nB (b :: x)) (b :: x))) (List.drop (nB (b :: x)) (b :: x))) (1 + ↑(nS t) + ↑(nB (b :: x)) + ↑(nS (List.drop (nB (b :: x)) (b :: x))))).1, ?_, one_cons _ _ _⟩
      simp only
      rw [hkk, List.take_succ_cons]
/-- Lines: number, indent, words. -/
abbrev Ln := Int × Nat × List (List UInt8 × Int)
def lns : Nat → List UInt8 → Int → List Ln
  | 0, _, _ => []
  | _ + 1, [], _ => []
  | f + 1, b :: r, n => (if (lineR (b :: r)).1 = [] then [] else [(n, nS (b :: r), (lineR (b :: r)).1)]) ++ lns f (((b :: r).drop (nE (b :: r))).drop 1) (n + 1)
theorem rest_len (l : List UInt8) : ((l.drop (nE l)).drop 1).length ≤ l.length - 1 := by
  rw [List.length_drop, List.length_drop]; omega
theorem lns_fuel : ∀ (f f' : Nat) (l : List UInt8) (n : Int), l.length ≤ f → l.length ≤ f' → lns f l n = lns f' l n
  | 0, 0, _, _, _, _ => rfl
  | 0, f' + 1, [], _, _, _ => rfl
  | f + 1, 0, [], _, _, _ => rfl
  | 0, _ + 1, _ :: _, _, h, _ => by simp at h
  | _ + 1, 0, _ :: _, _, _, h => by simp at h
  | f + 1, f' + 1, [], _, _, _ => rfl
  | f + 1, f' + 1, b :: r, n, h, h' => by
    have := rest_len (b :: r)
    simp only [List.length_cons] at h h' this
    simp only [lns]
    rw [lns_fuel f f' _ _ (by omega) (by omega)]
/-- The lines of what is left, from number n on. -/
def lnk (l : List UInt8) (n : Int) : List Ln := lns l.length l n
theorem lnk_nil (n : Int) : lnk [] n = [] := rfl
theorem lineR_nil : (lineR []).1 = [] := rfl
theorem lnk_step (l : List UInt8) (n : Int) : lnk l n = (if (lineR l).1 = [] then [] else [(n, nS l, (lineR l).1)]) ++ lnk ((l.drop (nE l)).drop 1) (n + 1) := by
  cases l with
  | nil => rfl
  | cons b r =>
    unfold lnk
    rw [List.length_cons]
    conv => lhs; simp only [lns]
    have := rest_len (b :: r)
    rw [lns_fuel r.length (((b :: r).drop (nE (b :: r))).drop 1).length _ _ (by first | exact this | (simp; done) | omega) (Nat.le_refl _)]
theorem lnk_len : ∀ (m : Nat) (l : List UInt8) (n : Int), l.length ≤ m → (lnk l n).length ≤ l.length
  | 0, l, n, h => by
    have : l = [] := List.length_eq_zero_iff.1 (by omega)
    subst this
    simp [lnk_nil]
  | m + 1, l, n, h => by
    cases l with
    | nil => simp [lnk_nil]
    | cons b r =>
      rw [lnk_step]
      have h1 := rest_len (b :: r)
      have ih := lnk_len m (((b :: r).drop (nE (b :: r))).drop 1) (n + 1) (by simp only [List.length_cons] at h h1; omega)
      rw [List.length_append]
      simp only [List.length_cons] at h1 ⊢
      split
      · simp only [List.length_nil]; omega
      · simp only [List.length_singleton]; omega
theorem wdsR_len : ∀ (f : Nat) (l : List UInt8) (c : Int), [32].isPrefixOf l = false → (wdsR f l c).1.length ≤ l.length
  | 0, l, c, _ => by simp [wdsR]
  | f + 1, l, c, hs => by
    unfold wdsR
    split
    · simp
    · rename_i h
      have hk := nB_pos (by simpa using h) hs
      have hkl := nB_le l
      have ih := wdsR_len f ((l.drop (nB l)).drop (nS (l.drop (nB l)))) (c + nB l + nS (l.drop (nB l))) (drop_nS _)
      have hd : ((l.drop (nB l)).drop (nS (l.drop (nB l)))).length = l.length - nB l - nS (l.drop (nB l)) := by rw [List.length_drop, List.length_drop]
      simp only [List.length_cons]
      omega
theorem wds_len (t : List UInt8) : (wds t).length ≤ t.length := by
  have := wdsR_len t.length (t.drop (nS t)) (1 + nS t) (drop_nS t)
  rw [List.length_drop] at this
  unfold wds
  omega
/-- The words of a line from byte a on. -/
def wk (t : List UInt8) (a : Nat) : List (List UInt8 × Int) := (wdsR t.length ((t.drop a).drop (nS (t.drop a))) (1 + a + nS (t.drop a))).1
theorem wk_all (t : List UInt8) : wk t 0 = wds t := by simp [wk, wds]
theorem wk_end {t : List UInt8} {a : Nat} (h : t.length ≤ a) : wk t a = [] := by
  unfold wk
  rw [List.drop_of_length_le h]
  rw [wdsR_stop (by rfl)]
theorem wk_sp {t : List UInt8} {a : Nat} (h : a < t.length) (hb : t[a] = 32) : wk t a = wk t (a + 1) := by
  unfold wk
  rw [List.drop_eq_getElem_cons h, nS_cons, if_pos hb, List.drop_succ_cons]
  congr 2
  omega
theorem wk_word {t : List UInt8} {a : Nat} (h : a < t.length) (ht : noNl t) (hb : t[a] ≠ 32) : wk t a = ((t.drop a).take (nB (t.drop a)), 1 + (a : Int)) :: wk t (a + nB (t.drop a)) := by
  have hd := List.drop_eq_getElem_cons h
  have hs0 : nS (t.drop a) = 0 := by rw [hd, nS_cons, if_neg hb]
  have hnl : t[a] ≠ 10 := ht _ (List.getElem_mem h)
  have e1 : ((t.drop a).isEmpty || pEnd (t.drop a)) = false := by rw [hd]; unfold pEnd; rw [one_cons]; simp [hnl, h]
  have e2 : [32].isPrefixOf (t.drop a) = false := by rw [hd, one_cons]; simpa using hb
  have hk := nB_pos e1 e2
  have hkl := nB_le (t.drop a)
  have hdl : (t.drop a).length = t.length - a := List.length_drop
  unfold wk
  have ec : (1 + (a : Int) + ((0 : Nat) : Int)) = 1 + a := by omega
  have ec2 : (1 + (a : Int) + (nB (t.drop a) : Int)) = 1 + ((a + nB (t.drop a) : Nat) : Int) := by omega
  rw [hs0, List.drop_zero, ec]
  cases hf : t.length with
  | zero => omega
  | succ f =>
    conv => lhs; unfold wdsR
    rw [if_neg (by rw [e1]; simp)]
    simp only [List.drop_drop, ec2]
    rw [wdsR_fuel f (f + 1) (t.drop (a + nB (t.drop a) + nS (t.drop (a + nB (t.drop a))))) _ (by rw [← List.drop_drop]; exact drop_nS _) (by rw [List.length_drop]; omega) (by rw [List.length_drop]; omega)]
theorem nB_at {t : List UInt8} {i : Nat} (h : i < t.length) (hb : t[i] = 32) : nB (t.drop i) = 0 := by
  rw [List.drop_eq_getElem_cons h, nB_cons, if_pos (.inl hb)]
theorem nB_step {t : List UInt8} {i : Nat} (h : i < t.length) (ht : noNl t) (hb : t[i] ≠ 32) : nB (t.drop i) = nB (t.drop (i + 1)) + 1 := by
  have hnl : t[i] ≠ 10 := ht _ (List.getElem_mem h)
  rw [List.drop_eq_getElem_cons h, nB_cons, if_neg (by simp [hb, hnl])]
theorem nB_none {t : List UInt8} {i : Nat} (h : t.length ≤ i) : nB (t.drop i) = 0 := by
  rw [List.drop_of_length_le h]; rfl
end Go.Proofs.Ythkiojedkafdhaa
