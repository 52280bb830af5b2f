/- A text of spans, read: its parts between commas, numbers, spans, and that only a set's own text is read. No condition; nothing here speaks of the program. -/
import Derived.Test.YtbplkeopdfciiaaDoorSpTm
import Derived.Test.YtbplkeopdfciiaaDoorTextMathS
namespace Go.Proofs.YtbplkeopdfciiaaDoor
/-- The number below 2^32 that a text is. -/
def rdN (l : List UInt8) : Option Nat := num l 4294967295
theorem rdN_some {l : List UInt8} {n : Nat} (h : rdN l = some n) : Lib.decDigits n = l ∧ n < top := ⟨dec_num h, by have := (num_some h).2.2.2.1; unfold top; omega⟩
theorem rdN_dec {n : Nat} (h : n < top) : rdN (Lib.decDigits n) = some n := num_dec _ _ (by unfold top at h; omega)
theorem rdN_lt {l : List UInt8} {n : Nat} (h : rdN l = some n) : n < 4294967296 := by have := (num_some h).2.2.2.1; omega
def pairN : Option Nat → Option Nat → Option (Nat × Nat)
  | some a, some b => if a < b then some (a, b) else none
  | _, _ => none
/-- The span that a text is. -/
def rdS (p : List UInt8) : Option (Nat × Nat) := if (cut1 p 45).2.2 = true then pairN (rdN (cut1 p 45).1) (rdN (cut1 p 45).2.1) else (rdN p).map fun n => (n, n)
theorem rdS_one {s : Nat × Nat} (h1 : s.1 ≤ s.2) (h2 : s.2 < top) : rdS (oneT s) = some s := by
  obtain ⟨a, b⟩ := s
  simp only at h1 h2
  have d : dig 45 = false := by decide
  unfold rdS oneT
  by_cases h : a = b
  · subst h
    simp only [if_true, List.append_nil]
    rw [cut1_none _ _ (dec_no _ _ d)]
    simp [rdN_dec h2]
  · simp only [if_neg h]
    rw [cut1_mk _ _ _ (dec_no _ _ d)]
    simp only [if_true]
    rw [rdN_dec (by omega), rdN_dec h2]
    simp only [pairN]
    rw [if_pos (by omega)]
theorem rdS_some {p : List UInt8} {s : Nat × Nat} (h : rdS p = some s) : oneT s = p ∧ s.1 ≤ s.2 ∧ s.2 < top := by
  unfold rdS at h
  by_cases hc : (cut1 p 45).2.2 = true
  · rw [if_pos hc] at h
    have e := cut1_yes p 45 hc
    cases ha : rdN (cut1 p 45).1 with
    | none => rw [ha] at h; simp [pairN] at h
    | some a =>
      cases hb : rdN (cut1 p 45).2.1 with
      | none => rw [ha, hb] at h; simp [pairN] at h
      | some b =>
        rw [ha, hb] at h
        simp only [pairN] at h
        by_cases hab : a < b
        · rw [if_pos hab] at h
          simp only [Option.some.injEq] at h
          subst h
          refine ⟨?_, Nat.le_of_lt hab, (rdN_some hb).2⟩
          unfold oneT
          simp only
          rw [if_neg (by omega), (rdN_some ha).1, (rdN_some hb).1, ← e]
        · rw [if_neg hab] at h; cases h
  · rw [if_neg hc] at h
    cases ha : rdN p with
    | none => rw [ha] at h; simp at h
    | some a =>
      rw [ha] at h
      simp only [Option.map_some, Option.some.injEq] at h
      subst h
      refine ⟨?_, Nat.le_refl _, (rdN_some ha).2⟩
      unfold oneT
      simp [(rdN_some ha).1]
theorem oneT_no (s : Nat × Nat) : (44 : UInt8) ∉ oneT s := by
  have d : dig 44 = false := by decide
  unfold oneT
  intro h
  rcases List.mem_append.1 h with h | h
  · exact dec_no _ _ d h
  · split at h
    · simp at h
    · rcases List.mem_cons.1 h with h | h
      · revert h; decide
      · exact dec_no _ _ d h
def addH (b : UInt8) : List (List UInt8) → List (List UInt8)
  | [] => [[b]]
  | p :: ps => (b :: p) :: ps
/-- The parts of a text, between commas. -/
def parts : List UInt8 → List (List UInt8)
  | [] => [[]]
  | b :: l => if b == 44 then [] :: parts l else addH b (parts l)
theorem parts_cons (b : UInt8) (l : List UInt8) : parts (b :: l) = if b == 44 then [] :: parts l else addH b (parts l) := rfl
theorem parts_ne : ∀ l : List UInt8, parts l ≠ []
  | [] => by simp [parts]
  | b :: l => by
    rw [parts_cons]
    split
    · simp
    · cases parts l <;> simp [addH]
theorem parts_yes : ∀ (l : List UInt8), (cut1 l 44).2.2 = true → parts l = (cut1 l 44).1 :: parts (cut1 l 44).2.1
  | [], h => by simp [cut1] at h
  | b :: l, h => by
    unfold cut1 at h ⊢
    rw [parts_cons]
    by_cases hb : b == 44
    · simp [hb]
    · simp only [hb] at h ⊢
      have := parts_yes l h
      simp only [Bool.false_eq_true, if_false]
      rw [this]
      rfl
theorem parts_no : ∀ (l : List UInt8), (cut1 l 44).2.2 = false → parts l = [l]
  | [], _ => rfl
  | b :: l, h => by
    unfold cut1 at h
    rw [parts_cons]
    by_cases hb : b == 44
    · simp [hb] at h
    · simp only [hb] at h
      have := parts_no l h
      simp only [hb, Bool.false_eq_true, if_false]
      rw [this]
      rfl
theorem parts_txb : ∀ (l : List (Nat × Nat)) (s : Nat × Nat), parts (oneT s ++ txb l) = oneT s :: l.map oneT
  | [], s => by
    have := parts_no (oneT s) (by rw [cut1_none _ _ (oneT_no s)])
    simpa [txb] using this
  | t :: l, s => by
    have e := cut1_mk (oneT s) (oneT t ++ txb l) 44 (oneT_no s)
    have := parts_yes (oneT s ++ 44 :: (oneT t ++ txb l)) (by rw [e])
    rw [e] at this
    simp only [txb, List.map_cons]
    rw [this]
    simp only
    rw [parts_txb l t]
theorem txb_of_parts : ∀ (L : List (Nat × Nat)) (s : Nat × Nat) (l : List UInt8), parts l = oneT s :: L.map oneT → oneT s ++ txb L = l
  | [], s, l, h => by
    cases hc : (cut1 l 44).2.2 with
    | true => rw [parts_yes l hc] at h; simp only [List.map_nil, List.cons.injEq] at h; exact absurd h.2 (parts_ne _)
    | false => rw [parts_no l hc] at h; simp only [List.map_nil, List.cons.injEq, and_true] at h; simp [txb, h]
  | t :: L, s, l, h => by
    cases hc : (cut1 l 44).2.2 with
    | false => rw [parts_no l hc] at h; simp at h
    | true =>
      rw [parts_yes l hc] at h
      simp only [List.map_cons, List.cons.injEq] at h
      have e := cut1_yes l 44 hc
      have ih := txb_of_parts L t _ h.2
      rw [e, h.1]
      simp only [txb]
      rw [ih]
/-- May a span stand behind these? -/
def okN (acc : List (Nat × Nat)) (s : Nat × Nat) : Bool := acc.getLast?.all fun t => decide (t.2 + 1 < s.1)
theorem okN_iff {acc : List (Nat × Nat)} {s : Nat × Nat} (hc : Canon acc) : okN acc s = true ↔ ∀ t ∈ acc, t.2 + 1 < s.1 := by
  unfold okN
  rcases List.eq_nil_or_concat acc with rfl | ⟨m, t, rfl⟩
  · simp
  · rw [List.concat_eq_append] at *
    simp only [List.getLast?_append, List.getLast?_singleton, Option.some_or, Option.all_some, decide_eq_true_eq]
    constructor
    · intro h u hu
      have := hc.below u hu
      omega
    · intro h
      exact h t (by simp)
def stepP (acc : List (Nat × Nat)) (p : List UInt8) : Option (List (Nat × Nat)) := (rdS p).bind fun s => if okN acc s = true then some (acc ++ [s]) else none
def goP : List (Nat × Nat) → List (List UInt8) → Option (List (Nat × Nat))
  | acc, [] => some acc
  | acc, p :: ps => (stepP acc p).bind fun a => goP a ps
/-- The set of a text. -/
def readP (l : List UInt8) : Option (List (Nat × Nat)) := if l = [45] then some [] else goP [] (parts l)
def rdAll : List (List UInt8) → Option (List (Nat × Nat))
  | [] => some []
  | p :: ps => (rdS p).bind fun s => (rdAll ps).map (s :: ·)
theorem stepP_none {acc : List (Nat × Nat)} {p : List UInt8} (h : rdS p = none) : stepP acc p = none := by unfold stepP; rw [h]; rfl
theorem stepP_bad {acc : List (Nat × Nat)} {p : List UInt8} {s : Nat × Nat} (h : rdS p = some s) (hk : okN acc s = false) : stepP acc p = none := by unfold stepP; rw [h]; simp [hk]
theorem stepP_ok {acc : List (Nat × Nat)} {p : List UInt8} {s : Nat × Nat} (h : rdS p = some s) (hk : okN acc s = true) : stepP acc p = some (acc ++ [s]) := by unfold stepP; rw [h]; simp [hk]
theorem goP_append : ∀ (ps : List (List UInt8)) (acc : List (Nat × Nat)) (qs : List (List UInt8)), goP acc (ps ++ qs) = (goP acc ps).bind fun a => goP a qs
  | [], acc, qs => rfl
  | p :: ps, acc, qs => by
    simp only [List.cons_append, goP]
    cases stepP acc p with
    | none => rfl
    | some a => exact goP_append ps a qs
theorem goP_some : ∀ (ps : List (List UInt8)) (acc L : List (Nat × Nat)), goP acc ps = some L → Canon acc → (∀ t ∈ acc, t.2 < top) → ∃ M, L = acc ++ M ∧ M.map oneT = ps ∧ rdAll ps = some M ∧ Canon L ∧ ∀ t ∈ L, t.2 < top
  | [], acc, L, h, hc, ht => by
    simp only [goP, Option.some.injEq] at h
    subst h
    exact ⟨[], by simp, rfl, rfl, hc, ht⟩
  | p :: ps, acc, L, h, hc, ht => by
    simp only [goP] at h
    cases hs : rdS p with
    | none => rw [stepP_none hs] at h; cases h
    | some s =>
      cases hk : okN acc s with
      | false => rw [stepP_bad hs hk] at h; cases h
      | true =>
        rw [stepP_ok hs hk] at h
        obtain ⟨e1, e2, e3⟩ := rdS_some hs
        obtain ⟨M, h1, h2, h3, h4, h5⟩ := goP_some ps (acc ++ [s]) L h (hc.snoc e2 ((okN_iff hc).1 hk)) (fun t hm => by
          rcases List.mem_append.1 hm with hm | hm
          · exact ht t hm
          · simp at hm; subst hm; exact e3)
        exact ⟨s :: M, by simp [h1], by simp [h2, e1], by simp [rdAll, hs, h3], h4, h5⟩
theorem goP_mk : ∀ (M acc : List (Nat × Nat)), Canon (acc ++ M) → (∀ t ∈ M, t.2 < top) → goP acc (M.map oneT) = some (acc ++ M)
  | [], acc, _, _ => by simp [goP]
  | s :: M, acc, hc, ht => by
    have e : acc ++ s :: M = (acc ++ [s]) ++ M := by simp
    rw [e] at hc ⊢
    have hc2 : Canon (acc ++ [s]) := ⟨(List.pairwise_append.1 hc.apart).1, fun t hm => hc.some t (List.mem_append.2 (.inl hm))⟩
    have hi := hc2.init
    simp only [List.map_cons, goP]
    rw [stepP_ok (rdS_one hi.2.1 (ht s (by simp))) ((okN_iff hi.1).2 hi.2.2)]
    exact goP_mk M (acc ++ [s]) hc (fun t hm => ht t (List.mem_cons_of_mem _ hm))
theorem rdAll_some : ∀ (ps : List (List UInt8)) (M : List (Nat × Nat)), rdAll ps = some M → M.map oneT = ps ∧ ∀ t ∈ M, t.1 ≤ t.2 ∧ t.2 < top
  | [], M, h => by simp only [rdAll, Option.some.injEq] at h; subst h; simp
  | p :: ps, M, h => by
    simp only [rdAll] at h
    cases hs : rdS p with
    | none => rw [hs] at h; cases h
    | some s =>
      rw [hs] at h
      simp only [Option.bind_some] at h
      cases hr : rdAll ps with
      | none => rw [hr] at h; cases h
      | some R =>
        rw [hr] at h
        simp only [Option.map_some, Option.some.injEq] at h
        subst h
        obtain ⟨i1, i2⟩ := rdAll_some ps R hr
        obtain ⟨e1, e2, e3⟩ := rdS_some hs
        refine ⟨by simp [i1, e1], fun t ht => ?_⟩
        rcases List.mem_cons.1 ht with rfl | ht
        · exact ⟨e2, e3⟩
        · exact i2 t ht
theorem txs_ne_dash {F : List (Nat × Nat)} (hF : F ≠ []) : txs F ≠ [45] := by
  obtain ⟨s, l, rfl⟩ := List.exists_cons_of_ne_nil hF
  intro h
  have e : txs (s :: l) = oneT s ++ txb l := by simp [txs, txb]
  rw [e] at h
  obtain ⟨c, m, hm⟩ := List.exists_cons_of_ne_nil (dgt_ne s.1)
  unfold oneT at h
  rw [hm] at h
  simp only [List.cons_append, List.cons.injEq] at h
  have d : dig 45 = false := by decide
  refine dec_no s.1 45 d ?_
  rw [hm, ← h.1]
  simp
theorem readP_some {l : List UInt8} {L : List (Nat × Nat)} (h : readP l = some L) : Canon L ∧ (∀ t ∈ L, t.2 < top) ∧ txt L = l := by
  unfold readP at h
  by_cases h0 : l = [45]
  · rw [if_pos h0] at h
    simp only [Option.some.injEq] at h
    subst h
    exact ⟨Canon.nil, by simp, by simp [txt, h0]⟩
  · rw [if_neg h0] at h
    obtain ⟨M, h1, h2, _, h4, h5⟩ := goP_some (parts l) [] L h Canon.nil (by simp)
    rw [List.nil_append] at h1
    subst h1
    refine ⟨h4, h5, ?_⟩
    cases L with
    | nil => exact absurd h2.symm (parts_ne l)
    | cons s L =>
      unfold txt
      rw [if_neg (by simp)]
      have e : txs (s :: L) = oneT s ++ txb L := by simp [txs, txb]
      rw [e]
      exact txb_of_parts L s l h2.symm
theorem readP_txt {F : List (Nat × Nat)} (hc : Canon F) (ht : ∀ t ∈ F, t.2 < top) : readP (txt F) = some F := by
  by_cases hF : F = []
  · subst hF; simp [readP, txt]
  · unfold readP txt
    rw [if_neg hF, if_neg (txs_ne_dash hF)]
    obtain ⟨s, l, rfl⟩ := List.exists_cons_of_ne_nil hF
    have e : txs (s :: l) = oneT s ++ txb l := by simp [txs, txb]
    rw [e, parts_txb]
    have := goP_mk (s :: l) [] (by simpa using hc) ht
    simpa using this
theorem readP_small {l : List UInt8} {L : List (Nat × Nat)} (h : readP l = some L) : Small L := fun s hs => by
  obtain ⟨h1, h2, _⟩ := readP_some h
  have := h2 s hs; have := h1.some s hs
  exact ⟨by omega, by omega⟩
theorem readP_self {l : List UInt8} {L : List (Nat × Nat)} (h : readP l = some L) : Cn (has L) = L := by
  obtain ⟨h1, h2, _⟩ := readP_some h
  exact Cn_self h1 h2
/-- What the document's own Parse finds: the parts one by one, then the whole text again. -/
noncomputable def refP (l : List UInt8) : Option (List (Nat × Nat)) := if l = [45] then some [] else (rdAll (parts l)).bind fun L => if txt (Cn (has L)) = l then some (Cn (has L)) else none
theorem refP_eq (l : List UInt8) : refP l = readP l := by
  unfold refP
  by_cases h0 : l = [45]
  · rw [if_pos h0]; unfold readP; rw [if_pos h0]
  · rw [if_neg h0]
    cases hr : readP l with
    | some L =>
      obtain ⟨_, _, h3⟩ := readP_some hr
      have hs := readP_self hr
      unfold readP at hr
      rw [if_neg h0] at hr
      obtain ⟨M, m1, _, m3, _⟩ := goP_some _ _ _ hr Canon.nil (by simp)
      rw [List.nil_append] at m1
      subst m1
      rw [m3]
      simp [hs, h3]
    | none =>
      cases hm : rdAll (parts l) with
      | none => rfl
      | some L =>
        simp only [Option.bind_some]
        by_cases ht : txt (Cn (has L)) = l
        · have := readP_txt (Cn_canon (has L)) (fun t h => Cn_lt _ t h)
          rw [ht, hr] at this
          cases this
        · rw [if_neg ht]
theorem len_parts : ∀ l : List UInt8, (parts l).length ≤ l.length + 1
  | [] => by simp [parts]
  | b :: l => by
    have := len_parts l
    rw [parts_cons]
    split
    · simp; omega
    · cases hp : parts l with
      | nil => simp [addH]
      | cons p ps => rw [hp] at this; simp [addH] at this ⊢; omega
end Go.Proofs.YtbplkeopdfciiaaDoor
