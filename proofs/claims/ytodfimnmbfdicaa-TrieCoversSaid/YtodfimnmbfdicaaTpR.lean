/- What is gone over of a tree of prefixes: all, what an address is in, what is in a prefix. No condition; nothing here speaks of the program. -/
import Derived.Test.YtodfimnmbfdicaaTpQ
namespace Go.Proofs.Ytodfimnmbfdicaa
/-- A node's own row. -/
def oneR (a n : Int) : Option Int → List Kv
  | none => []
  | some v => [((a, n), v)]
theorem rows_all (a n : Int) (u : Option Int) (l r : Tr Int) : rowsT allP (.node a n u l r) = oneR a n u ++ (rowsT allP l ++ rowsT allP r) := by
  conv => lhs; unfold rowsT
  rw [if_pos (by rfl)]
  cases u <;> rfl
theorem mem_rows {T : Tr Int} {y : Kv} : y ∈ rowsT allP T ↔ T.Has y.1.1 y.1.2 y.2 := by
  induction T with
  | nil => simp [rowsT, Tr.Has]
  | node a n u l r ih1 ih2 =>
    rw [rows_all, List.mem_append, List.mem_append, ih1, ih2]
    simp only [Tr.Has]
    refine or_congr ?_ Iff.rfl
    cases u with
    | none => simp [oneR]
    | some v =>
      obtain ⟨⟨b, m⟩, z⟩ := y
      simp only [oneR, List.mem_singleton, Prod.mk.injEq, Option.some.injEq]
      constructor
      · rintro ⟨⟨h1, h2⟩, h3⟩; exact ⟨h1, h2, h3.symm⟩
      · rintro ⟨h1, h2, h3⟩; exact ⟨⟨h1, h2⟩, h3.symm⟩
/-- What is gone over has what all nodes have. -/
theorem rows_mem {p : Int → Int → Bool} {Q : Int → Int → Prop} : ∀ {T : Tr Int}, T.All Q → ∀ y ∈ rowsT p T, Q y.1.1 y.1.2 ∧ p y.1.1 y.1.2 = true
  | .nil, _, y, hy => by simp [rowsT] at hy
  | .node a n u l r, ⟨h1, h2, h3⟩, y, hy => by
    unfold rowsT at hy
    split at hy
    · rename_i hp
      rcases List.mem_append.1 hy with h | h
      · cases u with
        | none => simp at h
        | some v =>
          simp only [List.mem_singleton] at h
          subst h
          exact ⟨h1, hp⟩
      · rcases List.mem_append.1 h with h | h
        · exact rows_mem h2 y h
        · exact rows_mem h3 y h
    · simp at hy
theorem filter_none {T : Tr Int} {f : Kv → Bool} (h : ∀ y ∈ rowsT allP T, f y = false) : (rowsT allP T).filter f = [] := by
  rw [List.filter_eq_nil_iff]
  intro y hy e
  rw [h y hy] at e; cases e
theorem rows_in (x : Int) : ∀ {T : Tr Int}, T.Ok → rowsT (inB x) T = (rowsT allP T).filter fun y => inB x y.1.1 y.1.2
  | .nil, _ => rfl
  | .node a n u l r, hok => by
    have ih1 := rows_in x hok.2.2.2.1
    have ih2 := rows_in x hok.2.2.2.2
    rw [rows_all, List.filter_append, List.filter_append, ← ih1, ← ih2]
    conv => lhs; unfold rowsT
    by_cases hp : inB x a n = true
    · rw [if_pos hp]
      congr 1
      cases u with
      | none => rfl
      | some v => simp [oneR, hp]
    · rw [if_neg hp]
      have hn : ∀ {b m : Int}, PfOk b m → Reg n a b m → inB x b m = false := fun {b m} h1 h2 => by
        cases hb : inB x b m with
        | false => rfl
        | true =>
          exfalso
          exact hp ((in_iff hok.1).2 ((eq_mono h2.1 h1.bits.2.1 ((in_iff h1).1 hb)).trans h2.2))
      have hall := Tr.old_all hok
      have e1 : rowsT (inB x) l = [] := by
        rw [List.eq_nil_iff_forall_not_mem]
        intro y hy
        have := rows_mem (p := inB x) hall.2.1 y hy
        rw [hn this.1.1 this.1.2] at this
        cases this.2
      have e2 : rowsT (inB x) r = [] := by
        rw [List.eq_nil_iff_forall_not_mem]
        intro y hy
        have := rows_mem (p := inB x) hall.2.2 y hy
        rw [hn this.1.1 this.1.2] at this
        cases this.2
      rw [e1, e2]
      cases u with
      | none => rfl
      | some v => simp [oneR, hp]
theorem rows_chain (x : Int) : ∀ {T : Tr Int}, T.Ok → (rowsT (inB x) T).Pairwise fun y z => y.1.2 < z.1.2
  | .nil, _ => List.Pairwise.nil
  | .node a n u l r, hok => by
    have ih1 := rows_chain x hok.2.2.2.1
    have ih2 := rows_chain x hok.2.2.2.2
    unfold rowsT
    split
    · rename_i hp
      have m1 : ∀ y ∈ rowsT (inB x) l, (PfOk y.1.1 y.1.2 ∧ Reg (n + 1) a y.1.1 y.1.2) ∧ inB x y.1.1 y.1.2 = true := rows_mem (p := inB x) (Tr.all_both (Tr.all_ok hok.2.2.2.1) hok.2.1)
      have m2 : ∀ y ∈ rowsT (inB x) r, (PfOk y.1.1 y.1.2 ∧ Reg (n + 1) (a + pw (n + 1)) y.1.1 y.1.2) ∧ inB x y.1.1 y.1.2 = true := rows_mem (p := inB x) (Tr.all_both (Tr.all_ok hok.2.2.2.2) hok.2.2.1)
      refine List.pairwise_append.2 ⟨?_, List.pairwise_append.2 ⟨ih1, ih2, fun y hy z hz => ?_⟩, fun y hy z hz => ?_⟩
      · cases u with
        | none => exact List.Pairwise.nil
        | some v => exact List.pairwise_singleton _ _
      · exfalso
        obtain ⟨⟨p1, q1⟩, i1⟩ := m1 y hy
        obtain ⟨⟨p2, q2⟩, i2⟩ := m2 z hz
        have b1 := p1.bits
        have b2 := p2.bits
        have e1 := (eq_mono q1.1 b1.2.1 ((in_iff p1).1 i1)).trans q1.2
        have e2 := (eq_mono q2.1 b2.2.1 ((in_iff p2).1 i2)).trans q2.2
        exact Tr.lo_hi hok.1 (by have := q1.1; omega) e1 e2
      · cases u with
        | none => simp at hy
        | some v =>
          simp only [List.mem_singleton] at hy
          subst hy
          rcases List.mem_append.1 hz with h | h
          · have := (m1 z h).1.2.1
            show n < z.1.2
            omega
          · have := (m2 z h).1.2.1
            show n < z.1.2
            omega
    · exact List.Pairwise.nil
namespace Tr
/-- The node over all that is in a prefix. -/
def under (b m : Int) : Tr Int → Tr Int
  | .nil => .nil
  | .node a n u l r => if wiB a n b m then .node a n u l r else if sd b n = 0 then under b m l else under b m r
theorem under_ok {b m : Int} : ∀ {T : Tr Int}, T.Ok → (under b m T).Ok
  | .nil, _ => trivial
  | .node a n u l r, hok => by
    unfold under
    split
    · exact hok
    · split
      · exact under_ok hok.2.2.2.1
      · exact under_ok hok.2.2.2.2
end Tr
theorem wi_iff {a n b m : Int} (h : PfOk a n) (hb : PfOk b m) : wiB a n b m = true ↔ m ≤ n ∧ Eq32 m a b := by
  by_cases hm : m ≤ n
  · rw [wiB_ok _ _ _ _ h.2.2 hm, in_iff hb]
    exact ⟨fun e => ⟨hm, e⟩, fun e => e.2⟩
  · rw [wiB_no2 _ _ _ _ hm]
    constructor
    · intro e; cases e
    · rintro ⟨e, _⟩; exact absurd e hm
theorem rows_under {b m : Int} (hb0 : 0 ≤ b) (hb1 : b < 4294967296) : ∀ {T : Tr Int}, T.Ok → rowsT allP (Tr.under b m T) = (rowsT allP T).filter fun y => wiB y.1.1 y.1.2 b m
  | .nil, _ => rfl
  | .node a n u l r, hok => by
    have ih1 := rows_under (m := m) hb0 hb1 hok.2.2.2.1
    have ih2 := rows_under (m := m) hb0 hb1 hok.2.2.2.2
    have hall := Tr.old_all hok
    have hmem := rows_mem (p := allP) hall
    conv => lhs; unfold Tr.under
    by_cases hck : ck b m = 0
    · have hb : PfOk b m := ⟨hb0, hb1, hck⟩
      by_cases hw : wiB a n b m = true
      · rw [if_pos hw]
        obtain ⟨w1, w2⟩ := (wi_iff hok.1 hb).1 hw
        refine (List.filter_eq_self.2 fun y hy => ?_).symm
        obtain ⟨⟨p1, q1⟩, _⟩ := hmem y hy
        exact (wi_iff p1 hb).2 ⟨by have := q1.1; omega, (eq_mono w1 hok.1.bits.2.1 q1.2).trans w2⟩
      · rw [if_neg hw]
        have hbits := hok.1.bits
        -- what is in the prefix stands on its side
        have key : ∀ {y0 y1 : Int}, PfOk y0 y1 → Reg n a y0 y1 → n < y1 → wiB y0 y1 b m = true → n < m ∧ Eq32 (n + 1) y0 b := fun {y0 y1} p1 q1 hn hwy => by
          obtain ⟨v1, v2⟩ := (wi_iff p1 hb).1 hwy
          have hnm : n < m := by
            rcases Int.lt_or_le n m with h | h
            · exact h
            · exact absurd ((wi_iff hok.1 hb).2 ⟨h, (eq_mono h hbits.2.1 q1.2.symm).trans v2⟩) hw
          exact ⟨hnm, eq_mono (by omega) hb.bits.2.1 v2⟩
        have m1 : ∀ y ∈ rowsT allP l, (PfOk y.1.1 y.1.2 ∧ Reg (n + 1) a y.1.1 y.1.2) ∧ allP y.1.1 y.1.2 = true := rows_mem (p := allP) (Tr.all_both (Tr.all_ok hok.2.2.2.1) hok.2.1)
        have m2 : ∀ y ∈ rowsT allP r, (PfOk y.1.1 y.1.2 ∧ Reg (n + 1) (a + pw (n + 1)) y.1.1 y.1.2) ∧ allP y.1.1 y.1.2 = true := rows_mem (p := allP) (Tr.all_both (Tr.all_ok hok.2.2.2.2) hok.2.2.1)
        rw [rows_all, List.filter_append, List.filter_append]
        have hu : (oneR a n u).filter (fun y => wiB y.1.1 y.1.2 b m) = [] := by
          cases u with
          | none => rfl
          | some v => simp [oneR, hw]
        rw [hu, List.nil_append]
        by_cases hs : sd b n = 0
        · rw [if_pos hs, ih1]
          have : (rowsT allP r).filter (fun y => wiB y.1.1 y.1.2 b m) = [] := filter_none fun y hy => by
            obtain ⟨⟨p1, q1⟩, _⟩ := m2 y hy
            cases hwy : wiB y.1.1 y.1.2 b m with
            | false => rfl
            | true =>
              exfalso
              obtain ⟨k1, k2⟩ := key p1 (reg_hi hok.1 p1 q1) (by have := q1.1; omega) hwy
              have hn32 : n < 32 := by have := hb.bits; omega
              have e1 := ((eq_succ hn32).1 (k2.symm.trans q1.2)).2
              have e2 := (half_hi_eq hok.1 hn32).2.1
              omega
          rw [this, List.append_nil]
        · rw [if_neg hs, ih2]
          have : (rowsT allP l).filter (fun y => wiB y.1.1 y.1.2 b m) = [] := filter_none fun y hy => by
            obtain ⟨⟨p1, q1⟩, _⟩ := m1 y hy
            cases hwy : wiB y.1.1 y.1.2 b m with
            | false => rfl
            | true =>
              exfalso
              obtain ⟨k1, k2⟩ := key p1 (reg_lo hok.1 p1 q1) (by have := q1.1; omega) hwy
              have hn32 : n < 32 := by have := hb.bits; omega
              have e1 := ((eq_succ hn32).1 (k2.symm.trans q1.2)).2
              have e2 := (half_hi_eq hok.1 hn32).2.2
              omega
          rw [this, List.nil_append]
    · have hno : ∀ {a n : Int}, wiB a n b m = false := fun {a n} => wiB_no3 a n b m hck
      rw [if_neg (by rw [hno]; decide), List.filter_eq_nil_iff.2 (fun y _ => by rw [hno]; decide)]
      have hnil : ∀ T : Tr Int, (rowsT allP T).filter (fun y => wiB y.1.1 y.1.2 b m) = [] := fun T => List.filter_eq_nil_iff.2 (fun y _ => by rw [hno]; decide)
      split
      · rw [ih1, hnil]
      · rw [ih2, hnil]
end Go.Proofs.Ytodfimnmbfdicaa
