/- The trie as mathematics: what is left of a tree without a prefix. Under the conditions that it names. -/
import Derived.Test.YtodfimnmbfdicaaTpO
namespace Go.Proofs.Ytodfimnmbfdicaa
namespace Tr
variable {V : Type}
/-- A node, or what it would only lengthen the paths to. -/
def mk (a n : Int) : Option V → Tr V → Tr V → Tr V
  | none, nil, r => r
  | none, l, nil => l
  | u, l, r => node a n u l r
theorem mk_has {a n b m : Int} {v : V} : ∀ {u : Option V} {l r : Tr V}, (mk a n u l r).Has b m v ↔ (node a n u l r).Has b m v
  | none, nil, r => by simp [mk, Has]
  | none, node .., nil => by simp [mk, Has]
  | none, node .., node .. => by simp [mk, Has]
  | some _, l, r => by cases l <;> cases r <;> simp [mk, Has]
theorem mk_all {a n : Int} {p : Int → Int → Prop} : ∀ {u : Option V} {l r : Tr V}, (node a n u l r).All p → (mk a n u l r).All p
  | none, nil, _, h => by unfold mk; exact h.2.2
  | none, node .., nil, h => by unfold mk; exact h.2.1
  | none, node .., node .., h => by unfold mk; exact h
  | some _, l, r, h => by cases l <;> cases r <;> exact h
theorem mk_ok {a n : Int} : ∀ {u : Option V} {l r : Tr V}, (node a n u l r).Ok → (mk a n u l r).Ok
  | none, nil, _, h => by unfold mk; exact h.2.2.2.2
  | none, node .., nil, h => by unfold mk; exact h.2.2.2.1
  | none, node .., node .., h => by unfold mk; exact h
  | some _, l, r, h => by cases l <;> cases r <;> exact h
/-- The tree without a prefix. -/
def wo (b m : Int) : Tr V → Tr V
  | nil => nil
  | node a n u l r => if a = b ∧ n = m then mk a n none l r else if sd b n = 0 then mk a n u (wo b m l) r else mk a n u l (wo b m r)
theorem wo_eq {a n b m : Int} {u : Option V} {l r : Tr V} (h : a = b ∧ n = m) : wo b m (node a n u l r) = mk a n none l r := by rw [wo, if_pos h]
theorem wo_lo {a n b m : Int} {u : Option V} {l r : Tr V} (h : ¬ (a = b ∧ n = m)) (hs : sd b n = 0) : wo b m (node a n u l r) = mk a n u (wo b m l) r := by rw [wo, if_neg h, if_pos hs]
theorem wo_hi {a n b m : Int} {u : Option V} {l r : Tr V} (h : ¬ (a = b ∧ n = m)) (hs : sd b n = 1) : wo b m (node a n u l r) = mk a n u l (wo b m r) := by rw [wo, if_neg h, if_neg (by rw [hs]; decide)]
theorem wo_all {b m : Int} {p : Int → Int → Prop} : ∀ {t : Tr V}, t.All p → (wo b m t).All p
  | nil, h => h
  | node a n u l r, h => by
    unfold wo
    split
    · exact mk_all ⟨h.1, h.2.1, h.2.2⟩
    · split
      · exact mk_all ⟨h.1, wo_all h.2.1, h.2.2⟩
      · exact mk_all ⟨h.1, h.2.1, wo_all h.2.2⟩
theorem wo_ok {b m : Int} : ∀ {t : Tr V}, t.Ok → (wo b m t).Ok
  | nil, h => h
  | node a n u l r, h => by
    unfold wo
    split
    · exact mk_ok ⟨h.1, h.2.1, h.2.2.1, h.2.2.2⟩
    · split
      · exact mk_ok ⟨h.1, wo_all h.2.1, h.2.2.1, wo_ok h.2.2.2.1, h.2.2.2.2⟩
      · exact mk_ok ⟨h.1, h.2.1, wo_all h.2.2.1, h.2.2.2.1, wo_ok h.2.2.2.2⟩
theorem wo_has {b m x k : Int} {v : V} (hb : PfOk b m) : ∀ {t : Tr V}, t.Ok → ((wo b m t).Has x k v ↔ t.Has x k v ∧ ¬ (x = b ∧ k = m))
  | nil, _ => by unfold wo; exact ⟨fun h => h.elim, fun h => h.1.elim⟩
  | node a n u l r, h => by
    have hbb := hb.bits
    have hl := wo_has (x := x) (k := k) (v := v) hb h.2.2.2.1
    have hr := wo_has (x := x) (k := k) (v := v) hb h.2.2.2.2
    have hL : ∀ {y j : Int} {w : V}, l.Has y j w → Reg (n + 1) a y j := fun hh => Has.all h.2.1 hh
    have hR : ∀ {y j : Int} {w : V}, r.Has y j w → Reg (n + 1) (a + pw (n + 1)) y j := fun hh => Has.all h.2.2.1 hh
    unfold wo
    split
    · rename_i he
      obtain ⟨rfl, rfl⟩ := he
      rw [mk_has]
      constructor
      · rintro (⟨_, _, h1⟩ | h1 | h1)
        · cases h1
        · have := (hL h1).1
          exact ⟨.inr (.inl h1), fun e => by omega⟩
        · have := (hR h1).1
          exact ⟨.inr (.inr h1), fun e => by omega⟩
      · rintro ⟨⟨h1, h2, _⟩ | h1 | h1, hne⟩
        · exact absurd ⟨h1, h2⟩ hne
        · exact .inr (.inl h1)
        · exact .inr (.inr h1)
    · rename_i he
      split
      · rename_i hs
        rw [mk_has]
        constructor
        · rintro (⟨h1, h2, h3⟩ | h1 | h1)
          · exact ⟨.inl ⟨h1, h2, h3⟩, fun e => he ⟨h1 ▸ e.1, h2 ▸ e.2⟩⟩
          · exact ⟨.inr (.inl (hl.1 h1).1), (hl.1 h1).2⟩
          · refine ⟨.inr (.inr h1), fun e => ?_⟩
            have h4 := hR h1
            rw [e.1, e.2] at h4
            have h5 : n < 32 := by have := h4.1; omega
            have h6 := ((eq_succ h5).1 h4.2).2
            rw [(half_hi_eq h.1 h5).2.1] at h6
            omega
        · rintro ⟨h1 | h1 | h1, hne⟩
          · exact .inl h1
          · exact .inr (.inl (hl.2 ⟨h1, hne⟩))
          · exact .inr (.inr h1)
      · rename_i hs
        rw [mk_has]
        constructor
        · rintro (⟨h1, h2, h3⟩ | h1 | h1)
          · exact ⟨.inl ⟨h1, h2, h3⟩, fun e => he ⟨h1 ▸ e.1, h2 ▸ e.2⟩⟩
          · refine ⟨.inr (.inl h1), fun e => ?_⟩
            have h4 := hL h1
            rw [e.1, e.2] at h4
            have h5 : n < 32 := by have := h4.1; omega
            have h6 := ((eq_succ h5).1 h4.2).2
            rw [(half_hi_eq h.1 h5).2.2] at h6
            omega
          · exact ⟨.inr (.inr (hr.1 h1).1), (hr.1 h1).2⟩
        · rintro ⟨h1 | h1 | h1, hne⟩
          · exact .inl h1
          · exact .inr (.inl h1)
          · exact .inr (.inr (hr.2 ⟨h1, hne⟩))
end Tr
end Go.Proofs.Ytodfimnmbfdicaa
