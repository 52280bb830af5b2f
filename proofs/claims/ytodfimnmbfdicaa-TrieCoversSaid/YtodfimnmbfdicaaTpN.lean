/- Trees of prefixes: what is put in is in, beside what was; what covers a tree. No condition; nothing here speaks of the program. -/
import Derived.Test.YtodfimnmbfdicaaTpM
namespace Go.Proofs.Ytodfimnmbfdicaa
namespace Tr
variable {V : Type}
theorem old_all {a n : Int} {u : Option V} {l r : Tr V} (h : (node a n u l r).Ok) : (node a n u l r).All fun b m => PfOk b m ∧ Reg n a b m := by
  have h' := all_ok h
  obtain ⟨hp, h1, h2, h3, h4⟩ := h
  refine ⟨⟨hp, Int.le_refl _, Eq32.refl _ _⟩, (all_both (all_ok h3) h1).imp fun b m ⟨k1, k2⟩ => ⟨k1, reg_lo hp k1 k2⟩, (all_both (all_ok h4) h2).imp fun b m ⟨k1, k2⟩ => ⟨k1, reg_hi hp k1 k2⟩⟩
theorem all_ins {k c b m : Int} {v : V} (h0 : 0 ≤ k) (hb : PfOk b m) (hr : Reg k c b m) : ∀ {t : Tr V}, t.Ok → t.All (Reg k c) → (ins b m v t).All (Reg k c)
  | nil, _, _ => ⟨hr, trivial, trivial⟩
  | node a n u l r, hok, hall => by
    have ih1 := all_ins (v := v) h0 hb hr hok.2.2.2.1 hall.2.1
    have ih2 := all_ins (v := v) h0 hb hr hok.2.2.2.2 hall.2.2
    obtain ⟨k0, k1, k2, k3⟩ := cm_k hok.1 hb
    have hk := cm_le hok.1 hb h0 hall.1.1 hr.1 (hall.1.2.trans hr.2.symm)
    have hbits := hok.1.bits
    have hC : Reg k c (a / pw (cmK a n b m) * pw (cmK a n b m)) (cmK a n b m) := ⟨hk, (eq_mono hk (by omega) (cut_eq a _)).trans hall.1.2⟩
    unfold ins
    split
    · split
      · exact hall
      · split
        · exact ⟨hall.1, ih1, hall.2.2⟩
        · exact ⟨hall.1, hall.2.1, ih2⟩
    · split
      · split
        · exact ⟨hr, hall, trivial⟩
        · exact ⟨hr, trivial, hall⟩
      · split
        · exact ⟨hC, hall, hr, trivial, trivial⟩
        · exact ⟨hC, ⟨hr, trivial, trivial⟩, hall⟩
/-- Which half of what two prefixes have in common they are in. -/
theorem sides {a n b m : Int} (h : PfOk a n) (hb : PfOk b m) (h1 : cmK a n b m ≠ n) (h2 : cmK a n b m ≠ m) : (sd a (cmK a n b m) = 0 ∧ sd b (cmK a n b m) = 1 ∨ sd a (cmK a n b m) = 1 ∧ sd b (cmK a n b m) = 0) := by
  obtain ⟨k0, k1, k2, k3⟩ := cm_k h hb
  have hbits := h.bits
  have hne : sd a (cmK a n b m) ≠ sd b (cmK a n b m) := fun e => by
    have := cm_le h hb (k := cmK a n b m + 1) (by omega) (by omega) (by omega) ((eq_succ (by omega)).2 ⟨k3, e⟩)
    omega
  rcases sd_two a (cmK a n b m) with e1 | e1 <;> rcases sd_two b (cmK a n b m) with e2 | e2 <;> omega
theorem ok_ins {b m : Int} {v : V} (hb : PfOk b m) : ∀ {t : Tr V}, t.Ok → (ins b m v t).Ok
  | nil, _ => ⟨hb, trivial, trivial, trivial, trivial⟩
  | node a n u l r, hok => by
    have ih1 := ok_ins (v := v) hb hok.2.2.2.1
    have ih2 := ok_ins (v := v) hb hok.2.2.2.2
    have hold := old_all hok
    obtain ⟨k0, k1, k2, k3⟩ := cm_k hok.1 hb
    have hbits := hok.1.bits
    have hbb := hb.bits
    have hC := cut_ok (a := a) (k := cmK a n b m) hok.1.1 hok.1.2.1 k0 (by omega)
    have hCe := cut_eq a (cmK a n b m)
    unfold ins
    split
    · rename_i e1
      split
      · exact ⟨hok.1, hok.2.1, hok.2.2.1, hok.2.2.2.1, hok.2.2.2.2⟩
      · rename_i e2
        rw [e1] at k2 k3 e2
        split
        · rename_i e3
          exact ⟨hok.1, all_ins (by omega) hb ⟨by omega, half_lo hok.1 (by omega) k3.symm e3⟩ hok.2.2.2.1 hok.2.1, hok.2.2.1, ih1, hok.2.2.2.2⟩
        · rename_i e3
          exact ⟨hok.1, hok.2.1, all_ins (by omega) hb ⟨by omega, half_hi hok.1 (by omega) k3.symm ((sd_two b n).resolve_left e3)⟩ hok.2.2.2.2 hok.2.2.1, hok.2.2.2.1, ih2⟩
    · rename_i e1
      split
      · rename_i e2
        rw [e2] at k1 k3 e1
        split
        · rename_i e3
          exact ⟨hb, hold.imp fun x y ⟨_, z⟩ => z.mono (by omega) (by omega) (half_lo hb (by omega) k3 e3), trivial, hok, trivial⟩
        · rename_i e3
          exact ⟨hb, trivial, hold.imp fun x y ⟨_, z⟩ => z.mono (by omega) (by omega) (half_hi hb (by omega) k3 ((sd_two a m).resolve_left e3)), trivial, hok⟩
      · rename_i e2
        have hs := sides hok.1 hb e1 e2
        have hlt : cmK a n b m < 32 := by omega
        split
        · rename_i e3
          refine ⟨hC, hold.imp fun x y ⟨_, z⟩ => z.mono (by omega) (by omega) (half_lo hC hlt hCe.symm e3), ⟨⟨by omega, half_hi hC hlt (k3.symm.trans hCe.symm) (by omega)⟩, trivial, trivial⟩, hok, hb, trivial, trivial, trivial, trivial⟩
        · rename_i e3
          refine ⟨hC, ⟨⟨by omega, half_lo hC hlt (k3.symm.trans hCe.symm) (by omega)⟩, trivial, trivial⟩, hold.imp fun x y ⟨_, z⟩ => z.mono (by omega) (by omega) (half_hi hC hlt hCe.symm (by omega)), ⟨hb, trivial, trivial, trivial, trivial⟩, hok⟩
theorem lo_hi {a n b : Int} (h : PfOk a n) (hn : n < 32) (h1 : Eq32 (n + 1) b a) (h2 : Eq32 (n + 1) b (a + pw (n + 1))) : False := by
  have e := (eq_succ hn).1 (h1.symm.trans h2)
  obtain ⟨_, e1, e2⟩ := half_hi_eq h hn
  omega
theorem has_ins {b m : Int} {v : V} (hb : PfOk b m) (x y : Int) (z : V) : ∀ {t : Tr V}, t.Ok → ((ins b m v t).Has x y z ↔ (x = b ∧ y = m ∧ z = v) ∨ (¬ (x = b ∧ y = m) ∧ t.Has x y z))
  | nil, _ => by
    simp only [ins, Has, or_false, and_false, Option.some.injEq]
    exact ⟨fun ⟨h1, h2, h3⟩ => ⟨h1, h2, h3.symm⟩, fun ⟨h1, h2, h3⟩ => ⟨h1, h2, h3.symm⟩⟩
  | node a n u l r, hok => by
    have ih1 := has_ins (v := v) hb x y z hok.2.2.2.1
    have ih2 := has_ins (v := v) hb x y z hok.2.2.2.2
    have hold := old_all hok
    obtain ⟨k0, k1, k2, k3⟩ := cm_k hok.1 hb
    have hbits := hok.1.bits
    have hbb := hb.bits
    have hL : l.Has x y z → n < y ∧ Eq32 (n + 1) x a := fun h => by
      have := Has.all hok.2.1 h
      exact ⟨by have := this.1; omega, this.2⟩
    have hR : r.Has x y z → n < y ∧ Eq32 (n + 1) x (a + pw (n + 1)) := fun h => by
      have := Has.all hok.2.2.1 h
      exact ⟨by have := this.1; omega, this.2⟩
    have hO : cmK a n b m ≠ n → (node a n u l r).Has x y z → ¬ (x = b ∧ y = m) := fun e h => by
      rintro ⟨rfl, rfl⟩
      obtain ⟨_, q1, q2⟩ := Has.all hold h
      have := cm_le hok.1 hb (k := n) (by omega) (Int.le_refl _) q1 q2.symm
      omega
    unfold ins
    split
    · rename_i e1
      split
      · rename_i e2
        have e4 : n = m := by omega
        subst e4
        rw [e1] at k3
        have e5 : a = b := pf_eq hok.1 hb k3
        subst e5
        simp only [Has, Option.some.injEq]
        constructor
        · rintro (⟨h1, h2, h3⟩ | h | h)
          · exact .inl ⟨h1, h2, h3.symm⟩
          · exact .inr ⟨fun e => by have := hL h; omega, .inr (.inl h)⟩
          · exact .inr ⟨fun e => by have := hR h; omega, .inr (.inr h)⟩
        · rintro (⟨h1, h2, h3⟩ | ⟨h, (⟨h1, h2, h3⟩ | h2 | h2)⟩)
          · exact .inl ⟨h1, h2, h3.symm⟩
          · exact absurd ⟨h1, h2⟩ h
          · exact .inr (.inl h2)
          · exact .inr (.inr h2)
      · rename_i e2
        rw [e1] at k2 k3 e2
        have hlt : n < m := by omega
        split
        · rename_i e3
          have hreg := half_lo hok.1 (by omega) k3.symm e3
          simp only [Has, ih1]
          constructor
          · rintro (⟨h1, h2, h3⟩ | (h | ⟨h, h2⟩) | h)
            · exact .inr ⟨fun e => by omega, .inl ⟨h1, h2, h3⟩⟩
            · exact .inl h
            · exact .inr ⟨h, .inr (.inl h2)⟩
            · refine .inr ⟨?_, .inr (.inr h)⟩
              rintro ⟨rfl, rfl⟩
              exact lo_hi hok.1 (by omega) hreg (hR h).2
          · rintro (h | ⟨h, (h2 | h2 | h2)⟩)
            · exact .inr (.inl (.inl h))
            · exact .inl h2
            · exact .inr (.inl (.inr ⟨h, h2⟩))
            · exact .inr (.inr h2)
        · rename_i e3
          have hreg := half_hi hok.1 (by omega) k3.symm ((sd_two b n).resolve_left e3)
          simp only [Has, ih2]
          constructor
          · rintro (⟨h1, h2, h3⟩ | h | (h | ⟨h, h2⟩))
            · exact .inr ⟨fun e => by omega, .inl ⟨h1, h2, h3⟩⟩
            · refine .inr ⟨?_, .inr (.inl h)⟩
              rintro ⟨rfl, rfl⟩
              exact lo_hi hok.1 (by omega) (hL h).2 hreg
            · exact .inl h
            · exact .inr ⟨h, .inr (.inr h2)⟩
          · rintro (h | ⟨h, (h2 | h2 | h2)⟩)
            · exact .inr (.inr (.inl h))
            · exact .inl h2
            · exact .inr (.inl h2)
            · exact .inr (.inr (.inr ⟨h, h2⟩))
    · rename_i e1
      have hO := hO e1
      have key : ∀ q : Prop, (q ↔ (x = b ∧ y = m ∧ v = z) ∨ (node a n u l r).Has x y z) → (q ↔ (x = b ∧ y = m ∧ z = v) ∨ (¬ (x = b ∧ y = m) ∧ (node a n u l r).Has x y z)) := by
        intro q hq
        rw [hq]
        constructor
        · rintro (⟨h1, h2, h3⟩ | h)
          · exact .inl ⟨h1, h2, h3.symm⟩
          · exact .inr ⟨hO h, h⟩
        · rintro (⟨h1, h2, h3⟩ | ⟨_, h⟩)
          · exact .inl ⟨h1, h2, h3.symm⟩
          · exact .inr h
      apply key
      split
      · split
        · simp only [Has, Option.some.injEq, or_false]
        · simp only [Has, Option.some.injEq, false_or]
      · split
        · simp only [Has, Option.some.injEq, or_false, reduceCtorEq, and_false, false_or]
          constructor
          · rintro (h | h)
            · exact .inr h
            · exact .inl h
          · rintro (h | h)
            · exact .inr h
            · exact .inl h
        · simp only [Has, Option.some.injEq, or_false, reduceCtorEq, and_false, false_or]
end Tr
end Go.Proofs.Ytodfimnmbfdicaa
