/- What covers a tree of prefixes: just what is in it, each address once, in order, no two halves of one. No condition; nothing here speaks of the program. -/
import Derived.Test.YtodfimnmbfdicaaTpN
namespace Go.Proofs.Ytodfimnmbfdicaa
instance eq32Dec (k a b : Int) : Decidable (Eq32 k a b) := inferInstanceAs (Decidable (a / pw k = b / pw k))
/-- Two prefixes stand apart, in order, and are no halves of one. -/
def Sep (p q : Int × Int) : Prop := ∃ K, 0 ≤ K ∧ K < p.2 ∧ K < q.2 ∧ Eq32 K p.1 q.1 ∧ sd p.1 K = 0 ∧ sd q.1 K = 1 ∧ ¬ (p.2 = K + 1 ∧ q.2 = K + 1)
theorem Sep.apart {p q : Int × Int} {x : Int} (hp : PfOk p.1 p.2) (hq : PfOk q.1 q.2) (h : Sep p q) (h1 : Eq32 p.2 x p.1) (h2 : Eq32 q.2 x q.1) : False := by
  obtain ⟨K, k0, k1, k2, k3, k4, k5, k6⟩ := h
  have b1 := hp.bits
  have b2 := hq.bits
  have e1 := eq_mono (j := K + 1) (by omega) b1.2.1 h1
  have e2 := eq_mono (j := K + 1) (by omega) b2.2.1 h2
  have := (eq_succ (k := K) (by omega)).1 (e1.symm.trans e2)
  omega
theorem one_of_sep {L : List (Int × Int)} {p : Int × Int} (hs : L.Pairwise Sep) (hp : PfOk p.1 p.2) (hm : p ∈ L) (hall : ∀ q ∈ L, PfOk q.1 q.2 ∧ Reg p.2 p.1 q.1 q.2) : L = [p] := by
  obtain ⟨A, B, rfl⟩ := List.append_of_mem hm
  have hA : A = [] := by
    cases A with
    | nil => rfl
    | cons y A =>
      exfalso
      have h1 : Sep y p := (List.pairwise_append.1 hs).2.2 y (by simp) p (by simp)
      obtain ⟨h2, h3, h4⟩ := hall y (by simp)
      exact h1.apart (x := y.1) h2 hp (Eq32.refl _ _) h4
  have hB : B = [] := by
    cases B with
    | nil => rfl
    | cons y B =>
      exfalso
      have h0 := (List.pairwise_append.1 hs).2.1
      have h1 : Sep p y := (List.pairwise_cons.1 h0).1 y (by simp)
      obtain ⟨h2, h3, h4⟩ := hall y (by simp)
      exact h1.apart (x := y.1) hp h2 h4 (Eq32.refl _ _)
  rw [hA, hB]; rfl
namespace Tr
variable {V : Type}
/-- Are these a prefix's two halves? -/
def whole (a n : Int) (c : List (Int × Int)) : Bool := decide (n < 32 ∧ c = [(a, n + 1), (a + pw (n + 1), n + 1)])
def cover : Tr V → List (Int × Int)
  | nil => []
  | node a n (some _) _ _ => [(a, n)]
  | node a n none l r => if whole a n (cover l ++ cover r) then [(a, n)] else cover l ++ cover r
theorem cover_all {k c : Int} : ∀ {t : Tr V}, t.Ok → t.All (Reg k c) → ∀ p ∈ cover t, PfOk p.1 p.2 ∧ Reg k c p.1 p.2
  | nil, _, _, p, hp => by simp [cover] at hp
  | node a n (some _) l r, hok, hall, p, hp => by
    simp only [cover, List.mem_singleton] at hp
    subst hp
    exact ⟨hok.1, hall.1⟩
  | node a n none l r, hok, hall, p, hp => by
    have ih1 := cover_all hok.2.2.2.1 hall.2.1
    have ih2 := cover_all hok.2.2.2.2 hall.2.2
    simp only [cover] at hp
    split at hp
    · simp only [List.mem_singleton] at hp
      subst hp
      exact ⟨hok.1, hall.1⟩
    · rcases List.mem_append.1 hp with h | h
      · exact ih1 p h
      · exact ih2 p h
theorem cover_sep : ∀ {t : Tr V}, t.Ok → (cover t).Pairwise Sep
  | nil, _ => List.Pairwise.nil
  | node a n (some _) l r, _ => List.pairwise_singleton _ _
  | node a n none l r, hok => by
    have ih1 := cover_sep hok.2.2.2.1
    have ih2 := cover_sep hok.2.2.2.2
    have h1 := cover_all hok.2.2.2.1 hok.2.1
    have h2 := cover_all hok.2.2.2.2 hok.2.2.1
    have hb := hok.1.bits
    simp only [cover]
    split
    · exact List.pairwise_singleton _ _
    · rename_i hw
      refine List.pairwise_append.2 ⟨ih1, ih2, fun p hp q hq => ?_⟩
      obtain ⟨p1, p2, p3⟩ := h1 p hp
      obtain ⟨q1, q2, q3⟩ := h2 q hq
      have pb := p1.bits
      have hn : n < 32 := by omega
      obtain ⟨e1, e2, e3⟩ := half_hi_eq hok.1 hn
      obtain ⟨p4, p5⟩ := (eq_succ hn).1 p3
      obtain ⟨q4, q5⟩ := (eq_succ hn).1 q3
      refine ⟨n, hb.1, by omega, by omega, p4.trans (e1.symm.trans q4.symm), by omega, by omega, ?_⟩
      rintro ⟨f1, f2⟩
      apply hw
      obtain ⟨g1, g2⟩ := half_ok hok.1 hn
      have hpe : p = (a, n + 1) := by
        obtain ⟨x, y⟩ := p
        simp only at *
        subst f1
        rw [pf_eq p1 g1 p3]
      have hqe : q = (a + pw (n + 1), n + 1) := by
        obtain ⟨x, y⟩ := q
        simp only at *
        subst f2
        rw [pf_eq q1 g2 q3]
      subst hpe hqe
      have c1 := one_of_sep ih1 p1 hp h1
      have c2 := one_of_sep ih2 q1 hq h2
      unfold whole
      rw [c1, c2]
      simpa using hn
theorem cover_cov {x : Int} : ∀ {t : Tr V}, t.Ok → ((∃ p ∈ cover t, Eq32 p.2 x p.1) ↔ ∃ b m v, t.Has b m v ∧ Eq32 m x b)
  | nil, _ => by simp [cover, Has]
  | node a n (some v) l r, hok => by
    simp only [cover, List.mem_singleton, exists_eq_left]
    constructor
    · intro h
      exact ⟨a, n, v, .inl ⟨rfl, rfl, rfl⟩, h⟩
    · rintro ⟨b, m, v', h, e⟩
      obtain ⟨h1, h2, h3⟩ := Has.all (old_all hok) h
      exact (eq_mono h2 h1.bits.2.1 e).trans h3
  | node a n none l r, hok => by
    have ih1 := cover_cov (x := x) hok.2.2.2.1
    have ih2 := cover_cov (x := x) hok.2.2.2.2
    have hr : (∃ b m v, (node a n none l r).Has b m v ∧ Eq32 m x b) ↔ (∃ p ∈ cover l, Eq32 p.2 x p.1) ∨ (∃ p ∈ cover r, Eq32 p.2 x p.1) := by
      rw [ih1, ih2]
      simp only [Has, reduceCtorEq, and_false, false_or]
      constructor
      · rintro ⟨b, m, v, h | h, e⟩
        · exact .inl ⟨b, m, v, h, e⟩
        · exact .inr ⟨b, m, v, h, e⟩
      · rintro (⟨b, m, v, h, e⟩ | ⟨b, m, v, h, e⟩)
        · exact ⟨b, m, v, .inl h, e⟩
        · exact ⟨b, m, v, .inr h, e⟩
    have hl : (∃ p ∈ cover l, Eq32 p.2 x p.1) ∨ (∃ p ∈ cover r, Eq32 p.2 x p.1) ↔ ∃ p ∈ cover l ++ cover r, Eq32 p.2 x p.1 := by
      simp only [List.mem_append]
      constructor
      · rintro (⟨p, h, e⟩ | ⟨p, h, e⟩)
        · exact ⟨p, .inl h, e⟩
        · exact ⟨p, .inr h, e⟩
      · rintro ⟨p, h | h, e⟩
        · exact .inl ⟨p, h, e⟩
        · exact .inr ⟨p, h, e⟩
    rw [hr, hl]
    simp only [cover]
    split
    · rename_i hw
      obtain ⟨hn, hc⟩ := of_decide_eq_true hw
      rw [hc]
      simp only [List.mem_singleton, exists_eq_left, List.mem_cons, List.not_mem_nil, or_false, exists_eq_or_imp]
      obtain ⟨e1, e2, e3⟩ := half_hi_eq hok.1 hn
      constructor
      · intro h
        rcases sd_two x n with h1 | h1
        · exact .inl (half_lo hok.1 hn h h1)
        · exact .inr (half_hi hok.1 hn h h1)
      · rintro (h | h)
        · exact ((eq_succ hn).1 h).1
        · exact ((eq_succ hn).1 h).1.trans e1
    · exact Iff.rfl
theorem cover_one {x : Int} {t : Tr V} (hok : t.Ok) (hall : t.All (Reg 0 0)) : ((cover t).filter fun p => decide (Eq32 p.2 x p.1)).length ≤ 1 := by
  have hs := cover_sep hok
  have ha := cover_all hok hall
  generalize cover t = L at hs ha
  induction L with
  | nil => simp
  | cons p L ih =>
    have hs2 := List.pairwise_cons.1 hs
    have ih := ih hs2.2 (fun q hq => ha q (List.mem_cons_of_mem _ hq))
    rw [List.filter_cons]
    split
    · rename_i h
      have h := of_decide_eq_true h
      have : L.filter (fun p => decide (Eq32 p.2 x p.1)) = [] := by
        rw [List.filter_eq_nil_iff]
        intro q hq e
        exact (hs2.1 q hq).apart (ha p (by simp)).1 (ha q (by simp [hq])).1 h (of_decide_eq_true e)
      rw [this]; simp
    · exact ih
end Tr
theorem all_reg0 {V : Type} : ∀ {t : Tr V}, t.Ok → t.All (Reg 0 0) := fun h => (Tr.all_ok h).imp fun a n hp => ⟨hp.bits.1, by
  unfold Eq32
  rw [pw_0, Int.ediv_eq_zero_of_lt hp.1 hp.2.1]; rfl⟩
theorem Sep.facts {p q : Int × Int} (hp : PfOk p.1 p.2) (hq : PfOk q.1 q.2) (h : Sep p q) : cmpI p.1 p.2 q.1 q.2 = -1 ∧ ¬ (p.2 = q.2 ∧ cmK p.1 p.2 q.1 q.2 = p.2 - 1) ∧ wiB p.1 p.2 q.1 q.2 = false ∧ wiB q.1 q.2 p.1 p.2 = false := by
  have hsep := h
  obtain ⟨K, k0, k1, k2, k3, k4, k5, k6⟩ := h
  have b1 := hp.bits
  have b2 := hq.bits
  have hK : cmK p.1 p.2 q.1 q.2 = K := by
    have h1 := cm_le hp hq k0 (by omega) (by omega) k3
    obtain ⟨h2, h3, h4, h5⟩ := cm_k hp hq
    rcases Int.lt_or_le K (cmK p.1 p.2 q.1 q.2) with h6 | h6
    · have := (eq_succ (k := K) (by omega)).1 (eq_mono (j := K + 1) (by omega) (by omega) h5)
      omega
    · omega
  refine ⟨?_, fun h => by omega, ?_, ?_⟩
  · have hlt : p.1 < q.1 := by
      have e := k3
      unfold Eq32 at e
      rw [div_half p.1 K (by omega), div_half q.1 K (by omega)] at e
      unfold sd at k4 k5
      rw [if_pos (by omega)] at k4 k5
      have h1 := pw_pos (K + 1)
      have h2 := Int.mul_ediv_add_emod p.1 (pw (K + 1))
      have h3 := Int.mul_ediv_add_emod q.1 (pw (K + 1))
      have h4 := Int.emod_lt_of_pos p.1 (b := pw (K + 1)) (by omega)
      have h5 := Int.emod_nonneg q.1 (b := pw (K + 1)) (by omega)
      have h6 : q.1 / pw (K + 1) = p.1 / pw (K + 1) + 1 := by omega
      rw [h6, Int.mul_add] at h3
      omega
    unfold cmpI
    rw [if_pos (.inl hlt)]
  · cases hw : wiB p.1 p.2 q.1 q.2 with
    | false => rfl
    | true =>
      exfalso
      have hle : q.2 ≤ p.2 := by
        unfold wiB at hw
        simp only [Bool.and_eq_true, decide_eq_true_eq] at hw
        omega
      rw [wiB_ok _ _ _ _ hp.2.2 hle] at hw
      exact hsep.apart (x := p.1) hp hq (Eq32.refl _ _) ((in_iff hq).1 hw)
  · cases hw : wiB q.1 q.2 p.1 p.2 with
    | false => rfl
    | true =>
      exfalso
      have hle : p.2 ≤ q.2 := by
        unfold wiB at hw
        simp only [Bool.and_eq_true, decide_eq_true_eq] at hw
        omega
      rw [wiB_ok _ _ _ _ hq.2.2 hle] at hw
      exact hsep.apart (x := q.1) hp hq ((in_iff hp).1 hw) (Eq32.refl _ _)
end Go.Proofs.Ytodfimnmbfdicaa
