/- What covers a set of addresses by as few prefixes as can be is one list, as math. No condition but that the prefixes may be. -/
import Derived.Test.YtodfimnmbfdicaaTuE
import Derived.Test.YtodfimnmbfdicaaTpL
namespace Go.Proofs.Ytodfimnmbfdicaa
open Go.RowKit Go.Shelf
/-- Is the address in one of these? -/
def Cov (L : List (Int × Int)) (x : Int) : Prop := ∃ p ∈ L, Eq32 p.2 x p.1
def AllPf (L : List (Int × Int)) : Prop := ∀ p ∈ L, PfOk p.1 p.2
theorem side_eq {a b K : Int} (hK : K < 32) (h : Eq32 K a b) (h0 : sd a K = 0) (h1 : sd b K = 1) : b / pw (K + 1) = a / pw (K + 1) + 1 := by
  have e := h
  unfold Eq32 at e
  rw [div_half a K hK, div_half b K hK] at e
  unfold sd at h0 h1
  rw [if_pos hK] at h0 h1
  omega
theorem side_lt {a b K : Int} (hK : K < 32) (h : Eq32 K a b) (h0 : sd a K = 0) (h1 : sd b K = 1) : a < b := by
  have h6 := side_eq hK h h0 h1
  have g1 := pw_pos (K + 1)
  have g2 := Int.mul_ediv_add_emod a (pw (K + 1))
  have g3 := Int.mul_ediv_add_emod b (pw (K + 1))
  have g4 := Int.emod_lt_of_pos a (b := pw (K + 1)) (by omega)
  have g5 := Int.emod_nonneg b (b := pw (K + 1)) (by omega)
  rw [h6, Int.mul_add] at g3
  omega
/-- A region that is covered whole is in one of a list of prefixes that stand apart, no two of them halves of one. -/
theorem full_in {L : List (Int × Int)} (hs : L.Pairwise Sep) (hp : AllPf L) : ∀ (d : Nat) (a n : Int), n + d = 32 → PfOk a n → (∀ x, Eq32 n x a → Cov L x) → ∃ p ∈ L, p.2 ≤ n ∧ Eq32 p.2 a p.1
  | 0, a, n, hd, ha, hc => by
    obtain ⟨p, hm, he⟩ := hc a (Eq32.refl _ _)
    exact ⟨p, hm, by have := (hp p hm).bits; omega, he⟩
  | d + 1, a, n, hd, ha, hc => by
    have hn : n < 32 := by omega
    have hb := ha.bits
    obtain ⟨g0, g1⟩ := half_ok ha hn
    obtain ⟨e1, e2, e3⟩ := half_hi_eq ha hn
    obtain ⟨p0, m0, l0, q0⟩ := full_in hs hp d a (n + 1) (by omega) g0 (fun x hx => hc x (eq_mono (by omega) (by omega) hx))
    obtain ⟨p1, m1, l1, q1⟩ := full_in hs hp d (a + pw (n + 1)) (n + 1) (by omega) g1 (fun x hx => hc x ((eq_mono (by omega) (by omega) hx).trans e1))
    rcases Int.lt_or_le n p0.2 with h0 | h0
    · rcases Int.lt_or_le n p1.2 with h1 | h1
      · exfalso
        obtain ⟨x0, y0⟩ := p0
        obtain ⟨x1, y1⟩ := p1
        simp only at *
        have hy0 : y0 = n + 1 := by omega
        have hy1 : y1 = n + 1 := by omega
        subst hy0 hy1
        have ex0 := pf_eq g0 (hp _ m0) q0
        have ex1 := pf_eq g1 (hp _ m1) q1
        simp only at ex0 ex1
        subst ex0 ex1
        have key : ∀ {p q : Int × Int}, Sep p q → p.2 = n + 1 → q.2 = n + 1 → Eq32 n p.1 q.1 → sd p.1 n ≠ sd q.1 n → False := by
          rintro p q ⟨K, k0, k1, k2, k3, k4, k5, k6⟩ hp2 hq2 hE hsd
          have : K = n := by
            rcases Int.lt_or_le K n with h | h
            · have := ((eq_succ (k := K) (by omega)).1 (eq_mono (j := K + 1) (by omega) (by omega) hE)).2
              omega
            · omega
          subst this
          exact k6 ⟨hp2, hq2⟩
        have hne : (a, n + 1) ≠ (a + pw (n + 1), n + 1) := fun e => by
          have := (Prod.mk.inj e).1
          have := pw_pos (n + 1)
          omega
        rcases List.getElem_of_mem m0 with ⟨i, hi, ei⟩
        rcases List.getElem_of_mem m1 with ⟨k, hk, ek⟩
        rcases Nat.lt_trichotomy i k with h | h | h
        · have := List.pairwise_iff_getElem.1 hs i k hi hk h
          rw [ei, ek] at this
          exact key this rfl rfl e1.symm (by rw [e2, e3]; decide)
        · subst h
          exact hne (ei.symm.trans ek)
        · have := List.pairwise_iff_getElem.1 hs k i hk hi h
          rw [ei, ek] at this
          exact key this rfl rfl e1 (by rw [e2, e3]; decide)
      · exact ⟨p1, m1, h1, (eq_mono h1 (by omega) e1.symm).trans q1⟩
    · exact ⟨p0, m0, h0, q0⟩
theorem sep_sub {A B : List (Int × Int)} (hA : A.Pairwise Sep) (hB : B.Pairwise Sep) (pA : AllPf A) (pB : AllPf B) (h : ∀ x, Cov A x ↔ Cov B x) : ∀ p ∈ A, p ∈ B := by
  intro p hp
  have hpb := (pA p hp).bits
  obtain ⟨q, hq, l1, e1⟩ := full_in hB pB (32 - p.2).toNat p.1 p.2 (by omega) (pA p hp) (fun x hx => (h x).1 ⟨p, hp, hx⟩)
  have hqb := (pB q hq).bits
  obtain ⟨p', hp', l2, e2⟩ := full_in hA pA (32 - q.2).toNat q.1 q.2 (by omega) (pB q hq) (fun x hx => (h x).2 ⟨q, hq, hx⟩)
  have e3 : Eq32 p'.2 p.1 p'.1 := (eq_mono l2 (by omega) e1).trans e2
  have hpp : p = p' := by
    rcases List.getElem_of_mem hp with ⟨i, hi, ei⟩
    rcases List.getElem_of_mem hp' with ⟨k, hk, ek⟩
    rcases Nat.lt_trichotomy i k with hlt | hlt | hlt
    · have := List.pairwise_iff_getElem.1 hA i k hi hk hlt
      rw [ei, ek] at this
      exact (this.apart (x := p.1) (pA p hp) (pA p' hp') (Eq32.refl _ _) e3).elim
    · subst hlt; exact ei.symm.trans ek
    · have := List.pairwise_iff_getElem.1 hA k i hk hi hlt
      rw [ei, ek] at this
      exact (this.apart (x := p.1) (pA p' hp') (pA p hp) e3 (Eq32.refl _ _)).elim
  subst hpp
  have : q.2 = p.2 := by omega
  have hpq : p = q := by
    obtain ⟨x0, y0⟩ := p
    obtain ⟨x1, y1⟩ := q
    simp only at *
    subst this
    have hh : x0 = x1 := pf_eq (pA (x0, y1) hp) (pB (x1, y1) hq) e1
    rw [hh]
  rw [hpq]; exact hq
theorem sep_srt {A : List (Int × Int)} (hA : A.Pairwise Sep) (pA : AllPf A) : Srt (A.map fun p => (p, (0 : Int))) := by
  rw [Srt, List.pairwise_map]
  refine List.Pairwise.imp_of_mem (fun {p q} hp hq h => ?_) hA
  exact (cmp_lt (v := 0) (x := (q, 0))).1 (h.facts (pA p hp) (pA q hq)).1
theorem sep_eq {A B : List (Int × Int)} (hA : A.Pairwise Sep) (hB : B.Pairwise Sep) (pA : AllPf A) (pB : AllPf B) (h : ∀ x, Cov A x ↔ Cov B x) : A = B := by
  have h1 := sep_sub hA hB pA pB h
  have h2 := sep_sub hB hA pB pA (fun x => (h x).symm)
  have := srt_eq (sep_srt hA pA) (sep_srt hB pB) fun y => by
    simp only [List.mem_map]
    constructor
    · rintro ⟨p, hp, rfl⟩; exact ⟨p, h1 p hp, rfl⟩
    · rintro ⟨p, hp, rfl⟩; exact ⟨p, h2 p hp, rfl⟩
  have := congrArg (List.map (·.1)) this
  simpa [List.map_map, Function.comp_def] using this
/-- Within another one of these? -/
def Inner (R : List Kv) (i : Nat) : Prop := ∃ (k : Nat) (x y : Kv), k ≠ i ∧ R[i]? = some x ∧ R[k]? = some y ∧ wiB x.1.1 x.1.2 y.1.1 y.1.2 = true
/-- Can it be joined with the next one? -/
def Joins2 (R : List Kv) (i : Nat) : Prop := ∃ x y : Kv, R[i]? = some x ∧ R[i + 1]? = some y ∧ 0 < x.1.2 ∧ y.1.2 = x.1.2 ∧ cmK x.1.1 x.1.2 y.1.1 y.1.2 = x.1.2 - 1
def pfs (R : List Kv) : List (Int × Int) := R.map (·.1)
/-- Where nothing is left to do the rows stand apart. -/
theorem rest_sep {R : List Kv} (hs : Srt R) (hp : AllPf (pfs R)) (hi : ∀ i, ¬ Inner R i) (hj : ∀ i, ¬ Joins2 R i) : (pfs R).Pairwise Sep := by
  have hpf : ∀ y ∈ R, PfOk y.1.1 y.1.2 := fun y hy => hp _ (List.mem_map_of_mem hy)
  have nest : ∀ {i k : Nat} (hik : i ≠ k) {x y : Kv}, R[i]? = some x → R[k]? = some y → y.1.2 ≤ x.1.2 → Eq32 y.1.2 x.1.1 y.1.1 → False := fun {i k} hik {x y} h1 h2 h3 h4 =>
    hi i ⟨k, x, y, fun e => hik e.symm, h1, h2, (wi_iff (hpf x (List.mem_of_getElem? h1)) (hpf y (List.mem_of_getElem? h2))).2 ⟨h3, h4⟩⟩
  have apartK : ∀ {i k : Nat}, i < k → ∀ {x y : Kv}, R[i]? = some x → R[k]? = some y → ∃ K, 0 ≤ K ∧ K < x.1.2 ∧ K < y.1.2 ∧ K = cmK x.1.1 x.1.2 y.1.1 y.1.2 ∧ Eq32 K x.1.1 y.1.1 ∧ sd x.1.1 K = 0 ∧ sd y.1.1 K = 1 := by
    intro i k hik x y hx hy
    have px := hpf x (List.mem_of_getElem? hx)
    have py := hpf y (List.mem_of_getElem? hy)
    have bx := px.bits; have bY := py.bits
    obtain ⟨k0, k1, k2, k3⟩ := cm_k px py
    have n1 : cmK x.1.1 x.1.2 y.1.1 y.1.2 ≠ x.1.2 := fun e => nest (by omega) hy hx (by omega) (by rw [← e]; exact k3.symm)
    have n2 : cmK x.1.1 x.1.2 y.1.1 y.1.2 ≠ y.1.2 := fun e => nest (by omega) hx hy (by omega) (by rw [← e]; exact k3)
    refine ⟨_, k0, by omega, by omega, rfl, k3, ?_⟩
    rcases Tr.sides px py n1 n2 with h | h
    · exact h
    · exfalso
      have hl := side_lt (by omega) k3.symm h.2 h.1
      have hlt : Lt2 x y := by
        have hxl := (List.getElem?_eq_some_iff.1 hx)
        have hyl := (List.getElem?_eq_some_iff.1 hy)
        have := List.pairwise_iff_getElem.1 hs i k hxl.1 hyl.1 hik
        rw [hxl.2, hyl.2] at this
        exact this
      unfold Lt2 at hlt
      omega
  unfold pfs
  rw [List.pairwise_map, List.pairwise_iff_getElem]
  intro i k hil hkl hik
  have hx : R[i]? = some R[i] := List.getElem?_eq_getElem hil
  have hy : R[k]? = some R[k] := List.getElem?_eq_getElem hkl
  generalize R[i] = x at hx ⊢
  generalize R[k] = y at hy ⊢
  obtain ⟨K, k0, k1, k2, hK, k3, k4, k5⟩ := apartK hik hx hy
  refine ⟨K, k0, k1, k2, k3, k4, k5, ?_⟩
  rintro ⟨h1, h2⟩
  have px := hpf x (List.mem_of_getElem? hx)
  have py := hpf y (List.mem_of_getElem? hy)
  have bx := px.bits
  by_cases hki : k = i + 1
  · subst hki
    exact hj i ⟨x, y, hx, hy, by omega, by omega, by omega⟩
  · obtain ⟨r, hr⟩ : ∃ r, R[i + 1]? = some r := ⟨_, List.getElem?_eq_getElem (by omega)⟩
    obtain ⟨K1, _, a1, a2, _, a3, a4, a5⟩ := apartK (show i < i + 1 by omega) hx hr
    obtain ⟨K2, _, b1, b2, _, b3, b4, b5⟩ := apartK (show i + 1 < k by omega) hr hy
    have pr := hpf r (List.mem_of_getElem? hr)
    have br := pr.bits
    have l1 := side_lt (by omega) a3 a4 a5
    have l2 := side_lt (by omega) b3 b4 b5
    have h6 := side_eq (by omega) k3 k4 k5
    have g1 := pw_pos (K + 1)
    have d1 := Int.mul_ediv_add_emod x.1.1 (pw (K + 1))
    have d2 := Int.mul_ediv_add_emod y.1.1 (pw (K + 1))
    have d3 := Int.mul_ediv_add_emod r.1.1 (pw (K + 1))
    have m1 : x.1.1 % pw (K + 1) = 0 := by rw [← h1]; exact bx.2.2
    have m2 : y.1.1 % pw (K + 1) = 0 := by rw [← h2]; exact py.bits.2.2
    have m3 := Int.emod_nonneg r.1.1 (b := pw (K + 1)) (by omega)
    have m4 := Int.emod_lt_of_pos r.1.1 (b := pw (K + 1)) (by omega)
    rw [h6] at d2
    have hE : Eq32 (K + 1) r.1.1 x.1.1 := by
      unfold Eq32
      generalize r.1.1 / pw (K + 1) = u at *
      generalize x.1.1 / pw (K + 1) = v at *
      generalize pw (K + 1) = P at *
      rcases Int.lt_trichotomy u v with h | h | h
      · have := Int.mul_le_mul_of_nonneg_left (show u + 1 ≤ v by omega) (show 0 ≤ P by omega)
        rw [Int.mul_add] at this
        omega
      · exact h
      · have := Int.mul_le_mul_of_nonneg_left (show v + 1 ≤ u by omega) (show 0 ≤ P by omega)
        rw [Int.mul_add] at this d2
        omega
    rcases Int.lt_or_le r.1.2 (K + 1) with h | h
    · exact nest (show i ≠ i + 1 by omega) hx hr (by omega) (eq_mono (by omega) (by omega) hE.symm)
    · exact nest (show i + 1 ≠ i by omega) hr hx (by omega) (by rw [h1]; exact hE)
end Go.Proofs.Ytodfimnmbfdicaa
