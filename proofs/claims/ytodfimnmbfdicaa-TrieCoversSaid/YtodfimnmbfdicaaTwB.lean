/- The reference's Cover, pass by pass, as math. No condition but that the prefixes may be. -/
import Derived.Test.YtodfimnmbfdicaaTwA
namespace Go.Proofs.Ytodfimnmbfdicaa
open Go.RowKit Go.Shelf
theorem pfs_get {R : List Kv} {i : Nat} {y : Kv} (h : R[i]? = some y) : y.1 ∈ pfs R := List.mem_map_of_mem (List.mem_of_getElem? h)
theorem pfs_app (N : List Kv) (y : Kv) : pfs (N ++ [y]) = pfs N ++ [y.1] := by simp [pfs]
theorem cov_app (L : List (Int × Int)) (p : Int × Int) (x : Int) : Cov (L ++ [p]) x ↔ Cov L x ∨ Eq32 p.2 x p.1 := by
  unfold Cov
  constructor
  · rintro ⟨q, hq, e⟩
    rcases List.mem_append.1 hq with h | h
    · exact .inl ⟨q, h, e⟩
    · rcases List.mem_singleton.1 h with rfl; exact .inr e
  · rintro (⟨q, hq, e⟩ | e)
    · exact ⟨q, by simp [hq], e⟩
    · exact ⟨p, by simp, e⟩
/-- The greatest of those that hold an address is in no other one. -/
theorem least_in {R : List Kv} (hs : Srt R) (hp : AllPf (pfs R)) (x : Int) : ∀ (d : Nat) (m : Nat) (y : Kv), y.1.2.toNat ≤ d → R[m]? = some y → Eq32 y.1.2 x y.1.1 → ∃ m y, R[m]? = some y ∧ Eq32 y.1.2 x y.1.1 ∧ ¬ Inner R m := by
  intro d
  induction d with
  | zero =>
    intro m y hd hy he
    refine ⟨m, y, hy, he, ?_⟩
    rintro ⟨k, u, z, hk, h1, h2, h3⟩
    rw [hy] at h1
    cases h1
    have py := hp _ (pfs_get hy)
    have pz := hp _ (pfs_get h2)
    have b1 := py.bits; have b2 := pz.bits
    obtain ⟨g1, g2⟩ := (wi_iff py pz).1 h3
    have : z.1.2 = y.1.2 := by omega
    rw [this] at g2 pz
    have e : y.1 = z.1 := Prod.ext (pf_eq py pz g2) this.symm
    have hyl := List.getElem?_eq_some_iff.1 hy
    have hzl := List.getElem?_eq_some_iff.1 h2
    rcases Nat.lt_or_gt_of_ne hk with h | h
    · have := List.pairwise_iff_getElem.1 hs k m hzl.1 hyl.1 h
      rw [hzl.2, hyl.2] at this
      exact this.ne e.symm
    · have := List.pairwise_iff_getElem.1 hs m k hyl.1 hzl.1 h
      rw [hzl.2, hyl.2] at this
      exact this.ne e
  | succ d ih =>
    intro m y hd hy he
    by_cases hin : Inner R m
    · obtain ⟨k, u, z, hk, h1, h2, h3⟩ := hin
      rw [hy] at h1
      cases h1
      have py := hp _ (pfs_get hy)
      have pz := hp _ (pfs_get h2)
      have b1 := py.bits; have b2 := pz.bits
      obtain ⟨g1, g2⟩ := (wi_iff py pz).1 h3
      have hex : Eq32 z.1.2 x z.1.1 := (eq_mono g1 b1.2.1 he).trans g2
      rcases Int.lt_or_le z.1.2 y.1.2 with h | h
      · exact ih k z (by omega) h2 hex
      · exfalso
        have : z.1.2 = y.1.2 := by omega
        rw [this] at g2 pz
        have e : y.1 = z.1 := Prod.ext (pf_eq py pz g2) this.symm
        have hyl := List.getElem?_eq_some_iff.1 hy
        have hzl := List.getElem?_eq_some_iff.1 h2
        rcases Nat.lt_or_gt_of_ne hk with h | h
        · have := List.pairwise_iff_getElem.1 hs k m hzl.1 hyl.1 h
          rw [hzl.2, hyl.2] at this
          exact this.ne e.symm
        · have := List.pairwise_iff_getElem.1 hs m k hyl.1 hzl.1 h
          rw [hzl.2, hyl.2] at this
          exact this.ne e
    · exact ⟨m, y, hy, he, hin⟩
/-- How far a pass has come. -/
structure PassI (R : List Kv) (i : Nat) (N : List Kv) (tn : Bool) : Prop where
  pf : AllPf (pfs N)
  snd : ∀ x, Cov (pfs N) x → Cov (pfs R) x
  cmp : ∀ m y, m < i → R[m]? = some y → ¬ Inner R m → ∃ p ∈ pfs N, p.2 ≤ y.1.2 ∧ Eq32 p.2 y.1.1 p.1
  still : tn = false → N = R.take i ∧ ∀ m, m < i → ¬ Inner R m ∧ ¬ Joins2 R m
  len : N.length + tn.toNat ≤ i
theorem PassI.zero (R : List Kv) : PassI R 0 [] false := ⟨fun p h => (by cases h), fun x ⟨p, h, _⟩ => (by cases h), fun m y h => by omega, fun _ => ⟨rfl, fun m h => by omega⟩, Nat.le_refl _⟩
section
variable {R N : List Kv} {i : Nat} {tn : Bool}
theorem PassI.skip (h : PassI R i N tn) (hin : Inner R i) : PassI R (i + 1) N true :=
  ⟨h.pf, h.snd, fun m y hm hy hn => by
    rcases Nat.lt_succ_iff_lt_or_eq.1 hm with h2 | rfl
    · exact h.cmp m y h2 hy hn
    · exact absurd hin hn, fun e => (by cases e), by have := h.len; cases tn <;> simp at * <;> omega⟩
theorem PassI.keep (h : PassI R i N tn) {y : Kv} (hp : AllPf (pfs R)) (hy : R[i]? = some y) (hin : ¬ Inner R i) (hj : ¬ Joins2 R i) : PassI R (i + 1) (N ++ [y]) tn := by
  have py := hp _ (pfs_get hy)
  refine ⟨fun p hpp => ?_, fun x hx => ?_, fun m z hm hz hn => ?_, fun e => ?_, by have := h.len; simp only [List.length_append, List.length_singleton]; omega⟩
  · rw [pfs_app] at hpp
    rcases List.mem_append.1 hpp with h2 | h2
    · exact h.pf p h2
    · rcases List.mem_singleton.1 h2 with rfl; exact py
  · rw [pfs_app, cov_app] at hx
    rcases hx with hx | hx
    · exact h.snd x hx
    · exact ⟨y.1, pfs_get hy, hx⟩
  · rw [pfs_app]
    rcases Nat.lt_succ_iff_lt_or_eq.1 hm with h2 | rfl
    · obtain ⟨p, h3, h4⟩ := h.cmp m z h2 hz hn
      exact ⟨p, by simp [h3], h4⟩
    · rw [hy] at hz; cases hz
      exact ⟨y.1, by simp, Int.le_refl _, Eq32.refl _ _⟩
  · obtain ⟨h1, h2⟩ := h.still e
    refine ⟨by rw [h1, List.take_add_one, hy]; rfl, fun m hm => ?_⟩
    rcases Nat.lt_succ_iff_lt_or_eq.1 hm with h3 | rfl
    · exact h2 m h3
    · exact ⟨hin, hj⟩
theorem join_ok {x y : Kv} (px : PfOk x.1.1 x.1.2) (py : PfOk y.1.1 y.1.2) (h0 : 0 < x.1.2) (he : y.1.2 = x.1.2) (hk : cmK x.1.1 x.1.2 y.1.1 y.1.2 = x.1.2 - 1) :
    PfOk (x.1.1 / pw (x.1.2 - 1) * pw (x.1.2 - 1)) (x.1.2 - 1) ∧ (∀ u, Eq32 (x.1.2 - 1) u (x.1.1 / pw (x.1.2 - 1) * pw (x.1.2 - 1)) ↔ Eq32 x.1.2 u x.1.1 ∨ Eq32 x.1.2 u y.1.1) := by
  have bx := px.bits
  have hc := cut_eq x.1.1 (x.1.2 - 1)
  obtain ⟨_, _, _, k3⟩ := cm_k px py
  have hs := Tr.sides px py (by omega) (by omega)
  rw [hk] at k3 hs
  refine ⟨cut_ok px.1 px.2.1 (by omega) (by omega), fun u => ?_⟩
  have e1 : x.1.2 = (x.1.2 - 1) + 1 := by omega
  constructor
  · intro hu
    have hu2 : Eq32 (x.1.2 - 1) u x.1.1 := hu.trans hc
    rw [e1]
    rcases sd_two u (x.1.2 - 1) with h | h <;> rcases hs with ⟨s1, s2⟩ | ⟨s1, s2⟩
    · exact .inl ((eq_succ (by omega)).2 ⟨by simpa using hu2, by simp at *; omega⟩)
    · exact .inr ((eq_succ (by omega)).2 ⟨by simpa using hu2.trans k3, by simp at *; omega⟩)
    · exact .inr ((eq_succ (by omega)).2 ⟨by simpa using hu2.trans k3, by simp at *; omega⟩)
    · exact .inl ((eq_succ (by omega)).2 ⟨by simpa using hu2, by simp at *; omega⟩)
  · rintro (hu | hu)
    · exact (eq_mono (by omega) (by omega) hu).trans hc.symm
    · exact ((eq_mono (by omega) (by omega) hu).trans k3.symm).trans hc.symm
theorem PassI.join (h : PassI R i N tn) {x y : Kv} (hp : AllPf (pfs R)) (hx : R[i]? = some x) (hy : R[i + 1]? = some y) (h0 : 0 < x.1.2) (he : y.1.2 = x.1.2) (hk : cmK x.1.1 x.1.2 y.1.1 y.1.2 = x.1.2 - 1) :
    PassI R (i + 2) (N ++ [((x.1.1 / pw (x.1.2 - 1) * pw (x.1.2 - 1), x.1.2 - 1), 0)]) true := by
  have px := hp _ (pfs_get hx)
  have py := hp _ (pfs_get hy)
  have bx := px.bits
  obtain ⟨j1, j2⟩ := join_ok px py h0 he hk
  refine ⟨fun p hpp => ?_, fun u hu => ?_, fun m z hm hz hn => ?_, fun e => (by cases e), by have := h.len; simp only [List.length_append, List.length_singleton, Bool.toNat_true]; omega⟩
  · rw [pfs_app] at hpp
    rcases List.mem_append.1 hpp with h2 | h2
    · exact h.pf p h2
    · rcases List.mem_singleton.1 h2 with rfl; exact j1
  · rw [pfs_app, cov_app] at hu
    rcases hu with hu | hu
    · exact h.snd u hu
    · rcases (j2 u).1 hu with h3 | h3
      · exact ⟨x.1, pfs_get hx, h3⟩
      · exact ⟨y.1, pfs_get hy, by rw [he]; exact h3⟩
  · rw [pfs_app]
    rcases Nat.lt_or_ge m i with h2 | h2
    · obtain ⟨p, h3, h4⟩ := h.cmp m z h2 hz hn
      exact ⟨p, by simp [h3], h4⟩
    · refine ⟨_, List.mem_append_right _ (List.mem_singleton.2 rfl), ?_⟩
      simp only
      rcases Nat.lt_or_eq_of_le h2 with h3 | rfl
      · obtain rfl : m = i + 1 := by omega
        rw [hy] at hz; cases hz
        exact ⟨by omega, (j2 _).2 (.inr (Eq32.refl _ _))⟩
      · rw [hx] at hz; cases hz
        exact ⟨by omega, (j2 _).2 (.inl (Eq32.refl _ _))⟩
theorem PassI.cov (h : PassI R R.length N tn) (hs : Srt R) (hp : AllPf (pfs R)) (x : Int) : Cov (pfs N) x ↔ Cov (pfs R) x := by
  refine ⟨h.snd x, ?_⟩
  rintro ⟨p, hm, he⟩
  unfold pfs at hm
  obtain ⟨y, hy, rfl⟩ := List.mem_map.1 hm
  obtain ⟨m, hml, hme⟩ := List.getElem_of_mem hy
  obtain ⟨m2, z, hz, hez, hn⟩ := least_in hs hp x _ m y (Nat.le_refl _) (by rw [List.getElem?_eq_getElem hml, hme]) he
  have hzl := (List.getElem?_eq_some_iff.1 hz).1
  obtain ⟨q, h1, h2, h3⟩ := h.cmp m2 z hzl hz hn
  exact ⟨q, h1, (eq_mono h2 (hp _ (pfs_get hz)).bits.2.1 hez).trans h3⟩
theorem PassI.rest (h : PassI R R.length N false) : N = R ∧ (∀ i, ¬ Inner R i) ∧ ∀ i, ¬ Joins2 R i := by
  obtain ⟨h1, h2⟩ := h.still rfl
  refine ⟨by rw [h1, List.take_length], fun i hi => ?_, fun i hi => ?_⟩
  · have : i < R.length := by
      obtain ⟨k, x, y, _, h3, _⟩ := hi
      exact (List.getElem?_eq_some_iff.1 h3).1
    exact (h2 i this).1 hi
  · have : i < R.length := by
      obtain ⟨x, y, h3, _⟩ := hi
      exact (List.getElem?_eq_some_iff.1 h3).1
    exact (h2 i this).2 hi
end
/-- All of a list, put into a table of rows. -/
def putAll (L : List (Int × Int)) : List Kv := L.foldl (fun R p => putC p 0 R) []
theorem putAll_step {L : List (Int × Int)} {j : Nat} {p : Int × Int} (h : L[j]? = some p) : putAll (L.take (j + 1)) = putC p 0 (putAll (L.take j)) := by
  rw [List.take_add_one, h]
  simp [putAll]
theorem putAll_ok (L : List (Int × Int)) (hrg : ∀ p ∈ L, 0 ≤ p.1 ∧ p.1 < 4294967296) : Srt (putAll L) ∧ AllPf (pfs (putAll L)) ∧ (putAll L).length ≤ L.length ∧ ∀ p, p ∈ pfs (putAll L) ↔ p ∈ L ∧ ck p.1 p.2 = 0 := by
  have key : ∀ (L : List (Int × Int)) (R : List Kv), (∀ p ∈ L, 0 ≤ p.1 ∧ p.1 < 4294967296) → Srt R → AllPf (pfs R) →
      Srt (L.foldl (fun R p => putC p 0 R) R) ∧ AllPf (pfs (L.foldl (fun R p => putC p 0 R) R)) ∧ (L.foldl (fun R p => putC p 0 R) R).length ≤ R.length + L.length ∧ ∀ p, p ∈ pfs (L.foldl (fun R p => putC p 0 R) R) ↔ p ∈ pfs R ∨ (p ∈ L ∧ ck p.1 p.2 = 0) := by
    intro L
    induction L with
    | nil => intro R _ h1 h2; exact ⟨h1, h2, by simp, fun p => by simp⟩
    | cons q L ih =>
      intro R hr h1 h2
      have hq := hr q (List.mem_cons_self ..)
      have hstep : Srt (putC q 0 R) ∧ AllPf (pfs (putC q 0 R)) ∧ (putC q 0 R).length ≤ R.length + 1 ∧ ∀ p, p ∈ pfs (putC q 0 R) ↔ p ∈ pfs R ∨ (p = q ∧ ck p.1 p.2 = 0) := by
        refine ⟨?_, ?_, putC_len _ _ _, ?_⟩
        · unfold putC; split
          · rw [putF_ins h1]; exact srt_ins h1
          · exact h1
        · unfold putC; split
          · rename_i hk
            rw [putF_ins h1]
            intro p hp
            unfold pfs at hp
            obtain ⟨y, hy, rfl⟩ := List.mem_map.1 hp
            rcases (mem_ins h1 y).1 hy with e | ⟨_, e⟩
            · rw [e]; exact ⟨hq.1, hq.2, hk⟩
            · exact h2 _ (List.mem_map_of_mem e)
          · exact h2
        · intro p
          unfold putC
          split
          · rename_i hk
            rw [putF_ins h1]
            unfold pfs
            simp only [List.mem_map]
            constructor
            · rintro ⟨y, hy, rfl⟩
              rcases (mem_ins h1 y).1 hy with e | ⟨_, e⟩
              · exact .inr ⟨by rw [e], by rw [e]; exact hk⟩
              · exact .inl ⟨y, e, rfl⟩
            · rintro (⟨y, hy, rfl⟩ | ⟨rfl, _⟩)
              · by_cases e : y.1 = q
                · exact ⟨(q, 0), (mem_ins h1 _).2 (.inl rfl), e.symm⟩
                · exact ⟨y, (mem_ins h1 y).2 (.inr ⟨e, hy⟩), rfl⟩
              · exact ⟨(p, 0), (mem_ins h1 _).2 (.inl rfl), rfl⟩
          · rename_i hk
            constructor
            · exact fun h => .inl h
            · rintro (h | ⟨rfl, h⟩)
              · exact h
              · exact absurd h hk
      obtain ⟨s1, s2, s3, s4⟩ := hstep
      obtain ⟨i1, i2, i3, i4⟩ := ih (putC q 0 R) (fun p hp => hr p (List.mem_cons_of_mem _ hp)) s1 s2
      refine ⟨i1, i2, by simp only [List.foldl_cons, List.length_cons]; omega, fun p => ?_⟩
      rw [List.foldl_cons, i4, s4]
      constructor
      · rintro ((h | ⟨rfl, h⟩) | ⟨h, h3⟩)
        · exact .inl h
        · exact .inr ⟨List.mem_cons_self .., h⟩
        · exact .inr ⟨List.mem_cons_of_mem _ h, h3⟩
      · rintro (h | ⟨h, h3⟩)
        · exact .inl (.inl h)
        · rcases List.mem_cons.1 h with rfl | h
          · exact .inl (.inr ⟨rfl, h3⟩)
          · exact .inr ⟨h, h3⟩
  obtain ⟨h1, h2, h3, h4⟩ := key L [] hrg List.Pairwise.nil (fun p h => by cases h)
  exact ⟨h1, h2, by simpa [putAll] using h3, fun p => by rw [show putAll L = L.foldl (fun R p => putC p 0 R) [] from rfl, h4]; simp [pfs]⟩
theorem cov_same {A B : List (Int × Int)} (h : ∀ p, p ∈ A ↔ p ∈ B) (x : Int) : Cov A x ↔ Cov B x := by
  unfold Cov
  constructor
  · rintro ⟨p, hp, e⟩; exact ⟨p, (h p).1 hp, e⟩
  · rintro ⟨p, hp, e⟩; exact ⟨p, (h p).2 hp, e⟩
theorem allpf_rg {L : List (Int × Int)} (h : AllPf L) : ∀ p ∈ L, 0 ≤ p.1 ∧ p.1 < 4294967296 := fun p hp => ⟨(h p hp).1, (h p hp).2.1⟩
theorem putAll_cov {L : List (Int × Int)} (h : AllPf L) (x : Int) : Cov (pfs (putAll L)) x ↔ Cov L x :=
  cov_same (fun p => by rw [(putAll_ok L (allpf_rg h)).2.2.2]; exact ⟨fun h => h.1, fun hp => ⟨hp, (h p hp).2.2⟩⟩) x
theorem cover_one_list {l : List (Int × Int)} (hrg : ∀ x ∈ l, 0 ≤ x.1 ∧ x.1 < 4294967296) {R : List Kv} (hs : Srt R) (hp : AllPf (pfs R)) (hi : ∀ i, ¬ Inner R i) (hj : ∀ i, ¬ Joins2 R i) (hc : ∀ x, Cov (pfs R) x ↔ Cov (pfs (putAll l)) x) : pfs R = Tr.cover (build l) := by
  have hok := build_ok hrg
  refine sep_eq (rest_sep hs hp hi hj) (Tr.cover_sep hok) hp (fun p h => (Tr.cover_all hok (all_reg0 hok) p h).1) fun x => ?_
  rw [hc]
  refine Iff.trans ?_ (Tr.cover_cov hok).symm
  unfold Cov
  constructor
  · rintro ⟨⟨b, m⟩, h1, h2⟩
    obtain ⟨v, hv⟩ := (build_has hrg b m).2 (((putAll_ok l hrg).2.2.2 _).1 h1)
    exact ⟨b, m, v, hv, h2⟩
  · rintro ⟨b, m, v, hv, h2⟩
    exact ⟨(b, m), ((putAll_ok l hrg).2.2.2 _).2 ((build_has hrg b m).1 ⟨v, hv⟩), h2⟩
end Go.Proofs.Ytodfimnmbfdicaa
