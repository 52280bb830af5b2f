/- Plain facts: nothing wrong stands in a text put together out of another one's lines or tokens. No condition but those named. -/
import Derived.Test.YthkiojedkafdhaaLaT
namespace Go.Proofs.Ythkiojedkafdhaa
/-- What stands between two words, and what a comment says. -/
structure Put (g c : List UInt8) : Prop where
  g0 : g ≠ []
  g32 : ∀ b ∈ g, b = 32
  c0 : ∀ b ∈ c, 97 ≤ b.toNat ∧ b.toNat ≤ 122
  gl : g.length ≤ 3
  cl : c.length ≤ 20
theorem good_let {b : UInt8} (h : 97 ≤ b.toNat ∧ b.toNat ≤ 122) : bad b.toNat = false ∧ b ≠ 42 ∧ b ≠ 10 := by
  refine ⟨?_, ?_, ?_⟩
  · unfold bad
    rw [decide_eq_false (by omega), decide_eq_false (by omega)]; rfl
  · rintro rfl; revert h; decide
  · rintro rfl; revert h; decide
theorem Put.c1 {g c : List UInt8} (h : Put g c) : ∀ b ∈ c, b ≠ 42 ∧ b ≠ 10 := fun b hb => (good_let (h.c0 b hb)).2
theorem Put.c2 {g c : List UInt8} (h : Put g c) : noNl c := fun b hb => (h.c1 b hb).2
theorem count_none {l : List UInt8} (h : ∀ b ∈ l, b ≠ 10) : l.count 10 = 0 := List.count_eq_zero.2 fun hm => h 10 hm rfl
theorem blk_good {g c : List UInt8} (h : Put g c) {x : Li} (hx : ∀ w ∈ x.2, ∀ b ∈ w, bad b.toNat = false) : ∀ b ∈ blk g c x, bad b.toNat = false := by
  intro b hb
  simp only [blk, rowI, rowT, tailL, List.mem_append, List.mem_replicate, List.mem_flatMap, List.mem_cons, List.not_mem_nil, or_false] at hb
  rcases hb with (⟨_, rfl⟩ | ⟨w, hw, hb | hb⟩) | rfl | ((rfl | rfl | rfl | rfl) | hb) | rfl | rfl
  · decide
  · exact hx w hw b hb
  · rw [h.g32 b hb]; decide
  · decide
  · decide
  · decide
  · decide
  · decide
  · exact (good_let (h.c0 b hb)).1
  · decide
  · decide
theorem blk_count {g c : List UInt8} (h : Put g c) {x : Li} (hx : okL x) : (blk g c x).count 10 = 3 := by
  have h1 := count_none (rowI_is h.g0 h.g32 hx).2.2.2
  have h2 := count_none h.c2
  unfold blk tailL
  rw [List.count_append, h1, List.count_cons, List.count_append, List.count_append, h2]
  decide
theorem u_good {g c : List UInt8} (h : Put g c) {L : List Li} (hL : ∀ x ∈ L, ∀ w ∈ x.2, ∀ b ∈ w, bad b.toNat = false) : ∀ b ∈ L.flatMap (blk g c), bad b.toNat = false := fun b hb => by
  obtain ⟨x, hx, hb⟩ := List.mem_flatMap.1 hb
  exact blk_good h (hL x hx) b hb
theorem u_count {g c : List UInt8} (h : Put g c) : ∀ (L : List Li), (∀ x ∈ L, okL x) → (L.flatMap (blk g c)).count 10 = 3 * L.length
  | [], _ => rfl
  | x :: L, hL => by
    rw [List.flatMap_cons, List.count_append, blk_count h (hL x (by simp)), u_count h L (fun y hy => hL y (by simp [hy])), List.length_cons]
    omega
/-- Lines put together: nothing wrong stands there, unless it is too long. -/
theorem lines_chk {g c l : List UInt8} (h : Put g c) (hl : ChkV l = chk0) (hn : (lnk l 1).length ≤ 1000) (hu : (((lnk l 1).map bare).flatMap (blk g c)).length ≤ 65536) : ChkV (((lnk l 1).map bare).flatMap (blk g c)) = chk0 := by
  obtain ⟨_, hg⟩ := chk_of hl
  have hok := lnk_ok l.length l 1 (Nat.le_refl _)
  refine chk_ok hu (u_good h fun x hx w hw b hb => ?_) ?_
  · obtain ⟨y, hy, rfl⟩ := List.mem_map.1 hx
    obtain ⟨v, hv, rfl⟩ := List.mem_map.1 hw
    exact hg b ((hok y hy).2 v hv b hb)
  · rw [u_count h _ (fun x hx => by obtain ⟨y, hy, rfl⟩ := List.mem_map.1 hx; exact (hok y hy).1), List.length_map]
    omega
theorem lines_same {g c l : List UInt8} (h : Put g c) : (lnk (((lnk l 1).map bare).flatMap (blk g c)) 1).map bare = (lnk l 1).map bare :=
  lnk_again h.g0 h.g32 h.c2 _ _ fun x hx => by obtain ⟨y, hy, rfl⟩ := List.mem_map.1 hx; exact (lnk_ok l.length l 1 (Nat.le_refl _) y hy).1
theorem word_good {t : Tk} (hx : ∀ b ∈ t.2, bad b.toNat = false) : ∀ b ∈ wordT t, bad b.toNat = false := by
  intro b hb
  unfold wordT at hb
  split at hb
  · simp only [List.cons_append, List.mem_cons, List.mem_append, List.not_mem_nil, or_false] at hb
    rcases hb with rfl | hb | rfl
    · decide
    · exact hx b hb
    · decide
  · exact hx b hb
theorem pce_good {g c : List UInt8} (h : Put g c) {t : Tk} (hx : ∀ b ∈ t.2, bad b.toNat = false) : ∀ b ∈ pce g c t, bad b.toNat = false := by
  intro b hb
  unfold pce tailT at hb
  simp only [List.mem_append, List.mem_cons, List.not_mem_nil, or_false] at hb
  rcases hb with hb | hb | (((((rfl | rfl) | hb) | rfl | rfl) | rfl | rfl | rfl) | hb) | rfl
  · exact word_good hx b hb
  · rw [h.g32 b hb]; decide
  · decide
  · decide
  · exact (good_let (h.c0 b hb)).1
  · decide
  · decide
  · decide
  · decide
  · decide
  · exact (good_let (h.c0 b hb)).1
  · decide
theorem sgn10 : sgn ((10 : UInt8).toNat) = 0 := by decide
theorem word_count {t : Tk} (h : okT t) : (wordT t).count 10 = 0 := by
  refine count_none fun b hb => ?_
  unfold wordT at hb
  rcases h with ⟨hk, hx⟩ | ⟨a, ha, hk, hs⟩
  · rw [if_pos hk] at hb
    simp only [List.cons_append, List.mem_cons, List.mem_append, List.not_mem_nil, or_false] at hb
    rcases hb with rfl | hb | rfl
    · decide
    · exact (hx b hb).2
    · decide
  · rw [if_neg (by rw [hk]; exact sgn_not1 _), ha] at hb
    simp only [List.mem_singleton] at hb
    subst hb
    rintro rfl
    exact hs sgn10
theorem pce_count {g c : List UInt8} (h : Put g c) {t : Tk} (ht : okT t) : (pce g c t).count 10 = 1 := by
  have h1 := word_count ht
  have h2 := count_none h.c2
  have h3 : g.count 10 = 0 := count_none fun b hb => by rw [h.g32 b hb]; decide
  unfold pce tailT
  simp only [List.count_append, h1, h2, h3]
  decide
theorem v_count {g c : List UInt8} (h : Put g c) : ∀ (T : List Tk), (∀ t ∈ T, okT t) → (T.flatMap (pce g c)).count 10 = T.length
  | [], _ => rfl
  | t :: T, hT => by
    rw [List.flatMap_cons, List.count_append, pce_count h (hT t (by simp)), v_count h T (fun y hy => hT y (by simp [hy])), List.length_cons]
    omega
/-- What the tokens of a text say. -/
def tB (l : List UInt8) : List Tk := (toks l.length l (1, 1)).1.map bareT
theorem tB_ok (l : List UInt8) : ∀ t ∈ tB l, okT t ∧ ∀ b ∈ t.2, b ∈ l := fun t ht => by
  obtain ⟨y, hy, rfl⟩ := List.mem_map.1 ht
  exact toks_ok _ _ _ y hy
theorem toks_chk {g c l : List UInt8} (h : Put g c) (hl : ChkV l = chk0) (hn : (tB l).length ≤ 1000) (hu : ((tB l).flatMap (pce g c)).length ≤ 65536) : ChkV ((tB l).flatMap (pce g c)) = chk0 := by
  obtain ⟨_, hg⟩ := chk_of hl
  refine chk_ok hu (fun b hb => ?_) ?_
  · obtain ⟨t, ht, hb⟩ := List.mem_flatMap.1 hb
    exact pce_good h (fun a ha => hg a ((tB_ok l t ht).2 a ha)) b hb
  · rw [v_count h _ (fun t ht => (tB_ok l t ht).1)]
    omega
theorem toks_same {g c l : List UInt8} (h : Put g c) : tB ((tB l).flatMap (pce g c)) = tB l ∧ (toks ((tB l).flatMap (pce g c)).length ((tB l).flatMap (pce g c)) (1, 1)).2 = none :=
  tks_again h.g32 h.c1 _ (1, 1) fun t ht => (tB_ok l t ht).1
theorem flat_le {α : Type} {f : α → List UInt8} {M : Nat} : ∀ (l : List α), (∀ x ∈ l, (f x).length ≤ M) → (l.flatMap f).length ≤ l.length * M
  | [], _ => by simp
  | x :: l, h => by
    have h1 := h x (by simp)
    have h2 := flat_le l fun y hy => h y (by simp [hy])
    rw [List.flatMap_cons, List.length_append, List.length_cons, Nat.succ_mul]
    omega
theorem part_len (b : UInt8) (r : List UInt8) (q : Int × Int) : (partR (b :: r) q).text.length ≤ (b :: r).length := by
  simp only [partR]
  split
  · simp
  split
  · simp
  split
  · simp
  split
  · unfold btw; split <;> simp
  split
  · unfold btw
    split
    · simp only [if_true, List.length_take, List.length_drop]; omega
    · simp
  · simp only [List.length_take]; omega
theorem toks_tl : ∀ (f : Nat) (l : List UInt8) (q : Int × Int), ∀ t ∈ (toks f l q).1, t.2.1.length ≤ l.length
  | 0, _, _, t, h => by simp [toks] at h
  | _ + 1, [], _, t, h => by simp [toks] at h
  | f + 1, b :: r, q, t, h => by
    have hlt := (part_off b r q).lt
    simp only [toks] at h
    split at h
    · simp at h
    · rcases List.mem_append.1 h with h | h
      · split at h
        · simp at h
        · simp only [List.mem_singleton] at h
          subst h
          exact part_len b r q
      · have := toks_tl f _ _ t h
        omega
theorem pce_le {g c : List UInt8} (h : Put g c) {t : Tk} {M : Nat} (ht : t.2.length ≤ M) : (pce g c t).length ≤ M + 60 := by
  have h1 := h.gl
  have h2 := h.cl
  have h3 : (wordT t).length ≤ M + 2 := by unfold wordT; split <;> (try simp) <;> omega
  simp only [pce, tailT, List.length_append, List.length_cons, List.length_nil]
  omega
end Go.Proofs.Ythkiojedkafdhaa
