/- Plain facts: a text of braces, put together out of tokens with blanks and comments between, is cut into the same. No condition but those named. -/
import Derived.Test.YthkiojedkafdhaaLaM
import Derived.Test.YthkiojedkafdhaaLxZ
namespace Go.Proofs.Ythkiojedkafdhaa
/-- A token's kind and text, without its place. -/
abbrev Tk := Int × List UInt8
def okT (t : Tk) : Prop := (t.1 = 1 ∧ ∀ b ∈ t.2, b ≠ 34 ∧ b ≠ 10) ∨ ∃ b : UInt8, t.2 = [b] ∧ t.1 = sgn b.toNat ∧ sgn b.toNat ≠ 0
def wordT (t : Tk) : List UInt8 := if t.1 = 1 then 34 :: t.2 ++ [34] else t.2
/-- What stands behind a token. -/
def tailT (g c : List UInt8) : List UInt8 := g ++ ([47, 42] ++ c ++ [42, 47] ++ [32, 35, 32] ++ c ++ [10])
def pce (g c : List UInt8) (t : Tk) : List UInt8 := wordT t ++ tailT g c
theorem sgn_not1 (C : Int) : sgn C ≠ 1 := by
  rcases sgn_ways C with ⟨_, h⟩ | ⟨_, h⟩ | ⟨_, h⟩ | ⟨_, h⟩ | ⟨_, h⟩ | ⟨_, _, _, _, _, h⟩ <;> rw [h] <;> decide
/-- The tokens of what is left, from a place on. -/
def tks (l : List UInt8) (q : Int × Int) : List (Int × List UInt8 × (Int × Int)) × Option (Int × Int) := toks l.length l q
theorem tks_step {b : UInt8} {r : List UInt8} {q : Int × Int} {x : PartR} (hx : partR (b :: r) q = x) (h : x.ok = true) :
    tks (b :: r) q = ((if x.kind = 0 then [] else [(x.kind, x.text, q)]) ++ (tks x.rest x.at').1, (tks x.rest x.at').2) := by
  subst hx
  have hlt := (part_off b r q).lt
  unfold tks
  conv => lhs; rw [List.length_cons]
  simp only [toks]
  rw [if_neg (by rw [h]; simp), toks_fuel r.length (partR (b :: r) q).rest.length _ _ (by simp only [List.length_cons] at hlt; omega) (Nat.le_refl _)]
theorem tks_blank {b : UInt8} (hb : b = 32 ∨ b = 10) (r : List UInt8) (q : Int × Int) : tks (b :: r) q = tks r (stp b q) := by
  have hp : partR (b :: r) q = ⟨0, [], true, r, stp b q⟩ := by
    simp only [partR]
    rw [if_neg (sgn_none (by rcases hb with h | h <;> simp [h])), if_pos (by rw [pBlank_cons]; rcases hb with h | h <;> simp [h])]
  rw [tks_step hp rfl]
  simp
theorem tks_gap : ∀ (g r : List UInt8) (q : Int × Int), (∀ b ∈ g, b = 32) → ∃ q', tks (g ++ r) q = tks r q'
  | [], r, q, _ => ⟨q, rfl⟩
  | b :: g, r, q, h => by
    obtain ⟨q', e⟩ := tks_gap g r (stp b q) (fun x hx => h x (by simp [hx]))
    exact ⟨q', by rw [List.cons_append, tks_blank (.inl (h b (by simp))), e]⟩
theorem tks_sign {b : UInt8} (hb : sgn b.toNat ≠ 0) (r : List UInt8) (q : Int × Int) : tks (b :: r) q = ((sgn b.toNat, [b], q) :: (tks r (stp b q)).1, (tks r (stp b q)).2) := by
  have hp : partR (b :: r) q = ⟨sgn b.toNat, [b], true, r, stp b q⟩ := by
    simp only [partR]
    rw [if_pos hb]
  rw [tks_step hp rfl]
  simp only
  rw [if_neg hb]
  rfl
theorem cnt_at (p : List UInt8 → Int → Bool) : ∀ (x r : List UInt8) (q : Int × Int), (∀ b ∈ x, ∀ t n, p (b :: t) n = false) → (r = [] ∨ ∀ n, p r n = true) → cntU p (x ++ r) q = x.length
  | [], [], _, _, _ => rfl
  | [], b :: r, q, _, h => by
    have h := h.resolve_left (by simp)
    rw [List.nil_append]
    simp only [cntU]
    rw [if_pos (h _)]
    rfl
  | b :: x, r, q, hx, h => by
    rw [List.cons_append]
    simp only [cntU]
    rw [if_neg (by rw [hx b (by simp)]; simp), cnt_at p x r _ (fun y hy => hx y (by simp [hy])) h, List.length_cons]
theorem tks_word (x r : List UInt8) (q : Int × Int) (hx : ∀ b ∈ x, b ≠ 34 ∧ b ≠ 10) : ∃ q', tks (34 :: (x ++ 34 :: r)) q = ((1, x, q) :: (tks r q').1, (tks r q').2) := by
  have hc : cntU pQuo (x ++ 34 :: r) (adv [34] q) = x.length := cnt_at pQuo x _ _ (fun b hb t n => by
    unfold pQuo pEnd
    rw [one_cons, one_cons]
    simp [hx b hb]) (.inr fun n => by unfold pQuo; rw [one_cons]; rfl)
  have hp : partR (34 :: (x ++ 34 :: r)) q = ⟨1, x, true, r, adv [34] (adv x (adv [34] q))⟩ := by
    simp only [partR]
    rw [if_neg (sgn_none (by simp)), if_neg (by rw [pBlank_cons]; decide), if_neg (by rw [one_cons]; decide), if_neg (by simp [List.isPrefixOf]), if_pos (by rw [one_cons]; rfl)]
    rw [show (34 :: (x ++ 34 :: r) : List UInt8).drop 1 = x ++ 34 :: r from rfl, hc]
    unfold btw
    rw [List.drop_left, if_pos (by rw [one_cons]; rfl), List.take_left]
    rfl
  exact ⟨_, by rw [tks_step hp rfl]; rfl⟩
theorem tks_com (c r : List UInt8) (q : Int × Int) (hc : ∀ b ∈ c, b ≠ 42) : ∃ q', tks ([47, 42] ++ c ++ [42, 47] ++ r) q = tks r q' := by
  have e : ([47, 42] ++ c ++ [42, 47] ++ r : List UInt8) = 47 :: (42 :: (c ++ 42 :: 47 :: r)) := by simp
  rw [e]
  have hn : cntU pCom (c ++ 42 :: 47 :: r) (adv [47, 42] q) = c.length := cnt_at pCom c _ _ (fun b hb t n => by
    unfold pCom
    have := hc b hb
    simp [List.isPrefixOf, Ne.symm this]) (.inr fun n => by unfold pCom; simp [List.isPrefixOf])
  have hp : ∃ q', partR (47 :: (42 :: (c ++ 42 :: 47 :: r))) q = ⟨0, [], true, r, q'⟩ := by
    refine ⟨adv [42, 47] (adv c (adv [47, 42] q)), ?_⟩
    simp only [partR]
    rw [if_neg (sgn_none (by simp)), if_neg (by rw [pBlank_cons]; decide), if_neg (by rw [one_cons]; decide), if_pos (by simp [List.isPrefixOf])]
    rw [show (47 :: (42 :: (c ++ 42 :: 47 :: r)) : List UInt8).drop 2 = c ++ 42 :: 47 :: r from rfl, hn]
    unfold btw
    rw [List.drop_left, if_pos (by simp [List.isPrefixOf]), List.take_left]
    rfl
  obtain ⟨q', hp⟩ := hp
  exact ⟨q', by rw [tks_step hp rfl]; simp⟩
theorem tks_note (c r : List UInt8) (q : Int × Int) (hc : noNl c) : ∃ q', tks (35 :: (c ++ 10 :: r)) q = tks r q' := by
  have hn : cntU (fun l _ => pEnd l) (35 :: (c ++ 10 :: r)) q = c.length + 1 := by
    have := cnt_at (fun l _ => pEnd l) (35 :: c) (10 :: r) q (fun b hb t n => by
      unfold pEnd
      rw [one_cons]
      rcases List.mem_cons.1 hb with rfl | hb
      · rfl
      · simpa using hc b hb) (.inr fun n => by unfold pEnd; rw [one_cons]; rfl)
    rwa [List.cons_append, List.length_cons] at this
  have hp : ∃ q', partR (35 :: (c ++ 10 :: r)) q = ⟨0, [], true, 10 :: r, q'⟩ := by
    simp only [partR]
    rw [if_neg (sgn_none (by simp)), if_neg (by rw [pBlank_cons]; decide), if_pos (by rw [one_cons]; rfl), hn]
    rw [List.drop_succ_cons, List.drop_left]
    exact ⟨_, rfl⟩
  obtain ⟨q', hp⟩ := hp
  refine ⟨stp 10 q', ?_⟩
  rw [tks_step hp rfl]
  simp only [if_true, List.nil_append]
  rw [tks_blank (.inr rfl)]
theorem tks_tail {g c : List UInt8} (h32 : ∀ b ∈ g, b = 32) (hc : ∀ b ∈ c, b ≠ 42 ∧ b ≠ 10) (r : List UInt8) (q : Int × Int) : ∃ q', tks (tailT g c ++ r) q = tks r q' := by
  have e : tailT g c ++ r = g ++ ([47, 42] ++ c ++ [42, 47] ++ (32 :: (35 :: ((32 :: c) ++ 10 :: r)))) := by simp [tailT]
  rw [e]
  obtain ⟨q1, e1⟩ := tks_gap g ([47, 42] ++ c ++ [42, 47] ++ (32 :: (35 :: ((32 :: c) ++ 10 :: r)))) q h32
  obtain ⟨q2, e2⟩ := tks_com c (32 :: (35 :: ((32 :: c) ++ 10 :: r))) q1 (fun b hb => (hc b hb).1)
  obtain ⟨q3, e3⟩ := tks_note (32 :: c) r (stp 32 q2) (fun b hb => by
    rcases List.mem_cons.1 hb with rfl | hb
    · decide
    · exact (hc b hb).2)
  exact ⟨q3, by rw [e1, e2, tks_blank (.inl rfl), e3]⟩
theorem tks_pce {g c : List UInt8} {t : Tk} (h32 : ∀ b ∈ g, b = 32) (hc : ∀ b ∈ c, b ≠ 42 ∧ b ≠ 10) (h : okT t) (r : List UInt8) (q : Int × Int) :
    ∃ q', tks (pce g c t ++ r) q = ((t.1, t.2, q) :: (tks r q').1, (tks r q').2) := by
  obtain ⟨k, x⟩ := t
  rcases h with ⟨hk, hx⟩ | ⟨b, hb, hk, hs⟩
  · simp only at hk hx; subst hk
    obtain ⟨q1, e1⟩ := tks_word x (tailT g c ++ r) q hx
    obtain ⟨q2, e2⟩ := tks_tail h32 hc r q1
    refine ⟨q2, ?_⟩
    have e : pce g c (1, x) ++ r = 34 :: (x ++ 34 :: (tailT g c ++ r)) := by simp [pce, wordT]
    rw [e, e1, e2]
  · simp only at hb hk; subst hb hk
    obtain ⟨q2, e2⟩ := tks_tail h32 hc r (stp b q)
    refine ⟨q2, ?_⟩
    have e : pce g c (sgn b.toNat, [b]) ++ r = b :: (tailT g c ++ r) := by simp [pce, wordT, sgn_not1]
    rw [e, tks_sign hs, e2]
/-- What a token says, without its place. -/
def bareT (t : Int × List UInt8 × (Int × Int)) : Tk := (t.1, t.2.1)
theorem tks_again {g c : List UInt8} (h32 : ∀ b ∈ g, b = 32) (hc : ∀ b ∈ c, b ≠ 42 ∧ b ≠ 10) : ∀ (T : List Tk) (q : Int × Int), (∀ t ∈ T, okT t) → (tks (T.flatMap (pce g c)) q).1.map bareT = T ∧ (tks (T.flatMap (pce g c)) q).2 = none
  | [], q, _ => ⟨rfl, rfl⟩
  | t :: T, q, h => by
    obtain ⟨q', e⟩ := tks_pce h32 hc (h t (by simp)) (T.flatMap (pce g c)) q
    obtain ⟨i1, i2⟩ := tks_again h32 hc T q' (fun y hy => h y (by simp [hy]))
    rw [List.flatMap_cons, e]
    exact ⟨by simp only [List.map_cons, i1]; rfl, i2⟩
theorem take_cnt (p : List UInt8 → Int → Bool) (P : UInt8 → Prop) (hp : ∀ b r n, p (b :: r) n = false → P b) : ∀ (l : List UInt8) (q : Int × Int), ∀ b ∈ l.take (cntU p l q), P b
  | [], _, b, h => by simp at h
  | a :: r, q, b, h => by
    simp only [cntU] at h
    split at h
    · simp at h
    · rename_i hn
      rw [List.take_succ_cons] at h
      rcases List.mem_cons.1 h with rfl | h
      · exact hp _ _ _ (Bool.eq_false_iff.2 hn)
      · exact take_cnt p P hp r _ b h
theorem part_ok (b : UInt8) (r : List UInt8) (q : Int × Int) (hk : (partR (b :: r) q).kind ≠ 0) (ho : (partR (b :: r) q).ok = true) : okT ((partR (b :: r) q).kind, (partR (b :: r) q).text) ∧ ∀ a ∈ (partR (b :: r) q).text, a ∈ b :: r := by
  simp only [partR] at hk ho ⊢
  by_cases h1 : sgn b.toNat ≠ 0
  · rw [if_pos h1] at hk ho ⊢
    exact ⟨.inr ⟨b, rfl, rfl, h1⟩, fun a ha => by simp at ha; simp [ha]⟩
  rw [if_neg h1] at hk ho ⊢
  by_cases h2 : pBlank (b :: r) = true
  · rw [if_pos h2] at hk; exact absurd rfl hk
  rw [if_neg h2] at hk ho ⊢
  by_cases h3 : [35].isPrefixOf (b :: r) = true
  · rw [if_pos h3] at hk; exact absurd rfl hk
  rw [if_neg h3] at hk ho ⊢
  by_cases h4 : [47, 42].isPrefixOf (b :: r) = true
  · rw [if_pos h4] at hk
    unfold btw at hk
    split at hk <;> exact absurd rfl hk
  rw [if_neg h4] at hk ho ⊢
  by_cases h5 : [34].isPrefixOf (b :: r) = true
  · rw [if_pos h5] at hk ho ⊢
    unfold btw at ho ⊢
    split at ho
    · rename_i h6
      rw [if_pos h6]
      refine ⟨.inl ⟨rfl, ?_⟩, fun a ha => List.mem_of_mem_drop (List.mem_of_mem_take ha)⟩
      exact take_cnt pQuo (fun a => a ≠ 34 ∧ a ≠ 10) (fun a t n h => by
        unfold pQuo pEnd at h
        rw [one_cons, one_cons] at h
        simpa using h) _ _
    · cases ho
  rw [if_neg h5]
  refine ⟨.inl ⟨rfl, ?_⟩, fun a ha => List.mem_of_mem_take ha⟩
  exact take_cnt (fun l _ => pWord l) (fun a => a ≠ 34 ∧ a ≠ 10) (fun a t n h => by
    rw [pWord_cons] at h
    simp only [Bool.or_eq_false_iff, beq_eq_false_iff_ne] at h
    exact ⟨h.1.1.2, h.1.1.1.1.2⟩) _ _
theorem toks_ok : ∀ (f : Nat) (l : List UInt8) (q : Int × Int), ∀ t ∈ (toks f l q).1, okT (bareT t) ∧ ∀ b ∈ t.2.1, b ∈ l
  | 0, _, _, t, h => by simp [toks] at h
  | _ + 1, [], _, t, h => by simp [toks] at h
  | f + 1, b :: r, q, t, h => by
    simp only [toks] at h
    split at h
    · simp at h
    · rename_i ho
      have ho : (partR (b :: r) q).ok = true := by simpa using ho
      rcases List.mem_append.1 h with h | h
      · split at h
        · simp at h
        · rename_i hk
          simp only [List.mem_singleton] at h
          subst h
          exact part_ok b r q hk ho
      · obtain ⟨n, _, _, n3, _⟩ := part_off b r q
        obtain ⟨i1, i2⟩ := toks_ok f _ _ t h
        exact ⟨i1, fun a ha => by have := i2 a ha; rw [n3] at this; exact List.mem_of_mem_drop this⟩
end Go.Proofs.Ythkiojedkafdhaa
