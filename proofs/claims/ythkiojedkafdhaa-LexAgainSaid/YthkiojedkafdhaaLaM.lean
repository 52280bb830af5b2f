/- Plain facts: a text of lines, put together out of lines' indents and words with blanks, comments and empty lines between, is cut into the same. No condition but those named. -/
import Derived.Test.YthkiojedkafdhaaLnQ
import Derived.Test.YthkiojedkafdhaaLxF
namespace Go.Proofs.Ythkiojedkafdhaa
/-- A word that stands whole. -/
def okW (w : List UInt8) : Prop := w ≠ [] ∧ ∀ b ∈ w, b ≠ 32 ∧ b ≠ 10
/-- A line's indent and words, without places. -/
abbrev Li := Nat × List (List UInt8)
def okL (x : Li) : Prop := x.2 ≠ [] ∧ (∀ w ∈ x.2, okW w) ∧ ∀ b r ws, x.2 = (b :: r) :: ws → b ≠ 33
def rowT (g : List UInt8) (ws : List (List UInt8)) : List UInt8 := ws.flatMap (· ++ g)
def rowI (g : List UInt8) (x : Li) : List UInt8 := List.replicate x.1 32 ++ rowT g x.2
/-- What stands behind a line's words. -/
def tailL (c : List UInt8) : List UInt8 := 10 :: ([32, 32, 33, 32] ++ c ++ [10, 10])
def blk (g c : List UInt8) (x : Li) : List UInt8 := rowI g x ++ tailL c
theorem nB_word : ∀ (w r : List UInt8), (∀ b ∈ w, b ≠ 32 ∧ b ≠ 10) → nB (w ++ 32 :: r) = w.length
  | [], r, _ => by rw [List.nil_append, nB_cons, if_pos (.inl rfl)]; rfl
  | b :: w, r, h => by
    have hb := h b (by simp)
    rw [List.cons_append, nB_cons, if_neg (by simp [hb.1, hb.2]), nB_word w r (fun x hx => h x (by simp [hx])), List.length_cons]
theorem nS_gap : ∀ (g r : List UInt8), (∀ b ∈ g, b = 32) → [32].isPrefixOf r = false → nS (g ++ r) = g.length
  | [], [], _, _ => rfl
  | [], b :: r, _, h => by
    rw [one_cons] at h
    rw [List.nil_append, nS_cons, if_neg (by simpa using h)]; rfl
  | b :: g, r, hg, h => by
    rw [List.cons_append, nS_cons, if_pos (hg b (by simp)), nS_gap g r (fun x hx => hg x (by simp [hx])) h, List.length_cons]
theorem rowT_cons (g w : List UInt8) (ws : List (List UInt8)) : rowT g (w :: ws) = w ++ (g ++ rowT g ws) := by simp [rowT]
theorem rowT_front {g : List UInt8} {ws : List (List UInt8)} (h : ∀ w ∈ ws, okW w) : [32].isPrefixOf (rowT g ws) = false := by
  cases ws with
  | nil => rfl
  | cons w ws =>
    obtain ⟨h1, h2⟩ := h w (by simp)
    cases w with
    | nil => exact absurd rfl h1
    | cons b r =>
      rw [rowT_cons, List.cons_append, one_cons]
      simpa using (h2 b (by simp)).1
theorem wdsR_rowT {g : List UInt8} (hg : g ≠ []) (h32 : ∀ b ∈ g, b = 32) : ∀ (ws : List (List UInt8)) (f : Nat) (c : Int), (∀ w ∈ ws, okW w) → (rowT g ws).length ≤ f → (wdsR f (rowT g ws) c).1.map (·.1) = ws
  | [], f, c, _, _ => by rw [show rowT g [] = [] from rfl, wdsR_stop (by rfl)]; rfl
  | w :: ws, f, c, h, hf => by
    obtain ⟨hw, hb⟩ := h w (by simp)
    have h' : ∀ v ∈ ws, okW v := fun v hv => h v (by simp [hv])
    rw [rowT_cons] at hf ⊢
    have e1 : ((w ++ (g ++ rowT g ws)).isEmpty || pEnd (w ++ (g ++ rowT g ws))) = false := by
      cases w with
      | nil => exact absurd rfl hw
      | cons b r =>
        have := (hb b (by simp)).2
        rw [List.cons_append]
        unfold pEnd
        rw [one_cons]
        simp [this]
    have hnB : nB (w ++ (g ++ rowT g ws)) = w.length := by
      obtain ⟨a, t, rfl⟩ := List.exists_cons_of_ne_nil hg
      rw [h32 a (by simp), List.cons_append]
      exact nB_word w _ hb
    simp only [List.length_append] at hf
    have hw1 : 1 ≤ w.length := List.length_pos_iff.2 hw
    cases f with
    | zero => omega
    | succ f =>
      unfold wdsR
      rw [if_neg (by rw [e1]; simp)]
      simp only [hnB]
      rw [List.drop_left, nS_gap g _ h32 (rowT_front h'), List.drop_left, List.take_left, List.map_cons]
      rw [wdsR_rowT hg h32 ws f _ h' (by omega)]
theorem rowI_is {g : List UInt8} {x : Li} (hg : g ≠ []) (h32 : ∀ b ∈ g, b = 32) (h : okL x) :
    (wds (rowI g x)).map (·.1) = x.2 ∧ nS (rowI g x) = x.1 ∧ bang (rowI g x) = false ∧ noNl (rowI g x) := by
  obtain ⟨h1, h2, h3⟩ := h
  have hS : nS (rowI g x) = x.1 := by
    unfold rowI
    rw [nS_gap _ _ (fun b hb => (List.mem_replicate.1 hb).2) (rowT_front h2), List.length_replicate]
  have hd : (rowI g x).drop (nS (rowI g x)) = rowT g x.2 := by
    rw [hS]
    exact List.drop_left' (by simp)
  refine ⟨?_, hS, ?_, ?_⟩
  · unfold wds
    rw [hd]
    exact wdsR_rowT hg h32 x.2 _ _ h2 (by unfold rowI; simp)
  · unfold bang
    rw [hd]
    obtain ⟨w, ws, e⟩ := List.exists_cons_of_ne_nil h1
    rw [e]
    have hw := h2 w (by rw [e]; simp)
    obtain ⟨b, r, rfl⟩ := List.exists_cons_of_ne_nil hw.1
    rw [rowT_cons, List.cons_append, one_cons]
    simpa using h3 b r ws e
  · intro b hb
    unfold rowI rowT at hb
    rcases List.mem_append.1 hb with hb | hb
    · rw [(List.mem_replicate.1 hb).2]; decide
    · obtain ⟨w, hw, hb⟩ := List.mem_flatMap.1 hb
      rcases List.mem_append.1 hb with hb | hb
      · exact ((h2 w hw).2 b hb).2
      · rw [h32 b hb]; decide
theorem lnk_blank (r : List UInt8) (n : Int) : lnk (10 :: r) n = lnk r (n + 1) := by
  have h := lineR_app [] (10 :: r) (fun b hb => by simp at hb) (.inr ⟨r, rfl⟩)
  rw [List.nil_append] at h
  rw [lnk_step, h.1, nE_cons, if_pos rfl]
  rfl
theorem lnk_note (c r : List UInt8) (n : Int) (hc : noNl c) : lnk ([32, 32, 33, 32] ++ c ++ 10 :: r) n = lnk r (n + 1) := by
  have hn : noNl ([32, 32, 33, 32] ++ c) := fun b hb => by
    rcases List.mem_append.1 hb with hb | hb
    · simp at hb; rcases hb with rfl | rfl | rfl <;> decide
    · exact hc b hb
  have h := lineR_app ([32, 32, 33, 32] ++ c) (10 :: r) hn (.inr ⟨r, rfl⟩)
  have hb : bang ([32, 32, 33, 32] ++ c) = true := by
    unfold bang
    rw [show ([32, 32, 33, 32] ++ c : List UInt8) = 32 :: 32 :: 33 :: 32 :: c from rfl]
    rw [nS_cons, if_pos rfl, nS_cons, if_pos rfl, nS_cons, if_neg (by decide)]
    rfl
  rw [if_pos hb] at h
  rw [lnk_step, h.1, nE_app _ _ hn (.inr ⟨r, rfl⟩), List.drop_left]
  rfl
theorem lnk_blk {g c : List UInt8} {x : Li} (hg : g ≠ []) (h32 : ∀ b ∈ g, b = 32) (hc : noNl c) (h : okL x) (r : List UInt8) (n : Int) :
    lnk (blk g c x ++ r) n = (n, x.1, wds (rowI g x)) :: lnk r (n + 3) := by
  obtain ⟨a1, a2, a3, a4⟩ := rowI_is hg h32 h
  have e : blk g c x ++ r = rowI g x ++ 10 :: ([32, 32, 33, 32] ++ c ++ 10 :: 10 :: r) := by simp [blk, tailL]
  have hl := lineR_app (rowI g x) (10 :: ([32, 32, 33, 32] ++ c ++ 10 :: 10 :: r)) a4 (.inr ⟨_, rfl⟩)
  rw [a3] at hl
  simp only [Bool.false_eq_true, if_false] at hl
  have hne : wds (rowI g x) ≠ [] := fun e => h.1 (by rw [← a1, e]; rfl)
  rw [e, lnk_step, hl.1, if_neg hne, nS_app _ _ (.inr ⟨_, rfl⟩), a2, nE_app _ _ a4 (.inr ⟨_, rfl⟩), List.drop_left]
  rw [show (10 :: ([32, 32, 33, 32] ++ c ++ 10 :: 10 :: r) : List UInt8).drop 1 = [32, 32, 33, 32] ++ c ++ 10 :: 10 :: r from rfl, lnk_note c _ _ hc, lnk_blank]
  rw [show n + 1 + 1 + 1 = n + 3 by omega]
  rfl
/-- What a line says, without places. -/
def bare (y : Ln) : Li := (y.2.1, y.2.2.map (·.1))
theorem lnk_again {g c : List UInt8} (hg : g ≠ []) (h32 : ∀ b ∈ g, b = 32) (hc : noNl c) : ∀ (L : List Li) (n : Int), (∀ x ∈ L, okL x) → (lnk (L.flatMap (blk g c)) n).map bare = L
  | [], n, _ => by rw [List.flatMap_nil, lnk_nil]; rfl
  | x :: L, n, h => by
    have hx := h x (by simp)
    rw [List.flatMap_cons, lnk_blk hg h32 hc hx, List.map_cons, lnk_again hg h32 hc L _ (fun y hy => h y (by simp [hy]))]
    simp only [bare, (rowI_is hg h32 hx).1]
theorem take_nB_ok : ∀ l : List UInt8, ∀ b ∈ l.take (nB l), b ≠ 32 ∧ b ≠ 10
  | [], b, h => by simp at h
  | a :: r, b, h => by
    rw [nB_cons] at h
    split at h
    · simp at h
    · rename_i hn
      rw [List.take_succ_cons] at h
      rcases List.mem_cons.1 h with rfl | h
      · exact ⟨fun e => hn (.inl e), fun e => hn (.inr e)⟩
      · exact take_nB_ok r b h
theorem wdsR_ok : ∀ (f : Nat) (l : List UInt8) (c : Int), [32].isPrefixOf l = false → ∀ w ∈ (wdsR f l c).1, okW w.1 ∧ ∀ b ∈ w.1, b ∈ l
  | 0, l, c, _, w, hw => by simp [wdsR] at hw
  | f + 1, l, c, hs, w, hw => by
    unfold wdsR at hw
    split at hw
    · simp at hw
    · rename_i h
      have hk := nB_pos (by simpa using h) hs
      have hkl := nB_le l
      simp only at hw
      rcases List.mem_cons.1 hw with rfl | hw
      · refine ⟨⟨?_, take_nB_ok l⟩, fun b hb => List.mem_of_mem_take hb⟩
        intro e
        have := congrArg List.length e
        simp only [List.length_take, List.length_nil] at this
        omega
      · obtain ⟨h1, h2⟩ := wdsR_ok f _ _ (drop_nS _) w hw
        exact ⟨h1, fun b hb => List.mem_of_mem_drop (List.mem_of_mem_drop (h2 b hb))⟩
theorem wds_ok (t : List UInt8) : ∀ w ∈ wds t, okW w.1 ∧ ∀ b ∈ w.1, b ∈ t := fun w hw => by
  obtain ⟨h1, h2⟩ := wdsR_ok _ _ _ (drop_nS t) w hw
  exact ⟨h1, fun b hb => List.mem_of_mem_drop (h2 b hb)⟩
theorem lnk_ok : ∀ (m : Nat) (l : List UInt8) (n : Int), l.length ≤ m → ∀ x ∈ lnk l n, okL (bare x) ∧ ∀ w ∈ x.2.2, ∀ b ∈ w.1, b ∈ l
  | 0, l, n, h, x, hx => by
    have : l = [] := List.length_eq_zero_iff.1 (by omega)
    subst this
    simp [lnk_nil] at hx
  | m + 1, l, n, h, x, hx => by
    cases l with
    | nil => simp [lnk_nil] at hx
    | cons b r =>
      rw [lnk_step] at hx
      have h1 := rest_len (b :: r)
      rcases List.mem_append.1 hx with hx | hx
      · split at hx
        · simp at hx
        · rename_i hne
          simp only [List.mem_singleton] at hx
          subst hx
          obtain ⟨e1, _, _⟩ := lineR_is (b :: r)
          rw [e1] at hne ⊢
          have hnl := take_nE (b :: r)
          obtain ⟨t, ht⟩ : ∃ t, (b :: r).take (nE (b :: r)) = t := ⟨_, rfl⟩
          have hsub : ∀ a ∈ t, a ∈ b :: r := fun a ha => by rw [← ht] at ha; exact List.mem_of_mem_take ha
          rw [ht] at hne hnl ⊢
          cases hb : bang t with
          | true => rw [hb] at hne; simp at hne
          | false =>
            rw [hb] at hne
            simp only [Bool.false_eq_true, if_false] at hne ⊢
            refine ⟨⟨by simpa [bare] using hne, fun w hw => ?_, fun b' r' ws e => ?_⟩, fun w hw a ha => hsub a ((wds_ok t w hw).2 a ha)⟩
            · simp only [bare, List.mem_map] at hw
              obtain ⟨v, hv, rfl⟩ := hw
              exact (wds_ok t v hv).1
            · rcases wds_ways t hnl with ⟨e0, _⟩ | ⟨b2, x2, c2, ws2, e2, e3⟩
              · exact absurd e0 hne
              · simp only [bare, e2, List.map_cons, List.cons.injEq] at e
                obtain ⟨⟨rfl, _⟩, _⟩ := e
                rw [hb] at e3
                simpa using e3.symm
      · obtain ⟨a1, a2⟩ := lnk_ok m _ _ (by simp only [List.length_cons] at h h1; omega) x hx
        exact ⟨a1, fun w hw a ha => List.mem_of_mem_drop (List.mem_of_mem_drop (a2 w hw a ha))⟩
theorem cntF : ∀ (l : List UInt8) (q : Int × Int), (∀ b ∈ l, bad b.toNat = false) → q.1 + l.count 10 ≤ 4096 → cntU pF l q = l.length
  | [], _, _, _ => rfl
  | b :: r, q, h, hq => by
    have hb := h b (by simp)
    have hq1 : ¬ 4096 < q.1 := by have : (0 : Int) ≤ ((b :: r).count 10 : Int) := by omega
                                  omega
    simp only [cntU]
    rw [if_neg (by unfold pF; simp [hb, hq1]), cntF r (stp b q) (fun x hx => h x (by simp [hx])) ?_, List.length_cons]
    rw [List.count_cons] at hq
    unfold stp
    by_cases e : b = 10
    · rw [if_pos e]; simp [e] at hq ⊢; omega
    · rw [if_neg e]; simp [e] at hq ⊢; omega
theorem cntF_of : ∀ (l : List UInt8) (q : Int × Int), cntU pF l q = l.length → ∀ b ∈ l, bad b.toNat = false
  | [], _, _, b, hb => by simp at hb
  | a :: r, q, h, b, hb => by
    simp only [cntU] at h
    split at h
    · simp at h
    · rename_i hp
      simp only [List.length_cons, Nat.add_right_cancel_iff] at h
      rcases List.mem_cons.1 hb with rfl | hb
      · unfold pF at hp; simp at hp; exact hp.2
      · exact cntF_of r _ h b hb
/-- What check hands back where nothing is wrong. -/
abbrev chk0 : Value := .tuple #[.agg #[.int .i64 0, .int .i64 0], .int .i64 0]
theorem chk_ok {l : List UInt8} (h1 : l.length ≤ 65536) (h2 : ∀ b ∈ l, bad b.toNat = false) (h3 : l.count 10 < 4096) : ChkV l = chk0 := by
  unfold ChkV
  rw [if_neg (by omega), if_pos (cntF l (1, 1) h2 (by simp; omega))]
theorem chk_of {l : List UInt8} (h : ChkV l = chk0) : l.length ≤ 65536 ∧ ∀ b ∈ l, bad b.toNat = false := by
  unfold ChkV at h
  split at h
  · simp at h
  · rename_i h1
    split at h
    · rename_i h2
      exact ⟨by omega, cntF_of l _ h2⟩
    · split at h <;> simp at h
end Go.Proofs.Ythkiojedkafdhaa
