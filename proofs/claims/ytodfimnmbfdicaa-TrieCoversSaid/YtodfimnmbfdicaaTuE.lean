/- The rows of a tree are in order; what the reference's calls make of them is what the trees' own do, as math. No condition but that the trees are trees of prefixes. -/
import Derived.Test.YtodfimnmbfdicaaTuD
import Derived.Test.YtodfimnmbfdicaaTqB
import Derived.Test.YtodfimnmbfdicaaTpX
namespace Go.Proofs.Ytodfimnmbfdicaa
open Go.RowKit Go.Shelf
def Lt2 (y z : Kv) : Prop := y.1.1 < z.1.1 ∨ (y.1.1 = z.1.1 ∧ y.1.2 < z.1.2)
theorem Lt2.trans {x y z : Kv} (h : Lt2 x y) (k : Lt2 y z) : Lt2 x z := by unfold Lt2 at *; omega
theorem Lt2.irrefl {x y : Kv} (h : Lt2 x y) (k : Lt2 y x) : False := by unfold Lt2 at *; omega
theorem Lt2.ne {x y : Kv} (h : Lt2 x y) : x.1 ≠ y.1 := fun e => by
  have h1 : x.1.1 = y.1.1 := by rw [e]
  have h2 : x.1.2 = y.1.2 := by rw [e]
  unfold Lt2 at h; omega
theorem cmp_lt {a n : Int} {v : Int} {x : Kv} : cmpI a n x.1.1 x.1.2 = -1 ↔ Lt2 ((a, n), v) x := by
  unfold cmpI Lt2
  simp only
  split
  · rename_i h; exact ⟨fun _ => h, fun _ => rfl⟩
  · rename_i h
    split
    · exact ⟨fun e => by omega, fun e => absurd e h⟩
    · exact ⟨fun e => by omega, fun e => absurd e h⟩
theorem cmp_eq {a n : Int} {x : Kv} : cmpI a n x.1.1 x.1.2 = 0 ↔ x.1 = (a, n) := by
  obtain ⟨⟨x0, x1⟩, xv⟩ := x
  unfold cmpI
  simp only [Prod.mk.injEq]
  split
  · exact ⟨fun e => by omega, fun e => by omega⟩
  · split
    · rename_i h; exact ⟨fun _ => by omega, fun _ => rfl⟩
    · exact ⟨fun e => by omega, fun e => by omega⟩
theorem cmp_gt {a n : Int} {v : Int} {x : Kv} (h : cmpI a n x.1.1 x.1.2 = 1) : Lt2 x ((a, n), v) := by
  unfold cmpI at h
  unfold Lt2
  simp only
  split at h
  · omega
  · split at h
    · omega
    · omega
abbrev Srt (R : List Kv) : Prop := R.Pairwise Lt2
theorem srt_eq : ∀ {R R' : List Kv}, Srt R → Srt R' → (∀ y, y ∈ R ↔ y ∈ R') → R = R'
  | [], [], _, _, _ => rfl
  | [], x :: _, _, _, h => by have := (h x).2 (List.mem_cons_self ..); cases this
  | x :: _, [], _, _, h => by have := (h x).1 (List.mem_cons_self ..); cases this
  | x :: R, x' :: R', h1, h2, h => by
    have g1 := List.pairwise_cons.1 h1
    have g2 := List.pairwise_cons.1 h2
    have he : x = x' := by
      rcases List.mem_cons.1 ((h x).1 (List.mem_cons_self ..)) with e | e
      · exact e
      · rcases List.mem_cons.1 ((h x').2 (List.mem_cons_self ..)) with e2 | e2
        · exact e2.symm
        · exact ((g2.1 x e).irrefl (g1.1 x' e2)).elim
    subst he
    rw [srt_eq g1.2 g2.2 fun y => ⟨fun hy => by
      rcases List.mem_cons.1 ((h y).1 (List.mem_cons_of_mem _ hy)) with e | e
      · subst e; exact ((g1.1 y hy).irrefl (g1.1 y hy)).elim
      · exact e, fun hy => by
      rcases List.mem_cons.1 ((h y).2 (List.mem_cons_of_mem _ hy)) with e | e
      · subst e; exact ((g2.1 y hy).irrefl (g2.1 y hy)).elim
      · exact e⟩]
/-- Put, in order. -/
def insR (p : Int × Int) (v : Int) : List Kv → List Kv
  | [] => [(p, v)]
  | x :: L => if cmpI p.1 p.2 x.1.1 x.1.2 = -1 then (p, v) :: x :: L else if cmpI p.1 p.2 x.1.1 x.1.2 = 0 then (p, v) :: L else x :: insR p v L
theorem fold_done (p : Int × Int) (v : Int) : ∀ (L : List Kv) (o : List Kv), (∀ x ∈ L, cmpI p.1 p.2 x.1.1 x.1.2 ≠ 0) → L.foldl (stR p v) (o, true) = (o ++ L, true)
  | [], o, _ => by simp
  | x :: L, o, h => by
    have h0 := h x (List.mem_cons_self ..)
    rw [List.foldl_cons, show stR p v (o, true) x = (o ++ [x], true) by simp [stR, h0], fold_done p v L _ fun y hy => h y (List.mem_cons_of_mem _ hy)]
    simp
theorem fold_put (p : Int × Int) (v : Int) : ∀ (L : List Kv) (o : List Kv), Srt L → (if (L.foldl (stR p v) (o, false)).2 then (L.foldl (stR p v) (o, false)).1 else (L.foldl (stR p v) (o, false)).1 ++ [(p, v)]) = o ++ insR p v L
  | [], o, _ => by simp [insR]
  | x :: L, o, h => by
    have g := List.pairwise_cons.1 h
    rw [List.foldl_cons]
    rcases cmpI_three p.1 p.2 x.1.1 x.1.2 with hc | hc | hc
    · have hr : ∀ y ∈ L, cmpI p.1 p.2 y.1.1 y.1.2 ≠ 0 := fun y hy => by
        have := (cmp_lt (v := v)).2 (((cmp_lt (v := v)).1 hc).trans (g.1 y hy))
        omega
      rw [show stR p v (o, false) x = (o ++ [(p, v)] ++ [x], true) by simp [stR, hc], fold_done p v L _ hr]
      unfold insR
      rw [if_pos hc]
      simp
    · have hx := cmp_eq.1 hc
      have hr : ∀ y ∈ L, cmpI p.1 p.2 y.1.1 y.1.2 ≠ 0 := fun y hy => fun e => (g.1 y hy).ne (hx.trans (cmp_eq.1 e).symm)
      rw [show stR p v (o, false) x = (o ++ [(p, v)], true) by simp [stR, hc], fold_done p v L _ hr]
      unfold insR
      rw [if_neg (show ¬ cmpI p.1 p.2 x.1.1 x.1.2 = -1 by omega), if_pos hc]
      simp
    · rw [show stR p v (o, false) x = (o ++ [x], false) by simp [stR, hc], fold_put p v L _ g.2]
      conv => rhs; unfold insR
      rw [if_neg (show ¬ cmpI p.1 p.2 x.1.1 x.1.2 = -1 by omega), if_neg (show ¬ cmpI p.1 p.2 x.1.1 x.1.2 = 0 by omega)]
      simp
theorem putF_ins {p : Int × Int} {v : Int} {L : List Kv} (h : Srt L) : putF p v L = insR p v L := by
  unfold putF foR
  rw [fold_put p v L [] h]
  rfl
theorem mem_ins {p : Int × Int} {v : Int} : ∀ {L : List Kv}, Srt L → ∀ y, y ∈ insR p v L ↔ y = (p, v) ∨ (y.1 ≠ p ∧ y ∈ L)
  | [], _, y => by simp [insR]
  | x :: L, h, y => by
    have g := List.pairwise_cons.1 h
    unfold insR
    split
    · rename_i hc
      have hx := (cmp_lt (v := v)).1 hc
      constructor
      · intro hy
        rcases List.mem_cons.1 hy with e | e
        · exact .inl e
        · refine .inr ⟨fun ep => ?_, e⟩
          rcases List.mem_cons.1 e with e2 | e2
          · subst e2; exact hx.ne ep.symm
          · exact (hx.trans (g.1 y e2)).ne ep.symm
      · rintro (e | ⟨_, e⟩)
        · exact List.mem_cons.2 (.inl e)
        · exact List.mem_cons_of_mem _ e
    · split
      · rename_i hc
        have hx := cmp_eq.1 hc
        constructor
        · intro hy
          rcases List.mem_cons.1 hy with e | e
          · exact .inl e
          · exact .inr ⟨fun ep => (g.1 y e).ne (hx.trans ep.symm), List.mem_cons_of_mem _ e⟩
        · rintro (e | ⟨hne, e⟩)
          · exact List.mem_cons.2 (.inl e)
          · rcases List.mem_cons.1 e with e2 | e2
            · subst e2; exact absurd hx hne
            · exact List.mem_cons_of_mem _ e2
      · rename_i h1 h2
        constructor
        · intro hy
          rcases List.mem_cons.1 hy with e | e
          · subst e
            exact .inr ⟨fun ep => h2 (cmp_eq.2 ep), List.mem_cons_self ..⟩
          · rcases (mem_ins g.2 y).1 e with e | ⟨hne, e⟩
            · exact .inl e
            · exact .inr ⟨hne, List.mem_cons_of_mem _ e⟩
        · rintro (e | ⟨hne, e⟩)
          · exact List.mem_cons_of_mem _ ((mem_ins g.2 y).2 (.inl e))
          · rcases List.mem_cons.1 e with e2 | e2
            · exact List.mem_cons.2 (.inl e2)
            · exact List.mem_cons_of_mem _ ((mem_ins g.2 y).2 (.inr ⟨hne, e2⟩))
theorem srt_ins {p : Int × Int} {v : Int} : ∀ {L : List Kv}, Srt L → Srt (insR p v L)
  | [], _ => List.pairwise_singleton _ _
  | x :: L, h => by
    have g := List.pairwise_cons.1 h
    unfold insR
    split
    · rename_i hc
      have hx := (cmp_lt (v := v)).1 hc
      exact List.pairwise_cons.2 ⟨fun y hy => by
        rcases List.mem_cons.1 hy with e | e
        · subst e; exact hx
        · exact hx.trans (g.1 y e), h⟩
    · split
      · rename_i hc
        have hx := cmp_eq.1 hc
        exact List.pairwise_cons.2 ⟨fun y hy => by
          have := g.1 y hy
          unfold Lt2 at *
          rw [hx] at this
          exact this, g.2⟩
      · rename_i h1 h2
        have h3 : cmpI p.1 p.2 x.1.1 x.1.2 = 1 := by
          rcases cmpI_three p.1 p.2 x.1.1 x.1.2 with e | e | e
          · exact absurd e h1
          · exact absurd e h2
          · exact e
        exact List.pairwise_cons.2 ⟨fun y hy => by
          rcases (mem_ins g.2 y).1 hy with e | ⟨_, e⟩
          · subst e; exact cmp_gt h3
          · exact g.1 y e, srt_ins g.2⟩
theorem reg_lo_le {k c b m : Int} (hc : c % pw k = 0) (h : Reg k c b m) : c ≤ b ∧ b < c + pw k := by
  have hp := pw_pos k
  have h2 := h.2
  unfold Eq32 at h2
  have e1 := Int.mul_ediv_add_emod b (pw k)
  have e2 := Int.mul_ediv_add_emod c (pw k)
  have e3 := Int.emod_nonneg b (b := pw k) (by omega)
  have e4 := Int.emod_lt_of_pos b hp
  rw [h2] at e1
  omega
theorem rows_srt : ∀ {T : Tr Int}, T.Ok → Srt (rowsT allP T)
  | .nil, _ => List.Pairwise.nil
  | .node a n u l r, hok => by
    have hb := hok.1.bits
    have hl := rows_mem (p := allP) (Tr.all_both (Tr.all_ok hok.2.2.2.1) hok.2.1)
    have hr := rows_mem (p := allP) (Tr.all_both (Tr.all_ok hok.2.2.2.2) hok.2.2.1)
    have key : ∀ y ∈ rowsT allP l ++ rowsT allP r, Lt2 ((a, n), 0) y := by
      intro y hy
      rcases List.mem_append.1 hy with e | e
      · obtain ⟨⟨h1, h2⟩, _⟩ := hl y e
        have h1b := h1.bits
        have h2a : n + 1 ≤ y.1.2 := h2.1
        have hn : n < 32 := by omega
        have g := (half_ok hok.1 hn).1.bits.2.2
        have := reg_lo_le g h2
        unfold Lt2; simp only; omega
      · obtain ⟨⟨h1, h2⟩, _⟩ := hr y e
        have h1b := h1.bits
        have h2a : n + 1 ≤ y.1.2 := h2.1
        have hn : n < 32 := by omega
        have g := (half_ok hok.1 hn).2.bits.2.2
        have := reg_lo_le g h2
        have := pw_pos (n + 1)
        unfold Lt2; simp only; omega
    rw [rows_all]
    refine List.pairwise_append.2 ⟨?_, List.pairwise_append.2 ⟨rows_srt hok.2.2.2.1, rows_srt hok.2.2.2.2, fun y hy z hz => ?_⟩, fun y hy z hz => ?_⟩
    · cases u with
      | none => exact List.Pairwise.nil
      | some v => exact List.pairwise_singleton _ _
    · obtain ⟨⟨h1, h2⟩, _⟩ := hl y hy
      obtain ⟨⟨h3, h4⟩, _⟩ := hr z hz
      have h1b := h1.bits
      have h2a : n + 1 ≤ y.1.2 := h2.1
      have hn : n < 32 := by omega
      have g1 := (half_ok hok.1 hn).1.bits.2.2
      have g2 := (half_ok hok.1 hn).2.bits.2.2
      have := reg_lo_le g1 h2
      have := reg_lo_le g2 h4
      unfold Lt2; omega
    · cases u with
      | none => cases hy
      | some v =>
        have e : y = ((a, n), v) := by simpa [oneR] using hy
        subst e
        have := key z hz
        unfold Lt2 at *
        exact this
theorem rows_ins {T : Tr Int} {b m v : Int} (hok : T.Ok) (hp : PfOk b m) : rowsT allP (T.ins b m v) = putF (b, m) v (rowsT allP T) := by
  have hs := rows_srt hok
  rw [putF_ins hs]
  refine srt_eq (rows_srt (Tr.ok_ins hp hok)) (srt_ins hs) fun y => ?_
  rw [mem_ins hs, mem_rows, mem_rows, Tr.has_ins (v := v) hp _ _ _ hok]
  obtain ⟨⟨y0, y1⟩, yv⟩ := y
  simp only [Prod.mk.injEq, ne_eq]
  constructor
  · rintro (⟨h1, h2, h3⟩ | ⟨h1, h2⟩)
    · exact .inl ⟨⟨h1, h2⟩, h3⟩
    · exact .inr ⟨h1, h2⟩
  · rintro (⟨⟨h1, h2⟩, h3⟩ | ⟨h1, h2⟩)
    · exact .inl ⟨h1, h2, h3⟩
    · exact .inr ⟨h1, h2⟩
theorem rows_wo {T : Tr Int} {b m : Int} (hok : T.Ok) (hp : PfOk b m) : rowsT allP (T.wo b m) = dropR b m (rowsT allP T) := by
  refine srt_eq (rows_srt (Tr.wo_ok hok)) (List.Pairwise.filter _ (rows_srt hok)) fun y => ?_
  unfold dropR
  rw [List.mem_filter, mem_rows, mem_rows, Tr.wo_has hp hok, Bool.not_eq_true', decide_eq_false_iff_not]
theorem getL_mem {p : Int × Int} {v : Int} : ∀ {R : List Kv}, Srt R → (getL p R = some v ↔ (p, v) ∈ R)
  | [], _ => by simp [getL]
  | x :: R, h => by
    have g := List.pairwise_cons.1 h
    unfold getL
    split
    · rename_i hx
      constructor
      · intro e
        have e := Option.some.inj e
        exact List.mem_cons.2 (.inl (by rw [← hx, ← e]))
      · intro hm
        rcases List.mem_cons.1 hm with e | e
        · rw [← e]
        · exact absurd hx (g.1 _ e).ne
    · rename_i hx
      rw [getL_mem g.2]
      constructor
      · exact fun hm => List.mem_cons_of_mem _ hm
      · intro hm
        rcases List.mem_cons.1 hm with e | e
        · exact absurd (by rw [← e]) hx
        · exact e
theorem srt_uniq : ∀ {R : List Kv}, Srt R → Uniq R
  | [], _ => trivial
  | x :: R, h => by
    have g := List.pairwise_cons.1 h
    refine ⟨?_, srt_uniq g.2⟩
    cases e : getL x.1 R with
    | none => rfl
    | some v => exact absurd rfl (g.1 _ ((getL_mem g.2).1 e)).ne
theorem uniq_shortE {V : Type} : ∀ {E : List (Int × Int)} {L : List ((Int × Int) × V)}, Uniq L → (∀ x v, getL x L = some v → x ∈ E) → L.length ≤ E.length
  | [], [], _, _ => Nat.le_refl _
  | [], x :: L, _, h => by
    have := h x.1 x.2 (by simp [getL])
    cases this
  | e :: E, L, hu, h => by
    have h1 := uniq_shortE (E := E) (uniq_del e hu) (fun x v hx => by
      rw [getL_delL e x hu] at hx
      split at hx
      · cases hx
      · rename_i hne
        rcases List.mem_cons.1 (h x v hx) with h2 | h2
        · exact absurd h2.symm hne
        · exact h2)
    rw [List.length_cons]
    cases hg : getL e L with
    | some v => have := delL_len e hg; omega
    | none =>
      have : ∀ {M : List ((Int × Int) × V)}, getL e M = none → delL e M = M := by
        intro M
        induction M with
        | nil => intro _; rfl
        | cons y M ih =>
          intro hn
          unfold getL at hn
          split at hn
          · cases hn
          · rename_i hne
            unfold delL
            rw [if_neg hne, ih hn]
      rw [this hg] at h1
      omega
theorem uniq_lenE {V : Type} {L M : List ((Int × Int) × V)} (hL : Uniq L) (hM : Uniq M) (h : ∀ x, getL x L = getL x M) : L.length = M.length := by
  have key : ∀ {M : List ((Int × Int) × V)} {x : Int × Int} {v : V}, getL x M = some v → x ∈ M.map (·.1) := by
    intro M
    induction M with
    | nil => intro x v hx; cases hx
    | cons y M ih =>
      intro x v hx
      unfold getL at hx
      rw [List.map_cons]
      split at hx
      · rename_i he; rw [he]; exact List.mem_cons_self ..
      · exact List.mem_cons_of_mem _ (ih hx)
  have h1 := uniq_shortE (E := M.map (·.1)) hL fun x v hx => key (by rw [← h x]; exact hx)
  have h2 := uniq_shortE (E := L.map (·.1)) hM fun x v hx => key (by rw [h x]; exact hx)
  rw [List.length_map] at h1 h2
  omega
theorem over_mem {a : Int} {L : List Kv} {k : Nat} {y : Kv} : y ∈ overUp a L k ↔ y ∈ L ∧ inB a y.1.1 y.1.2 = true ∧ 0 ≤ y.1.2 ∧ y.1.2 < k := by
  unfold overUp overP
  simp only [List.mem_flatMap, List.mem_range, List.mem_filter, Bool.and_eq_true, decide_eq_true_eq]
  constructor
  · rintro ⟨i, h1, h2, h3, h4⟩
    exact ⟨h2, h4, by omega, by omega⟩
  · rintro ⟨h1, h2, h3, h4⟩
    exact ⟨y.1.2.toNat, by omega, h1, by omega, h2⟩
theorem over_rows {T : Tr Int} (a : Int) (hok : T.Ok) : overR a (rowsT allP T) = rowsT (inB a) T := by
  have hR := rows_srt hok
  have hpf : ∀ y ∈ rowsT allP T, PfOk y.1.1 y.1.2 := fun y hy => (rows_mem (Tr.all_ok hok) y hy).1
  refine sorted_eq ?_ (rows_chain a hok) fun y => ?_
  · unfold overR
    generalize 33 = k
    generalize rowsT allP T = R at hR hpf
    induction k with
    | zero => exact List.Pairwise.nil
    | succ k ih =>
      rw [overUp_succ]
      refine List.pairwise_append.2 ⟨ih, ?_, fun y hy z hz => ?_⟩
      · have h1 := hR.filter (overP a k)
        refine List.Pairwise.imp_of_mem (fun {y z} hy hz hyz => ?_) h1
        exfalso
        obtain ⟨hy1, hy2⟩ := List.mem_filter.1 hy
        obtain ⟨hz1, hz2⟩ := List.mem_filter.1 hz
        unfold overP at hy2 hz2
        simp only [Bool.and_eq_true, decide_eq_true_eq] at hy2 hz2
        have py := hpf y hy1
        have pz := hpf z hz1
        have ey := (in_iff py).1 hy2.2
        have ez := (in_iff pz).1 hz2.2
        rw [hz2.1] at ez pz
        rw [hy2.1] at ey py
        exact hyz.ne (Prod.ext (pf_eq py pz (ey.symm.trans ez)) (hy2.1.trans hz2.1.symm))
      · have h1 := over_mem.1 hy
        obtain ⟨hz1, hz2⟩ := List.mem_filter.1 hz
        unfold overP at hz2
        simp only [Bool.and_eq_true, decide_eq_true_eq] at hz2
        omega
  · unfold overR
    rw [over_mem, rows_in a hok, List.mem_filter]
    constructor
    · rintro ⟨h1, h2, _, _⟩
      exact ⟨h1, h2⟩
    · rintro ⟨h1, h2⟩
      have := (hpf y h1).bits
      exact ⟨h1, h2, this.1, by omega⟩
end Go.Proofs.Ytodfimnmbfdicaa
