/- A table with its rows: what Put, Drop and Copy make of both. Under the conditions that they name. -/
import Derived.Test.YtodfimnmbfdicaaTuH
import Derived.Test.YtodfimnmbfdicaaTuI
import Derived.Test.YtodfimnmbfdicaaTqB
namespace Go.Proofs.Ytodfimnmbfdicaa
open Go.RowKit Go.Shelf
/-- The map and the tree of a table hold the same. -/
def Same (L : List Kv) (T : Tr Int) : Prop := ∀ b m v, getL (b, m) L = some v ↔ T.Has b m v
theorem Same.nil : Same [] .nil := fun b m v => by simp [getL, Tr.Has]
theorem Same.put {L : List Kv} {T : Tr Int} {b m v : Int} (h : Same L T) (hok : T.Ok) (hp : PfOk b m) : Same (putL (b, m) v L) (T.ins b m v) := fun x k z => by
  rw [getL_putL, Tr.has_ins (v := v) hp x k z hok]
  by_cases e : (b, m) = (x, k)
  · rw [if_pos e]
    obtain ⟨rfl, rfl⟩ := Prod.mk.inj e
    constructor
    · intro hz; exact .inl ⟨rfl, rfl, (Option.some.inj hz).symm⟩
    · rintro (⟨_, _, hz⟩ | ⟨hn, _⟩)
      · rw [hz]
      · exact absurd ⟨rfl, rfl⟩ hn
  · rw [if_neg e, h]
    have hn : ¬ (x = b ∧ k = m) := fun ⟨e1, e2⟩ => e (by rw [e1, e2])
    constructor
    · intro hz; exact .inr ⟨hn, hz⟩
    · rintro (⟨e1, e2, _⟩ | ⟨_, hz⟩)
      · exact absurd ⟨e1, e2⟩ hn
      · exact hz
theorem Same.del {L : List Kv} {T : Tr Int} {b m : Int} (h : Same L T) (hu : Uniq L) (hok : T.Ok) (hp : PfOk b m) : Same (delL (b, m) L) (T.wo b m) := fun x k z => by
  rw [getL_delL _ _ hu, Tr.wo_has hp hok]
  by_cases e : (b, m) = (x, k)
  · rw [if_pos e]
    obtain ⟨rfl, rfl⟩ := Prod.mk.inj e
    constructor
    · intro hz; cases hz
    · rintro ⟨_, hn⟩; exact absurd ⟨rfl, rfl⟩ hn
  · rw [if_neg e, h]
    have hn : ¬ (x = b ∧ k = m) := fun ⟨e1, e2⟩ => e (by rw [e1, e2])
    exact ⟨fun hz => ⟨hz, hn⟩, fun hz => hz.1⟩
theorem Same.get {L : List Kv} {T : Tr Int} (h : Same L T) (hok : T.Ok) (x : Int × Int) : getL x L = getL x (rowsT allP T) := Option.ext fun v => by
  obtain ⟨x0, x1⟩ := x
  rw [getL_mem (rows_srt hok), mem_rows]
  exact h x0 x1 v
theorem drop_all {b m : Int} {R : List Kv} (h : Srt R) : (dropR b m R).length = R.length ↔ getL (b, m) R = none := by
  unfold dropR
  rw [List.length_filter_eq_length_iff]
  constructor
  · intro hall
    cases hg : getL (b, m) R with
    | none => rfl
    | some v =>
      have := hall _ ((getL_mem h).1 hg)
      simp at this
  · intro hg y hy
    by_cases e : y.1 = (b, m)
    · have := (getL_mem (p := (b, m)) h (v := y.2)).2 (by rw [← e]; exact hy)
      rw [hg] at this; cases this
    · have hn : ¬ (y.1.1 = b ∧ y.1.2 = m) := fun ⟨e1, e2⟩ => e (Prod.ext e1 e2)
      simp only [Bool.not_eq_true', decide_eq_false_iff_not]
      exact hn
theorem drop_self {b m : Int} {R : List Kv} (h : Srt R) (hg : getL (b, m) R = none) : dropR b m R = R := List.filter_eq_self.2 (List.length_filter_eq_length_iff.1 ((drop_all h).2 hg))
section
variable {t r : Nat} {L : List Kv} {T : Tr Int} {w w' : World}
/-- The table behind a call. -/
def TabTo (t r : Nat) (R : List Kv) (w' : World) : Prop := ∃ L' T', TabAt_i w' t r L' T' ∧ Same L' T' ∧ Uniq L' ∧ rowsT allP T' = R
theorem TabTo.on {R : List Kv} (h : TabTo t r R w) (hb : Below w.heap.size w w') : TabTo t r R w' := by
  obtain ⟨L', T', h1, h2, h3, h4⟩ := h
  exact ⟨L', T', h1.on hb, h2, h3, h4⟩
theorem put_tab (b m v : Int) {R : List Kv} (h : TabTo t r R w) (hb0 : 0 ≤ b) (hb1 : b < 4294967296) :
    Calls Try.prog 11 #[.pointer (some ⟨t, 0, none⟩), .agg #[.int .u32 b, .int .i64 m], .int .i64 v] w fun e w' => e = .returned (.int .i64 (ck b m)) ∧ TabTo t r (putC (b, m) v R) w' ∧ Kept2_i t r w w' := by
  obtain ⟨L, T, hT, hs, hu, rfl⟩ := h
  by_cases hk : ck b m = 0
  · refine (put_is_i with_is_i t r L T b m v w hT ⟨hb0, hb1, hk⟩).mono ?_
    rintro e w' ⟨rfl, h2, h3⟩
    refine ⟨by rw [hk], ⟨_, _, h2, hs.put hT.ok ⟨hb0, hb1, hk⟩, uniq_put _ _ hu, ?_⟩, h3⟩
    rw [rows_ins hT.ok ⟨hb0, hb1, hk⟩]
    unfold putC
    rw [if_pos hk]
  · refine (put_bad_i _ b m _ v w hb0 hb1 rfl hk).mono ?_
    rintro e w' ⟨rfl, hb⟩
    refine ⟨rfl, ⟨L, T, hT.on hb, hs, hu, ?_⟩, Kept2_i.of hb⟩
    unfold putC
    rw [if_neg hk]
theorem drop_tab (b m : Int) {R : List Kv} (h : TabTo t r R w) (hb0 : 0 ≤ b) (hb1 : b < 4294967296) :
    Calls Try.prog 13 #[.pointer (some ⟨t, 0, none⟩), .agg #[.int .u32 b, .int .i64 m]] w fun e w' => e = .returned (.int .i64 (dropE b m R)) ∧ TabTo t r (dropV b m R) w' ∧ Kept2_i t r w w' := by
  obtain ⟨L, T, hT, hs, hu, rfl⟩ := h
  have hR := rows_srt hT.ok
  by_cases hk : ck b m = 0
  · have hV : dropV b m (rowsT allP T) = dropR b m (rowsT allP T) := by unfold dropV; rw [if_pos hk]
    cases hg : getL (b, m) L with
    | none =>
      have hg2 : getL (b, m) (rowsT allP T) = none := by rw [← hs.get hT.ok]; exact hg
      refine (drop_none t r L T b m w hT ⟨hb0, hb1, hk⟩ hg).mono ?_
      rintro e w' ⟨rfl, hb⟩
      refine ⟨?_, ⟨L, T, hT.on hb, hs, hu, by rw [hV, drop_self hR hg2]⟩, Kept2_i.of hb⟩
      unfold dropE
      rw [if_pos hk, if_pos ((drop_all hR).2 hg2)]
    | some v =>
      refine (drop_is t r L T b m v w hT ⟨hb0, hb1, hk⟩ hg).mono ?_
      rintro e w' ⟨rfl, h2, h3⟩
      refine ⟨?_, ⟨_, _, h2, hs.del hu hT.ok ⟨hb0, hb1, hk⟩, uniq_del _ hu, by rw [rows_wo hT.ok ⟨hb0, hb1, hk⟩, hV]⟩, h3⟩
      unfold dropE
      rw [if_pos hk, if_neg (fun e => by have h4 := (drop_all hR).1 e; rw [← hs.get hT.ok, hg] at h4; cases h4)]
  · refine (drop_bad _ b m _ w hb0 hb1 rfl hk).mono ?_
    rintro e w' ⟨rfl, hb⟩
    refine ⟨?_, ⟨L, T, hT.on hb, hs, hu, ?_⟩, Kept2_i.of hb⟩
    · unfold dropE; rw [if_neg hk]
    · unfold dropV; rw [if_neg hk]
theorem copy_tab {R : List Kv} (h : TabTo t r R w) :
    Calls Try.prog 15 #[.pointer (some ⟨t, 0, none⟩)] w fun e w' => ∃ t2 r2, e = .returned (.pointer (some ⟨t2, 0, none⟩)) ∧ TabTo t2 r2 R w' ∧ Below w.heap.size w w' ∧ w.heap.size ≤ t2 ∧ w.heap.size ≤ r2 := by
  obtain ⟨L, T, hT, hs, hu, rfl⟩ := h
  refine (copy_is t r L T w hT).mono ?_
  rintro e w' ⟨t2, r2, rfl, h1, h2, h3, h4⟩
  exact ⟨t2, r2, rfl, ⟨L, T, h1, hs, hu, rfl⟩, h2, h3, h4⟩
theorem TabTo.lt {R : List Kv} (h : TabTo t r R w) : t < w.heap.size ∧ r < w.heap.size := by
  obtain ⟨L', T', h1, _⟩ := h
  exact h1.lt
theorem TabTo.beside {R R2 : List Kv} {t2 r2 : Nat} (h : TabTo t r R w) (h2 : TabTo t2 r2 R2 w) (ht : t ≠ t2) (hr : r ≠ r2) (hk : Kept2_i t r w w') : TabTo t2 r2 R2 w' := by
  obtain ⟨L, T, hT, _⟩ := h
  obtain ⟨L2, T2, h1, h3, h4, h5⟩ := h2
  exact ⟨L2, T2, hT.beside h1 ht hr hk, h3, h4, h5⟩
/-- Rows in memory stay what they are when a table changes. -/
theorem RdK.tab {R L2 : List Kv} {v : Value} (h : RdK encRow 3 w v L2) (hT : TabTo t r R w) (hk : Kept2_i t r w w') : RdK encRow 3 w' v L2 := by
  obtain ⟨L, T, hTT, _⟩ := hT
  obtain ⟨root, hrow, _⟩ := hTT.row
  obtain ⟨⟨es, k, hmap, _⟩⟩ := hTT.map
  obtain ⟨p, c, h1, h2, h3, h4⟩ := h
  refine ⟨p, c, h1, h2, h3, fun h0 => ?_⟩
  obtain ⟨b, o, e, h5, h6⟩ := h4 h0
  have hx : L2[0]? = some L2[0] := List.getElem?_eq_getElem h0
  have hc := h6 0 _ hx 0 _ rfl
  have hbt : b ≠ t := by
    rintro rfl
    unfold World.cell? at hc
    rw [hrow] at hc
    simp only [Nat.zero_mul, Nat.add_zero] at hc
    rcases o with _ | _ | o
    · simp at hc
    · simp at hc
    · simp at hc
  have hbr : b ≠ r := by
    rintro rfl
    unfold World.cell? at hc
    rw [hmap] at hc
    simp at hc
  refine ⟨b, o, e, by have := hk.size; omega, fun i s hs j u hu => ?_⟩
  have hblk := hk.block b h5 hbt hbr
  have := h6 i s hs j u hu
  unfold World.cell? at this ⊢
  rw [hblk]
  exact this
theorem Iter.tab {n : Nat} {v : Value} {R : List Kv} (h : Iter (Fp t r n) w v R) (hn : n ≤ w.heap.size) (hk : Kept2_i t r w w') : Iter (Fp t r n) w' v R :=
  h.keep fun y hy => hk.block y (by have := hy.1; omega) hy.2.1 hy.2.2
theorem Iter.tab2 {n t2 r2 : Nat} {v : Value} {R : List Kv} (h : Iter (Fp t r n) w v R) (hn : n ≤ w.heap.size) (ht : n ≤ t2) (hr : n ≤ r2) (hk : Kept2_i t2 r2 w w') : Iter (Fp t r n) w' v R :=
  h.keep fun y hy => hk.block y (by have := hy.1; omega) (by have := hy.1; omega) (by have := hy.1; omega)
theorem Iter.next {v : Value} {R : List Kv} (h : Iter (Fp t r w.heap.size) w v R) (hb : Below w.heap.size w w') : Iter (Fp t r w'.heap.size) w' v R := by
  have hz := hb.size
  rcases h with ⟨b, root, T, h1, h2, h3, h4, h5, h6, h7⟩ | ⟨x, a0, b, root, T, h1, h2, h3, h4, h5, h6, h7, h8⟩
  · exact .inl ⟨b, root, T, h1, ⟨(hb.block b h5.1).trans h2.box, (hb.block _ h6.1).trans h2.lead⟩, h3, TrAt.keep (fun y _ hp => ⟨⟨by have := hp.1; omega, hp.2⟩, hb.block y hp.1⟩) h4, ⟨by have := h5.1; omega, h5.2⟩, ⟨by have := h6.1; omega, h6.2⟩, h7⟩
  · exact .inr ⟨x, a0, b, root, T, h1, ⟨(hb.block b h5.1).trans h2.box, (hb.block _ h6.1).trans h2.lead, (hb.block _ h7.1).trans h2.addr⟩, h3, TrAt.keep (fun y _ hp => ⟨⟨by have := hp.1; omega, hp.2⟩, hb.block y hp.1⟩) h4, ⟨by have := h5.1; omega, h5.2⟩, ⟨by have := h6.1; omega, h6.2⟩, ⟨by have := h7.1; omega, h7.2⟩, h8⟩
theorem all_tab {R : List Kv} (h : TabTo t r R w) : Calls Try.prog 9 #[.pointer (some ⟨t, 0, none⟩)] w fun e w' => ∃ v, e = .returned v ∧ Iter (Fp t r w'.heap.size) w' v R ∧ Below w.heap.size w w' := by
  obtain ⟨L, T, hT, _, _, rfl⟩ := h
  exact all_iter hT
theorem over_tab {R : List Kv} (x : Int) (h : TabTo t r R w) : Calls Try.prog 10 #[.pointer (some ⟨t, 0, none⟩), .int .u32 x] w fun e w' => ∃ v, e = .returned v ∧ Iter (Fp t r w'.heap.size) w' v (overR x R) ∧ Below w.heap.size w w' := by
  obtain ⟨L, T, hT, _, _, rfl⟩ := h
  rw [over_rows x hT.ok]
  exact over_iter x hT
theorem told_tab {R : List Kv} {lv : Value} (b m a leave : Int) (h : TabTo t r R w) (hr : RdK encRow 3 w lv R) (hl : R.length ≤ 1000) (hb0 : 0 ≤ b) (hb1 : b < 4294967296) (ha : 0 ≤ a) (ha2 : a < 4294967296) :
    Calls Try.prog 17 #[.pointer (some ⟨t, 0, none⟩), lv, .agg #[.int .u32 b, .int .i64 m], .int .u32 a, .int .i64 leave] w fun e w' => e = .returned (.bool true) ∧ Below w.heap.size w w' := by
  obtain ⟨L, T, hT, hs, hu, rfl⟩ := h
  exact told_is t r L T lv b m a leave w hT hs hu hr hl hb0 hb1 ha ha2
theorem TabTo.rg {R : List Kv} (h : TabTo t r R w) : ∀ y ∈ R, 0 ≤ y.1.1 ∧ y.1.1 < 4294967296 := by
  obtain ⟨L, T, hT, _, _, rfl⟩ := h
  exact rows_pf hT.ok
theorem dropV_len (b m : Int) (R : List Kv) : (dropV b m R).length ≤ R.length := by
  unfold dropV
  split
  · exact List.length_filter_le _ _
  · exact Nat.le_refl _
theorem over_len {R : List Kv} (a : Int) (h : TabTo t r R w) : (overR a R).length ≤ R.length := by
  obtain ⟨L, T, hT, _, _, rfl⟩ := h
  rw [over_rows a hT.ok, rows_in a hT.ok]
  exact List.length_filter_le _ _
end
end Go.Proofs.Ytodfimnmbfdicaa
