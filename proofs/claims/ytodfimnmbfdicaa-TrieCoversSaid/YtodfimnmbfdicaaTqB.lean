/- Two tables side by side, and what a table is that a list gives. Under the conditions that it names. -/
import Derived.Test.YtodfimnmbfdicaaTqA
import Derived.Test.YtodfimnmbfdicaaTpW
namespace Go.Proofs.Ytodfimnmbfdicaa
open Go.RowKit Go.Shelf
/-- A tree's nodes are no table and no map. -/
theorem TrAt.off {P : Nat → Prop} {w : World} {t r : Nat} {vs : Array Value} {es : Array MapEntry} {k : Nat} (ht : w.heap[t]? = some (.cells vs 70 (0, 0))) (hr : w.heap[r]? = some (.map es k)) :
    ∀ {T : Tr Int} {p : Option Addr}, Nd_i P w p T → Nd_i (fun x => P x ∧ Off_i t r x) w p T
  | .nil, _, h => h
  | .node a n u l r', _, ⟨g, pv, pl, pr, h1, h2, h3, h4, h5, h6⟩ => by
    refine ⟨g, pv, pl, pr, h1, ⟨h2, ?_, ?_⟩, h3, ?_, TrAt.off ht hr h5, TrAt.off ht hr h6⟩
    · rintro rfl; rw [ht] at h3; simp at h3
    · rintro rfl; rw [hr] at h3; simp at h3
    · cases u with
      | none => exact h4
      | some v =>
        obtain ⟨q, e, hq, hc⟩ := h4
        refine ⟨q, e, ⟨hq, ?_, ?_⟩, hc⟩
        · rintro rfl; rw [ht] at hc; simp at hc
        · rintro rfl; rw [hr] at hc; simp at hc
/-- What is done to one table leaves another as it was. -/
theorem TabAt_i.beside {w w' : World} {t r t2 r2 : Nat} {L L2 : List Kv} {T T2 : Tr Int} (h : TabAt_i w t r L T) (h2 : TabAt_i w t2 r2 L2 T2) (ht : t ≠ t2) (hr : r ≠ r2) (hk : Kept2_i t r w w') : TabAt_i w' t2 r2 L2 T2 := by
  obtain ⟨root, hrow, _⟩ := h.row
  obtain ⟨⟨es, k, hmap, _⟩⟩ := h.map
  obtain ⟨root2, hrow2, hnd2⟩ := h2.row
  obtain ⟨⟨es2, k2, hmap2, hE2⟩⟩ := h2.map
  have e1 : t2 ≠ r := by rintro rfl; rw [hmap] at hrow2; cases hrow2
  have e2 : r2 ≠ t := by rintro rfl; rw [hrow] at hmap2; cases hmap2
  refine ⟨h2.ne, ⟨root2, (hk.block t2 h2.lt.1 (fun e => ht e.symm) e1).trans hrow2, TrAt.keep (fun x hx hp => ⟨hp.1, hk.block x hx hp.2.1 hp.2.2⟩) (TrAt.off hrow hmap hnd2)⟩, ⟨⟨es2, k2, (hk.block r2 h2.lt.2 e2 (fun e => hr e.symm)).trans hmap2, hE2.imp ?_⟩⟩, h2.ok⟩
  rintro y v ⟨q, e, g, rfl, hq, hc⟩
  refine ⟨_, e, g, rfl, hq, (hk.block g (blk_lt hc) ?_ ?_).trans hc⟩
  · rintro rfl; rw [hrow] at hc; simp at hc
  · rintro rfl; rw [hmap] at hc; cases hc
/-- A table's prefixes are some of a list's, each with its address and bits added as its value. -/
structure FitsL (l : List (Int × Int)) (L : List Kv) (T : Tr Int) : Prop where
  same : ∀ (b m v : Int), getL (b, m) L = some v ↔ T.Has b m v
  from_ : ∀ (b m v : Int), T.Has b m v → v = b + m ∧ (b, m) ∈ l ∧ ck b m = 0
  uniq : Uniq L
/-- It has the first j of them. -/
def FullL (l : List (Int × Int)) (j : Nat) (T : Tr Int) : Prop := ∀ (i : Nat) (b m : Int), i < j → l[i]? = some (b, m) → ck b m = 0 → T.Has b m (b + m)
theorem FitsL.nil (l : List (Int × Int)) : FitsL l [] .nil := ⟨fun b m v => by simp [getL, Tr.Has], fun b m v h => h.elim, trivial⟩
theorem FitsL.put {l : List (Int × Int)} {L : List Kv} {T : Tr Int} {b m : Int} (h : FitsL l L T) (hx : (b, m) ∈ l) (hok : T.Ok) (hbm : PfOk b m) : FitsL l (putL (b, m) (b + m) L) (T.ins b m (b + m)) := by
  have hi := fun c k z => Tr.has_ins (v := b + m) hbm c k z hok
  refine ⟨fun c k z => ?_, fun c k z hh => ?_, uniq_put _ _ h.uniq⟩
  · rw [getL_putL]
    by_cases e : (b, m) = (c, k)
    · cases e
      simp [hi]
      exact eq_comm
    · rw [if_neg e, h.same, hi]
      have : ¬ (c = b ∧ k = m) := fun ⟨e1, e2⟩ => e (by rw [e1, e2])
      exact ⟨fun h => .inr ⟨this, h⟩, fun h => h.elim (fun x => absurd ⟨x.1, x.2.1⟩ this) (·.2)⟩
  · rcases (hi c k z).1 hh with ⟨rfl, rfl, rfl⟩ | ⟨_, h1⟩
    · exact ⟨rfl, hx, hbm.2.2⟩
    · exact h.from_ _ _ _ h1
theorem FullL.put {l : List (Int × Int)} {j : Nat} {L : List Kv} {T : Tr Int} {b m : Int} (h : FullL l j T) (hok : T.Ok) (hbm : PfOk b m) (hx : l[j]? = some (b, m)) : FullL l (j + 1) (T.ins b m (b + m)) := by
  intro i c k hi he hc
  refine (Tr.has_ins (v := b + m) hbm c k (c + k) hok).2 ?_
  by_cases e : c = b ∧ k = m
  · exact .inl ⟨e.1, e.2, by rw [e.1, e.2]⟩
  · refine .inr ⟨e, h i c k ?_ he hc⟩
    rcases Nat.lt_succ_iff_lt_or_eq.1 hi with h1 | rfl
    · exact h1
    · rw [hx] at he
      cases he
      exact absurd ⟨rfl, rfl⟩ e
theorem FullL.skip {l : List (Int × Int)} {j : Nat} {T : Tr Int} {b m : Int} (h : FullL l j T) (hx : l[j]? = some (b, m)) (hk : ck b m ≠ 0) : FullL l (j + 1) T := by
  intro i c k hi he hc
  refine h i c k ?_ he hc
  rcases Nat.lt_succ_iff_lt_or_eq.1 hi with h1 | rfl
  · exact h1
  · rw [hx] at he
    cases he
    exact absurd hc hk
/-- What is put and dropped leaves no trace. -/
theorem back_has {L : List Kv} {T : Tr Int} {a n z : Int} (hok : T.Ok) (hp : PfOk a n) (hs : ∀ b m v, getL (b, m) L = some v ↔ T.Has b m v) (hg : getL (a, n) L = none) (b m v : Int) : ((T.ins a n z).wo a n).Has b m v ↔ T.Has b m v := by
  rw [Tr.wo_has hp (Tr.ok_ins hp hok), Tr.has_ins (v := z) hp b m v hok]
  constructor
  · rintro ⟨⟨h1, h2, _⟩ | ⟨_, h1⟩, h3⟩
    · exact absurd ⟨h1, h2⟩ h3
    · exact h1
  · intro h
    have hne : ¬ (b = a ∧ m = n) := by
      rintro ⟨rfl, rfl⟩
      rw [(hs _ _ _).2 h] at hg
      cases hg
    exact ⟨.inr ⟨hne, h⟩, hne⟩
theorem back_get {L : List Kv} {a n z : Int} (hu : Uniq L) (hg : getL (a, n) L = none) (x : Int × Int) : getL x (delL (a, n) (putL (a, n) z L)) = getL x L := by
  rw [getL_delL (a, n) x (uniq_put (a, n) z hu), getL_putL]
  split
  · rename_i h; rw [← h, hg]
  · rfl
set_option maxRecDepth 100000 in
theorem range_all {n1 : Nat} {rows : List Kv} {K : Nat} (F : Nat → Kv → Array Value)
    {gop : Operand} {ps : Array Tmp} {assign body : Code} {Q : Exit → Act → World → Prop} {a : Act} {w : World} {gf : Nat} {lb : Array Value}
    (hg : a.eval gop = .func (.func gf) #[] lb) (hp : ps.size = 2) (hFg : Fence.wide.fn gf) (eg : ∀ args w, (callFunc gf args).run Try.prog w = .ok (.enter gf args) w)
    (hseq : SeqStopsK Fence.wide (8 - 1) Try.prog gf lb encN (Kpx n1 (fun _ => False)) (fun xs => xs = rows) (fun pre => pre <+: rows) K w)
    (hrg : ∀ y ∈ rows, 0 ≤ y.1.1 ∧ y.1.1 < 4294967296) (hn1 : w.heap.size = n1)
    (hassign : ∀ (l : Nat) (y : Kv) (W : World) (C : Nat) (K : Act → World → Prop), W.heap.size = C → Hid (K { tmps := F C y, defers := [] } (W.alloc (.cells #[.int .u32 y.1.1, .int .i64 y.1.2] 34))) →
      assign.wpIn (Fence.wide.inRound l) (8 - 1 - 1) Try.prog (Exit.then K (fun _ _ _ => False)) { tmps := (ps.zip (encKv y)).foldl (fun t (p, v) => t.setIfInBounds p v) a.tmps, defers := [] } W)
    (hbody : ∀ (l : Nat) (pre : List Kv) (x : Kv) (y : Kv) (B : Nat) (W : World), nk x = y → 0 ≤ y.1.1 → y.1.1 < 4294967296 → Below n1 w W → W.heap[B]? = some (.cells #[.int .u32 y.1.1, .int .i64 y.1.2] 34 (0, 0)) → n1 ≤ B → pre.length < K →
      body.wpIn (Fence.wide.inRound l) (8 - 1 - 1) Try.prog (ownPostG n1 (Kpx n1 (fun _ => False)) (fun _ W => Below n1 w W) (fun _ q _ => ¬ q.map nk <+: rows) (pre ++ [x]) W) { tmps := F B y, defers := [] } W)
    (hdone : ∀ (D : Nat) (W : World), n1 ≤ D → Below n1 w W → W.heap[D]? = some (.deferred (some [])) → Q .normal { a with defers := { target := .collected D, args := #[] } :: a.defers } W) :
    (Code.rangeFunc gop ps assign body).wpIn Fence.wide 8 Try.prog Q a w := by
  subst hn1
  refine wpIn_rangeFunc_ownH (n := 8) rfl (by omega) hg hFg eg hseq Kpx.trans (fun W l o o' hl h1 _ _ => ⟨rfl, rfl, rfl, by simp [World.putObj], fun y hy _ => by simp only [World.putObj]; rw [Array.getElem?_setIfInBounds, if_neg (by omega)]⟩) (Below.refl _ _) (fun x => by rw [hp]; rfl)
    (fun _ W => Below w.heap.size w W) (fun _ q _ => ¬ q.map nk <+: rows)
    (fun s A B row hs hg' hr => ?_) (fun _ _ _ _ _ hs _ _ => hs) (Below.refl _ _)
    (fun x a' W => ∃ B : Nat, W.heap[B]? = some (.cells #[.int .u32 (nk x).1.1, .int .i64 (nk x).1.2] 34 (0, 0)) ∧ w.heap.size ≤ B ∧ a' = { tmps := F B (nk x), defers := [] })
    (fun y a' => fun _ A B row hs hg' hr => by
      obtain ⟨C, h1, h2, h3⟩ := hs
      exact ⟨C, row_kept h1 hg' (fun r e => (hr r e).2), h2, h3⟩) ?assign ?body ?done ?stop
  · exact hs.grown hg' hs.size (fun k e => (hr k e).1)
  case assign =>
    intro l pre x W K' hI hK
    refine hassign l (nk x) W W.heap.size K' rfl (Lib.hid ?_)
    have hb : Below W.heap.size W (W.alloc (.cells #[.int .u32 (nk x).1.1, .int .i64 (nk x).1.2] 34)) := (Below.refl _ _).alloc (Nat.le_refl _) _
    exact hK _ _ (below_keeps _ hb) (Kpx.of hb hI.size) (Below.step hI hb) ⟨W.heap.size, heap_alloc_new W _, hI.size, rfl⟩
  case body =>
    rintro l pre x a' W hl _ hI ⟨B, h1, h2, rfl⟩ hlen
    exact hbody l pre x (nk x) B W rfl (nm_rg _).1 (nm_rg _).2 hI h1 h2 hlen
  case done =>
    rintro D xs W hD rfl hI hK
    exact hdone D W hD hI hK
  case stop =>
    intro D c pre W hD hSp hx _
    refine absurd ?_ hx
    have := hSp.map nk
    rwa [nk_all hrg] at this
theorem sorted_eq : ∀ {R R' : List Kv}, R.Pairwise (fun y z => y.1.2 < z.1.2) → R'.Pairwise (fun y z => y.1.2 < z.1.2) → (∀ y, y ∈ R ↔ y ∈ R') → R = R'
  | [], [], _, _, _ => rfl
  | [], x :: _, _, _, h => by have := (h x).2 (List.mem_cons_self ..); cases this
  | x :: _, [], _, _, h => by have := (h x).1 (List.mem_cons_self ..); cases this
  | x :: R, x' :: R', h1, h2, h => by
    have g1 := List.pairwise_cons.1 h1
    have g2 := List.pairwise_cons.1 h2
    have he : x = x' := by
      rcases List.mem_cons.1 ((h x).1 (List.mem_cons_self ..)) with e | e
      · exact e
      · rcases List.mem_cons.1 ((h x').2 (List.mem_cons_self ..)) with e' | e'
        · exact e'.symm
        · have := g2.1 _ e
          have := g1.1 _ e'
          omega
    subst he
    rw [sorted_eq g1.2 g2.2 fun y => ?_]
    constructor
    · intro hy
      rcases List.mem_cons.1 ((h y).1 (List.mem_cons_of_mem _ hy)) with e | e
      · have := g1.1 _ hy; rw [e] at this; omega
      · exact e
    · intro hy
      rcases List.mem_cons.1 ((h y).2 (List.mem_cons_of_mem _ hy)) with e | e
      · have := g2.1 _ hy; rw [e] at this; omega
      · exact e
theorem lst_same {S T : Tr Int} (a : Int) (hS : S.Ok) (hT : T.Ok) (h : ∀ b m v, S.Has b m v ↔ T.Has b m v) : rowsT (inB a) S = rowsT (inB a) T := by
  refine sorted_eq (rows_chain a hS) (rows_chain a hT) fun y => ?_
  rw [rows_in a hS, rows_in a hT, List.mem_filter, List.mem_filter, mem_rows, mem_rows, h]
end Go.Proofs.Ytodfimnmbfdicaa
