/- A loop over a table's rows, with three counters. Under the conditions that it names. -/
import Derived.Test.YtodfimnmbfdicaaTpU
namespace Go.Proofs.Ytodfimnmbfdicaa
open Go.RowKit Go.Shelf
/-- An address, as thirty-two bits hold it. -/
def nm (z : Int) : Int := z % 4294967296
theorem nm_of {z : Int} (h : 0 ≤ z) (h2 : z < 4294967296) : nm z = z := Int.emod_eq_of_lt h h2
theorem nm_rg (z : Int) : 0 ≤ nm z ∧ nm z < 4294967296 := ⟨Int.emod_nonneg _ (by decide), Int.emod_lt_of_pos _ (by decide)⟩
def nk (x : Kv) : Kv := ((nm x.1.1, x.1.2), x.2)
def encN (x : Kv) : Array Value := encKv (nk x)
theorem encN_ok : EncOk encN := fun y h h2 => by unfold encN nk; rw [nm_of h h2]
theorem nk_all : ∀ {l : List Kv}, (∀ y ∈ l, 0 ≤ y.1.1 ∧ y.1.1 < 4294967296) → l.map nk = l
  | [], _ => rfl
  | x :: r, h => by
    rw [List.map_cons, nk_all fun y hy => h y (List.mem_cons_of_mem _ hy)]
    have := h x (List.mem_cons_self ..)
    unfold nk
    rw [nm_of this.1 this.2]
theorem rows3 (w : World) (o0 o1 o2 : Obj) : (((w.alloc o0).alloc o1).alloc o2).heap[w.heap.size]? = some o0 ∧ (((w.alloc o0).alloc o1).alloc o2).heap[w.heap.size + 1]? = some o1 ∧ (((w.alloc o0).alloc o1).alloc o2).heap[w.heap.size + 1 + 1]? = some o2 := by
  have h0 := two_rows w o0 o1
  have h2 := heap_alloc_new ((w.alloc o0).alloc o1) o2
  simp only [World.size_alloc] at h2
  exact ⟨(Below.heap_alloc _ _ _ (by simp only [World.size_alloc]; omega)).trans h0.1, (Below.heap_alloc _ _ _ (by simp only [World.size_alloc]; omega)).trans h0.2, h2⟩
/-- How many hold an address. -/
def cIn (a : Int) (l : List Kv) : Int := ((l.filter fun y => inB a y.1.1 y.1.2).length : Int)
theorem cIn_yes {a : Int} {l : List Kv} {y : Kv} (h : inB a y.1.1 y.1.2 = true) : cIn a (l ++ [y]) = cIn a l + 1 := by unfold cIn; rw [List.filter_append]; simp [h]
theorem cIn_no {a : Int} {l : List Kv} {y : Kv} (h : inB a y.1.1 y.1.2 = false) : cIn a (l ++ [y]) = cIn a l := by unfold cIn; rw [List.filter_append]; simp [h]
theorem cIn_rg (a : Int) (l : List Kv) : 0 ≤ cIn a l ∧ cIn a l ≤ l.length := by
  unfold cIn
  have := List.length_filter_le (fun y : Kv => inB a y.1.1 y.1.2) l
  omega
/-- How many lie within a prefix. -/
def cWi (b m : Int) (l : List Kv) : Int := ((l.filter fun y => wiB y.1.1 y.1.2 b m).length : Int)
theorem cWi_yes {b m : Int} {l : List Kv} {y : Kv} (h : wiB y.1.1 y.1.2 b m = true) : cWi b m (l ++ [y]) = cWi b m l + 1 := by unfold cWi; rw [List.filter_append]; simp [h]
theorem cWi_no {b m : Int} {l : List Kv} {y : Kv} (h : wiB y.1.1 y.1.2 b m = false) : cWi b m (l ++ [y]) = cWi b m l := by unfold cWi; rw [List.filter_append]; simp [h]
theorem cWi_rg (b m : Int) (l : List Kv) : 0 ≤ cWi b m l ∧ cWi b m l ≤ l.length := by
  unfold cWi
  have := List.length_filter_le (fun y : Kv => wiB y.1.1 y.1.2 b m) l
  omega
theorem rows_pf {p : Int → Int → Bool} {T : Tr Int} (h : T.Ok) : ∀ y ∈ rowsT p T, 0 ≤ y.1.1 ∧ y.1.1 < 4294967296 := fun y hy => ⟨(rows_mem (Tr.all_ok h) y hy).1.1, (rows_mem (Tr.all_ok h) y hy).1.2.1⟩
theorem rows_few : ∀ {T : Tr Int} {k c : Int} {d : Nat}, T.Ok → T.All (Reg k c) → 33 ≤ k + d → (rowsT allP T).length + 1 ≤ 2 ^ d
  | .nil, _, _, d, _, _, _ => by
    show 0 + 1 ≤ 2 ^ d
    exact Nat.one_le_two_pow
  | .node a n u l r, k, c, d, h, ha, hk => by
    have h1 := ha.1.1
    have h2 := h.1.bits
    obtain ⟨e, rfl⟩ : ∃ e, d = e + 1 := ⟨d - 1, by omega⟩
    have hl := rows_few (d := e) h.2.2.2.1 h.2.1 (by omega)
    have hr := rows_few (d := e) h.2.2.2.2 h.2.2.1 (by omega)
    have ho : (oneR a n u).length ≤ 1 := by cases u <;> simp [oneR]
    rw [rows_all, List.length_append, List.length_append, Nat.pow_succ]
    omega
theorem rows_short {T : Tr Int} (h : T.Ok) : (rowsT allP T).length < 2 ^ 34 := by
  cases T with
  | nil => show 0 < 2 ^ 34; decide
  | node a n u l r =>
    have h2 := h.1.bits
    have hl := rows_few (d := 32) h.2.2.2.1 h.2.1 (by omega)
    have hr := rows_few (d := 32) h.2.2.2.2 h.2.2.1 (by omega)
    have ho : (oneR a n u).length ≤ 1 := by cases u <;> simp [oneR]
    rw [rows_all, List.length_append, List.length_append]
    have : (2 : Nat) ^ 32 + 2 ^ 32 + 1 < 2 ^ 34 := by decide
    omega
theorem not_pre {pre rows : List Kv} {x y : Kv} (hxy : nk x = y) (h : y ∉ rows) : ¬ (pre ++ [x]).map nk <+: rows := fun hp => h (hp.subset (by rw [List.map_append]; simp [hxy]))
/-- The bits of what came last. -/
def lastB (l : List Kv) : Int := match l.getLast? with
  | none => -1
  | some x => x.1.2
theorem lastB_snoc (l : List Kv) (y : Kv) : lastB (l ++ [y]) = y.1.2 := by simp [lastB]
theorem last_pre {pre rows : List Kv} {x y : Kv} (hxy : nk x = y) (hch : rows.Pairwise fun y z => y.1.2 < z.1.2) (hpos : ∀ y ∈ rows, 0 ≤ y.1.2) (hle : y.1.2 ≤ lastB (pre.map nk)) : ¬ (pre ++ [x]).map nk <+: rows := by
  intro hp
  rw [List.map_append, List.map_singleton, hxy] at hp
  generalize pre.map nk = P at hp hle
  have hq := hch.sublist hp.sublist
  rcases List.eq_nil_or_concat P with rfl | ⟨A, z, rfl⟩
  · have := hpos y (hp.subset (by simp))
    simp [lastB] at hle
    omega
  · rw [List.concat_eq_append] at hle hq
    rw [lastB_snoc] at hle
    have := (List.pairwise_append.1 hq).2.2 z (by simp) y (by simp)
    omega
theorem lastB_rg {rows : List Kv} (h : ∀ y ∈ rows, 0 ≤ y.1.2 ∧ y.1.2 ≤ 32) : -1 ≤ lastB rows ∧ lastB rows ≤ 32 := by
  unfold lastB
  cases hg : rows.getLast? with
  | none => decide
  | some x => have := h x (List.mem_of_getLast? hg); simp only; omega
theorem rows_bits {p : Int → Int → Bool} {T : Tr Int} (h : T.Ok) : ∀ y ∈ rowsT p T, 0 ≤ y.1.2 := fun y hy => (PfOk.bits (rows_mem (Tr.all_ok h) y hy).1).1
theorem lst_lastB (R : List Kv) : ((lst R).2.2 = false → lastB R = -1) ∧ ((lst R).2.2 = true → lastB R = (lst R).1.2) := by
  unfold lst lastB
  cases R.getLast? with
  | none => exact ⟨fun _ => rfl, fun h => by cases h⟩
  | some x => exact ⟨fun h => Bool.noConfusion h, fun _ => rfl⟩
theorem drop_mark (W : World) (D : Nat) (o : Obj) : (∀ x, x ≠ D → (W.putObj D o).heap[x]? = W.heap[x]?) ∧ Below D W (W.putObj D o) := by
  have h : ∀ x, x ≠ D → (W.putObj D o).heap[x]? = W.heap[x]? := fun x hx => by
    simp only [World.putObj]
    rw [Array.getElem?_setIfInBounds, if_neg (by omega)]
  exact ⟨h, rfl, rfl, rfl, by simp [World.putObj], fun x hx => h x (by omega)⟩
/-- Three counters, and what stands since. -/
structure Ctr (N : Nat) (wr : World) (c d e : Int) (W : World) : Prop where
  bel : Below N wr W
  r0 : W.heap[N]? = some (.cells #[.int .i64 c] 3 (0, 0))
  r1 : W.heap[N + 1]? = some (.cells #[.int .i64 d] 3 (0, 0))
  r2 : W.heap[N + 1 + 1]? = some (.cells #[.int .i64 e] 3 (0, 0))
def Sx (N y : Nat) : Prop := N ≤ y ∧ y < N + 3
section
variable {N n1 : Nat} {wr W W' W'' : World} {c d e : Int}
theorem Ctr.lt (h : Ctr N wr c d e W) : N + 2 < W.heap.size := blk_lt h.r2
theorem Ctr.call (h : Ctr N wr c d e W) (hb : Below W.heap.size W W') : Ctr N wr c d e W' :=
  ⟨h.bel.trans (hb.mono (by have := h.lt; omega)), (hb.block _ (blk_lt h.r0)).trans h.r0, (hb.block _ (blk_lt h.r1)).trans h.r1, (hb.block _ (blk_lt h.r2)).trans h.r2⟩
theorem Ctr.s0 (h : Ctr N wr c d e W) (v : Int) : Ctr N wr v d e (W.setCell ⟨N, 0, none⟩ (.int .i64 v)) := by
  obtain ⟨a1, b1, c1, d1⟩ := set1 (v := .int .i64 v) (i := 0) h.r0 rfl
  exact ⟨h.bel.trans d1, a1, (b1 _ (by omega)).trans h.r1, (b1 _ (by omega)).trans h.r2⟩
theorem Ctr.s1 (h : Ctr N wr c d e W) (v : Int) : Ctr N wr c v e (W.setCell ⟨N + 1, 0, none⟩ (.int .i64 v)) := by
  obtain ⟨a1, b1, c1, d1⟩ := set1 (v := .int .i64 v) (i := 0) h.r1 rfl
  exact ⟨h.bel.trans (d1.mono (by omega)), (b1 _ (by omega)).trans h.r0, a1, (b1 _ (by omega)).trans h.r2⟩
theorem Ctr.s2 (h : Ctr N wr c d e W) (v : Int) : Ctr N wr c d v (W.setCell ⟨N + 1 + 1, 0, none⟩ (.int .i64 v)) := by
  obtain ⟨a1, b1, c1, d1⟩ := set1 (v := .int .i64 v) (i := 0) h.r2 rfl
  exact ⟨h.bel.trans (d1.mono (by omega)), (b1 _ (by omega)).trans h.r0, (b1 _ (by omega)).trans h.r1, a1⟩
/-- What a round leaves, so far. -/
structure Rd (N n1 : Nat) (W W' : World) : Prop where
  kf : KeepsFrom n1 W W'
  kp : Kpx n1 (Sx N) W W'
theorem Rd.refl : Rd N n1 W W := ⟨KeepsFrom.refl _ _, Kpx.refl _ _ _⟩
theorem below_keeps (n1 : Nat) (hb : Below W.heap.size W W') : KeepsFrom n1 W W' :=
  KeepsFrom.of_grownBy (row := none) ⟨hb.os, hb.tape, hb.output, hb.size, fun k hk _ => hb.block k hk⟩ (fun _ e => by cases e)
theorem Rd.call (h : Rd N n1 W W') (hn : n1 ≤ W'.heap.size) (hb : Below W'.heap.size W' W'') : Rd N n1 W W'' :=
  ⟨h.kf.trans (below_keeps n1 hb), h.kp.trans (Kpx.of hb hn)⟩
theorem Rd.set (h : Rd N n1 W W') {b : Nat} (v : Value) (h0 : N ≤ b) (h1 : b < N + 3) : Rd N n1 W (W'.setCell ⟨b, 0, none⟩ v) := by
  have hb : Below b W' (W'.setCell ⟨b, 0, none⟩ v) := (Below.refl _ _).setCell (p := ⟨b, 0, none⟩) (Nat.le_refl _) _
  exact ⟨h.kf.trans ((KeepsOthers.setCell _ _ _).from _), h.kp.trans ⟨hb.os, hb.tape, hb.output, hb.size, fun y hy hs => Below.heap_setCell _ ⟨b, 0, none⟩ _ y (fun e => hs (by subst e; exact ⟨h0, h1⟩))⟩⟩
end
/-- Where one is in such a loop. -/
structure InL (N n1 : Nat) (wr : World) (Mk : List Nat) (c d e : Int) (W : World) : Prop where
  ct : Ctr N wr c d e W
  sz : n1 ≤ W.heap.size
  marks : ∀ D ∈ Mk, W.heap[D]? = some (.deferred (some []))
theorem InL.kept {N n1 : Nat} {wr : World} {Mk : List Nat} {c d e c' d' e' : Int} {W W' : World} (h : InL N n1 wr Mk c d e W) (hM : ∀ D ∈ Mk, D < n1 ∧ ¬ Sx N D) (hr : Rd N n1 W W') (hc : Ctr N wr c' d' e' W') : InL N n1 wr Mk c' d' e' W' :=
  ⟨hc, Nat.le_trans h.sz hr.kp.size, fun D hD => (hr.kp.block D (hM D hD).1 (hM D hD).2).trans (h.marks D hD)⟩
set_option maxRecDepth 100000 in
theorem range_ctr {N n1 : Nat} {wr : World} {rows : List Kv} {K : Nat} {Mk : List Nat} (f g h : List Kv → Int) (F : Nat → Kv → Array Value)
    {gop : Operand} {ps : Array Tmp} {assign body : Code} {Q : Exit → Act → World → Prop} {a : Act} {w : World} {gf : Nat} {lb : Array Value}
    (hg : a.eval gop = .func (.func gf) #[] lb) (hp : ps.size = 2) (hFg : Fence.wide.fn gf) (eg : ∀ args w, (callFunc gf args).run Try.prog w = .ok (.enter gf args) w)
    (hseq : SeqStopsK Fence.wide (8 - 1) Try.prog gf lb encN (Kpx n1 (Sx N)) (fun xs => xs = rows) (fun pre => pre <+: rows) K w)
    (hrg : ∀ y ∈ rows, 0 ≤ y.1.1 ∧ y.1.1 < 4294967296) (hn1 : w.heap.size = n1) (hM : ∀ D ∈ Mk, D < n1 ∧ ¬ Sx N D)
    (h0 : InL N n1 wr Mk (f []) (g []) (h []) w)
    (hassign : ∀ (l : Nat) (y : Kv) (W : World) (C : Nat) (K : Act → World → Prop), W.heap.size = C → Hid (K { tmps := F C y, defers := [] } (W.alloc (.cells #[.int .u32 y.1.1, .int .i64 y.1.2] 34))) →
      assign.wpIn (Fence.wide.inRound l) (8 - 1 - 1) Try.prog (Exit.then K (fun _ _ _ => False)) { tmps := (ps.zip (encKv y)).foldl (fun t (p, v) => t.setIfInBounds p v) a.tmps, defers := [] } W)
    (hbody : ∀ (l : Nat) (pre : List Kv) (x : Kv) (y : Kv) (B : Nat) (W : World), nk x = y → 0 ≤ y.1.1 → y.1.1 < 4294967296 → InL N n1 wr Mk (f (pre.map nk)) (g (pre.map nk)) (h (pre.map nk)) W → W.heap[B]? = some (.cells #[.int .u32 y.1.1, .int .i64 y.1.2] 34 (0, 0)) → n1 ≤ B → pre.length < K →
      body.wpIn (Fence.wide.inRound l) (8 - 1 - 1) Try.prog (ownPostG n1 (Kpx n1 (Sx N)) (fun q W => InL N n1 wr Mk (f (q.map nk)) (g (q.map nk)) (h (q.map nk)) W) (fun _ q _ => ¬ q.map nk <+: rows) (pre ++ [x]) W) { tmps := F B y, defers := [] } W)
    (hdone : ∀ (D : Nat) (W : World), n1 ≤ D → InL N n1 wr (D :: Mk) (f rows) (g rows) (h rows) W → Q .normal { a with defers := { target := .collected D, args := #[] } :: a.defers } W) :
    (Code.rangeFunc gop ps assign body).wpIn Fence.wide 8 Try.prog Q a w := by
  subst hn1
  refine wpIn_rangeFunc_ownH (n := 8) rfl (by omega) hg hFg eg hseq Kpx.trans (fun W l o o' hl h1 _ _ => ⟨rfl, rfl, rfl, by simp [World.putObj], fun y hy _ => by simp only [World.putObj]; rw [Array.getElem?_setIfInBounds, if_neg (by omega)]⟩) (Below.refl _ _) (fun x => by rw [hp]; rfl)
    (fun q W => InL N w.heap.size wr Mk (f (q.map nk)) (g (q.map nk)) (h (q.map nk)) W) (fun _ q _ => ¬ q.map nk <+: rows)
    (fun s A B row hs hg' hr => ?_) (fun _ _ _ _ _ hs _ _ => hs) h0
    (fun x a' W => ∃ B : Nat, W.heap[B]? = some (.cells #[.int .u32 (nk x).1.1, .int .i64 (nk x).1.2] 34 (0, 0)) ∧ w.heap.size ≤ B ∧ a' = { tmps := F B (nk x), defers := [] })
    (fun y a' => fun _ A B row hs hg' hr => by
      obtain ⟨C, h1, h2, h3⟩ := hs
      exact ⟨C, row_kept h1 hg' (fun r e => (hr r e).2), h2, h3⟩) ?assign ?body ?done ?stop
  · have hr' : ∀ r, row = some r → ∃ o : Obj, A.heap[r]? = some o ∧ o.isCells = false := fun r e => (hr r e).2
    have hlt := hs.ct.lt
    exact ⟨⟨hs.ct.bel.grown hg' (by omega) (fun k e => by have := (hr k e).1; have := h0.ct.lt; omega), row_kept hs.ct.r0 hg' hr', row_kept hs.ct.r1 hg' hr', row_kept hs.ct.r2 hg' hr'⟩, Nat.le_trans hs.sz hg'.size, fun D hD => (hg'.block D (Array.getElem?_eq_some_iff.1 (hs.marks D hD)).1 (fun e => by have := (hr D e.symm).1; have := (hM D hD).1; omega)).trans (hs.marks D hD)⟩
  case assign =>
    intro l pre x W K' hI hK
    refine hassign l (nk x) W W.heap.size K' rfl (Lib.hid ?_)
    have hb : Below W.heap.size W (W.alloc (.cells #[.int .u32 (nk x).1.1, .int .i64 (nk x).1.2] 34)) := (Below.refl _ _).alloc (Nat.le_refl _) _
    have hr : Rd N w.heap.size W _ := Rd.refl.call hI.sz hb
    exact hK _ _ hr.kf hr.kp (hI.kept hM hr (hI.ct.call hb)) ⟨W.heap.size, heap_alloc_new W _, hI.sz, rfl⟩
  case body =>
    rintro l pre x a' W hl _ hI ⟨B, h1, h2, rfl⟩ hlen
    exact hbody l pre x (nk x) B W rfl (nm_rg _).1 (nm_rg _).2 hI h1 h2 hlen
  case done =>
    rintro D xs W hD rfl hI hK
    rw [nk_all hrg] at hI
    refine hdone D W hD ⟨hI.ct, hI.sz, fun D' hD' => ?_⟩
    rcases List.mem_cons.1 hD' with h' | h'
    · rw [h']; exact hK
    · exact hI.marks _ h'
  case stop =>
    intro D c pre W hD hSp hx _
    refine absurd ?_ hx
    have := hSp.map nk
    rwa [nk_all hrg] at this
end Go.Proofs.Ytodfimnmbfdicaa
