/- Ranges over a table's rows with one counter, that may be left early; iterators as data. Under the conditions that they name. -/
import Derived.Test.YtodfimnmbfdicaaTpT
import Derived.Test.YtodfimnmbfdicaaTpW
import Derived.Test.YtodfimnmbfdicaaTuE
namespace Go.Proofs.Ytodfimnmbfdicaa
open Go.RowKit Go.Shelf
attribute [local go_sem] Oper.semAt_some
theorem run_equalIn_func_nil {P : Program} (w : World) (d : Nat) (t : TypeId) {x y : Array TypeId} {z : Bool} (f : Fn) (a c : Array Value) (h : P.underlying t = some (.func x y z)) : (Op.equalIn (d + 1) t (.func f a c) .nilFunc).run P w = .ok false w := by
  simp [Op.equalIn, run_underlying h]
theorem run_eql_func_nil {P : Program} (w : World) (t : TypeId) {x y : Array TypeId} {z : Bool} (f : Fn) (a c : Array Value) (h : P.underlying t = some (.func x y z)) : (binOp .eql t (.func f a c) .nilFunc).run P w = .ok (.bool false) w := by
  simp only [binOp]
  simp [show Op.equal t (.func f a c) .nilFunc = Op.equalIn (9999 + 1) t (.func f a c) .nilFunc from rfl, run_equalIn_func_nil w 9999 t f a c h]
/-- One counter, and what stands since. -/
structure C1 (N : Nat) (wr : World) (c : Int) (W : World) : Prop where
  bel : Below N wr W
  r0 : W.heap[N]? = some (.cells #[.int .i64 c] 3 (0, 0))
/-- What a round leaves, so far. -/
structure Rd1 (N n1 : Nat) (W W' : World) : Prop where
  kf : KeepsFrom n1 W W'
  kp : Kpx n1 (fun y => y = N) W W'
section
variable {N n1 : Nat} {wr W W' W'' : World} {c : Int}
theorem C1.lt (h : C1 N wr c W) : N < W.heap.size := blk_lt h.r0
theorem C1.call (h : C1 N wr c W) (hb : Below W.heap.size W W') : C1 N wr c W' :=
  ⟨h.bel.trans (hb.mono (by have := h.lt; omega)), (hb.block _ (blk_lt h.r0)).trans h.r0⟩
theorem C1.s0 (h : C1 N wr c W) (v : Int) : C1 N wr v (W.setCell ⟨N, 0, none⟩ (.int .i64 v)) := by
  obtain ⟨a1, b1, c1, d1⟩ := set1 (v := .int .i64 v) (i := 0) h.r0 rfl
  exact ⟨h.bel.trans d1, a1⟩
theorem Rd1.refl : Rd1 N n1 W W := ⟨KeepsFrom.refl _ _, Kpx.refl _ _ _⟩
theorem Rd1.call (h : Rd1 N n1 W W') (hn : n1 ≤ W'.heap.size) (hb : Below W'.heap.size W' W'') : Rd1 N n1 W W'' :=
  ⟨h.kf.trans (below_keeps n1 hb), h.kp.trans (Kpx.of hb hn)⟩
theorem Rd1.set (h : Rd1 N n1 W W') (v : Value) : Rd1 N n1 W (W'.setCell ⟨N, 0, none⟩ v) := by
  have hb : Below N W' (W'.setCell ⟨N, 0, none⟩ v) := (Below.refl _ _).setCell (p := ⟨N, 0, none⟩) (Nat.le_refl _) _
  exact ⟨h.kf.trans ((KeepsOthers.setCell _ _ _).from _), h.kp.trans ⟨hb.os, hb.tape, hb.output, hb.size, fun y hy hs => Below.heap_setCell _ ⟨N, 0, none⟩ _ y (fun e => hs (by subst e; rfl))⟩⟩
end
/-- Where one is in such a loop. -/
structure In1 (N n1 : Nat) (wr : World) (Mk : List Nat) (c : Int) (W : World) : Prop where
  ct : C1 N wr c W
  sz : n1 ≤ W.heap.size
  marks : ∀ D ∈ Mk, W.heap[D]? = some (.deferred (some []))
theorem In1.kept {N n1 : Nat} {wr : World} {Mk : List Nat} {c c' : Int} {W W' : World} (h : In1 N n1 wr Mk c W) (hM : ∀ D ∈ Mk, D < n1 ∧ ¬ D = N) (hr : Rd1 N n1 W W') (hc : C1 N wr c' W') : In1 N n1 wr Mk c' W' :=
  ⟨hc, Nat.le_trans h.sz hr.kp.size, fun D hD => (hr.kp.block D (hM D hD).1 (hM D hD).2).trans (h.marks D hD)⟩
set_option maxRecDepth 100000 in
theorem range_cut {N n1 : Nat} {wr : World} {rows : List Kv} {K : Nat} {Mk : List Nat} (br : Prop) (F : Kv → Array Value)
    {gop : Operand} {ps : Array Tmp} {assign body : Code} {Q : Exit → Act → World → Prop} {a : Act} {w : World} {gf : Nat} {lb : Array Value}
    (hg : a.eval gop = .func (.func gf) #[] lb) (hp : ps.size = 2) (hFg : Fence.wide.fn gf) (eg : ∀ args w, (callFunc gf args).run Try.prog w = .ok (.enter gf args) w)
    (hseq : SeqStopsK Fence.wide (8 - 1) Try.prog gf lb encN (Kpx n1 (fun y => y = N)) (fun xs => xs = rows) (fun pre => pre <+: rows) K w)
    (hrg : ∀ y ∈ rows, 0 ≤ y.1.1 ∧ y.1.1 < 4294967296) (hn1 : w.heap.size = n1) (hM : ∀ D ∈ Mk, D < n1 ∧ ¬ D = N)
    (h0 : In1 N n1 wr Mk 0 w)
    (hassign : ∀ (l : Nat) (y : Kv) (W : World) (K : Act → World → Prop), Hid (K { tmps := F y, defers := [] } W) →
      assign.wpIn (Fence.wide.inRound l) (8 - 1 - 1) Try.prog (Exit.then K (fun _ _ _ => False)) { tmps := (ps.zip (encKv y)).foldl (fun t (p, v) => t.setIfInBounds p v) a.tmps, defers := [] } W)
    (hbody : ∀ (l : Nat) (pre : List Kv) (x : Kv) (y : Kv) (W : World), nk x = y → 0 ≤ y.1.1 → y.1.1 < 4294967296 → In1 N n1 wr Mk (pre.length : Int) W → pre.length < K →
      body.wpIn (Fence.wide.inRound l) (8 - 1 - 1) Try.prog (ownPostG n1 (Kpx n1 (fun y => y = N)) (fun q W => In1 N n1 wr Mk (q.length : Int) W) (fun c q W => (¬ q.map nk <+: rows) ∨ (br ∧ c = .exit 0 ∧ In1 N n1 wr Mk (q.length : Int) W)) (pre ++ [x]) W) { tmps := F y, defers := [] } W)
    (hdone : ∀ (D : Nat) (W : World), n1 ≤ D → In1 N n1 wr (D :: Mk) (rows.length : Int) W → Q .normal { a with defers := { target := .collected D, args := #[] } :: a.defers } W)
    (hbreak : br → ∀ (D : Nat) (c : Int) (W : World), n1 ≤ D → In1 N n1 wr (D :: Mk) c W → (Code.exit 0).wpIn Fence.wide 8 Try.prog Q { a with defers := { target := .collected D, args := #[] } :: a.defers } W) :
    (Code.rangeFunc gop ps assign body).wpIn Fence.wide 8 Try.prog Q a w := by
  subst hn1
  have own : ∀ q : List Kv, ∀ A B row, In1 N w.heap.size wr Mk (q.length : Int) A → A.grownBy B row → (∀ r, row = some r → w.heap.size ≤ r ∧ ∃ o : Obj, A.heap[r]? = some o ∧ o.isCells = false) → In1 N w.heap.size wr Mk (q.length : Int) B := fun q A B row hs hg' hr => by
    have hr' : ∀ r, row = some r → ∃ o : Obj, A.heap[r]? = some o ∧ o.isCells = false := fun r e => (hr r e).2
    have hlt := hs.ct.lt
    exact ⟨⟨hs.ct.bel.grown hg' (by omega) (fun k e => by have := (hr k e).1; have := h0.ct.lt; omega), row_kept hs.ct.r0 hg' hr'⟩, Nat.le_trans hs.sz hg'.size, fun D hD => (hg'.block D (Array.getElem?_eq_some_iff.1 (hs.marks D hD)).1 (fun e => by have := (hr D e.symm).1; have := (hM D hD).1; omega)).trans (hs.marks D hD)⟩
  refine wpIn_rangeFunc_ownH (n := 8) rfl (by omega) hg hFg eg hseq Kpx.trans (fun W l o o' hl h1 _ _ => ⟨rfl, rfl, rfl, by simp [World.putObj], fun y hy _ => by simp only [World.putObj]; rw [Array.getElem?_setIfInBounds, if_neg (by omega)]⟩) (Below.refl _ _) (fun x => by rw [hp]; rfl)
    (fun q W => In1 N w.heap.size wr Mk (q.length : Int) W) (fun c q W => (¬ q.map nk <+: rows) ∨ (br ∧ c = .exit 0 ∧ In1 N w.heap.size wr Mk (q.length : Int) W))
    (fun s A B row hs hg' hr => own s A B row hs hg' hr) (fun c s A B row hs hg' hr => hs.imp id fun h => ⟨h.1, h.2.1, own s A B row h.2.2 hg' hr⟩) h0
    (fun x a' W => a' = { tmps := F (nk x), defers := [] })
    (fun y a' => fun _ A B row hs hg' hr => hs) ?assign ?body ?done ?stop
  case assign =>
    intro l pre x W K' hI hK
    exact hassign l (nk x) W K' (Lib.hid (hK _ _ (KeepsFrom.refl _ _) (Kpx.refl _ _ _) hI rfl))
  case body =>
    rintro l pre x a' W hl _ hI rfl hlen
    exact hbody l pre x (nk x) W rfl (nm_rg _).1 (nm_rg _).2 hI hlen
  case done =>
    rintro D xs W hD rfl hI hK
    refine hdone D W hD ⟨hI.ct, hI.sz, fun D' hD' => ?_⟩
    rcases List.mem_cons.1 hD' with h' | h'
    · rw [h']; exact hK
    · exact hI.marks _ h'
  case stop =>
    intro D c pre W hD hSp hx hK
    rcases hx with hx | ⟨hbr, rfl, hI⟩
    · refine absurd ?_ hx
      have := hSp.map nk
      rwa [nk_all hrg] at this
    · refine hbreak hbr D _ W hD ⟨hI.ct, hI.sz, fun D' hD' => ?_⟩
      rcases List.mem_cons.1 hD' with h' | h'
      · rw [h']; exact hK
      · exact hI.marks _ h'
set_option maxRecDepth 100000 in
theorem range_cmp {N n1 : Nat} {wr : World} {rows : List Kv} {K : Nat} {Mk : List Nat} (br : Prop) (F : Nat → Kv → Array Value)
    {gop : Operand} {ps : Array Tmp} {assign body : Code} {Q : Exit → Act → World → Prop} {a : Act} {w : World} {gf : Nat} {lb : Array Value}
    (hg : a.eval gop = .func (.func gf) #[] lb) (hp : ps.size = 2) (hFg : Fence.wide.fn gf) (eg : ∀ args w, (callFunc gf args).run Try.prog w = .ok (.enter gf args) w)
    (hseq : SeqStopsK Fence.wide (8 - 1) Try.prog gf lb encN (Kpx n1 (fun y => y = N)) (fun xs => xs = rows) (fun pre => pre <+: rows) K w)
    (hrg : ∀ y ∈ rows, 0 ≤ y.1.1 ∧ y.1.1 < 4294967296) (hn1 : w.heap.size = n1) (hM : ∀ D ∈ Mk, D < n1 ∧ ¬ D = N)
    (h0 : In1 N n1 wr Mk 0 w)
    (hassign : ∀ (l : Nat) (y : Kv) (W : World) (C : Nat) (K : Act → World → Prop), W.heap.size = C → Hid (K { tmps := F C y, defers := [] } (W.alloc (.cells #[.int .u32 y.1.1, .int .i64 y.1.2] 34))) →
      assign.wpIn (Fence.wide.inRound l) (8 - 1 - 1) Try.prog (Exit.then K (fun _ _ _ => False)) { tmps := (ps.zip (encKv y)).foldl (fun t (p, v) => t.setIfInBounds p v) a.tmps, defers := [] } W)
    (hbody : ∀ (l : Nat) (pre : List Kv) (x : Kv) (y : Kv) (B : Nat) (W : World), nk x = y → 0 ≤ y.1.1 → y.1.1 < 4294967296 → In1 N n1 wr Mk (pre.length : Int) W → W.heap[B]? = some (.cells #[.int .u32 y.1.1, .int .i64 y.1.2] 34 (0, 0)) → n1 ≤ B → pre.length < K →
      body.wpIn (Fence.wide.inRound l) (8 - 1 - 1) Try.prog (ownPostG n1 (Kpx n1 (fun y => y = N)) (fun q W => In1 N n1 wr Mk (q.length : Int) W) (fun c q W => (¬ q.map nk <+: rows) ∨ (br ∧ c = .exit 0 ∧ In1 N n1 wr Mk (q.length : Int) W)) (pre ++ [x]) W) { tmps := F B y, defers := [] } W)
    (hdone : ∀ (D : Nat) (W : World), n1 ≤ D → In1 N n1 wr (D :: Mk) (rows.length : Int) W → Q .normal { a with defers := { target := .collected D, args := #[] } :: a.defers } W)
    (hbreak : br → ∀ (D : Nat) (c : Int) (W : World), n1 ≤ D → In1 N n1 wr (D :: Mk) c W → (Code.exit 0).wpIn Fence.wide 8 Try.prog Q { a with defers := { target := .collected D, args := #[] } :: a.defers } W) :
    (Code.rangeFunc gop ps assign body).wpIn Fence.wide 8 Try.prog Q a w := by
  subst hn1
  have own : ∀ q : List Kv, ∀ A B row, In1 N w.heap.size wr Mk (q.length : Int) A → A.grownBy B row → (∀ r, row = some r → w.heap.size ≤ r ∧ ∃ o : Obj, A.heap[r]? = some o ∧ o.isCells = false) → In1 N w.heap.size wr Mk (q.length : Int) B := fun q A B row hs hg' hr => by
    have hr' : ∀ r, row = some r → ∃ o : Obj, A.heap[r]? = some o ∧ o.isCells = false := fun r e => (hr r e).2
    have hlt := hs.ct.lt
    exact ⟨⟨hs.ct.bel.grown hg' (by omega) (fun k e => by have := (hr k e).1; have := h0.ct.lt; omega), row_kept hs.ct.r0 hg' hr'⟩, Nat.le_trans hs.sz hg'.size, fun D hD => (hg'.block D (Array.getElem?_eq_some_iff.1 (hs.marks D hD)).1 (fun e => by have := (hr D e.symm).1; have := (hM D hD).1; omega)).trans (hs.marks D hD)⟩
  refine wpIn_rangeFunc_ownH (n := 8) rfl (by omega) hg hFg eg hseq Kpx.trans (fun W l o o' hl h1 _ _ => ⟨rfl, rfl, rfl, by simp [World.putObj], fun y hy _ => by simp only [World.putObj]; rw [Array.getElem?_setIfInBounds, if_neg (by omega)]⟩) (Below.refl _ _) (fun x => by rw [hp]; rfl)
    (fun q W => In1 N w.heap.size wr Mk (q.length : Int) W) (fun c q W => (¬ q.map nk <+: rows) ∨ (br ∧ c = .exit 0 ∧ In1 N w.heap.size wr Mk (q.length : Int) W))
    (fun s A B row hs hg' hr => own s A B row hs hg' hr) (fun c s A B row hs hg' hr => hs.imp id fun h => ⟨h.1, h.2.1, own s A B row h.2.2 hg' hr⟩) h0
    (fun x a' W => ∃ B : Nat, W.heap[B]? = some (.cells #[.int .u32 (nk x).1.1, .int .i64 (nk x).1.2] 34 (0, 0)) ∧ w.heap.size ≤ B ∧ a' = { tmps := F B (nk x), defers := [] })
    (fun y a' => fun _ A B row hs hg' hr => by
      obtain ⟨C, h1, h2, h3⟩ := hs
      exact ⟨C, row_kept h1 hg' (fun r e => (hr r e).2), h2, h3⟩) ?assign ?body ?done ?stop
  case assign =>
    intro l pre x W K' hI hK
    refine hassign l (nk x) W W.heap.size K' rfl (Lib.hid ?_)
    have hb : Below W.heap.size W (W.alloc (.cells #[.int .u32 (nk x).1.1, .int .i64 (nk x).1.2] 34)) := (Below.refl _ _).alloc (Nat.le_refl _) _
    have hr : Rd1 N w.heap.size W _ := Rd1.refl.call hI.sz hb
    exact hK _ _ hr.kf hr.kp (hI.kept hM hr (hI.ct.call hb)) ⟨W.heap.size, heap_alloc_new W _, hI.sz, rfl⟩
  case body =>
    rintro l pre x a' W hl _ hI ⟨B, h1, h2, rfl⟩ hlen
    exact hbody l pre x (nk x) B W rfl (nm_rg _).1 (nm_rg _).2 hI h1 h2 hlen
  case done =>
    rintro D xs W hD rfl hI hK
    refine hdone D W hD ⟨hI.ct, hI.sz, fun D' hD' => ?_⟩
    rcases List.mem_cons.1 hD' with h' | h'
    · rw [h']; exact hK
    · exact hI.marks _ h'
  case stop =>
    intro D c pre W hD hSp hx hK
    rcases hx with hx | ⟨hbr, rfl, hI⟩
    · refine absurd ?_ hx
      have := hSp.map nk
      rwa [nk_all hrg] at this
    · refine hbreak hbr D _ W hD ⟨hI.ct, hI.sz, fun D' hD' => ?_⟩
      rcases List.mem_cons.1 hD' with h' | h'
      · rw [h']; exact hK
      · exact hI.marks _ h'
/-- A sequence that goes over these rows; P: the blocks in which it lies. -/
def Iter (P : Nat → Prop) (w : World) (v : Value) (R : List Kv) : Prop :=
  (∃ b root T, v = seqV b ∧ SeqA w b root ∧ T.Ok ∧ Nd_i P w root T ∧ P b ∧ P (b + 1) ∧ R = rowsT allP T) ∨
  (∃ x a0 b root T, v = seqV b ∧ SeqO w x a0 b root ∧ T.Ok ∧ Nd_i P w root T ∧ P b ∧ P (b + 1) ∧ P a0 ∧ R = rowsT (inB x) T)
theorem Iter.keep {P : Nat → Prop} {w w' : World} {v : Value} {R : List Kv} (h : Iter P w v R) (hk : ∀ y, P y → w'.heap[y]? = w.heap[y]?) : Iter P w' v R := by
  rcases h with ⟨b, root, T, h1, h2, h3, h4, h5, h6, h7⟩ | ⟨x, a0, b, root, T, h1, h2, h3, h4, h5, h6, h7, h8⟩
  · exact .inl ⟨b, root, T, h1, ⟨(hk b h5).trans h2.box, (hk _ h6).trans h2.lead⟩, h3, TrAt.keep (fun y _ hp => ⟨hp, hk y hp⟩) h4, h5, h6, h7⟩
  · exact .inr ⟨x, a0, b, root, T, h1, ⟨(hk b h5).trans h2.box, (hk _ h6).trans h2.lead, (hk _ h7).trans h2.addr⟩, h3, TrAt.keep (fun y _ hp => ⟨hp, hk y hp⟩) h4, h5, h6, h7, h8⟩
theorem Iter.rg {P : Nat → Prop} {w : World} {v : Value} {R : List Kv} (h : Iter P w v R) : ∀ y ∈ R, 0 ≤ y.1.1 ∧ y.1.1 < 4294967296 := by
  rcases h with ⟨b, root, T, h1, h2, h3, h4, h5, h6, rfl⟩ | ⟨x, a0, b, root, T, h1, h2, h3, h4, h5, h6, h7, rfl⟩
  · exact rows_pf h3
  · exact rows_pf h3
theorem Iter.stops {P : Nat → Prop} {w : World} {v : Value} {R : List Kv} (h : Iter P w v R) (n n1 : Nat) (S : Nat → Prop) (hP : ∀ y, P y → In_n n1 S y) (hn : n1 ≤ w.heap.size) : ∃ b, v = seqV b ∧
    SeqStopsK Fence.wide n Try.prog 50 #[.pointer (some ⟨b, 0, none⟩), .pointer (some ⟨b + 1, 0, none⟩)] encN (Kpx n1 S) (fun xs => xs = R) (fun pre => pre <+: R) R.length w := by
  rcases h with ⟨b, root, T, h1, h2, h3, h4, h5, h6, rfl⟩ | ⟨x, a0, b, root, T, h1, h2, h3, h4, h5, h6, h7, rfl⟩
  · exact ⟨b, h1, any_stops encN encN_ok n n1 S b root T w h2 h3 (TrAt.keep (fun y _ hp => ⟨hP y hp, rfl⟩) h4) hn (hP _ h5) (hP _ h6)⟩
  · exact ⟨b, h1, over_stops encN encN_ok n n1 S x a0 b root T w h2 h3 (TrAt.keep (fun y _ hp => ⟨hP y hp, rfl⟩) h4) hn (hP _ h5) (hP _ h6) (hP _ h7)⟩
end Go.Proofs.Ytodfimnmbfdicaa
