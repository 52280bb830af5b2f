/- What trie's Over and Longest hand back. Under the conditions that they name. -/
import Derived.Test.YtodfimnmbfdicaaTpI
namespace Go.Proofs.Ytodfimnmbfdicaa
open Go.RowKit Go.Shelf
attribute [local go_sem] Oper.semAt_some
/-- The sequence that all of a node hands back: b: where the node is kept; behind it what leads on. -/
abbrev seqV (b : Nat) : Value := .func (.func 50) #[] #[.pointer (some ⟨b, 0, none⟩), .pointer (some ⟨b + 1, 0, none⟩)]
theorem all_is (q : Option Addr) (fn : Fn) (cs : Array Value) (w : World) : Calls Try.prog 34 #[.pointer q, .func fn #[] cs] w fun e w' => e = .returned (seqV w.heap.size) ∧ w' = (w.alloc (.cells #[.pointer q] 68)).alloc (.cells #[.func fn #[] cs] 73) := by
  go_enter Try.func34, Try.ntmps34
  go_wp2_with fail
  go_ret
  exact ⟨rfl, rfl⟩
theorem top_is (t : Nat) (m : Value) (q : Option Addr) (w : World) (ht : w.heap[t]? = some (.cells #[m, .pointer q] 70 (0, 0))) : Calls Try.prog 33 #[.pointer (some ⟨t, 0, none⟩)] w fun e w' => e = .returned (.pointer q) ∧ w = w' := by
  have c1 : w.cell? ⟨t, 1, none⟩ = some (.pointer q) := row_cell ht 1
  clear ht
  go_enter Try.func33, Try.ntmps33
  go_wp2
  go_ret
  exact ⟨rfl, rfl⟩
/-- A sequence over a tree, by what leads to an address: its node's box, what leads on, the address's box. -/
structure SeqO (W : World) (x : Int) (a0 b : Nat) (root : Option Addr) : Prop where
  box : W.heap[b]? = some (.cells #[.pointer root] 68 (0, 0))
  lead : W.heap[b + 1]? = some (.cells #[.func (.func 36) #[] #[.pointer (some ⟨a0, 0, none⟩)]] 73 (0, 0))
  addr : W.heap[a0]? = some (.cells #[.int .u32 x] 32 (0, 0))
theorem over_is (t : Nat) (m : Value) (q : Option Addr) (x : Int) (w : World) (ht : w.heap[t]? = some (.cells #[m, .pointer q] 70 (0, 0))) : Calls Try.prog 10 #[.pointer (some ⟨t, 0, none⟩), .int .u32 x] w fun e w' => e = .returned (seqV (w.heap.size + 1)) ∧ SeqO w' x w.heap.size (w.heap.size + 1) q ∧ Below w.heap.size w w' ∧ w.heap.size + 3 ≤ w'.heap.size := by
  have htl := blk_lt ht
  have hb0 : Below w.heap.size w (w.alloc (.cells #[.int .u32 x] 32)) := (Below.refl _ _).alloc (Nat.le_refl _) _
  have HT := Lib.hid (top_is t m q (w.alloc (.cells #[.int .u32 x] 32)) ((hb0.block t htl).trans ht)); have HA := Lib.hid (fun q fn cs w => all_is q fn cs w)
  have HB0 := Lib.hid hb0
  clear ht hb0
  go_enter Try.func10, Try.ntmps10
  go_wp2_with fail
  go_at_call 33
  (with_reducible refine HT.out.mono ?_)
  rintro e w1 ⟨rfl, rfl⟩
  go_wp2_with fail
  go_at_call 34
  (with_reducible refine (HA.out _ _ _ _).mono ?_)
  rintro e w2 ⟨rfl, hw2⟩
  have HW := Lib.hid hw2
  clear hw2
  go_wp2_with fail
  go_ret
  have h0 := heap_alloc_new w (.cells #[.int .u32 x] 32)
  have h1 := heap_alloc_new (w.alloc (.cells #[.int .u32 x] 32)) (.cells #[.pointer q] 68)
  have h2 := heap_alloc_new ((w.alloc (.cells #[.int .u32 x] 32)).alloc (.cells #[.pointer q] 68)) (.cells #[.func (.func 36) #[] #[.pointer (some ⟨w.heap.size, 0, none⟩)]] 73)
  simp only [World.size_alloc] at h1 h2
  rw [HW.out]
  refine ⟨rfl, ⟨?_, h2, ?_⟩, (HB0.out.alloc (by simp only [World.size_alloc]; omega) _).alloc (by simp only [World.size_alloc]; omega) _, by simp only [World.size_alloc]; omega⟩
  · exact (Below.heap_alloc _ _ _ (by simp only [World.size_alloc]; omega)).trans h1
  · exact (Below.heap_alloc _ _ _ (by simp only [World.size_alloc]; omega)).trans ((Below.heap_alloc _ _ _ (by simp only [World.size_alloc]; omega)).trans h0)
theorem yield_any {m m' : Nat} {P : Program} {l : Nat} {args : Array Value} {W : World} {R : Ending → World → Prop} (h : YieldAt Fence.wide m P l args W R) : YieldAt Fence.wide m' P l args W R := by
  obtain ⟨fn, tmps, assign, body, hy, hR⟩ := h
  exact ⟨fn, tmps, assign, body, hy, hR.1, fun c cs _ => hR.2 c cs (room_wide _)⟩
theorem over_stops (enc : Kv → Array Value) (hEN : EncOk enc) (n n0 : Nat) (S : Nat → Prop) (x : Int) (a0 b : Nat) (root : Option Addr) (T : Tr Int) (w0 : World) (hs : SeqO w0 x a0 b root) (hok : T.Ok) (hnd : Nd_i (In_n n0 S) w0 root T) (hn0 : n0 ≤ w0.heap.size) (h1 : In_n n0 S b) (h2 : In_n n0 S (b + 1)) (h3 : In_n n0 S a0) :
    SeqStopsK Fence.wide n Try.prog 50 #[.pointer (some ⟨b, 0, none⟩), .pointer (some ⟨b + 1, 0, none⟩)] enc (Kpx n0 S) (fun xs => xs = rowsT (inB x) T) (fun pre => pre <+: rowsT (inB x) T) (rowsT (inB x) T).length w0 := by
  intro l J Jx W hW hJ hJx hY h0
  have hk := Kpx.of (S := S) hW hn0
  have r1 := (hk.block b h1.1 h1.2).trans hs.box
  have r2 := (hk.block (b + 1) h2.1 h2.2).trans hs.lead
  have r3 := (hk.block a0 h3.1 h3.2).trans hs.addr
  have g1 : W.cell? ⟨b, 0, none⟩ = some (.pointer root) := row_cell r1 0
  have g2 : W.cell? ⟨b + 1, 0, none⟩ = some (.func (.func 36) #[] #[.pointer (some ⟨a0, 0, none⟩)]) := row_cell r2 0
  have HV := Lib.hid (visitO_is T enc hEN x a0 n0 S J Jx l _ root [] W hok (Nd_i.kp hnd hk) (by have := hW.size; omega) h3 r3
    (fun q W1 W2 hj hb => hJ q W1 W2 none hj ⟨hb.os, hb.tape, hb.output, hb.size, fun k hk _ => hb.block k hk⟩ (fun r e => by cases e))
    (fun q y W1 hj hq => yield_any (hY q y W1 hj hq)) h0 (by simp))
  refine callsIn_wide.2 ?_
  clear hY hJ hJx h0 hW hk r1 r2 r3 hs hok hnd hn0 h1 h2 h3
  go_enter Try.func50, Try.ntmps50
  go_wp2_with fail
  go_at_call 51
  (with_reducible refine HV.out.mono ?_)
  rintro e w2 (⟨rfl, hJ, _⟩ | ⟨rfl, q, hq, hJx⟩)
  · have HJ := Lib.hid hJ
    clear hJ
    go_wp2_with fail
    go_end0
    exact ⟨⟨_, rfl⟩, .inl ⟨_, rfl, by simpa using HJ.out⟩⟩
  · have HJ := Lib.hid hJx
    clear hJx
    go_wp2_with fail
    go_end0
    exact ⟨⟨_, rfl⟩, .inr ⟨_, hq, by simpa using HJ.out⟩⟩
/-- What was found last. -/
def lst (l : List Kv) : (Int × Int) × Int × Bool := match l.getLast? with
  | none => ((0, 0), 0, false)
  | some x => (x.1, x.2, true)
theorem lst_snoc (l : List Kv) (x : Kv) : lst (l ++ [x]) = (x.1, x.2, true) := by simp [lst]
theorem row_kept {A B : World} {row : Option Nat} {g : Nat} {cs : Array Value} {T : TypeId} (h : A.heap[g]? = some (.cells cs T (0, 0))) (hg : A.grownBy B row) (hr : ∀ r, row = some r → ∃ o : Obj, A.heap[r]? = some o ∧ o.isCells = false) : B.heap[g]? = some (.cells cs T (0, 0)) :=
  (hg.block g (blk_lt h) (fun e => by
    obtain ⟨o, h1, h2⟩ := hr g e.symm
    rw [h] at h1
    obtain rfl := Option.some.inj h1
    cases h2)).trans h
/-- What a loop's variables hold. -/
structure Boxes (w : World) (pre : List Kv) (W : World) : Prop where
  r0 : W.heap[w.heap.size]? = some (.cells #[.int .u32 0, .int .i64 0] 34 (0, 0))
  r1 : W.heap[w.heap.size + 1]? = some (.cells #[.int .u32 (lst pre).1.1, .int .i64 (lst pre).1.2] 34 (0, 0))
  r2 : W.heap[w.heap.size + 1 + 1]? = some (.cells #[.int .i64 (lst pre).2.1] 3 (0, 0))
  r3 : W.heap[w.heap.size + 1 + 1 + 1]? = some (.cells #[.bool (lst pre).2.2] 4 (0, 0))
  bel : Below w.heap.size w W
theorem boxes_own (w : World) {B : Nat} (hB : w.heap.size ≤ B) : OwnFrom B (Boxes w) := fun s W W' row hs hg hr =>
  have hr' : ∀ r, row = some r → ∃ o : Obj, W.heap[r]? = some o ∧ o.isCells = false := fun r e => (hr r e).2
  ⟨row_kept hs.r0 hg hr', row_kept hs.r1 hg hr', row_kept hs.r2 hg hr', row_kept hs.r3 hg hr', hs.bel.grown hg hs.bel.size (fun k e => Nat.le_trans hB (hr k e).1)⟩
/-- A round's prefix, in a box, and its frame. -/
def AtX (w : World) (t : Nat) (a : Int) (b : Nat) (x : Kv) (a' : Act) (W : World) : Prop := ∃ B : Nat, W.heap[B]? = some (.cells #[.int .u32 x.1.1, .int .i64 x.1.2] 34 (0, 0)) ∧ w.heap.size + 4 ≤ B ∧
  a' = { tmps := #[.pointer (some ⟨t, 0, none⟩), .int .u32 a, undef, undef, .pointer (some ⟨w.heap.size, 0, none⟩), .int .i64 0, .bool false, .pointer (some ⟨w.heap.size + 1, 0, none⟩), .pointer (some ⟨w.heap.size + 1 + 1, 0, none⟩), .pointer (some ⟨w.heap.size + 1 + 1 + 1, 0, none⟩), .pointer (some ⟨B, 0, none⟩), .int .i64 x.2, .pointer (some ⟨t, 0, none⟩), .int .u32 a, seqV b, .agg #[.int .u32 x.1.1, .int .i64 x.1.2], .int .i64 x.2, undef, undef, undef, undef, undef], defers := [] }
theorem rows4 (w : World) (o0 o1 o2 o3 : Obj) : ((((w.alloc o0).alloc o1).alloc o2).alloc o3).heap[w.heap.size]? = some o0 ∧ ((((w.alloc o0).alloc o1).alloc o2).alloc o3).heap[w.heap.size + 1]? = some o1 ∧ ((((w.alloc o0).alloc o1).alloc o2).alloc o3).heap[w.heap.size + 1 + 1]? = some o2 ∧ ((((w.alloc o0).alloc o1).alloc o2).alloc o3).heap[w.heap.size + 1 + 1 + 1]? = some o3 := by
  have h0 := heap_alloc_new w o0
  have h1 := heap_alloc_new (w.alloc o0) o1
  have h2 := heap_alloc_new ((w.alloc o0).alloc o1) o2
  have h3 := heap_alloc_new (((w.alloc o0).alloc o1).alloc o2) o3
  simp only [World.size_alloc] at h1 h2 h3
  exact ⟨(Below.heap_alloc _ _ _ (by simp only [World.size_alloc]; omega)).trans ((Below.heap_alloc _ _ _ (by simp only [World.size_alloc]; omega)).trans ((Below.heap_alloc _ _ _ (by simp only [World.size_alloc]; omega)).trans h0)), (Below.heap_alloc _ _ _ (by simp only [World.size_alloc]; omega)).trans ((Below.heap_alloc _ _ _ (by simp only [World.size_alloc]; omega)).trans h1), (Below.heap_alloc _ _ _ (by simp only [World.size_alloc]; omega)).trans h2, h3⟩
/-- Four stores into the loop's variables. -/
theorem four_set {w W : World} {pre : List Kv} {x : Kv} {W' : World} (h : Boxes w pre W) (e : (((W.setCell ⟨w.heap.size + 1, 0, none⟩ (.int .u32 x.1.1)).setCell ⟨w.heap.size + 1, 1, none⟩ (.int .i64 x.1.2)).setCell ⟨w.heap.size + 1 + 1, 0, none⟩ (.int .i64 x.2)).setCell ⟨w.heap.size + 1 + 1 + 1, 0, none⟩ (.bool true) = W') :
    KeepsOthers W W' ∧ Boxes w (pre ++ [x]) W' ∧ (∀ y, y ≠ w.heap.size + 1 → y ≠ w.heap.size + 1 + 1 → y ≠ w.heap.size + 1 + 1 + 1 → W'.heap[y]? = W.heap[y]?) ∧ W'.os = W.os ∧ W'.tape = W.tape ∧ W'.output = W.output ∧ W.heap.size ≤ W'.heap.size := by
  obtain ⟨a1, b1, c1, d1⟩ := set1 (v := .int .u32 x.1.1) (i := 0) h.r1 rfl
  obtain ⟨a2, b2, c2, d2⟩ := set1 (v := .int .i64 x.1.2) (i := 1) a1 rfl
  have hr2 := (b2 (w.heap.size + 1 + 1) (by omega)).trans ((b1 (w.heap.size + 1 + 1) (by omega)).trans h.r2)
  obtain ⟨a3, b3, c3, d3⟩ := set1 (v := .int .i64 x.2) (i := 0) hr2 rfl
  have hr3 := (b3 (w.heap.size + 1 + 1 + 1) (by omega)).trans ((b2 (w.heap.size + 1 + 1 + 1) (by omega)).trans ((b1 (w.heap.size + 1 + 1 + 1) (by omega)).trans h.r3))
  obtain ⟨a4, b4, c4, d4⟩ := set1 (v := .bool true) (i := 0) hr3 e
  have hl := lst_snoc pre x
  refine ⟨by rw [← e]; exact (((KeepsOthers.setCell _ _ _).trans (KeepsOthers.setCell _ _ _)).trans (KeepsOthers.setCell _ _ _)).trans (KeepsOthers.setCell _ _ _), ⟨?_, ?_, ?_, ?_, ?_⟩, fun y h1 h2 h3 => (b4 y h3).trans ((b3 y h2).trans ((b2 y h1).trans (b1 y h1))), d4.os.trans (d3.os.trans (d2.os.trans d1.os)), d4.tape.trans (d3.tape.trans (d2.tape.trans d1.tape)), d4.output.trans (d3.output.trans (d2.output.trans d1.output)), by omega⟩
  · exact (b4 _ (by omega)).trans ((b3 _ (by omega)).trans ((b2 _ (by omega)).trans ((b1 _ (by omega)).trans h.r0)))
  · rw [hl]; exact (b4 _ (by omega)).trans ((b3 _ (by omega)).trans a2)
  · rw [hl]; exact (b4 _ (by omega)).trans a3
  · rw [hl]; exact a4
  · exact (((h.bel.trans (d1.mono (by omega))).trans (d2.mono (by omega))).trans (d3.mono (by omega))).trans (d4.mono (by omega))
set_option maxRecDepth 100000 in
set_option maxHeartbeats 4000000 in
theorem longest_is (t r : Nat) (x : Int) (L : List Kv) (T : Tr Int) (w : World) (hT : TabAt_i w t r L T) :
    Calls Try.prog 25 #[.pointer (some ⟨t, 0, none⟩), .int .u32 x] w fun e w' => e = .returned (.tuple #[.agg #[.int .u32 (lst (rowsT (inB x) T)).1.1, .int .i64 (lst (rowsT (inB x) T)).1.2], .int .i64 (lst (rowsT (inB x) T)).2.1, .bool (lst (rowsT (inB x) T)).2.2]) ∧ Below w.heap.size w w' := by
  obtain ⟨root, hrow, hnd⟩ := hT.row
  have htl := blk_lt hrow
  have HO := Lib.hid (fun w ht => over_is t (.map (some r)) root x w ht)
  have HTR := Lib.hid hrow; have HND := Lib.hid hnd; have HOK := Lib.hid hT.ok
  refine (callsIn_wide (n := 4)).1 ?_
  refine callsIn_of_wp_marks Try.func25 rfl trivial ?_ rfl
  simp only [Try.ntmps25, List.size_toArray, List.length_cons, List.length_nil, Nat.reduceAdd, Nat.reduceSub, Array.replicate_succ, Array.replicate_zero, List.push_toArray, List.append_toArray, List.nil_append, List.cons_append]
  clear hrow hnd hT
  gi_wp2_with fail
  refine ⟨trivial, ?_⟩
  obtain ⟨W0, hW0⟩ : ∃ W0, ((((w.alloc (.cells #[.int .u32 0, .int .i64 0] 34)).alloc (.cells #[.int .u32 0, .int .i64 0] 34)).alloc (.cells #[.int .i64 0] 3)).alloc (.cells #[.bool false] 4)) = W0 := ⟨_, rfl⟩
  have hz0 : W0.heap.size = w.heap.size + 4 := by rw [← hW0]; simp
  have hB0 : Below w.heap.size w W0 := by rw [← hW0]; exact ((((Below.refl _ _).alloc (Nat.le_refl _) _).alloc (by simp) _).alloc (by simp; omega) _).alloc (by simp; omega) _
  have hrows := rows4 w (.cells #[.int .u32 0, .int .i64 0] 34) (.cells #[.int .u32 0, .int .i64 0] 34) (.cells #[.int .i64 0] 3) (.cells #[.bool false] 4)
  rw [hW0] at hrows
  obtain ⟨k0, k1, k2, k3⟩ := hrows
  rw [hW0]
  clear hW0
  have HBX := Lib.hid (show Boxes w [] W0 from ⟨k0, k1, k2, k3, hB0⟩)
  have HZ0 := Lib.hid hz0
  have ht0 := (hB0.block t htl).trans HTR.out
  clear hB0 k0 k1 k2 k3
  refine (callsIn_wide.2 (HO.out W0 ht0)).mono ?_
  rintro e w1 ⟨rfl, hseq, hb1, hz1⟩
  clear ht0
  obtain ⟨b, hb⟩ : ∃ b, W0.heap.size + 1 = b := ⟨_, rfl⟩
  obtain ⟨a0, ha0⟩ : ∃ a0, W0.heap.size = a0 := ⟨_, rfl⟩
  rw [hb, ha0] at hseq
  rw [hb]
  gi_wp2
  have hBox : Boxes w [] w1 := (boxes_own w (Nat.le_refl _)) [] W0 w1 none HBX.out ⟨hb1.os, hb1.tape, hb1.output, hb1.size, fun k hk _ => hb1.block k hk⟩ (fun r e => by cases e)
  have hstop := over_stops encKv (fun _ _ _ => rfl) 3 w1.heap.size (fun y => w.heap.size ≤ y ∧ y < w.heap.size + 4) x a0 b root T w1 hseq HOK.out (TrAt.keep (fun y hy _ => ⟨⟨by have := hb1.size; omega, by omega⟩, (hBox.bel.block y hy)⟩) HND.out) (Nat.le_refl _) ⟨by omega, by omega⟩ ⟨by omega, by omega⟩ ⟨by omega, by omega⟩
  obtain ⟨n1, hn1⟩ : ∃ n1, w1.heap.size = n1 := ⟨_, rfl⟩
  rw [hn1] at hstop
  refine wpIn_rangeFunc_ownH rfl (by omega) (gf := 50) (lb := #[.pointer (some ⟨b, 0, none⟩), .pointer (some ⟨b + 1, 0, none⟩)]) rfl trivial (enters_of Try.func50 (by kernel_rfl) rfl)
    hstop Kpx.trans (fun W l o o' hl h1 _ _ => ⟨rfl, rfl, rfl, by simp [World.putObj], fun y hy _ => by simp only [World.putObj]; rw [Array.getElem?_setIfInBounds, if_neg (by omega)]⟩) (Below.refl _ _) (fun x => rfl)
    (fun pre W => Boxes w pre W ∧ n1 ≤ W.heap.size) (fun _ _ _ => False)
    (OwnFrom.and (boxes_own w (by omega)) (fun _ A B row h hg _ => Nat.le_trans h hg.size))
    (fun _ _ _ _ _ hs _ _ => hs)
    ⟨hBox, by omega⟩ (AtX w t x b) (fun y a' => fun _ A B row hs hg hr => by
      obtain ⟨C, h1, h2, h3⟩ := hs
      exact ⟨C, row_kept h1 hg (fun r e => (hr r e).2), h2, h3⟩) ?assign ?body ?done ?stop
  case stop =>
    rintro D c pre W _ _ h _
    exact h.elim
  case assign =>
    rintro l pre y W K ⟨hI, hin⟩ hK
    gi_wp2
    have hn := heap_alloc_new W (.cells #[.int .u32 y.1.1, .int .i64 y.1.2] 34)
    have hlt := blk_lt hI.r3
    refine hK _ _ ((KeepsOthers.alloc _ _).from _) ⟨rfl, rfl, rfl, by simp, fun z hz hs => heap_alloc_old W _ (by omega)⟩ ⟨(boxes_own w (Nat.le_refl w.heap.size)).alloc _ hI, by simp; omega⟩ ⟨W.heap.size, hn, by omega, rfl⟩
  case body =>
    rintro l pre y a' W hl ⟨rr, hrr⟩ ⟨hI, hin⟩ ⟨C, h1, h2, rfl⟩ hlen
    have p0 : W.cell? ⟨C, 0, none⟩ = some (.int .u32 y.1.1) := row_cell h1 0
    have p1 : W.cell? ⟨C, 1, none⟩ = some (.int .i64 y.1.2) := row_cell h1 1
    have d10 : W.cell? ⟨w.heap.size + 1, 0, none⟩ = some (.int .u32 (lst pre).1.1) := row_cell hI.r1 0
    have d11 : W.cell? ⟨w.heap.size + 1, 1, none⟩ = some (.int .i64 (lst pre).1.2) := row_cell hI.r1 1
    have d20 : W.cell? ⟨w.heap.size + 1 + 1, 0, none⟩ = some (.int .i64 (lst pre).2.1) := row_cell hI.r2 0
    have d30 : W.cell? ⟨w.heap.size + 1 + 1 + 1, 0, none⟩ = some (.bool (lst pre).2.2) := row_cell hI.r3 0
    have e10 := frozen_of_row _ _ 0 _ _ hI.r1
    have e11 := frozen_of_row _ _ 1 _ _ hI.r1
    have e20 := frozen_of_row _ _ 0 _ _ hI.r2
    have e30 := frozen_of_row _ _ 0 _ _ hI.r3
    have HI := Lib.hid hI
    clear hI h1
    gi_wp2
    obtain ⟨f1, f2, f3, f4, f5, f6, f7⟩ := four_set HI.out rfl
    exact ⟨f1.from _, ⟨f4, f5, f6, f7, fun z _ hz => f3 z (by omega) (by omega) (by omega)⟩, f2, by omega⟩
  case done =>
    rintro D ys W hD rfl ⟨hI, hin⟩ hK
    have d10 : W.cell? ⟨w.heap.size + 1, 0, none⟩ = some (.int .u32 (lst (rowsT (inB x) T)).1.1) := row_cell hI.r1 0
    have d11 : W.cell? ⟨w.heap.size + 1, 1, none⟩ = some (.int .i64 (lst (rowsT (inB x) T)).1.2) := row_cell hI.r1 1
    have d20 : W.cell? ⟨w.heap.size + 1 + 1, 0, none⟩ = some (.int .i64 (lst (rowsT (inB x) T)).2.1) := row_cell hI.r2 0
    have d30 : W.cell? ⟨w.heap.size + 1 + 1 + 1, 0, none⟩ = some (.bool (lst (rowsT (inB x) T)).2.2) := row_cell hI.r3 0
    have d00 : W.cell? ⟨w.heap.size, 0, none⟩ = some (.int .u32 0) := row_cell hI.r0 0
    have d01 : W.cell? ⟨w.heap.size, 1, none⟩ = some (.int .i64 0) := row_cell hI.r0 1
    have e00 := frozen_of_row _ _ 0 _ _ hI.r0
    have e01 := frozen_of_row _ _ 1 _ _ hI.r0
    have HI := Lib.hid hI; have HK := Lib.hid hK
    clear hI hK
    gi_wp2
    gi_region
    gi_wp2
    obtain ⟨a1, b1, c1, f1⟩ := set1 (v := .int .u32 (lst (rowsT (inB x) T)).1.1) (i := 0) HI.out.r0 rfl
    obtain ⟨a2, b2, c2, f2⟩ := set1 (v := .int .i64 (lst (rowsT (inB x) T)).1.2) (i := 1) a1 rfl
    generalize (W.setCell ⟨w.heap.size, 0, none⟩ (.int .u32 (lst (rowsT (inB x) T)).1.1)).setCell ⟨w.heap.size, 1, none⟩ (.int .i64 (lst (rowsT (inB x) T)).1.2) = W9 at a2 b2 c2 f2 ⊢
    have hK2 : W9.drew.heap[D]? = some (.deferred (some [])) := (b2 D (by omega)).trans ((b1 D (by omega)).trans HK.out)
    have hB9 : Below w.heap.size w W9.drew := ((HI.out.bel.trans f1).trans f2).drew
    have r9 : (W9.drew.putObj D (.deferred none)).heap[w.heap.size]? = some (.cells #[.int .u32 (lst (rowsT (inB x) T)).1.1, .int .i64 (lst (rowsT (inB x) T)).1.2] 34 (0, 0)) := by
      simp only [World.putObj]
      rw [Array.getElem?_setIfInBounds, if_neg (by omega)]
      exact a2
    have q0 : (W9.drew.putObj D (.deferred none)).cell? ⟨w.heap.size, 0, none⟩ = some (.int .u32 (lst (rowsT (inB x) T)).1.1) := row_cell r9 0
    have q1 : (W9.drew.putObj D (.deferred none)).cell? ⟨w.heap.size, 1, none⟩ = some (.int .i64 (lst (rowsT (inB x) T)).1.2) := row_cell r9 1
    refine ⟨by simp, .inl ⟨_, _, rfl, run_takeDeferred hK2, ?_⟩⟩
    refine ⟨.tuple #[.agg #[.int .u32 (lst (rowsT (inB x) T)).1.1, .int .i64 (lst (rowsT (inB x) T)).1.2], .int .i64 (lst (rowsT (inB x) T)).2.1, .bool (lst (rowsT (inB x) T)).2.2], ?_, rfl, hB9.trans (belowK_b (w := w) (Nat.le_refl _) _ D _ _ (by omega) hK2 rfl rfl)⟩
    simp [results, Try.f25, go_sem, q0, q1]
set_option maxRecDepth 100000 in
theorem len_is (t r : Nat) (L : List Kv) (T : Tr Int) (w : World) (hT : TabAt_i w t r L T) (hl : L.length ≤ 100000) : Calls Try.prog 30 #[.pointer (some ⟨t, 0, none⟩)] w fun e w' => e = .returned (.int .i64 L.length) ∧ w = w' := by
  obtain ⟨root, hrow, _⟩ := hT.row
  obtain ⟨⟨es, c, h1, h2⟩⟩ := hT.map
  have c0 : w.cell? ⟨t, 0, none⟩ = some (.map (some r)) := row_cell hrow 0
  have hlen : es.size = L.length := by simpa using h2.length
  have HL := Lib.hid hlen
  have hrun := run_len_map (P := Try.prog) w 67 3 r es c (by kernel_rfl) h1
  clear hrow hT h2 hlen h1
  go_enter Try.func30, Try.ntmps30
  go_wp2
  go_ret
  exact ⟨by rw [HL.out]; rfl, rfl⟩
end Go.Proofs.Ytodfimnmbfdicaa
