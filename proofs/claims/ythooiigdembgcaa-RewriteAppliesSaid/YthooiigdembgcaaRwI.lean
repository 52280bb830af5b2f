/- What First of package rewrite does, Apply of it and of waymarkref11, and Same of waymarkref03 at one header twice. Under the condition that filters and rewrites read and that the header is one. -/
import Derived.Test.YthooiigdembgcaaRwH
namespace Go.Proofs.Ythooiigdembgcaa
open Go.RowKit
theorem ckWs_each {ws : List RewD} {fs : List FilD} (h : ckWs ws fs = 0) : ∀ (i : Nat) (r : RewD), ws[i]? = some r → ckS fs r.flt = 0 := by
  intro i r hi
  unfold ckWs at h
  split at h
  · cases h
  · split at h
    · rename_i x hx
      have := List.find?_some hx
      rw [h] at this
      cases this
    · rename_i hx
      rw [List.find?_eq_none] at hx
      have := hx r (List.mem_of_getElem? hi)
      simpa using this
set_option maxHeartbeats 2000000 in
theorem first_no (ws : List RewD) (fs : List FilD) (v u : Value) (d : Bool) (h : HdrD) (w : World) (c0 : Int) (hr : RdK encW 3 w v ws) (hf : RdF w u fs) (hck : ckWs ws fs = c0) (hne : c0 ≠ 0) : Calls Try.prog 15 #[v, u, .bool d, vH h] w fun e w' => e = .returned (.tuple #[.int .i64 0, .int .i64 c0]) ∧ Below w.heap.size w w' := by
  obtain ⟨src, dst, pr, sp, dp⟩ := h
  have HB1 : Hid (Below w.heap.size w (w.alloc (.cells #[.int .u32 src, .int .u32 dst, .int .u8 pr, .int .u16 sp, .int .u16 dp] 40))) := Lib.hid ((Below.refl _ _).alloc (Nat.le_refl _) _)
  have HC := Lib.hid (hck ▸ chk_is ws fs v u _ (hr.below HB1.out) (hf.below HB1.out))
  have hne2 : (c0 != 0) = true := by simpa using hne
  show Calls _ _ #[_, _, _, .agg #[.int .u32 src, .int .u32 dst, .int .u8 pr, .int .u16 sp, .int .u16 dp]] _ _
  clear hr hf hck hne
  go_enter Try.func15, Try.ntmps15
  go_wp2_with fail
  go_at_call 19
  (with_reducible refine HC.out.mono ?_)
  rintro e w1 ⟨rfl, hb1⟩
  have HB2 := Lib.hid (Below.step HB1.out hb1)
  clear hb1
  go_wp2
  go_ret2
  exact ⟨rfl, HB2.out⟩
set_option maxHeartbeats 2000000 in
theorem first_ok (ws : List RewD) (fs : List FilD) (v u : Value) (d : Bool) (h : HdrD) (w : World) (hr : RdK encW 3 w v ws) (hf : RdF w u fs) (hh : h.ok) (hck : ckWs ws fs = 0) : Calls Try.prog 15 #[v, u, .bool d, vH h] w fun e w' => e = .returned (.tuple #[.int .i64 (firI ws fs d h), .int .i64 0]) ∧ Below w.heap.size w w' := by
  have HE := Lib.hid (ckWs_each hck)
  obtain ⟨z, hz⟩ : ∃ z, firI ws fs d h = z := ⟨_, rfl⟩
  obtain ⟨W1, hW1⟩ : ∃ W, w.alloc (.cells (encH h).toArray 40) = W := ⟨_, rfl⟩
  have HB1 : Hid (Below w.heap.size w W1) := Lib.hid (by rw [← hW1]; exact (Below.refl _ _).alloc (Nat.le_refl _) _)
  have HX1 : Hid (W1.heap[w.heap.size]? = some (.cells (encH h).toArray 40 (0, 0))) := Lib.hid (by rw [← hW1]; exact heap_new _ _)
  have HZ1 : Hid (W1.heap.size = w.heap.size + 1) := Lib.hid (by rw [← hW1]; simp)
  have HC := Lib.hid (hck ▸ chk_is ws fs v u W1 (hr.below HB1.out) (hf.below HB1.out))
  have HEA : Hid (∀ (F : Nat) (W : World), w.heap.size < F → F < W.heap.size → Below W1.heap.size W1 W → W.heap[F]? = some (.cells #[.int .i64 (-1)] 3 (0, 0)) → Calls Try.prog 28 #[v, u, .bool d, .func (.func 29) #[] #[.pointer (some ⟨w.heap.size, 0, none⟩), .pointer (some ⟨F, 0, none⟩)]] W fun e w' => e = .returned (.tuple #[]) ∧ Below F W w' ∧ w'.heap[F]? = some (.cells #[.int .i64 z] 3 (0, 0))) := Lib.hid fun F W h1 h2 hb hy => by
    rw [← hz]
    exact each_is ws fs v u d h w.heap.size F W (hr.below (Below.step HB1.out hb)) (hf.below (Below.step HB1.out hb)) hh HE.out h1 h2 ((hb.block w.heap.size (by rw [HZ1.out]; omega)).trans HX1.out) hy
  rw [hz]
  clear hr hf hh hck hz
  obtain ⟨src, dst, pr, sp, dp⟩ := h
  simp only [encH] at hW1
  show Calls _ _ #[_, _, _, .agg #[.int .u32 src, .int .u32 dst, .int .u8 pr, .int .u16 sp, .int .u16 dp]] _ _
  go_enter Try.func15, Try.ntmps15
  go_wp2_with fail
  go_at_call 19
  (with_reducible refine HC.out.mono ?_)
  rintro e w1 ⟨rfl, hb1⟩
  have HB2 := Lib.hid hb1
  clear hb1
  obtain ⟨W2, hW2⟩ : ∃ W, w1.alloc (.cells #[.int .i64 (-1)] 3) = W := ⟨_, rfl⟩
  have HB3 : Hid (Below w1.heap.size w1 W2) := Lib.hid (by rw [← hW2]; exact (Below.refl _ _).alloc (Nat.le_refl _) _)
  have HY2 : Hid (W2.heap[w1.heap.size]? = some (.cells #[.int .i64 (-1)] 3 (0, 0))) := Lib.hid (by rw [← hW2]; exact heap_new _ _)
  have HCE := Lib.hid (HEA.out w1.heap.size W2 (by have := HB2.out.size; rw [HZ1.out] at this; omega) (Array.getElem?_eq_some_iff.1 HY2.out).1 (Below.step HB2.out HB3.out) HY2.out)
  go_wp2_with fail
  go_at_call 28
  (with_reducible refine HCE.out.mono ?_)
  rintro e w3 ⟨rfl, hb3, hy3⟩
  have y0 : w3.cell? ⟨w1.heap.size, 0, none⟩ = some (.int .i64 z) := by rw [cell_of_heap hy3]; rfl
  have HB4 : Hid (Below w.heap.size w w3) := Lib.hid (Below.trans (Below.step (Below.step HB1.out HB2.out) HB3.out) (hb3.mono (by have := HB2.out.size; rw [HZ1.out] at this; omega)))
  clear hb3 hy3
  go_wp2
  go_ret2
  exact ⟨rfl, HB4.out⟩
/-- A header is stored into its box. -/
theorem store5 {n b : Nat} {w W : World} {a0 a1 a2 a3 a4 : Int} (v0 v1 v2 v3 v4 : Int) (hx : W.heap[b]? = some (.cells #[.int .u32 a0, .int .u32 a1, .int .u8 a2, .int .u16 a3, .int .u16 a4] 40 (0, 0))) (hb : Below n w W) (hn : n ≤ b) :
    ∃ W5, ((((W.setCell ⟨b, 0, none⟩ (.int .u32 v0)).setCell ⟨b, 1, none⟩ (.int .u32 v1)).setCell ⟨b, 2, none⟩ (.int .u8 v2)).setCell ⟨b, 3, none⟩ (.int .u16 v3)).setCell ⟨b, 4, none⟩ (.int .u16 v4) = W5 ∧ (W.cell? ⟨b, 0, none⟩ = some (.int .u32 a0) ∧ W.cell? ⟨b, 1, none⟩ = some (.int .u32 a1) ∧ W.cell? ⟨b, 2, none⟩ = some (.int .u8 a2) ∧ W.cell? ⟨b, 3, none⟩ = some (.int .u16 a3) ∧ W.cell? ⟨b, 4, none⟩ = some (.int .u16 a4)) ∧ (W.frozen? ⟨b, 0, none⟩ = false ∧ W.frozen? ⟨b, 1, none⟩ = false ∧ W.frozen? ⟨b, 2, none⟩ = false ∧ W.frozen? ⟨b, 3, none⟩ = false ∧ W.frozen? ⟨b, 4, none⟩ = false) ∧ (W5.cell? ⟨b, 0, none⟩ = some (.int .u32 v0) ∧ W5.cell? ⟨b, 1, none⟩ = some (.int .u32 v1) ∧ W5.cell? ⟨b, 2, none⟩ = some (.int .u8 v2) ∧ W5.cell? ⟨b, 3, none⟩ = some (.int .u16 v3) ∧ W5.cell? ⟨b, 4, none⟩ = some (.int .u16 v4)) ∧ Below n w W5 := by
  obtain ⟨W5, hW5⟩ : ∃ W5, ((((W.setCell ⟨b, 0, none⟩ (.int .u32 v0)).setCell ⟨b, 1, none⟩ (.int .u32 v1)).setCell ⟨b, 2, none⟩ (.int .u8 v2)).setCell ⟨b, 3, none⟩ (.int .u16 v3)).setCell ⟨b, 4, none⟩ (.int .u16 v4) = W5 := ⟨_, rfl⟩
  have h5 := heap_setCell (o := 4) (.int .u16 v4) (heap_setCell (o := 3) (.int .u16 v3) (heap_setCell (o := 2) (.int .u8 v2) (heap_setCell (o := 1) (.int .u32 v1) (heap_setCell (o := 0) (.int .u32 v0) hx))))
  rw [hW5] at h5
  refine ⟨W5, hW5, ⟨?_, ?_, ?_, ?_, ?_⟩, ⟨?_, ?_, ?_, ?_, ?_⟩, ⟨?_, ?_, ?_, ?_, ?_⟩, ?_⟩
  · exact (cell_of_heap hx).trans rfl
  · exact (cell_of_heap hx).trans rfl
  · exact (cell_of_heap hx).trans rfl
  · exact (cell_of_heap hx).trans rfl
  · exact (cell_of_heap hx).trans rfl
  · simp [World.frozen?, hx]
  · simp [World.frozen?, hx]
  · simp [World.frozen?, hx]
  · simp [World.frozen?, hx]
  · simp [World.frozen?, hx]
  · exact (cell_of_heap h5).trans rfl
  · exact (cell_of_heap h5).trans rfl
  · exact (cell_of_heap h5).trans rfl
  · exact (cell_of_heap h5).trans rfl
  · exact (cell_of_heap h5).trans rfl
  · rw [← hW5]
    exact ((((hb.setCell (p := ⟨b, 0, none⟩) hn _).setCell (p := ⟨b, 1, none⟩) hn _).setCell (p := ⟨b, 2, none⟩) hn _).setCell (p := ⟨b, 3, none⟩) hn _).setCell (p := ⟨b, 4, none⟩) hn _
theorem appH_none {ws : List RewD} {fs : List FilD} {d : Bool} {h : HdrD} (e : firO ws fs d h = none) : appH ws fs d h = h := by unfold appH; rw [e]
theorem appH_some {ws : List RewD} {fs : List FilD} {d : Bool} {h : HdrD} {k : Nat} {r : RewD} (e : firO ws fs d h = some k) (hr : ws[k]? = some r) : appH ws fs d h = if d then { h with dst := r.aim } else { h with src := r.aim } := by unfold appH; rw [e]; simp only; rw [hr]
set_option maxHeartbeats 2000000 in
theorem apply_no (ws : List RewD) (fs : List FilD) (v u : Value) (d : Bool) (h : HdrD) (w : World) (c0 : Int) (hr : RdK encW 3 w v ws) (hf : RdF w u fs) (hck : ckWs ws fs = c0) (hne : c0 ≠ 0) : Calls Try.prog 17 #[v, u, .bool d, vH h] w fun e w' => e = .returned (.tuple #[vH ⟨0, 0, 0, 0, 0⟩, .int .i64 c0]) ∧ Below w.heap.size w w' := by
  obtain ⟨src, dst, pr, sp, dp⟩ := h
  obtain ⟨W2, hW2⟩ : ∃ W, ((w.alloc (.cells #[.int .u32 src, .int .u32 dst, .int .u8 pr, .int .u16 sp, .int .u16 dp] 40)).alloc (.cells #[.int .u32 0, .int .u32 0, .int .u8 0, .int .u16 0, .int .u16 0] 40)) = W := ⟨_, rfl⟩
  have HB2 : Hid (Below w.heap.size w W2) := Lib.hid (by rw [← hW2]; exact ((Below.refl _ _).alloc (Nat.le_refl _) _).alloc (by simp) _)
  have HX2 : Hid (W2.heap[w.heap.size]? = some (.cells #[.int .u32 src, .int .u32 dst, .int .u8 pr, .int .u16 sp, .int .u16 dp] 40 (0, 0))) := Lib.hid (by rw [← hW2, heap_alloc _ (by simp)]; exact heap_new _ _)
  have HY2 : Hid (W2.heap[w.heap.size + 1]? = some (.cells #[.int .u32 0, .int .u32 0, .int .u8 0, .int .u16 0, .int .u16 0] 40 (0, 0))) := Lib.hid (by
    rw [← hW2]
    have := heap_new (w.alloc (.cells #[.int .u32 src, .int .u32 dst, .int .u8 pr, .int .u16 sp, .int .u16 dp] 40)) (.cells #[.int .u32 0, .int .u32 0, .int .u8 0, .int .u16 0, .int .u16 0] 40)
    simpa using this)
  obtain ⟨x0, x1, x2, x3, x4⟩ := hdr_cells HX2.out
  have HC := Lib.hid (first_no ws fs v u d ⟨src, dst, pr, sp, dp⟩ W2 c0 (hr.below HB2.out) (hf.below HB2.out) hck hne)
  have HC : Hid (Calls Try.prog 15 #[v, u, .bool d, .agg #[.int .u32 src, .int .u32 dst, .int .u8 pr, .int .u16 sp, .int .u16 dp]] W2 fun e w' => e = .returned (.tuple #[.int .i64 0, .int .i64 c0]) ∧ Below W2.heap.size W2 w') := HC
  have hne2 : (c0 != 0) = true := by simpa using hne
  show Calls _ _ #[_, _, _, .agg #[.int .u32 src, .int .u32 dst, .int .u8 pr, .int .u16 sp, .int .u16 dp]] _ _
  clear hr hf hck hne
  go_enter Try.func17, Try.ntmps17
  go_wp2_with fail
  go_at_call 15
  (with_reducible refine HC.out.mono ?_)
  rintro e w3 ⟨rfl, hb3⟩
  have hy3 := (hb3.block (w.heap.size + 1) (Array.getElem?_eq_some_iff.1 HY2.out).1).trans HY2.out
  obtain ⟨W5, hW5, ⟨p0, p1, p2, p3, p4⟩, ⟨q0, q1, q2, q3, q4⟩, ⟨z0, z1, z2, z3, z4⟩, hb5⟩ := store5 (n := w.heap.size) (b := w.heap.size + 1) (w := w) 0 0 0 0 0 hy3 (Below.step HB2.out hb3) (by omega)
  have HB5 := Lib.hid hb5
  clear hb3 hy3 hb5
  go_wp2
  (try simp only [Exit.inBlock, Exit.then])
  refine bodyPost_ret (by simp [results, Try.results17, go_sem, z0, z1, z2, z3, z4]; try rfl) rfl ?_
  exact ⟨rfl, HB5.out⟩
set_option maxHeartbeats 2000000 in
theorem apply_ok (ws : List RewD) (fs : List FilD) (v u : Value) (d : Bool) (h : HdrD) (w : World) (hr : RdK encW 3 w v ws) (hf : RdF w u fs) (hh : h.ok) (hck : ckWs ws fs = 0) : Calls Try.prog 17 #[v, u, .bool d, vH h] w fun e w' => e = .returned (.tuple #[vH (appH ws fs d h), .int .i64 0]) ∧ Below w.heap.size w w' := by
  obtain ⟨p, c, rfl, hlc, hcm, hp⟩ := hr.sl
  obtain ⟨src, dst, pr, sp, dp⟩ := h
  obtain ⟨W2, hW2⟩ : ∃ W, ((w.alloc (.cells #[.int .u32 src, .int .u32 dst, .int .u8 pr, .int .u16 sp, .int .u16 dp] 40)).alloc (.cells #[.int .u32 0, .int .u32 0, .int .u8 0, .int .u16 0, .int .u16 0] 40)) = W := ⟨_, rfl⟩
  have HB2 : Hid (Below w.heap.size w W2) := Lib.hid (by rw [← hW2]; exact ((Below.refl _ _).alloc (Nat.le_refl _) _).alloc (by simp) _)
  have HX2 : Hid (W2.heap[w.heap.size]? = some (.cells #[.int .u32 src, .int .u32 dst, .int .u8 pr, .int .u16 sp, .int .u16 dp] 40 (0, 0))) := Lib.hid (by rw [← hW2, heap_alloc _ (by simp)]; exact heap_new _ _)
  have HY2 : Hid (W2.heap[w.heap.size + 1]? = some (.cells #[.int .u32 0, .int .u32 0, .int .u8 0, .int .u16 0, .int .u16 0] 40 (0, 0))) := Lib.hid (by
    rw [← hW2]
    have := heap_new (w.alloc (.cells #[.int .u32 src, .int .u32 dst, .int .u8 pr, .int .u16 sp, .int .u16 dp] 40)) (.cells #[.int .u32 0, .int .u32 0, .int .u8 0, .int .u16 0, .int .u16 0] 40)
    simpa using this)
  obtain ⟨x0, x1, x2, x3, x4⟩ := hdr_cells HX2.out
  obtain ⟨i, hi⟩ : ∃ i, firI ws fs d ⟨src, dst, pr, sp, dp⟩ = i := ⟨_, rfl⟩
  have hcall : Calls Try.prog 15 #[.slice p ws.length c, u, .bool d, .agg #[.int .u32 src, .int .u32 dst, .int .u8 pr, .int .u16 sp, .int .u16 dp]] W2 fun e w' => e = .returned (.tuple #[.int .i64 i, .int .i64 0]) ∧ Below W2.heap.size W2 w' := by
    rw [← hi]; exact first_ok ws fs _ u d ⟨src, dst, pr, sp, dp⟩ W2 (hr.below HB2.out) (hf.below HB2.out) hh hck
  have HC := Lib.hid hcall
  have HP := Lib.hid hp
  show Calls _ _ #[_, _, _, .agg #[.int .u32 src, .int .u32 dst, .int .u8 pr, .int .u16 sp, .int .u16 dp]] _ _
  unfold maxLen at hcm
  clear hr hf hck hh hcall hp
  obtain ⟨o, ho⟩ : ∃ o, firO ws fs d ⟨src, dst, pr, sp, dp⟩ = o := ⟨_, rfl⟩
  cases o with
  | none =>
    rw [appH_none ho]
    rw [firI_none ho] at hi
    subst hi
    clear ho
    go_enter Try.func17, Try.ntmps17
    go_wp2_with fail
    go_at_call 15
    (with_reducible refine HC.out.mono ?_)
    rintro e w3 ⟨rfl, hb3⟩
    have hy3 := (hb3.block (w.heap.size + 1) (Array.getElem?_eq_some_iff.1 HY2.out).1).trans HY2.out
    have hx3 := (hb3.block w.heap.size (Array.getElem?_eq_some_iff.1 HX2.out).1).trans HX2.out
    clear x0 x1 x2 x3 x4
    obtain ⟨x0, x1, x2, x3, x4⟩ := hdr_cells hx3
    obtain ⟨W5, hW5, ⟨p0, p1, p2, p3, p4⟩, ⟨q0, q1, q2, q3, q4⟩, ⟨z0, z1, z2, z3, z4⟩, hb5⟩ := store5 (n := w.heap.size) (b := w.heap.size + 1) (w := w) src dst pr sp dp hy3 (Below.step HB2.out hb3) (by omega)
    have HB5 := Lib.hid hb5
    clear hb3 hy3 hx3 hb5
    go_wp2
    (try simp only [Exit.inBlock, Exit.then])
    refine bodyPost_ret (by simp [results, Try.results17, go_sem, z0, z1, z2, z3, z4]; try rfl) rfl ?_
    exact ⟨rfl, HB5.out⟩
  | some k =>
    obtain ⟨r, hs⟩ := firO_at ho
    rw [appH_some ho hs]
    rw [firI_some ho] at hi
    subst hi
    have hk := (List.getElem?_eq_some_iff.1 hs).1
    obtain ⟨b, o, rfl, hbs, hc⟩ := HP.out k r hs
    obtain ⟨dest, flt, aim⟩ := r
    simp only [encW] at hc
    have HCC := Lib.hid hc
    have e1 : (0 : Int) ≤ (k : Int) := by omega
    have e2 : (k : Int) < (ws.length : Int) := by omega
    have e3 : ¬ (k : Int) < 0 := by omega
    have HBS := Lib.hid hbs
    clear ho hs hc hbs
    cases d with
    | false =>
      go_enter Try.func17, Try.ntmps17
      go_wp2_with fail
      go_at_call 15
      (with_reducible refine HC.out.mono ?_)
      rintro e w3 ⟨rfl, hb3⟩
      have c2 := HCC.out w3 (Below.step HB2.out hb3) 2 _ rfl
      have hy3 := (hb3.block (w.heap.size + 1) (Array.getElem?_eq_some_iff.1 HY2.out).1).trans HY2.out
      have hx3 := (hb3.block w.heap.size (Array.getElem?_eq_some_iff.1 HX2.out).1).trans HX2.out
      clear x0 x1 x2 x3 x4
      obtain ⟨y0, y1, y2, y3, y4⟩ := hdr_cells hx3
      have yf : w3.frozen? ⟨w.heap.size, 0, none⟩ = false := by simp [World.frozen?, hx3]
      obtain ⟨W4, hW4⟩ : ∃ W4, w3.setCell ⟨w.heap.size, 0, none⟩ (.int .u32 aim) = W4 := ⟨_, rfl⟩
      have hb4 : Below w.heap.size w W4 := by rw [← hW4]; exact (Below.step HB2.out hb3).setCell (p := ⟨w.heap.size, 0, none⟩) (Nat.le_refl _) _
      have hx4 : W4.heap[w.heap.size]? = some (.cells #[.int .u32 aim, .int .u32 dst, .int .u8 pr, .int .u16 sp, .int .u16 dp] 40 (0, 0)) := by rw [← hW4]; exact heap_setCell _ hx3
      have hy4 : W4.heap[w.heap.size + 1]? = some (.cells #[.int .u32 0, .int .u32 0, .int .u8 0, .int .u16 0, .int .u16 0] 40 (0, 0)) := by rw [← hW4, Below.heap_setCell _ _ _ _ (by show w.heap.size + 1 ≠ w.heap.size; omega)]; exact hy3
      obtain ⟨x0, x1, x2, x3, x4⟩ := hdr_cells hx4
      obtain ⟨W5, hW5, ⟨p0, p1, p2, p3, p4⟩, ⟨q0, q1, q2, q3, q4⟩, ⟨z0, z1, z2, z3, z4⟩, hb5⟩ := store5 (n := w.heap.size) (b := w.heap.size + 1) (w := w) aim dst pr sp dp hy4 hb4 (by omega)
      have HB5 := Lib.hid hb5
      clear hb3 hy3 hx3 hb4 hx4 hy4 hb5
      go_wp2
      (try simp only [Exit.inBlock, Exit.then])
      refine bodyPost_ret (by simp [results, Try.results17, go_sem, z0, z1, z2, z3, z4]; try rfl) rfl ?_
      exact ⟨rfl, HB5.out⟩
    | true =>
      go_enter Try.func17, Try.ntmps17
      go_wp2_with fail
      go_at_call 15
      (with_reducible refine HC.out.mono ?_)
      rintro e w3 ⟨rfl, hb3⟩
      have c2 := HCC.out w3 (Below.step HB2.out hb3) 2 _ rfl
      have hy3 := (hb3.block (w.heap.size + 1) (Array.getElem?_eq_some_iff.1 HY2.out).1).trans HY2.out
      have hx3 := (hb3.block w.heap.size (Array.getElem?_eq_some_iff.1 HX2.out).1).trans HX2.out
      clear x0 x1 x2 x3 x4
      obtain ⟨y0, y1, y2, y3, y4⟩ := hdr_cells hx3
      have yf : w3.frozen? ⟨w.heap.size, 1, none⟩ = false := by simp [World.frozen?, hx3]
      obtain ⟨W4, hW4⟩ : ∃ W4, w3.setCell ⟨w.heap.size, 1, none⟩ (.int .u32 aim) = W4 := ⟨_, rfl⟩
      have hb4 : Below w.heap.size w W4 := by rw [← hW4]; exact (Below.step HB2.out hb3).setCell (p := ⟨w.heap.size, 1, none⟩) (Nat.le_refl _) _
      have hx4 : W4.heap[w.heap.size]? = some (.cells #[.int .u32 src, .int .u32 aim, .int .u8 pr, .int .u16 sp, .int .u16 dp] 40 (0, 0)) := by rw [← hW4]; exact heap_setCell _ hx3
      have hy4 : W4.heap[w.heap.size + 1]? = some (.cells #[.int .u32 0, .int .u32 0, .int .u8 0, .int .u16 0, .int .u16 0] 40 (0, 0)) := by rw [← hW4, Below.heap_setCell _ _ _ _ (by show w.heap.size + 1 ≠ w.heap.size; omega)]; exact hy3
      obtain ⟨x0, x1, x2, x3, x4⟩ := hdr_cells hx4
      obtain ⟨W5, hW5, ⟨p0, p1, p2, p3, p4⟩, ⟨q0, q1, q2, q3, q4⟩, ⟨z0, z1, z2, z3, z4⟩, hb5⟩ := store5 (n := w.heap.size) (b := w.heap.size + 1) (w := w) src aim pr sp dp hy4 hb4 (by omega)
      have HB5 := Lib.hid hb5
      clear hb3 hy3 hx3 hb4 hx4 hy4 hb5
      go_wp2
      (try simp only [Exit.inBlock, Exit.then])
      refine bodyPost_ret (by simp [results, Try.results17, go_sem, z0, z1, z2, z3, z4]; try rfl) rfl ?_
      exact ⟨rfl, HB5.out⟩
set_option maxHeartbeats 2000000 in
theorem rapply_no (ws : List RewD) (fs : List FilD) (v u : Value) (d : Bool) (h : HdrD) (w : World) (c0 : Int) (hr : RdK encW 3 w v ws) (hf : RdF w u fs) (hck : ckWs ws fs = c0) (hne : c0 ≠ 0) : Calls Try.prog 18 #[v, u, .bool d, vH h] w fun e w' => e = .returned (.tuple #[vH ⟨0, 0, 0, 0, 0⟩, .int .i64 c0]) ∧ Below w.heap.size w w' := by
  obtain ⟨src, dst, pr, sp, dp⟩ := h
  obtain ⟨W2, hW2⟩ : ∃ W, ((w.alloc (.cells #[.int .u32 src, .int .u32 dst, .int .u8 pr, .int .u16 sp, .int .u16 dp] 40)).alloc (.cells #[.int .u32 0, .int .u32 0, .int .u8 0, .int .u16 0, .int .u16 0] 40)) = W := ⟨_, rfl⟩
  have HB2 : Hid (Below w.heap.size w W2) := Lib.hid (by rw [← hW2]; exact ((Below.refl _ _).alloc (Nat.le_refl _) _).alloc (by simp) _)
  have HX2 : Hid (W2.heap[w.heap.size]? = some (.cells #[.int .u32 src, .int .u32 dst, .int .u8 pr, .int .u16 sp, .int .u16 dp] 40 (0, 0))) := Lib.hid (by rw [← hW2, heap_alloc _ (by simp)]; exact heap_new _ _)
  have HY2 : Hid (W2.heap[w.heap.size + 1]? = some (.cells #[.int .u32 0, .int .u32 0, .int .u8 0, .int .u16 0, .int .u16 0] 40 (0, 0))) := Lib.hid (by
    rw [← hW2]
    have := heap_new (w.alloc (.cells #[.int .u32 src, .int .u32 dst, .int .u8 pr, .int .u16 sp, .int .u16 dp] 40)) (.cells #[.int .u32 0, .int .u32 0, .int .u8 0, .int .u16 0, .int .u16 0] 40)
    simpa using this)
  obtain ⟨x0, x1, x2, x3, x4⟩ := hdr_cells HX2.out
  have HC := Lib.hid (rfirst_no ws fs v u d ⟨src, dst, pr, sp, dp⟩ W2 c0 (hr.below HB2.out) (hf.below HB2.out) hck hne)
  have HC : Hid (Calls Try.prog 16 #[v, u, .bool d, .agg #[.int .u32 src, .int .u32 dst, .int .u8 pr, .int .u16 sp, .int .u16 dp]] W2 fun e w' => e = .returned (.tuple #[.int .i64 0, .int .i64 c0]) ∧ Below W2.heap.size W2 w') := HC
  have hne2 : (c0 != 0) = true := by simpa using hne
  show Calls _ _ #[_, _, _, .agg #[.int .u32 src, .int .u32 dst, .int .u8 pr, .int .u16 sp, .int .u16 dp]] _ _
  clear hr hf hck hne
  go_enter Try.func18, Try.ntmps18
  go_wp2_with fail
  go_at_call 16
  (with_reducible refine HC.out.mono ?_)
  rintro e w3 ⟨rfl, hb3⟩
  have hy3 := (hb3.block (w.heap.size + 1) (Array.getElem?_eq_some_iff.1 HY2.out).1).trans HY2.out
  obtain ⟨W5, hW5, ⟨p0, p1, p2, p3, p4⟩, ⟨q0, q1, q2, q3, q4⟩, ⟨z0, z1, z2, z3, z4⟩, hb5⟩ := store5 (n := w.heap.size) (b := w.heap.size + 1) (w := w) 0 0 0 0 0 hy3 (Below.step HB2.out hb3) (by omega)
  have HB5 := Lib.hid hb5
  clear hb3 hy3 hb5
  go_wp2
  (try simp only [Exit.inBlock, Exit.then])
  refine bodyPost_ret (by simp [results, Try.results18, go_sem, z0, z1, z2, z3, z4]; try rfl) rfl ?_
  exact ⟨rfl, HB5.out⟩
set_option maxHeartbeats 2000000 in
theorem rapply_ok (ws : List RewD) (fs : List FilD) (v u : Value) (d : Bool) (h : HdrD) (w : World) (hr : RdK encW 3 w v ws) (hf : RdF w u fs) (hh : h.ok) (hck : ckWs ws fs = 0) : Calls Try.prog 18 #[v, u, .bool d, vH h] w fun e w' => e = .returned (.tuple #[vH (appH ws fs d h), .int .i64 0]) ∧ Below w.heap.size w w' := by
  obtain ⟨p, c, rfl, hlc, hcm, hp⟩ := hr.sl
  obtain ⟨src, dst, pr, sp, dp⟩ := h
  obtain ⟨W2, hW2⟩ : ∃ W, ((w.alloc (.cells #[.int .u32 src, .int .u32 dst, .int .u8 pr, .int .u16 sp, .int .u16 dp] 40)).alloc (.cells #[.int .u32 0, .int .u32 0, .int .u8 0, .int .u16 0, .int .u16 0] 40)) = W := ⟨_, rfl⟩
  have HB2 : Hid (Below w.heap.size w W2) := Lib.hid (by rw [← hW2]; exact ((Below.refl _ _).alloc (Nat.le_refl _) _).alloc (by simp) _)
  have HX2 : Hid (W2.heap[w.heap.size]? = some (.cells #[.int .u32 src, .int .u32 dst, .int .u8 pr, .int .u16 sp, .int .u16 dp] 40 (0, 0))) := Lib.hid (by rw [← hW2, heap_alloc _ (by simp)]; exact heap_new _ _)
  have HY2 : Hid (W2.heap[w.heap.size + 1]? = some (.cells #[.int .u32 0, .int .u32 0, .int .u8 0, .int .u16 0, .int .u16 0] 40 (0, 0))) := Lib.hid (by
    rw [← hW2]
    have := heap_new (w.alloc (.cells #[.int .u32 src, .int .u32 dst, .int .u8 pr, .int .u16 sp, .int .u16 dp] 40)) (.cells #[.int .u32 0, .int .u32 0, .int .u8 0, .int .u16 0, .int .u16 0] 40)
    simpa using this)
  obtain ⟨x0, x1, x2, x3, x4⟩ := hdr_cells HX2.out
  obtain ⟨i, hi⟩ : ∃ i, firI ws fs d ⟨src, dst, pr, sp, dp⟩ = i := ⟨_, rfl⟩
  have hcall : Calls Try.prog 16 #[.slice p ws.length c, u, .bool d, .agg #[.int .u32 src, .int .u32 dst, .int .u8 pr, .int .u16 sp, .int .u16 dp]] W2 fun e w' => e = .returned (.tuple #[.int .i64 i, .int .i64 0]) ∧ Below W2.heap.size W2 w' := by
    rw [← hi]; exact rfirst_ok ws fs _ u d ⟨src, dst, pr, sp, dp⟩ W2 (hr.below HB2.out) (hf.below HB2.out) hh hck
  have HC := Lib.hid hcall
  have HP := Lib.hid hp
  show Calls _ _ #[_, _, _, .agg #[.int .u32 src, .int .u32 dst, .int .u8 pr, .int .u16 sp, .int .u16 dp]] _ _
  unfold maxLen at hcm
  clear hr hf hck hh hcall hp
  obtain ⟨o, ho⟩ : ∃ o, firO ws fs d ⟨src, dst, pr, sp, dp⟩ = o := ⟨_, rfl⟩
  cases o with
  | none =>
    rw [appH_none ho]
    rw [firI_none ho] at hi
    subst hi
    clear ho
    go_enter Try.func18, Try.ntmps18
    go_wp2_with fail
    go_at_call 16
    (with_reducible refine HC.out.mono ?_)
    rintro e w3 ⟨rfl, hb3⟩
    have hy3 := (hb3.block (w.heap.size + 1) (Array.getElem?_eq_some_iff.1 HY2.out).1).trans HY2.out
    have hx3 := (hb3.block w.heap.size (Array.getElem?_eq_some_iff.1 HX2.out).1).trans HX2.out
    clear x0 x1 x2 x3 x4
    obtain ⟨x0, x1, x2, x3, x4⟩ := hdr_cells hx3
    obtain ⟨W5, hW5, ⟨p0, p1, p2, p3, p4⟩, ⟨q0, q1, q2, q3, q4⟩, ⟨z0, z1, z2, z3, z4⟩, hb5⟩ := store5 (n := w.heap.size) (b := w.heap.size + 1) (w := w) src dst pr sp dp hy3 (Below.step HB2.out hb3) (by omega)
    have HB5 := Lib.hid hb5
    clear hb3 hy3 hx3 hb5
    go_wp2
    (try simp only [Exit.inBlock, Exit.then])
    refine bodyPost_ret (by simp [results, Try.results18, go_sem, z0, z1, z2, z3, z4]; try rfl) rfl ?_
    exact ⟨rfl, HB5.out⟩
  | some k =>
    obtain ⟨r, hs⟩ := firO_at ho
    rw [appH_some ho hs]
    rw [firI_some ho] at hi
    subst hi
    have hk := (List.getElem?_eq_some_iff.1 hs).1
    obtain ⟨b, o, rfl, hbs, hc⟩ := HP.out k r hs
    obtain ⟨dest, flt, aim⟩ := r
    simp only [encW] at hc
    have HCC := Lib.hid hc
    have e1 : (0 : Int) ≤ (k : Int) := by omega
    have e2 : (k : Int) < (ws.length : Int) := by omega
    have e3 : ¬ (k : Int) < 0 := by omega
    have HBS := Lib.hid hbs
    clear ho hs hc hbs
    cases d with
    | false =>
      go_enter Try.func18, Try.ntmps18
      go_wp2_with fail
      go_at_call 16
      (with_reducible refine HC.out.mono ?_)
      rintro e w3 ⟨rfl, hb3⟩
      have c2 := HCC.out w3 (Below.step HB2.out hb3) 2 _ rfl
      have hy3 := (hb3.block (w.heap.size + 1) (Array.getElem?_eq_some_iff.1 HY2.out).1).trans HY2.out
      have hx3 := (hb3.block w.heap.size (Array.getElem?_eq_some_iff.1 HX2.out).1).trans HX2.out
      clear x0 x1 x2 x3 x4
      obtain ⟨y0, y1, y2, y3, y4⟩ := hdr_cells hx3
      have yf : w3.frozen? ⟨w.heap.size, 0, none⟩ = false := by simp [World.frozen?, hx3]
      obtain ⟨W4, hW4⟩ : ∃ W4, w3.setCell ⟨w.heap.size, 0, none⟩ (.int .u32 aim) = W4 := ⟨_, rfl⟩
      have hb4 : Below w.heap.size w W4 := by rw [← hW4]; exact (Below.step HB2.out hb3).setCell (p := ⟨w.heap.size, 0, none⟩) (Nat.le_refl _) _
      have hx4 : W4.heap[w.heap.size]? = some (.cells #[.int .u32 aim, .int .u32 dst, .int .u8 pr, .int .u16 sp, .int .u16 dp] 40 (0, 0)) := by rw [← hW4]; exact heap_setCell _ hx3
      have hy4 : W4.heap[w.heap.size + 1]? = some (.cells #[.int .u32 0, .int .u32 0, .int .u8 0, .int .u16 0, .int .u16 0] 40 (0, 0)) := by rw [← hW4, Below.heap_setCell _ _ _ _ (by show w.heap.size + 1 ≠ w.heap.size; omega)]; exact hy3
      obtain ⟨x0, x1, x2, x3, x4⟩ := hdr_cells hx4
      obtain ⟨W5, hW5, ⟨p0, p1, p2, p3, p4⟩, ⟨q0, q1, q2, q3, q4⟩, ⟨z0, z1, z2, z3, z4⟩, hb5⟩ := store5 (n := w.heap.size) (b := w.heap.size + 1) (w := w) aim dst pr sp dp hy4 hb4 (by omega)
      have HB5 := Lib.hid hb5
      clear hb3 hy3 hx3 hb4 hx4 hy4 hb5
      go_wp2
      (try simp only [Exit.inBlock, Exit.then])
      refine bodyPost_ret (by simp [results, Try.results18, go_sem, z0, z1, z2, z3, z4]; try rfl) rfl ?_
      exact ⟨rfl, HB5.out⟩
    | true =>
      go_enter Try.func18, Try.ntmps18
      go_wp2_with fail
      go_at_call 16
      (with_reducible refine HC.out.mono ?_)
      rintro e w3 ⟨rfl, hb3⟩
      have c2 := HCC.out w3 (Below.step HB2.out hb3) 2 _ rfl
      have hy3 := (hb3.block (w.heap.size + 1) (Array.getElem?_eq_some_iff.1 HY2.out).1).trans HY2.out
      have hx3 := (hb3.block w.heap.size (Array.getElem?_eq_some_iff.1 HX2.out).1).trans HX2.out
      clear x0 x1 x2 x3 x4
      obtain ⟨y0, y1, y2, y3, y4⟩ := hdr_cells hx3
      have yf : w3.frozen? ⟨w.heap.size, 1, none⟩ = false := by simp [World.frozen?, hx3]
      obtain ⟨W4, hW4⟩ : ∃ W4, w3.setCell ⟨w.heap.size, 1, none⟩ (.int .u32 aim) = W4 := ⟨_, rfl⟩
      have hb4 : Below w.heap.size w W4 := by rw [← hW4]; exact (Below.step HB2.out hb3).setCell (p := ⟨w.heap.size, 1, none⟩) (Nat.le_refl _) _
      have hx4 : W4.heap[w.heap.size]? = some (.cells #[.int .u32 src, .int .u32 aim, .int .u8 pr, .int .u16 sp, .int .u16 dp] 40 (0, 0)) := by rw [← hW4]; exact heap_setCell _ hx3
      have hy4 : W4.heap[w.heap.size + 1]? = some (.cells #[.int .u32 0, .int .u32 0, .int .u8 0, .int .u16 0, .int .u16 0] 40 (0, 0)) := by rw [← hW4, Below.heap_setCell _ _ _ _ (by show w.heap.size + 1 ≠ w.heap.size; omega)]; exact hy3
      obtain ⟨x0, x1, x2, x3, x4⟩ := hdr_cells hx4
      obtain ⟨W5, hW5, ⟨p0, p1, p2, p3, p4⟩, ⟨q0, q1, q2, q3, q4⟩, ⟨z0, z1, z2, z3, z4⟩, hb5⟩ := store5 (n := w.heap.size) (b := w.heap.size + 1) (w := w) src aim pr sp dp hy4 hb4 (by omega)
      have HB5 := Lib.hid hb5
      clear hb3 hy3 hx3 hb4 hx4 hy4 hb5
      go_wp2
      (try simp only [Exit.inBlock, Exit.then])
      refine bodyPost_ret (by simp [results, Try.results18, go_sem, z0, z1, z2, z3, z4]; try rfl) rfl ?_
      exact ⟨rfl, HB5.out⟩
set_option maxHeartbeats 2000000 in
theorem same_is (h : HdrD) (w : World) : Calls Try.prog 21 #[vH h, vH h] w fun e w' => e = .returned (.bool true) ∧ Below w.heap.size w w' := by
  obtain ⟨src, dst, pr, sp, dp⟩ := h
  show Calls _ _ #[.agg #[.int .u32 src, .int .u32 dst, .int .u8 pr, .int .u16 sp, .int .u16 dp], .agg #[.int .u32 src, .int .u32 dst, .int .u8 pr, .int .u16 sp, .int .u16 dp]] _ _
  have hb : Below w.heap.size w ((w.alloc (.cells #[.int .u32 src, .int .u32 dst, .int .u8 pr, .int .u16 sp, .int .u16 dp] 40)).alloc (.cells #[.int .u32 src, .int .u32 dst, .int .u8 pr, .int .u16 sp, .int .u16 dp] 40)) := ((Below.refl _ _).alloc (Nat.le_refl _) _).alloc (by simp) _
  have HB := Lib.hid hb
  clear hb
  go_enter Try.func21, Try.ntmps21
  go_wp2
  go_ret
  exact ⟨rfl, HB.out⟩
end Go.Proofs.Ythooiigdembgcaa
