/- own of package policy: a subject with lists of its own. Under the conditions that it names. -/
import Derived.Test.YtolnpggofocjkaaPnA
namespace Go.Proofs.Ytolnpggofocjkaa
open Go.RowKit
/-- A subject's cells. -/
abbrev subV (a b m t p : Int) (vp vc : Value) (h : Int) : Array Value := #[.int .u32 a, .int .i64 b, .int .i64 m, .int .i64 t, .int .i64 p, vp, vc, .int .u32 h]
set_option maxRecDepth 100000 in
set_option maxHeartbeats 1000000 in
theorem own_is (a b m t p h : Int) (vp vc : Value) (l r : List Int) (w : World) (hp : RdK encU 1 w vp l) (hc : RdK encU 1 w vc r) (hl : l.length + r.length ≤ 4294967296) : Calls Try.prog 30 #[.agg (subV a b m t p vp vc h)] w fun e w' =>
    ∃ vp' vc', e = .returned (.agg (subV a b m t p vp' vc' h)) ∧ w'.ownsRow w.heap.size 23 1 vp' l.length (flatK encU l) ∧ w'.ownsRow w.heap.size 23 1 vc' r.length (flatK encU r) ∧ Below w.heap.size w w' := by
  obtain ⟨W1, hW1⟩ : ∃ X, w.alloc (.cells (subV a b m t p vp vc h) 36) = X := ⟨_, rfl⟩
  obtain ⟨W2, hW2⟩ : ∃ X, W1.alloc (.cells (subV 0 0 0 0 0 (.slice none 0 0) (.slice none 0 0) 0) 36) = X := ⟨_, rfl⟩
  have z1 : W1.heap.size = w.heap.size + 1 := by rw [← hW1]; simp
  have z2 : W2.heap.size = w.heap.size + 2 := by rw [← hW2]; simp [z1]
  have B2 : Hid (Below w.heap.size w W2) := Lib.hid (by rw [← hW2, ← hW1]; exact ((Below.refl _ _).alloc (Nat.le_refl _) _).alloc (by simp) _)
  have H1 : Hid (W2.heap[w.heap.size]? = some (.cells (subV a b m t p vp vc h) 36 (0, 0))) := Lib.hid (by
    rw [← hW2]; show (W1.heap.push _)[w.heap.size]? = _
    rw [Array.getElem?_push_lt (by omega)]
    have := heap_newU w (.cells (subV a b m t p vp vc h) 36)
    rw [hW1] at this
    rw [← this, Array.getElem?_eq_getElem (by omega)])
  have H2 : Hid (W2.heap[w.heap.size + 1]? = some (.cells (subV 0 0 0 0 0 (.slice none 0 0) (.slice none 0 0) 0) 36 (0, 0))) := Lib.hid (by
    have := heap_newU W1 (.cells (subV 0 0 0 0 0 (.slice none 0 0) (.slice none 0 0) 0) 36)
    rw [hW2, z1] at this; exact this)
  have C1 := Lib.hid (sum_one vp l W2 (hp.below B2.out) (by omega))
  have HC := Lib.hid hc
  clear hp hc
  have k5 : W2.cell? ⟨w.heap.size, 5, none⟩ = some vp := cell_heap H1.out
  go_enter Try.func30, Try.ntmps30
  go_wp2_with fail
  go_at_call 61
  (with_reducible refine C1.out.mono ?_)
  rintro e W3 ⟨vp', rfl, ho1, hb3⟩
  obtain ⟨p1, c1, rfl⟩ := own_sl ho1
  have H3 : Hid (W3.heap[w.heap.size]? = some (.cells (subV a b m t p vp vc h) 36 (0, 0))) := Lib.hid ((hb3.block _ (by omega)).trans H1.out)
  have R3 : Hid (W3.heap[w.heap.size + 1]? = some (.cells (subV 0 0 0 0 0 (.slice none 0 0) (.slice none 0 0) 0) 36 (0, 0))) := Lib.hid ((hb3.block _ (by omega)).trans H2.out)
  have B3 : Hid (Below w.heap.size w W3) := Lib.hid (B2.out.trans (hb3.mono (by omega)))
  have z3 := hb3.size
  have q5 : W3.cell? ⟨w.heap.size, 5, none⟩ = some vp := cell_heap H3.out
  have f5 : W3.frozen? ⟨w.heap.size, 5, none⟩ = false := frozen_heap H3.out
  obtain ⟨W4, hW4⟩ : ∃ X, W3.setCell ⟨w.heap.size, 5, none⟩ (.slice p1 l.length c1) = X := ⟨_, rfl⟩
  have H4 : Hid (W4.heap[w.heap.size]? = some (.cells (subV a b m t p (.slice p1 l.length c1) vc h) 36 (0, 0))) := Lib.hid (by rw [← hW4]; simpa using heap_store (o := 5) (v := .slice p1 l.length c1) H3.out)
  have R4 : Hid (W4.heap[w.heap.size + 1]? = some (.cells (subV 0 0 0 0 0 (.slice none 0 0) (.slice none 0 0) 0) 36 (0, 0))) := Lib.hid (by rw [← hW4]; exact (heap_setOther (by omega)).trans R3.out)
  have B4 : Hid (Below w.heap.size w W4) := Lib.hid (by rw [← hW4]; exact B3.out.setCell (p := ⟨w.heap.size, 5, none⟩) (Nat.le_refl _) _)
  have O4 : Hid (W4.ownsRow (w.heap.size + 2) 23 1 (.slice p1 l.length c1) l.length (flatK encU l)) := Lib.hid (by rw [← hW4]; simpa [z2] using own_setO (b := w.heap.size) (o := 5) (u := .slice p1 l.length c1) ho1 (by omega))
  have z4 : w.heap.size + 2 ≤ W4.heap.size := by rw [← hW4]; simp; omega
  have q6 : W4.cell? ⟨w.heap.size, 6, none⟩ = some vc := cell_heap H4.out
  have C2 := Lib.hid (sum_one vc r W4 (HC.out.below B4.out) (by omega))
  clear ho1 hb3
  go_wp2_with fail
  go_at_call 61
  (with_reducible refine C2.out.mono ?_)
  rintro e W5 ⟨vc', rfl, ho2, hb5⟩
  obtain ⟨p2, c2, rfl⟩ := own_sl ho2
  have H5 : Hid (W5.heap[w.heap.size]? = some (.cells (subV a b m t p (.slice p1 l.length c1) vc h) 36 (0, 0))) := Lib.hid ((hb5.block _ (by omega)).trans H4.out)
  have R5 : Hid (W5.heap[w.heap.size + 1]? = some (.cells (subV 0 0 0 0 0 (.slice none 0 0) (.slice none 0 0) 0) 36 (0, 0))) := Lib.hid ((hb5.block _ (by omega)).trans R4.out)
  have B5 : Hid (Below w.heap.size w W5) := Lib.hid (B4.out.trans (hb5.mono (by omega)))
  have z5 := hb5.size
  have r6 : W5.cell? ⟨w.heap.size, 6, none⟩ = some vc := cell_heap H5.out
  have f6 : W5.frozen? ⟨w.heap.size, 6, none⟩ = false := frozen_heap H5.out
  obtain ⟨W6, hW6⟩ : ∃ X, W5.setCell ⟨w.heap.size, 6, none⟩ (.slice p2 r.length c2) = X := ⟨_, rfl⟩
  have H6 : Hid (W6.heap[w.heap.size]? = some (.cells (subV a b m t p (.slice p1 l.length c1) (.slice p2 r.length c2) h) 36 (0, 0))) := Lib.hid (by rw [← hW6]; simpa using heap_store (o := 6) (v := .slice p2 r.length c2) H5.out)
  have R6 : Hid (W6.heap[w.heap.size + 1]? = some (.cells (subV 0 0 0 0 0 (.slice none 0 0) (.slice none 0 0) 0) 36 (0, 0))) := Lib.hid (by rw [← hW6]; exact (heap_setOther (by omega)).trans R5.out)
  have B6 : Hid (Below w.heap.size w W6) := Lib.hid (by rw [← hW6]; exact B5.out.setCell (p := ⟨w.heap.size, 6, none⟩) (Nat.le_refl _) _)
  have O6 : Hid (W6.ownsRow (w.heap.size + 2) 23 1 (.slice p1 l.length c1) l.length (flatK encU l)) := Lib.hid (by rw [← hW6]; exact own_setO (own_blw O4.out hb5) (by omega))
  have Q6 : Hid (W6.ownsRow (w.heap.size + 2) 23 1 (.slice p2 r.length c2) r.length (flatK encU r)) := Lib.hid (by rw [← hW6]; simpa using own_lower (own_setO (b := w.heap.size) (o := 6) (u := .slice p2 r.length c2) ho2 (by omega)) (by omega))
  obtain ⟨j0, j1, j2, j3, j4, j5, j6, j7⟩ : W6.cell? ⟨w.heap.size, 0, none⟩ = some (.int .u32 a) ∧ W6.cell? ⟨w.heap.size, 1, none⟩ = some (.int .i64 b) ∧ W6.cell? ⟨w.heap.size, 2, none⟩ = some (.int .i64 m) ∧ W6.cell? ⟨w.heap.size, 3, none⟩ = some (.int .i64 t) ∧ W6.cell? ⟨w.heap.size, 4, none⟩ = some (.int .i64 p) ∧ W6.cell? ⟨w.heap.size, 5, none⟩ = some (.slice p1 l.length c1) ∧ W6.cell? ⟨w.heap.size, 6, none⟩ = some (.slice p2 r.length c2) ∧ W6.cell? ⟨w.heap.size, 7, none⟩ = some (.int .u32 h) :=
    ⟨cell_heap H6.out, cell_heap H6.out, cell_heap H6.out, cell_heap H6.out, cell_heap H6.out, cell_heap H6.out, cell_heap H6.out, cell_heap H6.out⟩
  obtain ⟨y0, y1, y2, y3, y4, y5, y6, y7⟩ : W6.cell? ⟨w.heap.size + 1, 0, none⟩ = some (.int .u32 0) ∧ W6.cell? ⟨w.heap.size + 1, 1, none⟩ = some (.int .i64 0) ∧ W6.cell? ⟨w.heap.size + 1, 2, none⟩ = some (.int .i64 0) ∧ W6.cell? ⟨w.heap.size + 1, 3, none⟩ = some (.int .i64 0) ∧ W6.cell? ⟨w.heap.size + 1, 4, none⟩ = some (.int .i64 0) ∧ W6.cell? ⟨w.heap.size + 1, 5, none⟩ = some (.slice none 0 0) ∧ W6.cell? ⟨w.heap.size + 1, 6, none⟩ = some (.slice none 0 0) ∧ W6.cell? ⟨w.heap.size + 1, 7, none⟩ = some (.int .u32 0) :=
    ⟨cell_heap R6.out, cell_heap R6.out, cell_heap R6.out, cell_heap R6.out, cell_heap R6.out, cell_heap R6.out, cell_heap R6.out, cell_heap R6.out⟩
  have fz : ∀ o, W6.frozen? ⟨w.heap.size + 1, o, none⟩ = false := fun o => frozen_heap R6.out
  go_wp2_with fail
  have R7 : Hid (((((((((W6.setCell ⟨w.heap.size + 1, 0, none⟩ (.int .u32 a)).setCell ⟨w.heap.size + 1, 1, none⟩ (.int .i64 b)).setCell ⟨w.heap.size + 1, 2, none⟩ (.int .i64 m)).setCell ⟨w.heap.size + 1, 3, none⟩ (.int .i64 t)).setCell ⟨w.heap.size + 1, 4, none⟩ (.int .i64 p)).setCell ⟨w.heap.size + 1, 5, none⟩ (.slice p1 l.length c1)).setCell ⟨w.heap.size + 1, 6, none⟩ (.slice p2 r.length c2)).setCell ⟨w.heap.size + 1, 7, none⟩ (.int .u32 h)).heap[w.heap.size + 1]? = some (.cells (subV a b m t p (.slice p1 l.length c1) (.slice p2 r.length c2) h) 36 (0, 0))) := Lib.hid (heap_put8 R6.out (.int .u32 a) (.int .i64 b) (.int .i64 m) (.int .i64 t) (.int .i64 p) (.slice p1 l.length c1) (.slice p2 r.length c2) (.int .u32 h))
  have O7 : Hid (((((((((W6.setCell ⟨w.heap.size + 1, 0, none⟩ (.int .u32 a)).setCell ⟨w.heap.size + 1, 1, none⟩ (.int .i64 b)).setCell ⟨w.heap.size + 1, 2, none⟩ (.int .i64 m)).setCell ⟨w.heap.size + 1, 3, none⟩ (.int .i64 t)).setCell ⟨w.heap.size + 1, 4, none⟩ (.int .i64 p)).setCell ⟨w.heap.size + 1, 5, none⟩ (.slice p1 l.length c1)).setCell ⟨w.heap.size + 1, 6, none⟩ (.slice p2 r.length c2)).setCell ⟨w.heap.size + 1, 7, none⟩ (.int .u32 h)).ownsRow w.heap.size 23 1 (.slice p1 l.length c1) l.length (flatK encU l)) := Lib.hid (own_lower (own_put8 O6.out (by omega) (.int .u32 a) (.int .i64 b) (.int .i64 m) (.int .i64 t) (.int .i64 p) (.slice p1 l.length c1) (.slice p2 r.length c2) (.int .u32 h)) (by omega))
  have Q7 : Hid (((((((((W6.setCell ⟨w.heap.size + 1, 0, none⟩ (.int .u32 a)).setCell ⟨w.heap.size + 1, 1, none⟩ (.int .i64 b)).setCell ⟨w.heap.size + 1, 2, none⟩ (.int .i64 m)).setCell ⟨w.heap.size + 1, 3, none⟩ (.int .i64 t)).setCell ⟨w.heap.size + 1, 4, none⟩ (.int .i64 p)).setCell ⟨w.heap.size + 1, 5, none⟩ (.slice p1 l.length c1)).setCell ⟨w.heap.size + 1, 6, none⟩ (.slice p2 r.length c2)).setCell ⟨w.heap.size + 1, 7, none⟩ (.int .u32 h)).ownsRow w.heap.size 23 1 (.slice p2 r.length c2) r.length (flatK encU r)) := Lib.hid (own_lower (own_put8 Q6.out (by omega) (.int .u32 a) (.int .i64 b) (.int .i64 m) (.int .i64 t) (.int .i64 p) (.slice p1 l.length c1) (.slice p2 r.length c2) (.int .u32 h)) (by omega))
  have B7 : Hid (Below w.heap.size w ((((((((W6.setCell ⟨w.heap.size + 1, 0, none⟩ (.int .u32 a)).setCell ⟨w.heap.size + 1, 1, none⟩ (.int .i64 b)).setCell ⟨w.heap.size + 1, 2, none⟩ (.int .i64 m)).setCell ⟨w.heap.size + 1, 3, none⟩ (.int .i64 t)).setCell ⟨w.heap.size + 1, 4, none⟩ (.int .i64 p)).setCell ⟨w.heap.size + 1, 5, none⟩ (.slice p1 l.length c1)).setCell ⟨w.heap.size + 1, 6, none⟩ (.slice p2 r.length c2)).setCell ⟨w.heap.size + 1, 7, none⟩ (.int .u32 h))) := Lib.hid (blw_put8 B6.out (by omega) (.int .u32 a) (.int .i64 b) (.int .i64 m) (.int .i64 t) (.int .i64 p) (.slice p1 l.length c1) (.slice p2 r.length c2) (.int .u32 h))
  generalize ((((((((W6.setCell ⟨w.heap.size + 1, 0, none⟩ (.int .u32 a)).setCell ⟨w.heap.size + 1, 1, none⟩ (.int .i64 b)).setCell ⟨w.heap.size + 1, 2, none⟩ (.int .i64 m)).setCell ⟨w.heap.size + 1, 3, none⟩ (.int .i64 t)).setCell ⟨w.heap.size + 1, 4, none⟩ (.int .i64 p)).setCell ⟨w.heap.size + 1, 5, none⟩ (.slice p1 l.length c1)).setCell ⟨w.heap.size + 1, 6, none⟩ (.slice p2 r.length c2)).setCell ⟨w.heap.size + 1, 7, none⟩ (.int .u32 h)) = W7 at R7 O7 Q7 B7 ⊢
  obtain ⟨d0, d1, d2, d3, d4, d5, d6, d7⟩ : W7.cell? ⟨w.heap.size + 1, 0, none⟩ = some (.int .u32 a) ∧ W7.cell? ⟨w.heap.size + 1, 1, none⟩ = some (.int .i64 b) ∧ W7.cell? ⟨w.heap.size + 1, 2, none⟩ = some (.int .i64 m) ∧ W7.cell? ⟨w.heap.size + 1, 3, none⟩ = some (.int .i64 t) ∧ W7.cell? ⟨w.heap.size + 1, 4, none⟩ = some (.int .i64 p) ∧ W7.cell? ⟨w.heap.size + 1, 5, none⟩ = some (.slice p1 l.length c1) ∧ W7.cell? ⟨w.heap.size + 1, 6, none⟩ = some (.slice p2 r.length c2) ∧ W7.cell? ⟨w.heap.size + 1, 7, none⟩ = some (.int .u32 h) :=
    ⟨cell_heap R7.out, cell_heap R7.out, cell_heap R7.out, cell_heap R7.out, cell_heap R7.out, cell_heap R7.out, cell_heap R7.out, cell_heap R7.out⟩
  refine bodyPost_ret (v := .agg (subV a b m t p (.slice p1 l.length c1) (.slice p2 r.length c2) h)) (by simp [results, Try.results30, go_sem, d0, d1, d2, d3, d4, d5, d6, d7]) rfl ?_
  exact ⟨_, _, rfl, O7.out, Q7.out, B7.out⟩
end Go.Proofs.Ytolnpggofocjkaa
