/- Same of package policy: subjects whose fields are the same and whose lists read alike are the same; PolicyNames answers true. No condition. -/
import Derived.Test.YtolnpggofocjkaaPnF
namespace Go.Proofs.Ytolnpggofocjkaa
open Go.RowKit
theorem eqlP (a n b m : Int) (w : World) : (binOp .eql 26 (.agg #[.int .u32 a, .int .i64 n]) (.agg #[.int .u32 b, .int .i64 m])).run Try.prog w = .ok (.bool (decide (a = b ∧ n = m))) w := by
  by_cases h1 : a = b <;> by_cases h2 : n = m <;> simp [h1, h2, go_sem]
theorem eqPR : Try.prog.eqGuardType Try.prog.depth 26 = false := by kernel_rfl
theorem guardP (op : BinOp) (a b : Operand) (x y : Array Value) (w : World) : (eqGuard op 26 a b (.agg x) (.agg y)).run Try.prog w = .ok () w :=
  run_eqGuard_agg _ _ _ _ _ _ _ eqPR
theorem equal_same (a b : Value) (l : List Int) (w : World) (ha : RdK encU 1 w a l) (hb : RdK encU 1 w b l) (hl : l.length ≤ 4294967296) : Calls Try.prog 33 #[a, b] w fun e w' => e = .returned (.bool true) ∧ ∃ q, w' = w.drewN q :=
  (equal_is a b l l w ha hb hl hl).mono fun e w' ⟨h1, h2⟩ => ⟨by rw [h1, decide_eq_true rfl], h2⟩
theorem carryH {A C : World} {g : Nat} {x : Obj} (h : A.heap[g]? = some x) (hb : Below A.heap.size A C) : C.heap[g]? = some x := (hb.block g (Array.getElem?_eq_some_iff.1 h).1).trans h
theorem box8 {A B C : World} {v0 v1 v2 v3 v4 v5 v6 v7 : Value} (h5 : A.alloc (.cells (subV 0 0 0 0 0 (.slice none 0 0) (.slice none 0 0) 0) 36) = B) (h6 : ((((((((B.setCell ⟨A.heap.size, 0, none⟩ v0).setCell ⟨A.heap.size, 1, none⟩ v1).setCell ⟨A.heap.size, 2, none⟩ v2).setCell ⟨A.heap.size, 3, none⟩ v3).setCell ⟨A.heap.size, 4, none⟩ v4).setCell ⟨A.heap.size, 5, none⟩ v5).setCell ⟨A.heap.size, 6, none⟩ v6).setCell ⟨A.heap.size, 7, none⟩ v7) = C) : Hid (C.heap[A.heap.size]? = some (.cells #[v0, v1, v2, v3, v4, v5, v6, v7] 36 (0, 0))) ∧ Hid (Below A.heap.size A C) ∧ Hid (C.heap.size = A.heap.size + 1) ∧ Hid (B.heap[A.heap.size]? = some (.cells (subV 0 0 0 0 0 (.slice none 0 0) (.slice none 0 0) 0) 36 (0, 0))) := by
  have e := heap_alc h5
  refine ⟨Lib.hid ?_, Lib.hid ?_, Lib.hid ?_, Lib.hid e⟩
  · rw [← h6]; exact heap_put8 e v0 v1 v2 v3 v4 v5 v6 v7
  · rw [← h6]; exact blw_put8 (by rw [← h5]; exact (Below.refl _ _).alloc (Nat.le_refl _) _) (Nat.le_refl _) v0 v1 v2 v3 v4 v5 v6 v7
  · rw [← h6]; simp; rw [← h5]; simp
theorem box12 {A B C : World} {v0 v1 v2 v3 v4 v5 v6 v7 v8 v9 v10 v11 : Value} (h5 : A.alloc (.cells (devV (.slice none 0 0)) 51) = B) (h6 : ((((((((((((B.setCell ⟨A.heap.size, 0, none⟩ v0).setCell ⟨A.heap.size, 1, none⟩ v1).setCell ⟨A.heap.size, 2, none⟩ v2).setCell ⟨A.heap.size, 3, none⟩ v3).setCell ⟨A.heap.size, 4, none⟩ v4).setCell ⟨A.heap.size, 5, none⟩ v5).setCell ⟨A.heap.size, 6, none⟩ v6).setCell ⟨A.heap.size, 7, none⟩ v7).setCell ⟨A.heap.size, 8, none⟩ v8).setCell ⟨A.heap.size, 9, none⟩ v9).setCell ⟨A.heap.size, 10, none⟩ v10).setCell ⟨A.heap.size, 11, none⟩ v11) = C) : Hid (C.heap[A.heap.size]? = some (.cells #[v0, v1, v2, v3, v4, v5, v6, v7, v8, v9, v10, v11] 51 (0, 0))) ∧ Hid (Below A.heap.size A C) ∧ Hid (C.heap.size = A.heap.size + 1) ∧ Hid (B.heap[A.heap.size]? = some (.cells (devV (.slice none 0 0)) 51 (0, 0))) := by
  have e := heap_alc h5
  refine ⟨Lib.hid ?_, Lib.hid ?_, Lib.hid ?_, Lib.hid e⟩
  · rw [← h6]; have h := e; simpa using (heap_store (o := 11) (v := v11) (heap_store (o := 10) (v := v10) (heap_store (o := 9) (v := v9) (heap_store (o := 8) (v := v8) (heap_store (o := 7) (v := v7) (heap_store (o := 6) (v := v6) (heap_store (o := 5) (v := v5) (heap_store (o := 4) (v := v4) (heap_store (o := 3) (v := v3) (heap_store (o := 2) (v := v2) (heap_store (o := 1) (v := v1) (heap_store (o := 0) (v := v0) h))))))))))))
  · rw [← h6]
    have h : Below A.heap.size A B := by rw [← h5]; exact (Below.refl _ _).alloc (Nat.le_refl _) _
    have hb : A.heap.size ≤ A.heap.size := Nat.le_refl _
    exact (Below.setCell (p := ⟨A.heap.size, 11, none⟩) (Below.setCell (p := ⟨A.heap.size, 10, none⟩) (Below.setCell (p := ⟨A.heap.size, 9, none⟩) (Below.setCell (p := ⟨A.heap.size, 8, none⟩) (Below.setCell (p := ⟨A.heap.size, 7, none⟩) (Below.setCell (p := ⟨A.heap.size, 6, none⟩) (Below.setCell (p := ⟨A.heap.size, 5, none⟩) (Below.setCell (p := ⟨A.heap.size, 4, none⟩) (Below.setCell (p := ⟨A.heap.size, 3, none⟩) (Below.setCell (p := ⟨A.heap.size, 2, none⟩) (Below.setCell (p := ⟨A.heap.size, 1, none⟩) (Below.setCell (p := ⟨A.heap.size, 0, none⟩) h hb _) hb _) hb _) hb _) hb _) hb _) hb _) hb _) hb _) hb _) hb _) hb _)
  · rw [← h6]; simp; rw [← h5]; simp
set_option maxRecDepth 100000 in
set_option maxHeartbeats 1000000 in
theorem same_is (a b m t p h : Int) (va vb vc vd : Value) (l r : List Int) (w : World) (ha : RdK encU 1 w va l) (hb : RdK encU 1 w vb r) (hc : RdK encU 1 w vc l) (hd : RdK encU 1 w vd r) (hl : l.length ≤ 4294967296) (hr : r.length ≤ 4294967296) :
    Calls Try.prog 15 #[.agg (subV a b m t p va vb h), .agg (subV a b m t p vc vd h)] w fun e w' => e = .returned (.bool true) ∧ Below w.heap.size w w' := by
  obtain ⟨W1, hW1⟩ : ∃ X, w.alloc (.cells (subV a b m t p va vb h) 36) = X := ⟨_, rfl⟩
  obtain ⟨W2, hW2⟩ : ∃ X, W1.alloc (.cells (subV a b m t p vc vd h) 36) = X := ⟨_, rfl⟩
  have zW1 : W1.heap.size = w.heap.size + 1 := by rw [← hW1]; simp
  have zW2 : W2.heap.size = w.heap.size + 2 := by rw [← hW2]; simp [zW1]
  have B2 : Hid (Below w.heap.size w W2) := Lib.hid (by rw [← hW2, ← hW1]; exact ((Below.refl _ _).alloc (Nat.le_refl _) _).alloc (by simp) _)
  have HA : Hid (W2.heap[w.heap.size]? = some (.cells (subV a b m t p va vb h) 36 (0, 0))) := Lib.hid (heap_old hW2 (heap_alc hW1))
  have HB : Hid (W2.heap[w.heap.size + 1]? = some (.cells (subV a b m t p vc vd h) 36 (0, 0))) := Lib.hid (by have := heap_alc hW2; rwa [zW1] at this)
  obtain ⟨x0, x1, x2, x3, x4, x5, x6, x7⟩ : W2.cell? ⟨w.heap.size, 0, none⟩ = some (.int .u32 a) ∧ W2.cell? ⟨w.heap.size, 1, none⟩ = some (.int .i64 b) ∧ W2.cell? ⟨w.heap.size, 2, none⟩ = some (.int .i64 m) ∧ W2.cell? ⟨w.heap.size, 3, none⟩ = some (.int .i64 t) ∧ W2.cell? ⟨w.heap.size, 4, none⟩ = some (.int .i64 p) ∧ W2.cell? ⟨w.heap.size, 5, none⟩ = some va ∧ W2.cell? ⟨w.heap.size, 6, none⟩ = some vb ∧ W2.cell? ⟨w.heap.size, 7, none⟩ = some (.int .u32 h) := ⟨cell_heap HA.out, cell_heap HA.out, cell_heap HA.out, cell_heap HA.out, cell_heap HA.out, cell_heap HA.out, cell_heap HA.out, cell_heap HA.out⟩
  obtain ⟨y0, y1, y2, y3, y4, y5, y6, y7⟩ : W2.cell? ⟨w.heap.size + 1, 0, none⟩ = some (.int .u32 a) ∧ W2.cell? ⟨w.heap.size + 1, 1, none⟩ = some (.int .i64 b) ∧ W2.cell? ⟨w.heap.size + 1, 2, none⟩ = some (.int .i64 m) ∧ W2.cell? ⟨w.heap.size + 1, 3, none⟩ = some (.int .i64 t) ∧ W2.cell? ⟨w.heap.size + 1, 4, none⟩ = some (.int .i64 p) ∧ W2.cell? ⟨w.heap.size + 1, 5, none⟩ = some vc ∧ W2.cell? ⟨w.heap.size + 1, 6, none⟩ = some vd ∧ W2.cell? ⟨w.heap.size + 1, 7, none⟩ = some (.int .u32 h) := ⟨cell_heap HB.out, cell_heap HB.out, cell_heap HB.out, cell_heap HB.out, cell_heap HB.out, cell_heap HB.out, cell_heap HB.out, cell_heap HB.out⟩
  have heq := eqlP a b a b
  have hgd := guardP
  have hdd : decide (a = a ∧ b = b) = true := decide_eq_true ⟨rfl, rfl⟩
  have E1 := Lib.hid (equal_same va vc l W2 (ha.below B2.out) (hc.below B2.out) hl)
  have HB2 := Lib.hid (hb.below B2.out)
  have HD2 := Lib.hid (hd.below B2.out)
  clear ha hb hc hd
  go_enter Try.func15, Try.ntmps15
  go_wp2_with fail
  go_at_call 33
  (with_reducible refine E1.out.mono ?_)
  rintro e W3 ⟨rfl, q1, hq⟩
  have B3 : Hid (Below W2.heap.size W2 W3) := Lib.hid (by rw [hq]; exact Below.draws (Below.refl _ _) _)
  have BW3 : Hid (Below w.heap.size w W3) := Lib.hid (B2.out.trans (B3.out.mono (by omega)))
  clear hq
  have HA3 : Hid (W3.heap[w.heap.size]? = some (.cells (subV a b m t p va vb h) 36 (0, 0))) := Lib.hid (carryH HA.out B3.out)
  have HB3 : Hid (W3.heap[w.heap.size + 1]? = some (.cells (subV a b m t p vc vd h) 36 (0, 0))) := Lib.hid (carryH HB.out B3.out)
  have x63 : W3.cell? ⟨w.heap.size, 6, none⟩ = some vb := cell_heap HA3.out
  have y63 : W3.cell? ⟨w.heap.size + 1, 6, none⟩ = some vd := cell_heap HB3.out
  have E2 := Lib.hid (equal_same vb vd r W3 (HB2.out.below B3.out) (HD2.out.below B3.out) hr)
  go_wp2_with fail
  go_at_call 33
  (with_reducible refine E2.out.mono ?_)
  rintro e W4 ⟨rfl, q2, hq⟩
  have B4 : Hid (Below w.heap.size w W4) := Lib.hid (by rw [hq]; exact Below.draws BW3.out _)
  clear hq
  go_wp2
  go_ret
  exact ⟨rfl, B4.out⟩
end Go.Proofs.Ytolnpggofocjkaa
