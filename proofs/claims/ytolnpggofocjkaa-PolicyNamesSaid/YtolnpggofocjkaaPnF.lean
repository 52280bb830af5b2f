/- Apply, Decides and All of package policy at what PolicyNames asks. Under the conditions that they name. -/
import Derived.Test.YtolnpggofocjkaaPnE
namespace Go.Proofs.Ytolnpggofocjkaa
open Go.RowKit
/-- What named hands back. -/
def NamedIs (w0 : World) (vd : Value) (nm n : ByteArray) (df : Bool) (c : Int) : Prop := ∀ W, Below w0.heap.size w0 W → Calls Try.prog 27 #[.agg (devV vd), .string nm] W fun e w' => e = .returned (.tuple #[.agg (polV n df), .int .i64 c]) ∧ Below W.heap.size W w'
set_option maxRecDepth 100000 in
set_option maxHeartbeats 1000000 in
theorem apply_ok (vd : Value) (nm n : ByteArray) (a b m t p h : Int) (pp qp : Option Addr) (pn pc qn qc : Nat) (w : World) (hn : NamedIs w vd nm n true 0) (l r : List Int) (hp : RdK encU 1 w (.slice pp pn pc) l) (hq : RdK encU 1 w (.slice qp qn qc) r) (hl : l.length + r.length ≤ 4294967296) : Calls Try.prog 12 #[.agg (devV vd), .string nm, .agg (subV a b m t p (.slice pp pn pc) (.slice qp qn qc) h)] w fun e w' => ∃ vp vc, e = .returned (.tuple #[.agg (subV a b m t p vp vc h), .bool true, .int .i64 0]) ∧ w'.ownsRow w.heap.size 23 1 vp l.length (flatK encU l) ∧ w'.ownsRow w.heap.size 23 1 vc r.length (flatK encU r) ∧ Below w.heap.size w w' := by
  obtain ⟨W1, hW1⟩ : ∃ X, w.alloc (.cells (devV vd) 51) = X := ⟨_, rfl⟩
  obtain ⟨W2, hW2⟩ : ∃ X, W1.alloc (.cells (subV a b m t p (.slice pp pn pc) (.slice qp qn qc) h) 36) = X := ⟨_, rfl⟩
  obtain ⟨W3, hW3⟩ : ∃ X, W2.alloc (.cells (subV 0 0 0 0 0 (.slice none 0 0) (.slice none 0 0) 0) 36) = X := ⟨_, rfl⟩
  have zW1 : W1.heap.size = w.heap.size + 1 := by rw [← hW1]; simp
  have zW2 : W2.heap.size = w.heap.size + 2 := by rw [← hW2]; simp [zW1]
  have zW3 : W3.heap.size = w.heap.size + 3 := by rw [← hW3]; simp [zW2]
  have BA : Hid (Below w.heap.size w W3) := Lib.hid (by rw [← hW3, ← hW2, ← hW1]; exact (((Below.refl _ _).alloc (Nat.le_refl _) _).alloc (by simp) _).alloc (by simp; omega) _)
  have HD : Hid (W3.heap[w.heap.size]? = some (.cells (devV vd) 51 (0, 0))) := Lib.hid (heap_old hW3 (heap_old hW2 (heap_alc hW1)))
  have HS : Hid (W3.heap[w.heap.size + 1]? = some (.cells (subV a b m t p (.slice pp pn pc) (.slice qp qn qc) h) 36 (0, 0))) := Lib.hid (heap_old hW3 (by have := heap_alc hW2; rwa [zW1] at this))
  have HZ : Hid (W3.heap[w.heap.size + 2]? = some (.cells (subV 0 0 0 0 0 (.slice none 0 0) (.slice none 0 0) 0) 36 (0, 0))) := Lib.hid (by have := heap_alc hW3; rwa [zW2] at this)
  have HN := Lib.hid (hn W3 BA.out)
  obtain ⟨a0, a1, a2, a3, a4, a5, a6, a7, a8, a9, a10, a11⟩ : W3.cell? ⟨w.heap.size, 0, none⟩ = some (.string ⟨#[]⟩) ∧ W3.cell? ⟨w.heap.size, 1, none⟩ = some (.int .u8 0) ∧ W3.cell? ⟨w.heap.size, 2, none⟩ = some (.slice none 0 0) ∧ W3.cell? ⟨w.heap.size, 3, none⟩ = some (.slice none 0 0) ∧ W3.cell? ⟨w.heap.size, 4, none⟩ = some (.slice none 0 0) ∧ W3.cell? ⟨w.heap.size, 5, none⟩ = some (.slice none 0 0) ∧ W3.cell? ⟨w.heap.size, 6, none⟩ = some (.slice none 0 0) ∧ W3.cell? ⟨w.heap.size, 7, none⟩ = some (.slice none 0 0) ∧ W3.cell? ⟨w.heap.size, 8, none⟩ = some (.slice none 0 0) ∧ W3.cell? ⟨w.heap.size, 9, none⟩ = some vd ∧ W3.cell? ⟨w.heap.size, 10, none⟩ = some (.slice none 0 0) ∧ W3.cell? ⟨w.heap.size, 11, none⟩ = some (.slice none 0 0) := ⟨cell_heap HD.out, cell_heap HD.out, cell_heap HD.out, cell_heap HD.out, cell_heap HD.out, cell_heap HD.out, cell_heap HD.out, cell_heap HD.out, cell_heap HD.out, cell_heap HD.out, cell_heap HD.out, cell_heap HD.out⟩
  have HPP := Lib.hid hp
  have HQQ := Lib.hid hq
  clear hn hp hq
  go_enter Try.func12, Try.ntmps12
  go_wp2_with fail
  go_at_call 27
  (with_reducible refine HN.out.mono ?_)
  rintro e W4 ⟨rfl, hb4⟩
  have zW4 : w.heap.size + 3 ≤ W4.heap.size := by have := hb4.size; omega
  have HDW4 : Hid (W4.heap[w.heap.size]? = some (.cells (devV vd) 51 (0, 0))) := Lib.hid ((hb4.block _ (by omega)).trans HD.out)
  have HSW4 : Hid (W4.heap[w.heap.size + 1]? = some (.cells (subV a b m t p (.slice pp pn pc) (.slice qp qn qc) h) 36 (0, 0))) := Lib.hid ((hb4.block _ (by omega)).trans HS.out)
  have HZW4 : Hid (W4.heap[w.heap.size + 2]? = some (.cells (subV 0 0 0 0 0 (.slice none 0 0) (.slice none 0 0) 0) 36 (0, 0))) := Lib.hid ((hb4.block _ (by omega)).trans HZ.out)
  have BB : Hid (Below w.heap.size w W4) := Lib.hid (BA.out.trans (hb4.mono (by omega)))
  clear hb4
  obtain ⟨W5, hW5⟩ : ∃ X, W4.alloc (.cells (polV ⟨#[]⟩ false) 54) = X := ⟨_, rfl⟩
  have zW5 : W5.heap.size = W4.heap.size + 1 := by rw [← hW5]; simp
  have HD5 : Hid (W5.heap[w.heap.size]? = some (.cells (devV vd) 51 (0, 0))) := Lib.hid (heap_old hW5 HDW4.out)
  have HS5 : Hid (W5.heap[w.heap.size + 1]? = some (.cells (subV a b m t p (.slice pp pn pc) (.slice qp qn qc) h) 36 (0, 0))) := Lib.hid (heap_old hW5 HSW4.out)
  have HZ5 : Hid (W5.heap[w.heap.size + 2]? = some (.cells (subV 0 0 0 0 0 (.slice none 0 0) (.slice none 0 0) 0) 36 (0, 0))) := Lib.hid (heap_old hW5 HZW4.out)
  have HP5 : Hid (W5.heap[W4.heap.size]? = some (.cells (polV ⟨#[]⟩ false) 54 (0, 0))) := Lib.hid (by have := heap_alc hW5; exact this)
  have B5 : Hid (Below w.heap.size w W5) := Lib.hid (by rw [← hW5]; exact BB.out.alloc (by omega) _)
  obtain ⟨p0, p1, p2⟩ : W5.cell? ⟨W4.heap.size, 0, none⟩ = some (.string ⟨#[]⟩) ∧ W5.cell? ⟨W4.heap.size, 1, none⟩ = some (.slice none 0 0) ∧ W5.cell? ⟨W4.heap.size, 2, none⟩ = some (.bool false) := ⟨cell_heap HP5.out, cell_heap HP5.out, cell_heap HP5.out⟩
  have pz : ∀ o, W5.frozen? ⟨W4.heap.size, o, none⟩ = false := fun o => frozen_heap HP5.out
  obtain ⟨W6, hW6⟩ : ∃ X, (((W5.setCell ⟨W4.heap.size, 0, none⟩ (.string n)).setCell ⟨W4.heap.size, 1, none⟩ (.slice none 0 0)).setCell ⟨W4.heap.size, 2, none⟩ (.bool true)) = X := ⟨_, rfl⟩
  have HD6 : Hid (W6.heap[w.heap.size]? = some (.cells (devV vd) 51 (0, 0))) := Lib.hid (by rw [← hW6]; exact (heap_setOther (by omega)).trans ((heap_setOther (by omega)).trans ((heap_setOther (by omega)).trans HD5.out)))
  have HS6 : Hid (W6.heap[w.heap.size + 1]? = some (.cells (subV a b m t p (.slice pp pn pc) (.slice qp qn qc) h) 36 (0, 0))) := Lib.hid (by rw [← hW6]; exact (heap_setOther (by omega)).trans ((heap_setOther (by omega)).trans ((heap_setOther (by omega)).trans HS5.out)))
  have HZ6 : Hid (W6.heap[w.heap.size + 2]? = some (.cells (subV 0 0 0 0 0 (.slice none 0 0) (.slice none 0 0) 0) 36 (0, 0))) := Lib.hid (by rw [← hW6]; exact (heap_setOther (by omega)).trans ((heap_setOther (by omega)).trans ((heap_setOther (by omega)).trans HZ5.out)))
  have HP6 : Hid (W6.heap[W4.heap.size]? = some (.cells (polV n true) 54 (0, 0))) := Lib.hid (by rw [← hW6]; exact heap_put3 HP5.out (.string n) (.slice none 0 0) (.bool true))
  have B6 : Hid (Below w.heap.size w W6) := Lib.hid (by rw [← hW6]; exact Below.setCell (p := ⟨W4.heap.size, 2, none⟩) (Below.setCell (p := ⟨W4.heap.size, 1, none⟩) (Below.setCell (p := ⟨W4.heap.size, 0, none⟩) B5.out (by show _ ≤ W4.heap.size; omega) _) (by show _ ≤ W4.heap.size; omega) _) (by show _ ≤ W4.heap.size; omega) _)
  have zW6 : W6.heap.size = W4.heap.size + 1 := by rw [← hW6]; simp [zW5]
  obtain ⟨b_0, b_1, b_2, b_3, b_4, b_5, b_6, b_7, b_8, b_9, b_10, b_11⟩ : W6.cell? ⟨w.heap.size, 0, none⟩ = some (.string ⟨#[]⟩) ∧ W6.cell? ⟨w.heap.size, 1, none⟩ = some (.int .u8 0) ∧ W6.cell? ⟨w.heap.size, 2, none⟩ = some (.slice none 0 0) ∧ W6.cell? ⟨w.heap.size, 3, none⟩ = some (.slice none 0 0) ∧ W6.cell? ⟨w.heap.size, 4, none⟩ = some (.slice none 0 0) ∧ W6.cell? ⟨w.heap.size, 5, none⟩ = some (.slice none 0 0) ∧ W6.cell? ⟨w.heap.size, 6, none⟩ = some (.slice none 0 0) ∧ W6.cell? ⟨w.heap.size, 7, none⟩ = some (.slice none 0 0) ∧ W6.cell? ⟨w.heap.size, 8, none⟩ = some (.slice none 0 0) ∧ W6.cell? ⟨w.heap.size, 9, none⟩ = some vd ∧ W6.cell? ⟨w.heap.size, 10, none⟩ = some (.slice none 0 0) ∧ W6.cell? ⟨w.heap.size, 11, none⟩ = some (.slice none 0 0) := ⟨cell_heap HD6.out, cell_heap HD6.out, cell_heap HD6.out, cell_heap HD6.out, cell_heap HD6.out, cell_heap HD6.out, cell_heap HD6.out, cell_heap HD6.out, cell_heap HD6.out, cell_heap HD6.out, cell_heap HD6.out, cell_heap HD6.out⟩
  obtain ⟨s_0, s_1, s_2, s_3, s_4, s_5, s_6, s_7⟩ : W6.cell? ⟨w.heap.size + 1, 0, none⟩ = some (.int .u32 a) ∧ W6.cell? ⟨w.heap.size + 1, 1, none⟩ = some (.int .i64 b) ∧ W6.cell? ⟨w.heap.size + 1, 2, none⟩ = some (.int .i64 m) ∧ W6.cell? ⟨w.heap.size + 1, 3, none⟩ = some (.int .i64 t) ∧ W6.cell? ⟨w.heap.size + 1, 4, none⟩ = some (.int .i64 p) ∧ W6.cell? ⟨w.heap.size + 1, 5, none⟩ = some (.slice pp pn pc) ∧ W6.cell? ⟨w.heap.size + 1, 6, none⟩ = some (.slice qp qn qc) ∧ W6.cell? ⟨w.heap.size + 1, 7, none⟩ = some (.int .u32 h) := ⟨cell_heap HS6.out, cell_heap HS6.out, cell_heap HS6.out, cell_heap HS6.out, cell_heap HS6.out, cell_heap HS6.out, cell_heap HS6.out, cell_heap HS6.out⟩
  obtain ⟨q0, q1, q2⟩ : W6.cell? ⟨W4.heap.size, 0, none⟩ = some (.string n) ∧ W6.cell? ⟨W4.heap.size, 1, none⟩ = some (.slice none 0 0) ∧ W6.cell? ⟨W4.heap.size, 2, none⟩ = some (.bool true) := ⟨cell_heap HP6.out, cell_heap HP6.out, cell_heap HP6.out⟩
  have HF := Lib.hid (follow_0 vd n true a b m t p h pp qp pn pc qn qc (.func (.func 29) #[] #[]) W6)
  go_wp2_with fail
  go_at_call 28
  (with_reducible refine HF.out.mono ?_)
  rintro e W7 ⟨rfl, hb7⟩
  have zW7 : W4.heap.size + 1 ≤ W7.heap.size := by have := hb7.size; omega
  have HZ7 : Hid (W7.heap[w.heap.size + 2]? = some (.cells (subV 0 0 0 0 0 (.slice none 0 0) (.slice none 0 0) 0) 36 (0, 0))) := Lib.hid ((hb7.block _ (by omega)).trans HZ6.out)
  have B7 : Hid (Below w.heap.size w W7) := Lib.hid (B6.out.trans (hb7.mono (by omega)))
  clear hb7
  obtain ⟨W8, hW8⟩ : ∃ X, W7.alloc (.cells (outV 0 0 0 0 0 (.slice none 0 0) (.slice none 0 0) 0 false 0) 78) = X := ⟨_, rfl⟩
  have zW8 : W8.heap.size = W7.heap.size + 1 := by rw [← hW8]; simp
  have HZ8 : Hid (W8.heap[w.heap.size + 2]? = some (.cells (subV 0 0 0 0 0 (.slice none 0 0) (.slice none 0 0) 0) 36 (0, 0))) := Lib.hid (heap_old hW8 HZ7.out)
  have HO8 : Hid (W8.heap[W7.heap.size]? = some (.cells (outV 0 0 0 0 0 (.slice none 0 0) (.slice none 0 0) 0 false 0) 78 (0, 0))) := Lib.hid (by have := heap_alc hW8; exact this)
  have B8 : Hid (Below w.heap.size w W8) := Lib.hid (by rw [← hW8]; exact B7.out.alloc (by omega) _)
  obtain ⟨o0, o1, o2, o3, o4, o5, o6, o7, o8, o9⟩ : W8.cell? ⟨W7.heap.size, 0, none⟩ = some (.int .u32 0) ∧ W8.cell? ⟨W7.heap.size, 1, none⟩ = some (.int .i64 0) ∧ W8.cell? ⟨W7.heap.size, 2, none⟩ = some (.int .i64 0) ∧ W8.cell? ⟨W7.heap.size, 3, none⟩ = some (.int .i64 0) ∧ W8.cell? ⟨W7.heap.size, 4, none⟩ = some (.int .i64 0) ∧ W8.cell? ⟨W7.heap.size, 5, none⟩ = some (.slice none 0 0) ∧ W8.cell? ⟨W7.heap.size, 6, none⟩ = some (.slice none 0 0) ∧ W8.cell? ⟨W7.heap.size, 7, none⟩ = some (.int .u32 0) ∧ W8.cell? ⟨W7.heap.size, 8, none⟩ = some (.bool false) ∧ W8.cell? ⟨W7.heap.size, 9, none⟩ = some (.int .i64 0) := ⟨cell_heap HO8.out, cell_heap HO8.out, cell_heap HO8.out, cell_heap HO8.out, cell_heap HO8.out, cell_heap HO8.out, cell_heap HO8.out, cell_heap HO8.out, cell_heap HO8.out, cell_heap HO8.out⟩
  have oz : ∀ o, W8.frozen? ⟨W7.heap.size, o, none⟩ = false := fun o => frozen_heap HO8.out
  obtain ⟨W9, hW9⟩ : ∃ X, ((((((((((W8.setCell ⟨W7.heap.size, 0, none⟩ (.int .u32 a)).setCell ⟨W7.heap.size, 1, none⟩ (.int .i64 b)).setCell ⟨W7.heap.size, 2, none⟩ (.int .i64 m)).setCell ⟨W7.heap.size, 3, none⟩ (.int .i64 t)).setCell ⟨W7.heap.size, 4, none⟩ (.int .i64 p)).setCell ⟨W7.heap.size, 5, none⟩ (.slice pp pn pc)).setCell ⟨W7.heap.size, 6, none⟩ (.slice qp qn qc)).setCell ⟨W7.heap.size, 7, none⟩ (.int .u32 h)).setCell ⟨W7.heap.size, 8, none⟩ (.bool true)).setCell ⟨W7.heap.size, 9, none⟩ (.int .i64 (-1))) = X := ⟨_, rfl⟩
  have HO9 : Hid (W9.heap[W7.heap.size]? = some (.cells (outV a b m t p (.slice pp pn pc) (.slice qp qn qc) h true (-1)) 78 (0, 0))) := Lib.hid (by rw [← hW9]; exact heap_put10 HO8.out (.int .u32 a) (.int .i64 b) (.int .i64 m) (.int .i64 t) (.int .i64 p) (.slice pp pn pc) (.slice qp qn qc) (.int .u32 h) (.bool true) (.int .i64 (-1)))
  have HZ9 : Hid (W9.heap[w.heap.size + 2]? = some (.cells (subV 0 0 0 0 0 (.slice none 0 0) (.slice none 0 0) 0) 36 (0, 0))) := Lib.hid (by rw [← hW9]; exact heap_far10 HZ8.out (by omega) (.int .u32 a) (.int .i64 b) (.int .i64 m) (.int .i64 t) (.int .i64 p) (.slice pp pn pc) (.slice qp qn qc) (.int .u32 h) (.bool true) (.int .i64 (-1)))
  have B9 : Hid (Below w.heap.size w W9) := Lib.hid (by rw [← hW9]; exact blw_put10 B8.out (by omega) (.int .u32 a) (.int .i64 b) (.int .i64 m) (.int .i64 t) (.int .i64 p) (.slice pp pn pc) (.slice qp qn qc) (.int .u32 h) (.bool true) (.int .i64 (-1)))
  have zW9 : W9.heap.size = W7.heap.size + 1 := by rw [← hW9, size_put10, zW8]
  obtain ⟨x0, x1, x2, x3, x4, x5, x6, x7, x8, x9⟩ : W9.cell? ⟨W7.heap.size, 0, none⟩ = some (.int .u32 a) ∧ W9.cell? ⟨W7.heap.size, 1, none⟩ = some (.int .i64 b) ∧ W9.cell? ⟨W7.heap.size, 2, none⟩ = some (.int .i64 m) ∧ W9.cell? ⟨W7.heap.size, 3, none⟩ = some (.int .i64 t) ∧ W9.cell? ⟨W7.heap.size, 4, none⟩ = some (.int .i64 p) ∧ W9.cell? ⟨W7.heap.size, 5, none⟩ = some (.slice pp pn pc) ∧ W9.cell? ⟨W7.heap.size, 6, none⟩ = some (.slice qp qn qc) ∧ W9.cell? ⟨W7.heap.size, 7, none⟩ = some (.int .u32 h) ∧ W9.cell? ⟨W7.heap.size, 8, none⟩ = some (.bool true) ∧ W9.cell? ⟨W7.heap.size, 9, none⟩ = some (.int .i64 (-1)) := ⟨cell_heap HO9.out, cell_heap HO9.out, cell_heap HO9.out, cell_heap HO9.out, cell_heap HO9.out, cell_heap HO9.out, cell_heap HO9.out, cell_heap HO9.out, cell_heap HO9.out, cell_heap HO9.out⟩
  have HOW := Lib.hid (own_is a b m t p h (.slice pp pn pc) (.slice qp qn qc) l r W9 (HPP.out.below B9.out) (HQQ.out.below B9.out) hl)
  go_wp2_with fail
  go_at_call 30
  (with_reducible refine HOW.out.mono ?_)
  rintro e WA ⟨vp, vc, rfl, hop, hoc, hbA⟩
  obtain ⟨p1, c1, rfl⟩ := own_sl hop
  obtain ⟨p2, c2, rfl⟩ := own_sl hoc
  have HZA : Hid (WA.heap[w.heap.size + 2]? = some (.cells (subV 0 0 0 0 0 (.slice none 0 0) (.slice none 0 0) 0) 36 (0, 0))) := Lib.hid ((hbA.block _ (by omega)).trans HZ9.out)
  have HA1 := Lib.hid hop
  have HA2 := Lib.hid hoc
  have BA9 : Hid (Below w.heap.size w WA) := Lib.hid (B9.out.trans (hbA.mono (by omega)))
  clear hop hoc hbA
  obtain ⟨y0, y1, y2, y3, y4, y5, y6, y7⟩ : WA.cell? ⟨w.heap.size + 2, 0, none⟩ = some (.int .u32 0) ∧ WA.cell? ⟨w.heap.size + 2, 1, none⟩ = some (.int .i64 0) ∧ WA.cell? ⟨w.heap.size + 2, 2, none⟩ = some (.int .i64 0) ∧ WA.cell? ⟨w.heap.size + 2, 3, none⟩ = some (.int .i64 0) ∧ WA.cell? ⟨w.heap.size + 2, 4, none⟩ = some (.int .i64 0) ∧ WA.cell? ⟨w.heap.size + 2, 5, none⟩ = some (.slice none 0 0) ∧ WA.cell? ⟨w.heap.size + 2, 6, none⟩ = some (.slice none 0 0) ∧ WA.cell? ⟨w.heap.size + 2, 7, none⟩ = some (.int .u32 0) := ⟨cell_heap HZA.out, cell_heap HZA.out, cell_heap HZA.out, cell_heap HZA.out, cell_heap HZA.out, cell_heap HZA.out, cell_heap HZA.out, cell_heap HZA.out⟩
  have yz : ∀ o, WA.frozen? ⟨w.heap.size + 2, o, none⟩ = false := fun o => frozen_heap HZA.out
  go_wp2_with fail
  have RF : Hid (((((((((WA.setCell ⟨w.heap.size + 2, 0, none⟩ (.int .u32 a)).setCell ⟨w.heap.size + 2, 1, none⟩ (.int .i64 b)).setCell ⟨w.heap.size + 2, 2, none⟩ (.int .i64 m)).setCell ⟨w.heap.size + 2, 3, none⟩ (.int .i64 t)).setCell ⟨w.heap.size + 2, 4, none⟩ (.int .i64 p)).setCell ⟨w.heap.size + 2, 5, none⟩ (.slice p1 l.length c1)).setCell ⟨w.heap.size + 2, 6, none⟩ (.slice p2 r.length c2)).setCell ⟨w.heap.size + 2, 7, none⟩ (.int .u32 h)).heap[w.heap.size + 2]? = some (.cells (subV a b m t p (.slice p1 l.length c1) (.slice p2 r.length c2) h) 36 (0, 0))) := Lib.hid (heap_put8 HZA.out (.int .u32 a) (.int .i64 b) (.int .i64 m) (.int .i64 t) (.int .i64 p) (.slice p1 l.length c1) (.slice p2 r.length c2) (.int .u32 h))
  have RO : Hid (((((((((WA.setCell ⟨w.heap.size + 2, 0, none⟩ (.int .u32 a)).setCell ⟨w.heap.size + 2, 1, none⟩ (.int .i64 b)).setCell ⟨w.heap.size + 2, 2, none⟩ (.int .i64 m)).setCell ⟨w.heap.size + 2, 3, none⟩ (.int .i64 t)).setCell ⟨w.heap.size + 2, 4, none⟩ (.int .i64 p)).setCell ⟨w.heap.size + 2, 5, none⟩ (.slice p1 l.length c1)).setCell ⟨w.heap.size + 2, 6, none⟩ (.slice p2 r.length c2)).setCell ⟨w.heap.size + 2, 7, none⟩ (.int .u32 h)).ownsRow w.heap.size 23 1 (.slice p1 l.length c1) l.length (flatK encU l)) := Lib.hid (own_lower (own_put8 HA1.out (by omega) (.int .u32 a) (.int .i64 b) (.int .i64 m) (.int .i64 t) (.int .i64 p) (.slice p1 l.length c1) (.slice p2 r.length c2) (.int .u32 h)) (by omega))
  have RQ : Hid (((((((((WA.setCell ⟨w.heap.size + 2, 0, none⟩ (.int .u32 a)).setCell ⟨w.heap.size + 2, 1, none⟩ (.int .i64 b)).setCell ⟨w.heap.size + 2, 2, none⟩ (.int .i64 m)).setCell ⟨w.heap.size + 2, 3, none⟩ (.int .i64 t)).setCell ⟨w.heap.size + 2, 4, none⟩ (.int .i64 p)).setCell ⟨w.heap.size + 2, 5, none⟩ (.slice p1 l.length c1)).setCell ⟨w.heap.size + 2, 6, none⟩ (.slice p2 r.length c2)).setCell ⟨w.heap.size + 2, 7, none⟩ (.int .u32 h)).ownsRow w.heap.size 23 1 (.slice p2 r.length c2) r.length (flatK encU r)) := Lib.hid (own_lower (own_put8 HA2.out (by omega) (.int .u32 a) (.int .i64 b) (.int .i64 m) (.int .i64 t) (.int .i64 p) (.slice p1 l.length c1) (.slice p2 r.length c2) (.int .u32 h)) (by omega))
  have RB : Hid (Below w.heap.size w ((((((((WA.setCell ⟨w.heap.size + 2, 0, none⟩ (.int .u32 a)).setCell ⟨w.heap.size + 2, 1, none⟩ (.int .i64 b)).setCell ⟨w.heap.size + 2, 2, none⟩ (.int .i64 m)).setCell ⟨w.heap.size + 2, 3, none⟩ (.int .i64 t)).setCell ⟨w.heap.size + 2, 4, none⟩ (.int .i64 p)).setCell ⟨w.heap.size + 2, 5, none⟩ (.slice p1 l.length c1)).setCell ⟨w.heap.size + 2, 6, none⟩ (.slice p2 r.length c2)).setCell ⟨w.heap.size + 2, 7, none⟩ (.int .u32 h))) := Lib.hid (blw_put8 BA9.out (by omega) (.int .u32 a) (.int .i64 b) (.int .i64 m) (.int .i64 t) (.int .i64 p) (.slice p1 l.length c1) (.slice p2 r.length c2) (.int .u32 h))
  generalize ((((((((WA.setCell ⟨w.heap.size + 2, 0, none⟩ (.int .u32 a)).setCell ⟨w.heap.size + 2, 1, none⟩ (.int .i64 b)).setCell ⟨w.heap.size + 2, 2, none⟩ (.int .i64 m)).setCell ⟨w.heap.size + 2, 3, none⟩ (.int .i64 t)).setCell ⟨w.heap.size + 2, 4, none⟩ (.int .i64 p)).setCell ⟨w.heap.size + 2, 5, none⟩ (.slice p1 l.length c1)).setCell ⟨w.heap.size + 2, 6, none⟩ (.slice p2 r.length c2)).setCell ⟨w.heap.size + 2, 7, none⟩ (.int .u32 h)) = WF at RF RO RQ RB ⊢
  obtain ⟨d0, d1, d2, d3, d4, d5, d6, d7⟩ : WF.cell? ⟨w.heap.size + 2, 0, none⟩ = some (.int .u32 a) ∧ WF.cell? ⟨w.heap.size + 2, 1, none⟩ = some (.int .i64 b) ∧ WF.cell? ⟨w.heap.size + 2, 2, none⟩ = some (.int .i64 m) ∧ WF.cell? ⟨w.heap.size + 2, 3, none⟩ = some (.int .i64 t) ∧ WF.cell? ⟨w.heap.size + 2, 4, none⟩ = some (.int .i64 p) ∧ WF.cell? ⟨w.heap.size + 2, 5, none⟩ = some (.slice p1 l.length c1) ∧ WF.cell? ⟨w.heap.size + 2, 6, none⟩ = some (.slice p2 r.length c2) ∧ WF.cell? ⟨w.heap.size + 2, 7, none⟩ = some (.int .u32 h) := ⟨cell_heap RF.out, cell_heap RF.out, cell_heap RF.out, cell_heap RF.out, cell_heap RF.out, cell_heap RF.out, cell_heap RF.out, cell_heap RF.out⟩
  refine bodyPost_ret (v := .tuple #[.agg (subV a b m t p (.slice p1 l.length c1) (.slice p2 r.length c2) h), .bool true, .int .i64 0]) (by simp [results, Try.results12, go_sem, d0, d1, d2, d3, d4, d5, d6, d7]) rfl ?_
  exact ⟨_, _, rfl, RO.out, RQ.out, RB.out⟩
set_option maxRecDepth 100000 in
set_option maxHeartbeats 1000000 in
theorem apply_none (vd : Value) (nm n : ByteArray) (a b m t p h : Int) (pp qp : Option Addr) (pn pc qn qc : Nat) (w : World) (hn : NamedIs w vd nm n false 120) : Calls Try.prog 12 #[.agg (devV vd), .string nm, .agg (subV a b m t p (.slice pp pn pc) (.slice qp qn qc) h)] w fun e w' => e = .returned (.tuple #[.agg (subV 0 0 0 0 0 (.slice none 0 0) (.slice none 0 0) 0), .bool false, .int .i64 120]) ∧ Below w.heap.size w w' := by
  obtain ⟨W1, hW1⟩ : ∃ X, w.alloc (.cells (devV vd) 51) = X := ⟨_, rfl⟩
  obtain ⟨W2, hW2⟩ : ∃ X, W1.alloc (.cells (subV a b m t p (.slice pp pn pc) (.slice qp qn qc) h) 36) = X := ⟨_, rfl⟩
  obtain ⟨W3, hW3⟩ : ∃ X, W2.alloc (.cells (subV 0 0 0 0 0 (.slice none 0 0) (.slice none 0 0) 0) 36) = X := ⟨_, rfl⟩
  have zW1 : W1.heap.size = w.heap.size + 1 := by rw [← hW1]; simp
  have zW2 : W2.heap.size = w.heap.size + 2 := by rw [← hW2]; simp [zW1]
  have zW3 : W3.heap.size = w.heap.size + 3 := by rw [← hW3]; simp [zW2]
  have BA : Hid (Below w.heap.size w W3) := Lib.hid (by rw [← hW3, ← hW2, ← hW1]; exact (((Below.refl _ _).alloc (Nat.le_refl _) _).alloc (by simp) _).alloc (by simp; omega) _)
  have HD : Hid (W3.heap[w.heap.size]? = some (.cells (devV vd) 51 (0, 0))) := Lib.hid (heap_old hW3 (heap_old hW2 (heap_alc hW1)))
  have HS : Hid (W3.heap[w.heap.size + 1]? = some (.cells (subV a b m t p (.slice pp pn pc) (.slice qp qn qc) h) 36 (0, 0))) := Lib.hid (heap_old hW3 (by have := heap_alc hW2; rwa [zW1] at this))
  have HZ : Hid (W3.heap[w.heap.size + 2]? = some (.cells (subV 0 0 0 0 0 (.slice none 0 0) (.slice none 0 0) 0) 36 (0, 0))) := Lib.hid (by have := heap_alc hW3; rwa [zW2] at this)
  have HN := Lib.hid (hn W3 BA.out)
  obtain ⟨a0, a1, a2, a3, a4, a5, a6, a7, a8, a9, a10, a11⟩ : W3.cell? ⟨w.heap.size, 0, none⟩ = some (.string ⟨#[]⟩) ∧ W3.cell? ⟨w.heap.size, 1, none⟩ = some (.int .u8 0) ∧ W3.cell? ⟨w.heap.size, 2, none⟩ = some (.slice none 0 0) ∧ W3.cell? ⟨w.heap.size, 3, none⟩ = some (.slice none 0 0) ∧ W3.cell? ⟨w.heap.size, 4, none⟩ = some (.slice none 0 0) ∧ W3.cell? ⟨w.heap.size, 5, none⟩ = some (.slice none 0 0) ∧ W3.cell? ⟨w.heap.size, 6, none⟩ = some (.slice none 0 0) ∧ W3.cell? ⟨w.heap.size, 7, none⟩ = some (.slice none 0 0) ∧ W3.cell? ⟨w.heap.size, 8, none⟩ = some (.slice none 0 0) ∧ W3.cell? ⟨w.heap.size, 9, none⟩ = some vd ∧ W3.cell? ⟨w.heap.size, 10, none⟩ = some (.slice none 0 0) ∧ W3.cell? ⟨w.heap.size, 11, none⟩ = some (.slice none 0 0) := ⟨cell_heap HD.out, cell_heap HD.out, cell_heap HD.out, cell_heap HD.out, cell_heap HD.out, cell_heap HD.out, cell_heap HD.out, cell_heap HD.out, cell_heap HD.out, cell_heap HD.out, cell_heap HD.out, cell_heap HD.out⟩
  clear hn
  go_enter Try.func12, Try.ntmps12
  go_wp2_with fail
  go_at_call 27
  (with_reducible refine HN.out.mono ?_)
  rintro e W4 ⟨rfl, hb4⟩
  have zW4 : w.heap.size + 3 ≤ W4.heap.size := by have := hb4.size; omega
  have HDW4 : Hid (W4.heap[w.heap.size]? = some (.cells (devV vd) 51 (0, 0))) := Lib.hid ((hb4.block _ (by omega)).trans HD.out)
  have HSW4 : Hid (W4.heap[w.heap.size + 1]? = some (.cells (subV a b m t p (.slice pp pn pc) (.slice qp qn qc) h) 36 (0, 0))) := Lib.hid ((hb4.block _ (by omega)).trans HS.out)
  have HZW4 : Hid (W4.heap[w.heap.size + 2]? = some (.cells (subV 0 0 0 0 0 (.slice none 0 0) (.slice none 0 0) 0) 36 (0, 0))) := Lib.hid ((hb4.block _ (by omega)).trans HZ.out)
  have BB : Hid (Below w.heap.size w W4) := Lib.hid (BA.out.trans (hb4.mono (by omega)))
  clear hb4
  obtain ⟨W5, hW5⟩ : ∃ X, W4.alloc (.cells (polV ⟨#[]⟩ false) 54) = X := ⟨_, rfl⟩
  have zW5 : W5.heap.size = W4.heap.size + 1 := by rw [← hW5]; simp
  have HD5 : Hid (W5.heap[w.heap.size]? = some (.cells (devV vd) 51 (0, 0))) := Lib.hid (heap_old hW5 HDW4.out)
  have HS5 : Hid (W5.heap[w.heap.size + 1]? = some (.cells (subV a b m t p (.slice pp pn pc) (.slice qp qn qc) h) 36 (0, 0))) := Lib.hid (heap_old hW5 HSW4.out)
  have HZ5 : Hid (W5.heap[w.heap.size + 2]? = some (.cells (subV 0 0 0 0 0 (.slice none 0 0) (.slice none 0 0) 0) 36 (0, 0))) := Lib.hid (heap_old hW5 HZW4.out)
  have HP5 : Hid (W5.heap[W4.heap.size]? = some (.cells (polV ⟨#[]⟩ false) 54 (0, 0))) := Lib.hid (by have := heap_alc hW5; exact this)
  have B5 : Hid (Below w.heap.size w W5) := Lib.hid (by rw [← hW5]; exact BB.out.alloc (by omega) _)
  obtain ⟨p0, p1, p2⟩ : W5.cell? ⟨W4.heap.size, 0, none⟩ = some (.string ⟨#[]⟩) ∧ W5.cell? ⟨W4.heap.size, 1, none⟩ = some (.slice none 0 0) ∧ W5.cell? ⟨W4.heap.size, 2, none⟩ = some (.bool false) := ⟨cell_heap HP5.out, cell_heap HP5.out, cell_heap HP5.out⟩
  have pz : ∀ o, W5.frozen? ⟨W4.heap.size, o, none⟩ = false := fun o => frozen_heap HP5.out
  obtain ⟨W6, hW6⟩ : ∃ X, (((W5.setCell ⟨W4.heap.size, 0, none⟩ (.string n)).setCell ⟨W4.heap.size, 1, none⟩ (.slice none 0 0)).setCell ⟨W4.heap.size, 2, none⟩ (.bool false)) = X := ⟨_, rfl⟩
  have HD6 : Hid (W6.heap[w.heap.size]? = some (.cells (devV vd) 51 (0, 0))) := Lib.hid (by rw [← hW6]; exact (heap_setOther (by omega)).trans ((heap_setOther (by omega)).trans ((heap_setOther (by omega)).trans HD5.out)))
  have HS6 : Hid (W6.heap[w.heap.size + 1]? = some (.cells (subV a b m t p (.slice pp pn pc) (.slice qp qn qc) h) 36 (0, 0))) := Lib.hid (by rw [← hW6]; exact (heap_setOther (by omega)).trans ((heap_setOther (by omega)).trans ((heap_setOther (by omega)).trans HS5.out)))
  have HZ6 : Hid (W6.heap[w.heap.size + 2]? = some (.cells (subV 0 0 0 0 0 (.slice none 0 0) (.slice none 0 0) 0) 36 (0, 0))) := Lib.hid (by rw [← hW6]; exact (heap_setOther (by omega)).trans ((heap_setOther (by omega)).trans ((heap_setOther (by omega)).trans HZ5.out)))
  have HP6 : Hid (W6.heap[W4.heap.size]? = some (.cells (polV n false) 54 (0, 0))) := Lib.hid (by rw [← hW6]; exact heap_put3 HP5.out (.string n) (.slice none 0 0) (.bool false))
  have B6 : Hid (Below w.heap.size w W6) := Lib.hid (by rw [← hW6]; exact Below.setCell (p := ⟨W4.heap.size, 2, none⟩) (Below.setCell (p := ⟨W4.heap.size, 1, none⟩) (Below.setCell (p := ⟨W4.heap.size, 0, none⟩) B5.out (by show _ ≤ W4.heap.size; omega) _) (by show _ ≤ W4.heap.size; omega) _) (by show _ ≤ W4.heap.size; omega) _)
  have zW6 : W6.heap.size = W4.heap.size + 1 := by rw [← hW6]; simp [zW5]
  obtain ⟨y0, y1, y2, y3, y4, y5, y6, y7⟩ : W6.cell? ⟨w.heap.size + 2, 0, none⟩ = some (.int .u32 0) ∧ W6.cell? ⟨w.heap.size + 2, 1, none⟩ = some (.int .i64 0) ∧ W6.cell? ⟨w.heap.size + 2, 2, none⟩ = some (.int .i64 0) ∧ W6.cell? ⟨w.heap.size + 2, 3, none⟩ = some (.int .i64 0) ∧ W6.cell? ⟨w.heap.size + 2, 4, none⟩ = some (.int .i64 0) ∧ W6.cell? ⟨w.heap.size + 2, 5, none⟩ = some (.slice none 0 0) ∧ W6.cell? ⟨w.heap.size + 2, 6, none⟩ = some (.slice none 0 0) ∧ W6.cell? ⟨w.heap.size + 2, 7, none⟩ = some (.int .u32 0) := ⟨cell_heap HZ6.out, cell_heap HZ6.out, cell_heap HZ6.out, cell_heap HZ6.out, cell_heap HZ6.out, cell_heap HZ6.out, cell_heap HZ6.out, cell_heap HZ6.out⟩
  have yz : ∀ o, W6.frozen? ⟨w.heap.size + 2, o, none⟩ = false := fun o => frozen_heap HZ6.out
  go_wp2_with fail
  have RF : Hid (((((((((W6.setCell ⟨w.heap.size + 2, 0, none⟩ (.int .u32 0)).setCell ⟨w.heap.size + 2, 1, none⟩ (.int .i64 0)).setCell ⟨w.heap.size + 2, 2, none⟩ (.int .i64 0)).setCell ⟨w.heap.size + 2, 3, none⟩ (.int .i64 0)).setCell ⟨w.heap.size + 2, 4, none⟩ (.int .i64 0)).setCell ⟨w.heap.size + 2, 5, none⟩ (.slice none 0 0)).setCell ⟨w.heap.size + 2, 6, none⟩ (.slice none 0 0)).setCell ⟨w.heap.size + 2, 7, none⟩ (.int .u32 0)).heap[w.heap.size + 2]? = some (.cells (subV 0 0 0 0 0 (.slice none 0 0) (.slice none 0 0) 0) 36 (0, 0))) := Lib.hid (heap_put8 HZ6.out (.int .u32 0) (.int .i64 0) (.int .i64 0) (.int .i64 0) (.int .i64 0) (.slice none 0 0) (.slice none 0 0) (.int .u32 0))
  have RB : Hid (Below w.heap.size w ((((((((W6.setCell ⟨w.heap.size + 2, 0, none⟩ (.int .u32 0)).setCell ⟨w.heap.size + 2, 1, none⟩ (.int .i64 0)).setCell ⟨w.heap.size + 2, 2, none⟩ (.int .i64 0)).setCell ⟨w.heap.size + 2, 3, none⟩ (.int .i64 0)).setCell ⟨w.heap.size + 2, 4, none⟩ (.int .i64 0)).setCell ⟨w.heap.size + 2, 5, none⟩ (.slice none 0 0)).setCell ⟨w.heap.size + 2, 6, none⟩ (.slice none 0 0)).setCell ⟨w.heap.size + 2, 7, none⟩ (.int .u32 0))) := Lib.hid (blw_put8 B6.out (by omega) (.int .u32 0) (.int .i64 0) (.int .i64 0) (.int .i64 0) (.int .i64 0) (.slice none 0 0) (.slice none 0 0) (.int .u32 0))
  generalize ((((((((W6.setCell ⟨w.heap.size + 2, 0, none⟩ (.int .u32 0)).setCell ⟨w.heap.size + 2, 1, none⟩ (.int .i64 0)).setCell ⟨w.heap.size + 2, 2, none⟩ (.int .i64 0)).setCell ⟨w.heap.size + 2, 3, none⟩ (.int .i64 0)).setCell ⟨w.heap.size + 2, 4, none⟩ (.int .i64 0)).setCell ⟨w.heap.size + 2, 5, none⟩ (.slice none 0 0)).setCell ⟨w.heap.size + 2, 6, none⟩ (.slice none 0 0)).setCell ⟨w.heap.size + 2, 7, none⟩ (.int .u32 0)) = WF at RF RB ⊢
  obtain ⟨d0, d1, d2, d3, d4, d5, d6, d7⟩ : WF.cell? ⟨w.heap.size + 2, 0, none⟩ = some (.int .u32 0) ∧ WF.cell? ⟨w.heap.size + 2, 1, none⟩ = some (.int .i64 0) ∧ WF.cell? ⟨w.heap.size + 2, 2, none⟩ = some (.int .i64 0) ∧ WF.cell? ⟨w.heap.size + 2, 3, none⟩ = some (.int .i64 0) ∧ WF.cell? ⟨w.heap.size + 2, 4, none⟩ = some (.int .i64 0) ∧ WF.cell? ⟨w.heap.size + 2, 5, none⟩ = some (.slice none 0 0) ∧ WF.cell? ⟨w.heap.size + 2, 6, none⟩ = some (.slice none 0 0) ∧ WF.cell? ⟨w.heap.size + 2, 7, none⟩ = some (.int .u32 0) := ⟨cell_heap RF.out, cell_heap RF.out, cell_heap RF.out, cell_heap RF.out, cell_heap RF.out, cell_heap RF.out, cell_heap RF.out, cell_heap RF.out⟩
  refine bodyPost_ret (v := .tuple #[.agg (subV 0 0 0 0 0 (.slice none 0 0) (.slice none 0 0) 0), .bool false, .int .i64 120]) (by simp [results, Try.results12, go_sem, d0, d1, d2, d3, d4, d5, d6, d7]) rfl ?_
  exact ⟨rfl, RB.out⟩
set_option maxRecDepth 100000 in
set_option maxHeartbeats 1000000 in
theorem decides_ok (vd : Value) (nm n : ByteArray) (a b m t p h : Int) (pp qp : Option Addr) (pn pc qn qc : Nat) (w : World) (hn : NamedIs w vd nm n true 0) : Calls Try.prog 13 #[.agg (devV vd), .string nm, .agg (subV a b m t p (.slice pp pn pc) (.slice qp qn qc) h)] w fun e w' => e = .returned (.tuple #[.int .i64 (-1), .bool false, .int .i64 0]) ∧ Below w.heap.size w w' := by
  obtain ⟨W1, hW1⟩ : ∃ X, w.alloc (.cells (devV vd) 51) = X := ⟨_, rfl⟩
  obtain ⟨W2, hW2⟩ : ∃ X, W1.alloc (.cells (subV a b m t p (.slice pp pn pc) (.slice qp qn qc) h) 36) = X := ⟨_, rfl⟩
  have zW1 : W1.heap.size = w.heap.size + 1 := by rw [← hW1]; simp
  have zW2 : W2.heap.size = w.heap.size + 2 := by rw [← hW2]; simp [zW1]
  have BA : Hid (Below w.heap.size w W2) := Lib.hid (by rw [← hW2, ← hW1]; exact ((Below.refl _ _).alloc (Nat.le_refl _) _).alloc (by simp) _)
  have HD : Hid (W2.heap[w.heap.size]? = some (.cells (devV vd) 51 (0, 0))) := Lib.hid ((heap_old hW2 (heap_alc hW1)))
  have HS : Hid (W2.heap[w.heap.size + 1]? = some (.cells (subV a b m t p (.slice pp pn pc) (.slice qp qn qc) h) 36 (0, 0))) := Lib.hid ((by have := heap_alc hW2; rwa [zW1] at this))
  have HN := Lib.hid (hn W2 BA.out)
  obtain ⟨a0, a1, a2, a3, a4, a5, a6, a7, a8, a9, a10, a11⟩ : W2.cell? ⟨w.heap.size, 0, none⟩ = some (.string ⟨#[]⟩) ∧ W2.cell? ⟨w.heap.size, 1, none⟩ = some (.int .u8 0) ∧ W2.cell? ⟨w.heap.size, 2, none⟩ = some (.slice none 0 0) ∧ W2.cell? ⟨w.heap.size, 3, none⟩ = some (.slice none 0 0) ∧ W2.cell? ⟨w.heap.size, 4, none⟩ = some (.slice none 0 0) ∧ W2.cell? ⟨w.heap.size, 5, none⟩ = some (.slice none 0 0) ∧ W2.cell? ⟨w.heap.size, 6, none⟩ = some (.slice none 0 0) ∧ W2.cell? ⟨w.heap.size, 7, none⟩ = some (.slice none 0 0) ∧ W2.cell? ⟨w.heap.size, 8, none⟩ = some (.slice none 0 0) ∧ W2.cell? ⟨w.heap.size, 9, none⟩ = some vd ∧ W2.cell? ⟨w.heap.size, 10, none⟩ = some (.slice none 0 0) ∧ W2.cell? ⟨w.heap.size, 11, none⟩ = some (.slice none 0 0) := ⟨cell_heap HD.out, cell_heap HD.out, cell_heap HD.out, cell_heap HD.out, cell_heap HD.out, cell_heap HD.out, cell_heap HD.out, cell_heap HD.out, cell_heap HD.out, cell_heap HD.out, cell_heap HD.out, cell_heap HD.out⟩
  clear hn
  go_enter Try.func13, Try.ntmps13
  go_wp2_with fail
  go_at_call 27
  (with_reducible refine HN.out.mono ?_)
  rintro e W4 ⟨rfl, hb4⟩
  have zW4 : w.heap.size + 2 ≤ W4.heap.size := by have := hb4.size; omega
  have HDW4 : Hid (W4.heap[w.heap.size]? = some (.cells (devV vd) 51 (0, 0))) := Lib.hid ((hb4.block _ (by omega)).trans HD.out)
  have HSW4 : Hid (W4.heap[w.heap.size + 1]? = some (.cells (subV a b m t p (.slice pp pn pc) (.slice qp qn qc) h) 36 (0, 0))) := Lib.hid ((hb4.block _ (by omega)).trans HS.out)
  have BB : Hid (Below w.heap.size w W4) := Lib.hid (BA.out.trans (hb4.mono (by omega)))
  clear hb4
  obtain ⟨W5, hW5⟩ : ∃ X, W4.alloc (.cells (polV ⟨#[]⟩ false) 54) = X := ⟨_, rfl⟩
  have zW5 : W5.heap.size = W4.heap.size + 1 := by rw [← hW5]; simp
  have HD5 : Hid (W5.heap[w.heap.size]? = some (.cells (devV vd) 51 (0, 0))) := Lib.hid (heap_old hW5 HDW4.out)
  have HS5 : Hid (W5.heap[w.heap.size + 1]? = some (.cells (subV a b m t p (.slice pp pn pc) (.slice qp qn qc) h) 36 (0, 0))) := Lib.hid (heap_old hW5 HSW4.out)
  have HP5 : Hid (W5.heap[W4.heap.size]? = some (.cells (polV ⟨#[]⟩ false) 54 (0, 0))) := Lib.hid (by have := heap_alc hW5; exact this)
  have B5 : Hid (Below w.heap.size w W5) := Lib.hid (by rw [← hW5]; exact BB.out.alloc (by omega) _)
  obtain ⟨p0, p1, p2⟩ : W5.cell? ⟨W4.heap.size, 0, none⟩ = some (.string ⟨#[]⟩) ∧ W5.cell? ⟨W4.heap.size, 1, none⟩ = some (.slice none 0 0) ∧ W5.cell? ⟨W4.heap.size, 2, none⟩ = some (.bool false) := ⟨cell_heap HP5.out, cell_heap HP5.out, cell_heap HP5.out⟩
  have pz : ∀ o, W5.frozen? ⟨W4.heap.size, o, none⟩ = false := fun o => frozen_heap HP5.out
  obtain ⟨W6, hW6⟩ : ∃ X, (((W5.setCell ⟨W4.heap.size, 0, none⟩ (.string n)).setCell ⟨W4.heap.size, 1, none⟩ (.slice none 0 0)).setCell ⟨W4.heap.size, 2, none⟩ (.bool true)) = X := ⟨_, rfl⟩
  have HD6 : Hid (W6.heap[w.heap.size]? = some (.cells (devV vd) 51 (0, 0))) := Lib.hid (by rw [← hW6]; exact (heap_setOther (by omega)).trans ((heap_setOther (by omega)).trans ((heap_setOther (by omega)).trans HD5.out)))
  have HS6 : Hid (W6.heap[w.heap.size + 1]? = some (.cells (subV a b m t p (.slice pp pn pc) (.slice qp qn qc) h) 36 (0, 0))) := Lib.hid (by rw [← hW6]; exact (heap_setOther (by omega)).trans ((heap_setOther (by omega)).trans ((heap_setOther (by omega)).trans HS5.out)))
  have HP6 : Hid (W6.heap[W4.heap.size]? = some (.cells (polV n true) 54 (0, 0))) := Lib.hid (by rw [← hW6]; exact heap_put3 HP5.out (.string n) (.slice none 0 0) (.bool true))
  have B6 : Hid (Below w.heap.size w W6) := Lib.hid (by rw [← hW6]; exact Below.setCell (p := ⟨W4.heap.size, 2, none⟩) (Below.setCell (p := ⟨W4.heap.size, 1, none⟩) (Below.setCell (p := ⟨W4.heap.size, 0, none⟩) B5.out (by show _ ≤ W4.heap.size; omega) _) (by show _ ≤ W4.heap.size; omega) _) (by show _ ≤ W4.heap.size; omega) _)
  have zW6 : W6.heap.size = W4.heap.size + 1 := by rw [← hW6]; simp [zW5]
  obtain ⟨b_0, b_1, b_2, b_3, b_4, b_5, b_6, b_7, b_8, b_9, b_10, b_11⟩ : W6.cell? ⟨w.heap.size, 0, none⟩ = some (.string ⟨#[]⟩) ∧ W6.cell? ⟨w.heap.size, 1, none⟩ = some (.int .u8 0) ∧ W6.cell? ⟨w.heap.size, 2, none⟩ = some (.slice none 0 0) ∧ W6.cell? ⟨w.heap.size, 3, none⟩ = some (.slice none 0 0) ∧ W6.cell? ⟨w.heap.size, 4, none⟩ = some (.slice none 0 0) ∧ W6.cell? ⟨w.heap.size, 5, none⟩ = some (.slice none 0 0) ∧ W6.cell? ⟨w.heap.size, 6, none⟩ = some (.slice none 0 0) ∧ W6.cell? ⟨w.heap.size, 7, none⟩ = some (.slice none 0 0) ∧ W6.cell? ⟨w.heap.size, 8, none⟩ = some (.slice none 0 0) ∧ W6.cell? ⟨w.heap.size, 9, none⟩ = some vd ∧ W6.cell? ⟨w.heap.size, 10, none⟩ = some (.slice none 0 0) ∧ W6.cell? ⟨w.heap.size, 11, none⟩ = some (.slice none 0 0) := ⟨cell_heap HD6.out, cell_heap HD6.out, cell_heap HD6.out, cell_heap HD6.out, cell_heap HD6.out, cell_heap HD6.out, cell_heap HD6.out, cell_heap HD6.out, cell_heap HD6.out, cell_heap HD6.out, cell_heap HD6.out, cell_heap HD6.out⟩
  obtain ⟨s_0, s_1, s_2, s_3, s_4, s_5, s_6, s_7⟩ : W6.cell? ⟨w.heap.size + 1, 0, none⟩ = some (.int .u32 a) ∧ W6.cell? ⟨w.heap.size + 1, 1, none⟩ = some (.int .i64 b) ∧ W6.cell? ⟨w.heap.size + 1, 2, none⟩ = some (.int .i64 m) ∧ W6.cell? ⟨w.heap.size + 1, 3, none⟩ = some (.int .i64 t) ∧ W6.cell? ⟨w.heap.size + 1, 4, none⟩ = some (.int .i64 p) ∧ W6.cell? ⟨w.heap.size + 1, 5, none⟩ = some (.slice pp pn pc) ∧ W6.cell? ⟨w.heap.size + 1, 6, none⟩ = some (.slice qp qn qc) ∧ W6.cell? ⟨w.heap.size + 1, 7, none⟩ = some (.int .u32 h) := ⟨cell_heap HS6.out, cell_heap HS6.out, cell_heap HS6.out, cell_heap HS6.out, cell_heap HS6.out, cell_heap HS6.out, cell_heap HS6.out, cell_heap HS6.out⟩
  obtain ⟨q0, q1, q2⟩ : W6.cell? ⟨W4.heap.size, 0, none⟩ = some (.string n) ∧ W6.cell? ⟨W4.heap.size, 1, none⟩ = some (.slice none 0 0) ∧ W6.cell? ⟨W4.heap.size, 2, none⟩ = some (.bool true) := ⟨cell_heap HP6.out, cell_heap HP6.out, cell_heap HP6.out⟩
  have HF := Lib.hid (follow_0 vd n true a b m t p h pp qp pn pc qn qc (.func (.func 31) #[] #[]) W6)
  go_wp2_with fail
  go_at_call 28
  (with_reducible refine HF.out.mono ?_)
  rintro e W7 ⟨rfl, hb7⟩
  have zW7 : W4.heap.size + 1 ≤ W7.heap.size := by have := hb7.size; omega
  have B7 : Hid (Below w.heap.size w W7) := Lib.hid (B6.out.trans (hb7.mono (by omega)))
  clear hb7
  obtain ⟨W8, hW8⟩ : ∃ X, W7.alloc (.cells (outV 0 0 0 0 0 (.slice none 0 0) (.slice none 0 0) 0 false 0) 78) = X := ⟨_, rfl⟩
  have zW8 : W8.heap.size = W7.heap.size + 1 := by rw [← hW8]; simp
  have HO8 : Hid (W8.heap[W7.heap.size]? = some (.cells (outV 0 0 0 0 0 (.slice none 0 0) (.slice none 0 0) 0 false 0) 78 (0, 0))) := Lib.hid (by have := heap_alc hW8; exact this)
  have B8 : Hid (Below w.heap.size w W8) := Lib.hid (by rw [← hW8]; exact B7.out.alloc (by omega) _)
  obtain ⟨o0, o1, o2, o3, o4, o5, o6, o7, o8, o9⟩ : W8.cell? ⟨W7.heap.size, 0, none⟩ = some (.int .u32 0) ∧ W8.cell? ⟨W7.heap.size, 1, none⟩ = some (.int .i64 0) ∧ W8.cell? ⟨W7.heap.size, 2, none⟩ = some (.int .i64 0) ∧ W8.cell? ⟨W7.heap.size, 3, none⟩ = some (.int .i64 0) ∧ W8.cell? ⟨W7.heap.size, 4, none⟩ = some (.int .i64 0) ∧ W8.cell? ⟨W7.heap.size, 5, none⟩ = some (.slice none 0 0) ∧ W8.cell? ⟨W7.heap.size, 6, none⟩ = some (.slice none 0 0) ∧ W8.cell? ⟨W7.heap.size, 7, none⟩ = some (.int .u32 0) ∧ W8.cell? ⟨W7.heap.size, 8, none⟩ = some (.bool false) ∧ W8.cell? ⟨W7.heap.size, 9, none⟩ = some (.int .i64 0) := ⟨cell_heap HO8.out, cell_heap HO8.out, cell_heap HO8.out, cell_heap HO8.out, cell_heap HO8.out, cell_heap HO8.out, cell_heap HO8.out, cell_heap HO8.out, cell_heap HO8.out, cell_heap HO8.out⟩
  have oz : ∀ o, W8.frozen? ⟨W7.heap.size, o, none⟩ = false := fun o => frozen_heap HO8.out
  obtain ⟨W9, hW9⟩ : ∃ X, ((((((((((W8.setCell ⟨W7.heap.size, 0, none⟩ (.int .u32 a)).setCell ⟨W7.heap.size, 1, none⟩ (.int .i64 b)).setCell ⟨W7.heap.size, 2, none⟩ (.int .i64 m)).setCell ⟨W7.heap.size, 3, none⟩ (.int .i64 t)).setCell ⟨W7.heap.size, 4, none⟩ (.int .i64 p)).setCell ⟨W7.heap.size, 5, none⟩ (.slice pp pn pc)).setCell ⟨W7.heap.size, 6, none⟩ (.slice qp qn qc)).setCell ⟨W7.heap.size, 7, none⟩ (.int .u32 h)).setCell ⟨W7.heap.size, 8, none⟩ (.bool true)).setCell ⟨W7.heap.size, 9, none⟩ (.int .i64 (-1))) = X := ⟨_, rfl⟩
  have HO9 : Hid (W9.heap[W7.heap.size]? = some (.cells (outV a b m t p (.slice pp pn pc) (.slice qp qn qc) h true (-1)) 78 (0, 0))) := Lib.hid (by rw [← hW9]; exact heap_put10 HO8.out (.int .u32 a) (.int .i64 b) (.int .i64 m) (.int .i64 t) (.int .i64 p) (.slice pp pn pc) (.slice qp qn qc) (.int .u32 h) (.bool true) (.int .i64 (-1)))
  have B9 : Hid (Below w.heap.size w W9) := Lib.hid (by rw [← hW9]; exact blw_put10 B8.out (by omega) (.int .u32 a) (.int .i64 b) (.int .i64 m) (.int .i64 t) (.int .i64 p) (.slice pp pn pc) (.slice qp qn qc) (.int .u32 h) (.bool true) (.int .i64 (-1)))
  have x9 : W9.cell? ⟨W7.heap.size, 9, none⟩ = some (.int .i64 (-1)) := cell_heap HO9.out
  go_wp2_with fail
  go_quiet (fail)
  go_wp2
  go_ret3
  exact ⟨rfl, Below.draws B9.out _⟩
set_option maxRecDepth 100000 in
set_option maxHeartbeats 1000000 in
theorem all_none (vd : Value) (nm n : ByteArray) (w : World) (hn : NamedIs w vd nm n false 120) (vl : Value) : Calls Try.prog 14 #[.agg (devV vd), .string nm, vl] w fun e w' => e = .returned (.tuple #[.slice none 0 0, .int .i64 120]) ∧ Below w.heap.size w w' := by
  obtain ⟨W1, hW1⟩ : ∃ X, w.alloc (.cells (devV vd) 51) = X := ⟨_, rfl⟩
  have zW1 : W1.heap.size = w.heap.size + 1 := by rw [← hW1]; simp
  have BA : Hid (Below w.heap.size w W1) := Lib.hid (by rw [← hW1]; exact (Below.refl _ _).alloc (Nat.le_refl _) _)
  have HD : Hid (W1.heap[w.heap.size]? = some (.cells (devV vd) 51 (0, 0))) := Lib.hid (heap_alc hW1)
  have HN := Lib.hid (hn W1 BA.out)
  obtain ⟨a0, a1, a2, a3, a4, a5, a6, a7, a8, a9, a10, a11⟩ : W1.cell? ⟨w.heap.size, 0, none⟩ = some (.string ⟨#[]⟩) ∧ W1.cell? ⟨w.heap.size, 1, none⟩ = some (.int .u8 0) ∧ W1.cell? ⟨w.heap.size, 2, none⟩ = some (.slice none 0 0) ∧ W1.cell? ⟨w.heap.size, 3, none⟩ = some (.slice none 0 0) ∧ W1.cell? ⟨w.heap.size, 4, none⟩ = some (.slice none 0 0) ∧ W1.cell? ⟨w.heap.size, 5, none⟩ = some (.slice none 0 0) ∧ W1.cell? ⟨w.heap.size, 6, none⟩ = some (.slice none 0 0) ∧ W1.cell? ⟨w.heap.size, 7, none⟩ = some (.slice none 0 0) ∧ W1.cell? ⟨w.heap.size, 8, none⟩ = some (.slice none 0 0) ∧ W1.cell? ⟨w.heap.size, 9, none⟩ = some vd ∧ W1.cell? ⟨w.heap.size, 10, none⟩ = some (.slice none 0 0) ∧ W1.cell? ⟨w.heap.size, 11, none⟩ = some (.slice none 0 0) := ⟨cell_heap HD.out, cell_heap HD.out, cell_heap HD.out, cell_heap HD.out, cell_heap HD.out, cell_heap HD.out, cell_heap HD.out, cell_heap HD.out, cell_heap HD.out, cell_heap HD.out, cell_heap HD.out, cell_heap HD.out⟩
  clear hn
  go_enter Try.func14, Try.ntmps14
  go_wp2_with fail
  go_at_call 27
  (with_reducible refine HN.out.mono ?_)
  rintro e W4 ⟨rfl, hb4⟩
  have zW4 : w.heap.size + 1 ≤ W4.heap.size := by have := hb4.size; omega
  have BB : Hid (Below w.heap.size w W4) := Lib.hid (BA.out.trans (hb4.mono (by omega)))
  clear hb4
  obtain ⟨W5, hW5⟩ : ∃ X, W4.alloc (.cells (polV ⟨#[]⟩ false) 54) = X := ⟨_, rfl⟩
  have zW5 : W5.heap.size = W4.heap.size + 1 := by rw [← hW5]; simp
  have HP5 : Hid (W5.heap[W4.heap.size]? = some (.cells (polV ⟨#[]⟩ false) 54 (0, 0))) := Lib.hid (by have := heap_alc hW5; exact this)
  have B5 : Hid (Below w.heap.size w W5) := Lib.hid (by rw [← hW5]; exact BB.out.alloc (by omega) _)
  obtain ⟨p0, p1, p2⟩ : W5.cell? ⟨W4.heap.size, 0, none⟩ = some (.string ⟨#[]⟩) ∧ W5.cell? ⟨W4.heap.size, 1, none⟩ = some (.slice none 0 0) ∧ W5.cell? ⟨W4.heap.size, 2, none⟩ = some (.bool false) := ⟨cell_heap HP5.out, cell_heap HP5.out, cell_heap HP5.out⟩
  have pz : ∀ o, W5.frozen? ⟨W4.heap.size, o, none⟩ = false := fun o => frozen_heap HP5.out
  obtain ⟨W6, hW6⟩ : ∃ X, (((W5.setCell ⟨W4.heap.size, 0, none⟩ (.string n)).setCell ⟨W4.heap.size, 1, none⟩ (.slice none 0 0)).setCell ⟨W4.heap.size, 2, none⟩ (.bool false)) = X := ⟨_, rfl⟩
  have HP6 : Hid (W6.heap[W4.heap.size]? = some (.cells (polV n false) 54 (0, 0))) := Lib.hid (by rw [← hW6]; exact heap_put3 HP5.out (.string n) (.slice none 0 0) (.bool false))
  have B6 : Hid (Below w.heap.size w W6) := Lib.hid (by rw [← hW6]; exact Below.setCell (p := ⟨W4.heap.size, 2, none⟩) (Below.setCell (p := ⟨W4.heap.size, 1, none⟩) (Below.setCell (p := ⟨W4.heap.size, 0, none⟩) B5.out (by show _ ≤ W4.heap.size; omega) _) (by show _ ≤ W4.heap.size; omega) _) (by show _ ≤ W4.heap.size; omega) _)
  have zW6 : W6.heap.size = W4.heap.size + 1 := by rw [← hW6]; simp [zW5]
  go_wp2_with fail
  go_ret2
  exact ⟨rfl, B6.out⟩
end Go.Proofs.Ytolnpggofocjkaa
