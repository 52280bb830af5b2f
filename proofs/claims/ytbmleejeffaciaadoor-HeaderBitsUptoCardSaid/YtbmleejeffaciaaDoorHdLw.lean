/- The law HeaderBits, out of what the functions that it calls hand back: it answers true; what was there stands. -/
import Derived.Test.YtbmleejeffaciaaDoorHdRt
import Derived.Test.YtbmleejeffaciaaDoorHdBkM
namespace Go.Proofs.YtbmleejeffaciaaDoor
open Go.RowKit
theorem set5_other {w : World} {g k : Nat} {m0 m1 m2 m3 m4 : Int} (h : k ≠ g) :
    (((((w.setCell ⟨g, 0, none⟩ (.int .u32 m0)).setCell ⟨g, 1, none⟩ (.int .u32 m1)).setCell ⟨g, 2, none⟩ (.int .u8 m2)).setCell ⟨g, 3, none⟩ (.int .u16 m3)).setCell ⟨g, 4, none⟩ (.int .u16 m4)).heap[k]? = w.heap[k]? := by
  rw [heap_setCell_other h, heap_setCell_other h, heap_setCell_other h, heap_setCell_other h, heap_setCell_other h]
theorem same5 (f0 f1 f2 f3 f4 : Int) (W : World) : Calls Tryd.prog 15 #[.agg #[.int .u32 f0, .int .u32 f1, .int .u8 f2, .int .u16 f3, .int .u16 f4], .agg #[.int .u32 f0, .int .u32 f1, .int .u8 f2, .int .u16 f3, .int .u16 f4]] W fun e w' => e = .returned (.bool true) ∧ Below W.heap.size W w' := by
  have := sameR_is f0 f1 f2 f3 f4 f0 f1 f2 f3 f4 W
  rw [decide_eq_true ⟨⟨rfl, rfl⟩, rfl, rfl, rfl⟩] at this
  exact this
theorem row13 (y0 y1 y2 y3 y4 y5 y6 y7 y8 y9 y10 y11 y12 : Int) {k : Nat} (h : k < 13) : ∃ v : Int, (#[.int .u8 y0, .int .u8 y1, .int .u8 y2, .int .u8 y3, .int .u8 y4, .int .u8 y5, .int .u8 y6, .int .u8 y7, .int .u8 y8, .int .u8 y9, .int .u8 y10, .int .u8 y11, .int .u8 y12] : Array Value)[k]? = some (.int .u8 v) := by
  have h : k = 0 ∨ k = 1 ∨ k = 2 ∨ k = 3 ∨ k = 4 ∨ k = 5 ∨ k = 6 ∨ k = 7 ∨ k = 8 ∨ k = 9 ∨ k = 10 ∨ k = 11 ∨ k = 12 := by omega
  rcases h with rfl | rfl | rfl | rfl | rfl | rfl | rfl | rfl | rfl | rfl | rfl | rfl | rfl <;> exact ⟨_, rfl⟩
set_option maxRecDepth 100000 in
set_option maxHeartbeats 16000000 in
theorem law_is (s d p sp dp s' d' p' sp' dp' i : Int) (bit : Bool) (x0 x1 x2 x3 x4 x5 x6 x7 x8 x9 x10 x11 x12 : Int) (tt : ByteArray) (w : World) (E G J K : Int) (x : Bool) (k : Int) (c0 c1 c2 c3 c4 n0 n1 n2 n3 n4 q0 q1 q2 q3 q4 o0 o1 o2 o3 o4 : Int) (y0 y1 y2 y3 y4 y5 y6 y7 y8 y9 y10 y11 y12 : Int) (tx : ByteArray)
    (hKB : (∀ W, Calls Tryd.prog 12 #[.agg #[.int .u32 s, .int .u32 d, .int .u8 p, .int .u16 sp, .int .u16 dp], .int .i64 i] W fun e w' => e = .returned (.tuple #[.bool x, .int .i64 E]) ∧ Below W.heap.size W w'))
    (hKBr : (∀ W, Calls Tryd.prog 13 #[.agg #[.int .u32 s, .int .u32 d, .int .u8 p, .int .u16 sp, .int .u16 dp], .int .i64 i] W fun e w' => e = .returned (.tuple #[.bool x, .int .i64 E]) ∧ Below W.heap.size W w'))
    (hKW : (∀ W, Calls Tryd.prog 8 #[.agg #[.int .u32 s, .int .u32 d, .int .u8 p, .int .u16 sp, .int .u16 dp], .int .i64 i, .bool bit] W fun e w' => e = .returned (.tuple #[.agg #[.int .u32 c0, .int .u32 c1, .int .u8 c2, .int .u16 c3, .int .u16 c4], .int .i64 G]) ∧ Below W.heap.size W w'))
    (hKWr : (∀ W, Calls Tryd.prog 14 #[.agg #[.int .u32 s, .int .u32 d, .int .u8 p, .int .u16 sp, .int .u16 dp], .int .i64 i, .bool bit] W fun e w' => e = .returned (.tuple #[.agg #[.int .u32 c0, .int .u32 c1, .int .u8 c2, .int .u16 c3, .int .u16 c4], .int .i64 G]) ∧ Below W.heap.size W w'))
    (hKC : (∀ W, Calls Tryd.prog 16 #[.agg #[.int .u32 s, .int .u32 d, .int .u8 p, .int .u16 sp, .int .u16 dp], .agg #[.int .u32 s', .int .u32 d', .int .u8 p', .int .u16 sp', .int .u16 dp']] W fun e w' => e = .returned (.int .i64 k) ∧ Below W.heap.size W w'))
    (hKCr : (∀ W, Calls Tryd.prog 17 #[.agg #[.int .u32 s, .int .u32 d, .int .u8 p, .int .u16 sp, .int .u16 dp], .agg #[.int .u32 s', .int .u32 d', .int .u8 p', .int .u16 sp', .int .u16 dp']] W fun e w' => e = .returned (.int .i64 k) ∧ Below W.heap.size W w'))
    (hKN : (∀ W, Calls Tryd.prog 11 #[.agg #[.int .u32 s, .int .u32 d, .int .u8 p, .int .u16 sp, .int .u16 dp]] W fun e w' => e = .returned (.tuple #[.agg #[.int .u32 n0, .int .u32 n1, .int .u8 n2, .int .u16 n3, .int .u16 n4], .int .i64 J]) ∧ Below W.heap.size W w'))
    (hKNr : (∀ W, Calls Tryd.prog 18 #[.agg #[.int .u32 s, .int .u32 d, .int .u8 p, .int .u16 sp, .int .u16 dp]] W fun e w' => e = .returned (.tuple #[.agg #[.int .u32 n0, .int .u32 n1, .int .u8 n2, .int .u16 n3, .int .u16 n4], .int .i64 J]) ∧ Below W.heap.size W w'))
    (hKP : (∀ W, Below w.heap.size w W → Calls Tryd.prog 10 #[.string tt] W fun e w' => e = .returned (.tuple #[.agg #[.int .u32 q0, .int .u32 q1, .int .u8 q2, .int .u16 q3, .int .u16 q4], .int .i64 K]) ∧ Below W.heap.size W w'))
    (hKPr : (∀ W, Calls Tryd.prog 19 #[.string tt] W fun e w' => e = .returned (.tuple #[.agg #[.int .u32 q0, .int .u32 q1, .int .u8 q2, .int .u16 q3, .int .u16 q4], .int .i64 K]) ∧ Below W.heap.size W w'))
    (hKT : (∀ W, Below w.heap.size w W → Calls Tryd.prog 20 #[.agg #[.int .u32 s, .int .u32 d, .int .u8 p, .int .u16 sp, .int .u16 dp]] W fun e w' => e = .returned (.string tx) ∧ Below W.heap.size W w'))
    (hKTr : (∀ W, Calls Tryd.prog 21 #[.agg #[.int .u32 s, .int .u32 d, .int .u8 p, .int .u16 sp, .int .u16 dp]] W fun e w' => e = .returned (.string tx) ∧ Below W.heap.size W w'))
    (hKY : (∀ W, Calls Tryd.prog 22 #[.agg #[.int .u32 s, .int .u32 d, .int .u8 p, .int .u16 sp, .int .u16 dp]] W fun e w' => e = .returned (.agg #[.int .u8 y0, .int .u8 y1, .int .u8 y2, .int .u8 y3, .int .u8 y4, .int .u8 y5, .int .u8 y6, .int .u8 y7, .int .u8 y8, .int .u8 y9, .int .u8 y10, .int .u8 y11, .int .u8 y12]) ∧ Below W.heap.size W w'))
    (hKYr : (∀ W, Calls Tryd.prog 23 #[.agg #[.int .u32 s, .int .u32 d, .int .u8 p, .int .u16 sp, .int .u16 dp]] W fun e w' => e = .returned (.agg #[.int .u8 y0, .int .u8 y1, .int .u8 y2, .int .u8 y3, .int .u8 y4, .int .u8 y5, .int .u8 y6, .int .u8 y7, .int .u8 y8, .int .u8 y9, .int .u8 y10, .int .u8 y11, .int .u8 y12]) ∧ Below W.heap.size W w'))
    (hKO : (∀ W, Calls Tryd.prog 24 #[.agg #[.int .u8 x0, .int .u8 x1, .int .u8 x2, .int .u8 x3, .int .u8 x4, .int .u8 x5, .int .u8 x6, .int .u8 x7, .int .u8 x8, .int .u8 x9, .int .u8 x10, .int .u8 x11, .int .u8 x12]] W fun e w' => e = .returned (.agg #[.int .u32 o0, .int .u32 o1, .int .u8 o2, .int .u16 o3, .int .u16 o4]) ∧ Below W.heap.size W w'))
    (hKOr : (∀ W, Calls Tryd.prog 25 #[.agg #[.int .u8 x0, .int .u8 x1, .int .u8 x2, .int .u8 x3, .int .u8 x4, .int .u8 x5, .int .u8 x6, .int .u8 x7, .int .u8 x8, .int .u8 x9, .int .u8 x10, .int .u8 x11, .int .u8 x12]] W fun e w' => e = .returned (.agg #[.int .u32 o0, .int .u32 o1, .int .u8 o2, .int .u16 o3, .int .u16 o4]) ∧ Below W.heap.size W w'))
    : Calls Tryd.prog 4 #[.agg #[.int .u32 s, .int .u32 d, .int .u8 p, .int .u16 sp, .int .u16 dp], .agg #[.int .u32 s', .int .u32 d', .int .u8 p', .int .u16 sp', .int .u16 dp'], .int .i64 i, .bool bit, .agg #[.int .u8 x0, .int .u8 x1, .int .u8 x2, .int .u8 x3, .int .u8 x4, .int .u8 x5, .int .u8 x6, .int .u8 x7, .int .u8 x8, .int .u8 x9, .int .u8 x10, .int .u8 x11, .int .u8 x12], .string tt] w fun e w' => e = .returned (.bool true) ∧ Below w.heap.size w w' := by
  have KB := Lib.hid hKB
  have KBr := Lib.hid hKBr
  have KW := Lib.hid hKW
  have KWr := Lib.hid hKWr
  have KC := Lib.hid hKC
  have KCr := Lib.hid hKCr
  have KN := Lib.hid hKN
  have KNr := Lib.hid hKNr
  have KP := Lib.hid hKP
  have KPr := Lib.hid hKPr
  have KT := Lib.hid hKT
  have KTr := Lib.hid hKTr
  have KY := Lib.hid hKY
  have KYr := Lib.hid hKYr
  have KO := Lib.hid hKO
  have KOr := Lib.hid hKOr
  clear hKB hKBr hKW hKWr hKC hKCr hKN hKNr hKP hKPr hKT hKTr hKY hKYr hKO hKOr
  have Sc := Lib.hid (same5 c0 c1 c2 c3 c4)
  have Sn := Lib.hid (same5 n0 n1 n2 n3 n4)
  have Sq := Lib.hid (same5 q0 q1 q2 q3 q4)
  have So := Lib.hid (same5 o0 o1 o2 o3 o4)
  obtain ⟨Z, hZ⟩ : ∃ Z, ((w.alloc (.cells #[.int .u32 s, .int .u32 d, .int .u8 p, .int .u16 sp, .int .u16 dp] 27)).alloc (.cells #[.int .u32 s', .int .u32 d', .int .u8 p', .int .u16 sp', .int .u16 dp'] 27)).alloc (.cells #[.int .u8 x0, .int .u8 x1, .int .u8 x2, .int .u8 x3, .int .u8 x4, .int .u8 x5, .int .u8 x6, .int .u8 x7, .int .u8 x8, .int .u8 x9, .int .u8 x10, .int .u8 x11, .int .u8 x12] 39) = Z := ⟨_, rfl⟩
  have hb0 : Below w.heap.size w Z := by rw [← hZ]; exact (((Below.refl _ _).alloc (Nat.le_refl _) _).alloc (by simp) _).alloc (by simp; omega) _
  have HB0 := Lib.hid hb0
  have hAZ : Z.heap[w.heap.size]? = some (.cells #[.int .u32 s, .int .u32 d, .int .u8 p, .int .u16 sp, .int .u16 dp] 27 (0, 0)) := by rw [← hZ]; exact (heap_alloc_old _ _ (by simp; omega)).trans (heap_alloc2_old w _ _)
  have hBZ : Z.heap[w.heap.size + 1]? = some (.cells #[.int .u32 s', .int .u32 d', .int .u8 p', .int .u16 sp', .int .u16 dp'] 27 (0, 0)) := by rw [← hZ]; exact (heap_alloc_old _ _ (by simp)).trans (heap_alloc2_new w _ _)
  have hRZ : Z.heap[w.heap.size + 1 + 1]? = some (.cells #[.int .u8 x0, .int .u8 x1, .int .u8 x2, .int .u8 x3, .int .u8 x4, .int .u8 x5, .int .u8 x6, .int .u8 x7, .int .u8 x8, .int .u8 x9, .int .u8 x10, .int .u8 x11, .int .u8 x12] 39 (0, 0)) := by
    rw [← hZ]
    have := heap_alloc2_new (w.alloc (.cells #[.int .u32 s, .int .u32 d, .int .u8 p, .int .u16 sp, .int .u16 dp] 27)) (.cells #[.int .u32 s', .int .u32 d', .int .u8 p', .int .u16 sp', .int .u16 dp'] 27) (.cells #[.int .u8 x0, .int .u8 x1, .int .u8 x2, .int .u8 x3, .int .u8 x4, .int .u8 x5, .int .u8 x6, .int .u8 x7, .int .u8 x8, .int .u8 x9, .int .u8 x10, .int .u8 x11, .int .u8 x12] 39)
    simpa using this
  have RA := Lib.hid hAZ; have RB := Lib.hid hBZ; have RR := Lib.hid hRZ
  have LA := (Array.getElem?_eq_some_iff.1 RA.out).1
  have LB := (Array.getElem?_eq_some_iff.1 RB.out).1
  have LR := (Array.getElem?_eq_some_iff.1 RR.out).1
  have LA0 := LA; have LB0 := LB; have LR0 := LR
  have HZ := Lib.hid (Below.refl Z.heap.size Z)
  clear hb0 hAZ hBZ hRZ
  go_enter Tryd.func4, Tryd.ntmps4
  obtain ⟨k0, _⟩ := row_cell' (j := 0) RA.out rfl
  obtain ⟨k1, _⟩ := row_cell' (j := 1) RA.out rfl
  obtain ⟨k2, _⟩ := row_cell' (j := 2) RA.out rfl
  obtain ⟨k3, _⟩ := row_cell' (j := 3) RA.out rfl
  obtain ⟨k4, _⟩ := row_cell' (j := 4) RA.out rfl
  go_wp2_with fail
  go_at_call 12
  (with_reducible refine (KB.out _).mono ?_)
  rintro e w1 ⟨rfl, hb⟩
  clear k0 k1 k2 k3 k4
  have RA := Lib.hid ((hb.block _ LA).trans RA.out)
  have RB := Lib.hid ((hb.block _ LB).trans RB.out)
  have RR := Lib.hid ((hb.block _ LR).trans RR.out)
  have LA := (Array.getElem?_eq_some_iff.1 RA.out).1
  have LB := (Array.getElem?_eq_some_iff.1 RB.out).1
  have LR := (Array.getElem?_eq_some_iff.1 RR.out).1
  have HZ := Lib.hid (Below.step HZ.out hb)
  clear hb
  try clear hZ
  obtain ⟨k0, _⟩ := row_cell' (j := 0) RA.out rfl
  obtain ⟨k1, _⟩ := row_cell' (j := 1) RA.out rfl
  obtain ⟨k2, _⟩ := row_cell' (j := 2) RA.out rfl
  obtain ⟨k3, _⟩ := row_cell' (j := 3) RA.out rfl
  obtain ⟨k4, _⟩ := row_cell' (j := 4) RA.out rfl
  go_wp2_with fail
  go_at_call 13
  (with_reducible refine (KBr.out _).mono ?_)
  rintro e w2 ⟨rfl, hb⟩
  clear k0 k1 k2 k3 k4
  have RA := Lib.hid ((hb.block _ LA).trans RA.out)
  have RB := Lib.hid ((hb.block _ LB).trans RB.out)
  have RR := Lib.hid ((hb.block _ LR).trans RR.out)
  have LA := (Array.getElem?_eq_some_iff.1 RA.out).1
  have LB := (Array.getElem?_eq_some_iff.1 RB.out).1
  have LR := (Array.getElem?_eq_some_iff.1 RR.out).1
  have HZ := Lib.hid (Below.step HZ.out hb)
  clear hb
  obtain ⟨k0, _⟩ := row_cell' (j := 0) RA.out rfl
  obtain ⟨k1, _⟩ := row_cell' (j := 1) RA.out rfl
  obtain ⟨k2, _⟩ := row_cell' (j := 2) RA.out rfl
  obtain ⟨k3, _⟩ := row_cell' (j := 3) RA.out rfl
  obtain ⟨k4, _⟩ := row_cell' (j := 4) RA.out rfl
  go_wp2_with fail
  go_at_call 8
  (with_reducible refine (KW.out _).mono ?_)
  rintro e w3 ⟨rfl, hb⟩
  clear k0 k1 k2 k3 k4
  have RA := Lib.hid ((hb.block _ LA).trans RA.out)
  have RB := Lib.hid ((hb.block _ LB).trans RB.out)
  have RR := Lib.hid ((hb.block _ LR).trans RR.out)
  have LA := (Array.getElem?_eq_some_iff.1 RA.out).1
  have LB := (Array.getElem?_eq_some_iff.1 RB.out).1
  have LR := (Array.getElem?_eq_some_iff.1 RR.out).1
  have HZ := Lib.hid (Below.step HZ.out hb)
  clear hb
  obtain ⟨W4, hW4⟩ : ∃ W4, w3.alloc (.cells #[.int .u32 c0, .int .u32 c1, .int .u8 c2, .int .u16 c3, .int .u16 c4] 27) = W4 := ⟨_, rfl⟩
  obtain ⟨gc, hgc⟩ : ∃ gc, w3.heap.size = gc := ⟨_, rfl⟩
  have hzgc : Z.heap.size ≤ gc := by rw [← hgc]; exact HZ.out.size
  have LA' : w.heap.size < gc := by rw [← hgc]; exact LA
  have LB' : w.heap.size + 1 < gc := by rw [← hgc]; exact LB
  have LR' : w.heap.size + 1 + 1 < gc := by rw [← hgc]; exact LR
  have RA := Lib.hid ((heap_alloc_old w3 (.cells #[.int .u32 c0, .int .u32 c1, .int .u8 c2, .int .u16 c3, .int .u16 c4] 27) LA).trans RA.out)
  have RB := Lib.hid ((heap_alloc_old w3 (.cells #[.int .u32 c0, .int .u32 c1, .int .u8 c2, .int .u16 c3, .int .u16 c4] 27) LB).trans RB.out)
  have RR := Lib.hid ((heap_alloc_old w3 (.cells #[.int .u32 c0, .int .u32 c1, .int .u8 c2, .int .u16 c3, .int .u16 c4] 27) LR).trans RR.out)
  have RC := Lib.hid (heap_alloc_new w3 (.cells #[.int .u32 c0, .int .u32 c1, .int .u8 c2, .int .u16 c3, .int .u16 c4] 27))
  have HZ := Lib.hid (HZ.out.alloc HZ.out.size (.cells #[.int .u32 c0, .int .u32 c1, .int .u8 c2, .int .u16 c3, .int .u16 c4] 27))
  rw [hW4] at RA RB RR RC HZ
  rw [hgc] at RC
  have LA := (Array.getElem?_eq_some_iff.1 RA.out).1
  have LB := (Array.getElem?_eq_some_iff.1 RB.out).1
  have LR := (Array.getElem?_eq_some_iff.1 RR.out).1
  have LC := (Array.getElem?_eq_some_iff.1 RC.out).1
  obtain ⟨k0, _⟩ := row_cell' (j := 0) RA.out rfl
  obtain ⟨k1, _⟩ := row_cell' (j := 1) RA.out rfl
  obtain ⟨k2, _⟩ := row_cell' (j := 2) RA.out rfl
  obtain ⟨k3, _⟩ := row_cell' (j := 3) RA.out rfl
  obtain ⟨k4, _⟩ := row_cell' (j := 4) RA.out rfl
  go_wp2_with fail
  go_at_call 14
  (with_reducible refine (KWr.out _).mono ?_)
  rintro e w5 ⟨rfl, hb⟩
  clear k0 k1 k2 k3 k4
  have RA := Lib.hid ((hb.block _ LA).trans RA.out)
  have RB := Lib.hid ((hb.block _ LB).trans RB.out)
  have RR := Lib.hid ((hb.block _ LR).trans RR.out)
  have RC := Lib.hid ((hb.block _ LC).trans RC.out)
  have LA := (Array.getElem?_eq_some_iff.1 RA.out).1
  have LB := (Array.getElem?_eq_some_iff.1 RB.out).1
  have LR := (Array.getElem?_eq_some_iff.1 RR.out).1
  have LC := (Array.getElem?_eq_some_iff.1 RC.out).1
  have HZ := Lib.hid (Below.step HZ.out hb)
  clear hb
  try clear hW4
  obtain ⟨W6, hW6⟩ : ∃ W6, w5.alloc (.cells #[.int .u32 c0, .int .u32 c1, .int .u8 c2, .int .u16 c3, .int .u16 c4] 27) = W6 := ⟨_, rfl⟩
  obtain ⟨gd, hgd⟩ : ∃ gd, w5.heap.size = gd := ⟨_, rfl⟩
  have hzgd : Z.heap.size ≤ gd := by rw [← hgd]; exact HZ.out.size
  have LA' : w.heap.size < gd := by rw [← hgd]; exact LA
  have LB' : w.heap.size + 1 < gd := by rw [← hgd]; exact LB
  have LR' : w.heap.size + 1 + 1 < gd := by rw [← hgd]; exact LR
  have LC' : gc < gd := by rw [← hgd]; exact LC
  have RA := Lib.hid ((heap_alloc_old w5 (.cells #[.int .u32 c0, .int .u32 c1, .int .u8 c2, .int .u16 c3, .int .u16 c4] 27) LA).trans RA.out)
  have RB := Lib.hid ((heap_alloc_old w5 (.cells #[.int .u32 c0, .int .u32 c1, .int .u8 c2, .int .u16 c3, .int .u16 c4] 27) LB).trans RB.out)
  have RR := Lib.hid ((heap_alloc_old w5 (.cells #[.int .u32 c0, .int .u32 c1, .int .u8 c2, .int .u16 c3, .int .u16 c4] 27) LR).trans RR.out)
  have RC := Lib.hid ((heap_alloc_old w5 (.cells #[.int .u32 c0, .int .u32 c1, .int .u8 c2, .int .u16 c3, .int .u16 c4] 27) LC).trans RC.out)
  have RD := Lib.hid (heap_alloc_new w5 (.cells #[.int .u32 c0, .int .u32 c1, .int .u8 c2, .int .u16 c3, .int .u16 c4] 27))
  have HZ := Lib.hid (HZ.out.alloc HZ.out.size (.cells #[.int .u32 c0, .int .u32 c1, .int .u8 c2, .int .u16 c3, .int .u16 c4] 27))
  rw [hW6] at RA RB RR RC RD HZ
  rw [hgd] at RD
  have LA := (Array.getElem?_eq_some_iff.1 RA.out).1
  have LB := (Array.getElem?_eq_some_iff.1 RB.out).1
  have LR := (Array.getElem?_eq_some_iff.1 RR.out).1
  have LC := (Array.getElem?_eq_some_iff.1 RC.out).1
  have LD := (Array.getElem?_eq_some_iff.1 RD.out).1
  go_wp2_with fail
  try rw [hW6]
  try rw [hgd]
  clear hW6 hgd
  refine wp_region_grows (by kernel_rfl) (by kernel_rfl) ?_
  refine grows_fact gc 0 (.int .u32 c0) (row_cell' RC.out rfl).1 LC fun t0 => ?_
  refine grows_fact gc 1 (.int .u32 c1) (row_cell' RC.out rfl).1 LC fun t1 => ?_
  refine grows_fact gc 2 (.int .u8 c2) (row_cell' RC.out rfl).1 LC fun t2 => ?_
  refine grows_fact gc 3 (.int .u16 c3) (row_cell' RC.out rfl).1 LC fun t3 => ?_
  refine grows_fact gc 4 (.int .u16 c4) (row_cell' RC.out rfl).1 LC fun t4 => ?_
  refine grows_fact gd 0 (.int .u32 c0) (row_cell' RD.out rfl).1 LD fun u0 => ?_
  refine grows_fact gd 1 (.int .u32 c1) (row_cell' RD.out rfl).1 LD fun u1 => ?_
  refine grows_fact gd 2 (.int .u8 c2) (row_cell' RD.out rfl).1 LD fun u2 => ?_
  refine grows_fact gd 3 (.int .u16 c3) (row_cell' RD.out rfl).1 LD fun u3 => ?_
  refine grows_fact gd 4 (.int .u16 c4) (row_cell' RD.out rfl).1 LD fun u4 => ?_
  refine grows_fact w.heap.size 0 (.int .u32 s) (row_cell' RA.out rfl).1 LA fun r0 => ?_
  refine grows_fact w.heap.size 1 (.int .u32 d) (row_cell' RA.out rfl).1 LA fun r1 => ?_
  refine grows_fact w.heap.size 2 (.int .u8 p) (row_cell' RA.out rfl).1 LA fun r2 => ?_
  refine grows_fact w.heap.size 3 (.int .u16 sp) (row_cell' RA.out rfl).1 LA fun r3 => ?_
  refine grows_fact w.heap.size 4 (.int .u16 dp) (row_cell' RA.out rfl).1 LA fun r4 => ?_
  refine grows_fact (w.heap.size + 1) 0 (.int .u32 s') (row_cell' RB.out rfl).1 LB fun z0 => ?_
  refine grows_fact (w.heap.size + 1) 1 (.int .u32 d') (row_cell' RB.out rfl).1 LB fun z1 => ?_
  refine grows_fact (w.heap.size + 1) 2 (.int .u8 p') (row_cell' RB.out rfl).1 LB fun z2 => ?_
  refine grows_fact (w.heap.size + 1) 3 (.int .u16 sp') (row_cell' RB.out rfl).1 LB fun z3 => ?_
  refine grows_fact (w.heap.size + 1) 4 (.int .u16 dp') (row_cell' RB.out rfl).1 LB fun z4 => ?_
  repeat (go_big_quiet_step ((first | (go_at_call 15; with_reducible exact Calls.grows_of (Sc.out _)) | (go_at_call 16; with_reducible exact Calls.grows_of (KC.out _)) | (go_at_call 17; with_reducible exact Calls.grows_of (KCr.out _)))))
  refine wpQuiet_nil ?_
  rintro wB ⟨⟨w7, hb⟩, rfl⟩
  clear t0 t1 t2 t3 t4 u0 u1 u2 u3 u4 r0 r1 r2 r3 r4 z0 z1 z2 z3 z4
  have RA := Lib.hid ((hb.block _ LA).trans RA.out)
  have RB := Lib.hid ((hb.block _ LB).trans RB.out)
  have RR := Lib.hid ((hb.block _ LR).trans RR.out)
  have RC := Lib.hid ((hb.block _ LC).trans RC.out)
  have RD := Lib.hid ((hb.block _ LD).trans RD.out)
  have LA := (Array.getElem?_eq_some_iff.1 RA.out).1
  have LB := (Array.getElem?_eq_some_iff.1 RB.out).1
  have LR := (Array.getElem?_eq_some_iff.1 RR.out).1
  have LC := (Array.getElem?_eq_some_iff.1 RC.out).1
  have LD := (Array.getElem?_eq_some_iff.1 RD.out).1
  have HZ := Lib.hid (Below.step HZ.out hb)
  clear hb
  obtain ⟨k0, _⟩ := row_cell' (j := 0) RA.out rfl
  obtain ⟨k1, _⟩ := row_cell' (j := 1) RA.out rfl
  obtain ⟨k2, _⟩ := row_cell' (j := 2) RA.out rfl
  obtain ⟨k3, _⟩ := row_cell' (j := 3) RA.out rfl
  obtain ⟨k4, _⟩ := row_cell' (j := 4) RA.out rfl
  go_wp2_with fail
  go_at_call 11
  (with_reducible refine (KN.out _).mono ?_)
  rintro e w8 ⟨rfl, hb⟩
  clear k0 k1 k2 k3 k4
  have RA := Lib.hid ((hb.block _ LA).trans RA.out)
  have RB := Lib.hid ((hb.block _ LB).trans RB.out)
  have RR := Lib.hid ((hb.block _ LR).trans RR.out)
  have RC := Lib.hid ((hb.block _ LC).trans RC.out)
  have RD := Lib.hid ((hb.block _ LD).trans RD.out)
  have LA := (Array.getElem?_eq_some_iff.1 RA.out).1
  have LB := (Array.getElem?_eq_some_iff.1 RB.out).1
  have LR := (Array.getElem?_eq_some_iff.1 RR.out).1
  have LC := (Array.getElem?_eq_some_iff.1 RC.out).1
  have LD := (Array.getElem?_eq_some_iff.1 RD.out).1
  have HZ := Lib.hid (Below.step HZ.out hb)
  clear hb
  obtain ⟨e0, ef0⟩ := row_cell' (j := 0) RC.out rfl
  obtain ⟨e1, ef1⟩ := row_cell' (j := 1) RC.out rfl
  obtain ⟨e2, ef2⟩ := row_cell' (j := 2) RC.out rfl
  obtain ⟨e3, ef3⟩ := row_cell' (j := 3) RC.out rfl
  obtain ⟨e4, ef4⟩ := row_cell' (j := 4) RC.out rfl
  obtain ⟨W9, hW9⟩ : ∃ W9, (((((w8.setCell ⟨gc, 0, none⟩ (.int .u32 n0)).setCell ⟨gc, 1, none⟩ (.int .u32 n1)).setCell ⟨gc, 2, none⟩ (.int .u8 n2)).setCell ⟨gc, 3, none⟩ (.int .u16 n3)).setCell ⟨gc, 4, none⟩ (.int .u16 n4)) = W9 := ⟨_, rfl⟩
  have RA := Lib.hid ((set5_other (m0 := n0) (m1 := n1) (m2 := n2) (m3 := n3) (m4 := n4) (w := w8) (g := gc) (k := w.heap.size) (by omega)).trans RA.out)
  have RB := Lib.hid ((set5_other (m0 := n0) (m1 := n1) (m2 := n2) (m3 := n3) (m4 := n4) (w := w8) (g := gc) (k := w.heap.size + 1) (by omega)).trans RB.out)
  have RR := Lib.hid ((set5_other (m0 := n0) (m1 := n1) (m2 := n2) (m3 := n3) (m4 := n4) (w := w8) (g := gc) (k := w.heap.size + 1 + 1) (by omega)).trans RR.out)
  have RC := Lib.hid (set5 (m0 := n0) (m1 := n1) (m2 := n2) (m3 := n3) (m4 := n4) RC.out)
  have RD := Lib.hid ((set5_other (m0 := n0) (m1 := n1) (m2 := n2) (m3 := n3) (m4 := n4) (w := w8) (g := gc) (k := gd) (by omega)).trans RD.out)
  have HZ : Hid (Below Z.heap.size Z (((((w8.setCell ⟨gc, 0, none⟩ (.int .u32 n0)).setCell ⟨gc, 1, none⟩ (.int .u32 n1)).setCell ⟨gc, 2, none⟩ (.int .u8 n2)).setCell ⟨gc, 3, none⟩ (.int .u16 n3)).setCell ⟨gc, 4, none⟩ (.int .u16 n4))) := Lib.hid (by
    repeat refine Below.setCell ?_ (by simp; omega) _
    exact HZ.out)
  rw [hW9] at RA RB RR RC RD HZ
  have LA := (Array.getElem?_eq_some_iff.1 RA.out).1
  have LB := (Array.getElem?_eq_some_iff.1 RB.out).1
  have LR := (Array.getElem?_eq_some_iff.1 RR.out).1
  have LC := (Array.getElem?_eq_some_iff.1 RC.out).1
  have LD := (Array.getElem?_eq_some_iff.1 RD.out).1
  obtain ⟨k0, _⟩ := row_cell' (j := 0) RA.out rfl
  obtain ⟨k1, _⟩ := row_cell' (j := 1) RA.out rfl
  obtain ⟨k2, _⟩ := row_cell' (j := 2) RA.out rfl
  obtain ⟨k3, _⟩ := row_cell' (j := 3) RA.out rfl
  obtain ⟨k4, _⟩ := row_cell' (j := 4) RA.out rfl
  go_wp2_with fail
  go_at_call 18
  (with_reducible refine (KNr.out _).mono ?_)
  rintro e w10 ⟨rfl, hb⟩
  clear k0 k1 k2 k3 k4
  have RA := Lib.hid ((hb.block _ LA).trans RA.out)
  have RB := Lib.hid ((hb.block _ LB).trans RB.out)
  have RR := Lib.hid ((hb.block _ LR).trans RR.out)
  have RC := Lib.hid ((hb.block _ LC).trans RC.out)
  have RD := Lib.hid ((hb.block _ LD).trans RD.out)
  have LA := (Array.getElem?_eq_some_iff.1 RA.out).1
  have LB := (Array.getElem?_eq_some_iff.1 RB.out).1
  have LR := (Array.getElem?_eq_some_iff.1 RR.out).1
  have LC := (Array.getElem?_eq_some_iff.1 RC.out).1
  have LD := (Array.getElem?_eq_some_iff.1 RD.out).1
  have HZ := Lib.hid (Below.step HZ.out hb)
  clear hb
  try clear hW9
  clear e0 e1 e2 e3 e4 ef0 ef1 ef2 ef3 ef4
  obtain ⟨e0, ef0⟩ := row_cell' (j := 0) RD.out rfl
  obtain ⟨e1, ef1⟩ := row_cell' (j := 1) RD.out rfl
  obtain ⟨e2, ef2⟩ := row_cell' (j := 2) RD.out rfl
  obtain ⟨e3, ef3⟩ := row_cell' (j := 3) RD.out rfl
  obtain ⟨e4, ef4⟩ := row_cell' (j := 4) RD.out rfl
  obtain ⟨W11, hW11⟩ : ∃ W11, (((((w10.setCell ⟨gd, 0, none⟩ (.int .u32 n0)).setCell ⟨gd, 1, none⟩ (.int .u32 n1)).setCell ⟨gd, 2, none⟩ (.int .u8 n2)).setCell ⟨gd, 3, none⟩ (.int .u16 n3)).setCell ⟨gd, 4, none⟩ (.int .u16 n4)) = W11 := ⟨_, rfl⟩
  have RA := Lib.hid ((set5_other (m0 := n0) (m1 := n1) (m2 := n2) (m3 := n3) (m4 := n4) (w := w10) (g := gd) (k := w.heap.size) (by omega)).trans RA.out)
  have RB := Lib.hid ((set5_other (m0 := n0) (m1 := n1) (m2 := n2) (m3 := n3) (m4 := n4) (w := w10) (g := gd) (k := w.heap.size + 1) (by omega)).trans RB.out)
  have RR := Lib.hid ((set5_other (m0 := n0) (m1 := n1) (m2 := n2) (m3 := n3) (m4 := n4) (w := w10) (g := gd) (k := w.heap.size + 1 + 1) (by omega)).trans RR.out)
  have RC := Lib.hid ((set5_other (m0 := n0) (m1 := n1) (m2 := n2) (m3 := n3) (m4 := n4) (w := w10) (g := gd) (k := gc) (by omega)).trans RC.out)
  have RD := Lib.hid (set5 (m0 := n0) (m1 := n1) (m2 := n2) (m3 := n3) (m4 := n4) RD.out)
  have HZ : Hid (Below Z.heap.size Z (((((w10.setCell ⟨gd, 0, none⟩ (.int .u32 n0)).setCell ⟨gd, 1, none⟩ (.int .u32 n1)).setCell ⟨gd, 2, none⟩ (.int .u8 n2)).setCell ⟨gd, 3, none⟩ (.int .u16 n3)).setCell ⟨gd, 4, none⟩ (.int .u16 n4))) := Lib.hid (by
    repeat refine Below.setCell ?_ (by simp; omega) _
    exact HZ.out)
  rw [hW11] at RA RB RR RC RD HZ
  have LA := (Array.getElem?_eq_some_iff.1 RA.out).1
  have LB := (Array.getElem?_eq_some_iff.1 RB.out).1
  have LR := (Array.getElem?_eq_some_iff.1 RR.out).1
  have LC := (Array.getElem?_eq_some_iff.1 RC.out).1
  have LD := (Array.getElem?_eq_some_iff.1 RD.out).1
  go_wp2_with fail
  go_at_call 10
  (with_reducible refine (KP.out _ (Below.step HB0.out HZ.out)).mono ?_)
  rintro e w12 ⟨rfl, hb⟩
  have RA := Lib.hid ((hb.block _ LA).trans RA.out)
  have RB := Lib.hid ((hb.block _ LB).trans RB.out)
  have RR := Lib.hid ((hb.block _ LR).trans RR.out)
  have RC := Lib.hid ((hb.block _ LC).trans RC.out)
  have RD := Lib.hid ((hb.block _ LD).trans RD.out)
  have LA := (Array.getElem?_eq_some_iff.1 RA.out).1
  have LB := (Array.getElem?_eq_some_iff.1 RB.out).1
  have LR := (Array.getElem?_eq_some_iff.1 RR.out).1
  have LC := (Array.getElem?_eq_some_iff.1 RC.out).1
  have LD := (Array.getElem?_eq_some_iff.1 RD.out).1
  have HZ := Lib.hid (Below.step HZ.out hb)
  clear hb
  try clear hW11
  clear e0 e1 e2 e3 e4 ef0 ef1 ef2 ef3 ef4
  obtain ⟨W13, hW13⟩ : ∃ W13, w12.alloc (.cells #[.int .u32 q0, .int .u32 q1, .int .u8 q2, .int .u16 q3, .int .u16 q4] 27) = W13 := ⟨_, rfl⟩
  obtain ⟨gq, hgq⟩ : ∃ gq, w12.heap.size = gq := ⟨_, rfl⟩
  have hzgq : Z.heap.size ≤ gq := by rw [← hgq]; exact HZ.out.size
  have LA' : w.heap.size < gq := by rw [← hgq]; exact LA
  have LB' : w.heap.size + 1 < gq := by rw [← hgq]; exact LB
  have LR' : w.heap.size + 1 + 1 < gq := by rw [← hgq]; exact LR
  have LC' : gc < gq := by rw [← hgq]; exact LC
  have LD' : gd < gq := by rw [← hgq]; exact LD
  have RA := Lib.hid ((heap_alloc_old w12 (.cells #[.int .u32 q0, .int .u32 q1, .int .u8 q2, .int .u16 q3, .int .u16 q4] 27) LA).trans RA.out)
  have RB := Lib.hid ((heap_alloc_old w12 (.cells #[.int .u32 q0, .int .u32 q1, .int .u8 q2, .int .u16 q3, .int .u16 q4] 27) LB).trans RB.out)
  have RR := Lib.hid ((heap_alloc_old w12 (.cells #[.int .u32 q0, .int .u32 q1, .int .u8 q2, .int .u16 q3, .int .u16 q4] 27) LR).trans RR.out)
  have RC := Lib.hid ((heap_alloc_old w12 (.cells #[.int .u32 q0, .int .u32 q1, .int .u8 q2, .int .u16 q3, .int .u16 q4] 27) LC).trans RC.out)
  have RD := Lib.hid ((heap_alloc_old w12 (.cells #[.int .u32 q0, .int .u32 q1, .int .u8 q2, .int .u16 q3, .int .u16 q4] 27) LD).trans RD.out)
  have RQ := Lib.hid (heap_alloc_new w12 (.cells #[.int .u32 q0, .int .u32 q1, .int .u8 q2, .int .u16 q3, .int .u16 q4] 27))
  have HZ := Lib.hid (HZ.out.alloc HZ.out.size (.cells #[.int .u32 q0, .int .u32 q1, .int .u8 q2, .int .u16 q3, .int .u16 q4] 27))
  rw [hW13] at RA RB RR RC RD RQ HZ
  rw [hgq] at RQ
  have LA := (Array.getElem?_eq_some_iff.1 RA.out).1
  have LB := (Array.getElem?_eq_some_iff.1 RB.out).1
  have LR := (Array.getElem?_eq_some_iff.1 RR.out).1
  have LC := (Array.getElem?_eq_some_iff.1 RC.out).1
  have LD := (Array.getElem?_eq_some_iff.1 RD.out).1
  have LQ := (Array.getElem?_eq_some_iff.1 RQ.out).1
  go_wp2_with fail
  go_at_call 19
  (with_reducible refine (KPr.out _).mono ?_)
  rintro e w14 ⟨rfl, hb⟩
  have RA := Lib.hid ((hb.block _ LA).trans RA.out)
  have RB := Lib.hid ((hb.block _ LB).trans RB.out)
  have RR := Lib.hid ((hb.block _ LR).trans RR.out)
  have RC := Lib.hid ((hb.block _ LC).trans RC.out)
  have RD := Lib.hid ((hb.block _ LD).trans RD.out)
  have RQ := Lib.hid ((hb.block _ LQ).trans RQ.out)
  have LA := (Array.getElem?_eq_some_iff.1 RA.out).1
  have LB := (Array.getElem?_eq_some_iff.1 RB.out).1
  have LR := (Array.getElem?_eq_some_iff.1 RR.out).1
  have LC := (Array.getElem?_eq_some_iff.1 RC.out).1
  have LD := (Array.getElem?_eq_some_iff.1 RD.out).1
  have LQ := (Array.getElem?_eq_some_iff.1 RQ.out).1
  have HZ := Lib.hid (Below.step HZ.out hb)
  clear hb
  try clear hW13
  obtain ⟨W15, hW15⟩ : ∃ W15, w14.alloc (.cells #[.int .u32 q0, .int .u32 q1, .int .u8 q2, .int .u16 q3, .int .u16 q4] 27) = W15 := ⟨_, rfl⟩
  obtain ⟨gp, hgp⟩ : ∃ gp, w14.heap.size = gp := ⟨_, rfl⟩
  have hzgp : Z.heap.size ≤ gp := by rw [← hgp]; exact HZ.out.size
  have LA' : w.heap.size < gp := by rw [← hgp]; exact LA
  have LB' : w.heap.size + 1 < gp := by rw [← hgp]; exact LB
  have LR' : w.heap.size + 1 + 1 < gp := by rw [← hgp]; exact LR
  have LC' : gc < gp := by rw [← hgp]; exact LC
  have LD' : gd < gp := by rw [← hgp]; exact LD
  have LQ' : gq < gp := by rw [← hgp]; exact LQ
  have RA := Lib.hid ((heap_alloc_old w14 (.cells #[.int .u32 q0, .int .u32 q1, .int .u8 q2, .int .u16 q3, .int .u16 q4] 27) LA).trans RA.out)
  have RB := Lib.hid ((heap_alloc_old w14 (.cells #[.int .u32 q0, .int .u32 q1, .int .u8 q2, .int .u16 q3, .int .u16 q4] 27) LB).trans RB.out)
  have RR := Lib.hid ((heap_alloc_old w14 (.cells #[.int .u32 q0, .int .u32 q1, .int .u8 q2, .int .u16 q3, .int .u16 q4] 27) LR).trans RR.out)
  have RC := Lib.hid ((heap_alloc_old w14 (.cells #[.int .u32 q0, .int .u32 q1, .int .u8 q2, .int .u16 q3, .int .u16 q4] 27) LC).trans RC.out)
  have RD := Lib.hid ((heap_alloc_old w14 (.cells #[.int .u32 q0, .int .u32 q1, .int .u8 q2, .int .u16 q3, .int .u16 q4] 27) LD).trans RD.out)
  have RQ := Lib.hid ((heap_alloc_old w14 (.cells #[.int .u32 q0, .int .u32 q1, .int .u8 q2, .int .u16 q3, .int .u16 q4] 27) LQ).trans RQ.out)
  have RP := Lib.hid (heap_alloc_new w14 (.cells #[.int .u32 q0, .int .u32 q1, .int .u8 q2, .int .u16 q3, .int .u16 q4] 27))
  have HZ := Lib.hid (HZ.out.alloc HZ.out.size (.cells #[.int .u32 q0, .int .u32 q1, .int .u8 q2, .int .u16 q3, .int .u16 q4] 27))
  rw [hW15] at RA RB RR RC RD RQ RP HZ
  rw [hgp] at RP
  have LA := (Array.getElem?_eq_some_iff.1 RA.out).1
  have LB := (Array.getElem?_eq_some_iff.1 RB.out).1
  have LR := (Array.getElem?_eq_some_iff.1 RR.out).1
  have LC := (Array.getElem?_eq_some_iff.1 RC.out).1
  have LD := (Array.getElem?_eq_some_iff.1 RD.out).1
  have LQ := (Array.getElem?_eq_some_iff.1 RQ.out).1
  have LP := (Array.getElem?_eq_some_iff.1 RP.out).1
  go_wp2_with fail
  try rw [hW15]
  try rw [hgp]
  clear hW15 hgp
  have KT5 : Hid (∀ y : Grows W15, Calls Tryd.prog 20 #[.agg #[.int .u32 s, .int .u32 d, .int .u8 p, .int .u16 sp, .int .u16 dp]] y.val fun e w' => e = .returned (.string tx) ∧ Below y.val.heap.size y.val w') := Lib.hid fun y => KT.out _ (Below.step (Below.step HB0.out HZ.out) y.below)
  refine wp_region_grows (by kernel_rfl) (by kernel_rfl) ?_
  refine grows_fact gc 0 (.int .u32 n0) (row_cell' RC.out rfl).1 LC fun t0 => ?_
  refine grows_fact gc 1 (.int .u32 n1) (row_cell' RC.out rfl).1 LC fun t1 => ?_
  refine grows_fact gc 2 (.int .u8 n2) (row_cell' RC.out rfl).1 LC fun t2 => ?_
  refine grows_fact gc 3 (.int .u16 n3) (row_cell' RC.out rfl).1 LC fun t3 => ?_
  refine grows_fact gc 4 (.int .u16 n4) (row_cell' RC.out rfl).1 LC fun t4 => ?_
  refine grows_fact gd 0 (.int .u32 n0) (row_cell' RD.out rfl).1 LD fun u0 => ?_
  refine grows_fact gd 1 (.int .u32 n1) (row_cell' RD.out rfl).1 LD fun u1 => ?_
  refine grows_fact gd 2 (.int .u8 n2) (row_cell' RD.out rfl).1 LD fun u2 => ?_
  refine grows_fact gd 3 (.int .u16 n3) (row_cell' RD.out rfl).1 LD fun u3 => ?_
  refine grows_fact gd 4 (.int .u16 n4) (row_cell' RD.out rfl).1 LD fun u4 => ?_
  refine grows_fact gq 0 (.int .u32 q0) (row_cell' RQ.out rfl).1 LQ fun r0 => ?_
  refine grows_fact gq 1 (.int .u32 q1) (row_cell' RQ.out rfl).1 LQ fun r1 => ?_
  refine grows_fact gq 2 (.int .u8 q2) (row_cell' RQ.out rfl).1 LQ fun r2 => ?_
  refine grows_fact gq 3 (.int .u16 q3) (row_cell' RQ.out rfl).1 LQ fun r3 => ?_
  refine grows_fact gq 4 (.int .u16 q4) (row_cell' RQ.out rfl).1 LQ fun r4 => ?_
  refine grows_fact gp 0 (.int .u32 q0) (row_cell' RP.out rfl).1 LP fun z0 => ?_
  refine grows_fact gp 1 (.int .u32 q1) (row_cell' RP.out rfl).1 LP fun z1 => ?_
  refine grows_fact gp 2 (.int .u8 q2) (row_cell' RP.out rfl).1 LP fun z2 => ?_
  refine grows_fact gp 3 (.int .u16 q3) (row_cell' RP.out rfl).1 LP fun z3 => ?_
  refine grows_fact gp 4 (.int .u16 q4) (row_cell' RP.out rfl).1 LP fun z4 => ?_
  refine grows_fact w.heap.size 0 (.int .u32 s) (row_cell' RA.out rfl).1 LA fun k0 => ?_
  refine grows_fact w.heap.size 1 (.int .u32 d) (row_cell' RA.out rfl).1 LA fun k1 => ?_
  refine grows_fact w.heap.size 2 (.int .u8 p) (row_cell' RA.out rfl).1 LA fun k2 => ?_
  refine grows_fact w.heap.size 3 (.int .u16 sp) (row_cell' RA.out rfl).1 LA fun k3 => ?_
  refine grows_fact w.heap.size 4 (.int .u16 dp) (row_cell' RA.out rfl).1 LA fun k4 => ?_
  repeat (go_big_quiet_step ((first | (go_at_call 15; with_reducible exact Calls.grows_of (Sn.out _)) | (go_at_call 15; with_reducible exact Calls.grows_of (Sq.out _)) | (go_at_call 20; with_reducible exact Calls.grows_of (KT5.out _)) | (go_at_call 21; with_reducible exact Calls.grows_of (KTr.out _)))))
  refine wpQuiet_nil ?_
  rintro wB ⟨⟨w16, hb⟩, rfl⟩
  clear t0 t1 t2 t3 t4 u0 u1 u2 u3 u4 r0 r1 r2 r3 r4 z0 z1 z2 z3 z4 k0 k1 k2 k3 k4
  have RA := Lib.hid ((hb.block _ LA).trans RA.out)
  have RB := Lib.hid ((hb.block _ LB).trans RB.out)
  have RR := Lib.hid ((hb.block _ LR).trans RR.out)
  have RC := Lib.hid ((hb.block _ LC).trans RC.out)
  have RD := Lib.hid ((hb.block _ LD).trans RD.out)
  have RQ := Lib.hid ((hb.block _ LQ).trans RQ.out)
  have RP := Lib.hid ((hb.block _ LP).trans RP.out)
  have LA := (Array.getElem?_eq_some_iff.1 RA.out).1
  have LB := (Array.getElem?_eq_some_iff.1 RB.out).1
  have LR := (Array.getElem?_eq_some_iff.1 RR.out).1
  have LC := (Array.getElem?_eq_some_iff.1 RC.out).1
  have LD := (Array.getElem?_eq_some_iff.1 RD.out).1
  have LQ := (Array.getElem?_eq_some_iff.1 RQ.out).1
  have LP := (Array.getElem?_eq_some_iff.1 RP.out).1
  have HZ := Lib.hid (Below.step HZ.out hb)
  clear hb
  obtain ⟨k0, _⟩ := row_cell' (j := 0) RA.out rfl
  obtain ⟨k1, _⟩ := row_cell' (j := 1) RA.out rfl
  obtain ⟨k2, _⟩ := row_cell' (j := 2) RA.out rfl
  obtain ⟨k3, _⟩ := row_cell' (j := 3) RA.out rfl
  obtain ⟨k4, _⟩ := row_cell' (j := 4) RA.out rfl
  go_wp2_with fail
  go_at_call 22
  (with_reducible refine (KY.out _).mono ?_)
  rintro e w17 ⟨rfl, hb⟩
  clear k0 k1 k2 k3 k4
  have RA := Lib.hid ((hb.block _ LA).trans RA.out)
  have RB := Lib.hid ((hb.block _ LB).trans RB.out)
  have RR := Lib.hid ((hb.block _ LR).trans RR.out)
  have RC := Lib.hid ((hb.block _ LC).trans RC.out)
  have RD := Lib.hid ((hb.block _ LD).trans RD.out)
  have RQ := Lib.hid ((hb.block _ LQ).trans RQ.out)
  have RP := Lib.hid ((hb.block _ LP).trans RP.out)
  have LA := (Array.getElem?_eq_some_iff.1 RA.out).1
  have LB := (Array.getElem?_eq_some_iff.1 RB.out).1
  have LR := (Array.getElem?_eq_some_iff.1 RR.out).1
  have LC := (Array.getElem?_eq_some_iff.1 RC.out).1
  have LD := (Array.getElem?_eq_some_iff.1 RD.out).1
  have LQ := (Array.getElem?_eq_some_iff.1 RQ.out).1
  have LP := (Array.getElem?_eq_some_iff.1 RP.out).1
  have HZ := Lib.hid (Below.step HZ.out hb)
  clear hb
  obtain ⟨W18, hW18⟩ : ∃ W18, w17.alloc (.cells #[.int .u8 y0, .int .u8 y1, .int .u8 y2, .int .u8 y3, .int .u8 y4, .int .u8 y5, .int .u8 y6, .int .u8 y7, .int .u8 y8, .int .u8 y9, .int .u8 y10, .int .u8 y11, .int .u8 y12] 39) = W18 := ⟨_, rfl⟩
  obtain ⟨gy, hgy⟩ : ∃ gy, w17.heap.size = gy := ⟨_, rfl⟩
  have hzgy : Z.heap.size ≤ gy := by rw [← hgy]; exact HZ.out.size
  have LA' : w.heap.size < gy := by rw [← hgy]; exact LA
  have LB' : w.heap.size + 1 < gy := by rw [← hgy]; exact LB
  have LR' : w.heap.size + 1 + 1 < gy := by rw [← hgy]; exact LR
  have LC' : gc < gy := by rw [← hgy]; exact LC
  have LD' : gd < gy := by rw [← hgy]; exact LD
  have LQ' : gq < gy := by rw [← hgy]; exact LQ
  have LP' : gp < gy := by rw [← hgy]; exact LP
  have RA := Lib.hid ((heap_alloc_old w17 (.cells #[.int .u8 y0, .int .u8 y1, .int .u8 y2, .int .u8 y3, .int .u8 y4, .int .u8 y5, .int .u8 y6, .int .u8 y7, .int .u8 y8, .int .u8 y9, .int .u8 y10, .int .u8 y11, .int .u8 y12] 39) LA).trans RA.out)
  have RB := Lib.hid ((heap_alloc_old w17 (.cells #[.int .u8 y0, .int .u8 y1, .int .u8 y2, .int .u8 y3, .int .u8 y4, .int .u8 y5, .int .u8 y6, .int .u8 y7, .int .u8 y8, .int .u8 y9, .int .u8 y10, .int .u8 y11, .int .u8 y12] 39) LB).trans RB.out)
  have RR := Lib.hid ((heap_alloc_old w17 (.cells #[.int .u8 y0, .int .u8 y1, .int .u8 y2, .int .u8 y3, .int .u8 y4, .int .u8 y5, .int .u8 y6, .int .u8 y7, .int .u8 y8, .int .u8 y9, .int .u8 y10, .int .u8 y11, .int .u8 y12] 39) LR).trans RR.out)
  have RC := Lib.hid ((heap_alloc_old w17 (.cells #[.int .u8 y0, .int .u8 y1, .int .u8 y2, .int .u8 y3, .int .u8 y4, .int .u8 y5, .int .u8 y6, .int .u8 y7, .int .u8 y8, .int .u8 y9, .int .u8 y10, .int .u8 y11, .int .u8 y12] 39) LC).trans RC.out)
  have RD := Lib.hid ((heap_alloc_old w17 (.cells #[.int .u8 y0, .int .u8 y1, .int .u8 y2, .int .u8 y3, .int .u8 y4, .int .u8 y5, .int .u8 y6, .int .u8 y7, .int .u8 y8, .int .u8 y9, .int .u8 y10, .int .u8 y11, .int .u8 y12] 39) LD).trans RD.out)
  have RQ := Lib.hid ((heap_alloc_old w17 (.cells #[.int .u8 y0, .int .u8 y1, .int .u8 y2, .int .u8 y3, .int .u8 y4, .int .u8 y5, .int .u8 y6, .int .u8 y7, .int .u8 y8, .int .u8 y9, .int .u8 y10, .int .u8 y11, .int .u8 y12] 39) LQ).trans RQ.out)
  have RP := Lib.hid ((heap_alloc_old w17 (.cells #[.int .u8 y0, .int .u8 y1, .int .u8 y2, .int .u8 y3, .int .u8 y4, .int .u8 y5, .int .u8 y6, .int .u8 y7, .int .u8 y8, .int .u8 y9, .int .u8 y10, .int .u8 y11, .int .u8 y12] 39) LP).trans RP.out)
  have RY := Lib.hid (heap_alloc_new w17 (.cells #[.int .u8 y0, .int .u8 y1, .int .u8 y2, .int .u8 y3, .int .u8 y4, .int .u8 y5, .int .u8 y6, .int .u8 y7, .int .u8 y8, .int .u8 y9, .int .u8 y10, .int .u8 y11, .int .u8 y12] 39))
  have HZ := Lib.hid (HZ.out.alloc HZ.out.size (.cells #[.int .u8 y0, .int .u8 y1, .int .u8 y2, .int .u8 y3, .int .u8 y4, .int .u8 y5, .int .u8 y6, .int .u8 y7, .int .u8 y8, .int .u8 y9, .int .u8 y10, .int .u8 y11, .int .u8 y12] 39))
  rw [hW18] at RA RB RR RC RD RQ RP RY HZ
  rw [hgy] at RY
  have LA := (Array.getElem?_eq_some_iff.1 RA.out).1
  have LB := (Array.getElem?_eq_some_iff.1 RB.out).1
  have LR := (Array.getElem?_eq_some_iff.1 RR.out).1
  have LC := (Array.getElem?_eq_some_iff.1 RC.out).1
  have LD := (Array.getElem?_eq_some_iff.1 RD.out).1
  have LQ := (Array.getElem?_eq_some_iff.1 RQ.out).1
  have LP := (Array.getElem?_eq_some_iff.1 RP.out).1
  have LY := (Array.getElem?_eq_some_iff.1 RY.out).1
  obtain ⟨k0, _⟩ := row_cell' (j := 0) RA.out rfl
  obtain ⟨k1, _⟩ := row_cell' (j := 1) RA.out rfl
  obtain ⟨k2, _⟩ := row_cell' (j := 2) RA.out rfl
  obtain ⟨k3, _⟩ := row_cell' (j := 3) RA.out rfl
  obtain ⟨k4, _⟩ := row_cell' (j := 4) RA.out rfl
  go_wp2_with fail
  go_at_call 23
  (with_reducible refine (KYr.out _).mono ?_)
  rintro e w19 ⟨rfl, hb⟩
  clear k0 k1 k2 k3 k4
  have RA := Lib.hid ((hb.block _ LA).trans RA.out)
  have RB := Lib.hid ((hb.block _ LB).trans RB.out)
  have RR := Lib.hid ((hb.block _ LR).trans RR.out)
  have RC := Lib.hid ((hb.block _ LC).trans RC.out)
  have RD := Lib.hid ((hb.block _ LD).trans RD.out)
  have RQ := Lib.hid ((hb.block _ LQ).trans RQ.out)
  have RP := Lib.hid ((hb.block _ LP).trans RP.out)
  have RY := Lib.hid ((hb.block _ LY).trans RY.out)
  have LA := (Array.getElem?_eq_some_iff.1 RA.out).1
  have LB := (Array.getElem?_eq_some_iff.1 RB.out).1
  have LR := (Array.getElem?_eq_some_iff.1 RR.out).1
  have LC := (Array.getElem?_eq_some_iff.1 RC.out).1
  have LD := (Array.getElem?_eq_some_iff.1 RD.out).1
  have LQ := (Array.getElem?_eq_some_iff.1 RQ.out).1
  have LP := (Array.getElem?_eq_some_iff.1 RP.out).1
  have LY := (Array.getElem?_eq_some_iff.1 RY.out).1
  have HZ := Lib.hid (Below.step HZ.out hb)
  clear hb
  try clear hW18
  obtain ⟨W20, hW20⟩ : ∃ W20, w19.alloc (.cells #[.int .u8 y0, .int .u8 y1, .int .u8 y2, .int .u8 y3, .int .u8 y4, .int .u8 y5, .int .u8 y6, .int .u8 y7, .int .u8 y8, .int .u8 y9, .int .u8 y10, .int .u8 y11, .int .u8 y12] 39) = W20 := ⟨_, rfl⟩
  obtain ⟨gv, hgv⟩ : ∃ gv, w19.heap.size = gv := ⟨_, rfl⟩
  have hzgv : Z.heap.size ≤ gv := by rw [← hgv]; exact HZ.out.size
  have LA' : w.heap.size < gv := by rw [← hgv]; exact LA
  have LB' : w.heap.size + 1 < gv := by rw [← hgv]; exact LB
  have LR' : w.heap.size + 1 + 1 < gv := by rw [← hgv]; exact LR
  have LC' : gc < gv := by rw [← hgv]; exact LC
  have LD' : gd < gv := by rw [← hgv]; exact LD
  have LQ' : gq < gv := by rw [← hgv]; exact LQ
  have LP' : gp < gv := by rw [← hgv]; exact LP
  have LY' : gy < gv := by rw [← hgv]; exact LY
  have RA := Lib.hid ((heap_alloc_old w19 (.cells #[.int .u8 y0, .int .u8 y1, .int .u8 y2, .int .u8 y3, .int .u8 y4, .int .u8 y5, .int .u8 y6, .int .u8 y7, .int .u8 y8, .int .u8 y9, .int .u8 y10, .int .u8 y11, .int .u8 y12] 39) LA).trans RA.out)
  have RB := Lib.hid ((heap_alloc_old w19 (.cells #[.int .u8 y0, .int .u8 y1, .int .u8 y2, .int .u8 y3, .int .u8 y4, .int .u8 y5, .int .u8 y6, .int .u8 y7, .int .u8 y8, .int .u8 y9, .int .u8 y10, .int .u8 y11, .int .u8 y12] 39) LB).trans RB.out)
  have RR := Lib.hid ((heap_alloc_old w19 (.cells #[.int .u8 y0, .int .u8 y1, .int .u8 y2, .int .u8 y3, .int .u8 y4, .int .u8 y5, .int .u8 y6, .int .u8 y7, .int .u8 y8, .int .u8 y9, .int .u8 y10, .int .u8 y11, .int .u8 y12] 39) LR).trans RR.out)
  have RC := Lib.hid ((heap_alloc_old w19 (.cells #[.int .u8 y0, .int .u8 y1, .int .u8 y2, .int .u8 y3, .int .u8 y4, .int .u8 y5, .int .u8 y6, .int .u8 y7, .int .u8 y8, .int .u8 y9, .int .u8 y10, .int .u8 y11, .int .u8 y12] 39) LC).trans RC.out)
  have RD := Lib.hid ((heap_alloc_old w19 (.cells #[.int .u8 y0, .int .u8 y1, .int .u8 y2, .int .u8 y3, .int .u8 y4, .int .u8 y5, .int .u8 y6, .int .u8 y7, .int .u8 y8, .int .u8 y9, .int .u8 y10, .int .u8 y11, .int .u8 y12] 39) LD).trans RD.out)
  have RQ := Lib.hid ((heap_alloc_old w19 (.cells #[.int .u8 y0, .int .u8 y1, .int .u8 y2, .int .u8 y3, .int .u8 y4, .int .u8 y5, .int .u8 y6, .int .u8 y7, .int .u8 y8, .int .u8 y9, .int .u8 y10, .int .u8 y11, .int .u8 y12] 39) LQ).trans RQ.out)
  have RP := Lib.hid ((heap_alloc_old w19 (.cells #[.int .u8 y0, .int .u8 y1, .int .u8 y2, .int .u8 y3, .int .u8 y4, .int .u8 y5, .int .u8 y6, .int .u8 y7, .int .u8 y8, .int .u8 y9, .int .u8 y10, .int .u8 y11, .int .u8 y12] 39) LP).trans RP.out)
  have RY := Lib.hid ((heap_alloc_old w19 (.cells #[.int .u8 y0, .int .u8 y1, .int .u8 y2, .int .u8 y3, .int .u8 y4, .int .u8 y5, .int .u8 y6, .int .u8 y7, .int .u8 y8, .int .u8 y9, .int .u8 y10, .int .u8 y11, .int .u8 y12] 39) LY).trans RY.out)
  have RV := Lib.hid (heap_alloc_new w19 (.cells #[.int .u8 y0, .int .u8 y1, .int .u8 y2, .int .u8 y3, .int .u8 y4, .int .u8 y5, .int .u8 y6, .int .u8 y7, .int .u8 y8, .int .u8 y9, .int .u8 y10, .int .u8 y11, .int .u8 y12] 39))
  have HZ := Lib.hid (HZ.out.alloc HZ.out.size (.cells #[.int .u8 y0, .int .u8 y1, .int .u8 y2, .int .u8 y3, .int .u8 y4, .int .u8 y5, .int .u8 y6, .int .u8 y7, .int .u8 y8, .int .u8 y9, .int .u8 y10, .int .u8 y11, .int .u8 y12] 39))
  rw [hW20] at RA RB RR RC RD RQ RP RY RV HZ
  rw [hgv] at RV
  have LA := (Array.getElem?_eq_some_iff.1 RA.out).1
  have LB := (Array.getElem?_eq_some_iff.1 RB.out).1
  have LR := (Array.getElem?_eq_some_iff.1 RR.out).1
  have LC := (Array.getElem?_eq_some_iff.1 RC.out).1
  have LD := (Array.getElem?_eq_some_iff.1 RD.out).1
  have LQ := (Array.getElem?_eq_some_iff.1 RQ.out).1
  have LP := (Array.getElem?_eq_some_iff.1 RP.out).1
  have LY := (Array.getElem?_eq_some_iff.1 RY.out).1
  have LV := (Array.getElem?_eq_some_iff.1 RV.out).1
  go_wp2_with fail
  try rw [hW20]
  try rw [hgv]
  clear hW20 hgv
  go_loopw [25] (fun s25 wr => ∃ k : Nat, k ≤ 13 ∧ s25 = .int .i64 k ∧ Below W20.heap.size W20 wr) (fun s25 _ => 13 - (intOf s25).toNat)
  case atStart => exact ⟨0, by omega, rfl, Below.refl _ _⟩
  case round =>
    obtain ⟨k, hk, rfl, hbr⟩ := hrel
    by_cases hlt : k < 13
    · have hk0 : (k : Int) < 13 := by omega
      obtain ⟨v, hv⟩ := row13 y0 y1 y2 y3 y4 y5 y6 y7 y8 y9 y10 y11 y12 hlt
      obtain ⟨u0, _⟩ := row_cell' (j := k) ((hbr.block _ LY).trans RY.out) hv
      obtain ⟨u1, _⟩ := row_cell' (j := k) ((hbr.block _ LV).trans RV.out) hv
      clear hv
      go_wp2_with fail
      go_quiet (fail)
      go_wp2
      go_roundw
      case rel => exact ⟨k + 1, by omega, by go_num, by first | exact hbr | exact hbr.drew | exact Below.draws hbr _⟩
      case measure => first | (simp [intOf]; done) | (simp [intOf]; omega)
    · obtain rfl : k = 13 := by omega
      clear hlt
      have hb := hbr
      have RR := Lib.hid ((hb.block _ LR).trans RR.out)
      have LR := (Array.getElem?_eq_some_iff.1 RR.out).1
      have HZ := Lib.hid (Below.step HZ.out hb)
      clear hb
      go_wp2_with fail
      refine wp_region_grows (by kernel_rfl) (by kernel_rfl) ?_
      refine grows_fact (w.heap.size + 1 + 1) 0 (.int .u8 x0) (row_cell' RR.out rfl).1 LR fun t0 => ?_
      refine grows_fact (w.heap.size + 1 + 1) 1 (.int .u8 x1) (row_cell' RR.out rfl).1 LR fun t1 => ?_
      refine grows_fact (w.heap.size + 1 + 1) 2 (.int .u8 x2) (row_cell' RR.out rfl).1 LR fun t2 => ?_
      refine grows_fact (w.heap.size + 1 + 1) 3 (.int .u8 x3) (row_cell' RR.out rfl).1 LR fun t3 => ?_
      refine grows_fact (w.heap.size + 1 + 1) 4 (.int .u8 x4) (row_cell' RR.out rfl).1 LR fun t4 => ?_
      refine grows_fact (w.heap.size + 1 + 1) 5 (.int .u8 x5) (row_cell' RR.out rfl).1 LR fun t5 => ?_
      refine grows_fact (w.heap.size + 1 + 1) 6 (.int .u8 x6) (row_cell' RR.out rfl).1 LR fun t6 => ?_
      refine grows_fact (w.heap.size + 1 + 1) 7 (.int .u8 x7) (row_cell' RR.out rfl).1 LR fun t7 => ?_
      refine grows_fact (w.heap.size + 1 + 1) 8 (.int .u8 x8) (row_cell' RR.out rfl).1 LR fun t8 => ?_
      refine grows_fact (w.heap.size + 1 + 1) 9 (.int .u8 x9) (row_cell' RR.out rfl).1 LR fun t9 => ?_
      refine grows_fact (w.heap.size + 1 + 1) 10 (.int .u8 x10) (row_cell' RR.out rfl).1 LR fun t10 => ?_
      refine grows_fact (w.heap.size + 1 + 1) 11 (.int .u8 x11) (row_cell' RR.out rfl).1 LR fun t11 => ?_
      refine grows_fact (w.heap.size + 1 + 1) 12 (.int .u8 x12) (row_cell' RR.out rfl).1 LR fun t12 => ?_
      repeat (go_big_quiet_step ((first | (go_at_call 24; with_reducible exact Calls.grows_of (KO.out _)) | (go_at_call 25; with_reducible exact Calls.grows_of (KOr.out _)) | (go_at_call 15; with_reducible exact Calls.grows_of (So.out _)))))
      refine wpQuiet_nil ?_
      rintro wB ⟨⟨w22, hb⟩, rfl⟩
      clear t0 t1 t2 t3 t4 t5 t6 t7 t8 t9 t10 t11 t12
      have RR := Lib.hid ((hb.block _ LR).trans RR.out)
      have LR := (Array.getElem?_eq_some_iff.1 RR.out).1
      have HZ := Lib.hid (Below.step HZ.out hb)
      clear hb
      go_wp2
      go_ret
      exact ⟨rfl, Below.step HB0.out HZ.out⟩
end Go.Proofs.YtbmleejeffaciaaDoor
