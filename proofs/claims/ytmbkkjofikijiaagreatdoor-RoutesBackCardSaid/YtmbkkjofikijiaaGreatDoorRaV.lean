/- Parse of package routes at awake's text; awake. Conditions: the table of package strconv and the words of package routes are what their texts say. -/
import Derived.Test.YtmbkkjofikijiaaGreatDoorRaQ
namespace Go.Proofs.YtmbkkjofikijiaaGreatDoor
open Go.RowKit
set_option maxRecDepth 100000 in
set_option maxHeartbeats 4000000 in
theorem parse_w (w : World) (ht : Tab10 w) (hs : Src9 w) : Calls Tryz.prog 12 #[.string ⟨#[49, 48, 46, 48, 46, 48, 46, 48, 47, 56, 32, 105, 110, 116, 114, 97, 32, 49, 49, 48, 32, 50, 48, 32, 48, 32, 118, 105, 97, 32, 49, 48, 46, 49, 46, 48, 46, 49, 32, 111, 110, 32, 101, 116, 104, 48]⟩] w fun e w' => e = .returned (.tuple #[.agg #[.int .u32 167772160, .int .i64 8, .int .u8 3, .int .i64 110, .int .i64 20, .int .i64 0, .string ⟨#[101, 116, 104, 48]⟩, .int .u32 167837697, .bool false], .int .i64 0]) ∧ Below w.heap.size w w' := by
  obtain ⟨w1, hw1⟩ : ∃ X, w.alloc (.cells #[.int .u32 0, .int .i64 0, .int .u8 0, .int .i64 0, .int .i64 0, .int .i64 0, .string ⟨#[]⟩, .int .u32 0, .bool false] 27) = X := ⟨_, rfl⟩
  have HB1 : Hid (Below w.heap.size w w1) := Lib.hid (by rw [← hw1]; exact (Below.refl _ _).alloc (Nat.le_refl _) _)
  have HX1 : Hid (w1.heap[w.heap.size]? = some (.cells #[.int .u32 0, .int .i64 0, .int .u8 0, .int .i64 0, .int .i64 0, .int .i64 0, .string ⟨#[]⟩, .int .u32 0, .bool false] 27 (0, 0))) := Lib.hid (by rw [← hw1]; exact heap_new' _ _)
  have HZ1 : Hid (w.heap.size < w1.heap.size) := Lib.hid (Array.getElem?_eq_some_iff.1 HX1.out).1
  have HR := Lib.hid (rread_w w1 (hs.on HB1.out))
  have HT := Lib.hid ht; have HS := Lib.hid hs
  clear ht hs
  go_enter Tryz.func12, Tryz.ntmps12
  go_wp2_with fail
  go_at_call 39
  refine HR.out.mono ?_
  rintro e w2 ⟨rfl, hb2⟩
  have HB2 := Lib.hid hb2
  obtain ⟨w3, hw3⟩ : ∃ X, w2.alloc (.cells #[.int .u32 167772160, .int .i64 8, .int .u8 3, .int .i64 110, .int .i64 20, .int .i64 0, .string ⟨#[101, 116, 104, 48]⟩, .int .u32 167837697, .bool false] 27) = X := ⟨_, rfl⟩
  have HB3 : Hid (Below w2.heap.size w2 w3) := Lib.hid (by rw [← hw3]; exact (Below.refl _ _).alloc (Nat.le_refl _) _)
  have HX3 : Hid (w3.heap[w2.heap.size]? = some (.cells #[.int .u32 167772160, .int .i64 8, .int .u8 3, .int .i64 110, .int .i64 20, .int .i64 0, .string ⟨#[101, 116, 104, 48]⟩, .int .u32 167837697, .bool false] 27 (0, 0))) := Lib.hid (by rw [← hw3]; exact heap_new' _ _)
  have HZ3 : Hid (w2.heap.size < w3.heap.size) := Lib.hid (Array.getElem?_eq_some_iff.1 HX3.out).1
  clear hb2
  obtain ⟨x0, x1, x2, x3, x4, x5, x6, x7, x8⟩ : w3.cell? ⟨w2.heap.size, 0, none⟩ = some (.int .u32 167772160) ∧ w3.cell? ⟨w2.heap.size, 1, none⟩ = some (.int .i64 8) ∧ w3.cell? ⟨w2.heap.size, 2, none⟩ = some (.int .u8 3) ∧ w3.cell? ⟨w2.heap.size, 3, none⟩ = some (.int .i64 110) ∧ w3.cell? ⟨w2.heap.size, 4, none⟩ = some (.int .i64 20) ∧ w3.cell? ⟨w2.heap.size, 5, none⟩ = some (.int .i64 0) ∧ w3.cell? ⟨w2.heap.size, 6, none⟩ = some (.string ⟨#[101, 116, 104, 48]⟩) ∧ w3.cell? ⟨w2.heap.size, 7, none⟩ = some (.int .u32 167837697) ∧ w3.cell? ⟨w2.heap.size, 8, none⟩ = some (.bool false) := by
    have e := HX3.out
    refine ⟨?_, ?_, ?_, ?_, ?_, ?_, ?_, ?_, ?_⟩ <;> (simp only [World.cell?, e]; rfl)
  have HW3 := Lib.hid hw3
  clear hw3 x0 x1 x2 x3 x4 x5 x6 x7 x8
  go_wp2_with fail
  rw [HW3.out]
  go_at_call 8
  refine (text_w w3 (HT.out.on (Below.step (Below.step HB1.out HB2.out) HB3.out)) (HS.out.on (Below.step (Below.step HB1.out HB2.out) HB3.out))).mono ?_
  rintro e w4 ⟨rfl, hb4⟩
  have HB4 := Lib.hid hb4
  have h4 : w4.heap[w2.heap.size]? = some (.cells #[.int .u32 167772160, .int .i64 8, .int .u8 3, .int .i64 110, .int .i64 20, .int .i64 0, .string ⟨#[101, 116, 104, 48]⟩, .int .u32 167837697, .bool false] 27 (0, 0)) := (hb4.block _ HZ3.out).trans HX3.out
  have g4 : w4.heap[w.heap.size]? = some (.cells #[.int .u32 0, .int .i64 0, .int .u8 0, .int .i64 0, .int .i64 0, .int .i64 0, .string ⟨#[]⟩, .int .u32 0, .bool false] 27 (0, 0)) := (hb4.block _ (Nat.lt_of_lt_of_le HZ1.out (Nat.le_trans HB2.out.size HB3.out.size))).trans ((HB3.out.block _ (Nat.lt_of_lt_of_le HZ1.out HB2.out.size)).trans ((HB2.out.block _ HZ1.out).trans HX1.out))
  clear hb4
  obtain ⟨x0, x1, x2, x3, x4, x5, x6, x7, x8⟩ : w4.cell? ⟨w2.heap.size, 0, none⟩ = some (.int .u32 167772160) ∧ w4.cell? ⟨w2.heap.size, 1, none⟩ = some (.int .i64 8) ∧ w4.cell? ⟨w2.heap.size, 2, none⟩ = some (.int .u8 3) ∧ w4.cell? ⟨w2.heap.size, 3, none⟩ = some (.int .i64 110) ∧ w4.cell? ⟨w2.heap.size, 4, none⟩ = some (.int .i64 20) ∧ w4.cell? ⟨w2.heap.size, 5, none⟩ = some (.int .i64 0) ∧ w4.cell? ⟨w2.heap.size, 6, none⟩ = some (.string ⟨#[101, 116, 104, 48]⟩) ∧ w4.cell? ⟨w2.heap.size, 7, none⟩ = some (.int .u32 167837697) ∧ w4.cell? ⟨w2.heap.size, 8, none⟩ = some (.bool false) := by
    refine ⟨?_, ?_, ?_, ?_, ?_, ?_, ?_, ?_, ?_⟩ <;> (simp only [World.cell?, h4]; rfl)
  obtain ⟨z0, z1, z2, z3, z4, z5, z6, z7, z8⟩ : w4.cell? ⟨w.heap.size, 0, none⟩ = some (.int .u32 0) ∧ w4.cell? ⟨w.heap.size, 1, none⟩ = some (.int .i64 0) ∧ w4.cell? ⟨w.heap.size, 2, none⟩ = some (.int .u8 0) ∧ w4.cell? ⟨w.heap.size, 3, none⟩ = some (.int .i64 0) ∧ w4.cell? ⟨w.heap.size, 4, none⟩ = some (.int .i64 0) ∧ w4.cell? ⟨w.heap.size, 5, none⟩ = some (.int .i64 0) ∧ w4.cell? ⟨w.heap.size, 6, none⟩ = some (.string ⟨#[]⟩) ∧ w4.cell? ⟨w.heap.size, 7, none⟩ = some (.int .u32 0) ∧ w4.cell? ⟨w.heap.size, 8, none⟩ = some (.bool false) := by
    refine ⟨?_, ?_, ?_, ?_, ?_, ?_, ?_, ?_, ?_⟩ <;> (simp only [World.cell?, g4]; rfl)
  have f0 : w4.frozen? ⟨w.heap.size, 0, none⟩ = false := by simp [World.frozen?, g4]
  have f1 : w4.frozen? ⟨w.heap.size, 1, none⟩ = false := by simp [World.frozen?, g4]
  have f2 : w4.frozen? ⟨w.heap.size, 2, none⟩ = false := by simp [World.frozen?, g4]
  have f3 : w4.frozen? ⟨w.heap.size, 3, none⟩ = false := by simp [World.frozen?, g4]
  have f4 : w4.frozen? ⟨w.heap.size, 4, none⟩ = false := by simp [World.frozen?, g4]
  have f5 : w4.frozen? ⟨w.heap.size, 5, none⟩ = false := by simp [World.frozen?, g4]
  have f6 : w4.frozen? ⟨w.heap.size, 6, none⟩ = false := by simp [World.frozen?, g4]
  have f7 : w4.frozen? ⟨w.heap.size, 7, none⟩ = false := by simp [World.frozen?, g4]
  have f8 : w4.frozen? ⟨w.heap.size, 8, none⟩ = false := by simp [World.frozen?, g4]
  clear h4 g4
  go_wp2
  refine bodyPost_ret (by simp [results, Tryz.results12, go_sem, z0, z1, z2, z3, z4, z5, z6, z7, z8]; try rfl) rfl ?_
  exact ⟨rfl, Below.setCell (p := ⟨w.heap.size, 8, none⟩) (Below.setCell (p := ⟨w.heap.size, 7, none⟩) (Below.setCell (p := ⟨w.heap.size, 6, none⟩) (Below.setCell (p := ⟨w.heap.size, 5, none⟩) (Below.setCell (p := ⟨w.heap.size, 4, none⟩) (Below.setCell (p := ⟨w.heap.size, 3, none⟩) (Below.setCell (p := ⟨w.heap.size, 2, none⟩) (Below.setCell (p := ⟨w.heap.size, 1, none⟩) (Below.setCell (p := ⟨w.heap.size, 0, none⟩) ((Below.trans HB1.out (Below.mono (Below.step (a := w1) (Below.step (a := w1) HB2.out HB3.out) HB4.out) HB1.out.size))) (Nat.le_refl _) _) (Nat.le_refl _) _) (Nat.le_refl _) _) (Nat.le_refl _) _) (Nat.le_refl _) _) (Nat.le_refl _) _) (Nat.le_refl _) _) (Nat.le_refl _) _) (Nat.le_refl _) _⟩
set_option maxRecDepth 100000 in
set_option maxHeartbeats 4000000 in
theorem awake_is (w : World) (ht : Tab10 w) (hs : Src9 w) : Calls Tryz.prog 6 #[] w fun e w' => e = .returned (.bool true) ∧ Below w.heap.size w w' := by
  obtain ⟨w1, hw1⟩ : ∃ X, w.alloc (.cells #[.int .u32 167772160, .int .i64 8, .int .u8 3, .int .i64 110, .int .i64 20, .int .i64 0, .string ⟨#[101, 116, 104, 48]⟩, .int .u32 167837697, .bool false] 27) = X := ⟨_, rfl⟩
  have HB1 : Hid (Below w.heap.size w w1) := Lib.hid (by rw [← hw1]; exact (Below.refl _ _).alloc (Nat.le_refl _) _)
  have HX1 : Hid (w1.heap[w.heap.size]? = some (.cells #[.int .u32 167772160, .int .i64 8, .int .u8 3, .int .i64 110, .int .i64 20, .int .i64 0, .string ⟨#[101, 116, 104, 48]⟩, .int .u32 167837697, .bool false] 27 (0, 0))) := Lib.hid (by rw [← hw1]; exact heap_new' _ _)
  have HZ1 : Hid (w.heap.size < w1.heap.size) := Lib.hid (Array.getElem?_eq_some_iff.1 HX1.out).1
  have HT := Lib.hid (ht.on HB1.out); have HS := Lib.hid (hs.on HB1.out)
  clear ht hs
  obtain ⟨x0, x1, x2, x3, x4, x5, x6, x7, x8⟩ : w1.cell? ⟨w.heap.size, 0, none⟩ = some (.int .u32 167772160) ∧ w1.cell? ⟨w.heap.size, 1, none⟩ = some (.int .i64 8) ∧ w1.cell? ⟨w.heap.size, 2, none⟩ = some (.int .u8 3) ∧ w1.cell? ⟨w.heap.size, 3, none⟩ = some (.int .i64 110) ∧ w1.cell? ⟨w.heap.size, 4, none⟩ = some (.int .i64 20) ∧ w1.cell? ⟨w.heap.size, 5, none⟩ = some (.int .i64 0) ∧ w1.cell? ⟨w.heap.size, 6, none⟩ = some (.string ⟨#[101, 116, 104, 48]⟩) ∧ w1.cell? ⟨w.heap.size, 7, none⟩ = some (.int .u32 167837697) ∧ w1.cell? ⟨w.heap.size, 8, none⟩ = some (.bool false) := by
    have e := HX1.out
    refine ⟨?_, ?_, ?_, ?_, ?_, ?_, ?_, ?_, ?_⟩ <;> (simp only [World.cell?, e]; rfl)
  go_enter Tryz.func6, Tryz.ntmps6
  have HW1 := Lib.hid hw1
  clear hw1 x0 x1 x2 x3 x4 x5 x6 x7 x8
  go_wp2_with fail
  rw [HW1.out]
  go_at_call 8
  refine (text_w w1 HT.out HS.out).mono ?_
  rintro e w2 ⟨rfl, hb2⟩
  have HB2 := Lib.hid hb2
  clear hb2
  go_wp2_with fail
  go_at_call 12
  refine (parse_w w2 (HT.out.on HB2.out) (HS.out.on HB2.out)).mono ?_
  rintro e w3 ⟨rfl, hb3⟩
  have HB3 := Lib.hid hb3
  have h3 : w3.heap[w.heap.size]? = some (.cells #[.int .u32 167772160, .int .i64 8, .int .u8 3, .int .i64 110, .int .i64 20, .int .i64 0, .string ⟨#[101, 116, 104, 48]⟩, .int .u32 167837697, .bool false] 27 (0, 0)) := (hb3.block _ (Nat.lt_of_lt_of_le HZ1.out HB2.out.size)).trans ((HB2.out.block _ HZ1.out).trans HX1.out)
  clear hb3
  obtain ⟨w4, hw4⟩ : ∃ X, w3.alloc (.cells #[.int .u32 167772160, .int .i64 8, .int .u8 3, .int .i64 110, .int .i64 20, .int .i64 0, .string ⟨#[101, 116, 104, 48]⟩, .int .u32 167837697, .bool false] 27) = X := ⟨_, rfl⟩
  have HB4 : Hid (Below w3.heap.size w3 w4) := Lib.hid (by rw [← hw4]; exact (Below.refl _ _).alloc (Nat.le_refl _) _)
  have h4 : w4.heap[w3.heap.size]? = some (.cells #[.int .u32 167772160, .int .i64 8, .int .u8 3, .int .i64 110, .int .i64 20, .int .i64 0, .string ⟨#[101, 116, 104, 48]⟩, .int .u32 167837697, .bool false] 27 (0, 0)) := by rw [← hw4]; exact heap_new' _ _
  have k4 : w4.heap[w.heap.size]? = some (.cells #[.int .u32 167772160, .int .i64 8, .int .u8 3, .int .i64 110, .int .i64 20, .int .i64 0, .string ⟨#[101, 116, 104, 48]⟩, .int .u32 167837697, .bool false] 27 (0, 0)) := (HB4.out.block _ (Array.getElem?_eq_some_iff.1 h3).1).trans h3
  obtain ⟨x0, x1, x2, x3, x4, x5, x6, x7, x8⟩ : w3.cell? ⟨w.heap.size, 0, none⟩ = some (.int .u32 167772160) ∧ w3.cell? ⟨w.heap.size, 1, none⟩ = some (.int .i64 8) ∧ w3.cell? ⟨w.heap.size, 2, none⟩ = some (.int .u8 3) ∧ w3.cell? ⟨w.heap.size, 3, none⟩ = some (.int .i64 110) ∧ w3.cell? ⟨w.heap.size, 4, none⟩ = some (.int .i64 20) ∧ w3.cell? ⟨w.heap.size, 5, none⟩ = some (.int .i64 0) ∧ w3.cell? ⟨w.heap.size, 6, none⟩ = some (.string ⟨#[101, 116, 104, 48]⟩) ∧ w3.cell? ⟨w.heap.size, 7, none⟩ = some (.int .u32 167837697) ∧ w3.cell? ⟨w.heap.size, 8, none⟩ = some (.bool false) := by
    refine ⟨?_, ?_, ?_, ?_, ?_, ?_, ?_, ?_, ?_⟩ <;> (simp only [World.cell?, h3]; rfl)
  have hne : w.heap.size < w3.heap.size := (Array.getElem?_eq_some_iff.1 h3).1
  have HW4 := Lib.hid hw4
  clear h3 h4 k4 hw4
  go_wp2
  rw [HW4.out]
  go_ret
  exact ⟨rfl, HB1.out.trans (Below.mono (Below.step (a := w1) (Below.step (a := w1) HB2.out HB3.out) HB4.out) HB1.out.size)⟩
end Go.Proofs.YtmbkkjofikijiaaGreatDoor
