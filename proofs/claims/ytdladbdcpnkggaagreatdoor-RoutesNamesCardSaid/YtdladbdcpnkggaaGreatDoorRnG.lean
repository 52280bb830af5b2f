/- The law RoutesNames: it answers true; what was there stands. Conditions: the table of package strconv and the words of package routes are what their texts say. -/
import Derived.Test.YtdladbdcpnkggaaGreatDoorRnF
namespace Go.Proofs.YtdladbdcpnkggaaGreatDoor
open Go.RowKit
set_option maxRecDepth 100000 in
set_option maxHeartbeats 8000000 in
theorem routesNames_is (w : World) (ht : Tab10 w) (hs : Src w) : Calls Tryz.prog 3 #[] w fun e w' => e = .returned (.bool true) ∧ Below w.heap.size w w' := by
  go_enter Tryz.func3, Tryz.ntmps3
  go_wp2_with fail
  go_at_call 4
  obtain ⟨W1, hW1⟩ : ∃ X, w.alloc (.cells #[.int .u32 0, .int .i64 0, .int .u8 8, .int .i64 2147483647, .int .i64 2147483647, .int .i64 2147483647, .string ⟨#[97]⟩, .int .u32 0, .bool false] 27) = X := ⟨_, rfl⟩
  have HB1 : Hid (Below w.heap.size w W1) := Lib.hid (by rw [← hW1]; exact (Below.refl _ _).alloc (Nat.le_refl _) _)
  have HX1 : Hid (W1.heap[w.heap.size]? = some (.cells #[.int .u32 0, .int .i64 0, .int .u8 8, .int .i64 2147483647, .int .i64 2147483647, .int .i64 2147483647, .string ⟨#[97]⟩, .int .u32 0, .bool false] 27 (0, 0))) := Lib.hid (by rw [← hW1]; exact heap_new' _ _)
  have HZ1 : Hid (w.heap.size < W1.heap.size) := Lib.hid (Array.getElem?_eq_some_iff.1 HX1.out).1
  rw [hW1]
  have HT0 := Lib.hid ht
  have HS0 := Lib.hid hs
  have HT := Lib.hid (ht.on HB1.out)
  have HS := Lib.hid (hs.on HB1.out)
  clear ht hs hW1
  refine (text_a W1 HT.out HS.out).mono ?_
  rintro e w2 ⟨rfl, hb2⟩
  have HB2 := Lib.hid hb2
  have HX2 : Hid (w2.heap[w.heap.size]? = some (.cells #[.int .u32 0, .int .i64 0, .int .u8 8, .int .i64 2147483647, .int .i64 2147483647, .int .i64 2147483647, .string ⟨#[97]⟩, .int .u32 0, .bool false] 27 (0, 0))) := Lib.hid ((HB2.out.block _ HZ1.out).trans HX1.out)
  clear hb2
  have x5 : w2.cell? ⟨w.heap.size, 5, none⟩ = some (.int .i64 2147483647) := by simp only [World.cell?, HX2.out]; rfl
  have f5 : w2.frozen? ⟨w.heap.size, 5, none⟩ = false := by simp [World.frozen?, HX2.out]
  obtain ⟨W3, hW3⟩ : ∃ W3, w2.setCell ⟨w.heap.size, 5, none⟩ (.int .i64 2147483648) = W3 := ⟨_, rfl⟩
  have HB12 : Hid (Below w.heap.size w w2) := Lib.hid (Below.step HB1.out HB2.out)
  have HB3 : Hid (Below w.heap.size w W3) := Lib.hid (by rw [← hW3]; exact HB12.out.setCell (p := ⟨w.heap.size, 5, none⟩) (Nat.le_refl _) _)
  have HX3 : Hid (W3.heap[w.heap.size]? = some (.cells #[.int .u32 0, .int .i64 0, .int .u8 8, .int .i64 2147483647, .int .i64 2147483647, .int .i64 2147483648, .string ⟨#[97]⟩, .int .u32 0, .bool false] 27 (0, 0))) := Lib.hid (by
    rw [← hW3]
    simp [World.setCell, Array.getElem?_modify, HX2.out])
  have y0 : W3.cell? ⟨w.heap.size, 0, none⟩ = some (.int .u32 0) := by simp only [World.cell?, HX3.out]; rfl
  have y1 : W3.cell? ⟨w.heap.size, 1, none⟩ = some (.int .i64 0) := by simp only [World.cell?, HX3.out]; rfl
  have y2 : W3.cell? ⟨w.heap.size, 2, none⟩ = some (.int .u8 8) := by simp only [World.cell?, HX3.out]; rfl
  have y3 : W3.cell? ⟨w.heap.size, 3, none⟩ = some (.int .i64 2147483647) := by simp only [World.cell?, HX3.out]; rfl
  have y4 : W3.cell? ⟨w.heap.size, 4, none⟩ = some (.int .i64 2147483647) := by simp only [World.cell?, HX3.out]; rfl
  have y5 : W3.cell? ⟨w.heap.size, 5, none⟩ = some (.int .i64 2147483648) := by simp only [World.cell?, HX3.out]; rfl
  have y6 : W3.cell? ⟨w.heap.size, 6, none⟩ = some (.string ⟨#[97]⟩) := by simp only [World.cell?, HX3.out]; rfl
  have y7 : W3.cell? ⟨w.heap.size, 7, none⟩ = some (.int .u32 0) := by simp only [World.cell?, HX3.out]; rfl
  have y8 : W3.cell? ⟨w.heap.size, 8, none⟩ = some (.bool false) := by simp only [World.cell?, HX3.out]; rfl
  have HT := Lib.hid ((HT0.out).on HB3.out)
  have HS := Lib.hid ((HS0.out).on HB3.out)
  have hz3 : w.heap.size ≤ W3.heap.size := HB3.out.size
  go_wp2_with fail
  go_at_call 4
  clear hW3 x5 f5 y0 y1 y2 y3 y4 y5 y6 y7 y8
  refine (text_b W3).mono ?_
  rintro e w4 ⟨rfl, hb4⟩
  have HB4 := Lib.hid (Below.step HB3.out hb4)
  clear hb4
  (try simp only)
  go_wp2_with fail
  go_at_call 4
  refine (text_c w4).mono ?_
  rintro e w5 ⟨rfl, hb5⟩
  have HB5 := Lib.hid (Below.step HB4.out hb5)
  clear hb5
  (try simp only)
  go_wp2_with fail
  go_at_call 4
  refine (text_d w5).mono ?_
  rintro e w6 ⟨rfl, hb6⟩
  have HB6 := Lib.hid (Below.step HB5.out hb6)
  clear hb6
  (try simp only)
  go_wp2_with fail
  go_at_call 5
  refine (adv_a w6.heap.size (w6.alloc (.cells #[.int .u32 4294967295] 22)) (by simp only [World.cell?, heap_new']; rfl) (by simp) (HT0.out.on (HB6.out.alloc HB6.out.size _))).mono ?_
  rintro e w7 ⟨rfl, hb7⟩
  have HB7 := Lib.hid (Below.step (HB6.out.alloc HB6.out.size _) hb7)
  clear hb7
  (try simp only)
  go_wp2_with fail
  go_at_call 5
  refine (adv_b w7).mono ?_
  rintro e w8 ⟨rfl, hb8⟩
  have HB8 := Lib.hid (Below.step HB7.out hb8)
  clear hb8
  (try simp only)
  go_wp2_with fail
  go_at_call 6
  refine (sort_nil w8).mono ?_
  rintro e w9 ⟨rfl, hb9⟩
  have HB9 := Lib.hid (Below.step HB8.out hb9)
  clear hb9
  (try simp only)
  go_wp2_with fail
  go_at_call 7
  refine (same_nil w9).mono ?_
  rintro e w10 ⟨rfl, rfl⟩
  (try simp only)
  go_wp2
  go_ret
  exact ⟨rfl, HB9.out⟩
end Go.Proofs.YtdladbdcpnkggaaGreatDoor
