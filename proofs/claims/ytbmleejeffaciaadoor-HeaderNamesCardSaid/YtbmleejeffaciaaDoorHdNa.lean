/- The law HeaderNames: it answers true; what was there stands. The variables ErrSyntax and ErrRange of package strconv are asked to hold errors, the table of powers of ten to be what its text says. -/
import Derived.Test.YtbmleejeffaciaaDoorHdNf
import Derived.Test.YtbmleejeffaciaaDoorHdWk
import Derived.Test.YtbmleejeffaciaaDoorHdS
namespace Go.Proofs.YtbmleejeffaciaaDoor
open Go.RowKit
set_option maxRecDepth 100000 in
set_option maxHeartbeats 16000000 in
theorem names_is (w : World) (hE : ErrV w) (hT : Tab10 w) : Calls Tryd.prog 3 #[] w fun e w' => e = .returned (.bool true) ∧ Below w.heap.size w w' := by
  have HW := Lib.hid (works_is w hE hT)
  have HEV := Lib.hid hE; have HTV := Lib.hid hT
  have KW : ∀ (i : Nat) (hi : i < 104) (W : World), Calls Tryd.prog 8 #[.agg #[.int .u32 0, .int .u32 0, .int .u8 0, .int .u16 0, .int .u16 0], .int .i64 (i : Int), .bool true] W fun e w' => e = .returned (.tuple #[ofL (wb (byL 0 0 0 0 0) i true), .int .i64 0]) ∧ Below W.heap.size W w' := fun i hi W => with_is 0 0 0 0 0 i true hi W hdr0
  have KW0 : Hid (∀ W, Calls Tryd.prog 8 #[.agg #[.int .u32 0, .int .u32 0, .int .u8 0, .int .u16 0, .int .u16 0], .int .i64 0, .bool true] W fun e w' => e = .returned (.tuple #[.agg #[.int .u32 2147483648, .int .u32 0, .int .u8 0, .int .u16 0, .int .u16 0], .int .i64 0]) ∧ Below W.heap.size W w') := Lib.hid fun W => by have := KW 0 (by decide) W; rw [w_0] at this; exact this
  have KW32 : Hid (∀ W, Calls Tryd.prog 8 #[.agg #[.int .u32 0, .int .u32 0, .int .u8 0, .int .u16 0, .int .u16 0], .int .i64 32, .bool true] W fun e w' => e = .returned (.tuple #[.agg #[.int .u32 0, .int .u32 2147483648, .int .u8 0, .int .u16 0, .int .u16 0], .int .i64 0]) ∧ Below W.heap.size W w') := Lib.hid fun W => by have := KW 32 (by decide) W; rw [w_32] at this; exact this
  have KW64 : Hid (∀ W, Calls Tryd.prog 8 #[.agg #[.int .u32 0, .int .u32 0, .int .u8 0, .int .u16 0, .int .u16 0], .int .i64 64, .bool true] W fun e w' => e = .returned (.tuple #[.agg #[.int .u32 0, .int .u32 0, .int .u8 128, .int .u16 0, .int .u16 0], .int .i64 0]) ∧ Below W.heap.size W w') := Lib.hid fun W => by have := KW 64 (by decide) W; rw [w_64] at this; exact this
  have KW72 : Hid (∀ W, Calls Tryd.prog 8 #[.agg #[.int .u32 0, .int .u32 0, .int .u8 0, .int .u16 0, .int .u16 0], .int .i64 72, .bool true] W fun e w' => e = .returned (.tuple #[.agg #[.int .u32 0, .int .u32 0, .int .u8 0, .int .u16 32768, .int .u16 0], .int .i64 0]) ∧ Below W.heap.size W w') := Lib.hid fun W => by have := KW 72 (by decide) W; rw [w_72] at this; exact this
  have KW88 : Hid (∀ W, Calls Tryd.prog 8 #[.agg #[.int .u32 0, .int .u32 0, .int .u8 0, .int .u16 0, .int .u16 0], .int .i64 88, .bool true] W fun e w' => e = .returned (.tuple #[.agg #[.int .u32 0, .int .u32 0, .int .u8 0, .int .u16 0, .int .u16 32768], .int .i64 0]) ∧ Below W.heap.size W w') := Lib.hid fun W => by have := KW 88 (by decide) W; rw [w_88] at this; exact this
  have KW103 : Hid (∀ W, Calls Tryd.prog 8 #[.agg #[.int .u32 0, .int .u32 0, .int .u8 0, .int .u16 0, .int .u16 0], .int .i64 103, .bool true] W fun e w' => e = .returned (.tuple #[.agg #[.int .u32 0, .int .u32 0, .int .u8 0, .int .u16 0, .int .u16 1], .int .i64 0]) ∧ Below W.heap.size W w') := Lib.hid fun W => by have := KW 103 (by decide) W; rw [w_103] at this; exact this
  have KP0 : Hid (∀ W, Below w.heap.size w W → Calls Tryd.prog 10 #[.string ⟨#[49, 48, 46, 48, 46, 48, 46, 49, 58, 48, 49, 48, 50, 52, 32, 49, 48, 46, 48, 46, 48, 46, 50, 58, 56, 48, 32, 54]⟩] W fun e w' => e = .returned (.tuple #[.agg #[.int .u32 0, .int .u32 0, .int .u8 0, .int .u16 0, .int .u16 0], .int .i64 4]) ∧ Below W.heap.size W w') := Lib.hid fun W hb => by have := hparse_is t0 (by decide) W (hE.on hb) (hT.on hb); rw [t0_no] at this; exact this
  have KP1 : Hid (∀ W, Below w.heap.size w W → Calls Tryd.prog 10 #[.string ⟨#[49, 48, 46, 48, 46, 48, 46, 49, 58, 49, 48, 50, 52, 32, 49, 48, 46, 48, 46, 48, 46, 50, 58, 56, 48, 32, 48, 54]⟩] W fun e w' => e = .returned (.tuple #[.agg #[.int .u32 0, .int .u32 0, .int .u8 0, .int .u16 0, .int .u16 0], .int .i64 4]) ∧ Below W.heap.size W w') := Lib.hid fun W hb => by have := hparse_is t1 (by decide) W (hE.on hb) (hT.on hb); rw [t1_no] at this; exact this
  have KP2 : Hid (∀ W, Below w.heap.size w W → Calls Tryd.prog 10 #[.string ⟨#[49, 48, 46, 48, 46, 48, 46, 49, 58, 49, 48, 50, 52, 32, 32, 49, 48, 46, 48, 46, 48, 46, 50, 58, 56, 48, 32, 54]⟩] W fun e w' => e = .returned (.tuple #[.agg #[.int .u32 0, .int .u32 0, .int .u8 0, .int .u16 0, .int .u16 0], .int .i64 4]) ∧ Below W.heap.size W w') := Lib.hid fun W hb => by have := hparse_is t2 (by decide) W (hE.on hb) (hT.on hb); rw [t2_no] at this; exact this
  have KP3 : Hid (∀ W, Below w.heap.size w W → Calls Tryd.prog 10 #[.string ⟨#[49, 48, 46, 48, 46, 48, 46, 49, 58, 43, 49, 32, 49, 48, 46, 48, 46, 48, 46, 50, 58, 56, 48, 32, 54]⟩] W fun e w' => e = .returned (.tuple #[.agg #[.int .u32 0, .int .u32 0, .int .u8 0, .int .u16 0, .int .u16 0], .int .i64 4]) ∧ Below W.heap.size W w') := Lib.hid fun W hb => by have := hparse_is t3 (by decide) W (hE.on hb) (hT.on hb); rw [t3_no] at this; exact this
  clear KW hE hT
  go_enter Tryd.func3, Tryd.ntmps3
  go_wp2_with fail
  go_at_call 7
  refine HW.out.mono ?_
  rintro e w1 ⟨rfl, hb1⟩
  obtain ⟨W1, hW1⟩ : ∃ W1, w1.alloc (.cells #[.int .i64 0, .int .u32 2147483648, .int .u32 0, .int .u8 0, .int .u16 0, .int .u16 0, .int .i64 32, .int .u32 0, .int .u32 2147483648, .int .u8 0, .int .u16 0, .int .u16 0, .int .i64 64, .int .u32 0, .int .u32 0, .int .u8 128, .int .u16 0, .int .u16 0, .int .i64 72, .int .u32 0, .int .u32 0, .int .u8 0, .int .u16 32768, .int .u16 0, .int .i64 88, .int .u32 0, .int .u32 0, .int .u8 0, .int .u16 0, .int .u16 32768, .int .i64 103, .int .u32 0, .int .u32 0, .int .u8 0, .int .u16 0, .int .u16 1] 28) = W1 := ⟨_, rfl⟩
  have hrow : W1.heap[w1.heap.size]? = some (.cells #[.int .i64 0, .int .u32 2147483648, .int .u32 0, .int .u8 0, .int .u16 0, .int .u16 0, .int .i64 32, .int .u32 0, .int .u32 2147483648, .int .u8 0, .int .u16 0, .int .u16 0, .int .i64 64, .int .u32 0, .int .u32 0, .int .u8 128, .int .u16 0, .int .u16 0, .int .i64 72, .int .u32 0, .int .u32 0, .int .u8 0, .int .u16 32768, .int .u16 0, .int .i64 88, .int .u32 0, .int .u32 0, .int .u8 0, .int .u16 0, .int .u16 32768, .int .i64 103, .int .u32 0, .int .u32 0, .int .u8 0, .int .u16 0, .int .u16 1] 28 (0, 0)) := by rw [← hW1]; exact heap_alloc_new w1 _
  have hbW : Below w.heap.size w W1 := by rw [← hW1]; exact hb1.alloc hb1.size _
  have hzW : w1.heap.size < W1.heap.size := (Array.getElem?_eq_some_iff.1 hrow).1
  have HB0 := Lib.hid hbW; have HROW := Lib.hid hrow
  clear hbW hrow hb1
  go_wp2_with fail
  try rw [hW1]
  clear hW1
  go_loopw [56] (fun s56 wr => ∃ k : Nat, k ≤ 6 ∧ s56 = .int .i64 k ∧ Below W1.heap.size W1 wr) (fun s56 _ => 6 - (intOf s56).toNat)
  case atStart => exact ⟨0, by omega, rfl, Below.refl _ _⟩
  case round =>
    obtain ⟨k, hk, rfl, hbw⟩ := hrel
    have hzr : w1.heap.size < wr.heap.size := Nat.lt_of_lt_of_le hzW hbw.size
    have h7 : k = 0 ∨ k = 1 ∨ k = 2 ∨ k = 3 ∨ k = 4 ∨ k = 5 ∨ k = 6 := by omega
    have hrow := (hbw.block _ hzW).trans HROW.out
    rcases h7 with rfl | rfl | rfl | rfl | rfl | rfl | rfl
    · obtain ⟨k0, _⟩ := row_cell' (j := 0) hrow rfl
      obtain ⟨k1, _⟩ := row_cell' (j := 1) hrow rfl
      obtain ⟨k2, _⟩ := row_cell' (j := 2) hrow rfl
      obtain ⟨k3, _⟩ := row_cell' (j := 3) hrow rfl
      obtain ⟨k4, _⟩ := row_cell' (j := 4) hrow rfl
      obtain ⟨k5, _⟩ := row_cell' (j := 5) hrow rfl
      clear hrow
      go_wp2_with fail
      go_at_call 8
      (with_reducible refine (KW0.out _).mono ?_)
      rintro e w2 ⟨rfl, hb2⟩
      have hB := (hb2.block _ (by simp)).trans (heap_alloc_new wr (.cells #[.int .i64 0, .int .u32 2147483648, .int .u32 0, .int .u8 0, .int .u16 0, .int .u16 0] 28))
      have hzB : wr.heap.size < w2.heap.size := (Array.getElem?_eq_some_iff.1 hB).1
      have hB' : (w2.alloc (.cells #[.int .u32 2147483648, .int .u32 0, .int .u8 0, .int .u16 0, .int .u16 0] 27)).heap[wr.heap.size]? = some (.cells #[.int .i64 0, .int .u32 2147483648, .int .u32 0, .int .u8 0, .int .u16 0, .int .u16 0] 28 (0, 0)) := (heap_alloc_old _ _ hzB).trans hB
      obtain ⟨b0, _⟩ := row_cell' (j := 0) hB' rfl
      obtain ⟨b1, _⟩ := row_cell' (j := 1) hB' rfl
      obtain ⟨b2, _⟩ := row_cell' (j := 2) hB' rfl
      obtain ⟨b3, _⟩ := row_cell' (j := 3) hB' rfl
      obtain ⟨b4, _⟩ := row_cell' (j := 4) hB' rfl
      obtain ⟨b5, _⟩ := row_cell' (j := 5) hB' rfl
      clear hB hB' k0 k1 k2 k3 k4 k5
      go_wp2_with fail
      go_at_call 9
      refine (same_is _ _ _ _ _ _ _ _ _ _ _).mono ?_
      rintro e w3 ⟨rfl, hb3⟩
      go_wp2
      go_roundw
      case rel => exact ⟨1, by omega, rfl, Below.step hbw (Below.step ((Below.step ((Below.refl _ _).alloc (Nat.le_refl _) _) hb2).alloc (Nat.le_of_lt hzB) _) hb3)⟩
      case measure => simp [intOf]
    · obtain ⟨k0, _⟩ := row_cell' (j := 6) hrow rfl
      obtain ⟨k1, _⟩ := row_cell' (j := 7) hrow rfl
      obtain ⟨k2, _⟩ := row_cell' (j := 8) hrow rfl
      obtain ⟨k3, _⟩ := row_cell' (j := 9) hrow rfl
      obtain ⟨k4, _⟩ := row_cell' (j := 10) hrow rfl
      obtain ⟨k5, _⟩ := row_cell' (j := 11) hrow rfl
      clear hrow
      go_wp2_with fail
      go_at_call 8
      (with_reducible refine (KW32.out _).mono ?_)
      rintro e w2 ⟨rfl, hb2⟩
      have hB := (hb2.block _ (by simp)).trans (heap_alloc_new wr (.cells #[.int .i64 32, .int .u32 0, .int .u32 2147483648, .int .u8 0, .int .u16 0, .int .u16 0] 28))
      have hzB : wr.heap.size < w2.heap.size := (Array.getElem?_eq_some_iff.1 hB).1
      have hB' : (w2.alloc (.cells #[.int .u32 0, .int .u32 2147483648, .int .u8 0, .int .u16 0, .int .u16 0] 27)).heap[wr.heap.size]? = some (.cells #[.int .i64 32, .int .u32 0, .int .u32 2147483648, .int .u8 0, .int .u16 0, .int .u16 0] 28 (0, 0)) := (heap_alloc_old _ _ hzB).trans hB
      obtain ⟨b0, _⟩ := row_cell' (j := 0) hB' rfl
      obtain ⟨b1, _⟩ := row_cell' (j := 1) hB' rfl
      obtain ⟨b2, _⟩ := row_cell' (j := 2) hB' rfl
      obtain ⟨b3, _⟩ := row_cell' (j := 3) hB' rfl
      obtain ⟨b4, _⟩ := row_cell' (j := 4) hB' rfl
      obtain ⟨b5, _⟩ := row_cell' (j := 5) hB' rfl
      clear hB hB' k0 k1 k2 k3 k4 k5
      go_wp2_with fail
      go_at_call 9
      refine (same_is _ _ _ _ _ _ _ _ _ _ _).mono ?_
      rintro e w3 ⟨rfl, hb3⟩
      go_wp2
      go_roundw
      case rel => exact ⟨2, by omega, rfl, Below.step hbw (Below.step ((Below.step ((Below.refl _ _).alloc (Nat.le_refl _) _) hb2).alloc (Nat.le_of_lt hzB) _) hb3)⟩
      case measure => simp [intOf]
    · obtain ⟨k0, _⟩ := row_cell' (j := 12) hrow rfl
      obtain ⟨k1, _⟩ := row_cell' (j := 13) hrow rfl
      obtain ⟨k2, _⟩ := row_cell' (j := 14) hrow rfl
      obtain ⟨k3, _⟩ := row_cell' (j := 15) hrow rfl
      obtain ⟨k4, _⟩ := row_cell' (j := 16) hrow rfl
      obtain ⟨k5, _⟩ := row_cell' (j := 17) hrow rfl
      clear hrow
      go_wp2_with fail
      go_at_call 8
      (with_reducible refine (KW64.out _).mono ?_)
      rintro e w2 ⟨rfl, hb2⟩
      have hB := (hb2.block _ (by simp)).trans (heap_alloc_new wr (.cells #[.int .i64 64, .int .u32 0, .int .u32 0, .int .u8 128, .int .u16 0, .int .u16 0] 28))
      have hzB : wr.heap.size < w2.heap.size := (Array.getElem?_eq_some_iff.1 hB).1
      have hB' : (w2.alloc (.cells #[.int .u32 0, .int .u32 0, .int .u8 128, .int .u16 0, .int .u16 0] 27)).heap[wr.heap.size]? = some (.cells #[.int .i64 64, .int .u32 0, .int .u32 0, .int .u8 128, .int .u16 0, .int .u16 0] 28 (0, 0)) := (heap_alloc_old _ _ hzB).trans hB
      obtain ⟨b0, _⟩ := row_cell' (j := 0) hB' rfl
      obtain ⟨b1, _⟩ := row_cell' (j := 1) hB' rfl
      obtain ⟨b2, _⟩ := row_cell' (j := 2) hB' rfl
      obtain ⟨b3, _⟩ := row_cell' (j := 3) hB' rfl
      obtain ⟨b4, _⟩ := row_cell' (j := 4) hB' rfl
      obtain ⟨b5, _⟩ := row_cell' (j := 5) hB' rfl
      clear hB hB' k0 k1 k2 k3 k4 k5
      go_wp2_with fail
      go_at_call 9
      refine (same_is _ _ _ _ _ _ _ _ _ _ _).mono ?_
      rintro e w3 ⟨rfl, hb3⟩
      go_wp2
      go_roundw
      case rel => exact ⟨3, by omega, rfl, Below.step hbw (Below.step ((Below.step ((Below.refl _ _).alloc (Nat.le_refl _) _) hb2).alloc (Nat.le_of_lt hzB) _) hb3)⟩
      case measure => simp [intOf]
    · obtain ⟨k0, _⟩ := row_cell' (j := 18) hrow rfl
      obtain ⟨k1, _⟩ := row_cell' (j := 19) hrow rfl
      obtain ⟨k2, _⟩ := row_cell' (j := 20) hrow rfl
      obtain ⟨k3, _⟩ := row_cell' (j := 21) hrow rfl
      obtain ⟨k4, _⟩ := row_cell' (j := 22) hrow rfl
      obtain ⟨k5, _⟩ := row_cell' (j := 23) hrow rfl
      clear hrow
      go_wp2_with fail
      go_at_call 8
      (with_reducible refine (KW72.out _).mono ?_)
      rintro e w2 ⟨rfl, hb2⟩
      have hB := (hb2.block _ (by simp)).trans (heap_alloc_new wr (.cells #[.int .i64 72, .int .u32 0, .int .u32 0, .int .u8 0, .int .u16 32768, .int .u16 0] 28))
      have hzB : wr.heap.size < w2.heap.size := (Array.getElem?_eq_some_iff.1 hB).1
      have hB' : (w2.alloc (.cells #[.int .u32 0, .int .u32 0, .int .u8 0, .int .u16 32768, .int .u16 0] 27)).heap[wr.heap.size]? = some (.cells #[.int .i64 72, .int .u32 0, .int .u32 0, .int .u8 0, .int .u16 32768, .int .u16 0] 28 (0, 0)) := (heap_alloc_old _ _ hzB).trans hB
      obtain ⟨b0, _⟩ := row_cell' (j := 0) hB' rfl
      obtain ⟨b1, _⟩ := row_cell' (j := 1) hB' rfl
      obtain ⟨b2, _⟩ := row_cell' (j := 2) hB' rfl
      obtain ⟨b3, _⟩ := row_cell' (j := 3) hB' rfl
      obtain ⟨b4, _⟩ := row_cell' (j := 4) hB' rfl
      obtain ⟨b5, _⟩ := row_cell' (j := 5) hB' rfl
      clear hB hB' k0 k1 k2 k3 k4 k5
      go_wp2_with fail
      go_at_call 9
      refine (same_is _ _ _ _ _ _ _ _ _ _ _).mono ?_
      rintro e w3 ⟨rfl, hb3⟩
      go_wp2
      go_roundw
      case rel => exact ⟨4, by omega, rfl, Below.step hbw (Below.step ((Below.step ((Below.refl _ _).alloc (Nat.le_refl _) _) hb2).alloc (Nat.le_of_lt hzB) _) hb3)⟩
      case measure => simp [intOf]
    · obtain ⟨k0, _⟩ := row_cell' (j := 24) hrow rfl
      obtain ⟨k1, _⟩ := row_cell' (j := 25) hrow rfl
      obtain ⟨k2, _⟩ := row_cell' (j := 26) hrow rfl
      obtain ⟨k3, _⟩ := row_cell' (j := 27) hrow rfl
      obtain ⟨k4, _⟩ := row_cell' (j := 28) hrow rfl
      obtain ⟨k5, _⟩ := row_cell' (j := 29) hrow rfl
      clear hrow
      go_wp2_with fail
      go_at_call 8
      (with_reducible refine (KW88.out _).mono ?_)
      rintro e w2 ⟨rfl, hb2⟩
      have hB := (hb2.block _ (by simp)).trans (heap_alloc_new wr (.cells #[.int .i64 88, .int .u32 0, .int .u32 0, .int .u8 0, .int .u16 0, .int .u16 32768] 28))
      have hzB : wr.heap.size < w2.heap.size := (Array.getElem?_eq_some_iff.1 hB).1
      have hB' : (w2.alloc (.cells #[.int .u32 0, .int .u32 0, .int .u8 0, .int .u16 0, .int .u16 32768] 27)).heap[wr.heap.size]? = some (.cells #[.int .i64 88, .int .u32 0, .int .u32 0, .int .u8 0, .int .u16 0, .int .u16 32768] 28 (0, 0)) := (heap_alloc_old _ _ hzB).trans hB
      obtain ⟨b0, _⟩ := row_cell' (j := 0) hB' rfl
      obtain ⟨b1, _⟩ := row_cell' (j := 1) hB' rfl
      obtain ⟨b2, _⟩ := row_cell' (j := 2) hB' rfl
      obtain ⟨b3, _⟩ := row_cell' (j := 3) hB' rfl
      obtain ⟨b4, _⟩ := row_cell' (j := 4) hB' rfl
      obtain ⟨b5, _⟩ := row_cell' (j := 5) hB' rfl
      clear hB hB' k0 k1 k2 k3 k4 k5
      go_wp2_with fail
      go_at_call 9
      refine (same_is _ _ _ _ _ _ _ _ _ _ _).mono ?_
      rintro e w3 ⟨rfl, hb3⟩
      go_wp2
      go_roundw
      case rel => exact ⟨5, by omega, rfl, Below.step hbw (Below.step ((Below.step ((Below.refl _ _).alloc (Nat.le_refl _) _) hb2).alloc (Nat.le_of_lt hzB) _) hb3)⟩
      case measure => simp [intOf]
    · obtain ⟨k0, _⟩ := row_cell' (j := 30) hrow rfl
      obtain ⟨k1, _⟩ := row_cell' (j := 31) hrow rfl
      obtain ⟨k2, _⟩ := row_cell' (j := 32) hrow rfl
      obtain ⟨k3, _⟩ := row_cell' (j := 33) hrow rfl
      obtain ⟨k4, _⟩ := row_cell' (j := 34) hrow rfl
      obtain ⟨k5, _⟩ := row_cell' (j := 35) hrow rfl
      clear hrow
      go_wp2_with fail
      go_at_call 8
      (with_reducible refine (KW103.out _).mono ?_)
      rintro e w2 ⟨rfl, hb2⟩
      have hB := (hb2.block _ (by simp)).trans (heap_alloc_new wr (.cells #[.int .i64 103, .int .u32 0, .int .u32 0, .int .u8 0, .int .u16 0, .int .u16 1] 28))
      have hzB : wr.heap.size < w2.heap.size := (Array.getElem?_eq_some_iff.1 hB).1
      have hB' : (w2.alloc (.cells #[.int .u32 0, .int .u32 0, .int .u8 0, .int .u16 0, .int .u16 1] 27)).heap[wr.heap.size]? = some (.cells #[.int .i64 103, .int .u32 0, .int .u32 0, .int .u8 0, .int .u16 0, .int .u16 1] 28 (0, 0)) := (heap_alloc_old _ _ hzB).trans hB
      obtain ⟨b0, _⟩ := row_cell' (j := 0) hB' rfl
      obtain ⟨b1, _⟩ := row_cell' (j := 1) hB' rfl
      obtain ⟨b2, _⟩ := row_cell' (j := 2) hB' rfl
      obtain ⟨b3, _⟩ := row_cell' (j := 3) hB' rfl
      obtain ⟨b4, _⟩ := row_cell' (j := 4) hB' rfl
      obtain ⟨b5, _⟩ := row_cell' (j := 5) hB' rfl
      clear hB hB' k0 k1 k2 k3 k4 k5
      go_wp2_with fail
      go_at_call 9
      refine (same_is _ _ _ _ _ _ _ _ _ _ _).mono ?_
      rintro e w3 ⟨rfl, hb3⟩
      go_wp2
      go_roundw
      case rel => exact ⟨6, by omega, rfl, Below.step hbw (Below.step ((Below.step ((Below.refl _ _).alloc (Nat.le_refl _) _) hb2).alloc (Nat.le_of_lt hzB) _) hb3)⟩
      case measure => simp [intOf]
    · obtain ⟨wr_2, rfl⟩ : ∃ wo : World, wo = wr := ⟨_, rfl⟩
      clear hrow
      have hbV := Below.step HB0.out hbw
      have HBV := Lib.hid hbV
      obtain ⟨W2, hW2⟩ : ∃ W2, wr_2.alloc (.cells #[.string ⟨#[49, 48, 46, 48, 46, 48, 46, 49, 58, 48, 49, 48, 50, 52, 32, 49, 48, 46, 48, 46, 48, 46, 50, 58, 56, 48, 32, 54]⟩, .string ⟨#[49, 48, 46, 48, 46, 48, 46, 49, 58, 49, 48, 50, 52, 32, 49, 48, 46, 48, 46, 48, 46, 50, 58, 56, 48, 32, 48, 54]⟩, .string ⟨#[49, 48, 46, 48, 46, 48, 46, 49, 58, 49, 48, 50, 52, 32, 32, 49, 48, 46, 48, 46, 48, 46, 50, 58, 56, 48, 32, 54]⟩, .string ⟨#[49, 48, 46, 48, 46, 48, 46, 49, 58, 43, 49, 32, 49, 48, 46, 48, 46, 48, 46, 50, 58, 56, 48, 32, 54]⟩] 9) = W2 := ⟨_, rfl⟩
      have hrow : W2.heap[wr_2.heap.size]? = some (.cells #[.string ⟨#[49, 48, 46, 48, 46, 48, 46, 49, 58, 48, 49, 48, 50, 52, 32, 49, 48, 46, 48, 46, 48, 46, 50, 58, 56, 48, 32, 54]⟩, .string ⟨#[49, 48, 46, 48, 46, 48, 46, 49, 58, 49, 48, 50, 52, 32, 49, 48, 46, 48, 46, 48, 46, 50, 58, 56, 48, 32, 48, 54]⟩, .string ⟨#[49, 48, 46, 48, 46, 48, 46, 49, 58, 49, 48, 50, 52, 32, 32, 49, 48, 46, 48, 46, 48, 46, 50, 58, 56, 48, 32, 54]⟩, .string ⟨#[49, 48, 46, 48, 46, 48, 46, 49, 58, 43, 49, 32, 49, 48, 46, 48, 46, 48, 46, 50, 58, 56, 48, 32, 54]⟩] 9 (0, 0)) := by rw [← hW2]; exact heap_alloc_new wr_2 _
      have hb2 : Below w.heap.size w W2 := by rw [← hW2]; exact hbV.alloc hbV.size _
      have hz2 : wr_2.heap.size < W2.heap.size := (Array.getElem?_eq_some_iff.1 hrow).1
      have HB2 := Lib.hid hb2; have HROW2 := Lib.hid hrow
      clear hb2 hrow hbV hbw
      go_wp2_with fail
      try rw [hW2]
      clear hW2
      go_loopw [79] (fun s79 wq => ∃ k : Nat, k ≤ 4 ∧ s79 = .int .i64 k ∧ Below W2.heap.size W2 wq) (fun s79 _ => 4 - (intOf s79).toNat)
      case atStart => exact ⟨0, by omega, rfl, Below.refl _ _⟩
      case round =>
        obtain ⟨k, hk, rfl, hbq⟩ := hrel
        have hbW := Below.step HB2.out hbq
        have h5 : k = 0 ∨ k = 1 ∨ k = 2 ∨ k = 3 ∨ k = 4 := by omega
        have hrow := (hbq.block _ hz2).trans HROW2.out
        have hzq : wr_2.heap.size < wr.heap.size := Nat.lt_of_lt_of_le hz2 hbq.size
        rcases h5 with rfl | rfl | rfl | rfl | rfl
        · obtain ⟨k0, _⟩ := row_cell' (j := 0) hrow rfl
          clear hrow
          go_wp2_with fail
          go_at_call 10
          (with_reducible refine (KP0.out _ hbW).mono ?_)
          rintro e w2 ⟨rfl, hb2⟩
          go_wp2
          go_roundw
          case rel => first | exact ⟨1, by omega, rfl, Below.step hbq (hb2.alloc hb2.size _)⟩ | ((repeat apply Exists.intro); refine ⟨?_, rfl⟩; exact ⟨1, by omega, rfl, Below.step hbq (hb2.alloc hb2.size _)⟩)
          case measure => simp [intOf]
        · obtain ⟨k0, _⟩ := row_cell' (j := 1) hrow rfl
          clear hrow
          go_wp2_with fail
          go_at_call 10
          (with_reducible refine (KP1.out _ hbW).mono ?_)
          rintro e w2 ⟨rfl, hb2⟩
          go_wp2
          go_roundw
          case rel => first | exact ⟨2, by omega, rfl, Below.step hbq (hb2.alloc hb2.size _)⟩ | ((repeat apply Exists.intro); refine ⟨?_, rfl⟩; exact ⟨2, by omega, rfl, Below.step hbq (hb2.alloc hb2.size _)⟩)
          case measure => simp [intOf]
        · obtain ⟨k0, _⟩ := row_cell' (j := 2) hrow rfl
          clear hrow
          go_wp2_with fail
          go_at_call 10
          (with_reducible refine (KP2.out _ hbW).mono ?_)
          rintro e w2 ⟨rfl, hb2⟩
          go_wp2
          go_roundw
          case rel => first | exact ⟨3, by omega, rfl, Below.step hbq (hb2.alloc hb2.size _)⟩ | ((repeat apply Exists.intro); refine ⟨?_, rfl⟩; exact ⟨3, by omega, rfl, Below.step hbq (hb2.alloc hb2.size _)⟩)
          case measure => simp [intOf]
        · obtain ⟨k0, _⟩ := row_cell' (j := 3) hrow rfl
          clear hrow
          go_wp2_with fail
          go_at_call 10
          (with_reducible refine (KP3.out _ hbW).mono ?_)
          rintro e w2 ⟨rfl, hb2⟩
          go_wp2
          go_roundw
          case rel => first | exact ⟨4, by omega, rfl, Below.step hbq (hb2.alloc hb2.size _)⟩ | ((repeat apply Exists.intro); refine ⟨?_, rfl⟩; exact ⟨4, by omega, rfl, Below.step hbq (hb2.alloc hb2.size _)⟩)
          case measure => simp [intOf]
        · clear hrow
          go_wp2_with fail
          go_at_call 11
          refine (next_far _).mono ?_
          rintro e w4 ⟨rfl, hb4⟩
          go_wp2_with fail
          go_at_call 9
          refine (same_is _ _ _ _ _ _ _ _ _ _ _).mono ?_
          rintro e w5 ⟨rfl, hb5⟩
          have hb05 := Below.step hbW (Below.step (hb4.alloc hb4.size _) hb5)
          clear hb4 hb5
          go_wp2_with fail
          go_at_call 11
          refine (next_all _).mono ?_
          rintro e w6 ⟨rfl, hb6⟩
          have hA6 := (hb6.block _ (by simp)).trans (heap_alloc_new w5 (.cells #[.int .u32 4294967295, .int .u32 4294967295, .int .u8 255, .int .u16 65535, .int .u16 65535] 27))
          have hz6 : w5.heap.size < w6.heap.size := (Array.getElem?_eq_some_iff.1 hA6).1
          have hb06 : Below w.heap.size w w6 := Below.step hb05 (Below.step ((Below.refl _ _).alloc (Nat.le_refl _) _) hb6)
          have hA := (heap_alloc_old (w := w6) (.cells #[.int .u32 0, .int .u32 0, .int .u8 0, .int .u16 0, .int .u16 0] 27) hz6).trans hA6
          have hb07 := hb06.alloc hb06.size (.cells #[.int .u32 0, .int .u32 0, .int .u8 0, .int .u16 0, .int .u16 0] 27)
          clear hA6 hb6 hb06 hb05
          obtain ⟨k0, _⟩ := row_cell' (j := 0) hA rfl
          obtain ⟨k1, _⟩ := row_cell' (j := 1) hA rfl
          obtain ⟨k2, _⟩ := row_cell' (j := 2) hA rfl
          obtain ⟨k3, _⟩ := row_cell' (j := 3) hA rfl
          obtain ⟨k4, _⟩ := row_cell' (j := 4) hA rfl
          go_wp2_with fail
          go_at_call 12
          refine (bit_no _ _ _ _ _ _ (by decide) _).mono ?_
          rintro e w7 ⟨rfl, hb7⟩
          have hb08 := Below.step hb07 hb7
          have hA7 := (hb7.block _ (by simp; omega)).trans hA
          clear k0 k1 k2 k3 k4 hA hb7 hb07
          obtain ⟨k0, _⟩ := row_cell' (j := 0) hA7 rfl
          obtain ⟨k1, _⟩ := row_cell' (j := 1) hA7 rfl
          obtain ⟨k2, _⟩ := row_cell' (j := 2) hA7 rfl
          obtain ⟨k3, _⟩ := row_cell' (j := 3) hA7 rfl
          obtain ⟨k4, _⟩ := row_cell' (j := 4) hA7 rfl
          go_wp2_with fail
          go_at_call 12
          refine (bit_no _ _ _ _ _ _ (by decide) _).mono ?_
          rintro e w8 ⟨rfl, hb8⟩
          have hz7 : w5.heap.size < w7.heap.size := (Array.getElem?_eq_some_iff.1 hA7).1
          have hb09 := Below.step hb08 hb8
          have hA8 := (hb8.block _ hz7).trans hA7
          clear k0 k1 k2 k3 k4 hA7 hb8 hb08
          obtain ⟨k0, _⟩ := row_cell' (j := 0) hA8 rfl
          obtain ⟨k1, _⟩ := row_cell' (j := 1) hA8 rfl
          obtain ⟨k2, _⟩ := row_cell' (j := 2) hA8 rfl
          obtain ⟨k3, _⟩ := row_cell' (j := 3) hA8 rfl
          obtain ⟨k4, _⟩ := row_cell' (j := 4) hA8 rfl
          go_wp2_with fail
          go_at_call 8
          refine (with_no _ _ _ _ _ _ _ (by decide) _).mono ?_
          rintro e w9 ⟨rfl, hb9⟩
          have hb10 := Below.step hb09 hb9
          clear k0 k1 k2 k3 k4 hA8 hb9 hb09
          go_wp2_with fail
          go_at_call 11
          refine (next_78 _).mono ?_
          rintro e w10 ⟨rfl, hb10'⟩
          have hq := Below.step (hb10.alloc hb10.size _) hb10'
          clear hb10 hb10'
          go_wp2_with fail
          go_at_call 9
          refine (same_is _ _ _ _ _ _ _ _ _ _ _).mono ?_
          rintro e w11 ⟨rfl, hb11⟩
          go_wp2
          go_ret
          exact ⟨rfl, Below.step (hq.alloc hq.size _) hb11⟩
end Go.Proofs.YtbmleejeffaciaaDoor
