/- What OfBits of package waymarkref03 hands back: the header of 104 bits, the highest one first. Under the conditions that it names. -/
import Derived.Test.YtbmleejeffaciaaDoorHdBm
import Derived.Test.YtbmleejeffaciaaDoorHdH
import Derived.Lib.BufferMore
import Derived.Test.YtbmleejeffaciaaDoorHdBkM
namespace Go.Proofs.YtbmleejeffaciaaDoor
open Go.RowKit
set_option maxRecDepth 100000 in
set_option maxHeartbeats 16000000 in
theorem ofbits_is (N g cap : Nat) (w : World) (hG : g < w.heap.size) (hC : ∀ j, j < 104 → w.cell? ⟨g, j, none⟩ = some (.bool (bt N j))) :
    Calls Tryd.prog 31 #[.slice (some ⟨g, 0, none⟩) 104 cap] w fun e w' => e = .returned (hdrN N) ∧ Below w.heap.size w w' := by
  obtain ⟨W0, hW0⟩ : ∃ W0, ((w.alloc (.cells #[.int .u32 0, .int .u32 0, .int .u8 0, .int .u16 0, .int .u16 0] 27)).alloc (.cells #[.int .i64 32, .int .i64 32, .int .i64 8, .int .i64 16, .int .i64 16] 3)).alloc (.cells #[.int .u64 0, .int .u64 0, .int .u64 0, .int .u64 0, .int .u64 0] 77) = W0 := ⟨_, rfl⟩
  have hb0 : Below w.heap.size w W0 := by rw [← hW0]; exact (((Below.refl _ _).alloc (Nat.le_refl _) _).alloc (by simp) _).alloc (by simp; omega) _
  have hHD : W0.heap[w.heap.size]? = some (.cells #[.int .u32 0, .int .u32 0, .int .u8 0, .int .u16 0, .int .u16 0] 27 (0, 0)) := by
    rw [← hW0]; exact (heap_alloc_old _ _ (by simp; omega)).trans (heap_alloc2_old w _ _)
  have hWIDE : W0.heap[w.heap.size + 1]? = some (.cells #[.int .i64 32, .int .i64 32, .int .i64 8, .int .i64 16, .int .i64 16] 3 (0, 0)) := by
    rw [← hW0]; exact (heap_alloc_old _ _ (by simp)).trans (heap_alloc2_new w _ _)
  have hNB : W0.heap[w.heap.size + 1 + 1]? = some (.cells #[.int .u64 0, .int .u64 0, .int .u64 0, .int .u64 0, .int .u64 0] 77 (0, 0)) := by
    rw [← hW0]
    have := heap_alloc2_new (w.alloc (.cells #[.int .u32 0, .int .u32 0, .int .u8 0, .int .u16 0, .int .u16 0] 27)) (.cells #[.int .i64 32, .int .i64 32, .int .i64 8, .int .i64 16, .int .i64 16] 3) (.cells #[.int .u64 0, .int .u64 0, .int .u64 0, .int .u64 0, .int .u64 0] 77)
    simpa using this
  have hz2 : w.heap.size + 1 + 1 < W0.heap.size := (Array.getElem?_eq_some_iff.1 hNB).1
  have hz1 : w.heap.size + 1 < w.heap.size + 1 + 1 := by omega
  have hz0 : w.heap.size < w.heap.size + 1 + 1 := by omega
  have HB0 := Lib.hid hb0; have HHD := Lib.hid hHD; have HWIDE := Lib.hid hWIDE; have HC := Lib.hid hC; have HNB := Lib.hid hNB
  clear hb0 hHD hWIDE hC hNB
  go_enter Tryd.func31, Tryd.ntmps31
  go_wp2_with fail
  try rw [hW0]
  clear hW0
  go_loopw [5, 6] (fun s5 s6 wr => ∃ (i a : Nat) (R : Array Value), s6 = .int .i64 i ∧ s5 = .int .i64 a ∧ ((i = 0 ∧ a = 0 ∧ R = #[.int .u64 0, .int .u64 0, .int .u64 0, .int .u64 0, .int .u64 0]) ∨ (i = 1 ∧ a = 32 ∧ R = #[.int .u64 (fv N 0 32 : Nat), .int .u64 0, .int .u64 0, .int .u64 0, .int .u64 0]) ∨ (i = 2 ∧ a = 64 ∧ R = #[.int .u64 (fv N 0 32 : Nat), .int .u64 (fv N 32 32 : Nat), .int .u64 0, .int .u64 0, .int .u64 0]) ∨ (i = 3 ∧ a = 72 ∧ R = #[.int .u64 (fv N 0 32 : Nat), .int .u64 (fv N 32 32 : Nat), .int .u64 (fv N 64 8 : Nat), .int .u64 0, .int .u64 0]) ∨ (i = 4 ∧ a = 88 ∧ R = #[.int .u64 (fv N 0 32 : Nat), .int .u64 (fv N 32 32 : Nat), .int .u64 (fv N 64 8 : Nat), .int .u64 (fv N 72 16 : Nat), .int .u64 0]) ∨ (i = 5 ∧ a = 104 ∧ R = #[.int .u64 (fv N 0 32 : Nat), .int .u64 (fv N 32 32 : Nat), .int .u64 (fv N 64 8 : Nat), .int .u64 (fv N 72 16 : Nat), .int .u64 (fv N 88 16 : Nat)])) ∧ wr.heap[w.heap.size + 1 + 1]? = some (.cells R 77 (0, 0)) ∧ Below (w.heap.size + 1 + 1) W0 wr) (fun _ s6 _ => 5 - (intOf s6).toNat)
  case atStart => exact ⟨0, 0, _, rfl, rfl, .inl ⟨rfl, rfl, rfl⟩, HNB.out, Below.refl _ _⟩
  case round =>
    obtain ⟨i, a, R, rfl, rfl, hin, hrow, hbw⟩ := hrel
    have hwide := (hbw.block _ hz1).trans HWIDE.out
    rcases hin with ⟨rfl, rfl, rfl⟩ | ⟨rfl, rfl, rfl⟩ | ⟨rfl, rfl, rfl⟩ | ⟨rfl, rfl, rfl⟩ | ⟨rfl, rfl, rfl⟩ | ⟨rfl, rfl, rfl⟩
    · obtain ⟨k1, _⟩ := row_cell' (j := 0) hwide rfl
      clear hwide
      go_wp2_with fail
      go_loopw [5, 7] (fun s5 s7 wq => ∃ c : Nat, c ≤ 32 ∧ s7 = .int .i64 (c : Int) ∧ s5 = .int .i64 (c : Int) ∧ wq.heap[w.heap.size + 1 + 1]? = some (.cells #[.int .u64 (fv N 0 c : Nat), .int .u64 0, .int .u64 0, .int .u64 0, .int .u64 0] 77 (0, 0)) ∧ Below (w.heap.size + 1 + 1) W0 wq) (fun _ s7 _ => 32 - (intOf s7).toNat)
      case atStart => exact ⟨0, by omega, rfl, rfl, by rw [fv_0]; exact hrow, hbw⟩
      case round =>
        obtain ⟨c, hc, rfl, rfl, hrow, hbw⟩ := hrel
        have hwide := (hbw.block _ hz1).trans HWIDE.out
        obtain ⟨k1, _⟩ := row_cell' (j := 0) hwide rfl
        clear hwide
        by_cases hlt : c < 32
        · have hc0 : (c : Int) < 32 := by omega
          obtain ⟨f, hf⟩ : ∃ f, fv N 0 c = f := ⟨_, rfl⟩
          have hf2 : f < 2147483648 := by rw [← hf]; exact Nat.lt_of_lt_of_le (fv_lt N 0 c) (Nat.pow_le_pow_right (n := 2) (by omega) (by omega : c ≤ 31))
          have hf3 : (f : Int) < 2147483648 := by omega
          have hst := fv_step N 0 c (by omega)
          rw [hf] at hst hrow
          have HROW := Lib.hid hrow
          obtain ⟨n0, n0f⟩ := row_cell' (j := 0) hrow rfl
          have hcell : wr.cell? ⟨g, c, none⟩ = some (.bool (bt N (0 + c))) := by
            have h := (hbw.cell (p := ⟨g, c, none⟩) (by simp; omega)).trans ((HB0.out.cell (p := ⟨g, c, none⟩) hG).trans (HC.out (c) (by omega)))
            rw [Nat.zero_add]; exact h
          clear hrow hf
          cases hy : bt N (0 + c) with
          | false =>
            rw [hy] at hcell hst
            clear hy
            go_wp2_with fail
            go_roundw
            case rel =>
              have hv : Value.int .i64 ((c : Int) + 1) = .int .i64 ((c + 1 : Nat) : Int) := rfl
              have hv5 : Value.int .i64 ((c : Int) + 1) = .int .i64 ((c + 1 : Nat) : Int) := congrArg (Value.int .i64) (by omega)
              refine ⟨c + 1, by omega, hv, hv5, ?_, by
                repeat refine Below.setCell ?_ (by simp) _
                exact hbw⟩
              rw [show ((fv N 0 (c + 1) : Nat) : Int) = 2 * (f : Int) by rw [hst]; simp]
              exact Lib.heap_setCell_same (i := 0) HROW.out _
            case measure => first | (simp [intOf]; done) | (simp [intOf]; omega)
          | true =>
            rw [hy] at hcell hst
            clear hy
            go_wp2_with fail
            go_roundw
            case rel =>
              have hv : Value.int .i64 ((c : Int) + 1) = .int .i64 ((c + 1 : Nat) : Int) := rfl
              have hv5 : Value.int .i64 ((c : Int) + 1) = .int .i64 ((c + 1 : Nat) : Int) := congrArg (Value.int .i64) (by omega)
              refine ⟨c + 1, by omega, hv, hv5, ?_, by
                repeat refine Below.setCell ?_ (by simp) _
                exact hbw⟩
              rw [show ((fv N 0 (c + 1) : Nat) : Int) = 2 * (f : Int) + 1 by rw [hst]; simp]
              exact Lib.heap_setCell_same (i := 0) (Lib.heap_setCell_same (i := 0) HROW.out _) _
            case measure => first | (simp [intOf]; done) | (simp [intOf]; omega)
        · obtain rfl : c = 32 := by omega
          clear hlt
          go_wp2_with fail
          go_roundw
          case rel => exact ⟨1, 32, _, rfl, rfl, by simp, hrow, hbw⟩
          case measure => first | (simp [intOf]; done) | (simp [intOf]; omega)
    · obtain ⟨k1, _⟩ := row_cell' (j := 1) hwide rfl
      clear hwide
      go_wp2_with fail
      go_loopw [5, 7] (fun s5 s7 wq => ∃ c : Nat, c ≤ 32 ∧ s7 = .int .i64 (c : Int) ∧ s5 = .int .i64 (32 + (c : Int)) ∧ wq.heap[w.heap.size + 1 + 1]? = some (.cells #[.int .u64 (fv N 0 32 : Nat), .int .u64 (fv N 32 c : Nat), .int .u64 0, .int .u64 0, .int .u64 0] 77 (0, 0)) ∧ Below (w.heap.size + 1 + 1) W0 wq) (fun _ s7 _ => 32 - (intOf s7).toNat)
      case atStart => exact ⟨0, by omega, rfl, rfl, by rw [fv_0]; exact hrow, hbw⟩
      case round =>
        obtain ⟨c, hc, rfl, rfl, hrow, hbw⟩ := hrel
        have hwide := (hbw.block _ hz1).trans HWIDE.out
        obtain ⟨k1, _⟩ := row_cell' (j := 1) hwide rfl
        clear hwide
        by_cases hlt : c < 32
        · have hc0 : (c : Int) < 32 := by omega
          obtain ⟨f, hf⟩ : ∃ f, fv N 32 c = f := ⟨_, rfl⟩
          have hf2 : f < 2147483648 := by rw [← hf]; exact Nat.lt_of_lt_of_le (fv_lt N 32 c) (Nat.pow_le_pow_right (n := 2) (by omega) (by omega : c ≤ 31))
          have hf3 : (f : Int) < 2147483648 := by omega
          have hst := fv_step N 32 c (by omega)
          rw [hf] at hst hrow
          have HROW := Lib.hid hrow
          obtain ⟨n0, n0f⟩ := row_cell' (j := 1) hrow rfl
          have hcell : wr.cell? ⟨g, 32 + c, none⟩ = some (.bool (bt N (32 + c))) := by
            have h := (hbw.cell (p := ⟨g, 32 + c, none⟩) (by simp; omega)).trans ((HB0.out.cell (p := ⟨g, 32 + c, none⟩) hG).trans (HC.out (32 + c) (by omega)))
            exact h
          clear hrow hf
          cases hy : bt N (32 + c) with
          | false =>
            rw [hy] at hcell hst
            clear hy
            go_wp2_with fail
            go_roundw
            case rel =>
              have hv : Value.int .i64 ((c : Int) + 1) = .int .i64 ((c + 1 : Nat) : Int) := rfl
              have hv5 : Value.int .i64 ((32 + (c : Int)) + 1) = .int .i64 (32 + ((c + 1 : Nat) : Int)) := congrArg (Value.int .i64) (by omega)
              refine ⟨c + 1, by omega, hv, hv5, ?_, by
                repeat refine Below.setCell ?_ (by simp) _
                exact hbw⟩
              rw [show ((fv N 32 (c + 1) : Nat) : Int) = 2 * (f : Int) by rw [hst]; simp]
              exact Lib.heap_setCell_same (i := 1) HROW.out _
            case measure => first | (simp [intOf]; done) | (simp [intOf]; omega)
          | true =>
            rw [hy] at hcell hst
            clear hy
            go_wp2_with fail
            go_roundw
            case rel =>
              have hv : Value.int .i64 ((c : Int) + 1) = .int .i64 ((c + 1 : Nat) : Int) := rfl
              have hv5 : Value.int .i64 ((32 + (c : Int)) + 1) = .int .i64 (32 + ((c + 1 : Nat) : Int)) := congrArg (Value.int .i64) (by omega)
              refine ⟨c + 1, by omega, hv, hv5, ?_, by
                repeat refine Below.setCell ?_ (by simp) _
                exact hbw⟩
              rw [show ((fv N 32 (c + 1) : Nat) : Int) = 2 * (f : Int) + 1 by rw [hst]; simp]
              exact Lib.heap_setCell_same (i := 1) (Lib.heap_setCell_same (i := 1) HROW.out _) _
            case measure => first | (simp [intOf]; done) | (simp [intOf]; omega)
        · obtain rfl : c = 32 := by omega
          clear hlt
          go_wp2_with fail
          go_roundw
          case rel => exact ⟨2, 64, _, rfl, rfl, by simp, hrow, hbw⟩
          case measure => first | (simp [intOf]; done) | (simp [intOf]; omega)
    · obtain ⟨k1, _⟩ := row_cell' (j := 2) hwide rfl
      clear hwide
      go_wp2_with fail
      go_loopw [5, 7] (fun s5 s7 wq => ∃ c : Nat, c ≤ 8 ∧ s7 = .int .i64 (c : Int) ∧ s5 = .int .i64 (64 + (c : Int)) ∧ wq.heap[w.heap.size + 1 + 1]? = some (.cells #[.int .u64 (fv N 0 32 : Nat), .int .u64 (fv N 32 32 : Nat), .int .u64 (fv N 64 c : Nat), .int .u64 0, .int .u64 0] 77 (0, 0)) ∧ Below (w.heap.size + 1 + 1) W0 wq) (fun _ s7 _ => 8 - (intOf s7).toNat)
      case atStart => exact ⟨0, by omega, rfl, rfl, by rw [fv_0]; exact hrow, hbw⟩
      case round =>
        obtain ⟨c, hc, rfl, rfl, hrow, hbw⟩ := hrel
        have hwide := (hbw.block _ hz1).trans HWIDE.out
        obtain ⟨k1, _⟩ := row_cell' (j := 2) hwide rfl
        clear hwide
        by_cases hlt : c < 8
        · have hc0 : (c : Int) < 8 := by omega
          obtain ⟨f, hf⟩ : ∃ f, fv N 64 c = f := ⟨_, rfl⟩
          have hf2 : f < 2147483648 := by rw [← hf]; exact Nat.lt_of_lt_of_le (fv_lt N 64 c) (Nat.pow_le_pow_right (n := 2) (by omega) (by omega : c ≤ 31))
          have hf3 : (f : Int) < 2147483648 := by omega
          have hst := fv_step N 64 c (by omega)
          rw [hf] at hst hrow
          have HROW := Lib.hid hrow
          obtain ⟨n0, n0f⟩ := row_cell' (j := 2) hrow rfl
          have hcell : wr.cell? ⟨g, 64 + c, none⟩ = some (.bool (bt N (64 + c))) := by
            have h := (hbw.cell (p := ⟨g, 64 + c, none⟩) (by simp; omega)).trans ((HB0.out.cell (p := ⟨g, 64 + c, none⟩) hG).trans (HC.out (64 + c) (by omega)))
            exact h
          clear hrow hf
          cases hy : bt N (64 + c) with
          | false =>
            rw [hy] at hcell hst
            clear hy
            go_wp2_with fail
            go_roundw
            case rel =>
              have hv : Value.int .i64 ((c : Int) + 1) = .int .i64 ((c + 1 : Nat) : Int) := rfl
              have hv5 : Value.int .i64 ((64 + (c : Int)) + 1) = .int .i64 (64 + ((c + 1 : Nat) : Int)) := congrArg (Value.int .i64) (by omega)
              refine ⟨c + 1, by omega, hv, hv5, ?_, by
                repeat refine Below.setCell ?_ (by simp) _
                exact hbw⟩
              rw [show ((fv N 64 (c + 1) : Nat) : Int) = 2 * (f : Int) by rw [hst]; simp]
              exact Lib.heap_setCell_same (i := 2) HROW.out _
            case measure => first | (simp [intOf]; done) | (simp [intOf]; omega)
          | true =>
            rw [hy] at hcell hst
            clear hy
            go_wp2_with fail
            go_roundw
            case rel =>
              have hv : Value.int .i64 ((c : Int) + 1) = .int .i64 ((c + 1 : Nat) : Int) := rfl
              have hv5 : Value.int .i64 ((64 + (c : Int)) + 1) = .int .i64 (64 + ((c + 1 : Nat) : Int)) := congrArg (Value.int .i64) (by omega)
              refine ⟨c + 1, by omega, hv, hv5, ?_, by
                repeat refine Below.setCell ?_ (by simp) _
                exact hbw⟩
              rw [show ((fv N 64 (c + 1) : Nat) : Int) = 2 * (f : Int) + 1 by rw [hst]; simp]
              exact Lib.heap_setCell_same (i := 2) (Lib.heap_setCell_same (i := 2) HROW.out _) _
            case measure => first | (simp [intOf]; done) | (simp [intOf]; omega)
        · obtain rfl : c = 8 := by omega
          clear hlt
          go_wp2_with fail
          go_roundw
          case rel => exact ⟨3, 72, _, rfl, rfl, by simp, hrow, hbw⟩
          case measure => first | (simp [intOf]; done) | (simp [intOf]; omega)
    · obtain ⟨k1, _⟩ := row_cell' (j := 3) hwide rfl
      clear hwide
      go_wp2_with fail
      go_loopw [5, 7] (fun s5 s7 wq => ∃ c : Nat, c ≤ 16 ∧ s7 = .int .i64 (c : Int) ∧ s5 = .int .i64 (72 + (c : Int)) ∧ wq.heap[w.heap.size + 1 + 1]? = some (.cells #[.int .u64 (fv N 0 32 : Nat), .int .u64 (fv N 32 32 : Nat), .int .u64 (fv N 64 8 : Nat), .int .u64 (fv N 72 c : Nat), .int .u64 0] 77 (0, 0)) ∧ Below (w.heap.size + 1 + 1) W0 wq) (fun _ s7 _ => 16 - (intOf s7).toNat)
      case atStart => exact ⟨0, by omega, rfl, rfl, by rw [fv_0]; exact hrow, hbw⟩
      case round =>
        obtain ⟨c, hc, rfl, rfl, hrow, hbw⟩ := hrel
        have hwide := (hbw.block _ hz1).trans HWIDE.out
        obtain ⟨k1, _⟩ := row_cell' (j := 3) hwide rfl
        clear hwide
        by_cases hlt : c < 16
        · have hc0 : (c : Int) < 16 := by omega
          obtain ⟨f, hf⟩ : ∃ f, fv N 72 c = f := ⟨_, rfl⟩
          have hf2 : f < 2147483648 := by rw [← hf]; exact Nat.lt_of_lt_of_le (fv_lt N 72 c) (Nat.pow_le_pow_right (n := 2) (by omega) (by omega : c ≤ 31))
          have hf3 : (f : Int) < 2147483648 := by omega
          have hst := fv_step N 72 c (by omega)
          rw [hf] at hst hrow
          have HROW := Lib.hid hrow
          obtain ⟨n0, n0f⟩ := row_cell' (j := 3) hrow rfl
          have hcell : wr.cell? ⟨g, 72 + c, none⟩ = some (.bool (bt N (72 + c))) := by
            have h := (hbw.cell (p := ⟨g, 72 + c, none⟩) (by simp; omega)).trans ((HB0.out.cell (p := ⟨g, 72 + c, none⟩) hG).trans (HC.out (72 + c) (by omega)))
            exact h
          clear hrow hf
          cases hy : bt N (72 + c) with
          | false =>
            rw [hy] at hcell hst
            clear hy
            go_wp2_with fail
            go_roundw
            case rel =>
              have hv : Value.int .i64 ((c : Int) + 1) = .int .i64 ((c + 1 : Nat) : Int) := rfl
              have hv5 : Value.int .i64 ((72 + (c : Int)) + 1) = .int .i64 (72 + ((c + 1 : Nat) : Int)) := congrArg (Value.int .i64) (by omega)
              refine ⟨c + 1, by omega, hv, hv5, ?_, by
                repeat refine Below.setCell ?_ (by simp) _
                exact hbw⟩
              rw [show ((fv N 72 (c + 1) : Nat) : Int) = 2 * (f : Int) by rw [hst]; simp]
              exact Lib.heap_setCell_same (i := 3) HROW.out _
            case measure => first | (simp [intOf]; done) | (simp [intOf]; omega)
          | true =>
            rw [hy] at hcell hst
            clear hy
            go_wp2_with fail
            go_roundw
            case rel =>
              have hv : Value.int .i64 ((c : Int) + 1) = .int .i64 ((c + 1 : Nat) : Int) := rfl
              have hv5 : Value.int .i64 ((72 + (c : Int)) + 1) = .int .i64 (72 + ((c + 1 : Nat) : Int)) := congrArg (Value.int .i64) (by omega)
              refine ⟨c + 1, by omega, hv, hv5, ?_, by
                repeat refine Below.setCell ?_ (by simp) _
                exact hbw⟩
              rw [show ((fv N 72 (c + 1) : Nat) : Int) = 2 * (f : Int) + 1 by rw [hst]; simp]
              exact Lib.heap_setCell_same (i := 3) (Lib.heap_setCell_same (i := 3) HROW.out _) _
            case measure => first | (simp [intOf]; done) | (simp [intOf]; omega)
        · obtain rfl : c = 16 := by omega
          clear hlt
          go_wp2_with fail
          go_roundw
          case rel => exact ⟨4, 88, _, rfl, rfl, by simp, hrow, hbw⟩
          case measure => first | (simp [intOf]; done) | (simp [intOf]; omega)
    · obtain ⟨k1, _⟩ := row_cell' (j := 4) hwide rfl
      clear hwide
      go_wp2_with fail
      go_loopw [5, 7] (fun s5 s7 wq => ∃ c : Nat, c ≤ 16 ∧ s7 = .int .i64 (c : Int) ∧ s5 = .int .i64 (88 + (c : Int)) ∧ wq.heap[w.heap.size + 1 + 1]? = some (.cells #[.int .u64 (fv N 0 32 : Nat), .int .u64 (fv N 32 32 : Nat), .int .u64 (fv N 64 8 : Nat), .int .u64 (fv N 72 16 : Nat), .int .u64 (fv N 88 c : Nat)] 77 (0, 0)) ∧ Below (w.heap.size + 1 + 1) W0 wq) (fun _ s7 _ => 16 - (intOf s7).toNat)
      case atStart => exact ⟨0, by omega, rfl, rfl, by rw [fv_0]; exact hrow, hbw⟩
      case round =>
        obtain ⟨c, hc, rfl, rfl, hrow, hbw⟩ := hrel
        have hwide := (hbw.block _ hz1).trans HWIDE.out
        obtain ⟨k1, _⟩ := row_cell' (j := 4) hwide rfl
        clear hwide
        by_cases hlt : c < 16
        · have hc0 : (c : Int) < 16 := by omega
          obtain ⟨f, hf⟩ : ∃ f, fv N 88 c = f := ⟨_, rfl⟩
          have hf2 : f < 2147483648 := by rw [← hf]; exact Nat.lt_of_lt_of_le (fv_lt N 88 c) (Nat.pow_le_pow_right (n := 2) (by omega) (by omega : c ≤ 31))
          have hf3 : (f : Int) < 2147483648 := by omega
          have hst := fv_step N 88 c (by omega)
          rw [hf] at hst hrow
          have HROW := Lib.hid hrow
          obtain ⟨n0, n0f⟩ := row_cell' (j := 4) hrow rfl
          have hcell : wr.cell? ⟨g, 88 + c, none⟩ = some (.bool (bt N (88 + c))) := by
            have h := (hbw.cell (p := ⟨g, 88 + c, none⟩) (by simp; omega)).trans ((HB0.out.cell (p := ⟨g, 88 + c, none⟩) hG).trans (HC.out (88 + c) (by omega)))
            exact h
          clear hrow hf
          cases hy : bt N (88 + c) with
          | false =>
            rw [hy] at hcell hst
            clear hy
            go_wp2_with fail
            go_roundw
            case rel =>
              have hv : Value.int .i64 ((c : Int) + 1) = .int .i64 ((c + 1 : Nat) : Int) := rfl
              have hv5 : Value.int .i64 ((88 + (c : Int)) + 1) = .int .i64 (88 + ((c + 1 : Nat) : Int)) := congrArg (Value.int .i64) (by omega)
              refine ⟨c + 1, by omega, hv, hv5, ?_, by
                repeat refine Below.setCell ?_ (by simp) _
                exact hbw⟩
              rw [show ((fv N 88 (c + 1) : Nat) : Int) = 2 * (f : Int) by rw [hst]; simp]
              exact Lib.heap_setCell_same (i := 4) HROW.out _
            case measure => first | (simp [intOf]; done) | (simp [intOf]; omega)
          | true =>
            rw [hy] at hcell hst
            clear hy
            go_wp2_with fail
            go_roundw
            case rel =>
              have hv : Value.int .i64 ((c : Int) + 1) = .int .i64 ((c + 1 : Nat) : Int) := rfl
              have hv5 : Value.int .i64 ((88 + (c : Int)) + 1) = .int .i64 (88 + ((c + 1 : Nat) : Int)) := congrArg (Value.int .i64) (by omega)
              refine ⟨c + 1, by omega, hv, hv5, ?_, by
                repeat refine Below.setCell ?_ (by simp) _
                exact hbw⟩
              rw [show ((fv N 88 (c + 1) : Nat) : Int) = 2 * (f : Int) + 1 by rw [hst]; simp]
              exact Lib.heap_setCell_same (i := 4) (Lib.heap_setCell_same (i := 4) HROW.out _) _
            case measure => first | (simp [intOf]; done) | (simp [intOf]; omega)
        · obtain rfl : c = 16 := by omega
          clear hlt
          go_wp2_with fail
          go_roundw
          case rel => exact ⟨5, 104, _, rfl, rfl, by simp, hrow, hbw⟩
          case measure => first | (simp [intOf]; done) | (simp [intOf]; omega)
    · clear hwide
      obtain ⟨F0, hF0⟩ : ∃ x, fv N 0 32 = x := ⟨_, rfl⟩
      obtain ⟨F1, hF1⟩ : ∃ x, fv N 32 32 = x := ⟨_, rfl⟩
      obtain ⟨F2, hF2⟩ : ∃ x, fv N 64 8 = x := ⟨_, rfl⟩
      obtain ⟨F3, hF3⟩ : ∃ x, fv N 72 16 = x := ⟨_, rfl⟩
      obtain ⟨F4, hF4⟩ : ∃ x, fv N 88 16 = x := ⟨_, rfl⟩
      have b0 := fv_lt N 0 32
      have b1 := fv_lt N 32 32
      have b2 := fv_lt N 64 8
      have b3 := fv_lt N 72 16
      have b4 := fv_lt N 88 16
      have HF : Hid (hdrN N = .agg #[.int .u32 (F0 : Int), .int .u32 (F1 : Int), .int .u8 (F2 : Int), .int .u16 (F3 : Int), .int .u16 (F4 : Int)]) := Lib.hid (by unfold hdrN; rw [hF0, hF1, hF2, hF3, hF4])
      rw [hF0, hF1, hF2, hF3, hF4] at hrow
      rw [hF0] at b0; rw [hF1] at b1; rw [hF2] at b2; rw [hF3] at b3; rw [hF4] at b4
      have c0 : (F0 : Int) < 4294967296 := by omega
      have c1 : (F1 : Int) < 4294967296 := by omega
      have c2 : (F2 : Int) < 256 := by omega
      have c3 : (F3 : Int) < 65536 := by omega
      have c4 : (F4 : Int) < 65536 := by omega
      obtain ⟨n0, _⟩ := row_cell' (j := 0) hrow rfl
      obtain ⟨n1, _⟩ := row_cell' (j := 1) hrow rfl
      obtain ⟨n2, _⟩ := row_cell' (j := 2) hrow rfl
      obtain ⟨n3, _⟩ := row_cell' (j := 3) hrow rfl
      obtain ⟨n4, _⟩ := row_cell' (j := 4) hrow rfl
      have hhd := (hbw.block _ hz0).trans HHD.out
      obtain ⟨r0, rf0⟩ := row_cell' (j := 0) hhd rfl
      obtain ⟨r1, rf1⟩ := row_cell' (j := 1) hhd rfl
      obtain ⟨r2, rf2⟩ := row_cell' (j := 2) hhd rfl
      obtain ⟨r3, rf3⟩ := row_cell' (j := 3) hhd rfl
      obtain ⟨r4, rf4⟩ := row_cell' (j := 4) hhd rfl
      clear hrow hF0 hF1 hF2 hF3 hF4 b0 b1 b2 b3 b4
      have HHDR := Lib.hid hhd
      clear hhd
      go_wp2_with fail
      have hfin := set5 (m0 := (F0 : Int)) (m1 := (F1 : Int)) (m2 := (F2 : Int)) (m3 := (F3 : Int)) (m4 := (F4 : Int)) HHDR.out
      have hbf : Below w.heap.size w (((((wr.setCell ⟨w.heap.size, 0, none⟩ (.int .u32 (F0 : Int))).setCell ⟨w.heap.size, 1, none⟩ (.int .u32 (F1 : Int))).setCell ⟨w.heap.size, 2, none⟩ (.int .u8 (F2 : Int))).setCell ⟨w.heap.size, 3, none⟩ (.int .u16 (F3 : Int))).setCell ⟨w.heap.size, 4, none⟩ (.int .u16 (F4 : Int))) := by
        repeat refine Below.setCell ?_ (by simp) _
        exact HB0.out.trans (hbw.mono (by omega))
      obtain ⟨W9, hW9⟩ : ∃ W9, (((((wr.setCell ⟨w.heap.size, 0, none⟩ (.int .u32 (F0 : Int))).setCell ⟨w.heap.size, 1, none⟩ (.int .u32 (F1 : Int))).setCell ⟨w.heap.size, 2, none⟩ (.int .u8 (F2 : Int))).setCell ⟨w.heap.size, 3, none⟩ (.int .u16 (F3 : Int))).setCell ⟨w.heap.size, 4, none⟩ (.int .u16 (F4 : Int))) = W9 := ⟨_, rfl⟩
      rw [hW9] at hfin hbf ⊢
      clear hW9
      obtain ⟨e0, _⟩ := row_cell' (j := 0) hfin rfl
      obtain ⟨e1, _⟩ := row_cell' (j := 1) hfin rfl
      obtain ⟨e2, _⟩ := row_cell' (j := 2) hfin rfl
      obtain ⟨e3, _⟩ := row_cell' (j := 3) hfin rfl
      obtain ⟨e4, _⟩ := row_cell' (j := 4) hfin rfl
      exact bodyPost_ret (v := .agg #[.int .u32 (F0 : Int), .int .u32 (F1 : Int), .int .u8 (F2 : Int), .int .u16 (F3 : Int), .int .u16 (F4 : Int)]) (by simp [results, Tryd.results31, go_sem, e0, e1, e2, e3, e4]) rfl ⟨congrArg Ending.returned HF.out.symm, hbf⟩
end Go.Proofs.YtbmleejeffaciaaDoor
