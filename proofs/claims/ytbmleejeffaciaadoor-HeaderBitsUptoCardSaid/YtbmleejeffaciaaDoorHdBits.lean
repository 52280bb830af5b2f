/- What Bits of package waymarkref03 hands back: a header's bits, the highest one first. Under the condition that the fields are what their types hold. -/
import Derived.Test.YtbmleejeffaciaaDoorHdBm
import Derived.Test.YtbmleejeffaciaaDoorOwnRow
import Derived.Test.YtbmleejeffaciaaDoorHdH
import Derived.Deep.CutBlock
namespace Go.Proofs.YtbmleejeffaciaaDoor
open Go.RowKit
theorem infoT : (Tryd.prog.info? 4).map (fun i => (i.zero, i.size, i.bytes)) = some (some (.bool false), 1, 1) := by kernel_rfl
theorem fld_bit {N a w : Nat} {x : Int} (hx : (fv N a w : Int) = x) (hw : w ≤ 32) (ha : a + w ≤ 104) (c : Nat) (hc : c < w) : (bits .and .u64 (x / 2 ^ (w - 1 - c)) 1 == 1) = bt N (a + c) := by
  have h := fv_bit N a w c ha hc
  have hlt := fv_lt N a w
  have h32 : (2 : Nat) ^ w ≤ 2 ^ 32 := Nat.pow_le_pow_right (by omega) hw
  unfold bt
  rw [← h, ← hx]
  have hle : fv N a w / 2 ^ (w - 1 - c) ≤ fv N a w := Nat.div_le_self _ _
  have e : ((fv N a w : Int) / 2 ^ (w - 1 - c)) = ((fv N a w / 2 ^ (w - 1 - c) : Nat) : Int) := by push_cast; rfl
  rw [e, and_one _ (by omega)]
theorem bits_more {w : World} {B n N : Nat} {v : Value} {y : Bool} (hn : n < 104) (hy : bt N n = y) (h : w.ownsRow B 4 1 v (n + 1) (((bl N).take n).map .bool ++ [.bool y])) : w.ownsRow B 4 1 v (n + 1) (((bl N).take (n + 1)).map .bool) := by
  rw [bl_take N n hn, hy, List.map_append]
  exact h
set_option maxRecDepth 100000 in
set_option maxHeartbeats 8000000 in
theorem bits_is (s d p sp dp : Int) (w : World) (h : Hdr s d p sp dp) :
    Calls Tryd.prog 30 #[.agg #[.int .u32 s, .int .u32 d, .int .u8 p, .int .u16 sp, .int .u16 dp]] w fun e w' => ∃ v, e = .returned v ∧ w'.ownsRow w.heap.size 4 1 v 104 ((bl (V (byL s d p sp dp))).map .bool) ∧ Below w.heap.size w w' := by
  obtain ⟨f0, f1, f2, f3, f4⟩ := fv_by h
  obtain ⟨N, hN⟩ : ∃ N, V (byL s d p sp dp) = N := ⟨_, rfl⟩
  rw [hN] at f0 f1 f2 f3 f4 ⊢
  have HX0 := Lib.hid (fun c hc => fld_bit f0 (by omega) (by omega) c hc)
  have HX1 := Lib.hid (fun c hc => fld_bit f1 (by omega) (by omega) c hc)
  have HX2 := Lib.hid (fun c hc => fld_bit f2 (by omega) (by omega) c hc)
  have HX3 := Lib.hid (fun c hc => fld_bit f3 (by omega) (by omega) c hc)
  have HX4 := Lib.hid (fun c hc => fld_bit f4 (by omega) (by omega) c hc)
  obtain ⟨hs0, hs1, hd0, hd1, hp0, hp1, hsp0, hsp1, hdp0, hdp1⟩ := h
  clear hN f0 f1 f2 f3 f4
  obtain ⟨W0, hW0⟩ : ∃ W0, ((w.alloc (.cells #[.int .u32 s, .int .u32 d, .int .u8 p, .int .u16 sp, .int .u16 dp] 27)).alloc (.cells #[.int .u64 s, .int .u64 d, .int .u64 p, .int .u64 sp, .int .u64 dp] 53)).alloc (.cells #[.int .i64 32, .int .i64 32, .int .i64 8, .int .i64 16, .int .i64 16] 3) = W0 := ⟨_, rfl⟩
  have hb0 : Below w.heap.size w W0 := by rw [← hW0]; exact (((Below.refl _ _).alloc (Nat.le_refl _) _).alloc (by simp) _).alloc (by simp; omega) _
  have hADD : W0.heap[w.heap.size + 1]? = some (.cells #[.int .u64 s, .int .u64 d, .int .u64 p, .int .u64 sp, .int .u64 dp] 53 (0, 0)) := by
    rw [← hW0]; exact (heap_alloc_old _ _ (by simp)).trans (heap_alloc2_new w _ _)
  have hWIDE : W0.heap[w.heap.size + 1 + 1]? = some (.cells #[.int .i64 32, .int .i64 32, .int .i64 8, .int .i64 16, .int .i64 16] 3 (0, 0)) := by
    rw [← hW0]
    have := heap_alloc2_new (w.alloc (.cells #[.int .u32 s, .int .u32 d, .int .u8 p, .int .u16 sp, .int .u16 dp] 27)) (.cells #[.int .u64 s, .int .u64 d, .int .u64 p, .int .u64 sp, .int .u64 dp] 53) (.cells #[.int .i64 32, .int .i64 32, .int .i64 8, .int .i64 16, .int .i64 16] 3)
    simpa using this
  have hz2 : w.heap.size + 1 + 1 < W0.heap.size := (Array.getElem?_eq_some_iff.1 hWIDE).1
  have hz1 : w.heap.size + 1 < W0.heap.size := by omega
  have HB0 := Lib.hid hb0; have HADD := Lib.hid hADD; have HWIDE := Lib.hid hWIDE
  clear hb0 hADD hWIDE
  obtain ⟨i0, hi0, hq0, hq1, hq2⟩ := info_parts infoT
  go_enter Tryd.func30, Tryd.ntmps30
  go_wp2_with fail
  try rw [hW0]
  clear hW0
  go_loopw [3, 6] (fun s3 s6 wr => ∃ i n : Nat, s6 = .int .i64 i ∧ ((i = 0 ∧ n = 0) ∨ (i = 1 ∧ n = 32) ∨ (i = 2 ∧ n = 64) ∨ (i = 3 ∧ n = 72) ∨ (i = 4 ∧ n = 88) ∨ (i = 5 ∧ n = 104)) ∧ wr.ownsRow W0.heap.size 4 1 s3 n (((bl N).take n).map .bool) ∧ Below W0.heap.size W0 wr) (fun _ s6 _ => 5 - (intOf s6).toNat)
  case atStart => exact ⟨0, 0, rfl, .inl ⟨rfl, rfl⟩, World.ownsRow_nil _ _ _ _, Below.refl _ _⟩
  case round =>
    obtain ⟨i, n, rfl, hin, hown, hbw⟩ := hrel
    have hadd := (hbw.block _ hz1).trans HADD.out
    have hwide := (hbw.block _ hz2).trans HWIDE.out
    rcases hin with ⟨rfl, rfl⟩ | ⟨rfl, rfl⟩ | ⟨rfl, rfl⟩ | ⟨rfl, rfl⟩ | ⟨rfl, rfl⟩ | ⟨rfl, rfl⟩
    · have HX := HX0
      obtain ⟨k0, _⟩ := row_cell' (j := 0) hadd rfl
      obtain ⟨k1, _⟩ := row_cell' (j := 0) hwide rfl
      clear hadd hwide
      go_wp2_with fail
      go_loopw [3, 7] (fun s3 s7 wq => ∃ c : Nat, c ≤ 32 ∧ s7 = .int .i64 (31 - (c : Int)) ∧ wq.ownsRow W0.heap.size 4 1 s3 (0 + c) (((bl N).take (0 + c)).map .bool) ∧ Below W0.heap.size W0 wq) (fun _ s7 _ => (32 - 31 + (intOf s7)).toNat)
      case atStart => exact ⟨0, by omega, by simp, hown, hbw⟩
      case round =>
        obtain ⟨c, hc, rfl, hown, hbw⟩ := hrel
        have hadd := (hbw.block _ hz1).trans HADD.out
        have hwide := (hbw.block _ hz2).trans HWIDE.out
        obtain ⟨k0, _⟩ := row_cell' (j := 0) hadd rfl
        clear hadd
        by_cases hlt : c < 32
        · have hc0 : (0 : Int) ≤ 31 - (c : Int) := by omega
          have hc1 : 31 - (c : Int) < 64 := by omega
          have hc2 : (c : Int) ≤ 31 := by omega
          obtain ⟨y, hy⟩ : ∃ y, bt N (0 + c) = y := ⟨_, rfl⟩
          have hbit : (bits .and .u64 (s / 2 ^ (31 - c)) 1 == 1) = y := (HX.out c hlt).trans hy
          have HY := Lib.hid hy
          clear hy
          have hle := hbw.size
          go_wp2_with (at_builtin; refine wpList_append_own _ rfl _ _ 56 rfl W0.heap.size 4 i0 (.bool false) 1 1 Tryd.underlying56 hi0 hq0 hq1 hq2 rfl (by decide) _ _ _ rfl (hown.alloc _) ⟨wr.heap.size, 0, none⟩ 1 1 [.bool y] rfl rfl (cell_one_new _ _ _) (fun x hx => by simp at hx; rcases hx with rfl; rfl) (by unfold maxLen; omega) (by omega) (by simp; omega) ?_; intro v' w3 hown' hgrow3 hnil3)
          have hbw3 : Below W0.heap.size W0 w3 := Below.grown (hbw.alloc hle _) hgrow3 (by simp; omega) (fun j hj => (hown.lt _ hj).1)
          go_roundw
          case rel =>
            have hv : Value.int .i64 (31 - (c : Int) - 1) = .int .i64 (31 - ((c + 1 : Nat) : Int)) := congrArg (Value.int .i64) (by omega)
            (repeat apply Exists.intro)
            refine ⟨?_, rfl⟩
            exact ⟨c + 1, by omega, hv, bits_more (n := 0 + c) (by omega) HY.out hown', hbw3⟩
          case measure => first | (simp [intOf]; done) | (simp [intOf]; omega)
        · obtain rfl : c = 32 := by omega
          clear hlt
          go_wp2_with fail
          go_roundw
          case rel => exact ⟨1, 32, rfl, by omega, hown, hbw⟩
          case measure => first | (simp [intOf]; done) | (simp [intOf]; omega)
    · have HX := HX1
      obtain ⟨k0, _⟩ := row_cell' (j := 1) hadd rfl
      obtain ⟨k1, _⟩ := row_cell' (j := 1) hwide rfl
      clear hadd hwide
      go_wp2_with fail
      go_loopw [3, 7] (fun s3 s7 wq => ∃ c : Nat, c ≤ 32 ∧ s7 = .int .i64 (31 - (c : Int)) ∧ wq.ownsRow W0.heap.size 4 1 s3 (32 + c) (((bl N).take (32 + c)).map .bool) ∧ Below W0.heap.size W0 wq) (fun _ s7 _ => (32 - 31 + (intOf s7)).toNat)
      case atStart => exact ⟨0, by omega, by simp, hown, hbw⟩
      case round =>
        obtain ⟨c, hc, rfl, hown, hbw⟩ := hrel
        have hadd := (hbw.block _ hz1).trans HADD.out
        have hwide := (hbw.block _ hz2).trans HWIDE.out
        obtain ⟨k0, _⟩ := row_cell' (j := 1) hadd rfl
        clear hadd
        by_cases hlt : c < 32
        · have hc0 : (0 : Int) ≤ 31 - (c : Int) := by omega
          have hc1 : 31 - (c : Int) < 64 := by omega
          have hc2 : (c : Int) ≤ 31 := by omega
          obtain ⟨y, hy⟩ : ∃ y, bt N (32 + c) = y := ⟨_, rfl⟩
          have hbit : (bits .and .u64 (d / 2 ^ (31 - c)) 1 == 1) = y := (HX.out c hlt).trans hy
          have HY := Lib.hid hy
          clear hy
          have hle := hbw.size
          go_wp2_with (at_builtin; refine wpList_append_own _ rfl _ _ 56 rfl W0.heap.size 4 i0 (.bool false) 1 1 Tryd.underlying56 hi0 hq0 hq1 hq2 rfl (by decide) _ _ _ rfl (hown.alloc _) ⟨wr.heap.size, 0, none⟩ 1 1 [.bool y] rfl rfl (cell_one_new _ _ _) (fun x hx => by simp at hx; rcases hx with rfl; rfl) (by unfold maxLen; omega) (by omega) (by simp; omega) ?_; intro v' w3 hown' hgrow3 hnil3)
          have hbw3 : Below W0.heap.size W0 w3 := Below.grown (hbw.alloc hle _) hgrow3 (by simp; omega) (fun j hj => (hown.lt _ hj).1)
          go_roundw
          case rel =>
            have hv : Value.int .i64 (31 - (c : Int) - 1) = .int .i64 (31 - ((c + 1 : Nat) : Int)) := congrArg (Value.int .i64) (by omega)
            (repeat apply Exists.intro)
            refine ⟨?_, rfl⟩
            exact ⟨c + 1, by omega, hv, bits_more (n := 32 + c) (by omega) HY.out hown', hbw3⟩
          case measure => first | (simp [intOf]; done) | (simp [intOf]; omega)
        · obtain rfl : c = 32 := by omega
          clear hlt
          go_wp2_with fail
          go_roundw
          case rel => exact ⟨2, 64, rfl, by omega, hown, hbw⟩
          case measure => first | (simp [intOf]; done) | (simp [intOf]; omega)
    · have HX := HX2
      obtain ⟨k0, _⟩ := row_cell' (j := 2) hadd rfl
      obtain ⟨k1, _⟩ := row_cell' (j := 2) hwide rfl
      clear hadd hwide
      go_wp2_with fail
      go_loopw [3, 7] (fun s3 s7 wq => ∃ c : Nat, c ≤ 8 ∧ s7 = .int .i64 (7 - (c : Int)) ∧ wq.ownsRow W0.heap.size 4 1 s3 (64 + c) (((bl N).take (64 + c)).map .bool) ∧ Below W0.heap.size W0 wq) (fun _ s7 _ => (8 - 7 + (intOf s7)).toNat)
      case atStart => exact ⟨0, by omega, by simp, hown, hbw⟩
      case round =>
        obtain ⟨c, hc, rfl, hown, hbw⟩ := hrel
        have hadd := (hbw.block _ hz1).trans HADD.out
        have hwide := (hbw.block _ hz2).trans HWIDE.out
        obtain ⟨k0, _⟩ := row_cell' (j := 2) hadd rfl
        clear hadd
        by_cases hlt : c < 8
        · have hc0 : (0 : Int) ≤ 7 - (c : Int) := by omega
          have hc1 : 7 - (c : Int) < 64 := by omega
          have hc2 : (c : Int) ≤ 7 := by omega
          obtain ⟨y, hy⟩ : ∃ y, bt N (64 + c) = y := ⟨_, rfl⟩
          have hbit : (bits .and .u64 (p / 2 ^ (7 - c)) 1 == 1) = y := (HX.out c hlt).trans hy
          have HY := Lib.hid hy
          clear hy
          have hle := hbw.size
          go_wp2_with (at_builtin; refine wpList_append_own _ rfl _ _ 56 rfl W0.heap.size 4 i0 (.bool false) 1 1 Tryd.underlying56 hi0 hq0 hq1 hq2 rfl (by decide) _ _ _ rfl (hown.alloc _) ⟨wr.heap.size, 0, none⟩ 1 1 [.bool y] rfl rfl (cell_one_new _ _ _) (fun x hx => by simp at hx; rcases hx with rfl; rfl) (by unfold maxLen; omega) (by omega) (by simp; omega) ?_; intro v' w3 hown' hgrow3 hnil3)
          have hbw3 : Below W0.heap.size W0 w3 := Below.grown (hbw.alloc hle _) hgrow3 (by simp; omega) (fun j hj => (hown.lt _ hj).1)
          go_roundw
          case rel =>
            have hv : Value.int .i64 (7 - (c : Int) - 1) = .int .i64 (7 - ((c + 1 : Nat) : Int)) := congrArg (Value.int .i64) (by omega)
            (repeat apply Exists.intro)
            refine ⟨?_, rfl⟩
            exact ⟨c + 1, by omega, hv, bits_more (n := 64 + c) (by omega) HY.out hown', hbw3⟩
          case measure => first | (simp [intOf]; done) | (simp [intOf]; omega)
        · obtain rfl : c = 8 := by omega
          clear hlt
          go_wp2_with fail
          go_roundw
          case rel => exact ⟨3, 72, rfl, by omega, hown, hbw⟩
          case measure => first | (simp [intOf]; done) | (simp [intOf]; omega)
    · have HX := HX3
      obtain ⟨k0, _⟩ := row_cell' (j := 3) hadd rfl
      obtain ⟨k1, _⟩ := row_cell' (j := 3) hwide rfl
      clear hadd hwide
      go_wp2_with fail
      go_loopw [3, 7] (fun s3 s7 wq => ∃ c : Nat, c ≤ 16 ∧ s7 = .int .i64 (15 - (c : Int)) ∧ wq.ownsRow W0.heap.size 4 1 s3 (72 + c) (((bl N).take (72 + c)).map .bool) ∧ Below W0.heap.size W0 wq) (fun _ s7 _ => (16 - 15 + (intOf s7)).toNat)
      case atStart => exact ⟨0, by omega, by simp, hown, hbw⟩
      case round =>
        obtain ⟨c, hc, rfl, hown, hbw⟩ := hrel
        have hadd := (hbw.block _ hz1).trans HADD.out
        have hwide := (hbw.block _ hz2).trans HWIDE.out
        obtain ⟨k0, _⟩ := row_cell' (j := 3) hadd rfl
        clear hadd
        by_cases hlt : c < 16
        · have hc0 : (0 : Int) ≤ 15 - (c : Int) := by omega
          have hc1 : 15 - (c : Int) < 64 := by omega
          have hc2 : (c : Int) ≤ 15 := by omega
          obtain ⟨y, hy⟩ : ∃ y, bt N (72 + c) = y := ⟨_, rfl⟩
          have hbit : (bits .and .u64 (sp / 2 ^ (15 - c)) 1 == 1) = y := (HX.out c hlt).trans hy
          have HY := Lib.hid hy
          clear hy
          have hle := hbw.size
          go_wp2_with (at_builtin; refine wpList_append_own _ rfl _ _ 56 rfl W0.heap.size 4 i0 (.bool false) 1 1 Tryd.underlying56 hi0 hq0 hq1 hq2 rfl (by decide) _ _ _ rfl (hown.alloc _) ⟨wr.heap.size, 0, none⟩ 1 1 [.bool y] rfl rfl (cell_one_new _ _ _) (fun x hx => by simp at hx; rcases hx with rfl; rfl) (by unfold maxLen; omega) (by omega) (by simp; omega) ?_; intro v' w3 hown' hgrow3 hnil3)
          have hbw3 : Below W0.heap.size W0 w3 := Below.grown (hbw.alloc hle _) hgrow3 (by simp; omega) (fun j hj => (hown.lt _ hj).1)
          go_roundw
          case rel =>
            have hv : Value.int .i64 (15 - (c : Int) - 1) = .int .i64 (15 - ((c + 1 : Nat) : Int)) := congrArg (Value.int .i64) (by omega)
            (repeat apply Exists.intro)
            refine ⟨?_, rfl⟩
            exact ⟨c + 1, by omega, hv, bits_more (n := 72 + c) (by omega) HY.out hown', hbw3⟩
          case measure => first | (simp [intOf]; done) | (simp [intOf]; omega)
        · obtain rfl : c = 16 := by omega
          clear hlt
          go_wp2_with fail
          go_roundw
          case rel => exact ⟨4, 88, rfl, by omega, hown, hbw⟩
          case measure => first | (simp [intOf]; done) | (simp [intOf]; omega)
    · have HX := HX4
      obtain ⟨k0, _⟩ := row_cell' (j := 4) hadd rfl
      obtain ⟨k1, _⟩ := row_cell' (j := 4) hwide rfl
      clear hadd hwide
      go_wp2_with fail
      go_loopw [3, 7] (fun s3 s7 wq => ∃ c : Nat, c ≤ 16 ∧ s7 = .int .i64 (15 - (c : Int)) ∧ wq.ownsRow W0.heap.size 4 1 s3 (88 + c) (((bl N).take (88 + c)).map .bool) ∧ Below W0.heap.size W0 wq) (fun _ s7 _ => (16 - 15 + (intOf s7)).toNat)
      case atStart => exact ⟨0, by omega, by simp, hown, hbw⟩
      case round =>
        obtain ⟨c, hc, rfl, hown, hbw⟩ := hrel
        have hadd := (hbw.block _ hz1).trans HADD.out
        have hwide := (hbw.block _ hz2).trans HWIDE.out
        obtain ⟨k0, _⟩ := row_cell' (j := 4) hadd rfl
        clear hadd
        by_cases hlt : c < 16
        · have hc0 : (0 : Int) ≤ 15 - (c : Int) := by omega
          have hc1 : 15 - (c : Int) < 64 := by omega
          have hc2 : (c : Int) ≤ 15 := by omega
          obtain ⟨y, hy⟩ : ∃ y, bt N (88 + c) = y := ⟨_, rfl⟩
          have hbit : (bits .and .u64 (dp / 2 ^ (15 - c)) 1 == 1) = y := (HX.out c hlt).trans hy
          have HY := Lib.hid hy
          clear hy
          have hle := hbw.size
          go_wp2_with (at_builtin; refine wpList_append_own _ rfl _ _ 56 rfl W0.heap.size 4 i0 (.bool false) 1 1 Tryd.underlying56 hi0 hq0 hq1 hq2 rfl (by decide) _ _ _ rfl (hown.alloc _) ⟨wr.heap.size, 0, none⟩ 1 1 [.bool y] rfl rfl (cell_one_new _ _ _) (fun x hx => by simp at hx; rcases hx with rfl; rfl) (by unfold maxLen; omega) (by omega) (by simp; omega) ?_; intro v' w3 hown' hgrow3 hnil3)
          have hbw3 : Below W0.heap.size W0 w3 := Below.grown (hbw.alloc hle _) hgrow3 (by simp; omega) (fun j hj => (hown.lt _ hj).1)
          go_roundw
          case rel =>
            have hv : Value.int .i64 (15 - (c : Int) - 1) = .int .i64 (15 - ((c + 1 : Nat) : Int)) := congrArg (Value.int .i64) (by omega)
            (repeat apply Exists.intro)
            refine ⟨?_, rfl⟩
            exact ⟨c + 1, by omega, hv, bits_more (n := 88 + c) (by omega) HY.out hown', hbw3⟩
          case measure => first | (simp [intOf]; done) | (simp [intOf]; omega)
        · obtain rfl : c = 16 := by omega
          clear hlt
          go_wp2_with fail
          go_roundw
          case rel => exact ⟨5, 104, rfl, by omega, hown, hbw⟩
          case measure => first | (simp [intOf]; done) | (simp [intOf]; omega)
    · clear hadd hwide
      have hfull : (bl N).take 104 = bl N := List.take_of_length_le (by rw [bl_len]; omega)
      rw [hfull] at hown
      go_wp2_with fail
      go_ret
      exact ⟨_, rfl, ownsRow_base hown HB0.out.size, Below.step HB0.out hbw⟩
end Go.Proofs.YtbmleejeffaciaaDoor
