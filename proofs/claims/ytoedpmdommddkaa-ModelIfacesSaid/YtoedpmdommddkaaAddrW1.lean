/- What the calls of packages addr and waymarkref01 do that read one prefix or a number: Mask, size, Check, Ends, Subnet. Each under the conditions that it names. -/
import Derived.Test.YtoedpmdommddkaaRows
import Derived.Test.YtoedpmdommddkaaAddrMath
import Derived.Test.YtoedpmdommddkaaKit
namespace Go.Proofs.Ytoedpmdommddkaa
open Go.RowKit
theorem agg_eq {a b c d : Int} (h : a = b) (h2 : c = d) : Value.agg #[.int .u32 a, .int .i64 c] = .agg #[.int .u32 b, .int .i64 d] := by rw [h, h2]
theorem ret_pe {v v' : Value} {c d : Int} (h : v = v') (h2 : c = d) : Ending.returned (.tuple #[v, .int .i64 c]) = .returned (.tuple #[v', .int .i64 d]) := by rw [h, h2]
set_option maxHeartbeats 400000 in
theorem mask_ok (n : Int) (w : World) (h0 : 0 ≤ n) (h1 : n ≤ 32) :
    Calls Try.prog 11 #[.int .i64 n] w fun e w' => e = .returned (.tuple #[.int .u32 (mk n), .int .i64 0]) ∧ w = w' := by
  go_enter Try.func11, Try.ntmps11
  go_wp2
  go_ret2
  exact ⟨ret_int2 (by rw [pw_def, mk_shl n h0]) rfl, rfl⟩
set_option maxHeartbeats 400000 in
theorem mask_no (n : Int) (w : World) (h : n < 0 ∨ 32 < n) :
    Calls Try.prog 11 #[.int .i64 n] w fun e w' => e = .returned (.tuple #[.int .u32 0, .int .i64 1]) ∧ w = w' := by
  by_cases h0 : n < 0
  · go_enter Try.func11, Try.ntmps11
    go_wp2
    go_ret2
    exact ⟨rfl, rfl⟩
  · have h1 : 32 < n := by omega
    go_enter Try.func11, Try.ntmps11
    go_wp2
    go_ret2
    exact ⟨rfl, rfl⟩
set_option maxHeartbeats 400000 in
theorem size_is (n : Int) (w : World) (h0 : 0 ≤ n) (h1 : n ≤ 32) :
    Calls Try.prog 12 #[.int .i64 n] w fun e w' => e = .returned (.int .u64 (pw n)) ∧ w = w' := by
  go_enter Try.func12, Try.ntmps12
  go_wp2
  go_loop [3, 4] (fun o i => ∃ k x : Int, n ≤ k ∧ k ≤ 32 ∧ i = .int .i64 k ∧ 1 ≤ x ∧ Hid (x * pw k = pw n) ∧ o = .int .u64 x) (fun _ i => 32 - (intOf i).toNat)
  case atStart => exact ⟨n, 1, by omega, by omega, rfl, by omega, Lib.hid (by simp), rfl⟩
  case round =>
    obtain ⟨k, x, hk, hk1, rfl, hx, H, rfl⟩ := hrel
    by_cases hlt : k < 32
    · have hx2 : x ≤ 4294967296 := by
        have h2 := H.out
        have h3 := pw_pos k
        have h4 := pw_le n h0
        have h5 : x * 1 ≤ x * pw k := Int.mul_le_mul_of_nonneg_left h3 (by omega)
        omega
      go_wp2
      go_round
      case rel => exact ⟨k + 1, 2 * x, by omega, by omega, rfl, by omega, Lib.hid (by rw [← H.out, pw_succ k hlt, Int.mul_comm 2 x, Int.mul_assoc]), rfl⟩
      case measure => simp [intOf]; omega
    · go_wp2
      go_ret
      exact ⟨ret_int (by obtain rfl : k = 32 := by omega
                         have := H.out
                         rw [pw_32] at this; omega), rfl⟩
set_option maxHeartbeats 400000 in
theorem sub_ok (a n : Int) (w : World) (ha : 0 ≤ a) (ha2 : a < 4294967296) (h0 : 0 ≤ n) (h1 : n ≤ 32) :
    Calls Try.prog 9 #[.int .u32 a, .int .i64 n] w fun e w' => e = .returned (.tuple #[.agg #[.int .u32 (a / pw n * pw n), .int .i64 n], .int .i64 0]) ∧ Below w.heap.size w w' := by
  have hq := band_mk a n ha ha2 h0
  have HQ := Lib.hid hq; clear hq
  go_enter Try.func9, Try.ntmps9
  go_wp2_with (go_at_call 11; refine (mask_ok n _ h0 h1).mono ?_; rintro e w' ⟨rfl, rfl⟩)
  go_returns
  exact ⟨ret_pe (agg_eq HQ.out rfl) rfl, by go_grown⟩
set_option maxHeartbeats 400000 in
theorem sub_no (a n : Int) (w : World) (h : n < 0 ∨ 32 < n) :
    Calls Try.prog 9 #[.int .u32 a, .int .i64 n] w fun e w' => e = .returned (.tuple #[.agg #[.int .u32 0, .int .i64 0], .int .i64 1]) ∧ Below w.heap.size w w' := by
  go_enter Try.func9, Try.ntmps9
  go_wp2_with (go_at_call 11; refine (mask_no n _ h).mono ?_; rintro e w' ⟨rfl, rfl⟩)
  go_returns
  exact ⟨rfl, by go_grown⟩
set_option maxHeartbeats 400000 in
theorem rsub_no (a n : Int) (w : World) (h : n < 0 ∨ 32 < n) :
    Calls Try.prog 10 #[.int .u32 a, .int .i64 n] w fun e w' => e = .returned (.tuple #[.agg #[.int .u32 0, .int .i64 0], .int .i64 1]) ∧ Below w.heap.size w w' := by
  by_cases h0 : n < 0
  · go_enter Try.func10, Try.ntmps10
    go_wp2_with fail
    go_returns
    exact ⟨rfl, by go_grown⟩
  · have h1 : 32 < n := by omega
    go_enter Try.func10, Try.ntmps10
    go_wp2_with fail
    go_returns
    exact ⟨rfl, by go_grown⟩
set_option maxHeartbeats 400000 in
theorem rsub_ok (a n : Int) (w : World) (ha : 0 ≤ a) (ha2 : a < 4294967296) (h0 : 0 ≤ n) (h1 : n ≤ 32) :
    Calls Try.prog 10 #[.int .u32 a, .int .i64 n] w fun e w' => e = .returned (.tuple #[.agg #[.int .u32 (a / pw n * pw n), .int .i64 n], .int .i64 0]) ∧ Below w.heap.size w w' := by
  have hp := pw_pos n
  have hd : 0 ≤ a / pw n * pw n := Int.mul_nonneg (Int.ediv_nonneg ha (by omega)) (by omega)
  have hd2 : a / pw n * pw n ≤ a := Int.ediv_mul_le a (by omega)
  have hp0 : ¬ pw n = 0 := by omega
  have e1 : IntKind.u64.wrap a = a := IntWalk.u64_in _ ⟨by omega, by omega⟩
  have e2 : IntKind.u64.wrap (a / pw n * pw n) = a / pw n * pw n := IntWalk.u64_in _ ⟨by omega, by omega⟩
  have e3 : IntKind.u32.wrap (a / pw n * pw n) = a / pw n * pw n := IntWalk.u32_in _ ⟨by omega, by omega⟩
  go_enter Try.func10, Try.ntmps10
  go_wp2_with fail
  refine wp_region_still_tail 11 (by kernel_rfl) (by kernel_rfl) ?_
  simp only [List.take_succ_cons, List.take_zero, List.drop_succ_cons, List.drop_zero]
  repeat (first | still_step | (refine wpStill_step (fun K hK => ?_); go_simp; refine ⟨_, (size_is n _ h0 h1).mono (fun _ _ h => ⟨h.1, h.2.symm⟩), hK _ ?_⟩; clear hK K))
  refine wpStill_nil ?_
  change wpList _ _ _ _ _ (World.drew (w.alloc _))
  go_wp2
  go_returns
  exact ⟨rfl, by go_grown⟩
theorem inB_ok (x a n : Int) (h : ck a n = 0) : inB x a n = (decide (a ≤ x) && decide (x < a + pw n)) := by simp [inB, h]
theorem inB_no (x a n : Int) (h : ck a n ≠ 0) : inB x a n = false := by simp [inB, h]
theorem inB_no2 (x a n : Int) (h : ¬ a ≤ x) : inB x a n = false := by simp [inB, h]
end Go.Proofs.Ytoedpmdommddkaa
