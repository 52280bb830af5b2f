/- What the calls of packages addr and waymarkref01 do that read one prefix or a number: Mask, size, Check, Ends, Subnet. Each under the conditions that it names. -/
import Derived.Test.YtmbkkjofikijiaaGreatDoorRows
import Derived.Test.YtmbkkjofikijiaaGreatDoorShelf
import Derived.Test.YtmbkkjofikijiaaGreatDoorAddrMath
import Derived.Test.YtmbkkjofikijiaaGreatDoorKit
namespace Go.Proofs.YtmbkkjofikijiaaGreatDoor
open Go.RowKit
theorem agg_eq {a b c d : Int} (h : a = b) (h2 : c = d) : Value.agg #[.int .u32 a, .int .i64 c] = .agg #[.int .u32 b, .int .i64 d] := by rw [h, h2]
theorem ret_pe {v v' : Value} {c d : Int} (h : v = v') (h2 : c = d) : Ending.returned (.tuple #[v, .int .i64 c]) = .returned (.tuple #[v', .int .i64 d]) := by rw [h, h2]
set_option maxHeartbeats 400000 in
theorem mask_ok (n : Int) (w : World) (h0 : 0 ≤ n) (h1 : n ≤ 32) :
    Calls Tryz.prog 119 #[.int .i64 n] w fun e w' => e = .returned (.tuple #[.int .u32 (mk n), .int .i64 0]) ∧ w = w' := by
  go_enter Tryz.func119, Tryz.ntmps119
  go_wp2
  go_ret2
  exact ⟨ret_int2 (by rw [pw_def, mk_shl n h0]) rfl, rfl⟩
set_option maxHeartbeats 400000 in
theorem mask_no (n : Int) (w : World) (h : n < 0 ∨ 32 < n) :
    Calls Tryz.prog 119 #[.int .i64 n] w fun e w' => e = .returned (.tuple #[.int .u32 0, .int .i64 1]) ∧ w = w' := by
  by_cases h0 : n < 0
  · go_enter Tryz.func119, Tryz.ntmps119
    go_wp2
    go_ret2
    exact ⟨rfl, rfl⟩
  · have h1 : 32 < n := by omega
    go_enter Tryz.func119, Tryz.ntmps119
    go_wp2
    go_ret2
    exact ⟨rfl, rfl⟩
set_option maxHeartbeats 400000 in
theorem size_is (n : Int) (w : World) (h0 : 0 ≤ n) (h1 : n ≤ 32) :
    Calls Tryz.prog 65 #[.int .i64 n] w fun e w' => e = .returned (.int .u64 (pw n)) ∧ w = w' := by
  go_enter Tryz.func65, Tryz.ntmps65
  go_wp2
  go_loop [3, 4] (fun o i => ∃ k x : Int, n ≤ k ∧ k ≤ 32 ∧ i = .int .i64 k ∧ 1 ≤ x ∧ Hid (x * pw k = pw n) ∧ o = .int .u64 x) (fun _ i => 32 - (intOf i).toNat)
  case atStart => exact ⟨n, 1, by omega, by omega, rfl, by omega, Lib.hid (by simp), rfl⟩
  case round =>
    obtain ⟨k, x, hk, hk1, rfl, hx, H, rfl⟩ := hrel
    by_cases hlt : k < 32
    · have hx2 : x ≤ 4294967296 := by
        have h2 := H.out
        have h3 := pw_pos k
        have h4 := pw_le n h0
        have h5 : x * 1 ≤ x * pw k := Int.mul_le_mul_of_nonneg_left h3 (by omega)
        omega
      go_wp2
      go_round
      case rel => exact ⟨k + 1, 2 * x, by omega, by omega, rfl, by omega, Lib.hid (by rw [← H.out, pw_succ k hlt, Int.mul_comm 2 x, Int.mul_assoc]), rfl⟩
      case measure => simp [intOf]; omega
    · go_wp2
      go_ret
      exact ⟨ret_int (by obtain rfl : k = 32 := by omega
                         have := H.out
                         rw [pw_32] at this; omega), rfl⟩
set_option maxHeartbeats 400000 in
theorem check_is (a n : Int) (w : World) (ha : 0 ≤ a) (ha2 : a < 4294967296) :
    Calls Tryz.prog 60 #[.agg #[.int .u32 a, .int .i64 n]] w fun e w' => e = .returned (.int .i64 (ck a n)) ∧ Below w.heap.size w w' := by
  rcases ck_three a n with ⟨h, h1⟩ | ⟨h, h1, h2, h3⟩ | ⟨h, h1, h2, h3⟩
  all_goals (have H := Lib.hid h; clear h)
  · go_enter Tryz.func60, Tryz.ntmps60
    go_wp2_with (go_at_call 119; refine (mask_no n _ h1).mono ?_; rintro e w' ⟨rfl, rfl⟩)
    go_ret
    exact ⟨ret_int (by rw [H.out]), by go_grown⟩
  · have h6 : (bits .andNot .u32 a (mk n) != 0) = false := by rw [bnot_mk a n ha ha2 h1, h3]; rfl
    clear h3
    go_enter Tryz.func60, Tryz.ntmps60
    go_wp2_with (go_at_call 119; refine (mask_ok n _ h1 h2).mono ?_; rintro e w' ⟨rfl, rfl⟩)
    go_ret
    exact ⟨ret_int (by rw [H.out]), by go_grown⟩
  · have h6 : (bits .andNot .u32 a (mk n) != 0) = true := by rw [bnot_mk a n ha ha2 h1]; simpa using h3
    clear h3
    go_enter Tryz.func60, Tryz.ntmps60
    go_wp2_with (go_at_call 119; refine (mask_ok n _ h1 h2).mono ?_; rintro e w' ⟨rfl, rfl⟩)
    go_ret
    exact ⟨ret_int (by rw [H.out]), by go_grown⟩
set_option maxHeartbeats 400000 in
theorem rcheck_is (a n : Int) (w : World) (ha : 0 ≤ a) (ha2 : a < 4294967296) :
    Calls Tryz.prog 27 #[.agg #[.int .u32 a, .int .i64 n]] w fun e w' => e = .returned (.int .i64 (ck a n)) ∧ Below w.heap.size w w' := by
  rcases ck_three a n with ⟨h, h1⟩ | ⟨h, h1, h2, h3⟩ | ⟨h, h1, h2, h3⟩
  all_goals (have H := Lib.hid h; clear h)
  · by_cases h0 : n < 0
    · go_enter Tryz.func27, Tryz.ntmps27
      go_wp2_with fail
      go_ret
      exact ⟨ret_int (by rw [H.out]), by go_grown⟩
    · have h1 : 32 < n := by omega
      go_enter Tryz.func27, Tryz.ntmps27
      go_wp2_with fail
      go_ret
      exact ⟨ret_int (by rw [H.out]), by go_grown⟩
  · have hp := pw_pos n
    have h6 : (a % pw n != 0) = false := by rw [h3]; rfl
    clear h3
    go_enter Tryz.func27, Tryz.ntmps27
    go_wp2_with fail
    go_quiet ((go_at_call 65; exact Calls.quiet_of_same ((size_is n _ h1 h2).mono (fun _ _ h => ⟨h.1, h.2.symm⟩))))
    go_wp2
    go_ret
    exact ⟨ret_int (by rw [H.out]), Below.draws (by go_grown) _⟩
  · have hp := pw_pos n
    have h6 : (a % pw n != 0) = true := by simpa using h3
    clear h3
    go_enter Tryz.func27, Tryz.ntmps27
    go_wp2_with fail
    go_quiet ((go_at_call 65; exact Calls.quiet_of_same ((size_is n _ h1 h2).mono (fun _ _ h => ⟨h.1, h.2.symm⟩))))
    go_wp2
    go_ret
    exact ⟨ret_int (by rw [H.out]), Below.draws (by go_grown) _⟩
theorem inB_ok (x a n : Int) (h : ck a n = 0) : inB x a n = (decide (a ≤ x) && decide (x < a + pw n)) := by simp [inB, h]
theorem inB_no (x a n : Int) (h : ck a n ≠ 0) : inB x a n = false := by simp [inB, h]
theorem inB_no2 (x a n : Int) (h : ¬ a ≤ x) : inB x a n = false := by simp [inB, h]
end Go.Proofs.YtmbkkjofikijiaaGreatDoor
