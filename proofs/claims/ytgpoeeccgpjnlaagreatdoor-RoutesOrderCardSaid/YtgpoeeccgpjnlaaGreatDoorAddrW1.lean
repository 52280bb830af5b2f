/- What the calls of packages addr and waymarkref01 do that read one prefix or a number: Mask, size, Check, Ends, Subnet. Each under the conditions that it names. -/
import Derived.Test.YtgpoeeccgpjnlaaGreatDoorRows
import Derived.Test.YtgpoeeccgpjnlaaGreatDoorShelf
import Derived.Test.YtgpoeeccgpjnlaaGreatDoorAddrMath
import Derived.Test.YtgpoeeccgpjnlaaGreatDoorKit
namespace Go.Proofs.YtgpoeeccgpjnlaaGreatDoor
open Go.RowKit
theorem agg_eq {a b c d : Int} (h : a = b) (h2 : c = d) : Value.agg #[.int .u32 a, .int .i64 c] = .agg #[.int .u32 b, .int .i64 d] := by rw [h, h2]
theorem ret_pe {v v' : Value} {c d : Int} (h : v = v') (h2 : c = d) : Ending.returned (.tuple #[v, .int .i64 c]) = .returned (.tuple #[v', .int .i64 d]) := by rw [h, h2]
set_option maxHeartbeats 400000 in
theorem mask_ok (n : Int) (w : World) (h0 : 0 ≤ n) (h1 : n ≤ 32) :
    Calls Tryz.prog 75 #[.int .i64 n] w fun e w' => e = .returned (.tuple #[.int .u32 (mk n), .int .i64 0]) ∧ w = w' := by
  go_enter Tryz.func75, Tryz.ntmps75
  go_wp2
  go_ret2
  exact ⟨ret_int2 (by rw [pw_def, mk_shl n h0]) rfl, rfl⟩
set_option maxHeartbeats 400000 in
theorem mask_no (n : Int) (w : World) (h : n < 0 ∨ 32 < n) :
    Calls Tryz.prog 75 #[.int .i64 n] w fun e w' => e = .returned (.tuple #[.int .u32 0, .int .i64 1]) ∧ w = w' := by
  by_cases h0 : n < 0
  · go_enter Tryz.func75, Tryz.ntmps75
    go_wp2
    go_ret2
    exact ⟨rfl, rfl⟩
  · have h1 : 32 < n := by omega
    go_enter Tryz.func75, Tryz.ntmps75
    go_wp2
    go_ret2
    exact ⟨rfl, rfl⟩
set_option maxHeartbeats 400000 in
theorem check_is (a n : Int) (w : World) (ha : 0 ≤ a) (ha2 : a < 4294967296) :
    Calls Tryz.prog 54 #[.agg #[.int .u32 a, .int .i64 n]] w fun e w' => e = .returned (.int .i64 (ck a n)) ∧ Below w.heap.size w w' := by
  rcases ck_three a n with ⟨h, h1⟩ | ⟨h, h1, h2, h3⟩ | ⟨h, h1, h2, h3⟩
  all_goals (have H := Lib.hid h; clear h)
  · go_enter Tryz.func54, Tryz.ntmps54
    go_wp2_with (go_at_call 75; refine (mask_no n _ h1).mono ?_; rintro e w' ⟨rfl, rfl⟩)
    go_ret
    exact ⟨ret_int (by rw [H.out]), by go_grown⟩
  · have h6 : (bits .andNot .u32 a (mk n) != 0) = false := by rw [bnot_mk a n ha ha2 h1, h3]; rfl
    clear h3
    go_enter Tryz.func54, Tryz.ntmps54
    go_wp2_with (go_at_call 75; refine (mask_ok n _ h1 h2).mono ?_; rintro e w' ⟨rfl, rfl⟩)
    go_ret
    exact ⟨ret_int (by rw [H.out]), by go_grown⟩
  · have h6 : (bits .andNot .u32 a (mk n) != 0) = true := by rw [bnot_mk a n ha ha2 h1]; simpa using h3
    clear h3
    go_enter Tryz.func54, Tryz.ntmps54
    go_wp2_with (go_at_call 75; refine (mask_ok n _ h1 h2).mono ?_; rintro e w' ⟨rfl, rfl⟩)
    go_ret
    exact ⟨ret_int (by rw [H.out]), by go_grown⟩
theorem inB_ok (x a n : Int) (h : ck a n = 0) : inB x a n = (decide (a ≤ x) && decide (x < a + pw n)) := by simp [inB, h]
theorem inB_no (x a n : Int) (h : ck a n ≠ 0) : inB x a n = false := by simp [inB, h]
theorem inB_no2 (x a n : Int) (h : ¬ a ≤ x) : inB x a n = false := by simp [inB, h]
end Go.Proofs.YtgpoeeccgpjnlaaGreatDoor
