/- What the calls of packages addr and waymarkref01 do that read one prefix or a number: Mask, size, Check, Ends, Subnet. Each under the conditions that it names. -/
import Derived.Test.YtkkhmdiffddllaaDoorRows
import Derived.Test.YtkkhmdiffddllaaDoorShelf
import Derived.Test.YtkkhmdiffddllaaDoorAddrMath
import Derived.Test.YtkkhmdiffddllaaDoorKit
namespace Go.Proofs.YtkkhmdiffddllaaDoor
open Go.RowKit
theorem agg_eq {a b c d : Int} (h : a = b) (h2 : c = d) : Value.agg #[.int .u32 a, .int .i64 c] = .agg #[.int .u32 b, .int .i64 d] := by rw [h, h2]
theorem ret_pe {v v' : Value} {c d : Int} (h : v = v') (h2 : c = d) : Ending.returned (.tuple #[v, .int .i64 c]) = .returned (.tuple #[v', .int .i64 d]) := by rw [h, h2]
set_option maxHeartbeats 400000 in
theorem mask_ok (n : Int) (w : World) (h0 : 0 ≤ n) (h1 : n ≤ 32) :
    Calls Tryd.prog 92 #[.int .i64 n] w fun e w' => e = .returned (.tuple #[.int .u32 (mk n), .int .i64 0]) ∧ w = w' := by
  go_enter Tryd.func92, Tryd.ntmps92
  go_wp2
  go_ret2
  exact ⟨ret_int2 (by rw [pw_def, mk_shl n h0]) rfl, rfl⟩
set_option maxHeartbeats 400000 in
theorem mask_no (n : Int) (w : World) (h : n < 0 ∨ 32 < n) :
    Calls Tryd.prog 92 #[.int .i64 n] w fun e w' => e = .returned (.tuple #[.int .u32 0, .int .i64 1]) ∧ w = w' := by
  by_cases h0 : n < 0
  · go_enter Tryd.func92, Tryd.ntmps92
    go_wp2
    go_ret2
    exact ⟨rfl, rfl⟩
  · have h1 : 32 < n := by omega
    go_enter Tryd.func92, Tryd.ntmps92
    go_wp2
    go_ret2
    exact ⟨rfl, rfl⟩
set_option maxHeartbeats 400000 in
theorem check_is (a n : Int) (w : World) (ha : 0 ≤ a) (ha2 : a < 4294967296) :
    Calls Tryd.prog 79 #[.agg #[.int .u32 a, .int .i64 n]] w fun e w' => e = .returned (.int .i64 (ck a n)) ∧ Below w.heap.size w w' := by
  rcases ck_three a n with ⟨h, h1⟩ | ⟨h, h1, h2, h3⟩ | ⟨h, h1, h2, h3⟩
  all_goals (have H := Lib.hid h; clear h)
  · go_enter Tryd.func79, Tryd.ntmps79
    go_wp2_with (go_at_call 92; refine (mask_no n _ h1).mono ?_; rintro e w' ⟨rfl, rfl⟩)
    go_ret
    exact ⟨ret_int (by rw [H.out]), by go_grown⟩
  · have h6 : (bits .andNot .u32 a (mk n) != 0) = false := by rw [bnot_mk a n ha ha2 h1, h3]; rfl
    clear h3
    go_enter Tryd.func79, Tryd.ntmps79
    go_wp2_with (go_at_call 92; refine (mask_ok n _ h1 h2).mono ?_; rintro e w' ⟨rfl, rfl⟩)
    go_ret
    exact ⟨ret_int (by rw [H.out]), by go_grown⟩
  · have h6 : (bits .andNot .u32 a (mk n) != 0) = true := by rw [bnot_mk a n ha ha2 h1]; simpa using h3
    clear h3
    go_enter Tryd.func79, Tryd.ntmps79
    go_wp2_with (go_at_call 92; refine (mask_ok n _ h1 h2).mono ?_; rintro e w' ⟨rfl, rfl⟩)
    go_ret
    exact ⟨ret_int (by rw [H.out]), by go_grown⟩
set_option maxHeartbeats 400000 in
theorem ends_ok (a n : Int) (w : World) (ha : 0 ≤ a) (ha2 : a < 4294967296) (h : ck a n = 0) :
    Calls Tryd.prog 93 #[.agg #[.int .u32 a, .int .i64 n]] w fun e w' => e = .returned (.tuple #[.int .u32 a, .int .u32 (a + (pw n - 1)), .int .i64 0]) ∧ Below w.heap.size w w' := by
  obtain ⟨h1, h2, h3⟩ := ck_ok a n h
  have H := Lib.hid h; clear h
  have hq0 : bits .or .u32 a (bits .xor .u32 IntKind.u32.max (mk n)) = a + (pw n - 1) := by
    rw [show IntKind.u32.max = 4294967295 from rfl, bxor_mk n h1]; exact bor_mk a n _ ha ha2 h1 h3 rfl
  have hq := Lib.hid hq0; clear hq0
  clear h3
  go_enter Tryd.func93, Tryd.ntmps93
  go_wp2_with (first | (go_at_call 79; refine (check_is a n _ ha ha2).mono ?_; rintro e w1 ⟨rfl, hb⟩; rw [H.out]; obtain ⟨hc, hf⟩ := bcell hb) | (go_at_call 92; refine (mask_ok n _ h1 h2).mono ?_; rintro e w' ⟨rfl, rfl⟩))
  go_quiet (fail)
  go_wp2
  go_ret3
  exact ⟨ret_int3 rfl hq.out rfl, Below.draws (Below.step (by go_grown) hb) _⟩
set_option maxHeartbeats 400000 in
theorem ends_no (a n c : Int) (w : World) (ha : 0 ≤ a) (ha2 : a < 4294967296) (h : ck a n = c) (hn : c ≠ 0) :
    Calls Tryd.prog 93 #[.agg #[.int .u32 a, .int .i64 n]] w fun e w' => e = .returned (.tuple #[.int .u32 0, .int .u32 0, .int .i64 c]) ∧ Below w.heap.size w w' := by
  have H := Lib.hid h; clear h
  have hn2 : (c != 0) = true := by simpa using hn
  go_enter Tryd.func93, Tryd.ntmps93
  go_wp2_with (go_at_call 79; refine (check_is a n _ ha ha2).mono ?_; rintro e w1 ⟨rfl, hb⟩; rw [H.out]; obtain ⟨hc, hf⟩ := bcell hb)
  go_ret3
  exact ⟨rfl, Below.step (by go_grown) hb⟩
theorem inB_ok (x a n : Int) (h : ck a n = 0) : inB x a n = (decide (a ≤ x) && decide (x < a + pw n)) := by simp [inB, h]
theorem inB_no (x a n : Int) (h : ck a n ≠ 0) : inB x a n = false := by simp [inB, h]
set_option maxHeartbeats 400000 in
theorem in_is (x a n : Int) (w : World) (ha : 0 ≤ a) (ha2 : a < 4294967296) :
    Calls Tryd.prog 80 #[.int .u32 x, .agg #[.int .u32 a, .int .i64 n]] w fun e w' => e = .returned (.bool (inB x a n)) ∧ Below w.heap.size w w' := by
  by_cases h : ck a n = 0
  · have H := Lib.hid (inB_ok x a n h)
    by_cases h1 : a ≤ x
    · by_cases h2 : x ≤ a + (pw n - 1)
      all_goals
        go_enter Tryd.func80, Tryd.ntmps80
        go_wp2_with (go_at_call 93; refine (ends_ok a n _ ha ha2 h).mono ?_; rintro e w1 ⟨rfl, hb⟩)
        go_ret
        exact ⟨ret_bool (by rw [H.out, Bool.eq_iff_iff]; simp; omega), Below.step (by go_grown) hb⟩
    · go_enter Tryd.func80, Tryd.ntmps80
      go_wp2_with (go_at_call 93; refine (ends_ok a n _ ha ha2 h).mono ?_; rintro e w1 ⟨rfl, hb⟩)
      go_ret
      exact ⟨ret_bool (by rw [H.out, Bool.eq_iff_iff]; simp; omega), Below.step (by go_grown) hb⟩
  · have H := Lib.hid (inB_no x a n h)
    obtain ⟨c, hc0⟩ : ∃ c, c = ck a n := ⟨_, rfl⟩
    have hc1 : (c == 0) = false := by rw [hc0]; simpa using h
    have hc2 : c ≠ 0 := by rw [hc0]; exact h
    have HC := Lib.hid hc0.symm; clear hc0 h
    go_enter Tryd.func80, Tryd.ntmps80
    go_wp2_with (go_at_call 93; refine (ends_no a n c _ ha ha2 HC.out hc2).mono ?_; rintro e w1 ⟨rfl, hb⟩)
    go_ret
    exact ⟨ret_bool (by rw [H.out]), Below.step (by go_grown) hb⟩
theorem inB_no2 (x a n : Int) (h : ¬ a ≤ x) : inB x a n = false := by simp [inB, h]
end Go.Proofs.YtkkhmdiffddllaaDoor
