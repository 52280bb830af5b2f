/- What the calls of packages addr and waymarkref01 do that order prefixes, halve them, or find what two have in common; Bits; same. Each under the conditions that it names. -/
import Derived.Test.YtdjjogcagolcjaaAddrW2
namespace Go.Proofs.Ytdjjogcagolcjaa
open Go.RowKit
theorem sameB (a n b m : Int) : (decide (a = b) && decide (n = m)) = decide (a = b ∧ n = m) := by simp
set_option maxHeartbeats 400000 in
theorem same_is (a n b m : Int) (w : World) :
    Calls Try.prog 10 #[.agg #[.int .u32 a, .int .i64 n], .agg #[.int .u32 b, .int .i64 m]] w fun e w' => e = .returned (.bool (decide (a = b ∧ n = m))) ∧ Below w.heap.size w w' := by
  by_cases h : a = b
  · subst h
    by_cases h2 : n = m
    · subst h2
      go_enter Try.func10, Try.ntmps10
      go_wp2_with fail
      go_ret
      exact ⟨ret_bool (by simp), by go_grown⟩
    · have hd : (n == m) = false := by simpa using h2
      have H := Lib.hid h2; clear h2
      go_enter Try.func10, Try.ntmps10
      go_wp2_with fail
      go_ret
      exact ⟨ret_bool (by simp [H.out]), by go_grown⟩
  · have hd : (a == b) = false := by simpa using h
    have H := Lib.hid h; clear h
    go_enter Try.func10, Try.ntmps10
    go_wp2_with fail
    go_ret
    exact ⟨ret_bool (by simp [H.out]), by go_grown⟩
set_option maxHeartbeats 400000 in
theorem cmpA_is (x y : Int) (w : World) :
    Calls Try.prog 27 #[.int .u32 x, .int .u32 y] w fun e w' => e = .returned (.int .i64 (Lib.compareInt x y)) ∧ w = w' := by
  have H := Lib.hid (show Lib.compareInt x y = if x < y then -1 else if x > y then 1 else 0 from rfl)
  by_cases h1 : x < y
  · go_enter Try.func27, Try.ntmps27
    go_wp2
    go_ret
    exact ⟨ret_int (by rw [H.out, if_pos h1]), rfl⟩
  · by_cases h2 : y < x
    · go_enter Try.func27, Try.ntmps27
      go_wp2
      go_ret
      exact ⟨ret_int (by rw [H.out, if_neg (by omega), if_pos h2]), rfl⟩
    · go_enter Try.func27, Try.ntmps27
      go_wp2
      go_ret
      exact ⟨ret_int (by rw [H.out, if_neg (by omega), if_neg (by omega)]), rfl⟩
theorem cmpI_ne (a n b m : Int) (h : Lib.compareInt a b ≠ 0) : cmpI a n b m = Lib.compareInt a b := by
  unfold cmpI Lib.compareInt at *
  by_cases h1 : a < b
  · simp [h1]
  · by_cases h2 : b < a
    · have h3 : ¬ a = b := by omega
      simp [h1, h2, h3]
    · exfalso; apply h; simp [h1, h2]
theorem cmpI_eq (a n b m : Int) (h : Lib.compareInt a b = 0) : cmpI a n b m = Lib.compareInt n m := by
  have e : a = b := by
    unfold Lib.compareInt at h
    by_cases h1 : a < b
    · simp [h1] at h
    · by_cases h2 : b < a
      · simp [h1, h2] at h
      · omega
  subst e
  unfold cmpI Lib.compareInt
  by_cases h1 : n < m
  · simp [h1]
  · by_cases h2 : m < n
    · have h3 : ¬ n = m := by omega
      simp [h1, h2, h3]
    · have h3 : n = m := by omega
      simp [h3]
set_option maxHeartbeats 400000 in
theorem cmp_is (a n b m : Int) (w : World) :
    Calls Try.prog 23 #[.agg #[.int .u32 a, .int .i64 n], .agg #[.int .u32 b, .int .i64 m]] w fun e w' => e = .returned (.int .i64 (cmpI a n b m)) ∧ Below w.heap.size w w' := by
  obtain ⟨c, hc⟩ : ∃ c, c = Lib.compareInt a b := ⟨_, rfl⟩
  by_cases h : c = 0
  · have H := Lib.hid (cmpI_eq a n b m (by rw [← hc]; exact h))
    have HC := Lib.hid (show Lib.compareInt a b = 0 by rw [← hc]; exact h)
    clear h hc
    go_enter Try.func23, Try.ntmps23
    go_wp2_with (first | (go_at_call 27; (with_reducible refine (cmpA_is _ _ _).mono ?_); rintro e w' ⟨rfl, rfl⟩; rw [HC.out]) | (go_at_call 28; (with_reducible refine (Try.cmp_Compare_int _ _ _).mono ?_); rintro e w' ⟨rfl, rfl⟩))
    go_ret
    exact ⟨ret_int (by rw [H.out]), by go_grown⟩
  · have hd : (c != 0) = true := by simpa using h
    have H := Lib.hid (cmpI_ne a n b m (by rw [← hc]; exact h))
    have HC := Lib.hid hc.symm
    clear h hc
    go_enter Try.func23, Try.ntmps23
    go_wp2_with (first | (go_at_call 27; (with_reducible refine (cmpA_is _ _ _).mono ?_); rintro e w' ⟨rfl, rfl⟩; rw [HC.out]))
    go_ret
    exact ⟨ret_int (by rw [H.out, HC.out]), by go_grown⟩
set_option maxHeartbeats 400000 in
theorem rcmp_is (a n b m : Int) (w : World) :
    Calls Try.prog 24 #[.agg #[.int .u32 a, .int .i64 n], .agg #[.int .u32 b, .int .i64 m]] w fun e w' => e = .returned (.int .i64 (cmpI a n b m)) ∧ Below w.heap.size w w' := by
  by_cases h1 : a < b
  · have H := Lib.hid (show cmpI a n b m = -1 by simp [cmpI, h1])
    go_enter Try.func24, Try.ntmps24
    go_wp2_with fail
    go_ret
    exact ⟨ret_int (by rw [H.out]), by go_grown⟩
  · by_cases h2 : a = b
    · subst h2
      clear h1
      by_cases h3 : n < m
      · have H := Lib.hid (show cmpI a n a m = -1 by simp [cmpI, h3])
        go_enter Try.func24, Try.ntmps24
        go_wp2_with fail
        go_ret
        exact ⟨ret_int (by rw [H.out]), by go_grown⟩
      · by_cases h4 : n = m
        · subst h4
          clear h3
          have H := Lib.hid (show cmpI a n a n = 0 by simp [cmpI])
          go_enter Try.func24, Try.ntmps24
          go_wp2_with fail
          go_ret
          exact ⟨ret_int (by rw [H.out]), by go_grown⟩
        · have H := Lib.hid (show cmpI a n a m = 1 by simp [cmpI, h3, h4])
          have hd : (n == m) = false := by simpa using h4
          have hd2 : decide (n < m) = false := by simpa using h3
          clear h3 h4
          go_enter Try.func24, Try.ntmps24
          go_wp2_with fail
          go_ret
          exact ⟨ret_int (by rw [H.out]), by go_grown⟩
    · have H := Lib.hid (show cmpI a n b m = 1 by simp [cmpI, h1, h2])
      have hd : (a == b) = false := by simpa using h2
      have hd2 : decide (a < b) = false := by simpa using h1
      clear h1 h2
      go_enter Try.func24, Try.ntmps24
      go_wp2_with fail
      go_ret
      exact ⟨ret_int (by rw [H.out]), by go_grown⟩
end Go.Proofs.Ytdjjogcagolcjaa
