/- What the calls of packages addr and waymarkref01 do that order prefixes, halve them, or find what two have in common; Bits; same. Each under the conditions that it names. -/
import Derived.Test.YtodfimnmbfdicaaAddrW2
namespace Go.Proofs.Ytodfimnmbfdicaa
open Go.RowKit
theorem sameB (a n b m : Int) : (decide (a = b) && decide (n = m)) = decide (a = b ∧ n = m) := by simp
theorem cmpI_ne (a n b m : Int) (h : Lib.compareInt a b ≠ 0) : cmpI a n b m = Lib.compareInt a b := by
  unfold cmpI Lib.compareInt at *
  by_cases h1 : a < b
  · simp [h1]
  · by_cases h2 : b < a
    · have h3 : ¬ a = b := by omega
      simp [h1, h2, h3]
    · exfalso; apply h; simp [h1, h2]
theorem cmpI_eq (a n b m : Int) (h : Lib.compareInt a b = 0) : cmpI a n b m = Lib.compareInt n m := by
  have e : a = b := by
    unfold Lib.compareInt at h
    by_cases h1 : a < b
    · simp [h1] at h
    · by_cases h2 : b < a
      · simp [h1, h2] at h
      · omega
  subst e
  unfold cmpI Lib.compareInt
  by_cases h1 : n < m
  · simp [h1]
  · by_cases h2 : m < n
    · have h3 : ¬ n = m := by omega
      simp [h1, h2, h3]
    · have h3 : n = m := by omega
      simp [h3]
set_option maxHeartbeats 400000 in
theorem rcmp_is (a n b m : Int) (w : World) :
    Calls Try.prog 32 #[.agg #[.int .u32 a, .int .i64 n], .agg #[.int .u32 b, .int .i64 m]] w fun e w' => e = .returned (.int .i64 (cmpI a n b m)) ∧ Below w.heap.size w w' := by
  by_cases h1 : a < b
  · have H := Lib.hid (show cmpI a n b m = -1 by simp [cmpI, h1])
    go_enter Try.func32, Try.ntmps32
    go_wp2_with fail
    go_ret
    exact ⟨ret_int (by rw [H.out]), by go_grown⟩
  · by_cases h2 : a = b
    · subst h2
      clear h1
      by_cases h3 : n < m
      · have H := Lib.hid (show cmpI a n a m = -1 by simp [cmpI, h3])
        go_enter Try.func32, Try.ntmps32
        go_wp2_with fail
        go_ret
        exact ⟨ret_int (by rw [H.out]), by go_grown⟩
      · by_cases h4 : n = m
        · subst h4
          clear h3
          have H := Lib.hid (show cmpI a n a n = 0 by simp [cmpI])
          go_enter Try.func32, Try.ntmps32
          go_wp2_with fail
          go_ret
          exact ⟨ret_int (by rw [H.out]), by go_grown⟩
        · have H := Lib.hid (show cmpI a n a m = 1 by simp [cmpI, h3, h4])
          have hd : (n == m) = false := by simpa using h4
          have hd2 : decide (n < m) = false := by simpa using h3
          clear h3 h4
          go_enter Try.func32, Try.ntmps32
          go_wp2_with fail
          go_ret
          exact ⟨ret_int (by rw [H.out]), by go_grown⟩
    · have H := Lib.hid (show cmpI a n b m = 1 by simp [cmpI, h1, h2])
      have hd : (a == b) = false := by simpa using h2
      have hd2 : decide (a < b) = false := by simpa using h1
      clear h1 h2
      go_enter Try.func32, Try.ntmps32
      go_wp2_with fail
      go_ret
      exact ⟨ret_int (by rw [H.out]), by go_grown⟩
end Go.Proofs.Ytodfimnmbfdicaa
