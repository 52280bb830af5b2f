/- What the calls of packages addr and waymarkref01 do that order prefixes, halve them, or find what two have in common; Bits; same. Each under the conditions that it names. -/
import Derived.Test.YtdjjogcagolcjaaDoorAddrW2
namespace Go.Proofs.YtdjjogcagolcjaaDoor
open Go.RowKit
theorem sameB (a n b m : Int) : (decide (a = b) && decide (n = m)) = decide (a = b ∧ n = m) := by simp
set_option maxHeartbeats 400000 in
theorem same_is (a n b m : Int) (w : World) :
    Calls Tryd.prog 21 #[.agg #[.int .u32 a, .int .i64 n], .agg #[.int .u32 b, .int .i64 m]] w fun e w' => e = .returned (.bool (decide (a = b ∧ n = m))) ∧ Below w.heap.size w w' := by
  by_cases h : a = b
  · subst h
    by_cases h2 : n = m
    · subst h2
      go_enter Tryd.func21, Tryd.ntmps21
      go_wp2_with fail
      go_ret
      exact ⟨ret_bool (by simp), by go_grown⟩
    · have hd : (n == m) = false := by simpa using h2
      have H := Lib.hid h2; clear h2
      go_enter Tryd.func21, Tryd.ntmps21
      go_wp2_with fail
      go_ret
      exact ⟨ret_bool (by simp [H.out]), by go_grown⟩
  · have hd : (a == b) = false := by simpa using h
    have H := Lib.hid h; clear h
    go_enter Tryd.func21, Tryd.ntmps21
    go_wp2_with fail
    go_ret
    exact ⟨ret_bool (by simp [H.out]), by go_grown⟩
set_option maxHeartbeats 400000 in
theorem cmpA_is (x y : Int) (w : World) :
    Calls Tryd.prog 43 #[.int .u32 x, .int .u32 y] w fun e w' => e = .returned (.int .i64 (Lib.compareInt x y)) ∧ w = w' := by
  have H := Lib.hid (show Lib.compareInt x y = if x < y then -1 else if x > y then 1 else 0 from rfl)
  by_cases h1 : x < y
  · go_enter Tryd.func43, Tryd.ntmps43
    go_wp2
    go_ret
    exact ⟨ret_int (by rw [H.out, if_pos h1]), rfl⟩
  · by_cases h2 : y < x
    · go_enter Tryd.func43, Tryd.ntmps43
      go_wp2
      go_ret
      exact ⟨ret_int (by rw [H.out, if_neg (by omega), if_pos h2]), rfl⟩
    · go_enter Tryd.func43, Tryd.ntmps43
      go_wp2
      go_ret
      exact ⟨ret_int (by rw [H.out, if_neg (by omega), if_neg (by omega)]), rfl⟩
theorem cmpI_ne (a n b m : Int) (h : Lib.compareInt a b ≠ 0) : cmpI a n b m = Lib.compareInt a b := by
  unfold cmpI Lib.compareInt at *
  by_cases h1 : a < b
  · simp [h1]
  · by_cases h2 : b < a
    · have h3 : ¬ a = b := by omega
      simp [h1, h2, h3]
    · exfalso; apply h; simp [h1, h2]
theorem cmpI_eq (a n b m : Int) (h : Lib.compareInt a b = 0) : cmpI a n b m = Lib.compareInt n m := by
  have e : a = b := by
    unfold Lib.compareInt at h
    by_cases h1 : a < b
    · simp [h1] at h
    · by_cases h2 : b < a
      · simp [h1, h2] at h
      · omega
  subst e
  unfold cmpI Lib.compareInt
  by_cases h1 : n < m
  · simp [h1]
  · by_cases h2 : m < n
    · have h3 : ¬ n = m := by omega
      simp [h1, h2, h3]
    · have h3 : n = m := by omega
      simp [h3]
set_option maxHeartbeats 400000 in
theorem cmp_is (a n b m : Int) (w : World) :
    Calls Tryd.prog 30 #[.agg #[.int .u32 a, .int .i64 n], .agg #[.int .u32 b, .int .i64 m]] w fun e w' => e = .returned (.int .i64 (cmpI a n b m)) ∧ Below w.heap.size w w' := by
  obtain ⟨c, hc⟩ : ∃ c, c = Lib.compareInt a b := ⟨_, rfl⟩
  by_cases h : c = 0
  · have H := Lib.hid (cmpI_eq a n b m (by rw [← hc]; exact h))
    have HC := Lib.hid (show Lib.compareInt a b = 0 by rw [← hc]; exact h)
    clear h hc
    go_enter Tryd.func30, Tryd.ntmps30
    go_wp2_with (first | (go_at_call 43; (with_reducible refine (cmpA_is _ _ _).mono ?_); rintro e w' ⟨rfl, rfl⟩; rw [HC.out]) | (go_at_call 44; (with_reducible refine (Tryd.cmp_Compare_int _ _ _).mono ?_); rintro e w' ⟨rfl, rfl⟩))
    go_ret
    exact ⟨ret_int (by rw [H.out]), by go_grown⟩
  · have hd : (c != 0) = true := by simpa using h
    have H := Lib.hid (cmpI_ne a n b m (by rw [← hc]; exact h))
    have HC := Lib.hid hc.symm
    clear h hc
    go_enter Tryd.func30, Tryd.ntmps30
    go_wp2_with (first | (go_at_call 43; (with_reducible refine (cmpA_is _ _ _).mono ?_); rintro e w' ⟨rfl, rfl⟩; rw [HC.out]))
    go_ret
    exact ⟨ret_int (by rw [H.out, HC.out]), by go_grown⟩
end Go.Proofs.YtdjjogcagolcjaaDoor
