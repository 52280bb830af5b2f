/- What the calls of packages addr and waymarkref01 do that read two prefixes, or hand back two: Within, Cmp, Halves, Common; Bits; same. Each under the conditions that it names. -/
import Derived.Test.YtkkhmdiffddllaaDoorAddrW1
import Derived.BigRegion
namespace Go.Proofs.YtkkhmdiffddllaaDoor
open Go.RowKit
theorem wiB_no1 (a n b m : Int) (h : ck a n ≠ 0) : wiB a n b m = false := by simp [wiB, h]
theorem wiB_no2 (a n b m : Int) (h : ¬ m ≤ n) : wiB a n b m = false := by simp [wiB, h]
theorem wiB_no3 (a n b m : Int) (h : ck b m ≠ 0) : wiB a n b m = false := by simp [wiB, h]
theorem wiB_ok (a n b m : Int) (h : ck a n = 0) (h2 : m ≤ n) : wiB a n b m = inB a b m := by simp [wiB, inB, h, h2]
set_option maxHeartbeats 400000 in
theorem within_is (a n b m : Int) (w : World) (ha : 0 ≤ a) (ha2 : a < 4294967296) (hb0 : 0 ≤ b) (hbl : b < 4294967296) :
    Calls Tryd.prog 57 #[.agg #[.int .u32 a, .int .i64 n], .agg #[.int .u32 b, .int .i64 m]] w fun e w' => e = .returned (.bool (wiB a n b m)) ∧ Below w.heap.size w w' := by
  by_cases h : ck a n = 0
  · have HC := Lib.hid h
    by_cases h2 : m ≤ n
    · have H := Lib.hid (wiB_ok a n b m h h2)
      clear h
      go_enter Tryd.func57, Tryd.ntmps57
      go_wp2_with (first | (go_at_call 79; (with_reducible refine (check_is a n _ ha ha2).mono ?_); rintro e w1 ⟨rfl, hb⟩; rw [HC.out]; obtain ⟨hc, hf⟩ := bcell hb; have hz := hb.size; simp at hz; have hz0 : w.heap.size < w1.heap.size := (by omega); have hz1 : w.heap.size + 1 < w1.heap.size := (by omega); clear hz) | (go_at_call 80; refine (in_is a b m _ hb0 hbl).mono ?_; rintro e w2 ⟨rfl, hb2⟩))
      go_ret
      exact ⟨ret_bool (by rw [H.out]), Below.step (Below.step (by go_grown) hb) hb2⟩
    · have H := Lib.hid (wiB_no2 a n b m h2)
      have hd : decide (m ≤ n) = false := by simpa using h2
      clear h h2
      go_enter Tryd.func57, Tryd.ntmps57
      go_wp2_with (first | (go_at_call 79; (with_reducible refine (check_is a n _ ha ha2).mono ?_); rintro e w1 ⟨rfl, hb⟩; rw [HC.out]; obtain ⟨hc, hf⟩ := bcell hb; have hz := hb.size; simp at hz; have hz0 : w.heap.size < w1.heap.size := (by omega); have hz1 : w.heap.size + 1 < w1.heap.size := (by omega); clear hz))
      go_ret
      exact ⟨ret_bool (by rw [H.out]), Below.step (by go_grown) hb⟩
  · have H := Lib.hid (wiB_no1 a n b m h)
    obtain ⟨c, hc0⟩ : ∃ c, c = ck a n := ⟨_, rfl⟩
    have hc1 : (c == 0) = false := by rw [hc0]; simpa using h
    have HC := Lib.hid hc0.symm; clear hc0 h
    go_enter Tryd.func57, Tryd.ntmps57
    go_wp2_with (first | (go_at_call 79; (with_reducible refine (check_is a n _ ha ha2).mono ?_); rintro e w1 ⟨rfl, hb⟩; rw [HC.out]; obtain ⟨hc, hf⟩ := bcell hb; have hz := hb.size; simp at hz; have hz0 : w.heap.size < w1.heap.size := (by omega); have hz1 : w.heap.size + 1 < w1.heap.size := (by omega); clear hz))
    go_ret
    exact ⟨ret_bool (by rw [H.out]), Below.step (by go_grown) hb⟩
end Go.Proofs.YtkkhmdiffddllaaDoor
