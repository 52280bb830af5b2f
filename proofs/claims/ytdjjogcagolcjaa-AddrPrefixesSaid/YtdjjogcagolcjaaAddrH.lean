/- What waymarkref01.Halves does with a prefix that may be. -/
import Derived.Test.YtdjjogcagolcjaaAddrW4
namespace Go.Proofs.Ytdjjogcagolcjaa
open Go.RowKit
set_option maxHeartbeats 6000000 in
theorem rhalves_ok (a n : Int) (w : World) (ha : 0 ≤ a) (ha2 : a < 4294967296) (h : ck a n = 0) (hn : n < 32) :
    Calls Try.prog 14 #[.agg #[.int .u32 a, .int .i64 n]] w fun e w' => e = .returned (.tuple #[.agg #[.int .u32 a, .int .i64 (n + 1)], .agg #[.int .u32 (a + pw (n + 1)), .int .i64 (n + 1)], .int .i64 0]) ∧ Below w.heap.size w w' := by
  have hl := ck_last a n ha2 h
  obtain ⟨h1, h2, h3⟩ := ck_ok a n h
  have hp := pw_pos (n + 1)
  have hp2 := pw_succ n hn
  have e1 : IntKind.u64.wrap a = a := IntWalk.u64_in _ ⟨by omega, by omega⟩
  have e2 : IntKind.u64.wrap (a + pw (n + 1)) = a + pw (n + 1) := IntWalk.u64_in _ ⟨by omega, by omega⟩
  have e3 : IntKind.u32.wrap (a + pw (n + 1)) = a + pw (n + 1) := IntWalk.u32_in _ ⟨by omega, by omega⟩
  have HE := Lib.hid h
  clear h h3 hp2
  have hd : (n == 32) = false := by simp; omega
  have B3 : 0 ≤ n + 1 := by omega
  have B4 : n + 1 ≤ 32 := by omega
  go_enter Try.func14, Try.ntmps14
  go_wp2_with (first | (go_at_call 18; (with_reducible refine (rcheck_is _ _ _ ha ha2).mono ?_); rintro e w1 ⟨rfl, hb⟩; rw [HE.out]; obtain ⟨hc, hf⟩ := bcell hb; have hz := hb.size; simp at hz; have hz0 : w.heap.size < w1.heap.size := (by omega); have hz1 : w.heap.size + 1 < w1.heap.size := (by omega); have hz2 : w.heap.size + 1 + 1 < w1.heap.size := (by omega); clear hz))
  go_region_with ((go_at_call 25; refine (size_is (n + 1) _ B3 B4).mono ?_; rintro e w' ⟨rfl, rfl⟩))
  all_goals
    go_wp2
    refine bodyPost_ret (by simp [results, Try.results14, go_sem, hc]; try rfl) rfl ?_
    exact ⟨rfl, ((((((Below.step (by go_grown) hb).drew).setCell (by go_size) _).setCell (by go_size) _).setCell (by go_size) _).setCell (by go_size) _)⟩
end Go.Proofs.Ytdjjogcagolcjaa
