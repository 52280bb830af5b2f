/- What the calls of packages addr and waymarkref01 do that halve a prefix, or find what two have in common; Bits. Each under the conditions that it names. -/
import Derived.Test.YtodfimnmbfdicaaAddrW3
namespace Go.Proofs.Ytodfimnmbfdicaa
open Go.RowKit
theorem ret_ppe {v v' u u' : Value} {c d : Int} (h : v = v') (h3 : u = u') (h2 : c = d) : Ending.returned (.tuple #[v, u, .int .i64 c]) = .returned (.tuple #[v', u', .int .i64 d]) := by rw [h, h2, h3]
set_option maxHeartbeats 400000 in
theorem halves_ok (a n : Int) (w : World) (ha : 0 ≤ a) (ha2 : a < 4294967296) (h : ck a n = 0) (hn : n < 32) :
    Calls Try.prog 62 #[.agg #[.int .u32 a, .int .i64 n]] w fun e w' => e = .returned (.tuple #[.agg #[.int .u32 a, .int .i64 (n + 1)], .agg #[.int .u32 (a + pw (n + 1)), .int .i64 (n + 1)], .int .i64 0]) ∧ Below w.heap.size w w' := by
  have hl := ck_last a n ha2 h
  have hp := pw_pos n
  obtain ⟨h1, h2, h3⟩ := ck_ok a n h
  have HQ := Lib.hid (half_sub a n hn h3)
  have HE := Lib.hid h
  clear h h3
  have hd : (n == 32) = false := by simp; omega
  have B1 : 0 ≤ a + (pw n - 1) := by omega
  have B2 : a + (pw n - 1) < 4294967296 := by omega
  have B3 : 0 ≤ n + 1 := by omega
  have B4 : n + 1 ≤ 32 := by omega
  go_enter Try.func62, Try.ntmps62
  go_wp2_with (first | (go_at_call 52; (with_reducible refine (ends_ok a n _ ha ha2 HE.out).mono ?_); rintro e w1 ⟨rfl, hb⟩; obtain ⟨hc, hf⟩ := bcell hb; have hz := hb.size; simp at hz; have hz0 : w.heap.size < w1.heap.size := (by omega); have hz1 : w.heap.size + 1 < w1.heap.size := (by omega); have hz2 : w.heap.size + 1 + 1 < w1.heap.size := (by omega); clear hz) | (go_at_call 61; (with_reducible refine (sub_ok _ _ _ B1 B2 B3 B4).mono ?_); rintro e w2 ⟨rfl, hb2⟩; obtain ⟨hc2, hf2⟩ := bcell hb2; have hy := hb2.size; simp at hy; have hy0 : w.heap.size < w2.heap.size := (by omega); have hy1 : w.heap.size + 1 < w2.heap.size := (by omega); have hy2 : w.heap.size + 1 + 1 < w2.heap.size := (by omega)))
  generalize hWg : (w2.setCell _ _).setCell _ _ = W
  have HW := Lib.hid hWg; clear hWg
  have c0 : W.cell? ⟨w.heap.size + 1, 0, none⟩ = some (.int .u32 a) := by rw [← HW.out]; go_simp
  have c1 : W.cell? ⟨w.heap.size + 1, 1, none⟩ = some (.int .i64 (n + 1)) := by rw [← HW.out]; go_simp
  have c2 : W.cell? ⟨w.heap.size + 1 + 1, 0, none⟩ = some (.int .u32 ((a + (pw n - 1)) / pw (n + 1) * pw (n + 1))) := by rw [← HW.out]; go_simp
  have c3 : W.cell? ⟨w.heap.size + 1 + 1, 1, none⟩ = some (.int .i64 (n + 1)) := by rw [← HW.out]; go_simp
  have f0 : W.frozen? ⟨w.heap.size + 1, 0, none⟩ = false := by rw [← HW.out]; go_simp
  have f1 : W.frozen? ⟨w.heap.size + 1, 1, none⟩ = false := by rw [← HW.out]; go_simp
  have f2 : W.frozen? ⟨w.heap.size + 1 + 1, 0, none⟩ = false := by rw [← HW.out]; go_simp
  have f3 : W.frozen? ⟨w.heap.size + 1 + 1, 1, none⟩ = false := by rw [← HW.out]; go_simp
  have hB : Below w.heap.size w W := by
    rw [← HW.out]
    exact ((((((Below.step (by go_grown) hb).setCell (by go_size) _).setCell (by go_size) _).trans (hb2.mono (by go_size))).setCell (by go_size) _).setCell (by go_size) _)
  have hs1 : w.heap.size + 1 < W.heap.size := Nat.lt_of_lt_of_le hy1 (by rw [← HW.out]; simp)
  have hs2 : w.heap.size + 1 + 1 < W.heap.size := Nat.lt_of_lt_of_le hy2 (by rw [← HW.out]; simp)
  refine wp_region_grows (by kernel_rfl) (by kernel_rfl) ?_
  refine grows_store _ _ _ c0 f0 hs1 fun r1 r2 r3 => ?_
  refine grows_store _ _ _ c1 f1 hs1 fun s1 s2 s3 => ?_
  refine grows_store _ _ _ c2 f2 hs2 fun t1 t2 t3 => ?_
  refine grows_store _ _ _ c3 f3 hs2 fun u1 u2 u3 => ?_
  clear hc hf hc2 hf2 hb hb2 HW
  repeat (go_big_quiet_step (fail))
  refine wpQuiet_nil ?_
  rintro _ ⟨⟨w4, hb4⟩, rfl⟩
  clear r1 r2 r3 s1 s2 s3 t1 t2 t3 u1 u2 u3
  have k0 := (hb4.cell (p := ⟨w.heap.size + 1, 0, none⟩) hs1).trans c0
  have k1 := (hb4.cell (p := ⟨w.heap.size + 1, 1, none⟩) hs1).trans c1
  have k2 := (hb4.cell (p := ⟨w.heap.size + 1 + 1, 0, none⟩) hs2).trans c2
  have k3 := (hb4.cell (p := ⟨w.heap.size + 1 + 1, 1, none⟩) hs2).trans c3
  go_wp2
  refine bodyPost_ret (by simp [results, Try.results62, go_sem, k0, k1, k2, k3]; try rfl) rfl ?_
  exact ⟨ret_ppe rfl (agg_eq HQ.out rfl) rfl, Below.step hB hb4⟩
set_option maxHeartbeats 400000 in
theorem halves_32 (a : Int) (w : World) (ha : 0 ≤ a) (ha2 : a < 4294967296) :
    Calls Try.prog 62 #[.agg #[.int .u32 a, .int .i64 32]] w fun e w' => e = .returned (.tuple #[.agg #[.int .u32 0, .int .i64 0], .agg #[.int .u32 0, .int .i64 0], .int .i64 5]) ∧ Below w.heap.size w w' := by
  have HE := Lib.hid (ck_mk a 32 (by omega) (by omega) (by rw [pw_32]; omega))
  go_enter Try.func62, Try.ntmps62
  go_wp2_with (first | (go_at_call 52; (with_reducible refine (ends_ok a 32 _ ha ha2 HE.out).mono ?_); rintro e w1 ⟨rfl, hb⟩; obtain ⟨hc, hf⟩ := bcell hb; have hz := hb.size; simp at hz; have hz0 : w.heap.size < w1.heap.size := (by omega); have hz1 : w.heap.size + 1 < w1.heap.size := (by omega); have hz2 : w.heap.size + 1 + 1 < w1.heap.size := (by omega); clear hz))
  refine bodyPost_ret (by simp [results, Try.results62, go_sem, hc]; try rfl) rfl ?_
  exact ⟨rfl, (((((Below.step (by go_grown) hb).setCell (by go_size) _).setCell (by go_size) _).setCell (by go_size) _).setCell (by go_size) _)⟩
set_option maxHeartbeats 400000 in
theorem halves_no (a n c : Int) (w : World) (ha : 0 ≤ a) (ha2 : a < 4294967296) (h : ck a n = c) (hn : c ≠ 0) :
    Calls Try.prog 62 #[.agg #[.int .u32 a, .int .i64 n]] w fun e w' => e = .returned (.tuple #[.agg #[.int .u32 0, .int .i64 0], .agg #[.int .u32 0, .int .i64 0], .int .i64 c]) ∧ Below w.heap.size w w' := by
  have HE := Lib.hid h; clear h
  have hd : (c != 0) = true := by simpa using hn
  go_enter Try.func62, Try.ntmps62
  go_wp2_with (first | (go_at_call 52; (with_reducible refine (ends_no a n c _ ha ha2 HE.out hn).mono ?_); rintro e w1 ⟨rfl, hb⟩; obtain ⟨hc, hf⟩ := bcell hb; have hz := hb.size; simp at hz; have hz0 : w.heap.size < w1.heap.size := (by omega); have hz1 : w.heap.size + 1 < w1.heap.size := (by omega); have hz2 : w.heap.size + 1 + 1 < w1.heap.size := (by omega); clear hz))
  refine bodyPost_ret (by simp [results, Try.results62, go_sem, hc]; try rfl) rfl ?_
  exact ⟨rfl, (((((Below.step (by go_grown) hb).setCell (by go_size) _).setCell (by go_size) _).setCell (by go_size) _).setCell (by go_size) _)⟩
end Go.Proofs.Ytodfimnmbfdicaa
