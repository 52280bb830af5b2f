/- AddrTexts answers true for every text of at most 1048576 bytes, address and prefix. Conditions: the table of package strconv is what its text says. -/
import Derived.Test.YtdjjogcagolcjaaDoorRPre
import Derived.Test.YtdjjogcagolcjaaDoorRText
import Derived.Test.YtdjjogcagolcjaaDoorAddrW3
namespace Go.Proofs.YtdjjogcagolcjaaDoor
open Go.RowKit
set_option maxRecDepth 100000 in
set_option maxHeartbeats 4000000 in
theorem texts_any (s : ByteArray) (a b m : Int) (w : World) (hs : s.size ≤ 1048576) (ha : 0 ≤ a) (ha2 : a < 4294967296) (hb0 : 0 ≤ b) (hbl : b < 4294967296) (m0 : -9223372036854775808 ≤ m) (m1 : m ≤ 9223372036854775807) (h10 : Tab10 w) :
    Calls Tryd.prog 4 #[.string s, .int .u32 a, .agg #[.int .u32 b, .int .i64 m]] w fun e w' => e = .returned (.bool true) ∧ Below w.heap.size w w' := by
  have h1 := fun w => parse_is s w (by omega)
  have h2 := fun w => rsplit s w hs
  have h3 := fun w => pparse_is s w (by omega)
  have h4 := fun w => rpparse_is s w hs
  generalize (adrI (parse s.data.toList)).1 = x1 at *
  generalize (adrI (parse s.data.toList)).2 = x2 at *
  generalize (pparse s.data.toList).1 = y1 at *
  generalize (pparse s.data.toList).2.1 = y2 at *
  generalize (pparse s.data.toList).2.2 = y3 at *
  have HA := Lib.hid h1
  have HB := Lib.hid h2
  have HC := Lib.hid h3
  have HD := Lib.hid h4
  have HS : Hid (∀ w : World, Calls Tryd.prog 21 #[.agg #[.int .u32 y1, .int .i64 y2], .agg #[.int .u32 y1, .int .i64 y2]] w fun e w' => e = .returned (.bool true) ∧ Below w.heap.size w w') := Lib.hid (fun w => by
    have h := same_is y1 y2 y1 y2 w
    simpa using h)
  clear h1 h2 h3 h4
  go_enter Tryd.func4, Tryd.ntmps4
  go_wp2_with (first | (go_at_call 10; (with_reducible refine (HA.out _).mono ?_); rintro e w1 ⟨rfl, hb1⟩; obtain ⟨hc1, hf1⟩ := bcell hb1; have hz1 := hb1.size; (try simp at hz1); have q1_0 : w.heap.size < w1.heap.size := (by omega)) | (go_at_call 19; (with_reducible refine (HB.out _).mono ?_); rintro e w2 ⟨rfl, hb2⟩; obtain ⟨hc2, hf2⟩ := bcell hb2; have hz2 := hb2.size; (try simp at hz2); have q2_0 : w.heap.size < w2.heap.size := (by omega)) | (go_at_call 11; (with_reducible refine (HC.out _).mono ?_); rintro e w3 ⟨rfl, hb3⟩; obtain ⟨hc3, hf3⟩ := bcell hb3; have hz3 := hb3.size; (try simp at hz3); have q3_0 : w.heap.size < w3.heap.size := (by omega)) | (go_at_call 20; (with_reducible refine (HD.out _).mono ?_); rintro e w4 ⟨rfl, hb4⟩; obtain ⟨hc4, hf4⟩ := bcell hb4; have hz4 := hb4.size; (try simp at hz4); have q4_0 : w.heap.size < w4.heap.size := (by omega); have q4_1 : w3.heap.size < w4.heap.size := (by omega)))
  obtain ⟨z, hz⟩ : ∃ z, z = w4.alloc (.cells #[.int .u32 y1, .int .i64 y2] 30) := ⟨_, rfl⟩
  have hBz : Below w.heap.size w z := by
    rw [hz]
    exact (Below.step ((Below.step (Below.step (Below.step (by go_grown) hb1) hb2) hb3).alloc (by go_size) _) hb4).alloc (by go_size) _
  have p0 : z.cell? ⟨w.heap.size, 0, none⟩ = some (.int .u32 b) := by rw [hz]; go_simp
  have p1 : z.cell? ⟨w.heap.size, 1, none⟩ = some (.int .i64 m) := by rw [hz]; go_simp
  have q0 : z.cell? ⟨w3.heap.size, 0, none⟩ = some (.int .u32 y1) := by rw [hz]; go_simp
  have q1 : z.cell? ⟨w3.heap.size, 1, none⟩ = some (.int .i64 y2) := by rw [hz]; go_simp
  have r0 : z.cell? ⟨w4.heap.size, 0, none⟩ = some (.int .u32 y1) := by rw [hz]; go_simp
  have r1 : z.cell? ⟨w4.heap.size, 1, none⟩ = some (.int .i64 y2) := by rw [hz]; go_simp
  have zz : z.heap.size = w4.heap.size + 1 := by rw [hz]; simp
  have sp : w.heap.size < z.heap.size := by omega
  have sq : w3.heap.size < z.heap.size := by omega
  have sr : w4.heap.size < z.heap.size := by omega
  have htt : Tab10 z := h10.on hBz
  rw [← hz]
  clear hz zz hc1 hf1 hz1 hb1 hc2 hf2 hz2 hb2 hc3 hf3 hz3 hb3 hc4 hf4 hz4 hb4 HA HB HC HD h10
  refine wp_region_grows (by kernel_rfl) (by kernel_rfl) ?_
  refine grows_fact _ _ _ p0 sp fun z0 => ?_
  refine grows_fact _ _ _ p1 sp fun z1 => ?_
  refine grows_fact _ _ _ q0 sq fun z2 => ?_
  refine grows_fact _ _ _ q1 sq fun z3 => ?_
  refine grows_fact _ _ _ r0 sr fun z4 => ?_
  refine grows_fact _ _ _ r1 sr fun z5 => ?_
  clear p0 p1 q0 q1 r0 r1
  repeat (go_big_quiet_step ((first | (go_at_call 21; with_reducible exact Calls.grows_of (HS.out _)) | (go_at_call 22; exact Calls.grows_of (text_is a _ ha ha2 (htt.on (Grows.below _)))) | (go_at_call 23; exact Calls.grows_of (rtext_is a _ ha ha2)) | (go_at_call 18; exact Calls.grows_of (ptext_is b m _ hb0 hbl m0 m1 (htt.on (Grows.below _)))) | (go_at_call 24; exact Calls.grows_of (rptext_is b m _ hb0 hbl m0 m1)))))
  refine wpQuiet_nil ?_
  rintro _ ⟨⟨wz, hbz⟩, rfl⟩
  clear z0 z1 z2 z3 z4 z5
  go_wp2
  go_ret
  exact ⟨ret_bool (by simp), Below.step hBz hbz⟩
end Go.Proofs.YtdjjogcagolcjaaDoor
