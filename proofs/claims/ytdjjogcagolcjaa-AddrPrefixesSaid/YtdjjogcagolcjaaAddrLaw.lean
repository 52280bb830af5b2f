/- Each call of package addr and the call of package waymarkref01 of the same name hand back one result, whatever they are asked. No condition but that addresses are 32 bits. -/
import Derived.Test.YtdjjogcagolcjaaAddrW6
import Derived.Test.YtdjjogcagolcjaaAddrH
namespace Go.Proofs.Ytdjjogcagolcjaa
open Go.RowKit
/-- Both calls hand back this, and leave what was there. -/
def Both (P : Program) (f g : FuncId) (args : Array Value) (v : Value) : Prop := ∀ w : World, Calls P f args w (fun e w' => e = .returned v ∧ Below w.heap.size w w') ∧ Calls P g args w (fun e w' => e = .returned v ∧ Below w.heap.size w w')
theorem Both.fst {P : Program} {f g : FuncId} {args : Array Value} {v : Value} (h : Both P f g args v) (w : World) : Calls P f args w (fun e w' => e = .returned v ∧ Below w.heap.size w w') := (h w).1
theorem Both.snd {P : Program} {f g : FuncId} {args : Array Value} {v : Value} (h : Both P f g args v) (w : World) : Calls P g args w (fun e w' => e = .returned v ∧ Below w.heap.size w w') := (h w).2
theorem same_below {P : Program} {f : FuncId} {args : Array Value} {w : World} {v : Value} (h : Calls P f args w fun e w' => e = .returned v ∧ w = w') : Calls P f args w fun e w' => e = .returned v ∧ Below w.heap.size w w' :=
  h.mono fun _ _ ⟨he, hw⟩ => ⟨he, hw ▸ Below.refl _ _⟩
theorem mask_both (n : Int) : ∃ x y : Int, Both Try.prog 4 5 #[.int .i64 n] (.tuple #[.int .u32 x, .int .i64 y]) := by
  by_cases h : 0 ≤ n ∧ n ≤ 32
  · exact ⟨_, _, fun w => ⟨same_below (mask_ok n w h.1 h.2), same_below (rmask_ok n w h.1 h.2)⟩⟩
  · exact ⟨_, _, fun w => ⟨same_below (mask_no n w (by omega)), same_below (rmask_no n w (by omega))⟩⟩
theorem bits_both (m : Int) (h0 : 0 ≤ m) (h1 : m < 4294967296) : ∃ x y : Int, Both Try.prog 6 7 #[.int .u32 m] (.tuple #[.int .i64 x, .int .i64 y]) := by
  by_cases h : ∃ k, 0 ≤ k ∧ k ≤ 32 ∧ mk k = m
  · obtain ⟨k, k0, k1, rfl⟩ := h
    exact ⟨_, _, fun w => ⟨same_below (bits_yes k w k0 k1), same_below (rbits_yes k w k0 k1)⟩⟩
  · have h' : ∀ k, 0 ≤ k → k ≤ 32 → mk k ≠ m := fun k k0 k1 e => h ⟨k, k0, k1, e⟩
    exact ⟨_, _, fun w => ⟨same_below (bits_no m w h0 h1 h'), same_below (rbits_no m w h')⟩⟩
theorem sub_both (a n : Int) (ha : 0 ≤ a) (ha2 : a < 4294967296) : ∃ x y z : Int, Both Try.prog 8 9 #[.int .u32 a, .int .i64 n] (.tuple #[.agg #[.int .u32 x, .int .i64 y], .int .i64 z]) := by
  by_cases h : 0 ≤ n ∧ n ≤ 32
  · exact ⟨_, _, _, fun w => ⟨sub_ok a n w ha ha2 h.1 h.2, rsub_ok a n w ha ha2 h.1 h.2⟩⟩
  · exact ⟨_, _, _, fun w => ⟨sub_no a n w (by omega), rsub_no a n w (by omega)⟩⟩
theorem ends_both (a n : Int) (ha : 0 ≤ a) (ha2 : a < 4294967296) : ∃ x y z : Int, Both Try.prog 11 12 #[.agg #[.int .u32 a, .int .i64 n]] (.tuple #[.int .u32 x, .int .u32 y, .int .i64 z]) := by
  by_cases h : ck a n = 0
  · exact ⟨_, _, _, fun w => ⟨ends_ok a n w ha ha2 h, rends_ok a n w ha ha2 h⟩⟩
  · exact ⟨_, _, _, fun w => ⟨ends_no a n _ w ha ha2 rfl h, rends_no a n _ w ha ha2 rfl h⟩⟩
theorem halves_both (a n : Int) (ha : 0 ≤ a) (ha2 : a < 4294967296) : ∃ x y z u v : Int, Both Try.prog 13 14 #[.agg #[.int .u32 a, .int .i64 n]] (.tuple #[.agg #[.int .u32 x, .int .i64 y], .agg #[.int .u32 z, .int .i64 u], .int .i64 v]) := by
  by_cases h : ck a n = 0
  · by_cases hn : n < 32
    · exact ⟨_, _, _, _, _, fun w => ⟨halves_ok a n w ha ha2 h hn, rhalves_ok a n w ha ha2 h hn⟩⟩
    · obtain rfl : n = 32 := by have := (ck_ok a n h).2.1; omega
      exact ⟨_, _, _, _, _, fun w => ⟨halves_32 a w ha ha2, rhalves_32 a w ha ha2⟩⟩
  · exact ⟨_, _, _, _, _, fun w => ⟨halves_no a n _ w ha ha2 rfl h, rhalves_no a n _ w ha ha2 rfl h⟩⟩
theorem common_both (a n b m : Int) (ha : 0 ≤ a) (ha2 : a < 4294967296) (hb0 : 0 ≤ b) (hbl : b < 4294967296) : ∃ x y z : Int, Both Try.prog 15 16 #[.agg #[.int .u32 a, .int .i64 n], .agg #[.int .u32 b, .int .i64 m]] (.tuple #[.agg #[.int .u32 x, .int .i64 y], .int .i64 z]) := by
  by_cases h : ck a n = 0
  · by_cases h2 : ck b m = 0
    · exact ⟨_, _, _, fun w => ⟨common_ok a n b m w ha ha2 hb0 hbl h h2, rcommon_ok a n b m w ha ha2 hb0 hbl h h2⟩⟩
    · exact ⟨_, _, _, fun w => ⟨common_no2 a n b m _ w ha ha2 hb0 hbl h rfl h2, rcommon_no2 a n b m _ w ha ha2 hb0 hbl h rfl h2⟩⟩
  · exact ⟨_, _, _, fun w => ⟨common_no1 a n b m _ w ha ha2 rfl h, rcommon_no1 a n b m _ w ha ha2 rfl h⟩⟩
set_option maxHeartbeats 4000000 in
set_option maxRecDepth 100000 in
theorem law_any (x a n b m k : Int) (w : World) (hx : 0 ≤ x) (hx2 : x < 4294967296) (ha : 0 ≤ a) (ha2 : a < 4294967296) (hb0 : 0 ≤ b) (hbl : b < 4294967296) :
    Calls Try.prog 3 #[.int .u32 x, .agg #[.int .u32 a, .int .i64 n], .agg #[.int .u32 b, .int .i64 m], .int .i64 k] w fun e w' => e = .returned (.bool true) ∧ Below w.heap.size w w' := by
  obtain ⟨m1, m2, HM0⟩ := mask_both k
  obtain ⟨b1, b2, HB0⟩ := bits_both x hx hx2
  obtain ⟨s1, s2, s3, HS0⟩ := sub_both x k hx hx2
  obtain ⟨e1, e2, e3, HE0⟩ := ends_both a n ha ha2
  obtain ⟨h1, h2, h3, h4, h5, HH0⟩ := halves_both a n ha ha2
  obtain ⟨c1, c2, c3, HC0⟩ := common_both a n b m ha ha2 hb0 hbl
  have HM := Lib.hid HM0
  have HB := Lib.hid HB0
  have HS := Lib.hid HS0
  have HE := Lib.hid HE0
  have HH := Lib.hid HH0
  have HC := Lib.hid HC0
  clear HM0 HB0 HS0 HE0 HH0 HC0
  go_enter Try.func3, Try.ntmps3
  go_wp2_with (first | (go_at_call 4; (with_reducible refine (HM.out.fst _).mono ?_); rintro e w1 ⟨rfl, hb1⟩; obtain ⟨hc1, hf1⟩ := bcell hb1; have hz1 := hb1.size; (try simp at hz1); have q1_0 : w.heap.size < w1.heap.size := (by omega); have q1_1 : w.heap.size + 1 < w1.heap.size := (by omega)) | (go_at_call 5; (with_reducible refine (HM.out.snd _).mono ?_); rintro e w2 ⟨rfl, hb2⟩; obtain ⟨hc2, hf2⟩ := bcell hb2; have hz2 := hb2.size; (try simp at hz2); have q2_0 : w.heap.size < w2.heap.size := (by omega); have q2_1 : w.heap.size + 1 < w2.heap.size := (by omega)) | (go_at_call 6; (with_reducible refine (HB.out.fst _).mono ?_); rintro e w3 ⟨rfl, hb3⟩; obtain ⟨hc3, hf3⟩ := bcell hb3; have hz3 := hb3.size; (try simp at hz3); have q3_0 : w.heap.size < w3.heap.size := (by omega); have q3_1 : w.heap.size + 1 < w3.heap.size := (by omega)) | (go_at_call 7; (with_reducible refine (HB.out.snd _).mono ?_); rintro e w4 ⟨rfl, hb4⟩; obtain ⟨hc4, hf4⟩ := bcell hb4; have hz4 := hb4.size; (try simp at hz4); have q4_0 : w.heap.size < w4.heap.size := (by omega); have q4_1 : w.heap.size + 1 < w4.heap.size := (by omega)) | (go_at_call 8; (with_reducible refine (HS.out.fst _).mono ?_); rintro e w5 ⟨rfl, hb5⟩; obtain ⟨hc5, hf5⟩ := bcell hb5; have hz5 := hb5.size; (try simp at hz5); have q5_0 : w.heap.size < w5.heap.size := (by omega); have q5_1 : w.heap.size + 1 < w5.heap.size := (by omega)) | (go_at_call 9; (with_reducible refine (HS.out.snd _).mono ?_); rintro e w6 ⟨rfl, hb6⟩; obtain ⟨hc6, hf6⟩ := bcell hb6; have hz6 := hb6.size; (try simp at hz6); have q6_0 : w.heap.size < w6.heap.size := (by omega); have q6_1 : w.heap.size + 1 < w6.heap.size := (by omega); have q6_2 : w5.heap.size < w6.heap.size := (by omega)) | (go_at_call 11; (with_reducible refine (HE.out.fst _).mono ?_); rintro e w7 ⟨rfl, hb7⟩; obtain ⟨hc7, hf7⟩ := bcell hb7; have hz7 := hb7.size; (try simp at hz7); have q7_0 : w.heap.size < w7.heap.size := (by omega); have q7_1 : w.heap.size + 1 < w7.heap.size := (by omega); have q7_2 : w5.heap.size < w7.heap.size := (by omega); have q7_3 : w6.heap.size < w7.heap.size := (by omega)) | (go_at_call 12; (with_reducible refine (HE.out.snd _).mono ?_); rintro e w8 ⟨rfl, hb8⟩; obtain ⟨hc8, hf8⟩ := bcell hb8; have hz8 := hb8.size; (try simp at hz8); have q8_0 : w.heap.size < w8.heap.size := (by omega); have q8_1 : w.heap.size + 1 < w8.heap.size := (by omega); have q8_2 : w5.heap.size < w8.heap.size := (by omega); have q8_3 : w6.heap.size < w8.heap.size := (by omega)) | (go_at_call 13; (with_reducible refine (HH.out.fst _).mono ?_); rintro e w9 ⟨rfl, hb9⟩; obtain ⟨hc9, hf9⟩ := bcell hb9; have hz9 := hb9.size; (try simp at hz9); have q9_0 : w.heap.size < w9.heap.size := (by omega); have q9_1 : w.heap.size + 1 < w9.heap.size := (by omega); have q9_2 : w5.heap.size < w9.heap.size := (by omega); have q9_3 : w6.heap.size < w9.heap.size := (by omega); have p9_0 : w.heap.size < w9.heap.size + 1 := (by omega); have p9_1 : w.heap.size + 1 < w9.heap.size + 1 := (by omega); have p9_2 : w5.heap.size < w9.heap.size + 1 := (by omega); have p9_3 : w6.heap.size < w9.heap.size + 1 := (by omega)) | (go_at_call 14; (with_reducible refine (HH.out.snd _).mono ?_); rintro e w10 ⟨rfl, hb10⟩; obtain ⟨hc10, hf10⟩ := bcell hb10; have hz10 := hb10.size; (try simp at hz10); have q10_0 : w.heap.size < w10.heap.size := (by omega); have q10_1 : w.heap.size + 1 < w10.heap.size := (by omega); have q10_2 : w5.heap.size < w10.heap.size := (by omega); have q10_3 : w6.heap.size < w10.heap.size := (by omega); have q10_4 : w9.heap.size < w10.heap.size := (by omega); have q10_5 : w9.heap.size + 1 < w10.heap.size := (by omega); have p10_0 : w.heap.size < w10.heap.size + 1 := (by omega); have p10_1 : w.heap.size + 1 < w10.heap.size + 1 := (by omega); have p10_2 : w5.heap.size < w10.heap.size + 1 := (by omega); have p10_3 : w6.heap.size < w10.heap.size + 1 := (by omega); have p10_4 : w9.heap.size < w10.heap.size + 1 := (by omega); have p10_5 : w9.heap.size + 1 < w10.heap.size + 1 := (by omega)) | (go_at_call 15; (with_reducible refine (HC.out.fst _).mono ?_); rintro e w11 ⟨rfl, hb11⟩; obtain ⟨hc11, hf11⟩ := bcell hb11; have hz11 := hb11.size; (try simp at hz11); have q11_0 : w.heap.size < w11.heap.size := (by omega); have q11_1 : w.heap.size + 1 < w11.heap.size := (by omega); have q11_2 : w5.heap.size < w11.heap.size := (by omega); have q11_3 : w6.heap.size < w11.heap.size := (by omega); have q11_4 : w9.heap.size < w11.heap.size := (by omega); have q11_5 : w9.heap.size + 1 < w11.heap.size := (by omega); have q11_6 : w10.heap.size < w11.heap.size := (by omega); have q11_7 : w10.heap.size + 1 < w11.heap.size := (by omega)) | (go_at_call 16; (with_reducible refine (HC.out.snd _).mono ?_); rintro e w12 ⟨rfl, hb12⟩; obtain ⟨hc12, hf12⟩ := bcell hb12; have hz12 := hb12.size; (try simp at hz12); have q12_0 : w.heap.size < w12.heap.size := (by omega); have q12_1 : w.heap.size + 1 < w12.heap.size := (by omega); have q12_2 : w5.heap.size < w12.heap.size := (by omega); have q12_3 : w6.heap.size < w12.heap.size := (by omega); have q12_4 : w9.heap.size < w12.heap.size := (by omega); have q12_5 : w9.heap.size + 1 < w12.heap.size := (by omega); have q12_6 : w10.heap.size < w12.heap.size := (by omega); have q12_7 : w10.heap.size + 1 < w12.heap.size := (by omega); have q12_8 : w11.heap.size < w12.heap.size := (by omega)) | (go_at_call 10; (with_reducible refine (same_is s1 s2 s1 s2 _).mono ?_); rintro e w20 ⟨rfl, hb20⟩; obtain ⟨hc20, hf20⟩ := bcell hb20; have hz20 := hb20.size; (try simp at hz20); have q20_0 : w.heap.size < w20.heap.size := (by omega); have q20_1 : w.heap.size + 1 < w20.heap.size := (by omega); have q20_2 : w5.heap.size < w20.heap.size := (by omega); have q20_3 : w6.heap.size < w20.heap.size := (by omega)) | (go_at_call 10; (with_reducible refine (same_is h1 h2 h1 h2 _).mono ?_); rintro e w21 ⟨rfl, hb21⟩; obtain ⟨hc21, hf21⟩ := bcell hb21; have hz21 := hb21.size; (try simp at hz21); have q21_0 : w.heap.size < w21.heap.size := (by omega); have q21_1 : w.heap.size + 1 < w21.heap.size := (by omega); have q21_2 : w5.heap.size < w21.heap.size := (by omega); have q21_3 : w6.heap.size < w21.heap.size := (by omega); have q21_4 : w9.heap.size < w21.heap.size := (by omega); have q21_5 : w9.heap.size + 1 < w21.heap.size := (by omega); have q21_6 : w10.heap.size < w21.heap.size := (by omega); have q21_7 : w10.heap.size + 1 < w21.heap.size := (by omega); have q21_8 : w11.heap.size < w21.heap.size := (by omega); have q21_9 : w12.heap.size < w21.heap.size := (by omega)) | (go_at_call 10; (with_reducible refine (same_is h3 h4 h3 h4 _).mono ?_); rintro e w22 ⟨rfl, hb22⟩; obtain ⟨hc22, hf22⟩ := bcell hb22; have hz22 := hb22.size; (try simp at hz22); have q22_0 : w.heap.size < w22.heap.size := (by omega); have q22_1 : w.heap.size + 1 < w22.heap.size := (by omega); have q22_2 : w5.heap.size < w22.heap.size := (by omega); have q22_3 : w6.heap.size < w22.heap.size := (by omega); have q22_4 : w9.heap.size < w22.heap.size := (by omega); have q22_5 : w9.heap.size + 1 < w22.heap.size := (by omega); have q22_6 : w10.heap.size < w22.heap.size := (by omega); have q22_7 : w10.heap.size + 1 < w22.heap.size := (by omega); have q22_8 : w11.heap.size < w22.heap.size := (by omega); have q22_9 : w12.heap.size < w22.heap.size := (by omega)) | (go_at_call 10; (with_reducible refine (same_is c1 c2 c1 c2 _).mono ?_); rintro e w23 ⟨rfl, hb23⟩; obtain ⟨hc23, hf23⟩ := bcell hb23; have hz23 := hb23.size; (try simp at hz23); have q23_0 : w.heap.size < w23.heap.size := (by omega); have q23_1 : w.heap.size + 1 < w23.heap.size := (by omega); have q23_2 : w5.heap.size < w23.heap.size := (by omega); have q23_3 : w6.heap.size < w23.heap.size := (by omega); have q23_4 : w9.heap.size < w23.heap.size := (by omega); have q23_5 : w9.heap.size + 1 < w23.heap.size := (by omega); have q23_6 : w10.heap.size < w23.heap.size := (by omega); have q23_7 : w10.heap.size + 1 < w23.heap.size := (by omega); have q23_8 : w11.heap.size < w23.heap.size := (by omega); have q23_9 : w12.heap.size < w23.heap.size := (by omega)))
  have k0 : w23.cell? ⟨w.heap.size, 0, none⟩ = some (.int .u32 a) := by go_simp
  have k1 : w23.cell? ⟨w.heap.size, 1, none⟩ = some (.int .i64 n) := by go_simp
  have k2 : w23.cell? ⟨w.heap.size + 1, 0, none⟩ = some (.int .u32 b) := by go_simp
  have k3 : w23.cell? ⟨w.heap.size + 1, 1, none⟩ = some (.int .i64 m) := by go_simp
  have hB : Below w.heap.size w w23 := (Below.step (Below.step (Below.step ((Below.step ((Below.step (((Below.step (((Below.step (Below.step (Below.step (Below.step ((Below.step ((Below.step (Below.step (Below.step (Below.step (Below.step (by go_grown : Below w.heap.size w ((w.alloc _).alloc _)) hb1) hb2) hb3) hb4) hb5).alloc (by go_size) _) hb6).alloc (by go_size) _) hb20) hb7) hb8) hb9).alloc (by go_size) _).alloc (by go_size) _) hb10).alloc (by go_size) _).alloc (by go_size) _) hb11).alloc (by go_size) _) hb12).alloc (by go_size) _) hb21) hb22) hb23)
  refine wp_region_grows (by kernel_rfl) (by kernel_rfl) ?_
  refine grows_fact _ _ _ k0 q23_0 fun r0 => ?_
  refine grows_fact _ _ _ k1 q23_0 fun r1 => ?_
  refine grows_fact _ _ _ k2 q23_1 fun r2 => ?_
  refine grows_fact _ _ _ k3 q23_1 fun r3 => ?_
  clear hb23 hc23 hf23 hz23 hb22 hc22 hf22 hz22 hb21 hc21 hf21 hz21 hb12 hc12 hf12 hz12 hb11 hc11 hf11 hz11 hb10 hc10 hf10 hz10 hb9 hc9 hf9 hz9 hb8 hc8 hf8 hz8 hb7 hc7 hf7 hz7 hb20 hc20 hf20 hz20 hb6 hc6 hf6 hz6 hb5 hc5 hf5 hz5 hb4 hc4 hf4 hz4 hb3 hc3 hf3 hz3 hb2 hc2 hf2 hz2 hb1 hc1 hf1 hz1
  clear HM HB HS HE HH HC k0 k1 k2 k3
  repeat (go_big_quiet_step ((first | (go_at_call 17; exact Calls.grows_of (check_is a n _ ha ha2)) | (go_at_call 18; exact Calls.grows_of (rcheck_is a n _ ha ha2)) | (go_at_call 19; exact Calls.grows_of (in_is x a n _ ha ha2)) | (go_at_call 20; exact Calls.grows_of (rin_is x a n _ hx hx2 ha ha2)) | (go_at_call 21; exact Calls.grows_of (within_is a n b m _ ha ha2 hb0 hbl)) | (go_at_call 22; exact Calls.grows_of (rwithin_is a n b m _ ha ha2 hb0 hbl)) | (go_at_call 23; exact Calls.grows_of (cmp_is a n b m _)) | (go_at_call 24; exact Calls.grows_of (rcmp_is a n b m _)))))
  refine wpQuiet_nil ?_
  rintro _ ⟨⟨w30, hb30⟩, rfl⟩
  clear r0 r1 r2 r3
  go_wp2
  go_ret
  exact ⟨ret_bool rfl, Below.step hB hb30⟩
end Go.Proofs.Ytdjjogcagolcjaa
