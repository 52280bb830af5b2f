/- AddrBack answers true for every address, number and text. Conditions: the tables of packages math/bits and strconv are what their texts say. -/
import Derived.Test.YtdjjogcagolcjaaDoorWorks
import Derived.Test.YtdjjogcagolcjaaDoorAddrW3
import Derived.Test.YtdjjogcagolcjaaDoorAddrW5
namespace Go.Proofs.YtdjjogcagolcjaaDoor
open Go.RowKit
/-- How many bits a number is made into. -/
def fm (n : Int) : Int := IntKind.u64.wrap n % 33
theorem fm_range (n : Int) : 0 ≤ fm n ∧ fm n ≤ 32 := by unfold fm; omega
/-- The address that is made to fit. -/
def fa (a n : Int) : Int := a / pw (fm n) * pw (fm n)
theorem fa_range (a n : Int) (ha : 0 ≤ a) (ha2 : a < 4294967296) : 0 ≤ fa a n ∧ fa a n < 4294967296 := by
  have hp := pw_pos (fm n)
  have h3 := Int.ediv_mul_le a (b := pw (fm n)) (by omega)
  exact ⟨Int.mul_nonneg (Int.ediv_nonneg ha (by omega)) (by omega), by unfold fa; omega⟩
theorem fa_ck (a n : Int) : ck (fa a n) (fm n) = 0 := ck_mk _ _ (fm_range n).1 (fm_range n).2 (Int.mul_emod_left _ _)
theorem bnot_pw (a m : Int) (h0 : 0 ≤ a) (h1 : a < 4294967296) (hm : 0 ≤ m) : bits .andNot .u32 a (pw m - 1) = a / pw m * pw m := by
  have hp := pw_pos m
  have hl := pw_le m hm
  rw [u32_andNot a (pw m - 1) h0 h1 (by omega) (by omega)]
  have e : 4294967295 - (pw m - 1).toNat = 4294967296 - 2 ^ (32 - m).toNat := by rw [pw_nat] at *; omega
  rw [e, and_high _ _ (by omega) (by omega), Int.natCast_mul, Int.natCast_ediv, ← pw_nat, Int.toNat_of_nonneg h0]
set_option maxHeartbeats 400000 in
theorem fit_is (a n : Int) (w : World) (ha : 0 ≤ a) (ha2 : a < 4294967296) :
    Calls Tryd.prog 27 #[.int .u32 a, .int .i64 n] w fun e w' => e = .returned (.agg #[.int .u32 (fa a n), .int .i64 (fm n)]) ∧ Below w.heap.size w w' := by
  obtain ⟨f0, f1⟩ := fm_range n
  have hp := pw_pos (fm n)
  have hl := pw_le (fm n) f0
  obtain ⟨u, hu⟩ : ∃ u, IntKind.u64.wrap n = u := ⟨_, rfl⟩
  have hu0 : 0 ≤ u := by rw [← hu, IntKind.wrap_u64]; omega
  have e0 : u % 33 = fm n := by rw [← hu]; rfl
  have e1 : IntKind.i64.wrap (fm n) = fm n := IntWalk.i64_in _ ⟨by omega, by omega⟩
  have HX : Hid (IntKind.u64.wrap (IntKind.u64.wrap (2 ^ (32 - fm n).toNat) - 1) % 4294967296 = pw (fm n) - 1) := Lib.hid (by
    rw [pw_def, IntWalk.u64_in (pw (fm n)) ⟨by omega, by omega⟩, IntWalk.u64_in _ ⟨by omega, by omega⟩]; omega)
  have HB := Lib.hid (bnot_pw a (fm n) ha ha2 f0)
  have HF := Lib.hid (show fa a n = a / pw (fm n) * pw (fm n) from rfl)
  go_enter Tryd.func27, Tryd.ntmps27
  go_wp2_with fail
  go_returns
  exact ⟨congrArg Ending.returned (agg_eq (by rw [HX.out, HB.out, HF.out]) rfl), by go_grown⟩
theorem back_adr (a : Int) (ha : 0 ≤ a) (ha2 : a < 4294967296) : adrI (parse (text a.toNat)) = (a, 0) := by
  rw [parse_text _ (by omega)]
  simp only [adrI]
  rw [Int.toNat_of_nonneg ha]
theorem back_pfx (a n : Int) (ha : 0 ≤ a) (ha2 : a < 4294967296) (h : ck a n = 0) : pparse (ptext a.toNat n) = (a, n, 0) := by
  obtain ⟨n0, n1, _⟩ := ck_ok a n h
  have hnot : (47 : UInt8) ∉ text a.toNat := by
    have d : dig 47 = false := by decide
    unfold text
    simp only [List.mem_append, List.mem_cons, not_or]
    exact ⟨dec_no _ _ d, by decide, dec_no _ _ d, by decide, dec_no _ _ d, by decide, dec_no _ _ d⟩
  have hi : Lib.itoa n = Lib.decDigits n.toNat := by unfold Lib.itoa; rw [if_neg (by omega)]
  unfold pparse ptext
  rw [cut1_mk _ _ _ hnot, parse_text _ (by omega), hi, num_dec _ _ (by omega)]
  simp only
  rw [Int.toNat_of_nonneg ha, Int.toNat_of_nonneg n0, h]
  simp
theorem text_of {l : List UInt8} {a : Int} (h : adrI (parse l) = (a, 0)) : text a.toNat = l := by
  cases hp : parse l with
  | none => rw [hp] at h; simp [adrI] at h
  | some b =>
    rw [hp] at h
    simp only [adrI, Prod.mk.injEq] at h
    rw [← h.1, Int.toNat_natCast]
    exact text_parse hp
theorem ptext_of {l : List UInt8} {a n : Int} (h : pparse l = (a, n, 0)) : ptext a.toNat n = l := by
  unfold pparse at h
  split at h
  · rename_i a' n' h1 h2 h3
    split at h
    · simp only [Prod.mk.injEq] at h
      obtain ⟨rfl, rfl, _⟩ := h
      have hi : Lib.itoa (n' : Int) = Lib.decDigits n' := by unfold Lib.itoa; rw [if_neg (by omega), Int.toNat_natCast]
      unfold ptext
      rw [hi, Int.toNat_natCast, dec_num h2, text_parse h1]
      exact (cut1_yes _ _ h3).symm
    · rename_i hc
      simp only [Prod.mk.injEq] at h
      exact absurd h.2.2 hc
  · simp at h
theorem adrI_range {l : List UInt8} : 0 ≤ (adrI (parse l)).1 ∧ (adrI (parse l)).1 < 4294967296 := by
  cases hp : parse l with
  | none => simp [adrI]
  | some b => have := parse_lt hp; simp [adrI]; omega
theorem pparse_range {l : List UInt8} : 0 ≤ (pparse l).1 ∧ (pparse l).1 < 4294967296 ∧ 0 ≤ (pparse l).2.1 ∧ (pparse l).2.1 ≤ 32 := by
  unfold pparse
  split
  · rename_i a' n' h1 h2 h3
    have := parse_lt h1
    have := (num_some h2).2.2.2.1
    split <;> simp <;> omega
  · simp
set_option maxRecDepth 100000 in
set_option maxHeartbeats 4000000 in
theorem back_any (a n : Int) (t : ByteArray) (w : World) (ha : 0 ≤ a) (ha2 : a < 4294967296) (ht : t.size ≤ 9223372036854775807) (hT : Tab w) (h10 : Tab10 w) :
    Calls Tryd.prog 6 #[.int .u32 a, .int .i64 n, .string t] w fun e w' => e = .returned (.bool true) ∧ Below w.heap.size w w' := by
  obtain ⟨m0, m1⟩ := fm_range n
  obtain ⟨a0, a1⟩ := fa_range a n ha ha2
  have hck := fa_ck a n
  obtain ⟨m, hm⟩ : ∃ m, fm n = m := ⟨_, rfl⟩
  obtain ⟨b, hb⟩ : ∃ b, fa a n = b := ⟨_, rfl⟩
  have HFit := Lib.hid (fun w => fit_is a n w ha ha2)
  rw [hm] at m0 m1 hck
  rw [hb] at a0 a1 hck
  rw [hm, hb] at HFit
  clear hm hb
  have HA := Lib.hid (back_adr a ha ha2)
  have HB := Lib.hid (back_pfx b m a0 a1 hck)
  have HL1 : Hid ((⟨(text a.toNat).toArray⟩ : ByteArray).size ≤ 9223372036854775807) := Lib.hid (by rw [mk_size]; have := text_len a.toNat (by omega); omega)
  have HL2 : Hid ((⟨(ptext b.toNat m).toArray⟩ : ByteArray).size ≤ 9223372036854775807) := Lib.hid (by
    rw [mk_size]
    have h1 := text_len b.toNat (by omega)
    have h2 := itoa_len m (by omega) (by omega)
    simp [ptext]
    omega)
  clear hck
  obtain ⟨x1, x2, hx⟩ : ∃ x1 x2, adrI (parse t.data.toList) = (x1, x2) := ⟨_, _, rfl⟩
  obtain ⟨y1, y2, y3, hy⟩ : ∃ y1 y2 y3, pparse t.data.toList = (y1, y2, y3) := ⟨_, _, _, rfl⟩
  obtain ⟨rx0, rx1⟩ := @adrI_range t.data.toList
  obtain ⟨ry0, ry1, ry2, ry3⟩ := @pparse_range t.data.toList
  rw [hx] at rx0 rx1
  rw [hy] at ry0 ry1 ry2 ry3
  simp only at rx0 rx1 ry0 ry1 ry2 ry3
  have HX := Lib.hid hx
  have HY := Lib.hid hy
  clear hx hy
  have main : ((x2 = 0 ∧ Hid (text x1.toNat = t.data.toList)) ∨ (x2 != 0) = true) → ((y3 = 0 ∧ Hid (ptext y1.toNat y2 = t.data.toList)) ∨ (y3 != 0) = true) → Calls Tryd.prog 6 #[.int .u32 a, .int .i64 n, .string t] w fun e w' => e = .returned (.bool true) ∧ Below w.heap.size w w' := by
    intro hx2 hy3
    rcases hx2 with ⟨rfl, HT1⟩ | hx2 <;> rcases hy3 with ⟨rfl, HT2⟩ | hy3
    all_goals
      go_enter Tryd.func6, Tryd.ntmps6
      go_wp2_with (first
        | (go_at_call 9; (with_reducible refine (works_is _ hT h10).mono ?_); rintro e w1 ⟨rfl, hb1⟩)
        | (go_at_call 27; (with_reducible refine (HFit.out _).mono ?_); rintro e w2 ⟨rfl, hb2⟩; have hB2 : Below w.heap.size w w2 := (Below.step hb1 hb2); have s2 : w.heap.size ≤ w2.heap.size := hB2.size)
        | (go_at_call 22; (with_reducible refine (text_is a _ ha ha2 (h10.on (hB2.alloc hB2.size _))).mono ?_); rintro e w3 ⟨rfl, hb3⟩; have hB3 : Below w.heap.size w w3 := (Below.step (hB2.alloc hB2.size _) hb3); obtain ⟨hc3, hf3⟩ := bcell hb3; have hz3 := hb3.size; (try simp at hz3); have q3_0 : w2.heap.size < w3.heap.size := (by omega))
        | (go_at_call 10; (with_reducible refine (parse_is _ _ HL1.out).mono ?_); rintro e w4 ⟨rfl, hb4⟩; rw [mk_toList, HA.out]; have hB4 : Below w.heap.size w w4 := (Below.step hB3 hb4); obtain ⟨hc4, hf4⟩ := bcell hb4; have hz4 := hb4.size; (try simp at hz4); have q4_0 : w2.heap.size < w4.heap.size := (by omega))
        | (go_at_call 18; (with_reducible refine (ptext_is b m _ a0 a1 (by omega) (by omega) (h10.on hB4)).mono ?_); rintro e w5 ⟨rfl, hb5⟩; have hB5 : Below w.heap.size w w5 := (Below.step hB4 hb5); obtain ⟨hc5, hf5⟩ := bcell hb5; have hz5 := hb5.size; (try simp at hz5); have q5_0 : w2.heap.size < w5.heap.size := (by omega))
        | (go_at_call 11; (with_reducible refine (pparse_is _ _ HL2.out).mono ?_); rintro e w6 ⟨rfl, hb6⟩; rw [mk_toList, HB.out]; have hB6 : Below w.heap.size w w6 := (Below.step hB5 hb6); obtain ⟨hc6, hf6⟩ := bcell hb6; have hz6 := hb6.size; (try simp at hz6); have q6_0 : w2.heap.size < w6.heap.size := (by omega); have s6 : w.heap.size ≤ w6.heap.size := hB6.size)
        | (go_at_call 12; (with_reducible refine (mask_ok m _ m0 m1).mono ?_); rintro e w' ⟨rfl, rfl⟩)
        | (go_at_call 28; (with_reducible refine (bits_yes m _ m0 m1).mono ?_); rintro e w' ⟨rfl, rfl⟩)
        | (go_at_call 21; (with_reducible refine (same_is b m b m _).mono ?_); rintro e w7 ⟨rfl, hb7⟩; have hB7 : Below w.heap.size w w7 := (Below.step (hB6.alloc hB6.size _) hb7); obtain ⟨hc7, hf7⟩ := bcell hb7; have hz7 := hb7.size; (try simp at hz7); have q7_0 : w2.heap.size < w7.heap.size := (by omega); have q7_1 : w6.heap.size < w7.heap.size := (by omega))
        | (go_at_call 10; (with_reducible refine (parse_is t _ ht).mono ?_); rintro e w8 ⟨rfl, hb8⟩; rw [HX.out]; have hB8 : Below w.heap.size w w8 := (Below.step hB7 hb8); obtain ⟨hc8, hf8⟩ := bcell hb8; have hz8 := hb8.size; (try simp at hz8); have q8_0 : w2.heap.size < w8.heap.size := (by omega); have q8_1 : w6.heap.size < w8.heap.size := (by omega))
        | (go_at_call 11; (with_reducible refine (pparse_is t _ ht).mono ?_); rintro e w9 ⟨rfl, hb9⟩; rw [HY.out]; have hB9 : Below w.heap.size w w9 := (Below.step hB8 hb9); obtain ⟨hc9, hf9⟩ := bcell hb9; have hz9 := hb9.size; (try simp at hz9); have q9_0 : w2.heap.size < w9.heap.size := (by omega); have q9_1 : w6.heap.size < w9.heap.size := (by omega))
        | (go_at_call 22; (with_reducible refine (text_is x1 _ rx0 rx1 (h10.on ((hB9.setCell s6 _).setCell s6 _))).mono ?_); rintro e w10 ⟨rfl, hb10⟩; rw [HT1.out, ← all_of]; have hB10 : Below w.heap.size w w10 := (Below.step ((hB9.setCell s6 _).setCell s6 _) hb10); obtain ⟨hc10, hf10⟩ := bcell hb10; have hz10 := hb10.size; (try simp at hz10); have q10_0 : w2.heap.size < w10.heap.size := (by omega); have q10_1 : w6.heap.size < w10.heap.size := (by omega))
        | (go_at_call 18; (with_reducible refine (ptext_is y1 y2 _ ry0 ry1 (by omega) (by omega) (h10.on (by first | assumption | exact ((hB9.setCell s6 _).setCell s6 _)))).mono ?_); rintro e w11 ⟨rfl, hb11⟩; rw [HT2.out, ← all_of]))
      go_ret
      refine ⟨rfl, ?_⟩
      first
        | exact Below.step hB10 hb11
        | exact Below.step ((hB9.setCell s6 _).setCell s6 _) hb11
        | exact hB10
        | exact ((hB9.setCell s6 _).setCell s6 _)
  refine main ?_ ?_
  · by_cases h : x2 = 0
    · exact .inl ⟨h, Lib.hid (text_of (by rw [HX.out, h]))⟩
    · exact .inr (by simpa using h)
  · by_cases h : y3 = 0
    · exact .inl ⟨h, Lib.hid (ptext_of (by rw [HY.out, h]))⟩
    · exact .inr (by simpa using h)
end Go.Proofs.YtdjjogcagolcjaaDoor
