/- What the calls do that ask one rule, of package filter and of waymarkref10: portsMay, portIn, ruleMay, May. No condition but that what is handed in is of its kind. -/
import Derived.Test.YtgggmhaopcgkkaaGreatDoorFlK
namespace Go.Proofs.YtgggmhaopcgkkaaGreatDoor
open Go.RowKit
set_option maxHeartbeats 400000 in
theorem portsMay_is (lo hi : Int) (w : World) : Calls Tryz.prog 31 #[.agg #[.int .u32 lo, .int .u32 hi]] w fun e w' => e = .returned (.bool (pmB lo hi)) ∧ Below w.heap.size w w' := by
  by_cases h1 : lo ≤ hi
  · by_cases h2 : hi ≤ 65535
    all_goals
      go_enter Tryz.func31, Tryz.ntmps31
      go_wp2
      go_ret
      exact ⟨ret_bool (by simp [pmB, h1, h2]), by go_grown⟩
  · go_enter Tryz.func31, Tryz.ntmps31
    go_wp2
    go_ret
    exact ⟨ret_bool (by simp [pmB]; omega), by go_grown⟩
set_option maxHeartbeats 400000 in
theorem portIn_is (x lo hi : Int) (w : World) (h0 : 0 ≤ x) (h9 : x < 65536) : Calls Tryz.prog 46 #[.int .u16 x, .agg #[.int .u32 lo, .int .u32 hi]] w fun e w' => e = .returned (.bool (piB x lo hi)) ∧ Below w.heap.size w w' := by
  have e1 : IntKind.u32.wrap x = x := IntWalk.u32_in _ ⟨by omega, by omega⟩
  by_cases h1 : lo ≤ x
  · by_cases h2 : x ≤ hi
    all_goals
      go_enter Tryz.func46, Tryz.ntmps46
      go_wp2
      go_ret
      exact ⟨ret_bool (by simp [piB, h1, h2]), by go_grown⟩
  · go_enter Tryz.func46, Tryz.ntmps46
    go_wp2
    go_ret
    exact ⟨ret_bool (by simp [piB]; omega), by go_grown⟩
set_option maxHeartbeats 1000000 in
theorem ruleMay_is (r : RuleD) (w : World) (hr : r.ok) : Calls Tryz.prog 13 #[vR r] w fun e w' => e = .returned (.bool (mayB r)) ∧ Below w.heap.size w w' := by
  obtain ⟨perm, proto, sa, sn, da, dn, sl, sh, dl, dh⟩ := r
  obtain ⟨a0, a1, b0, b1⟩ := hr
  simp only at a0 a1 b0 b1
  show Calls _ _ #[.agg #[.bool perm, .int .i64 proto, .int .u32 sa, .int .i64 sn, .int .u32 da, .int .i64 dn, .int .u32 sl, .int .u32 sh, .int .u32 dl, .int .u32 dh]] _ _
  obtain ⟨c1, kc1⟩ : ∃ c, ck sa sn = c := ⟨_, rfl⟩
  obtain ⟨c2, kc2⟩ : ∃ c, ck da dn = c := ⟨_, rfl⟩
  obtain ⟨q1, kq1⟩ : ∃ c, pmB sl sh = c := ⟨_, rfl⟩
  obtain ⟨q2, kq2⟩ : ∃ c, pmB dl dh = c := ⟨_, rfl⟩
  have HM : Hid (mayB ⟨perm, proto, sa, sn, da, dn, sl, sh, dl, dh⟩ = (decide (-1 ≤ proto) && (decide (proto ≤ 255) && (decide (c1 = 0) && (decide (c2 = 0) && (q1 && q2)))))) := Lib.hid (by simp only [mayB, kc1, kc2, kq1, kq2])
  have Kc1 := Lib.hid kc1
  have Kc2 := Lib.hid kc2
  have Kq1 := Lib.hid kq1
  have Kq2 := Lib.hid kq2
  clear kc1 kc2 kq1 kq2
  have hb : Below w.heap.size w (w.alloc (.cells #[.bool perm, .int .i64 proto, .int .u32 sa, .int .i64 sn, .int .u32 da, .int .i64 dn, .int .u32 sl, .int .u32 sh, .int .u32 dl, .int .u32 dh] 29)) := (Below.refl _ _).alloc (Nat.le_refl _) _
  have hz : w.heap.size < (w.alloc (.cells #[.bool perm, .int .i64 proto, .int .u32 sa, .int .i64 sn, .int .u32 da, .int .i64 dn, .int .u32 sl, .int .u32 sh, .int .u32 dl, .int .u32 dh] 29)).heap.size := by simp
  by_cases hh6 : -1 ≤ proto
  · skip
    by_cases hh5 : proto ≤ 255
    · skip
      by_cases hh4 : c1 = 0
      · have gc1 : (c1 == 0) = true := by simpa using hh4
        have nc1 : (c1 != 0) = false := by simpa using hh4
        by_cases hh3 : c2 = 0
        · have gc2 : (c2 == 0) = true := by simpa using hh3
          have nc2 : (c2 != 0) = false := by simpa using hh3
          cases q1 with
          | true =>
            skip
            cases q2 with
            | true =>
              skip
              go_enter Tryz.func13, Tryz.ntmps13
              go_wp2_with (first | (go_at_call 30; (with_reducible refine (check_is sa sn _ a0 a1).mono ?_); rintro e w1 ⟨rfl, hq⟩; rw [Kc1.out]; obtain ⟨hc1, hf1⟩ := bcell hq; have hb := Below.step hb hq; have hz := Nat.lt_of_lt_of_le hz hq.size) | (go_at_call 30; (with_reducible refine (check_is da dn _ b0 b1).mono ?_); rintro e w1 ⟨rfl, hq⟩; rw [Kc2.out]; obtain ⟨hc2, hf2⟩ := bcell hq; have hb := Below.step hb hq; have hz := Nat.lt_of_lt_of_le hz hq.size) | (go_at_call 31; (with_reducible refine (portsMay_is sl sh _).mono ?_); rintro e w1 ⟨rfl, hq⟩; rw [Kq1.out]; obtain ⟨hc3, hf3⟩ := bcell hq; have hb := Below.step hb hq; have hz := Nat.lt_of_lt_of_le hz hq.size) | (go_at_call 31; (with_reducible refine (portsMay_is dl dh _).mono ?_); rintro e w1 ⟨rfl, hq⟩; rw [Kq2.out]; obtain ⟨hc4, hf4⟩ := bcell hq; have hb := Below.step hb hq; have hz := Nat.lt_of_lt_of_le hz hq.size))
              go_ret
              exact ⟨ret_bool (by rw [HM.out]; first | (simp [*]; done) | (simp [*]; intros; omega)), by first | exact hb | exact hb.drew⟩
            | false =>
              skip
              go_enter Tryz.func13, Tryz.ntmps13
              go_wp2_with (first | (go_at_call 30; (with_reducible refine (check_is sa sn _ a0 a1).mono ?_); rintro e w1 ⟨rfl, hq⟩; rw [Kc1.out]; obtain ⟨hc1, hf1⟩ := bcell hq; have hb := Below.step hb hq; have hz := Nat.lt_of_lt_of_le hz hq.size) | (go_at_call 30; (with_reducible refine (check_is da dn _ b0 b1).mono ?_); rintro e w1 ⟨rfl, hq⟩; rw [Kc2.out]; obtain ⟨hc2, hf2⟩ := bcell hq; have hb := Below.step hb hq; have hz := Nat.lt_of_lt_of_le hz hq.size) | (go_at_call 31; (with_reducible refine (portsMay_is sl sh _).mono ?_); rintro e w1 ⟨rfl, hq⟩; rw [Kq1.out]; obtain ⟨hc3, hf3⟩ := bcell hq; have hb := Below.step hb hq; have hz := Nat.lt_of_lt_of_le hz hq.size) | (go_at_call 31; (with_reducible refine (portsMay_is dl dh _).mono ?_); rintro e w1 ⟨rfl, hq⟩; rw [Kq2.out]; obtain ⟨hc4, hf4⟩ := bcell hq; have hb := Below.step hb hq; have hz := Nat.lt_of_lt_of_le hz hq.size))
              go_ret
              exact ⟨ret_bool (by rw [HM.out]; first | (simp [*]; done) | (simp [*]; intros; omega)), by first | exact hb | exact hb.drew⟩
          | false =>
            skip
            go_enter Tryz.func13, Tryz.ntmps13
            go_wp2_with (first | (go_at_call 30; (with_reducible refine (check_is sa sn _ a0 a1).mono ?_); rintro e w1 ⟨rfl, hq⟩; rw [Kc1.out]; obtain ⟨hc1, hf1⟩ := bcell hq; have hb := Below.step hb hq; have hz := Nat.lt_of_lt_of_le hz hq.size) | (go_at_call 30; (with_reducible refine (check_is da dn _ b0 b1).mono ?_); rintro e w1 ⟨rfl, hq⟩; rw [Kc2.out]; obtain ⟨hc2, hf2⟩ := bcell hq; have hb := Below.step hb hq; have hz := Nat.lt_of_lt_of_le hz hq.size) | (go_at_call 31; (with_reducible refine (portsMay_is sl sh _).mono ?_); rintro e w1 ⟨rfl, hq⟩; rw [Kq1.out]; obtain ⟨hc3, hf3⟩ := bcell hq; have hb := Below.step hb hq; have hz := Nat.lt_of_lt_of_le hz hq.size) | (go_at_call 31; (with_reducible refine (portsMay_is dl dh _).mono ?_); rintro e w1 ⟨rfl, hq⟩; rw [Kq2.out]; obtain ⟨hc4, hf4⟩ := bcell hq; have hb := Below.step hb hq; have hz := Nat.lt_of_lt_of_le hz hq.size))
            go_ret
            exact ⟨ret_bool (by rw [HM.out]; first | (simp [*]; done) | (simp [*]; intros; omega)), by first | exact hb | exact hb.drew⟩
        · have gc2 : (c2 == 0) = false := by simpa using hh3
          have nc2 : (c2 != 0) = true := by simpa using hh3
          go_enter Tryz.func13, Tryz.ntmps13
          go_wp2_with (first | (go_at_call 30; (with_reducible refine (check_is sa sn _ a0 a1).mono ?_); rintro e w1 ⟨rfl, hq⟩; rw [Kc1.out]; obtain ⟨hc1, hf1⟩ := bcell hq; have hb := Below.step hb hq; have hz := Nat.lt_of_lt_of_le hz hq.size) | (go_at_call 30; (with_reducible refine (check_is da dn _ b0 b1).mono ?_); rintro e w1 ⟨rfl, hq⟩; rw [Kc2.out]; obtain ⟨hc2, hf2⟩ := bcell hq; have hb := Below.step hb hq; have hz := Nat.lt_of_lt_of_le hz hq.size) | (go_at_call 31; (with_reducible refine (portsMay_is sl sh _).mono ?_); rintro e w1 ⟨rfl, hq⟩; rw [Kq1.out]; obtain ⟨hc3, hf3⟩ := bcell hq; have hb := Below.step hb hq; have hz := Nat.lt_of_lt_of_le hz hq.size) | (go_at_call 31; (with_reducible refine (portsMay_is dl dh _).mono ?_); rintro e w1 ⟨rfl, hq⟩; rw [Kq2.out]; obtain ⟨hc4, hf4⟩ := bcell hq; have hb := Below.step hb hq; have hz := Nat.lt_of_lt_of_le hz hq.size))
          go_ret
          exact ⟨ret_bool (by rw [HM.out]; first | (simp [*]; done) | (simp [*]; intros; omega)), by first | exact hb | exact hb.drew⟩
      · have gc1 : (c1 == 0) = false := by simpa using hh4
        have nc1 : (c1 != 0) = true := by simpa using hh4
        go_enter Tryz.func13, Tryz.ntmps13
        go_wp2_with (first | (go_at_call 30; (with_reducible refine (check_is sa sn _ a0 a1).mono ?_); rintro e w1 ⟨rfl, hq⟩; rw [Kc1.out]; obtain ⟨hc1, hf1⟩ := bcell hq; have hb := Below.step hb hq; have hz := Nat.lt_of_lt_of_le hz hq.size) | (go_at_call 30; (with_reducible refine (check_is da dn _ b0 b1).mono ?_); rintro e w1 ⟨rfl, hq⟩; rw [Kc2.out]; obtain ⟨hc2, hf2⟩ := bcell hq; have hb := Below.step hb hq; have hz := Nat.lt_of_lt_of_le hz hq.size) | (go_at_call 31; (with_reducible refine (portsMay_is sl sh _).mono ?_); rintro e w1 ⟨rfl, hq⟩; rw [Kq1.out]; obtain ⟨hc3, hf3⟩ := bcell hq; have hb := Below.step hb hq; have hz := Nat.lt_of_lt_of_le hz hq.size) | (go_at_call 31; (with_reducible refine (portsMay_is dl dh _).mono ?_); rintro e w1 ⟨rfl, hq⟩; rw [Kq2.out]; obtain ⟨hc4, hf4⟩ := bcell hq; have hb := Below.step hb hq; have hz := Nat.lt_of_lt_of_le hz hq.size))
        go_ret
        exact ⟨ret_bool (by rw [HM.out]; first | (simp [*]; done) | (simp [*]; intros; omega)), by first | exact hb | exact hb.drew⟩
    · skip
      go_enter Tryz.func13, Tryz.ntmps13
      go_wp2_with (first | (go_at_call 30; (with_reducible refine (check_is sa sn _ a0 a1).mono ?_); rintro e w1 ⟨rfl, hq⟩; rw [Kc1.out]; obtain ⟨hc1, hf1⟩ := bcell hq; have hb := Below.step hb hq; have hz := Nat.lt_of_lt_of_le hz hq.size) | (go_at_call 30; (with_reducible refine (check_is da dn _ b0 b1).mono ?_); rintro e w1 ⟨rfl, hq⟩; rw [Kc2.out]; obtain ⟨hc2, hf2⟩ := bcell hq; have hb := Below.step hb hq; have hz := Nat.lt_of_lt_of_le hz hq.size) | (go_at_call 31; (with_reducible refine (portsMay_is sl sh _).mono ?_); rintro e w1 ⟨rfl, hq⟩; rw [Kq1.out]; obtain ⟨hc3, hf3⟩ := bcell hq; have hb := Below.step hb hq; have hz := Nat.lt_of_lt_of_le hz hq.size) | (go_at_call 31; (with_reducible refine (portsMay_is dl dh _).mono ?_); rintro e w1 ⟨rfl, hq⟩; rw [Kq2.out]; obtain ⟨hc4, hf4⟩ := bcell hq; have hb := Below.step hb hq; have hz := Nat.lt_of_lt_of_le hz hq.size))
      go_ret
      exact ⟨ret_bool (by rw [HM.out]; first | (simp [*]; done) | (simp [*]; intros; omega)), by first | exact hb | exact hb.drew⟩
  · skip
    go_enter Tryz.func13, Tryz.ntmps13
    go_wp2_with (first | (go_at_call 30; (with_reducible refine (check_is sa sn _ a0 a1).mono ?_); rintro e w1 ⟨rfl, hq⟩; rw [Kc1.out]; obtain ⟨hc1, hf1⟩ := bcell hq; have hb := Below.step hb hq; have hz := Nat.lt_of_lt_of_le hz hq.size) | (go_at_call 30; (with_reducible refine (check_is da dn _ b0 b1).mono ?_); rintro e w1 ⟨rfl, hq⟩; rw [Kc2.out]; obtain ⟨hc2, hf2⟩ := bcell hq; have hb := Below.step hb hq; have hz := Nat.lt_of_lt_of_le hz hq.size) | (go_at_call 31; (with_reducible refine (portsMay_is sl sh _).mono ?_); rintro e w1 ⟨rfl, hq⟩; rw [Kq1.out]; obtain ⟨hc3, hf3⟩ := bcell hq; have hb := Below.step hb hq; have hz := Nat.lt_of_lt_of_le hz hq.size) | (go_at_call 31; (with_reducible refine (portsMay_is dl dh _).mono ?_); rintro e w1 ⟨rfl, hq⟩; rw [Kq2.out]; obtain ⟨hc4, hf4⟩ := bcell hq; have hb := Below.step hb hq; have hz := Nat.lt_of_lt_of_le hz hq.size))
    go_ret
    exact ⟨ret_bool (by rw [HM.out]; first | (simp [*]; done) | (simp [*]; intros; omega)), by first | exact hb | exact hb.drew⟩
set_option maxHeartbeats 1000000 in
theorem may_is (r : RuleD) (w : World) (hr : r.ok) : Calls Tryz.prog 19 #[vR r] w fun e w' => e = .returned (.bool (mayB r)) ∧ Below w.heap.size w w' := by
  obtain ⟨perm, proto, sa, sn, da, dn, sl, sh, dl, dh⟩ := r
  obtain ⟨a0, a1, b0, b1⟩ := hr
  simp only at a0 a1 b0 b1
  show Calls _ _ #[.agg #[.bool perm, .int .i64 proto, .int .u32 sa, .int .i64 sn, .int .u32 da, .int .i64 dn, .int .u32 sl, .int .u32 sh, .int .u32 dl, .int .u32 dh]] _ _
  obtain ⟨c1, kc1⟩ : ∃ c, ck sa sn = c := ⟨_, rfl⟩
  obtain ⟨c2, kc2⟩ : ∃ c, ck da dn = c := ⟨_, rfl⟩
  have HM : Hid (mayB ⟨perm, proto, sa, sn, da, dn, sl, sh, dl, dh⟩ = (decide (-1 ≤ proto) && (decide (proto ≤ 255) && (decide (c1 = 0) && (decide (c2 = 0) && (pmB sl sh && pmB dl dh)))))) := Lib.hid (by simp only [mayB, kc1, kc2])
  have Kc1 := Lib.hid kc1
  have Kc2 := Lib.hid kc2
  clear kc1 kc2
  have hb : Below w.heap.size w (w.alloc (.cells #[.bool perm, .int .i64 proto, .int .u32 sa, .int .i64 sn, .int .u32 da, .int .i64 dn, .int .u32 sl, .int .u32 sh, .int .u32 dl, .int .u32 dh] 29)) := (Below.refl _ _).alloc (Nat.le_refl _) _
  have hz : w.heap.size < (w.alloc (.cells #[.bool perm, .int .i64 proto, .int .u32 sa, .int .i64 sn, .int .u32 da, .int .i64 dn, .int .u32 sl, .int .u32 sh, .int .u32 dl, .int .u32 dh] 29)).heap.size := by simp
  by_cases hh8 : -1 ≤ proto
  · skip
    by_cases hh7 : proto ≤ 255
    · skip
      by_cases hh6 : c1 = 0
      · have gc1 : (c1 == 0) = true := by simpa using hh6
        have nc1 : (c1 != 0) = false := by simpa using hh6
        by_cases hh5 : c2 = 0
        · have gc2 : (c2 == 0) = true := by simpa using hh5
          have nc2 : (c2 != 0) = false := by simpa using hh5
          by_cases hh4 : sl ≤ sh
          · skip
            by_cases hh3 : sh ≤ 65535
            · skip
              by_cases hh2 : dl ≤ dh
              · skip
                by_cases hh1 : dh ≤ 65535
                · skip
                  go_enter Tryz.func19, Tryz.ntmps19
                  go_wp2_with (first | (go_at_call 37; (with_reducible refine (rcheck_is sa sn _ a0 a1).mono ?_); rintro e w1 ⟨rfl, hq⟩; rw [Kc1.out]; obtain ⟨hc1, hf1⟩ := bcell hq; have hb := Below.step hb hq; have hz := Nat.lt_of_lt_of_le hz hq.size) | (go_at_call 37; (with_reducible refine (rcheck_is da dn _ b0 b1).mono ?_); rintro e w1 ⟨rfl, hq⟩; rw [Kc2.out]; obtain ⟨hc2, hf2⟩ := bcell hq; have hb := Below.step hb hq; have hz := Nat.lt_of_lt_of_le hz hq.size))
                  go_ret
                  exact ⟨ret_bool (by rw [HM.out]; first | (simp [*, pmB]; done) | (simp [*, pmB]; intros; omega)), by first | exact hb | exact hb.drew⟩
                · skip
                  go_enter Tryz.func19, Tryz.ntmps19
                  go_wp2_with (first | (go_at_call 37; (with_reducible refine (rcheck_is sa sn _ a0 a1).mono ?_); rintro e w1 ⟨rfl, hq⟩; rw [Kc1.out]; obtain ⟨hc1, hf1⟩ := bcell hq; have hb := Below.step hb hq; have hz := Nat.lt_of_lt_of_le hz hq.size) | (go_at_call 37; (with_reducible refine (rcheck_is da dn _ b0 b1).mono ?_); rintro e w1 ⟨rfl, hq⟩; rw [Kc2.out]; obtain ⟨hc2, hf2⟩ := bcell hq; have hb := Below.step hb hq; have hz := Nat.lt_of_lt_of_le hz hq.size))
                  go_ret
                  exact ⟨ret_bool (by rw [HM.out]; first | (simp [*, pmB]; done) | (simp [*, pmB]; intros; omega)), by first | exact hb | exact hb.drew⟩
              · skip
                go_enter Tryz.func19, Tryz.ntmps19
                go_wp2_with (first | (go_at_call 37; (with_reducible refine (rcheck_is sa sn _ a0 a1).mono ?_); rintro e w1 ⟨rfl, hq⟩; rw [Kc1.out]; obtain ⟨hc1, hf1⟩ := bcell hq; have hb := Below.step hb hq; have hz := Nat.lt_of_lt_of_le hz hq.size) | (go_at_call 37; (with_reducible refine (rcheck_is da dn _ b0 b1).mono ?_); rintro e w1 ⟨rfl, hq⟩; rw [Kc2.out]; obtain ⟨hc2, hf2⟩ := bcell hq; have hb := Below.step hb hq; have hz := Nat.lt_of_lt_of_le hz hq.size))
                go_ret
                exact ⟨ret_bool (by rw [HM.out]; first | (simp [*, pmB]; done) | (simp [*, pmB]; intros; omega)), by first | exact hb | exact hb.drew⟩
            · skip
              go_enter Tryz.func19, Tryz.ntmps19
              go_wp2_with (first | (go_at_call 37; (with_reducible refine (rcheck_is sa sn _ a0 a1).mono ?_); rintro e w1 ⟨rfl, hq⟩; rw [Kc1.out]; obtain ⟨hc1, hf1⟩ := bcell hq; have hb := Below.step hb hq; have hz := Nat.lt_of_lt_of_le hz hq.size) | (go_at_call 37; (with_reducible refine (rcheck_is da dn _ b0 b1).mono ?_); rintro e w1 ⟨rfl, hq⟩; rw [Kc2.out]; obtain ⟨hc2, hf2⟩ := bcell hq; have hb := Below.step hb hq; have hz := Nat.lt_of_lt_of_le hz hq.size))
              go_ret
              exact ⟨ret_bool (by rw [HM.out]; first | (simp [*, pmB]; done) | (simp [*, pmB]; intros; omega)), by first | exact hb | exact hb.drew⟩
          · skip
            go_enter Tryz.func19, Tryz.ntmps19
            go_wp2_with (first | (go_at_call 37; (with_reducible refine (rcheck_is sa sn _ a0 a1).mono ?_); rintro e w1 ⟨rfl, hq⟩; rw [Kc1.out]; obtain ⟨hc1, hf1⟩ := bcell hq; have hb := Below.step hb hq; have hz := Nat.lt_of_lt_of_le hz hq.size) | (go_at_call 37; (with_reducible refine (rcheck_is da dn _ b0 b1).mono ?_); rintro e w1 ⟨rfl, hq⟩; rw [Kc2.out]; obtain ⟨hc2, hf2⟩ := bcell hq; have hb := Below.step hb hq; have hz := Nat.lt_of_lt_of_le hz hq.size))
            go_ret
            exact ⟨ret_bool (by rw [HM.out]; first | (simp [*, pmB]; done) | (simp [*, pmB]; intros; omega)), by first | exact hb | exact hb.drew⟩
        · have gc2 : (c2 == 0) = false := by simpa using hh5
          have nc2 : (c2 != 0) = true := by simpa using hh5
          go_enter Tryz.func19, Tryz.ntmps19
          go_wp2_with (first | (go_at_call 37; (with_reducible refine (rcheck_is sa sn _ a0 a1).mono ?_); rintro e w1 ⟨rfl, hq⟩; rw [Kc1.out]; obtain ⟨hc1, hf1⟩ := bcell hq; have hb := Below.step hb hq; have hz := Nat.lt_of_lt_of_le hz hq.size) | (go_at_call 37; (with_reducible refine (rcheck_is da dn _ b0 b1).mono ?_); rintro e w1 ⟨rfl, hq⟩; rw [Kc2.out]; obtain ⟨hc2, hf2⟩ := bcell hq; have hb := Below.step hb hq; have hz := Nat.lt_of_lt_of_le hz hq.size))
          go_ret
          exact ⟨ret_bool (by rw [HM.out]; first | (simp [*, pmB]; done) | (simp [*, pmB]; intros; omega)), by first | exact hb | exact hb.drew⟩
      · have gc1 : (c1 == 0) = false := by simpa using hh6
        have nc1 : (c1 != 0) = true := by simpa using hh6
        go_enter Tryz.func19, Tryz.ntmps19
        go_wp2_with (first | (go_at_call 37; (with_reducible refine (rcheck_is sa sn _ a0 a1).mono ?_); rintro e w1 ⟨rfl, hq⟩; rw [Kc1.out]; obtain ⟨hc1, hf1⟩ := bcell hq; have hb := Below.step hb hq; have hz := Nat.lt_of_lt_of_le hz hq.size) | (go_at_call 37; (with_reducible refine (rcheck_is da dn _ b0 b1).mono ?_); rintro e w1 ⟨rfl, hq⟩; rw [Kc2.out]; obtain ⟨hc2, hf2⟩ := bcell hq; have hb := Below.step hb hq; have hz := Nat.lt_of_lt_of_le hz hq.size))
        go_ret
        exact ⟨ret_bool (by rw [HM.out]; first | (simp [*, pmB]; done) | (simp [*, pmB]; intros; omega)), by first | exact hb | exact hb.drew⟩
    · skip
      go_enter Tryz.func19, Tryz.ntmps19
      go_wp2_with (first | (go_at_call 37; (with_reducible refine (rcheck_is sa sn _ a0 a1).mono ?_); rintro e w1 ⟨rfl, hq⟩; rw [Kc1.out]; obtain ⟨hc1, hf1⟩ := bcell hq; have hb := Below.step hb hq; have hz := Nat.lt_of_lt_of_le hz hq.size) | (go_at_call 37; (with_reducible refine (rcheck_is da dn _ b0 b1).mono ?_); rintro e w1 ⟨rfl, hq⟩; rw [Kc2.out]; obtain ⟨hc2, hf2⟩ := bcell hq; have hb := Below.step hb hq; have hz := Nat.lt_of_lt_of_le hz hq.size))
      go_ret
      exact ⟨ret_bool (by rw [HM.out]; first | (simp [*, pmB]; done) | (simp [*, pmB]; intros; omega)), by first | exact hb | exact hb.drew⟩
  · skip
    go_enter Tryz.func19, Tryz.ntmps19
    go_wp2_with (first | (go_at_call 37; (with_reducible refine (rcheck_is sa sn _ a0 a1).mono ?_); rintro e w1 ⟨rfl, hq⟩; rw [Kc1.out]; obtain ⟨hc1, hf1⟩ := bcell hq; have hb := Below.step hb hq; have hz := Nat.lt_of_lt_of_le hz hq.size) | (go_at_call 37; (with_reducible refine (rcheck_is da dn _ b0 b1).mono ?_); rintro e w1 ⟨rfl, hq⟩; rw [Kc2.out]; obtain ⟨hc2, hf2⟩ := bcell hq; have hb := Below.step hb hq; have hz := Nat.lt_of_lt_of_le hz hq.size))
    go_ret
    exact ⟨ret_bool (by rw [HM.out]; first | (simp [*, pmB]; done) | (simp [*, pmB]; intros; omega)), by first | exact hb | exact hb.drew⟩
end Go.Proofs.YtgggmhaopcgkkaaGreatDoor
