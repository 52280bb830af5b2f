/- What the calls do that ask one rule and one header: Fits of waymarkref10. No condition but that what is handed in is of its kind. -/
import Derived.Test.YthooiigdembgcaaFlA
namespace Go.Proofs.Ythooiigdembgcaa
open Go.RowKit
set_option maxHeartbeats 2000000 in
theorem rfits_is (r : RuleD) (h : HdrD) (w : World) (hr : r.ok) (hh : h.ok) : Calls Try.prog 10 #[vR r, vH h] w fun e w' => e = .returned (.bool (fitB r h)) ∧ Below w.heap.size w w' := by
  obtain ⟨perm, proto, sa, sn, da, dn, sl, sh, dl, dh⟩ := r
  obtain ⟨src, dst, pr, sp, dp⟩ := h
  obtain ⟨a0, a1, b0, b1⟩ := hr
  obtain ⟨s0, s1, d0, d1, p0, p1, x0, x1, y0, y1⟩ := hh
  simp only at a0 a1 b0 b1 s0 s1 d0 d1 p0 p1 x0 x1 y0 y1
  show Calls _ _ #[.agg #[.bool perm, .int .i64 proto, .int .u32 sa, .int .i64 sn, .int .u32 da, .int .i64 dn, .int .u32 sl, .int .u32 sh, .int .u32 dl, .int .u32 dh], .agg #[.int .u32 src, .int .u32 dst, .int .u8 pr, .int .u16 sp, .int .u16 dp]] _ _
  have e1 : IntKind.i64.wrap pr = pr := IntWalk.i64_in _ ⟨by omega, by omega⟩
  have e2 : IntKind.u32.wrap sp = sp := IntWalk.u32_in _ ⟨by omega, by omega⟩
  have e3 : IntKind.u32.wrap dp = dp := IntWalk.u32_in _ ⟨by omega, by omega⟩
  obtain ⟨pp, kpp⟩ : ∃ c, (decide (proto = -1) || decide (proto = pr)) = c := ⟨_, rfl⟩
  obtain ⟨t1, kt1⟩ : ∃ c, inB src sa sn = c := ⟨_, rfl⟩
  obtain ⟨t2, kt2⟩ : ∃ c, inB dst da dn = c := ⟨_, rfl⟩
  have HM : Hid (fitB ⟨perm, proto, sa, sn, da, dn, sl, sh, dl, dh⟩ ⟨src, dst, pr, sp, dp⟩ = (t1 && (t2 && (pp && (piB sp sl sh && piB dp dl dh))))) := Lib.hid (by simp only [fitB, kpp, kt1, kt2])
  have Kpp := Lib.hid kpp
  have Kt1 := Lib.hid kt1
  have Kt2 := Lib.hid kt2
  clear kpp kt1 kt2
  obtain ⟨c1, kc1⟩ : ∃ c, ck sa sn = c := ⟨_, rfl⟩
  obtain ⟨c2, kc2⟩ : ∃ c, ck da dn = c := ⟨_, rfl⟩
  have hn1 : Hid (c1 ≠ 0 → t1 = false) := Lib.hid fun h => by rw [← Kt1.out]; exact inB_no _ _ _ (by rw [kc1]; exact h)
  have hn2 : Hid (c2 ≠ 0 → t2 = false) := Lib.hid fun h => by rw [← Kt2.out]; exact inB_no _ _ _ (by rw [kc2]; exact h)
  have Kc1 := Lib.hid kc1; have Kc2 := Lib.hid kc2
  clear kc1 kc2
  have hb : Below w.heap.size w ((w.alloc (.cells #[.bool perm, .int .i64 proto, .int .u32 sa, .int .i64 sn, .int .u32 da, .int .i64 dn, .int .u32 sl, .int .u32 sh, .int .u32 dl, .int .u32 dh] 33)).alloc (.cells #[.int .u32 src, .int .u32 dst, .int .u8 pr, .int .u16 sp, .int .u16 dp] 40)) := ((Below.refl _ _).alloc (Nat.le_refl _) _).alloc (by simp) _
  have hz : w.heap.size < ((w.alloc (.cells #[.bool perm, .int .i64 proto, .int .u32 sa, .int .i64 sn, .int .u32 da, .int .i64 dn, .int .u32 sl, .int .u32 sh, .int .u32 dl, .int .u32 dh] 33)).alloc (.cells #[.int .u32 src, .int .u32 dst, .int .u8 pr, .int .u16 sp, .int .u16 dp] 40)).heap.size := by simp; omega
  have hy : w.heap.size + 1 < ((w.alloc (.cells #[.bool perm, .int .i64 proto, .int .u32 sa, .int .i64 sn, .int .u32 da, .int .i64 dn, .int .u32 sl, .int .u32 sh, .int .u32 dl, .int .u32 dh] 33)).alloc (.cells #[.int .u32 src, .int .u32 dst, .int .u8 pr, .int .u16 sp, .int .u16 dp] 40)).heap.size := by simp
  by_cases hh9 : c1 = 0
  · have gc1 : (c1 == 0) = true := by simpa using hh9
    have nc1 : (c1 != 0) = false := by simpa using hh9
    by_cases hh8 : c2 = 0
    · have gc2 : (c2 == 0) = true := by simpa using hh8
      have nc2 : (c2 != 0) = false := by simpa using hh8
      cases t1 with
      | true =>
        skip
        cases t2 with
        | true =>
          skip
          by_cases hh5 : proto = -1
          · have hh5b : (proto == -1) = true := by simpa using hh5
            obtain rfl : pp = true := by rw [← Kpp.out]; simp [hh5]
            clear hh5
            by_cases hh4 : sl ≤ sp
            · skip
              by_cases hh3 : sp ≤ sh
              · skip
                by_cases hh2 : dl ≤ dp
                · skip
                  by_cases hh1 : dp ≤ dh
                  · skip
                    go_enter Try.func10, Try.ntmps10
                    go_wp2_with (first | (go_at_call 26; (with_reducible refine (rcheck_is sa sn _ a0 a1).mono ?_); rintro e w1 ⟨rfl, hq⟩; rw [Kc1.out]; obtain ⟨hc1, hf1⟩ := bcell hq; have hb := Below.step hb hq; have hz := Nat.lt_of_lt_of_le hz hq.size; have hy := Nat.lt_of_lt_of_le hy hq.size) | (go_at_call 26; (with_reducible refine (rcheck_is da dn _ b0 b1).mono ?_); rintro e w1 ⟨rfl, hq⟩; rw [Kc2.out]; obtain ⟨hc2, hf2⟩ := bcell hq; have hb := Below.step hb hq; have hz := Nat.lt_of_lt_of_le hz hq.size; have hy := Nat.lt_of_lt_of_le hy hq.size) | (go_at_call 27; (with_reducible refine (rin_is src sa sn _ s0 s1 a0 a1).mono ?_); rintro e w1 ⟨rfl, hq⟩; rw [Kt1.out]; obtain ⟨hc3, hf3⟩ := bcell hq; have hb := Below.step hb hq; have hz := Nat.lt_of_lt_of_le hz hq.size; have hy := Nat.lt_of_lt_of_le hy hq.size) | (go_at_call 27; (with_reducible refine (rin_is dst da dn _ d0 d1 b0 b1).mono ?_); rintro e w1 ⟨rfl, hq⟩; rw [Kt2.out]; obtain ⟨hc4, hf4⟩ := bcell hq; have hb := Below.step hb hq; have hz := Nat.lt_of_lt_of_le hz hq.size; have hy := Nat.lt_of_lt_of_le hy hq.size))
                    go_ret
                    exact ⟨ret_bool (by rw [HM.out]; first | (simp [*, piB]; done) | (rw [hn1.out (by assumption)]; simp; done) | (rw [hn2.out (by assumption)]; simp; done) | (simp [*, piB]; intros; omega)), by first | exact hb | exact hb.drew⟩
                  · skip
                    go_enter Try.func10, Try.ntmps10
                    go_wp2_with (first | (go_at_call 26; (with_reducible refine (rcheck_is sa sn _ a0 a1).mono ?_); rintro e w1 ⟨rfl, hq⟩; rw [Kc1.out]; obtain ⟨hc1, hf1⟩ := bcell hq; have hb := Below.step hb hq; have hz := Nat.lt_of_lt_of_le hz hq.size; have hy := Nat.lt_of_lt_of_le hy hq.size) | (go_at_call 26; (with_reducible refine (rcheck_is da dn _ b0 b1).mono ?_); rintro e w1 ⟨rfl, hq⟩; rw [Kc2.out]; obtain ⟨hc2, hf2⟩ := bcell hq; have hb := Below.step hb hq; have hz := Nat.lt_of_lt_of_le hz hq.size; have hy := Nat.lt_of_lt_of_le hy hq.size) | (go_at_call 27; (with_reducible refine (rin_is src sa sn _ s0 s1 a0 a1).mono ?_); rintro e w1 ⟨rfl, hq⟩; rw [Kt1.out]; obtain ⟨hc3, hf3⟩ := bcell hq; have hb := Below.step hb hq; have hz := Nat.lt_of_lt_of_le hz hq.size; have hy := Nat.lt_of_lt_of_le hy hq.size) | (go_at_call 27; (with_reducible refine (rin_is dst da dn _ d0 d1 b0 b1).mono ?_); rintro e w1 ⟨rfl, hq⟩; rw [Kt2.out]; obtain ⟨hc4, hf4⟩ := bcell hq; have hb := Below.step hb hq; have hz := Nat.lt_of_lt_of_le hz hq.size; have hy := Nat.lt_of_lt_of_le hy hq.size))
                    go_ret
                    exact ⟨ret_bool (by rw [HM.out]; first | (simp [*, piB]; done) | (rw [hn1.out (by assumption)]; simp; done) | (rw [hn2.out (by assumption)]; simp; done) | (simp [*, piB]; intros; omega)), by first | exact hb | exact hb.drew⟩
                · skip
                  go_enter Try.func10, Try.ntmps10
                  go_wp2_with (first | (go_at_call 26; (with_reducible refine (rcheck_is sa sn _ a0 a1).mono ?_); rintro e w1 ⟨rfl, hq⟩; rw [Kc1.out]; obtain ⟨hc1, hf1⟩ := bcell hq; have hb := Below.step hb hq; have hz := Nat.lt_of_lt_of_le hz hq.size; have hy := Nat.lt_of_lt_of_le hy hq.size) | (go_at_call 26; (with_reducible refine (rcheck_is da dn _ b0 b1).mono ?_); rintro e w1 ⟨rfl, hq⟩; rw [Kc2.out]; obtain ⟨hc2, hf2⟩ := bcell hq; have hb := Below.step hb hq; have hz := Nat.lt_of_lt_of_le hz hq.size; have hy := Nat.lt_of_lt_of_le hy hq.size) | (go_at_call 27; (with_reducible refine (rin_is src sa sn _ s0 s1 a0 a1).mono ?_); rintro e w1 ⟨rfl, hq⟩; rw [Kt1.out]; obtain ⟨hc3, hf3⟩ := bcell hq; have hb := Below.step hb hq; have hz := Nat.lt_of_lt_of_le hz hq.size; have hy := Nat.lt_of_lt_of_le hy hq.size) | (go_at_call 27; (with_reducible refine (rin_is dst da dn _ d0 d1 b0 b1).mono ?_); rintro e w1 ⟨rfl, hq⟩; rw [Kt2.out]; obtain ⟨hc4, hf4⟩ := bcell hq; have hb := Below.step hb hq; have hz := Nat.lt_of_lt_of_le hz hq.size; have hy := Nat.lt_of_lt_of_le hy hq.size))
                  go_ret
                  exact ⟨ret_bool (by rw [HM.out]; first | (simp [*, piB]; done) | (rw [hn1.out (by assumption)]; simp; done) | (rw [hn2.out (by assumption)]; simp; done) | (simp [*, piB]; intros; omega)), by first | exact hb | exact hb.drew⟩
              · skip
                go_enter Try.func10, Try.ntmps10
                go_wp2_with (first | (go_at_call 26; (with_reducible refine (rcheck_is sa sn _ a0 a1).mono ?_); rintro e w1 ⟨rfl, hq⟩; rw [Kc1.out]; obtain ⟨hc1, hf1⟩ := bcell hq; have hb := Below.step hb hq; have hz := Nat.lt_of_lt_of_le hz hq.size; have hy := Nat.lt_of_lt_of_le hy hq.size) | (go_at_call 26; (with_reducible refine (rcheck_is da dn _ b0 b1).mono ?_); rintro e w1 ⟨rfl, hq⟩; rw [Kc2.out]; obtain ⟨hc2, hf2⟩ := bcell hq; have hb := Below.step hb hq; have hz := Nat.lt_of_lt_of_le hz hq.size; have hy := Nat.lt_of_lt_of_le hy hq.size) | (go_at_call 27; (with_reducible refine (rin_is src sa sn _ s0 s1 a0 a1).mono ?_); rintro e w1 ⟨rfl, hq⟩; rw [Kt1.out]; obtain ⟨hc3, hf3⟩ := bcell hq; have hb := Below.step hb hq; have hz := Nat.lt_of_lt_of_le hz hq.size; have hy := Nat.lt_of_lt_of_le hy hq.size) | (go_at_call 27; (with_reducible refine (rin_is dst da dn _ d0 d1 b0 b1).mono ?_); rintro e w1 ⟨rfl, hq⟩; rw [Kt2.out]; obtain ⟨hc4, hf4⟩ := bcell hq; have hb := Below.step hb hq; have hz := Nat.lt_of_lt_of_le hz hq.size; have hy := Nat.lt_of_lt_of_le hy hq.size))
                go_ret
                exact ⟨ret_bool (by rw [HM.out]; first | (simp [*, piB]; done) | (rw [hn1.out (by assumption)]; simp; done) | (rw [hn2.out (by assumption)]; simp; done) | (simp [*, piB]; intros; omega)), by first | exact hb | exact hb.drew⟩
            · skip
              go_enter Try.func10, Try.ntmps10
              go_wp2_with (first | (go_at_call 26; (with_reducible refine (rcheck_is sa sn _ a0 a1).mono ?_); rintro e w1 ⟨rfl, hq⟩; rw [Kc1.out]; obtain ⟨hc1, hf1⟩ := bcell hq; have hb := Below.step hb hq; have hz := Nat.lt_of_lt_of_le hz hq.size; have hy := Nat.lt_of_lt_of_le hy hq.size) | (go_at_call 26; (with_reducible refine (rcheck_is da dn _ b0 b1).mono ?_); rintro e w1 ⟨rfl, hq⟩; rw [Kc2.out]; obtain ⟨hc2, hf2⟩ := bcell hq; have hb := Below.step hb hq; have hz := Nat.lt_of_lt_of_le hz hq.size; have hy := Nat.lt_of_lt_of_le hy hq.size) | (go_at_call 27; (with_reducible refine (rin_is src sa sn _ s0 s1 a0 a1).mono ?_); rintro e w1 ⟨rfl, hq⟩; rw [Kt1.out]; obtain ⟨hc3, hf3⟩ := bcell hq; have hb := Below.step hb hq; have hz := Nat.lt_of_lt_of_le hz hq.size; have hy := Nat.lt_of_lt_of_le hy hq.size) | (go_at_call 27; (with_reducible refine (rin_is dst da dn _ d0 d1 b0 b1).mono ?_); rintro e w1 ⟨rfl, hq⟩; rw [Kt2.out]; obtain ⟨hc4, hf4⟩ := bcell hq; have hb := Below.step hb hq; have hz := Nat.lt_of_lt_of_le hz hq.size; have hy := Nat.lt_of_lt_of_le hy hq.size))
              go_ret
              exact ⟨ret_bool (by rw [HM.out]; first | (simp [*, piB]; done) | (rw [hn1.out (by assumption)]; simp; done) | (rw [hn2.out (by assumption)]; simp; done) | (simp [*, piB]; intros; omega)), by first | exact hb | exact hb.drew⟩
          · have hh5b : (proto == -1) = false := by simpa using hh5
            by_cases hh5c : proto = pr
            · have hh5d : (proto == pr) = true := by simpa using hh5c
              obtain rfl : pp = true := by rw [← Kpp.out]; simp [hh5c]
              clear hh5 hh5c
              by_cases hh4 : sl ≤ sp
              · skip
                by_cases hh3 : sp ≤ sh
                · skip
                  by_cases hh2 : dl ≤ dp
                  · skip
                    by_cases hh1 : dp ≤ dh
                    · skip
                      go_enter Try.func10, Try.ntmps10
                      go_wp2_with (first | (go_at_call 26; (with_reducible refine (rcheck_is sa sn _ a0 a1).mono ?_); rintro e w1 ⟨rfl, hq⟩; rw [Kc1.out]; obtain ⟨hc1, hf1⟩ := bcell hq; have hb := Below.step hb hq; have hz := Nat.lt_of_lt_of_le hz hq.size; have hy := Nat.lt_of_lt_of_le hy hq.size) | (go_at_call 26; (with_reducible refine (rcheck_is da dn _ b0 b1).mono ?_); rintro e w1 ⟨rfl, hq⟩; rw [Kc2.out]; obtain ⟨hc2, hf2⟩ := bcell hq; have hb := Below.step hb hq; have hz := Nat.lt_of_lt_of_le hz hq.size; have hy := Nat.lt_of_lt_of_le hy hq.size) | (go_at_call 27; (with_reducible refine (rin_is src sa sn _ s0 s1 a0 a1).mono ?_); rintro e w1 ⟨rfl, hq⟩; rw [Kt1.out]; obtain ⟨hc3, hf3⟩ := bcell hq; have hb := Below.step hb hq; have hz := Nat.lt_of_lt_of_le hz hq.size; have hy := Nat.lt_of_lt_of_le hy hq.size) | (go_at_call 27; (with_reducible refine (rin_is dst da dn _ d0 d1 b0 b1).mono ?_); rintro e w1 ⟨rfl, hq⟩; rw [Kt2.out]; obtain ⟨hc4, hf4⟩ := bcell hq; have hb := Below.step hb hq; have hz := Nat.lt_of_lt_of_le hz hq.size; have hy := Nat.lt_of_lt_of_le hy hq.size))
                      go_ret
                      exact ⟨ret_bool (by rw [HM.out]; first | (simp [*, piB]; done) | (rw [hn1.out (by assumption)]; simp; done) | (rw [hn2.out (by assumption)]; simp; done) | (simp [*, piB]; intros; omega)), by first | exact hb | exact hb.drew⟩
                    · skip
                      go_enter Try.func10, Try.ntmps10
                      go_wp2_with (first | (go_at_call 26; (with_reducible refine (rcheck_is sa sn _ a0 a1).mono ?_); rintro e w1 ⟨rfl, hq⟩; rw [Kc1.out]; obtain ⟨hc1, hf1⟩ := bcell hq; have hb := Below.step hb hq; have hz := Nat.lt_of_lt_of_le hz hq.size; have hy := Nat.lt_of_lt_of_le hy hq.size) | (go_at_call 26; (with_reducible refine (rcheck_is da dn _ b0 b1).mono ?_); rintro e w1 ⟨rfl, hq⟩; rw [Kc2.out]; obtain ⟨hc2, hf2⟩ := bcell hq; have hb := Below.step hb hq; have hz := Nat.lt_of_lt_of_le hz hq.size; have hy := Nat.lt_of_lt_of_le hy hq.size) | (go_at_call 27; (with_reducible refine (rin_is src sa sn _ s0 s1 a0 a1).mono ?_); rintro e w1 ⟨rfl, hq⟩; rw [Kt1.out]; obtain ⟨hc3, hf3⟩ := bcell hq; have hb := Below.step hb hq; have hz := Nat.lt_of_lt_of_le hz hq.size; have hy := Nat.lt_of_lt_of_le hy hq.size) | (go_at_call 27; (with_reducible refine (rin_is dst da dn _ d0 d1 b0 b1).mono ?_); rintro e w1 ⟨rfl, hq⟩; rw [Kt2.out]; obtain ⟨hc4, hf4⟩ := bcell hq; have hb := Below.step hb hq; have hz := Nat.lt_of_lt_of_le hz hq.size; have hy := Nat.lt_of_lt_of_le hy hq.size))
                      go_ret
                      exact ⟨ret_bool (by rw [HM.out]; first | (simp [*, piB]; done) | (rw [hn1.out (by assumption)]; simp; done) | (rw [hn2.out (by assumption)]; simp; done) | (simp [*, piB]; intros; omega)), by first | exact hb | exact hb.drew⟩
                  · skip
                    go_enter Try.func10, Try.ntmps10
                    go_wp2_with (first | (go_at_call 26; (with_reducible refine (rcheck_is sa sn _ a0 a1).mono ?_); rintro e w1 ⟨rfl, hq⟩; rw [Kc1.out]; obtain ⟨hc1, hf1⟩ := bcell hq; have hb := Below.step hb hq; have hz := Nat.lt_of_lt_of_le hz hq.size; have hy := Nat.lt_of_lt_of_le hy hq.size) | (go_at_call 26; (with_reducible refine (rcheck_is da dn _ b0 b1).mono ?_); rintro e w1 ⟨rfl, hq⟩; rw [Kc2.out]; obtain ⟨hc2, hf2⟩ := bcell hq; have hb := Below.step hb hq; have hz := Nat.lt_of_lt_of_le hz hq.size; have hy := Nat.lt_of_lt_of_le hy hq.size) | (go_at_call 27; (with_reducible refine (rin_is src sa sn _ s0 s1 a0 a1).mono ?_); rintro e w1 ⟨rfl, hq⟩; rw [Kt1.out]; obtain ⟨hc3, hf3⟩ := bcell hq; have hb := Below.step hb hq; have hz := Nat.lt_of_lt_of_le hz hq.size; have hy := Nat.lt_of_lt_of_le hy hq.size) | (go_at_call 27; (with_reducible refine (rin_is dst da dn _ d0 d1 b0 b1).mono ?_); rintro e w1 ⟨rfl, hq⟩; rw [Kt2.out]; obtain ⟨hc4, hf4⟩ := bcell hq; have hb := Below.step hb hq; have hz := Nat.lt_of_lt_of_le hz hq.size; have hy := Nat.lt_of_lt_of_le hy hq.size))
                    go_ret
                    exact ⟨ret_bool (by rw [HM.out]; first | (simp [*, piB]; done) | (rw [hn1.out (by assumption)]; simp; done) | (rw [hn2.out (by assumption)]; simp; done) | (simp [*, piB]; intros; omega)), by first | exact hb | exact hb.drew⟩
                · skip
                  go_enter Try.func10, Try.ntmps10
                  go_wp2_with (first | (go_at_call 26; (with_reducible refine (rcheck_is sa sn _ a0 a1).mono ?_); rintro e w1 ⟨rfl, hq⟩; rw [Kc1.out]; obtain ⟨hc1, hf1⟩ := bcell hq; have hb := Below.step hb hq; have hz := Nat.lt_of_lt_of_le hz hq.size; have hy := Nat.lt_of_lt_of_le hy hq.size) | (go_at_call 26; (with_reducible refine (rcheck_is da dn _ b0 b1).mono ?_); rintro e w1 ⟨rfl, hq⟩; rw [Kc2.out]; obtain ⟨hc2, hf2⟩ := bcell hq; have hb := Below.step hb hq; have hz := Nat.lt_of_lt_of_le hz hq.size; have hy := Nat.lt_of_lt_of_le hy hq.size) | (go_at_call 27; (with_reducible refine (rin_is src sa sn _ s0 s1 a0 a1).mono ?_); rintro e w1 ⟨rfl, hq⟩; rw [Kt1.out]; obtain ⟨hc3, hf3⟩ := bcell hq; have hb := Below.step hb hq; have hz := Nat.lt_of_lt_of_le hz hq.size; have hy := Nat.lt_of_lt_of_le hy hq.size) | (go_at_call 27; (with_reducible refine (rin_is dst da dn _ d0 d1 b0 b1).mono ?_); rintro e w1 ⟨rfl, hq⟩; rw [Kt2.out]; obtain ⟨hc4, hf4⟩ := bcell hq; have hb := Below.step hb hq; have hz := Nat.lt_of_lt_of_le hz hq.size; have hy := Nat.lt_of_lt_of_le hy hq.size))
                  go_ret
                  exact ⟨ret_bool (by rw [HM.out]; first | (simp [*, piB]; done) | (rw [hn1.out (by assumption)]; simp; done) | (rw [hn2.out (by assumption)]; simp; done) | (simp [*, piB]; intros; omega)), by first | exact hb | exact hb.drew⟩
              · skip
                go_enter Try.func10, Try.ntmps10
                go_wp2_with (first | (go_at_call 26; (with_reducible refine (rcheck_is sa sn _ a0 a1).mono ?_); rintro e w1 ⟨rfl, hq⟩; rw [Kc1.out]; obtain ⟨hc1, hf1⟩ := bcell hq; have hb := Below.step hb hq; have hz := Nat.lt_of_lt_of_le hz hq.size; have hy := Nat.lt_of_lt_of_le hy hq.size) | (go_at_call 26; (with_reducible refine (rcheck_is da dn _ b0 b1).mono ?_); rintro e w1 ⟨rfl, hq⟩; rw [Kc2.out]; obtain ⟨hc2, hf2⟩ := bcell hq; have hb := Below.step hb hq; have hz := Nat.lt_of_lt_of_le hz hq.size; have hy := Nat.lt_of_lt_of_le hy hq.size) | (go_at_call 27; (with_reducible refine (rin_is src sa sn _ s0 s1 a0 a1).mono ?_); rintro e w1 ⟨rfl, hq⟩; rw [Kt1.out]; obtain ⟨hc3, hf3⟩ := bcell hq; have hb := Below.step hb hq; have hz := Nat.lt_of_lt_of_le hz hq.size; have hy := Nat.lt_of_lt_of_le hy hq.size) | (go_at_call 27; (with_reducible refine (rin_is dst da dn _ d0 d1 b0 b1).mono ?_); rintro e w1 ⟨rfl, hq⟩; rw [Kt2.out]; obtain ⟨hc4, hf4⟩ := bcell hq; have hb := Below.step hb hq; have hz := Nat.lt_of_lt_of_le hz hq.size; have hy := Nat.lt_of_lt_of_le hy hq.size))
                go_ret
                exact ⟨ret_bool (by rw [HM.out]; first | (simp [*, piB]; done) | (rw [hn1.out (by assumption)]; simp; done) | (rw [hn2.out (by assumption)]; simp; done) | (simp [*, piB]; intros; omega)), by first | exact hb | exact hb.drew⟩
            · have hh5d : (proto == pr) = false := by simpa using hh5c
              obtain rfl : pp = false := by rw [← Kpp.out]; simp [hh5, hh5c]
              clear hh5 hh5c
              go_enter Try.func10, Try.ntmps10
              go_wp2_with (first | (go_at_call 26; (with_reducible refine (rcheck_is sa sn _ a0 a1).mono ?_); rintro e w1 ⟨rfl, hq⟩; rw [Kc1.out]; obtain ⟨hc1, hf1⟩ := bcell hq; have hb := Below.step hb hq; have hz := Nat.lt_of_lt_of_le hz hq.size; have hy := Nat.lt_of_lt_of_le hy hq.size) | (go_at_call 26; (with_reducible refine (rcheck_is da dn _ b0 b1).mono ?_); rintro e w1 ⟨rfl, hq⟩; rw [Kc2.out]; obtain ⟨hc2, hf2⟩ := bcell hq; have hb := Below.step hb hq; have hz := Nat.lt_of_lt_of_le hz hq.size; have hy := Nat.lt_of_lt_of_le hy hq.size) | (go_at_call 27; (with_reducible refine (rin_is src sa sn _ s0 s1 a0 a1).mono ?_); rintro e w1 ⟨rfl, hq⟩; rw [Kt1.out]; obtain ⟨hc3, hf3⟩ := bcell hq; have hb := Below.step hb hq; have hz := Nat.lt_of_lt_of_le hz hq.size; have hy := Nat.lt_of_lt_of_le hy hq.size) | (go_at_call 27; (with_reducible refine (rin_is dst da dn _ d0 d1 b0 b1).mono ?_); rintro e w1 ⟨rfl, hq⟩; rw [Kt2.out]; obtain ⟨hc4, hf4⟩ := bcell hq; have hb := Below.step hb hq; have hz := Nat.lt_of_lt_of_le hz hq.size; have hy := Nat.lt_of_lt_of_le hy hq.size))
              go_ret
              exact ⟨ret_bool (by rw [HM.out]; first | (simp [*, piB]; done) | (rw [hn1.out (by assumption)]; simp; done) | (rw [hn2.out (by assumption)]; simp; done) | (simp [*, piB]; intros; omega)), by first | exact hb | exact hb.drew⟩
        | false =>
          skip
          go_enter Try.func10, Try.ntmps10
          go_wp2_with (first | (go_at_call 26; (with_reducible refine (rcheck_is sa sn _ a0 a1).mono ?_); rintro e w1 ⟨rfl, hq⟩; rw [Kc1.out]; obtain ⟨hc1, hf1⟩ := bcell hq; have hb := Below.step hb hq; have hz := Nat.lt_of_lt_of_le hz hq.size; have hy := Nat.lt_of_lt_of_le hy hq.size) | (go_at_call 26; (with_reducible refine (rcheck_is da dn _ b0 b1).mono ?_); rintro e w1 ⟨rfl, hq⟩; rw [Kc2.out]; obtain ⟨hc2, hf2⟩ := bcell hq; have hb := Below.step hb hq; have hz := Nat.lt_of_lt_of_le hz hq.size; have hy := Nat.lt_of_lt_of_le hy hq.size) | (go_at_call 27; (with_reducible refine (rin_is src sa sn _ s0 s1 a0 a1).mono ?_); rintro e w1 ⟨rfl, hq⟩; rw [Kt1.out]; obtain ⟨hc3, hf3⟩ := bcell hq; have hb := Below.step hb hq; have hz := Nat.lt_of_lt_of_le hz hq.size; have hy := Nat.lt_of_lt_of_le hy hq.size) | (go_at_call 27; (with_reducible refine (rin_is dst da dn _ d0 d1 b0 b1).mono ?_); rintro e w1 ⟨rfl, hq⟩; rw [Kt2.out]; obtain ⟨hc4, hf4⟩ := bcell hq; have hb := Below.step hb hq; have hz := Nat.lt_of_lt_of_le hz hq.size; have hy := Nat.lt_of_lt_of_le hy hq.size))
          go_ret
          exact ⟨ret_bool (by rw [HM.out]; first | (simp [*, piB]; done) | (rw [hn1.out (by assumption)]; simp; done) | (rw [hn2.out (by assumption)]; simp; done) | (simp [*, piB]; intros; omega)), by first | exact hb | exact hb.drew⟩
      | false =>
        skip
        go_enter Try.func10, Try.ntmps10
        go_wp2_with (first | (go_at_call 26; (with_reducible refine (rcheck_is sa sn _ a0 a1).mono ?_); rintro e w1 ⟨rfl, hq⟩; rw [Kc1.out]; obtain ⟨hc1, hf1⟩ := bcell hq; have hb := Below.step hb hq; have hz := Nat.lt_of_lt_of_le hz hq.size; have hy := Nat.lt_of_lt_of_le hy hq.size) | (go_at_call 26; (with_reducible refine (rcheck_is da dn _ b0 b1).mono ?_); rintro e w1 ⟨rfl, hq⟩; rw [Kc2.out]; obtain ⟨hc2, hf2⟩ := bcell hq; have hb := Below.step hb hq; have hz := Nat.lt_of_lt_of_le hz hq.size; have hy := Nat.lt_of_lt_of_le hy hq.size) | (go_at_call 27; (with_reducible refine (rin_is src sa sn _ s0 s1 a0 a1).mono ?_); rintro e w1 ⟨rfl, hq⟩; rw [Kt1.out]; obtain ⟨hc3, hf3⟩ := bcell hq; have hb := Below.step hb hq; have hz := Nat.lt_of_lt_of_le hz hq.size; have hy := Nat.lt_of_lt_of_le hy hq.size) | (go_at_call 27; (with_reducible refine (rin_is dst da dn _ d0 d1 b0 b1).mono ?_); rintro e w1 ⟨rfl, hq⟩; rw [Kt2.out]; obtain ⟨hc4, hf4⟩ := bcell hq; have hb := Below.step hb hq; have hz := Nat.lt_of_lt_of_le hz hq.size; have hy := Nat.lt_of_lt_of_le hy hq.size))
        go_ret
        exact ⟨ret_bool (by rw [HM.out]; first | (simp [*, piB]; done) | (rw [hn1.out (by assumption)]; simp; done) | (rw [hn2.out (by assumption)]; simp; done) | (simp [*, piB]; intros; omega)), by first | exact hb | exact hb.drew⟩
    · have gc2 : (c2 == 0) = false := by simpa using hh8
      have nc2 : (c2 != 0) = true := by simpa using hh8
      go_enter Try.func10, Try.ntmps10
      go_wp2_with (first | (go_at_call 26; (with_reducible refine (rcheck_is sa sn _ a0 a1).mono ?_); rintro e w1 ⟨rfl, hq⟩; rw [Kc1.out]; obtain ⟨hc1, hf1⟩ := bcell hq; have hb := Below.step hb hq; have hz := Nat.lt_of_lt_of_le hz hq.size; have hy := Nat.lt_of_lt_of_le hy hq.size) | (go_at_call 26; (with_reducible refine (rcheck_is da dn _ b0 b1).mono ?_); rintro e w1 ⟨rfl, hq⟩; rw [Kc2.out]; obtain ⟨hc2, hf2⟩ := bcell hq; have hb := Below.step hb hq; have hz := Nat.lt_of_lt_of_le hz hq.size; have hy := Nat.lt_of_lt_of_le hy hq.size) | (go_at_call 27; (with_reducible refine (rin_is src sa sn _ s0 s1 a0 a1).mono ?_); rintro e w1 ⟨rfl, hq⟩; rw [Kt1.out]; obtain ⟨hc3, hf3⟩ := bcell hq; have hb := Below.step hb hq; have hz := Nat.lt_of_lt_of_le hz hq.size; have hy := Nat.lt_of_lt_of_le hy hq.size) | (go_at_call 27; (with_reducible refine (rin_is dst da dn _ d0 d1 b0 b1).mono ?_); rintro e w1 ⟨rfl, hq⟩; rw [Kt2.out]; obtain ⟨hc4, hf4⟩ := bcell hq; have hb := Below.step hb hq; have hz := Nat.lt_of_lt_of_le hz hq.size; have hy := Nat.lt_of_lt_of_le hy hq.size))
      go_ret
      exact ⟨ret_bool (by rw [HM.out]; first | (simp [*, piB]; done) | (rw [hn1.out (by assumption)]; simp; done) | (rw [hn2.out (by assumption)]; simp; done) | (simp [*, piB]; intros; omega)), by first | exact hb | exact hb.drew⟩
  · have gc1 : (c1 == 0) = false := by simpa using hh9
    have nc1 : (c1 != 0) = true := by simpa using hh9
    go_enter Try.func10, Try.ntmps10
    go_wp2_with (first | (go_at_call 26; (with_reducible refine (rcheck_is sa sn _ a0 a1).mono ?_); rintro e w1 ⟨rfl, hq⟩; rw [Kc1.out]; obtain ⟨hc1, hf1⟩ := bcell hq; have hb := Below.step hb hq; have hz := Nat.lt_of_lt_of_le hz hq.size; have hy := Nat.lt_of_lt_of_le hy hq.size) | (go_at_call 26; (with_reducible refine (rcheck_is da dn _ b0 b1).mono ?_); rintro e w1 ⟨rfl, hq⟩; rw [Kc2.out]; obtain ⟨hc2, hf2⟩ := bcell hq; have hb := Below.step hb hq; have hz := Nat.lt_of_lt_of_le hz hq.size; have hy := Nat.lt_of_lt_of_le hy hq.size) | (go_at_call 27; (with_reducible refine (rin_is src sa sn _ s0 s1 a0 a1).mono ?_); rintro e w1 ⟨rfl, hq⟩; rw [Kt1.out]; obtain ⟨hc3, hf3⟩ := bcell hq; have hb := Below.step hb hq; have hz := Nat.lt_of_lt_of_le hz hq.size; have hy := Nat.lt_of_lt_of_le hy hq.size) | (go_at_call 27; (with_reducible refine (rin_is dst da dn _ d0 d1 b0 b1).mono ?_); rintro e w1 ⟨rfl, hq⟩; rw [Kt2.out]; obtain ⟨hc4, hf4⟩ := bcell hq; have hb := Below.step hb hq; have hz := Nat.lt_of_lt_of_le hz hq.size; have hy := Nat.lt_of_lt_of_le hy hq.size))
    go_ret
    exact ⟨ret_bool (by rw [HM.out]; first | (simp [*, piB]; done) | (rw [hn1.out (by assumption)]; simp; done) | (rw [hn2.out (by assumption)]; simp; done) | (simp [*, piB]; intros; omega)), by first | exact hb | exact hb.drew⟩
end Go.Proofs.Ythooiigdembgcaa
