/- What the calls do that ask one rule and one header: Fits of package filter. No condition but that what is handed in is of its kind. -/
import Derived.Test.YtgggmhaopcgkkaaGreatDoorFlA
namespace Go.Proofs.YtgggmhaopcgkkaaGreatDoor
open Go.RowKit
set_option maxHeartbeats 2000000 in
theorem fits_is (r : RuleD) (h : HdrD) (w : World) (hr : r.ok) (hh : h.ok) : Calls Tryz.prog 29 #[vR r, vH h] w fun e w' => e = .returned (.bool (fitB r h)) ∧ Below w.heap.size w w' := by
  obtain ⟨perm, proto, sa, sn, da, dn, sl, sh, dl, dh⟩ := r
  obtain ⟨src, dst, pr, sp, dp⟩ := h
  obtain ⟨a0, a1, b0, b1⟩ := hr
  obtain ⟨s0, s1, d0, d1, p0, p1, x0, x1, y0, y1⟩ := hh
  simp only at a0 a1 b0 b1 s0 s1 d0 d1 p0 p1 x0 x1 y0 y1
  show Calls _ _ #[.agg #[.bool perm, .int .i64 proto, .int .u32 sa, .int .i64 sn, .int .u32 da, .int .i64 dn, .int .u32 sl, .int .u32 sh, .int .u32 dl, .int .u32 dh], .agg #[.int .u32 src, .int .u32 dst, .int .u8 pr, .int .u16 sp, .int .u16 dp]] _ _
  have e1 : IntKind.i64.wrap pr = pr := IntWalk.i64_in _ ⟨by omega, by omega⟩
  have e2 : IntKind.u32.wrap sp = sp := IntWalk.u32_in _ ⟨by omega, by omega⟩
  have e3 : IntKind.u32.wrap dp = dp := IntWalk.u32_in _ ⟨by omega, by omega⟩
  obtain ⟨pp, kpp⟩ : ∃ c, (decide (proto = -1) || decide (proto = pr)) = c := ⟨_, rfl⟩
  obtain ⟨t1, kt1⟩ : ∃ c, inB src sa sn = c := ⟨_, rfl⟩
  obtain ⟨t2, kt2⟩ : ∃ c, inB dst da dn = c := ⟨_, rfl⟩
  obtain ⟨q1, kq1⟩ : ∃ c, piB sp sl sh = c := ⟨_, rfl⟩
  obtain ⟨q2, kq2⟩ : ∃ c, piB dp dl dh = c := ⟨_, rfl⟩
  have HM : Hid (fitB ⟨perm, proto, sa, sn, da, dn, sl, sh, dl, dh⟩ ⟨src, dst, pr, sp, dp⟩ = (t1 && (t2 && (pp && (q1 && q2))))) := Lib.hid (by simp only [fitB, kpp, kt1, kt2, kq1, kq2])
  have Kpp := Lib.hid kpp
  have Kt1 := Lib.hid kt1
  have Kt2 := Lib.hid kt2
  have Kq1 := Lib.hid kq1
  have Kq2 := Lib.hid kq2
  clear kpp kt1 kt2 kq1 kq2
  have hb : Below w.heap.size w ((w.alloc (.cells #[.bool perm, .int .i64 proto, .int .u32 sa, .int .i64 sn, .int .u32 da, .int .i64 dn, .int .u32 sl, .int .u32 sh, .int .u32 dl, .int .u32 dh] 29)).alloc (.cells #[.int .u32 src, .int .u32 dst, .int .u8 pr, .int .u16 sp, .int .u16 dp] 48)) := ((Below.refl _ _).alloc (Nat.le_refl _) _).alloc (by simp) _
  have hz : w.heap.size < ((w.alloc (.cells #[.bool perm, .int .i64 proto, .int .u32 sa, .int .i64 sn, .int .u32 da, .int .i64 dn, .int .u32 sl, .int .u32 sh, .int .u32 dl, .int .u32 dh] 29)).alloc (.cells #[.int .u32 src, .int .u32 dst, .int .u8 pr, .int .u16 sp, .int .u16 dp] 48)).heap.size := by simp; omega
  have hy : w.heap.size + 1 < ((w.alloc (.cells #[.bool perm, .int .i64 proto, .int .u32 sa, .int .i64 sn, .int .u32 da, .int .i64 dn, .int .u32 sl, .int .u32 sh, .int .u32 dl, .int .u32 dh] 29)).alloc (.cells #[.int .u32 src, .int .u32 dst, .int .u8 pr, .int .u16 sp, .int .u16 dp] 48)).heap.size := by simp
  cases t1 with
  | true =>
    skip
    cases t2 with
    | true =>
      skip
      by_cases hh3 : proto = -1
      · have hh3b : (proto == -1) = true := by simpa using hh3
        obtain rfl : pp = true := by rw [← Kpp.out]; simp [hh3]
        clear hh3
        cases q1 with
        | true =>
          skip
          cases q2 with
          | true =>
            skip
            go_enter Tryz.func29, Tryz.ntmps29
            go_wp2_with (first | (go_at_call 45; (with_reducible refine (in_is src sa sn _ a0 a1).mono ?_); rintro e w1 ⟨rfl, hq⟩; rw [Kt1.out]; obtain ⟨hc1, hf1⟩ := bcell hq; have hb := Below.step hb hq; have hz := Nat.lt_of_lt_of_le hz hq.size; have hy := Nat.lt_of_lt_of_le hy hq.size) | (go_at_call 45; (with_reducible refine (in_is dst da dn _ b0 b1).mono ?_); rintro e w1 ⟨rfl, hq⟩; rw [Kt2.out]; obtain ⟨hc2, hf2⟩ := bcell hq; have hb := Below.step hb hq; have hz := Nat.lt_of_lt_of_le hz hq.size; have hy := Nat.lt_of_lt_of_le hy hq.size) | (go_at_call 46; (with_reducible refine (portIn_is sp sl sh _ x0 x1).mono ?_); rintro e w1 ⟨rfl, hq⟩; rw [Kq1.out]; obtain ⟨hc3, hf3⟩ := bcell hq; have hb := Below.step hb hq; have hz := Nat.lt_of_lt_of_le hz hq.size; have hy := Nat.lt_of_lt_of_le hy hq.size) | (go_at_call 46; (with_reducible refine (portIn_is dp dl dh _ y0 y1).mono ?_); rintro e w1 ⟨rfl, hq⟩; rw [Kq2.out]; obtain ⟨hc4, hf4⟩ := bcell hq; have hb := Below.step hb hq; have hz := Nat.lt_of_lt_of_le hz hq.size; have hy := Nat.lt_of_lt_of_le hy hq.size))
            go_ret
            exact ⟨ret_bool (by rw [HM.out]; first | (simp [*]; done) | (simp [*]; intros; omega)), by first | exact hb | exact hb.drew⟩
          | false =>
            skip
            go_enter Tryz.func29, Tryz.ntmps29
            go_wp2_with (first | (go_at_call 45; (with_reducible refine (in_is src sa sn _ a0 a1).mono ?_); rintro e w1 ⟨rfl, hq⟩; rw [Kt1.out]; obtain ⟨hc1, hf1⟩ := bcell hq; have hb := Below.step hb hq; have hz := Nat.lt_of_lt_of_le hz hq.size; have hy := Nat.lt_of_lt_of_le hy hq.size) | (go_at_call 45; (with_reducible refine (in_is dst da dn _ b0 b1).mono ?_); rintro e w1 ⟨rfl, hq⟩; rw [Kt2.out]; obtain ⟨hc2, hf2⟩ := bcell hq; have hb := Below.step hb hq; have hz := Nat.lt_of_lt_of_le hz hq.size; have hy := Nat.lt_of_lt_of_le hy hq.size) | (go_at_call 46; (with_reducible refine (portIn_is sp sl sh _ x0 x1).mono ?_); rintro e w1 ⟨rfl, hq⟩; rw [Kq1.out]; obtain ⟨hc3, hf3⟩ := bcell hq; have hb := Below.step hb hq; have hz := Nat.lt_of_lt_of_le hz hq.size; have hy := Nat.lt_of_lt_of_le hy hq.size) | (go_at_call 46; (with_reducible refine (portIn_is dp dl dh _ y0 y1).mono ?_); rintro e w1 ⟨rfl, hq⟩; rw [Kq2.out]; obtain ⟨hc4, hf4⟩ := bcell hq; have hb := Below.step hb hq; have hz := Nat.lt_of_lt_of_le hz hq.size; have hy := Nat.lt_of_lt_of_le hy hq.size))
            go_ret
            exact ⟨ret_bool (by rw [HM.out]; first | (simp [*]; done) | (simp [*]; intros; omega)), by first | exact hb | exact hb.drew⟩
        | false =>
          skip
          go_enter Tryz.func29, Tryz.ntmps29
          go_wp2_with (first | (go_at_call 45; (with_reducible refine (in_is src sa sn _ a0 a1).mono ?_); rintro e w1 ⟨rfl, hq⟩; rw [Kt1.out]; obtain ⟨hc1, hf1⟩ := bcell hq; have hb := Below.step hb hq; have hz := Nat.lt_of_lt_of_le hz hq.size; have hy := Nat.lt_of_lt_of_le hy hq.size) | (go_at_call 45; (with_reducible refine (in_is dst da dn _ b0 b1).mono ?_); rintro e w1 ⟨rfl, hq⟩; rw [Kt2.out]; obtain ⟨hc2, hf2⟩ := bcell hq; have hb := Below.step hb hq; have hz := Nat.lt_of_lt_of_le hz hq.size; have hy := Nat.lt_of_lt_of_le hy hq.size) | (go_at_call 46; (with_reducible refine (portIn_is sp sl sh _ x0 x1).mono ?_); rintro e w1 ⟨rfl, hq⟩; rw [Kq1.out]; obtain ⟨hc3, hf3⟩ := bcell hq; have hb := Below.step hb hq; have hz := Nat.lt_of_lt_of_le hz hq.size; have hy := Nat.lt_of_lt_of_le hy hq.size) | (go_at_call 46; (with_reducible refine (portIn_is dp dl dh _ y0 y1).mono ?_); rintro e w1 ⟨rfl, hq⟩; rw [Kq2.out]; obtain ⟨hc4, hf4⟩ := bcell hq; have hb := Below.step hb hq; have hz := Nat.lt_of_lt_of_le hz hq.size; have hy := Nat.lt_of_lt_of_le hy hq.size))
          go_ret
          exact ⟨ret_bool (by rw [HM.out]; first | (simp [*]; done) | (simp [*]; intros; omega)), by first | exact hb | exact hb.drew⟩
      · have hh3b : (proto == -1) = false := by simpa using hh3
        by_cases hh3c : proto = pr
        · have hh3d : (proto == pr) = true := by simpa using hh3c
          obtain rfl : pp = true := by rw [← Kpp.out]; simp [hh3c]
          clear hh3 hh3c
          cases q1 with
          | true =>
            skip
            cases q2 with
            | true =>
              skip
              go_enter Tryz.func29, Tryz.ntmps29
              go_wp2_with (first | (go_at_call 45; (with_reducible refine (in_is src sa sn _ a0 a1).mono ?_); rintro e w1 ⟨rfl, hq⟩; rw [Kt1.out]; obtain ⟨hc1, hf1⟩ := bcell hq; have hb := Below.step hb hq; have hz := Nat.lt_of_lt_of_le hz hq.size; have hy := Nat.lt_of_lt_of_le hy hq.size) | (go_at_call 45; (with_reducible refine (in_is dst da dn _ b0 b1).mono ?_); rintro e w1 ⟨rfl, hq⟩; rw [Kt2.out]; obtain ⟨hc2, hf2⟩ := bcell hq; have hb := Below.step hb hq; have hz := Nat.lt_of_lt_of_le hz hq.size; have hy := Nat.lt_of_lt_of_le hy hq.size) | (go_at_call 46; (with_reducible refine (portIn_is sp sl sh _ x0 x1).mono ?_); rintro e w1 ⟨rfl, hq⟩; rw [Kq1.out]; obtain ⟨hc3, hf3⟩ := bcell hq; have hb := Below.step hb hq; have hz := Nat.lt_of_lt_of_le hz hq.size; have hy := Nat.lt_of_lt_of_le hy hq.size) | (go_at_call 46; (with_reducible refine (portIn_is dp dl dh _ y0 y1).mono ?_); rintro e w1 ⟨rfl, hq⟩; rw [Kq2.out]; obtain ⟨hc4, hf4⟩ := bcell hq; have hb := Below.step hb hq; have hz := Nat.lt_of_lt_of_le hz hq.size; have hy := Nat.lt_of_lt_of_le hy hq.size))
              go_ret
              exact ⟨ret_bool (by rw [HM.out]; first | (simp [*]; done) | (simp [*]; intros; omega)), by first | exact hb | exact hb.drew⟩
            | false =>
              skip
              go_enter Tryz.func29, Tryz.ntmps29
              go_wp2_with (first | (go_at_call 45; (with_reducible refine (in_is src sa sn _ a0 a1).mono ?_); rintro e w1 ⟨rfl, hq⟩; rw [Kt1.out]; obtain ⟨hc1, hf1⟩ := bcell hq; have hb := Below.step hb hq; have hz := Nat.lt_of_lt_of_le hz hq.size; have hy := Nat.lt_of_lt_of_le hy hq.size) | (go_at_call 45; (with_reducible refine (in_is dst da dn _ b0 b1).mono ?_); rintro e w1 ⟨rfl, hq⟩; rw [Kt2.out]; obtain ⟨hc2, hf2⟩ := bcell hq; have hb := Below.step hb hq; have hz := Nat.lt_of_lt_of_le hz hq.size; have hy := Nat.lt_of_lt_of_le hy hq.size) | (go_at_call 46; (with_reducible refine (portIn_is sp sl sh _ x0 x1).mono ?_); rintro e w1 ⟨rfl, hq⟩; rw [Kq1.out]; obtain ⟨hc3, hf3⟩ := bcell hq; have hb := Below.step hb hq; have hz := Nat.lt_of_lt_of_le hz hq.size; have hy := Nat.lt_of_lt_of_le hy hq.size) | (go_at_call 46; (with_reducible refine (portIn_is dp dl dh _ y0 y1).mono ?_); rintro e w1 ⟨rfl, hq⟩; rw [Kq2.out]; obtain ⟨hc4, hf4⟩ := bcell hq; have hb := Below.step hb hq; have hz := Nat.lt_of_lt_of_le hz hq.size; have hy := Nat.lt_of_lt_of_le hy hq.size))
              go_ret
              exact ⟨ret_bool (by rw [HM.out]; first | (simp [*]; done) | (simp [*]; intros; omega)), by first | exact hb | exact hb.drew⟩
          | false =>
            skip
            go_enter Tryz.func29, Tryz.ntmps29
            go_wp2_with (first | (go_at_call 45; (with_reducible refine (in_is src sa sn _ a0 a1).mono ?_); rintro e w1 ⟨rfl, hq⟩; rw [Kt1.out]; obtain ⟨hc1, hf1⟩ := bcell hq; have hb := Below.step hb hq; have hz := Nat.lt_of_lt_of_le hz hq.size; have hy := Nat.lt_of_lt_of_le hy hq.size) | (go_at_call 45; (with_reducible refine (in_is dst da dn _ b0 b1).mono ?_); rintro e w1 ⟨rfl, hq⟩; rw [Kt2.out]; obtain ⟨hc2, hf2⟩ := bcell hq; have hb := Below.step hb hq; have hz := Nat.lt_of_lt_of_le hz hq.size; have hy := Nat.lt_of_lt_of_le hy hq.size) | (go_at_call 46; (with_reducible refine (portIn_is sp sl sh _ x0 x1).mono ?_); rintro e w1 ⟨rfl, hq⟩; rw [Kq1.out]; obtain ⟨hc3, hf3⟩ := bcell hq; have hb := Below.step hb hq; have hz := Nat.lt_of_lt_of_le hz hq.size; have hy := Nat.lt_of_lt_of_le hy hq.size) | (go_at_call 46; (with_reducible refine (portIn_is dp dl dh _ y0 y1).mono ?_); rintro e w1 ⟨rfl, hq⟩; rw [Kq2.out]; obtain ⟨hc4, hf4⟩ := bcell hq; have hb := Below.step hb hq; have hz := Nat.lt_of_lt_of_le hz hq.size; have hy := Nat.lt_of_lt_of_le hy hq.size))
            go_ret
            exact ⟨ret_bool (by rw [HM.out]; first | (simp [*]; done) | (simp [*]; intros; omega)), by first | exact hb | exact hb.drew⟩
        · have hh3d : (proto == pr) = false := by simpa using hh3c
          obtain rfl : pp = false := by rw [← Kpp.out]; simp [hh3, hh3c]
          clear hh3 hh3c
          go_enter Tryz.func29, Tryz.ntmps29
          go_wp2_with (first | (go_at_call 45; (with_reducible refine (in_is src sa sn _ a0 a1).mono ?_); rintro e w1 ⟨rfl, hq⟩; rw [Kt1.out]; obtain ⟨hc1, hf1⟩ := bcell hq; have hb := Below.step hb hq; have hz := Nat.lt_of_lt_of_le hz hq.size; have hy := Nat.lt_of_lt_of_le hy hq.size) | (go_at_call 45; (with_reducible refine (in_is dst da dn _ b0 b1).mono ?_); rintro e w1 ⟨rfl, hq⟩; rw [Kt2.out]; obtain ⟨hc2, hf2⟩ := bcell hq; have hb := Below.step hb hq; have hz := Nat.lt_of_lt_of_le hz hq.size; have hy := Nat.lt_of_lt_of_le hy hq.size) | (go_at_call 46; (with_reducible refine (portIn_is sp sl sh _ x0 x1).mono ?_); rintro e w1 ⟨rfl, hq⟩; rw [Kq1.out]; obtain ⟨hc3, hf3⟩ := bcell hq; have hb := Below.step hb hq; have hz := Nat.lt_of_lt_of_le hz hq.size; have hy := Nat.lt_of_lt_of_le hy hq.size) | (go_at_call 46; (with_reducible refine (portIn_is dp dl dh _ y0 y1).mono ?_); rintro e w1 ⟨rfl, hq⟩; rw [Kq2.out]; obtain ⟨hc4, hf4⟩ := bcell hq; have hb := Below.step hb hq; have hz := Nat.lt_of_lt_of_le hz hq.size; have hy := Nat.lt_of_lt_of_le hy hq.size))
          go_ret
          exact ⟨ret_bool (by rw [HM.out]; first | (simp [*]; done) | (simp [*]; intros; omega)), by first | exact hb | exact hb.drew⟩
    | false =>
      skip
      go_enter Tryz.func29, Tryz.ntmps29
      go_wp2_with (first | (go_at_call 45; (with_reducible refine (in_is src sa sn _ a0 a1).mono ?_); rintro e w1 ⟨rfl, hq⟩; rw [Kt1.out]; obtain ⟨hc1, hf1⟩ := bcell hq; have hb := Below.step hb hq; have hz := Nat.lt_of_lt_of_le hz hq.size; have hy := Nat.lt_of_lt_of_le hy hq.size) | (go_at_call 45; (with_reducible refine (in_is dst da dn _ b0 b1).mono ?_); rintro e w1 ⟨rfl, hq⟩; rw [Kt2.out]; obtain ⟨hc2, hf2⟩ := bcell hq; have hb := Below.step hb hq; have hz := Nat.lt_of_lt_of_le hz hq.size; have hy := Nat.lt_of_lt_of_le hy hq.size) | (go_at_call 46; (with_reducible refine (portIn_is sp sl sh _ x0 x1).mono ?_); rintro e w1 ⟨rfl, hq⟩; rw [Kq1.out]; obtain ⟨hc3, hf3⟩ := bcell hq; have hb := Below.step hb hq; have hz := Nat.lt_of_lt_of_le hz hq.size; have hy := Nat.lt_of_lt_of_le hy hq.size) | (go_at_call 46; (with_reducible refine (portIn_is dp dl dh _ y0 y1).mono ?_); rintro e w1 ⟨rfl, hq⟩; rw [Kq2.out]; obtain ⟨hc4, hf4⟩ := bcell hq; have hb := Below.step hb hq; have hz := Nat.lt_of_lt_of_le hz hq.size; have hy := Nat.lt_of_lt_of_le hy hq.size))
      go_ret
      exact ⟨ret_bool (by rw [HM.out]; first | (simp [*]; done) | (simp [*]; intros; omega)), by first | exact hb | exact hb.drew⟩
  | false =>
    skip
    go_enter Tryz.func29, Tryz.ntmps29
    go_wp2_with (first | (go_at_call 45; (with_reducible refine (in_is src sa sn _ a0 a1).mono ?_); rintro e w1 ⟨rfl, hq⟩; rw [Kt1.out]; obtain ⟨hc1, hf1⟩ := bcell hq; have hb := Below.step hb hq; have hz := Nat.lt_of_lt_of_le hz hq.size; have hy := Nat.lt_of_lt_of_le hy hq.size) | (go_at_call 45; (with_reducible refine (in_is dst da dn _ b0 b1).mono ?_); rintro e w1 ⟨rfl, hq⟩; rw [Kt2.out]; obtain ⟨hc2, hf2⟩ := bcell hq; have hb := Below.step hb hq; have hz := Nat.lt_of_lt_of_le hz hq.size; have hy := Nat.lt_of_lt_of_le hy hq.size) | (go_at_call 46; (with_reducible refine (portIn_is sp sl sh _ x0 x1).mono ?_); rintro e w1 ⟨rfl, hq⟩; rw [Kq1.out]; obtain ⟨hc3, hf3⟩ := bcell hq; have hb := Below.step hb hq; have hz := Nat.lt_of_lt_of_le hz hq.size; have hy := Nat.lt_of_lt_of_le hy hq.size) | (go_at_call 46; (with_reducible refine (portIn_is dp dl dh _ y0 y1).mono ?_); rintro e w1 ⟨rfl, hq⟩; rw [Kq2.out]; obtain ⟨hc4, hf4⟩ := bcell hq; have hb := Below.step hb hq; have hz := Nat.lt_of_lt_of_le hz hq.size; have hy := Nat.lt_of_lt_of_le hy hq.size))
    go_ret
    exact ⟨ret_bool (by rw [HM.out]; first | (simp [*]; done) | (simp [*]; intros; omega)), by first | exact hb | exact hb.drew⟩
end Go.Proofs.YtgggmhaopcgkkaaGreatDoor
