/- The law SpansAsks: whatever two lists of spans it is handed it answers true; what was there stands. No condition but that the lists read. -/
import Derived.Test.YtdjlbenjbhkfiaaSpR2
namespace Go.Proofs.Ytdjlbenjbhkfiaa
open Go.RowKit
set_option maxRecDepth 100000 in
set_option maxHeartbeats 1000000 in
theorem asks_is (l m : List (Nat × Nat)) (v u : Value) (w : World) (hr : Rd w v l) (hs : Rd w u m) :
    Calls Try.prog 4 #[v, u] w fun e w' => e = .returned (.bool true) ∧ Below w.heap.size w w' := by
  obtain ⟨p, c, hv, _, _, _⟩ := hr.sl
  obtain ⟨q, d, hu, _, _, _⟩ := hs.sl
  subst hv hu
  by_cases hlg : 200 < l.length ∨ 200 < m.length
  · have hL := Lib.hid (large_yes p q l.length m.length c d w hlg)
    clear hr hs hlg
    go_enter Try.func4, Try.ntmps4
    go_wp2_with fail
    refine hL.out.mono ?_
    rintro e w1 ⟨rfl, rfl⟩
    go_wp2_with fail
    refine (awake_is w).mono ?_
    rintro e w1 ⟨rfl, hb1⟩
    go_wp2
    go_ret
    exact ⟨rfl, hb1⟩
  · have h1 : l.length ≤ 200 := by omega
    have h2 : m.length ≤ 200 := by omega
    have hL := Lib.hid (large_no p q l.length m.length c d w h1 h2)
    have HR := Lib.hid hr
    have HS := Lib.hid hs
    have hfl := CnHas_length hr.1.two
    have hml := CnHas_length hs.1.two
    have hid1 : Cn (has (Cn (has l))) = Cn (has l) := Cn_idem _
    have HI := Lib.hid hid1
    clear hlg hr hs hid1
    go_enter Try.func4, Try.ntmps4
    go_wp2_with fail
    refine hL.out.mono ?_
    rintro e w1 ⟨rfl, rfl⟩
    go_wp2_with fail
    refine (rform_is l _ w HR.out (by omega)).mono ?_
    rintro e w1 ⟨v1, rfl, ho, hb1⟩
    have HO := Lib.hid ho
    have hr1 := HR.out.below hb1
    have HR1 := Lib.hid hr1
    obtain ⟨p1, c1, hv1, _, _, hc1⟩ := ho.rd.sl
    subst hv1
    have HC1 := Lib.hid hc1
    clear ho hr1 hc1
    go_wp2_with fail
    refine (least_is l _ w1 HR1.out (by omega)).mono ?_
    rintro e w2 ⟨rfl, hb2⟩
    go_wp2_with fail
    refine (count_is l _ w2 (HR1.out.below hb2) (by omega)).mono ?_
    rintro e w3 ⟨rfl, hb3⟩
    go_wp2_with fail
    refine (rcount_is l _ w3 ((HR1.out.below hb2).below hb3) (by omega)).mono ?_
    rintro e w4 ⟨rfl, hb4⟩
    have hb14 : Below w1.heap.size w1 w4 := Below.step (Below.step hb2 hb3) hb4
    have hcl : cnt (Cn (has l)) ≤ 4294967296 * 200 := by
      have := cnt_le (l := Cn (has l)) (Cn_small (has l)).two
      have := Nat.mul_le_mul_right top (Nat.le_trans hfl h1)
      rw [top_def] at *; omega
    generalize hgn : cnt (Cn (has l)) = n at *
    have hn1 : ((n : Int) != (n : Int)) = false := by simp
    clear hgn
    generalize hgf : Cn (has l) = f at *
    have HF := Lib.hid hgf
    clear hgf
    cases f with
    | nil =>
      simp only [lst]
      go_wp2_with fail
      go_at_call 27
      refine (same_is l m _ _ w4 (HR1.out.below hb14) ((HS.out.below hb1).below hb14) (by omega) (by omega)).mono ?_
      rintro e w5 ⟨rfl, hb5⟩
      go_wp2_with fail
      go_at_call 11
      refine (rform_is m _ w5 (((HS.out.below hb1).below hb14).below hb5) (by omega)).mono ?_
      rintro e w6 ⟨v6, rfl, ho6, hb6⟩
      have HO6 := Lib.hid ho6
      clear ho6
      have hb16 : Below w1.heap.size w1 w6 := Below.step (Below.step hb14 hb5) hb6
      go_wp2_with fail
      go_at_call 21
      refine (spans_is _ _ _ v6 w6 (HO.out.rd.below hb16) HO6.out.rd (by first | omega | simp) (by omega)).mono ?_
      rintro e w7 ⟨rfl, hb7⟩
      rw [HF.out]
      have hb17 : Below w1.heap.size w1 w7 := Below.step hb16 hb7
      generalize hdd : decide ([] = Cn (has m)) = bb
      have hbb : (bb == bb) = true := by simp
      clear hdd
      go_wp2_with fail
      go_at_call 27
      refine (same_is l _ _ _ w7 (HR1.out.below hb17) (HO.out.rd.below hb17) (by omega) (by first | omega | simp)).mono ?_
      rintro e w8 ⟨rfl, hb8⟩
      rw [HF.out, HI.out]
      go_wp2
      go_ret
      exact ⟨ret_bool (by simp), Below.step (Below.step hb1 hb17) hb8⟩
    | cons t r =>
      obtain ⟨b, o, rfl, hb, _, _, hcc⟩ := HC1.out 0 t rfl
      obtain ⟨x1, x2⟩ := hcc w4 hb14
      clear hcc
      simp only [Nat.zero_mul, Nat.add_zero] at x1 x2
      simp only [lst]
      go_wp2_with fail
      go_at_call 27
      refine (same_is l m _ _ w4 (HR1.out.below hb14) ((HS.out.below hb1).below hb14) (by omega) (by omega)).mono ?_
      rintro e w5 ⟨rfl, hb5⟩
      go_wp2_with fail
      go_at_call 11
      refine (rform_is m _ w5 (((HS.out.below hb1).below hb14).below hb5) (by omega)).mono ?_
      rintro e w6 ⟨v6, rfl, ho6, hb6⟩
      have HO6 := Lib.hid ho6
      clear ho6
      have hb16 : Below w1.heap.size w1 w6 := Below.step (Below.step hb14 hb5) hb6
      go_wp2_with fail
      go_at_call 21
      refine (spans_is _ _ _ v6 w6 (HO.out.rd.below hb16) HO6.out.rd (by first | omega | simp) (by omega)).mono ?_
      rintro e w7 ⟨rfl, hb7⟩
      rw [HF.out]
      have hb17 : Below w1.heap.size w1 w7 := Below.step hb16 hb7
      generalize hdd : decide (t :: r = Cn (has m)) = bb
      have hbb : (bb == bb) = true := by simp
      clear hdd
      go_wp2_with fail
      go_at_call 27
      refine (same_is l _ _ _ w7 (HR1.out.below hb17) (HO.out.rd.below hb17) (by omega) (by first | omega | simp)).mono ?_
      rintro e w8 ⟨rfl, hb8⟩
      rw [HF.out, HI.out]
      go_wp2
      go_ret
      exact ⟨ret_bool (by simp), Below.step (Below.step hb1 hb17) hb8⟩
end Go.Proofs.Ytdjlbenjbhkfiaa
