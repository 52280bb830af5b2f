/- The law SpansTruths: whatever two lists of spans and numbers it is handed it answers true; what was there stands. No condition but that the lists read and the numbers are numbers. -/
import Derived.Test.YtdjlbenjbhkfiaaSpSets
import Derived.Test.YtdjlbenjbhkfiaaSpCnt
namespace Go.Proofs.Ytdjlbenjbhkfiaa
open Go.RowKit
theorem has_at (T : Nat → Bool) {x : Nat} (hx : x < top) : has (Cn T) x = T x := by rw [Cn_has]; simp [hx]
theorem len_two {l m : List (Nat × Nat)} {T : Nat → Bool} (k : Bool → Bool → Bool) (hk : k false false = false) (hT : ∀ x, T x = k (has l x) (has m x)) (hl : Small l) (hm : Small m) (h1 : l.length ≤ 100000) (h2 : m.length ≤ 100000) : (Cn T).length ≤ 400000 := by
  have := Cn_length2 (p := T) k hk hT hl.two hm.two
  omega
theorem rd_up (w : World) (most : Nat) (mi : Int) (hmi : mi = most) (hmt : most < top) : Rd (w.alloc (.cells #[.int .u32 0, .int .u32 mi] 27)) (.slice (some ⟨w.heap.size, 0, none⟩) 1 1) [(0, most)] := by
  refine ⟨fun s hs => by simp at hs; subst hs; exact ⟨by rw [top_def]; show 0 < _; omega, hmt⟩, .inr ⟨w.heap.size, 0, 1, rfl, Nat.le_refl _, by unfold maxLen; omega, by simp, fun i s hi => ?_⟩⟩
  rw [cell_of_heap (heap_new _ _), cell_of_heap (heap_new _ _)]
  match i, hi with
  | 0, hi => simp at hi; subst hi; exact ⟨rfl, by rw [hmi]; rfl⟩
  | i + 1, hi => simp at hi
theorem none_both (l : List (Nat × Nat)) (most : Nat) : Cn (fun x => has l x && has (Cn fun x => decide (x ≤ most) && !has l x) x) = [] := by
  rw [← Cn_false]
  refine Cn_congr fun x hx => ?_
  rw [has_at _ hx]
  cases has l x <;> simp
theorem up_low (l : List (Nat × Nat)) (most : Nat) : Cn (fun x => has l x && has [(0, most)] x) = Cn fun x => has l x && decide (x ≤ most) := Cn_congr fun x _ => by simp [has]
theorem all_same (l : List (Nat × Nat)) (most : Nat) (hm : most < top) : Cn (has (Cn fun x => has (Cn fun x => has l x && decide (x ≤ most)) x || has (Cn fun x => decide (x ≤ most) && !has l x) x)) = Cn (has [(0, most)]) := by
  rw [Cn_idem]
  refine Cn_congr fun x hx => ?_
  rw [has_at _ hx, has_at _ hx]
  cases has l x <;> simp [has]
set_option maxRecDepth 100000 in
set_option maxHeartbeats 8000000 in
theorem truths_mid (l m : List (Nat × Nat)) (v u : Value) (most x : Nat) (hmt : most < top) (hxt : x < top) (w : World) (hr : Rd w v l) (hs : Rd w u m) (h1 : l.length ≤ 200) (h2 : m.length ≤ 200) (p q : Bool) (hp : has l x = p) (hq : has m x = q) :
    Calls Try.prog 7 #[v, u, .int .u32 most, .int .u32 x] w fun e w' => e = .returned (.bool true) ∧ Below w.heap.size w w' := by
  obtain ⟨p1, d1, hv1, _⟩ := hr.sl
  obtain ⟨p2, d2, hv2, _⟩ := hs.sl
  subst hv1 hv2
  obtain ⟨xi, hxi⟩ : ∃ z : Int, z = (x : Int) := ⟨_, rfl⟩
  obtain ⟨mi, hmi⟩ : ∃ z : Int, z = (most : Int) := ⟨_, rfl⟩
  rw [← hxi, ← hmi]
  have hL := Lib.hid (large_no p1 p2 l.length m.length d1 d2 w h1 h2)
  have HR := Lib.hid hr; have HS := Lib.hid hs; have HP := Lib.hid hp; have HQ := Lib.hid hq
  have hx0 : 0 ≤ xi := by omega
  have hm0 : 0 ≤ mi := by omega
  have hxn : xi.toNat = x := by omega
  have HXN := Lib.hid hxn
  have HXI := Lib.hid hxi; have HMI := Lib.hid hmi
  have HXT := Lib.hid hxt; have HMT := Lib.hid hmt
  rw [top_def] at hxt hmt
  have hx1 : xi < 4294967296 := by omega
  have hm1 : mi < 4294967296 := by omega
  have hlf : (Cn (has l)).length ≤ 200 := Nat.le_trans (CnHas_length hr.1.two) h1
  have lor := len_two (T := fun x => has l x || has m x) (fun p q => p || q) rfl (fun _ => rfl) hr.1 hs.1 (by omega) (by omega)
  have land := len_two (T := fun x => has l x && has m x) (fun p q => p && q) rfl (fun _ => rfl) hr.1 hs.1 (by omega) (by omega)
  have lless := len_two (T := fun x => has l x && !has m x) (fun p q => p && !q) rfl (fun _ => rfl) hr.1 hs.1 (by omega) (by omega)
  have lno := len_two (l := [(0, most)]) (m := l) (T := fun x => decide (x ≤ most) && !has l x) (fun p q => p && !q) rfl (fun x => by simp [has]) (fun s hs => by simp at hs; subst hs; exact ⟨by rw [top_def]; show 0 < _; omega, HMT.out⟩) hr.1 (by simp) (by omega)
  have llow := len_two (l := l) (m := [(0, most)]) (T := fun x => has l x && decide (x ≤ most)) (fun p q => p && q) rfl (fun x => by simp [has]) hr.1 (fun s hs => by simp at hs; subst hs; exact ⟨by rw [top_def]; show 0 < _; omega, HMT.out⟩) (by omega) (by simp)
  have HLN := Lib.hid (And.intro hlf (And.intro lor (And.intro land (And.intro lless (And.intro lno llow)))))
  clear hr hs hp hq hxi hmi hxt hmt hxn hlf lor land lless lno llow
  go_enter Try.func7, Try.ntmps7
  go_wp2_with fail
  refine hL.out.mono ?_
  rintro e w1 ⟨rfl, rfl⟩
  clear hL
  go_wp2_with fail
  refine (awake_is w).mono ?_
  rintro e w1 ⟨rfl, hb1⟩
  go_wp2_with fail
  go_at_call 23
  refine (rhas_is l _ xi p (by rw [HXN.out]; exact HP.out) w1 (HR.out.below hb1) hx0 (by omega)).mono ?_
  rintro e w2 ⟨rfl, rfl⟩
  go_wp2_with fail
  go_at_call 23
  refine (rhas_is m _ xi q (by rw [HXN.out]; exact HQ.out) w1 (HS.out.below hb1) hx0 (by omega)).mono ?_
  rintro e w2 ⟨rfl, rfl⟩
  cases p <;> cases q
  all_goals
    go_wp2_with fail
    go_at_call 22
    refine (has_any l _ xi w1 (HR.out.below hb1) hx0 (by omega)).mono ?_
    rintro e w2 ⟨rfl, hs2⟩
    rw [HXN.out, HP.out]
    have hb2 := Below.step hb1 hs2
    go_wp2_with fail
    go_at_call 16
    refine (form_is l _ w2 (HR.out.below hb2) (by omega)).mono ?_
    rintro e w3 ⟨v3, rfl, ho3, hs3⟩
    have hb3 := Below.step hb2 hs3
    obtain ⟨_, _, hv3, _⟩ := ho3.rd.sl
    subst hv3
    have HO3 := Lib.hid ho3
    clear ho3
    go_wp2_with fail
    go_at_call 22
    refine (has_any _ _ xi w3 HO3.out.rd hx0 (Nat.le_trans HLN.out.1 (by omega))).mono ?_
    rintro e w4 ⟨rfl, hs4⟩
    rw [HXN.out, has_at _ HXT.out, HP.out]
    have hb4 := Below.step hb3 hs4
    clear HO3
    go_wp2_with fail
    go_at_call 17
    refine (or_is l m _ _ w4 (HR.out.below hb4) (HS.out.below hb4) (by omega) (by omega)).mono ?_
    rintro e w5 ⟨v5, rfl, ho5, hs5⟩
    have hb5 := Below.step hb4 hs5
    obtain ⟨_, _, hv5, _⟩ := ho5.rd.sl
    subst hv5
    have HO5 := Lib.hid ho5
    clear ho5
    go_wp2_with fail
    go_at_call 22
    refine (has_any _ _ xi w5 HO5.out.rd hx0 (Nat.le_trans HLN.out.2.1 (by omega))).mono ?_
    rintro e w6 ⟨rfl, hs6⟩
    rw [HXN.out, has_at _ HXT.out, HP.out, HQ.out]
    have hb6 := Below.step hb5 hs6
    clear HO5
    go_wp2_with fail
    go_at_call 18
    refine (and_is l m _ _ w6 (HR.out.below hb6) (HS.out.below hb6) (by omega) (by omega)).mono ?_
    rintro e w7 ⟨v7, rfl, ho7, hs7⟩
    have hb7 := Below.step hb6 hs7
    obtain ⟨_, _, hv7, _⟩ := ho7.rd.sl
    subst hv7
    have HO7 := Lib.hid ho7
    clear ho7
    go_wp2_with fail
    go_at_call 22
    refine (has_any _ _ xi w7 HO7.out.rd hx0 (Nat.le_trans HLN.out.2.2.1 (by omega))).mono ?_
    rintro e w8 ⟨rfl, hs8⟩
    rw [HXN.out, has_at _ HXT.out, HP.out, HQ.out]
    have hb8 := Below.step hb7 hs8
    clear HO7
    go_wp2_with fail
    go_at_call 19
    refine (less_is l m _ _ w8 (HR.out.below hb8) (HS.out.below hb8) (by omega) (by omega)).mono ?_
    rintro e w9 ⟨v9, rfl, ho9, hs9⟩
    have hb9 := Below.step hb8 hs9
    obtain ⟨_, _, hv9, _⟩ := ho9.rd.sl
    subst hv9
    have HO9 := Lib.hid ho9
    clear ho9
    go_wp2_with fail
    go_at_call 22
    refine (has_any _ _ xi w9 HO9.out.rd hx0 (Nat.le_trans HLN.out.2.2.2.1 (by omega))).mono ?_
    rintro e w10 ⟨rfl, hs10⟩
    rw [HXN.out, has_at _ HXT.out, HP.out, HQ.out]
    have hb10 := Below.step hb9 hs10
    clear HO9
    go_wp2_with fail
    go_at_call 20
    refine ((HMI.out ▸ not_is l _ most w10 (HR.out.below hb10) HMT.out (by omega) : Calls Try.prog 20 #[.slice p1 l.length d1, .int .u32 mi] w10 (NewSet (fun x => decide (x ≤ most) && !has l x) w10))).mono ?_
    rintro e w11 ⟨v11, rfl, ho11, hs11⟩
    have hb11 := Below.step hb10 hs11
    obtain ⟨_, _, hv11, _⟩ := ho11.rd.sl
    subst hv11
    have HO11 := Lib.hid ho11
    clear ho11
    go_wp2_with fail
    go_at_call 22
    refine (has_any _ _ xi w11 HO11.out.rd hx0 (Nat.le_trans HLN.out.2.2.2.2.1 (by omega))).mono ?_
    rintro e w12 ⟨rfl, hs12⟩
    rw [HXN.out, has_at _ HXT.out, HP.out]
    have hb12 := Below.step hb11 hs12
    have hxm : decide (x ≤ most) = decide (xi ≤ mi) := by have := HXI.out; have := HMI.out; rw [Bool.eq_iff_iff]; simp; omega
    rw [hxm]
    clear hxm
    have HX2 : xi ≤ mi ∨ mi < xi := by omega
    rcases HX2 with hx2 | hx2
    · have d1' : decide (xi ≤ mi) = true := by simpa using hx2
      rw [d1']
      go_wp2_with fail
      go_at_call 18
      refine (and_is l _ _ _ w12 (HR.out.below hb12) (HO11.out.rd.below hs12) (by omega) (Nat.le_trans HLN.out.2.2.2.2.1 (by omega))).mono ?_
      rintro e w13 ⟨v13, rfl, ho13, hs13⟩
      have hb13 := Below.step hb12 hs13
      rw [none_both] at ho13
      obtain ⟨_, _, hv13, _⟩ := ho13.rd.sl
      subst hv13
      clear ho13
      go_wp2_with fail
      go_at_call 18
      have hs13' : Below w13.heap.size w13 (w13.alloc (.cells #[.int .u32 0, .int .u32 mi] 27)) := (Below.refl _ _).alloc (Nat.le_refl _) _
      refine (and_is l _ _ _ _ ((HR.out.below hb13).below hs13') (rd_up w13 most mi HMI.out HMT.out) (by omega) (by simp)).mono ?_
      rintro e w14 ⟨v14, rfl, ho14, hs14⟩
      have hb14 := Below.step (Below.step hb13 hs13') hs14
      rw [up_low] at ho14
      obtain ⟨_, _, hv14, _⟩ := ho14.rd.sl
      subst hv14
      have HO14 := Lib.hid ho14
      have hs1114 : Below w11.heap.size w11 w14 := Below.step (Below.step (Below.step hs12 hs13) hs13') hs14
      clear ho14 hs13' hs14
      go_wp2_with fail
      go_at_call 25
      refine (count_is _ _ w14 HO14.out.rd (Nat.le_trans HLN.out.2.2.2.2.2 (by omega))).mono ?_
      rintro e w15 ⟨rfl, hs15⟩
      rw [Cn_idem]
      go_wp2_with fail
      go_at_call 25
      refine (count_is _ _ w15 (HO11.out.rd.below (Below.step hs1114 hs15)) (Nat.le_trans HLN.out.2.2.2.2.1 (by omega))).mono ?_
      rintro e w16 ⟨rfl, hs16⟩
      rw [Cn_idem]
      have hsum := cnt_parts (T := has l) HMT.out
      have ht1 := cnt_top (fun x => has l x && decide (x ≤ most))
      have ht2 := cnt_top (fun x => decide (x ≤ most) && !has l x)
      rw [top_def] at ht1 ht2
      obtain ⟨n1, hn1⟩ : ∃ z : Int, z = (cnt (Cn fun x => has l x && decide (x ≤ most)) : Nat) := ⟨_, rfl⟩
      obtain ⟨n2, hn2⟩ : ∃ z : Int, z = (cnt (Cn fun x => decide (x ≤ most) && !has l x) : Nat) := ⟨_, rfl⟩
      have HN1 := Lib.hid hn1; have HN2 := Lib.hid hn2
      rw [← hn1, ← hn2]
      have g1 : 0 ≤ n1 := by omega
      have g2 : 0 ≤ n2 := by omega
      have g3 : n1 ≤ 4294967296 := by omega
      have g4 : n2 ≤ 4294967296 := by omega
      have g5 : (n1 + n2 == mi + 1) = true := by simp; have := HMI.out; omega
      clear hsum ht1 ht2 hn1 hn2
      have hs1416 : Below w14.heap.size w14 w16 := Below.step hs15 hs16
      have hs1116 : Below w11.heap.size w11 w16 := Below.step (Below.step hs1114 hs15) hs16
      have hb16 := Below.step (Below.step hb14 hs15) hs16
      go_wp2_with fail
      go_at_call 17
      refine (or_is _ _ _ _ w16 (HO14.out.rd.below hs1416) (HO11.out.rd.below hs1116) (Nat.le_trans HLN.out.2.2.2.2.2 (by omega)) (Nat.le_trans HLN.out.2.2.2.2.1 (by omega))).mono ?_
      rintro e w17 ⟨v17, rfl, ho17, hs17⟩
      have hb17 := Below.step hb16 hs17
      obtain ⟨_, _, hv17, _⟩ := ho17.rd.sl
      subst hv17
      have HO17 := Lib.hid ho17
      clear ho17
      have hl17 := Cn_length2 (p := fun x => has (Cn fun x => has l x && decide (x ≤ most)) x || has (Cn fun x => decide (x ≤ most) && !has l x) x) (fun p q => p || q) rfl (fun _ => rfl) (Cn_small _).two (Cn_small _).two
      have hl17' := Nat.le_trans hl17 (Nat.add_le_add (Nat.mul_le_mul_left 2 HLN.out.2.2.2.2.2) (Nat.mul_le_mul_left 2 HLN.out.2.2.2.2.1))
      have HL17 := Lib.hid hl17'
      clear hl17 hl17'
      go_wp2_with fail
      go_at_call 27
      have hs17' : Below w17.heap.size w17 (w17.alloc (.cells #[.int .u32 0, .int .u32 mi] 27)) := (Below.refl _ _).alloc (Nat.le_refl _) _
      refine (same_is _ _ _ _ _ (HO17.out.rd.below hs17') (rd_up w17 most mi HMI.out HMT.out) (Nat.le_trans HL17.out (by omega)) (by simp)).mono ?_
      rintro e w18 ⟨rfl, hs18⟩
      rw [all_same l most HMT.out]
      go_wp2
      go_ret
      exact ⟨ret_bool (by simp), Below.step (Below.step hb17 hs17') hs18⟩
    · have d1' : decide (xi ≤ mi) = false := by simp; omega
      rw [d1']
      go_wp2_with fail
      go_at_call 18
      refine (and_is l _ _ _ w12 (HR.out.below hb12) (HO11.out.rd.below hs12) (by omega) (Nat.le_trans HLN.out.2.2.2.2.1 (by omega))).mono ?_
      rintro e w13 ⟨v13, rfl, ho13, hs13⟩
      have hb13 := Below.step hb12 hs13
      rw [none_both] at ho13
      obtain ⟨_, _, hv13, _⟩ := ho13.rd.sl
      subst hv13
      clear ho13
      go_wp2_with fail
      go_at_call 18
      have hs13' : Below w13.heap.size w13 (w13.alloc (.cells #[.int .u32 0, .int .u32 mi] 27)) := (Below.refl _ _).alloc (Nat.le_refl _) _
      refine (and_is l _ _ _ _ ((HR.out.below hb13).below hs13') (rd_up w13 most mi HMI.out HMT.out) (by omega) (by simp)).mono ?_
      rintro e w14 ⟨v14, rfl, ho14, hs14⟩
      have hb14 := Below.step (Below.step hb13 hs13') hs14
      rw [up_low] at ho14
      obtain ⟨_, _, hv14, _⟩ := ho14.rd.sl
      subst hv14
      have HO14 := Lib.hid ho14
      have hs1114 : Below w11.heap.size w11 w14 := Below.step (Below.step (Below.step hs12 hs13) hs13') hs14
      clear ho14 hs13' hs14
      go_wp2_with fail
      go_at_call 25
      refine (count_is _ _ w14 HO14.out.rd (Nat.le_trans HLN.out.2.2.2.2.2 (by omega))).mono ?_
      rintro e w15 ⟨rfl, hs15⟩
      rw [Cn_idem]
      go_wp2_with fail
      go_at_call 25
      refine (count_is _ _ w15 (HO11.out.rd.below (Below.step hs1114 hs15)) (Nat.le_trans HLN.out.2.2.2.2.1 (by omega))).mono ?_
      rintro e w16 ⟨rfl, hs16⟩
      rw [Cn_idem]
      have hsum := cnt_parts (T := has l) HMT.out
      have ht1 := cnt_top (fun x => has l x && decide (x ≤ most))
      have ht2 := cnt_top (fun x => decide (x ≤ most) && !has l x)
      rw [top_def] at ht1 ht2
      obtain ⟨n1, hn1⟩ : ∃ z : Int, z = (cnt (Cn fun x => has l x && decide (x ≤ most)) : Nat) := ⟨_, rfl⟩
      obtain ⟨n2, hn2⟩ : ∃ z : Int, z = (cnt (Cn fun x => decide (x ≤ most) && !has l x) : Nat) := ⟨_, rfl⟩
      have HN1 := Lib.hid hn1; have HN2 := Lib.hid hn2
      rw [← hn1, ← hn2]
      have g1 : 0 ≤ n1 := by omega
      have g2 : 0 ≤ n2 := by omega
      have g3 : n1 ≤ 4294967296 := by omega
      have g4 : n2 ≤ 4294967296 := by omega
      have g5 : (n1 + n2 == mi + 1) = true := by simp; have := HMI.out; omega
      clear hsum ht1 ht2 hn1 hn2
      have hs1416 : Below w14.heap.size w14 w16 := Below.step hs15 hs16
      have hs1116 : Below w11.heap.size w11 w16 := Below.step (Below.step hs1114 hs15) hs16
      have hb16 := Below.step (Below.step hb14 hs15) hs16
      go_wp2_with fail
      go_at_call 17
      refine (or_is _ _ _ _ w16 (HO14.out.rd.below hs1416) (HO11.out.rd.below hs1116) (Nat.le_trans HLN.out.2.2.2.2.2 (by omega)) (Nat.le_trans HLN.out.2.2.2.2.1 (by omega))).mono ?_
      rintro e w17 ⟨v17, rfl, ho17, hs17⟩
      have hb17 := Below.step hb16 hs17
      obtain ⟨_, _, hv17, _⟩ := ho17.rd.sl
      subst hv17
      have HO17 := Lib.hid ho17
      clear ho17
      have hl17 := Cn_length2 (p := fun x => has (Cn fun x => has l x && decide (x ≤ most)) x || has (Cn fun x => decide (x ≤ most) && !has l x) x) (fun p q => p || q) rfl (fun _ => rfl) (Cn_small _).two (Cn_small _).two
      have hl17' := Nat.le_trans hl17 (Nat.add_le_add (Nat.mul_le_mul_left 2 HLN.out.2.2.2.2.2) (Nat.mul_le_mul_left 2 HLN.out.2.2.2.2.1))
      have HL17 := Lib.hid hl17'
      clear hl17 hl17'
      go_wp2_with fail
      go_at_call 27
      have hs17' : Below w17.heap.size w17 (w17.alloc (.cells #[.int .u32 0, .int .u32 mi] 27)) := (Below.refl _ _).alloc (Nat.le_refl _) _
      refine (same_is _ _ _ _ _ (HO17.out.rd.below hs17') (rd_up w17 most mi HMI.out HMT.out) (Nat.le_trans HL17.out (by omega)) (by simp)).mono ?_
      rintro e w18 ⟨rfl, hs18⟩
      rw [all_same l most HMT.out]
      go_wp2
      go_ret
      exact ⟨ret_bool (by simp), Below.step (Below.step hb17 hs17') hs18⟩
set_option maxRecDepth 100000 in
theorem truths_is (l m : List (Nat × Nat)) (v u : Value) (mi xi : Int) (hm : 0 ≤ mi ∧ mi < 4294967296) (hx : 0 ≤ xi ∧ xi < 4294967296) (w : World) (hr : Rd w v l) (hs : Rd w u m) :
    Calls Try.prog 7 #[v, u, .int .u32 mi, .int .u32 xi] w fun e w' => e = .returned (.bool true) ∧ Below w.heap.size w w' := by
  by_cases hlg : 200 < l.length ∨ 200 < m.length
  · obtain ⟨p, c, hv, _⟩ := hr.sl
    obtain ⟨q, d, hu, _⟩ := hs.sl
    subst hv hu
    have hL := Lib.hid (large_yes p q l.length m.length c d w hlg)
    clear hr hs hlg
    go_enter Try.func7, Try.ntmps7
    go_wp2_with fail
    refine hL.out.mono ?_
    rintro e w1 ⟨rfl, rfl⟩
    go_wp2_with fail
    refine (awake_is w).mono ?_
    rintro e w1 ⟨rfl, hb1⟩
    go_wp2
    go_ret
    exact ⟨rfl, hb1⟩
  · obtain ⟨x, rfl⟩ := Int.eq_ofNat_of_zero_le hx.1
    obtain ⟨most, rfl⟩ := Int.eq_ofNat_of_zero_le hm.1
    exact truths_mid l m v u most x (by rw [top_def]; omega) (by rw [top_def]; omega) w hr hs (by omega) (by omega) _ _ rfl rfl
end Go.Proofs.Ytdjlbenjbhkfiaa
