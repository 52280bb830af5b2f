/- The law SpansSets: it answers true; what was there stands. No condition but those named. -/
import Derived.Test.YtkgahpkkojnolaaSpSB
import Derived.BigQuiet
namespace Go.Proofs.Ytkgahpkkojnolaa
open Go.RowKit
set_option maxRecDepth 100000 in
set_option maxHeartbeats 16000000 in
theorem sets_is (l m : List (Nat × Nat)) (va vb : Value) (most : Nat) (x : Int) (w : World) (hr : Rd w va l) (hs : Rd w vb m) (hmt : most < top) (hx0 : 0 ≤ x) (hx1 : x < 4294967296) :
    Calls Try.prog 3 #[va, vb, .int .u32 most, .int .u32 x] w fun e w' => e = .returned (.bool true) ∧ Below w.heap.size w w' := by
  obtain ⟨mi, hmi⟩ : ∃ z : Int, z = (most : Int) := ⟨_, rfl⟩
  rw [← hmi]
  obtain ⟨p, c, rfl, hlc, hcm, _⟩ := hr.sl
  obtain ⟨q, d, rfl, hmc, hdm, _⟩ := hs.sl
  by_cases hbig : 200 < l.length ∨ 200 < m.length
  · have HLY := Lib.hid (large_yes p q l.length m.length c d w hbig)
    clear hbig hr hs hmi
    go_enter Try.func3, Try.ntmps3
    go_wp2_with fail
    go_at_call 4
    (with_reducible refine HLY.out.mono ?_)
    rintro e w1 ⟨rfl, rfl⟩
    go_wp2_with fail
    refine (awake_is _).mono ?_
    rintro e w1 ⟨rfl, hb1⟩
    go_wp2
    go_ret
    exact ⟨rfl, hb1⟩
  have hll : l.length ≤ 200 := by omega
  have hml : m.length ≤ 200 := by omega
  have HLN := Lib.hid (large_no p q l.length m.length c d w hll hml)
  have HR := Lib.hid hr; have HS := Lib.hid hs; have HMI := Lib.hid hmi; have HMT := Lib.hid hmt
  have HTL := Lib.hid (TT_len l m most hmt hr.1 hs.1 hll hml)
  clear hr hs hmi hbig hmt
  have HW0 : Hid (∀ W, Below w.heap.size w W → Calls Try.prog 6 #[.slice p l.length c] W (NewSet (TT l m most 0) W)) := Lib.hid fun W hB => rform_is l _ W (HR.out.below hB) (by omega)
  have HW1 : Hid (∀ W, Below w.heap.size w W → Calls Try.prog 7 #[.slice p l.length c, .slice q m.length d] W (NewSet (TT l m most 1) W)) := Lib.hid fun W hB => ror_is l m _ _ W (HR.out.below hB) (HS.out.below hB) (by omega)
  have HW2 : Hid (∀ W, Below w.heap.size w W → Calls Try.prog 8 #[.slice p l.length c, .slice q m.length d] W (NewSet (TT l m most 2) W)) := Lib.hid fun W hB => rand_is l m _ _ W (HR.out.below hB) (HS.out.below hB) (by omega)
  have HW3 : Hid (∀ W, Below w.heap.size w W → Calls Try.prog 9 #[.slice p l.length c, .slice q m.length d] W (NewSet (TT l m most 3) W)) := Lib.hid fun W hB => rless_is l m _ _ W (HR.out.below hB) (HS.out.below hB) (by omega)
  have HW4 : Hid (∀ W, Below w.heap.size w W → Calls Try.prog 10 #[.slice p l.length c, .int .u32 mi] W (NewSet (TT l m most 4) W)) := Lib.hid fun W hB => by rw [HMI.out]; exact rnot_is l _ most W (HR.out.below hB) HMT.out (by omega)
  obtain ⟨i0, hi0, hz0, hz1, hz2⟩ := info_parts infoS
  go_enter Try.func3, Try.ntmps3
  go_wp2_with fail
  go_at_call 4
  (with_reducible refine HLN.out.mono ?_)
  rintro e w1 ⟨rfl, rfl⟩
  have hown0 := World.ownsRow_lit (e := 27) (size := 2) w #[] 0 (Nat.le_refl _) (Nat.zero_le _) rfl
  have hb0 : Below w.heap.size w (w.alloc (.cells #[] 27)) := (Below.refl _ _).alloc (Nat.le_refl _) _
  have hrd0 := HR.out.below hb0
  have HB0 := Lib.hid hb0
  clear hb0
  go_wp2_with (first
    | (at_builtin; refine wpList_append_rd rfl _ _ rfl w.heap.size _ 0 _ rfl hown0 _ l rfl hrd0 (by omega) (by omega) (by simp) ?_; intro v1 w1 hown1 hgrow1 hor1; clear hown0 hrd0)
    | (at_builtin; refine wpList_append_lies _ rfl _ _ 22 rfl w.heap.size 27 i0 (.agg #[.int .u32 0, .int .u32 0]) 2 8 Try.underlying22 hi0 hz0 hz1 hz2 rfl (by decide) _ (0 + l.length) _ rfl (World.ownsRow.alloc hown1 _) ⟨w1.heap.size, 0, none⟩ 1 1 [.int .u32 7, .int .u32 7] rfl rfl (two_new (by simp) _ _ _) (fun x hx => by simp at hx; rcases hx with rfl | rfl <;> rfl) (by omega) (by unfold maxLen; omega) (by omega) (by have := hgrow1.size; simp at this ⊢; omega) _ rfl ?_; intro g cap w2 hown2 hgrow2 hlies2 hlt2; (have hb1 : Below w.heap.size w w1 := HB0.out.grown hgrow1 (by simp) (fun k hk => by have hk : (some w.heap.size : Option Nat) = some k := hk; simp at hk; omega)); (have hb2 : Below w.heap.size w w2 := (hb1.alloc (by have := hb1.size; omega) _).grown hgrow2 (by have := hb1.size; simp; omega) (fun k hk => by (have hlt := hown1.lt k hk); omega)); (have HOW2 := Lib.hid hown2); (have HB2 := Lib.hid hb2); (have hrd2 := HS.out.below (hb2.alloc (by have := hb2.size; omega) (.cells #[] 27))); (have hown3 := World.ownsRow_lit (e := 27) (size := 2) w2 #[] 0 (Nat.le_refl _) (Nat.zero_le _) rfl); (have hcapg : l.length + 1 ≤ cap := by have := (own_cap hown2).1; omega); (have hci : (l.length : Int) ≤ (cap : Int) := by omega); clear hown1 hgrow1 hor1 hgrow2 hlies2 hb1 hb2 hown2)
    | (at_builtin; refine wpList_append_rd rfl _ _ rfl w2.heap.size _ 0 _ rfl hown3 _ m rfl hrd2 (by omega) (by omega) (by simp) ?_; intro v3 w3 hown4 hgrow4 hor4; clear hown3 hrd2))
  obtain ⟨po, co, rfl⟩ := own_spans hown4
  have hz23 := hgrow4.size
  have hb3 : Below w2.heap.size w2 w3 := ((Below.refl _ _).alloc (Nat.le_refl _) _).grown hgrow4 (by simp) (fun k hk => by have hk : (some w2.heap.size : Option Nat) = some k := hk; simp at hk; omega)
  have hrin : Rd w3 (.slice (some ⟨g, 0, none⟩) l.length cap) l := (rd_front (by simpa using HOW2.out) HR.out.1 (by omega) hlt2).below hb3
  have hrow : Rd w3 (.slice po m.length co) m := Own.rd ⟨HS.out.1, by simpa using hown4⟩
  have h7 : w3.cell? ⟨g, l.length * 2, none⟩ = some (.int .u32 7) := (hb3.cell (p := ⟨g, l.length * 2, none⟩) hlt2).trans (by
    rw [HOW2.out.cellAt _ (by omega), List.getElem?_append_right (by simp [flatS_length]; omega)]
    simp [flatS_length, Nat.mul_comm])
  have hbw3 : Below w.heap.size w w3 := HB2.out.trans (hb3.mono HB2.out.size)
  have hg3 : g < w3.heap.size := by have := hb3.size; omega
  have HRI := Lib.hid hrin; have HRO := Lib.hid hrow; have H7 := Lib.hid h7; have HBW3 := Lib.hid hbw3
  clear hown4 hgrow4 hor4 hb3 hrin hrow h7 hbw3 HOW2 hlt2 hz23
  go_at_call 6
  (with_reducible refine (HW0.out _ HBW3.out).mono ?_)
  rintro e ub0 ⟨vv, rfl, ho, hb⟩
  obtain ⟨up0, uc0, rfl⟩ := own_spans ho.2
  have uO0 := Lib.hid ho
  have uB0 := Lib.hid hb
  have uX0 := Lib.hid (Below.step HBW3.out hb)
  have uz0 := hb.size
  clear ho hb
  go_wp2_with fail
  go_at_call 7
  (with_reducible refine (HW1.out _ uX0.out).mono ?_)
  rintro e ub1 ⟨vv, rfl, ho, hb⟩
  obtain ⟨up1, uc1, rfl⟩ := own_spans ho.2
  have uO1 := Lib.hid ho
  have uB1 := Lib.hid hb
  have uX1 := Lib.hid (Below.step uX0.out hb)
  have uz1 := hb.size
  clear ho hb
  go_wp2_with fail
  go_at_call 8
  (with_reducible refine (HW2.out _ uX1.out).mono ?_)
  rintro e ub2 ⟨vv, rfl, ho, hb⟩
  obtain ⟨up2, uc2, rfl⟩ := own_spans ho.2
  have uO2 := Lib.hid ho
  have uB2 := Lib.hid hb
  have uX2 := Lib.hid (Below.step uX1.out hb)
  have uz2 := hb.size
  clear ho hb
  go_wp2_with fail
  go_at_call 9
  (with_reducible refine (HW3.out _ uX2.out).mono ?_)
  rintro e ub3 ⟨vv, rfl, ho, hb⟩
  obtain ⟨up3, uc3, rfl⟩ := own_spans ho.2
  have uO3 := Lib.hid ho
  have uB3 := Lib.hid hb
  have uX3 := Lib.hid (Below.step uX2.out hb)
  have uz3 := hb.size
  clear ho hb
  go_wp2_with fail
  go_at_call 10
  (with_reducible refine (HW4.out _ uX3.out).mono ?_)
  rintro e ub4 ⟨vv, rfl, ho, hb⟩
  obtain ⟨up4, uc4, rfl⟩ := own_spans ho.2
  have uO4 := Lib.hid ho
  have uB4 := Lib.hid hb
  have uX4 := Lib.hid (Below.step uX3.out hb)
  have uz4 := hb.size
  clear ho hb
  go_wp2_with fail
  obtain ⟨W8, hW8⟩ : ∃ W8, ub4.alloc (.cells #[Value.slice up0 (Cn (TT l m most 0)).length uc0, Value.slice up1 (Cn (TT l m most 1)).length uc1, Value.slice up2 (Cn (TT l m most 2)).length uc2, Value.slice up3 (Cn (TT l m most 3)).length uc3, Value.slice up4 (Cn (TT l m most 4)).length uc4] 22) = W8 := ⟨_, rfl⟩
  have hCW8 : W8.heap[ub4.heap.size]? = some (.cells #[Value.slice up0 (Cn (TT l m most 0)).length uc0, Value.slice up1 (Cn (TT l m most 1)).length uc1, Value.slice up2 (Cn (TT l m most 2)).length uc2, Value.slice up3 (Cn (TT l m most 3)).length uc3, Value.slice up4 (Cn (TT l m most 4)).length uc4] 22 (0, 0)) := by rw [← hW8]; exact heap_alloc_new ub4 _
  have hBW8 : Below ub4.heap.size ub4 W8 := by rw [← hW8]; exact (Below.refl _ _).alloc (Nat.le_refl _) _
  rw [hW8]
  clear hW8
  have hr0 : Rd W8 (.slice up0 (Cn (TT l m most 0)).length uc0) (Cn (TT l m most 0)) := (((((uO0.out.rd.below uB1.out).below uB2.out).below uB3.out).below uB4.out)).below hBW8
  have hr1 : Rd W8 (.slice up1 (Cn (TT l m most 1)).length uc1) (Cn (TT l m most 1)) := ((((uO1.out.rd.below uB2.out).below uB3.out).below uB4.out)).below hBW8
  have hr2 : Rd W8 (.slice up2 (Cn (TT l m most 2)).length uc2) (Cn (TT l m most 2)) := (((uO2.out.rd.below uB3.out).below uB4.out)).below hBW8
  have hr3 : Rd W8 (.slice up3 (Cn (TT l m most 3)).length uc3) (Cn (TT l m most 3)) := ((uO3.out.rd.below uB4.out)).below hBW8
  have hr4 : Rd W8 (.slice up4 (Cn (TT l m most 4)).length uc4) (Cn (TT l m most 4)) := (uO4.out.rd).below hBW8
  have HuR := Lib.hid (five_rd (T := fun i => Cn (TT l m most i)) hr0 hr1 hr2 hr3 hr4)
  clear hr0 hr1 hr2 hr3 hr4
  have HQ0 : Hid (∀ W, Below w3.heap.size w3 W → Calls Try.prog 11 #[.slice (some ⟨g, 0, none⟩) l.length cap] W (NewSet (TT l m most 0) W)) := Lib.hid fun W hB => form_is l _ W (HRI.out.below hB) (by omega)
  have HQ1 : Hid (∀ W, Below w3.heap.size w3 W → Calls Try.prog 12 #[.slice (some ⟨g, 0, none⟩) l.length cap, .slice po m.length co] W (NewSet (TT l m most 1) W)) := Lib.hid fun W hB => or_is l m _ _ W (HRI.out.below hB) (HRO.out.below hB) (by omega) (by omega)
  have HQ2 : Hid (∀ W, Below w3.heap.size w3 W → Calls Try.prog 13 #[.slice (some ⟨g, 0, none⟩) l.length cap, .slice po m.length co] W (NewSet (TT l m most 2) W)) := Lib.hid fun W hB => and_is l m _ _ W (HRI.out.below hB) (HRO.out.below hB) (by omega) (by omega)
  have HQ3 : Hid (∀ W, Below w3.heap.size w3 W → Calls Try.prog 14 #[.slice (some ⟨g, 0, none⟩) l.length cap, .slice po m.length co] W (NewSet (TT l m most 3) W)) := Lib.hid fun W hB => less_is l m _ _ W (HRI.out.below hB) (HRO.out.below hB) (by omega) (by omega)
  have HQ4 : Hid (∀ W, Below w3.heap.size w3 W → Calls Try.prog 15 #[.slice (some ⟨g, 0, none⟩) l.length cap, .int .u32 mi] W (NewSet (TT l m most 4) W)) := Lib.hid fun W hB => by rw [HMI.out]; exact not_is l _ most W (HRI.out.below hB) HMT.out (by omega)
  have hz8 : ub4.heap.size < W8.heap.size := (Array.getElem?_eq_some_iff.1 hCW8).1
  have hb38 : Below w3.heap.size w3 W8 := Below.step (Below.step (Below.step (Below.step (Below.step (Below.step (Below.refl _ _) uB0.out) uB1.out) uB2.out) uB3.out) uB4.out) hBW8
  have HB38 := Lib.hid hb38; have HC8 := Lib.hid hCW8
  have HX8 := Lib.hid (HBW3.out.trans (hb38.mono HBW3.out.size))
  have hz38 := hb38.size
  clear hb38 hCW8 hBW8
  obtain ⟨gw, hgw⟩ : ∃ gw, ub4.heap.size = gw := ⟨_, rfl⟩
  rw [hgw] at HC8 hz8 ⊢
  clear uO0 uO1 uO2 uO3 uO4 uB0 uB1 uB2 uB3 uB4 uX0 uX1 uX2 uX3 uX4
  refine wp_loop_rounds 3 ?_
  rw [rounds_succ]
  go_wp2_with fail
  go_at_call 11
  (with_reducible refine (HQ0.out _ HB38.out).mono ?_)
  rintro e yb0 ⟨vv, rfl, ho, hb⟩
  obtain ⟨yp0, yc0, rfl⟩ := own_spans ho.2
  have yO0 := Lib.hid ho
  have yB0 := Lib.hid hb
  have yX0 := Lib.hid (Below.step HB38.out hb)
  have yz0 := hb.size
  clear ho hb
  go_wp2_with fail
  go_at_call 12
  (with_reducible refine (HQ1.out _ yX0.out).mono ?_)
  rintro e yb1 ⟨vv, rfl, ho, hb⟩
  obtain ⟨yp1, yc1, rfl⟩ := own_spans ho.2
  have yO1 := Lib.hid ho
  have yB1 := Lib.hid hb
  have yX1 := Lib.hid (Below.step yX0.out hb)
  have yz1 := hb.size
  clear ho hb
  go_wp2_with fail
  go_at_call 13
  (with_reducible refine (HQ2.out _ yX1.out).mono ?_)
  rintro e yb2 ⟨vv, rfl, ho, hb⟩
  obtain ⟨yp2, yc2, rfl⟩ := own_spans ho.2
  have yO2 := Lib.hid ho
  have yB2 := Lib.hid hb
  have yX2 := Lib.hid (Below.step yX1.out hb)
  have yz2 := hb.size
  clear ho hb
  go_wp2_with fail
  go_at_call 14
  (with_reducible refine (HQ3.out _ yX2.out).mono ?_)
  rintro e yb3 ⟨vv, rfl, ho, hb⟩
  obtain ⟨yp3, yc3, rfl⟩ := own_spans ho.2
  have yO3 := Lib.hid ho
  have yB3 := Lib.hid hb
  have yX3 := Lib.hid (Below.step yX2.out hb)
  have yz3 := hb.size
  clear ho hb
  go_wp2_with fail
  go_at_call 15
  (with_reducible refine (HQ4.out _ yX3.out).mono ?_)
  rintro e yb4 ⟨vv, rfl, ho, hb⟩
  obtain ⟨yp4, yc4, rfl⟩ := own_spans ho.2
  have yO4 := Lib.hid ho
  have yB4 := Lib.hid hb
  have yX4 := Lib.hid (Below.step yX3.out hb)
  have yz4 := hb.size
  clear ho hb
  go_wp2_with fail
  obtain ⟨W13, hW13⟩ : ∃ W13, yb4.alloc (.cells #[Value.slice yp0 (Cn (TT l m most 0)).length yc0, Value.slice yp1 (Cn (TT l m most 1)).length yc1, Value.slice yp2 (Cn (TT l m most 2)).length yc2, Value.slice yp3 (Cn (TT l m most 3)).length yc3, Value.slice yp4 (Cn (TT l m most 4)).length yc4] 22) = W13 := ⟨_, rfl⟩
  have hCW13 : W13.heap[yb4.heap.size]? = some (.cells #[Value.slice yp0 (Cn (TT l m most 0)).length yc0, Value.slice yp1 (Cn (TT l m most 1)).length yc1, Value.slice yp2 (Cn (TT l m most 2)).length yc2, Value.slice yp3 (Cn (TT l m most 3)).length yc3, Value.slice yp4 (Cn (TT l m most 4)).length yc4] 22 (0, 0)) := by rw [← hW13]; exact heap_alloc_new yb4 _
  have hBW13 : Below yb4.heap.size yb4 W13 := by rw [← hW13]; exact (Below.refl _ _).alloc (Nat.le_refl _) _
  rw [hW13]
  clear hW13
  have hr0 : Rd W13 (.slice yp0 (Cn (TT l m most 0)).length yc0) (Cn (TT l m most 0)) := (((((yO0.out.rd.below yB1.out).below yB2.out).below yB3.out).below yB4.out)).below hBW13
  have hr1 : Rd W13 (.slice yp1 (Cn (TT l m most 1)).length yc1) (Cn (TT l m most 1)) := ((((yO1.out.rd.below yB2.out).below yB3.out).below yB4.out)).below hBW13
  have hr2 : Rd W13 (.slice yp2 (Cn (TT l m most 2)).length yc2) (Cn (TT l m most 2)) := (((yO2.out.rd.below yB3.out).below yB4.out)).below hBW13
  have hr3 : Rd W13 (.slice yp3 (Cn (TT l m most 3)).length yc3) (Cn (TT l m most 3)) := ((yO3.out.rd.below yB4.out)).below hBW13
  have hr4 : Rd W13 (.slice yp4 (Cn (TT l m most 4)).length yc4) (Cn (TT l m most 4)) := (yO4.out.rd).below hBW13
  have HyR := Lib.hid (five_rd (T := fun i => Cn (TT l m most i)) hr0 hr1 hr2 hr3 hr4)
  clear hr0 hr1 hr2 hr3 hr4
  have hz13 : yb4.heap.size < W13.heap.size := (Array.getElem?_eq_some_iff.1 hCW13).1
  have hb813 : Below W8.heap.size W8 W13 := Below.step (Below.step (Below.step (Below.step (Below.step (Below.step (Below.refl _ _) yB0.out) yB1.out) yB2.out) yB3.out) yB4.out) hBW13
  have HB813 := Lib.hid hb813; have HC13 := Lib.hid hCW13
  have HUR13 : Hid (∀ (i : Nat) (v : Value), [Value.slice up0 (Cn (TT l m most 0)).length uc0, Value.slice up1 (Cn (TT l m most 1)).length uc1, Value.slice up2 (Cn (TT l m most 2)).length uc2, Value.slice up3 (Cn (TT l m most 3)).length uc3, Value.slice up4 (Cn (TT l m most 4)).length uc4][i]? = some v → Rd W13 v (Cn (TT l m most i))) := Lib.hid fun i v h => (HuR.out i v h).below HB813.out
  have HC8b := Lib.hid ((hb813.block gw hz8).trans HC8.out)
  have hz813 := hb813.size
  clear hb813 hCW13 hBW13
  obtain ⟨gy, hgy⟩ : ∃ gy, yb4.heap.size = gy := ⟨_, rfl⟩
  rw [hgy] at HC13 hz13 ⊢
  clear yO0 yO1 yO2 yO3 yO4 yB0 yB1 yB2 yB3 yB4 yX0 yX1 yX2 yX3 yX4
  go_loopw [13, 16] (fun s13 s16 wr => ∃ (i : Nat) (kp : Option Addr) (kc : Nat), i ≤ 5 ∧ s16 = .int .i64 i ∧ s13 = .slice kp i kc ∧ wr.ownsRow W13.heap.size 22 1 (.slice kp i kc) i ([Value.slice yp0 (Cn (TT l m most 0)).length yc0, Value.slice yp1 (Cn (TT l m most 1)).length yc1, Value.slice yp2 (Cn (TT l m most 2)).length yc2, Value.slice yp3 (Cn (TT l m most 3)).length yc3, Value.slice yp4 (Cn (TT l m most 4)).length yc4].take i) ∧ Below W13.heap.size W13 wr) (fun _ s16 _ => 5 - (intOf s16).toNat)
  case atStart => exact ⟨0, none, 0, by omega, rfl, rfl, World.ownsRow_nil _ _ _ _, Below.refl _ _⟩
  case round =>
    obtain ⟨i, kp, kc, hi, rfl, rfl, hko, hbr⟩ := hrel
    have HKO := Lib.hid hko; have HBR := Lib.hid hbr
    have hzr := hbr.size
    clear hko hbr
    by_cases hlt : i < 5
    · obtain ⟨il, hil, hl0, hl1, hl2⟩ := info_parts infoSl
      obtain ⟨yv, hyv⟩ : ∃ v, [Value.slice yp0 (Cn (TT l m most 0)).length yc0, Value.slice yp1 (Cn (TT l m most 1)).length yc1, Value.slice yp2 (Cn (TT l m most 2)).length yc2, Value.slice yp3 (Cn (TT l m most 3)).length yc3, Value.slice yp4 (Cn (TT l m most 4)).length yc4][i]? = some v := ⟨_, List.getElem?_eq_getElem (by simpa using hlt)⟩
      obtain ⟨uv, huv⟩ : ∃ v, [Value.slice up0 (Cn (TT l m most 0)).length uc0, Value.slice up1 (Cn (TT l m most 1)).length uc1, Value.slice up2 (Cn (TT l m most 2)).length uc2, Value.slice up3 (Cn (TT l m most 3)).length uc3, Value.slice up4 (Cn (TT l m most 4)).length uc4][i]? = some v := ⟨_, List.getElem?_eq_getElem (by simpa using hlt)⟩
      have hry := HyR.out i yv hyv
      have hru := HUR13.out i uv huv
      obtain ⟨p2, c2, rfl⟩ := rd_form hry
      obtain ⟨p3, c3, rfl⟩ := rd_form hru
      obtain ⟨tl, htl⟩ : ∃ tl, Cn (TT l m most i) = tl := ⟨_, rfl⟩
      have hn : tl.length ≤ 1000 := htl ▸ HTL.out i
      rw [htl] at hry hru hyv huv
      have hgy5 : gy < wr.heap.size := by omega
      have hgw5 : gw < wr.heap.size := by omega
      have ca : wr.cell? ⟨gy, i, none⟩ = some (.slice p2 tl.length c2) := by rw [cell_of_heap ((HBR.out.block gy hz13).trans HC13.out)]; simpa using hyv
      have cb : wr.cell? ⟨gw, i, none⟩ = some (.slice p3 tl.length c3) := by rw [cell_of_heap ((HBR.out.block gw (by omega)).trans HC8b.out)]; simpa using huv
      have hsp : ∀ W, Below W13.heap.size W13 W → Calls Try.prog 16 #[.slice p2 tl.length c2, .slice p3 tl.length c3] W fun e w' => e = .returned (.bool true) ∧ Below W.heap.size W w' := fun W hB => by
        have := spans_is tl tl _ _ W (hry.below hB) (hru.below hB) (by omega) (by omega)
        simpa using this
      have HSP := Lib.hid hsp; have HYV := Lib.hid hyv; have HCA := Lib.hid ca
      have e1 : (0 : Int) ≤ (i : Int) := by omega
      have e2 : (i : Int) < (5 : Int) := by omega
      clear hsp hyv huv hry hru htl
      go_wp2_with fail
      refine wp_region_grows (by kernel_rfl) (by kernel_rfl) ?_
      refine grows_fact _ _ _ ca hgy5 fun z0 => ?_
      refine grows_fact _ _ _ cb hgw5 fun z1 => ?_
      clear ca cb
      repeat (go_big_quiet_step ((first | (go_at_call 16; with_reducible exact Calls.grows_of (HSP.out _ (Below.step HBR.out (Grows.below _)))))))
      refine wpQuiet_nil ?_
      rintro wz ⟨⟨_, hbz⟩, rfl⟩
      clear z0 z1
      have HBZ := Lib.hid (Below.step HBR.out hbz)
      have hko2 : wz.ownsRow W13.heap.size 22 1 (.slice kp i kc) i ([Value.slice yp0 (Cn (TT l m most 0)).length yc0, Value.slice yp1 (Cn (TT l m most 1)).length yc1, Value.slice yp2 (Cn (TT l m most 2)).length yc2, Value.slice yp3 (Cn (TT l m most 3)).length yc3, Value.slice yp4 (Cn (TT l m most 4)).length yc4].take i) := ownsRow_of HKO.out (fun b _ _ hb => hbz.block b hb)
      have ca : wz.cell? ⟨gy, i, none⟩ = some (.slice p2 tl.length c2) := (hbz.cell (p := ⟨gy, i, none⟩) hgy5).trans HCA.out
      have hzz := hbz.size
      clear hbz
      go_wp2_with (at_builtin; refine wpList_append_lies _ rfl _ _ 31 rfl W13.heap.size 22 il (.slice none 0 0) 1 24 Try.underlying31 hil hl0 hl1 hl2 rfl (by decide) _ i _ rfl (World.ownsRow.alloc hko2 _) ⟨wz.heap.size, 0, none⟩ 1 1 [.slice p2 tl.length c2] rfl rfl (cell_one_new _ _ _) (fun x hx => by simp at hx; subst hx; rfl) (by omega) (by unfold maxLen; omega) (by omega) (by simp; omega) _ rfl ?_; intro gn capn w5 hown5 hgrow5 hlies5 hlt5)
      go_roundw
      case rel =>
        refine ⟨i + 1, some ⟨gn, 0, none⟩, capn, by omega, by go_num, rfl, ?_, ?_⟩
        · rw [List.take_add_one, HYV.out]; exact hown5
        · refine Below.grown (Below.alloc HBZ.out (by omega) _) hgrow5 (by simp; omega) (fun k hk => ?_)
          have := hko2.lt k hk
          omega
      case measure => simp [intOf]; omega
    · obtain rfl : i = 5 := by omega
      have hko := HKO.out
      obtain ⟨kb, kc2, hsl, hkb1, hkb2⟩ := hko.form (by omega)
      obtain ⟨rfl, rfl⟩ : kp = some ⟨kb, 0, none⟩ ∧ kc = kc2 := by simpa using hsl
      have hkc : ∀ (j : Nat) (v : Value), [Value.slice yp0 (Cn (TT l m most 0)).length yc0, Value.slice yp1 (Cn (TT l m most 1)).length yc1, Value.slice yp2 (Cn (TT l m most 2)).length yc2, Value.slice yp3 (Cn (TT l m most 3)).length yc3, Value.slice yp4 (Cn (TT l m most 4)).length yc4][j]? = some v → j < 5 → wr.cell? ⟨kb, j, none⟩ = some v := fun j v hv hj => by rw [hko.cellAt j (by omega)]; simpa using hv
      have HKC := Lib.hid hkc
      have HB3R := Lib.hid (Below.step (Below.step HB38.out HB813.out) HBR.out)
      clear hsl hko hkc hlt
      obtain ⟨wk, rfl⟩ : ∃ wk : World, wk = wr := ⟨_, rfl⟩
      go_wp2_with fail
      rw [rounds_succ]
      go_wp2_with fail
      go_at_call 11
      (with_reducible refine (HQ0.out _ HB3R.out).mono ?_)
      rintro e zb0 ⟨vv, rfl, ho, hb⟩
      obtain ⟨zp0, zc0, rfl⟩ := own_spans ho.2
      have zO0 := Lib.hid ho
      have zB0 := Lib.hid hb
      have zX0 := Lib.hid (Below.step HB3R.out hb)
      have zz0 := hb.size
      clear ho hb
      go_wp2_with fail
      go_at_call 12
      (with_reducible refine (HQ1.out _ zX0.out).mono ?_)
      rintro e zb1 ⟨vv, rfl, ho, hb⟩
      obtain ⟨zp1, zc1, rfl⟩ := own_spans ho.2
      have zO1 := Lib.hid ho
      have zB1 := Lib.hid hb
      have zX1 := Lib.hid (Below.step zX0.out hb)
      have zz1 := hb.size
      clear ho hb
      go_wp2_with fail
      go_at_call 13
      (with_reducible refine (HQ2.out _ zX1.out).mono ?_)
      rintro e zb2 ⟨vv, rfl, ho, hb⟩
      obtain ⟨zp2, zc2, rfl⟩ := own_spans ho.2
      have zO2 := Lib.hid ho
      have zB2 := Lib.hid hb
      have zX2 := Lib.hid (Below.step zX1.out hb)
      have zz2 := hb.size
      clear ho hb
      go_wp2_with fail
      go_at_call 14
      (with_reducible refine (HQ3.out _ zX2.out).mono ?_)
      rintro e zb3 ⟨vv, rfl, ho, hb⟩
      obtain ⟨zp3, zc3, rfl⟩ := own_spans ho.2
      have zO3 := Lib.hid ho
      have zB3 := Lib.hid hb
      have zX3 := Lib.hid (Below.step zX2.out hb)
      have zz3 := hb.size
      clear ho hb
      go_wp2_with fail
      go_at_call 15
      (with_reducible refine (HQ4.out _ zX3.out).mono ?_)
      rintro e zb4 ⟨vv, rfl, ho, hb⟩
      obtain ⟨zp4, zc4, rfl⟩ := own_spans ho.2
      have zO4 := Lib.hid ho
      have zB4 := Lib.hid hb
      have zX4 := Lib.hid (Below.step zX3.out hb)
      have zz4 := hb.size
      clear ho hb
      go_wp2_with fail
      obtain ⟨Wg, hWg⟩ : ∃ Wg, zb4.alloc (.cells #[Value.slice zp0 (Cn (TT l m most 0)).length zc0, Value.slice zp1 (Cn (TT l m most 1)).length zc1, Value.slice zp2 (Cn (TT l m most 2)).length zc2, Value.slice zp3 (Cn (TT l m most 3)).length zc3, Value.slice zp4 (Cn (TT l m most 4)).length zc4] 22) = Wg := ⟨_, rfl⟩
      have hCWg : Wg.heap[zb4.heap.size]? = some (.cells #[Value.slice zp0 (Cn (TT l m most 0)).length zc0, Value.slice zp1 (Cn (TT l m most 1)).length zc1, Value.slice zp2 (Cn (TT l m most 2)).length zc2, Value.slice zp3 (Cn (TT l m most 3)).length zc3, Value.slice zp4 (Cn (TT l m most 4)).length zc4] 22 (0, 0)) := by rw [← hWg]; exact heap_alloc_new zb4 _
      have hBWg : Below zb4.heap.size zb4 Wg := by rw [← hWg]; exact (Below.refl _ _).alloc (Nat.le_refl _) _
      rw [hWg]
      clear hWg
      have ho0 : Own wk.heap.size Wg (.slice zp0 (Cn (TT l m most 0)).length zc0) (Cn (TT l m most 0)) := ((((((zO0.out.below zB1.out).below zB2.out).below zB3.out).below zB4.out)).below hBWg).base (by omega)
      have hq0 : ∀ x, (Value.slice zp0 (Cn (TT l m most 0)).length zc0).ownBlock = some x → wk.heap.size ≤ x ∧ x < zb0.heap.size := fun x hx => zO0.out.2.lt x hx
      have ho1 : Own wk.heap.size Wg (.slice zp1 (Cn (TT l m most 1)).length zc1) (Cn (TT l m most 1)) := (((((zO1.out.below zB2.out).below zB3.out).below zB4.out)).below hBWg).base (by omega)
      have hq1 : ∀ x, (Value.slice zp1 (Cn (TT l m most 1)).length zc1).ownBlock = some x → zb0.heap.size ≤ x ∧ x < zb1.heap.size := fun x hx => zO1.out.2.lt x hx
      have ho2 : Own wk.heap.size Wg (.slice zp2 (Cn (TT l m most 2)).length zc2) (Cn (TT l m most 2)) := ((((zO2.out.below zB3.out).below zB4.out)).below hBWg).base (by omega)
      have hq2 : ∀ x, (Value.slice zp2 (Cn (TT l m most 2)).length zc2).ownBlock = some x → zb1.heap.size ≤ x ∧ x < zb2.heap.size := fun x hx => zO2.out.2.lt x hx
      have ho3 : Own wk.heap.size Wg (.slice zp3 (Cn (TT l m most 3)).length zc3) (Cn (TT l m most 3)) := (((zO3.out.below zB4.out)).below hBWg).base (by omega)
      have hq3 : ∀ x, (Value.slice zp3 (Cn (TT l m most 3)).length zc3).ownBlock = some x → zb2.heap.size ≤ x ∧ x < zb3.heap.size := fun x hx => zO3.out.2.lt x hx
      have ho4 : Own wk.heap.size Wg (.slice zp4 (Cn (TT l m most 4)).length zc4) (Cn (TT l m most 4)) := ((zO4.out).below hBWg).base (by omega)
      have hq4 : ∀ x, (Value.slice zp4 (Cn (TT l m most 4)).length zc4).ownBlock = some x → zb3.heap.size ≤ x ∧ x < zb4.heap.size := fun x hx => zO4.out.2.lt x hx
      have HZO : Hid (∀ (j : Nat) (v : Value), [Value.slice zp0 (Cn (TT l m most 0)).length zc0, Value.slice zp1 (Cn (TT l m most 1)).length zc1, Value.slice zp2 (Cn (TT l m most 2)).length zc2, Value.slice zp3 (Cn (TT l m most 3)).length zc3, Value.slice zp4 (Cn (TT l m most 4)).length zc4][j]? = some v → Own wk.heap.size Wg v (Cn (TT l m most j))) := Lib.hid (five_all (P := fun j v => Own wk.heap.size Wg v (Cn (TT l m most j))) ho0 ho1 ho2 ho3 ho4)
      have hap := five_apart hq0 hq1 hq2 hq3 hq4 zz0 zz1 zz2 zz3 zz4
      have HAP := Lib.hid hap.1
      have hzg : zb4.heap.size < Wg.heap.size := (Array.getElem?_eq_some_iff.1 hCWg).1
      have hbkg : Below wk.heap.size wk Wg := Below.step (Below.step (Below.step (Below.step (Below.step (Below.step (Below.refl _ _) zB0.out) zB1.out) zB2.out) zB3.out) zB4.out) hBWg
      have hkg := hbkg.size
      have HCG := Lib.hid hCWg; have HBKG := Lib.hid hbkg
      have hG : ∀ (j : Nat) (v : Value) (b : Nat), [Value.slice zp0 (Cn (TT l m most 0)).length zc0, Value.slice zp1 (Cn (TT l m most 1)).length zc1, Value.slice zp2 (Cn (TT l m most 2)).length zc2, Value.slice zp3 (Cn (TT l m most 3)).length zc3, Value.slice zp4 (Cn (TT l m most 4)).length zc4][j]? = some v → v.ownBlock = some b → b < zb4.heap.size := fun j v b h1 h2 => (hap.2 j v b h1 h2).2
      have hG0 : ∀ (j : Nat) (v : Value) (b : Nat), [Value.slice zp0 (Cn (TT l m most 0)).length zc0, Value.slice zp1 (Cn (TT l m most 1)).length zc1, Value.slice zp2 (Cn (TT l m most 2)).length zc2, Value.slice zp3 (Cn (TT l m most 3)).length zc3, Value.slice zp4 (Cn (TT l m most 4)).length zc4][j]? = some v → v.ownBlock = some b → wk.heap.size ≤ b := fun j v b h1 h2 => (hap.2 j v b h1 h2).1
      have hgs : wk.heap.size ≤ zb4.heap.size := by omega
      have HGL := Lib.hid hG; have HG0 := Lib.hid hG0
      clear hap hG hG0 ho0 ho1 ho2 ho3 ho4 hq0 hq1 hq2 hq3 hq4 hCWg hbkg hBWg zO0 zO1 zO2 zO3 zO4 zB0 zB1 zB2 zB3 zB4 zX0 zX1 zX2 zX3 zX4
      obtain ⟨gg, hgg⟩ : ∃ gg, zb4.heap.size = gg := ⟨_, rfl⟩
      rw [hgg] at HCG HGL hzg hgs ⊢
      clear hgg zz0 zz1 zz2 zz3 zz4
      go_loopw [13, 16] (fun s13 s16 wr => ∃ (i : Nat) (cur : Array Value), i ≤ 5 ∧ s16 = .int .i64 i ∧ s13 = .slice (some ⟨kb, 0, none⟩) 5 kc ∧ Stay wk Wg wk.heap.size gg [Value.slice zp0 (Cn (TT l m most 0)).length zc0, Value.slice zp1 (Cn (TT l m most 1)).length zc1, Value.slice zp2 (Cn (TT l m most 2)).length zc2, Value.slice zp3 (Cn (TT l m most 3)).length zc3, Value.slice zp4 (Cn (TT l m most 4)).length zc4] i cur wr ∧ Hid (∀ j, i ≤ j → cur[j]? = [Value.slice zp0 (Cn (TT l m most 0)).length zc0, Value.slice zp1 (Cn (TT l m most 1)).length zc1, Value.slice zp2 (Cn (TT l m most 2)).length zc2, Value.slice zp3 (Cn (TT l m most 3)).length zc3, Value.slice zp4 (Cn (TT l m most 4)).length zc4][j]?) ∧ cur.size = 5) (fun _ s16 _ => 5 - (intOf s16).toNat)
      case atStart => exact ⟨0, _, by omega, rfl, rfl, ⟨HBKG.out, Nat.le_refl _, HCG.out, fun _ _ _ _ _ _ => rfl⟩, Lib.hid (fun j _ => by simp), rfl⟩
      case round =>
        obtain ⟨i, cur, hi, rfl, rfl, hst, HCU, hcs⟩ := hrel
        have HST := Lib.hid hst
        have hzw := hst.size
        by_cases hlt : i < 5
        · obtain ⟨yv, hyv⟩ : ∃ v, [Value.slice zp0 (Cn (TT l m most 0)).length zc0, Value.slice zp1 (Cn (TT l m most 1)).length zc1, Value.slice zp2 (Cn (TT l m most 2)).length zc2, Value.slice zp3 (Cn (TT l m most 3)).length zc3, Value.slice zp4 (Cn (TT l m most 4)).length zc4][i]? = some v := ⟨_, List.getElem?_eq_getElem (by simpa using hlt)⟩
          obtain ⟨uv, huv⟩ : ∃ v, [Value.slice up0 (Cn (TT l m most 0)).length uc0, Value.slice up1 (Cn (TT l m most 1)).length uc1, Value.slice up2 (Cn (TT l m most 2)).length uc2, Value.slice up3 (Cn (TT l m most 3)).length uc3, Value.slice up4 (Cn (TT l m most 4)).length uc4][i]? = some v := ⟨_, List.getElem?_eq_getElem (by simpa using hlt)⟩
          obtain ⟨kv, hkv⟩ : ∃ v, [Value.slice yp0 (Cn (TT l m most 0)).length yc0, Value.slice yp1 (Cn (TT l m most 1)).length yc1, Value.slice yp2 (Cn (TT l m most 2)).length yc2, Value.slice yp3 (Cn (TT l m most 3)).length yc3, Value.slice yp4 (Cn (TT l m most 4)).length yc4][i]? = some v := ⟨_, List.getElem?_eq_getElem (by simpa using hlt)⟩
          have hry := HZO.out i yv hyv
          have hru := (HUR13.out i uv huv).below HBR.out
          have hrk := (HyR.out i kv hkv).below HBR.out
          have hkcell := HKC.out i kv hkv hlt
          have hcu := HCU.out i (Nat.le_refl _)
          rw [hyv] at hcu
          have hfree : ∀ b, yv.ownBlock = some b → Free wk.heap.size gg [Value.slice zp0 (Cn (TT l m most 0)).length zc0, Value.slice zp1 (Cn (TT l m most 1)).length zc1, Value.slice zp2 (Cn (TT l m most 2)).length zc2, Value.slice zp3 (Cn (TT l m most 3)).length zc3, Value.slice zp4 (Cn (TT l m most 4)).length zc4] (i + 1) b := fun b hb => ⟨HG0.out i yv b hyv hb, by have := HGL.out i yv b hyv hb; omega, fun j v hj hv => HAP.out i j yv v b (by omega) hyv hv hb⟩
          have hryr : Own wk.heap.size wr yv (Cn (TT l m most i)) := ⟨hry.1, ownsRow_of hry.2 (fun b hb _ _ => hst.oth i yv b (Nat.le_refl _) hyv hb)⟩
          obtain ⟨p2, c2, rfl⟩ := own_spans hryr.2
          obtain ⟨p3, c3, rfl⟩ := rd_form hru
          obtain ⟨p4, c4, rfl⟩ := rd_form hrk
          obtain ⟨tl, htl⟩ : ∃ tl, Cn (TT l m most i) = tl := ⟨_, rfl⟩
          have hn : tl.length ≤ 1000 := htl ▸ HTL.out i
          rw [htl] at hryr hru hrk hyv huv hkv hfree hcu hkcell
          have hkz : wk.heap.size ≤ wr.heap.size := hst.below.size
          have hgg5 : gg < wr.heap.size := by omega
          have hgwk : gw < wk.heap.size := by omega
          have hgw5 : gw < wr.heap.size := by omega
          have hkb5 : kb < wr.heap.size := by omega
          have hcb0 : wk.cell? ⟨gw, i, none⟩ = some (.slice p3 tl.length c3) := by rw [cell_of_heap ((HBR.out.block gw (by omega)).trans HC8b.out)]; simpa using huv
          have HCB0 := Lib.hid hcb0; have HKCELL := Lib.hid hkcell
          have ca : wr.cell? ⟨gg, i, none⟩ = some (.slice p2 tl.length c2) := by rw [cell_of_heap hst.got]; exact hcu
          have cb : wr.cell? ⟨gw, i, none⟩ = some (.slice p3 tl.length c3) := (hst.below.cell (p := ⟨gw, i, none⟩) hgwk).trans hcb0
          have hsp : ∀ W, Below wr.heap.size wr W → Calls Try.prog 16 #[.slice p2 tl.length c2, .slice p3 tl.length c3] W fun e w' => e = .returned (.bool true) ∧ Below W.heap.size W w' := fun W hB => by
            have := spans_is tl tl _ _ W (hryr.rd.below hB) ((hru.below hst.below).below hB) (by omega) (by omega)
            simpa using this
          have hspk : ∀ W, Below wk.heap.size wk W → Calls Try.prog 16 #[.slice p4 tl.length c4, .slice p3 tl.length c3] W fun e w' => e = .returned (.bool true) ∧ Below W.heap.size W w' := fun W hB => by
            have := spans_is tl tl _ _ W (hrk.below hB) (hru.below hB) (by omega) (by omega)
            simpa using this
          have HSP := Lib.hid hsp; have HSPK := Lib.hid hspk; have HRY := Lib.hid hryr; have HFR := Lib.hid hfree; have HCUI := Lib.hid hcu; have HYV := Lib.hid hyv
          have e1 : (0 : Int) ≤ (i : Int) := by omega
          have e2 : (i : Int) < (5 : Int) := by omega
          clear hsp hspk hyv huv hkv hry hru hrk hryr htl hfree hcu hcb0 hkcell hst
          go_wp2_with fail
          refine wp_region_grows (by kernel_rfl) (by kernel_rfl) ?_
          refine grows_fact _ _ _ ca hgg5 fun z0 => ?_
          refine grows_fact _ _ _ cb hgw5 fun z1 => ?_
          clear ca cb
          repeat (go_big_quiet_step ((first | (go_at_call 16; with_reducible exact Calls.grows_of (HSP.out _ (Grows.below _))))))
          refine wpQuiet_nil ?_
          rintro wz ⟨⟨_, hbz⟩, rfl⟩
          clear z0 z1
          have hst := (HST.out.step hbz hzg hkg HGL.out).next
          have hrow : wz.ownsRow wk.heap.size 27 2 (.slice p2 tl.length c2) tl.length (flatS tl) := ownsRow_of HRY.out.2 (fun b _ _ hb => hbz.block b hb)
          have HST2 := Lib.hid hst; have HROW := Lib.hid hrow
          clear hst hrow hbz
          go_wp2_with fail
          go_loopw [17] (fun s17 wx => ∃ (k : Nat) (ys : List Value), k ≤ tl.length ∧ s17 = .int .i64 k ∧ Stay wk Wg wk.heap.size gg [Value.slice zp0 (Cn (TT l m most 0)).length zc0, Value.slice zp1 (Cn (TT l m most 1)).length zc1, Value.slice zp2 (Cn (TT l m most 2)).length zc2, Value.slice zp3 (Cn (TT l m most 3)).length zc3, Value.slice zp4 (Cn (TT l m most 4)).length zc4] (i + 1) cur wx ∧ wx.ownsRow wk.heap.size 27 2 (.slice p2 tl.length c2) tl.length ys) (fun s17 _ => tl.length - (intOf s17).toNat)
          case atStart => exact ⟨0, _, Nat.zero_le _, rfl, HST2.out, HROW.out⟩
          case round =>
            obtain ⟨k, ys, hk, rfl, hstx, hrowx⟩ := hrel
            have ca : wr.cell? ⟨gg, i, none⟩ = some (.slice p2 tl.length c2) := by rw [cell_of_heap hstx.got]; exact HCUI.out
            have HSTX := Lib.hid hstx; have HRX := Lib.hid hrowx
            have hzx := hstx.size
            by_cases hkl : k < tl.length
            · obtain ⟨b, c9, hsl, hb0, hb1⟩ := hrowx.form (by omega)
              obtain ⟨rfl, rfl⟩ : p2 = some ⟨b, 0, none⟩ ∧ c2 = c9 := by simpa using hsl
              have hyl : ys.length = tl.length * 2 := hrowx.1
              have hce : wr.cell? ⟨b, k * 2, none⟩ = some (ys[k * 2]'(by omega)) := by rw [hrowx.cellAt (k * 2) (by omega)]; exact List.getElem?_eq_getElem _
              obtain ⟨y, hy⟩ : ∃ y, (ys[k * 2]'(by omega)) = y := ⟨_, rfl⟩
              rw [hy] at hce
              have hfr := hrowx.frozenAt (k * 2)
              have HS1 := Lib.hid (hstx.set (k := k * 2) (.int .u32 99) (HFR.out b rfl))
              have HR1 := Lib.hid (hrowx.stored (k * 2) (.int .u32 99)).1
              have e3 : (0 : Int) ≤ (k : Int) := by omega
              have e4 : (k : Int) < (tl.length : Int) := by omega
              clear hy hyl hsl hstx hrowx
              go_wp2_with fail
              go_roundw
              case rel => exact ⟨k + 1, _, by omega, by go_num, HS1.out, HR1.out⟩
              case measure => first | (simp [intOf]; done) | (simp [intOf]; omega)
            · have e4 : ¬ (k : Int) < (tl.length : Int) := by omega
              clear hkl hstx hrowx
              obtain ⟨i0, hi0, hz0, hz1, hz2⟩ := info_parts infoS
              obtain ⟨wo, rfl⟩ : ∃ wo : World, wo = wr := ⟨_, rfl⟩
              go_wp2_with fail
              go_loopw [18] (fun s18 wx => ∃ (j : Nat) (sp : Option Addr) (sc : Nat) (zs : List Value) (cur2 : Array Value), j ≤ 70 ∧ s18 = .int .i64 j ∧ Stay wk Wg wk.heap.size gg [Value.slice zp0 (Cn (TT l m most 0)).length zc0, Value.slice zp1 (Cn (TT l m most 1)).length zc1, Value.slice zp2 (Cn (TT l m most 2)).length zc2, Value.slice zp3 (Cn (TT l m most 3)).length zc3, Value.slice zp4 (Cn (TT l m most 4)).length zc4] (i + 1) cur2 wx ∧ cur2.size = 5 ∧ Hid (cur2[i]? = some (.slice sp (tl.length + j) sc)) ∧ Hid (∀ j', i + 1 ≤ j' → cur2[j']? = [Value.slice zp0 (Cn (TT l m most 0)).length zc0, Value.slice zp1 (Cn (TT l m most 1)).length zc1, Value.slice zp2 (Cn (TT l m most 2)).length zc2, Value.slice zp3 (Cn (TT l m most 3)).length zc3, Value.slice zp4 (Cn (TT l m most 4)).length zc4][j']?) ∧ Hid (wx.ownsRow wk.heap.size 27 2 (.slice sp (tl.length + j) sc) (tl.length + j) zs) ∧ Hid (∀ b, (Value.slice sp (tl.length + j) sc).ownBlock = some b → Free wk.heap.size gg [Value.slice zp0 (Cn (TT l m most 0)).length zc0, Value.slice zp1 (Cn (TT l m most 1)).length zc1, Value.slice zp2 (Cn (TT l m most 2)).length zc2, Value.slice zp3 (Cn (TT l m most 3)).length zc3, Value.slice zp4 (Cn (TT l m most 4)).length zc4] (i + 1) b)) (fun s18 _ => 70 - (intOf s18).toNat)
              case atStart => exact ⟨0, p2, c2, _, cur, by omega, rfl, HSTX.out, hcs, HCUI, Lib.hid (fun j' hj' => HCU.out j' (by omega)), HRX, HFR⟩
              case round =>
                obtain ⟨j, sp, sc, zs, cur2, hj, rfl, hstx, hcs2, HC2, HCR, HOW, HFB⟩ := hrel
                have hgot := hstx.got
                have ca : wr.cell? ⟨gg, i, none⟩ = some (.slice sp (tl.length + j) sc) := by rw [cell_of_heap hgot]; exact HC2.out
                have HSX := Lib.hid hstx
                have hzy := hstx.size
                by_cases hj70 : j < 70
                · clear hstx hgot
                  go_wp2_with (at_builtin; refine wpList_append_lies _ rfl _ _ 22 rfl wk.heap.size 27 i0 (.agg #[.int .u32 0, .int .u32 0]) 2 8 Try.underlying22 hi0 hz0 hz1 hz2 rfl (by decide) _ (tl.length + j) _ rfl (World.ownsRow.alloc HOW.out _) ⟨wr.heap.size, 0, none⟩ 1 1 [.int .u32 0, .int .u32 0] rfl rfl (two_new (by simp) _ _ _) (fun x hx => by simp at hx; rcases hx with rfl | rfl <;> rfl) (by omega) (by unfold maxLen; omega) (by omega) (by simp; omega) _ rfl ?_; intro gn capn w5 hown5 hgrow5 hlies5 hlt5; (have hst5 := (HSX.out.step ((Below.refl _ _).alloc (Nat.le_refl _) (.cells #[.int .u32 0, .int .u32 0] 27)) hzg hkg HGL.out).grown hgrow5 hzg hkg HGL.out HFB.out); (have cg : w5.cell? ⟨gg, i, none⟩ = some (.slice sp (tl.length + j) sc) := by rw [cell_of_heap hst5.got]; exact HC2.out); (have fg : w5.frozen? ⟨gg, i, none⟩ = false := frozen_of_heap hst5.got); (have HS5 := Lib.hid hst5); (have HO5 := Lib.hid hown5); (have HL5 := Lib.hid hlies5); clear hst5 hown5 hgrow5 hlies5 ca)
                  go_roundw
                  case rel =>
                    refine ⟨j + 1, some ⟨gn, 0, none⟩, capn, zs ++ [.int .u32 0, .int .u32 0], cur2.setIfInBounds i (.slice (some ⟨gn, 0, none⟩) (tl.length + (j + 1)) capn), by omega, by go_num, HS5.out.put i _ hgs HGL.out, by simpa using hcs2, Lib.hid ?_, Lib.hid ?_, Lib.hid ?_, Lib.hid ?_⟩
                    · rw [Array.getElem?_setIfInBounds, if_pos rfl, if_pos (by omega)]
                    · intro j' hj'
                      rw [Array.getElem?_setIfInBounds, if_neg (by omega)]
                      exact HCR.out j' hj'
                    · have hfg : gn ≠ gg := by
                        rcases HL5.out with h | h
                        · exact (HFB.out gn h).2.1
                        · simp at h; omega
                      exact ownsRow_of (show w5.ownsRow _ _ _ (.slice (some ⟨gn, 0, none⟩) (tl.length + (j + 1)) capn) _ _ from HO5.out) (fun b hb _ _ => Below.heap_setCell _ _ _ _ (by
                        have hb : gn = b := by simpa [Value.ownBlock] using hb
                        show b ≠ gg; omega))
                    · intro b hb
                      have hb : gn = b := by simpa [Value.ownBlock] using hb
                      subst hb
                      rcases HL5.out with h | h
                      · exact HFB.out gn h
                      · have h2 : gn = wr.heap.size + 1 := by simpa using h
                        exact ⟨by omega, by omega, fun j v hj hv e => by have := HGL.out j v gn hv e; omega⟩
                  case measure => first | (simp [intOf]; done) | (simp [intOf]; omega)
                · obtain rfl : j = 70 := by omega
                  have hbk := hstx.below
                  have cb : wr.cell? ⟨gw, i, none⟩ = some (.slice p3 tl.length c3) := (hbk.cell (p := ⟨gw, i, none⟩) hgwk).trans HCB0.out
                  have cc : wr.cell? ⟨kb, i, none⟩ = some (.slice p4 tl.length c4) := (hbk.cell (p := ⟨kb, i, none⟩) hkb2).trans HKCELL.out
                  have hgg6 : gg < wr.heap.size := by omega
                  have hgw6 : gw < wr.heap.size := by omega
                  have hkb6 : kb < wr.heap.size := by omega
                  have q0 : IntKind.i64.wrap ((tl.length : Int) + 70) = (tl.length : Int) + 70 := IntWalk.i64_in _ ⟨by omega, by omega⟩
                  have q1 : (((tl.length + 70 : Nat) : Int) != (tl.length : Int) + 70) = false := by simp
                  have q2 : (((tl.length : Int) + 70) != (tl.length : Int) + 70) = false := by simp
                  have HBK := Lib.hid hbk
                  clear hstx hgot hbk hj70
                  go_wp2_with fail
                  refine wp_region_grows (by kernel_rfl) (by kernel_rfl) ?_
                  refine grows_fact _ _ _ ca hgg6 fun z0 => ?_
                  refine grows_fact _ _ _ cb hgw6 fun z1 => ?_
                  refine grows_fact _ _ _ cc hkb6 fun z2 => ?_
                  clear ca cb cc
                  repeat (go_big_quiet_step ((first | (go_at_call 16; with_reducible exact Calls.grows_of (HSPK.out _ (Below.step HBK.out (Grows.below _)))))))
                  refine wpQuiet_nil ?_
                  rintro wz ⟨⟨_, hbz⟩, rfl⟩
                  clear z0 z1 z2
                  have HSE := Lib.hid (HSX.out.step hbz hzg hkg HGL.out)
                  clear hbz
                  go_wp2_with fail
                  go_roundw
                  case rel => exact ⟨i + 1, cur2, by omega, by go_num, rfl, HSE.out, HCR, hcs2⟩
                  case measure => first | (simp [intOf]; done) | (simp [intOf]; omega)
        · obtain rfl : i = 5 := by omega
          go_wp2_with fail
          rw [rounds_succ]
          go_wp2_with fail
          have HBF := Lib.hid (Below.step HB3R.out hst.below)
          have HSPI : Hid (∀ W, Below w3.heap.size w3 W → Calls Try.prog 16 #[.slice (some ⟨g, 0, none⟩) l.length cap, .slice p l.length c] W fun e w' => e = .returned (.bool true) ∧ Below W.heap.size W w') := Lib.hid fun W hB => by
            have := spans_is l l _ _ W (HRI.out.below hB) ((HR.out.below HBW3.out).below hB) (by omega) (by omega)
            simpa using this
          have HSPO : Hid (∀ W, Below w3.heap.size w3 W → Calls Try.prog 16 #[.slice po m.length co, .slice q m.length d] W fun e w' => e = .returned (.bool true) ∧ Below W.heap.size W w') := Lib.hid fun W hB => by
            have := spans_is m m _ _ W (HRO.out.below hB) ((HS.out.below HBW3.out).below hB) (by omega) (by omega)
            simpa using this
          obtain ⟨hx, hhx⟩ : ∃ y, has l x.toNat = y := ⟨_, rfl⟩
          have HHI : Hid (∀ W, Below w3.heap.size w3 W → Calls Try.prog 17 #[.slice (some ⟨g, 0, none⟩) l.length cap, .int .u32 x] W fun e w' => e = .returned (.bool hx) ∧ Below W.heap.size W w') := Lib.hid fun W hB => hhx ▸ has_any l _ x W (HRI.out.below hB) hx0 (by omega)
          have HHR : Hid (∀ W, Below w3.heap.size w3 W → Calls Try.prog 18 #[.slice p l.length c, .int .u32 x] W fun e w' => e = .returned (.bool hx) ∧ W = w') := Lib.hid fun W hB => rhas_is l _ x hx hhx W ((HR.out.below HBW3.out).below hB) hx0 (by omega)
          clear hhx hst
          go_at_call 16
          (with_reducible refine (HSPI.out _ HBF.out).mono ?_)
          rintro e w6 ⟨rfl, hb6⟩
          have hb36 := Below.step HBF.out hb6
          have c7 : w6.cell? ⟨g, l.length * 2, none⟩ = some (.int .u32 7) := (hb36.cell (p := ⟨g, _, none⟩) hg3).trans H7.out
          have HB36 := Lib.hid hb36
          have t1 : (l.length : Int) + 1 ≤ (cap : Int) := by omega
          have t2 : (l.length : Int) < (l.length : Int) + 1 := by omega
          have t3 : (0 : Int) ≤ (l.length : Int) := by omega
          clear hb36 hb6
          go_wp2_with fail
          go_at_call 16
          (with_reducible refine (HSPO.out _ HB36.out).mono ?_)
          rintro e w7 ⟨rfl, hb7⟩
          have HB37 := Lib.hid (Below.step HB36.out hb7)
          clear hb7 c7
          go_wp2_with fail
          go_at_call 17
          (with_reducible refine (HHI.out _ HB37.out).mono ?_)
          rintro e w8 ⟨rfl, hb8⟩
          have HB38b := Lib.hid (Below.step HB37.out hb8)
          clear hb8
          go_wp2_with fail
          go_at_call 18
          (with_reducible refine (HHR.out _ HB38b.out).mono ?_)
          rintro e w9 ⟨rfl, rfl⟩
          have hee : (hx == hx) = true := by simp
          go_wp2_with fail
          go_ret
          exact ⟨by simp, HBW3.out.trans (HB38b.out.mono HBW3.out.size)⟩
end Go.Proofs.Ytkgahpkkojnolaa
