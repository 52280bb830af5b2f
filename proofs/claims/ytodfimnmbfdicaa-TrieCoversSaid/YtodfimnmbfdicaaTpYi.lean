/- What trie.node.without leaves of a tree of prefixes. Under the conditions that it names. -/
import Derived.Test.YtodfimnmbfdicaaTpCi
import Derived.Test.YtodfimnmbfdicaaTpX
namespace Go.Proofs.Ytodfimnmbfdicaa
open Go.RowKit Go.Shelf
def Wo_i (t : Tr Int) : Prop := ∀ (P : Nat → Prop) (p : Option Addr) (b m : Int) (w : World), t.Ok → (∀ x, P x → x < w.heap.size) → Nd_i P w p t → 0 ≤ b → b < 4294967296 →
  Calls Try.prog 40 #[.pointer p, .agg #[.int .u32 b, .int .i64 m]] w fun e w' => ∃ p', e = .returned (.pointer p') ∧ Nd_i (Wid P w) w' p' (t.wo b m) ∧ Below w.heap.size w w'
theorem wo_nil_i : Wo_i .nil := by
  intro P p b m w _ _ hp _ _
  obtain rfl : p = none := hp
  have hb : Below w.heap.size w (w.alloc (.cells #[.int .u32 b, .int .i64 m] 34)) := (Below.refl _ _).alloc (Nat.le_refl _) _
  have HB := Lib.hid hb
  clear hb
  go_enter Try.func40, Try.ntmps40
  go_wp2_with fail
  go_ret
  exact ⟨none, rfl, rfl, HB.out⟩
set_option maxRecDepth 100000 in
set_option maxHeartbeats 16000000 in
theorem wo_node_i (a n : Int) (u : Option Int) (l r : Tr Int) (CL : Wo_i l) (CR : Wo_i r) : Wo_i (.node a n u l r) := by
  intro P p b m w hok hPw hp hb0 hb1
  have HPW := Lib.hid hPw
  clear hPw
  obtain ⟨g, pv, pl, pr, rfl, hPg, hg, hu, hl, hr⟩ := hp
  have HPG := Lib.hid hPg
  clear hPg
  obtain ⟨n0, hn0⟩ : ∃ n0, w.heap.size = n0 := ⟨_, rfl⟩
  obtain ⟨W1, hW1⟩ : ∃ X, w.alloc (.cells #[.int .u32 b, .int .i64 m] 34) = X := ⟨_, rfl⟩
  have hB1 : Below w.heap.size w W1 := by rw [← hW1]; exact (Below.refl _ _).alloc (Nat.le_refl _) _
  have hz1 : W1.heap.size = n0 + 1 := by rw [← hW1, ← hn0]; simp
  have hq1 : W1.heap[n0]? = some (.cells #[.int .u32 b, .int .i64 m] 34 (0, 0)) := by rw [← hW1, ← hn0]; exact heap_alloc_new w _
  have hg1 := (hB1.block g (blk_lt hg)).trans hg
  obtain ⟨W2, hW2⟩ : ∃ X, W1.alloc (.cells #[.int .u32 a, .int .i64 n, .pointer pv, .pointer pl, .pointer pr] 102) = X := ⟨_, rfl⟩
  obtain ⟨g5, hg5⟩ : ∃ x, W1.heap.size = x := ⟨_, rfl⟩
  have hB2 : Below W1.heap.size W1 W2 := by rw [← hW2]; exact (Below.refl _ _).alloc (Nat.le_refl _) _
  have hr5 : W2.heap[g5]? = some (.cells #[.int .u32 a, .int .i64 n, .pointer pv, .pointer pl, .pointer pr] 102 (0, 0)) := by rw [← hW2, ← hg5]; exact heap_alloc_new W1 _
  have hq2 := (hB2.block n0 (by omega)).trans hq1
  have hg2 := (hB2.block g (blk_lt hg1)).trans hg1
  have a0 : W1.cell? ⟨g, 0, none⟩ = some (.int .u32 a) := row_cell hg1 0
  have a1 : W1.cell? ⟨g, 1, none⟩ = some (.int .i64 n) := row_cell hg1 1
  have a2 : W1.cell? ⟨g, 2, none⟩ = some (.pointer pv) := row_cell hg1 2
  have a3 : W1.cell? ⟨g, 3, none⟩ = some (.pointer pl) := row_cell hg1 3
  have a4 : W1.cell? ⟨g, 4, none⟩ = some (.pointer pr) := row_cell hg1 4
  have HU := Lib.hid hu; have HL := Lib.hid hl; have HR := Lib.hid hr; have HG := Lib.hid hg; have HOK := Lib.hid hok
  have HB1 := Lib.hid hB1; have HB2 := Lib.hid hB2; have HR5 := Lib.hid hr5; have HQ2 := Lib.hid hq2; have HG2 := Lib.hid hg2
  have HN0 := Lib.hid hn0; have HZ1 := Lib.hid hz1; have HG5 := Lib.hid hg5; have HW2 := Lib.hid hW2
  clear hB1 hz1 hq1 hg1 hB2 hr5 hq2 hg2 hu hl hr hg hok
  go_enter Try.func40, Try.ntmps40
  go_wp2_with fail
  clear hW1 hn0
  try rw [hW2]
  try rw [hg5]
  clear hW2 hg5 a0 a1 a2 a3 a4
  have c0 : W2.cell? ⟨g, 0, none⟩ = some (.int .u32 a) := row_cell HG2.out 0
  have c1 : W2.cell? ⟨g, 1, none⟩ = some (.int .i64 n) := row_cell HG2.out 1
  have d0 : W2.cell? ⟨n0, 0, none⟩ = some (.int .u32 b) := row_cell HQ2.out 0
  have d1 : W2.cell? ⟨n0, 1, none⟩ = some (.int .i64 m) := row_cell HQ2.out 1
  have hge := guardP .eql
  have he := eqlP a n b m
  by_cases e1 : a = b ∧ n = m
  · have e2 : decide (a = b ∧ n = m) = true := by simp [e1]
    rw [e2] at he
    have HE := Lib.hid e1
    clear e1 e2
    go_quiet (fail)
    obtain ⟨W9, hW9⟩ : ∃ X, W2.drewN nq = X := ⟨_, rfl⟩
    have hb9 : Below W2.heap.size W2 W9 := hW9 ▸ Below.draws (Below.refl _ _) nq
    rw [hW9]
    clear hW9 c0 c1 d0 d1
    have r5 := (hb9.block g5 (blk_lt HR5.out)).trans HR5.out
    have q9 := (hb9.block n0 (blk_lt HQ2.out)).trans HQ2.out
    have g9 := (hb9.block g (blk_lt HG2.out)).trans HG2.out
    have HR9 := Lib.hid r5; have HB9 := Lib.hid hb9
    have z2 : W9.cell? ⟨g5, 2, none⟩ = some (.pointer pv) := row_cell r5 2
    have z3 : W9.cell? ⟨g5, 3, none⟩ = some (.pointer pl) := row_cell r5 3
    have z4 : W9.cell? ⟨g5, 4, none⟩ = some (.pointer pr) := row_cell r5 4
    have f2 := frozen_of_row _ _ 2 _ _ r5
    have f3 := frozen_of_row _ _ 3 _ _ r5
    have f4 := frozen_of_row _ _ 4 _ _ r5
    have j0 : W9.cell? ⟨n0, 0, none⟩ = some (.int .u32 b) := row_cell q9 0
    have j1 : W9.cell? ⟨n0, 1, none⟩ = some (.int .i64 m) := row_cell q9 1
    have v1 : W9.cell? ⟨g, 1, none⟩ = some (.int .i64 n) := row_cell g9 1
    clear r5 q9 g9 hb9
    go_wp2_with fail
    obtain ⟨X, hX⟩ : ∃ Y, W9.setCell ⟨g5, 2, none⟩ (.pointer none) = Y := ⟨_, rfl⟩
    obtain ⟨rX, oX, _, bX⟩ := set1 (v := .pointer none) (i := 2) HR9.out hX
    rw [hX]
    clear hX z2 z3 z4 f2 f3 f4 j0 j1 v1
    have hBX : Below g5 W2 X := (HB9.out.mono (by have := blk_lt HR5.out; omega)).trans bX
    have hbw : Below w.heap.size w X := (HB1.out.trans (HB2.out.mono HB1.out.size)).trans (hBX.mono (by have := HB1.out.size; have := HG5.out; omega))
    have HWO : Hid (Tr.wo b m (.node a n u l r) = Tr.mk a n none l r) := Lib.hid (Tr.wo_eq HE.out)
    have HX := Lib.hid rX
    obtain ⟨TW, hTW⟩ : ∃ z, Tr.wo b m (.node a n u l r) = z := ⟨_, rfl⟩
    have HTW := Lib.hid hTW
    rw [hTW] at HWO
    clear hTW
    have HVL : Hid (Vl_i (Wid P w) X none none) := Lib.hid rfl
    have HNL : Hid (Nd_i (Wid P w) X pl l) := Lib.hid (TrAt.mono (fun _ => .inl) (TrAt.on hbw HL.out))
    have HNR : Hid (Nd_i (Wid P w) X pr r) := Lib.hid (TrAt.mono (fun _ => .inl) (TrAt.on hbw HR.out))
    have HBX := Lib.hid hBX
    simp only [List.setIfInBounds_toArray, List.set_cons_succ, List.set_cons_zero] at HX
    clear rX oX bX hBX hbw
    have x2 : X.cell? ⟨g5, 2, none⟩ = some (.pointer none) := row_cell HX.out 2
    have x3 : X.cell? ⟨g5, 3, none⟩ = some (.pointer pl) := row_cell HX.out 3
    have x4 : X.cell? ⟨g5, 4, none⟩ = some (.pointer pr) := row_cell HX.out 4
    go_wp2_with fail
    go_quiet (fail)
    obtain ⟨X1, hX1⟩ : ∃ Y, X.drewN nq = Y := ⟨_, rfl⟩
    have hbd : Below X.heap.size X X1 := hX1 ▸ Below.draws (Below.refl _ _) nq
    rw [hX1]
    clear hX1 x2 x3 x4
    have rx := (hbd.block g5 (blk_lt HX.out)).trans HX.out
    have HX1 := Lib.hid rx; have HD := Lib.hid hbd
    have y2 : X1.cell? ⟨g5, 2, none⟩ = some (.pointer none) := row_cell rx 2
    have HBF : Hid (Below w.heap.size w X1) := Lib.hid ((HB1.out.trans (HB2.out.mono HB1.out.size)).trans ((HBX.out.trans (hbd.mono (by have := blk_lt HX.out; omega))).mono (by have := HB1.out.size; have := HG5.out; omega)))
    clear rx hbd

    cases l with
    | nil =>
      obtain rfl : pl = none := HNL.out
      have hmk : Tr.mk a n none .nil r = r := by cases r <;> rfl
      go_wp2_with fail
      go_ret
      refine ⟨pr, rfl, ?_, HBF.out⟩
      rw [HTW.out, HWO.out, hmk]
      exact TrAt.on HD.out HNR.out
    | node la ln lu ll lr =>
      obtain ⟨gl, _, _, _, hpl, _⟩ := HNL.out
      obtain rfl : pl = some ⟨gl, 0, none⟩ := hpl
      cases r with
      | nil =>
        obtain rfl : pr = none := HNR.out
        have hmk : Tr.mk a n none (.node la ln lu ll lr) .nil = .node la ln lu ll lr := rfl
        go_wp2_with fail
        go_ret
        refine ⟨(some ⟨gl, 0, none⟩), rfl, ?_, HBF.out⟩
        rw [HTW.out, HWO.out, hmk]
        exact TrAt.on HD.out HNL.out
      | node ra rn ru rl rr =>
        obtain ⟨gr, _, _, _, hpr, _⟩ := HNR.out
        obtain rfl : pr = some ⟨gr, 0, none⟩ := hpr
        have hmk : Tr.mk a n none (.node la ln lu ll lr) (.node ra rn ru rl rr) = .node a n none (.node la ln lu ll lr) (.node ra rn ru rl rr) := rfl
        go_wp2_with fail
        go_ret
        refine ⟨(some ⟨g5, 0, none⟩), rfl, ?_, HBF.out⟩
        rw [HTW.out, HWO.out, hmk]
        exact ⟨g5, _, _, _, rfl, .inr (by have := HB1.out.size; have := HG5.out; omega), HX1.out, VlAt.on HD.out HVL.out, TrAt.on HD.out HNL.out, TrAt.on HD.out HNR.out⟩
  · have e2 : decide (a = b ∧ n = m) = false := by simp [e1]
    rw [e2] at he
    have HE := Lib.hid e1
    clear e1 e2
    go_quiet (fail)
    obtain ⟨W9, hW9⟩ : ∃ X, W2.drewN nq = X := ⟨_, rfl⟩
    have hb9 : Below W2.heap.size W2 W9 := hW9 ▸ Below.draws (Below.refl _ _) nq
    rw [hW9]
    clear hW9 c0 c1 d0 d1
    have r5 := (hb9.block g5 (blk_lt HR5.out)).trans HR5.out
    have q9 := (hb9.block n0 (blk_lt HQ2.out)).trans HQ2.out
    have g9 := (hb9.block g (blk_lt HG2.out)).trans HG2.out
    have HR9 := Lib.hid r5; have HB9 := Lib.hid hb9
    have z2 : W9.cell? ⟨g5, 2, none⟩ = some (.pointer pv) := row_cell r5 2
    have z3 : W9.cell? ⟨g5, 3, none⟩ = some (.pointer pl) := row_cell r5 3
    have z4 : W9.cell? ⟨g5, 4, none⟩ = some (.pointer pr) := row_cell r5 4
    have f2 := frozen_of_row _ _ 2 _ _ r5
    have f3 := frozen_of_row _ _ 3 _ _ r5
    have f4 := frozen_of_row _ _ 4 _ _ r5
    have j0 : W9.cell? ⟨n0, 0, none⟩ = some (.int .u32 b) := row_cell q9 0
    have j1 : W9.cell? ⟨n0, 1, none⟩ = some (.int .i64 m) := row_cell q9 1
    have v1 : W9.cell? ⟨g, 1, none⟩ = some (.int .i64 n) := row_cell g9 1
    clear r5 q9 g9 hb9
    rcases sd_two b n with hs | hs
    · have HS2 := Lib.hid fun W => side_is b n W hb0 hb1 HOK.out.1.bits.1 HOK.out.1.bits.2.1
      rw [hs] at HS2
      have HSD := Lib.hid hs
      clear hs
      go_wp2_with fail
      refine wp_region_still_tail 8 (by kernel_rfl) (by kernel_rfl) ?_
      simp only [List.take_succ_cons, List.take_zero, List.drop_succ_cons, List.drop_zero]
      repeat (first | still_step | (refine wpStill_step (fun K hK => ?_); go_simp; refine ⟨_, (HS2.out _).mono (fun _ _ h => ⟨h.1, h.2.symm⟩), hK _ ?_⟩; clear hK K))
      refine wpStill_nil ?_
      change wpList _ _ _ _ _ W9.drew
      obtain ⟨V9, hV9⟩ : ∃ Y, W9.drew = Y := ⟨_, rfl⟩
      rw [hV9]
      have hbv : Below W9.heap.size W9 V9 := hV9 ▸ (Below.refl _ _).drew
      clear hV9 z2 z3 z4 f2 f3 f4 j0 j1 v1
      have r5 := (hbv.block g5 (blk_lt HR9.out)).trans HR9.out
      have q9 := (hbv.block n0 (by have := HB9.out.size; have := blk_lt HQ2.out; omega)).trans ((HB9.out.block n0 (blk_lt HQ2.out)).trans HQ2.out)
      have z3 : V9.cell? ⟨g5, 3, none⟩ = some (.pointer pl) := row_cell r5 3
      have z4 : V9.cell? ⟨g5, 4, none⟩ = some (.pointer pr) := row_cell r5 4
      have f3 := frozen_of_row _ _ 3 _ _ r5
      have f4 := frozen_of_row _ _ 4 _ _ r5
      have j0 : V9.cell? ⟨n0, 0, none⟩ = some (.int .u32 b) := row_cell q9 0
      have j1 : V9.cell? ⟨n0, 1, none⟩ = some (.int .i64 m) := row_cell q9 1
      have hbV : Below g5 W2 V9 := (Below.step HB9.out hbv).mono (by have := blk_lt HR5.out; omega)
      have hbw9 : Below w.heap.size w V9 := (HB1.out.trans (HB2.out.mono HB1.out.size)).trans (hbV.mono (by have := HB1.out.size; have := HG5.out; omega))
      have hlt : g5 < V9.heap.size := blk_lt r5
      have hwg : w.heap.size ≤ g5 := by have := HB1.out.size; have := HG5.out; omega
      have HCL : Hid (∀ X, Below V9.heap.size V9 X → Calls Try.prog 40 #[.pointer pl, .agg #[.int .u32 b, .int .i64 m]] X fun e w' => ∃ p', e = .returned (.pointer p') ∧ Nd_i (Wid P X) w' p' (Tr.wo b m l) ∧ Below X.heap.size X w') :=
        Lib.hid fun X hX => (have hX2 := Below.step hbw9 hX; CL P pl b m X HOK.out.2.2.2.1 (fun x hx => by have := HPW.out x hx; have := hX2.size; omega) (TrAt.on hX2 HL.out) hb0 hb1)
      have HRV := Lib.hid r5; have HBV := Lib.hid hbV; have HBW9 := Lib.hid hbw9
      clear r5 q9 hbV hbw9 hbv
      go_wp2_with fail
      go_cut [] from 29 to 37 (fun wx => ∃ p', wx.heap[g5]? = some (.cells #[.int .u32 a, .int .i64 n, .pointer pv, .pointer p', .pointer pr] 102 (0, 0)) ∧ Nd_i (Wid P w) wx p' (Tr.wo b m l) ∧ Below g5 V9 wx)
      case first =>
        go_region_with (go_at_call 40; (with_reducible refine (HCL.out _ (by first | exact Below.refl _ _ | exact (Below.refl _ _).drew | exact ((Below.refl _ _).drew).drew)).mono ?_); rintro e w5 ⟨p', rfl, hp', hb5⟩; (have zc := (hb5.block g5 (by simpa using hlt)).trans HRV.out); (have zf := frozen_of_row _ _ 3 _ _ zc); (have zv : w5.cell? ⟨g5, 3, none⟩ = some (.pointer pl) := row_cell zc 3))
        all_goals
          go_wp2_with fail
          go_meet
          exact ⟨p', heap_setCell_same _ _ 3 _ _ _ zc, after_call_i HPW.out hwg hlt rfl hp', (Below.step' hb5 (by simpa using hlt)).setCell (p := ⟨g5, 3, none⟩) (Nat.le_refl _) _⟩
      case rest =>
        obtain ⟨p', hr, hn', hb'⟩ := hcut
        have HX := Lib.hid hr
        have hbw : Below w.heap.size w wc := HBW9.out.trans (hb'.mono hwg)
        have HWO : Hid (Tr.wo b m (.node a n u l r) = Tr.mk a n u (Tr.wo b m l) r) := Lib.hid (Tr.wo_lo HE.out HSD.out)
        have HVL : Hid (Vl_i (Wid P w) wc pv u) := Lib.hid (VlAt.mono (fun _ => .inl) (VlAt.on hbw HU.out))
        have HNL : Hid (Nd_i (Wid P w) wc p' (Tr.wo b m l)) := Lib.hid hn'
        have HNR : Hid (Nd_i (Wid P w) wc pr r) := Lib.hid (TrAt.mono (fun _ => .inl) (TrAt.on hbw HR.out))
        have HBX := Lib.hid (HBV.out.trans hb')
        clear hr hn' hb' hbw z3 z4 f3 f4 j0 j1
        obtain ⟨TW, hTW⟩ : ∃ z, Tr.wo b m (.node a n u l r) = z := ⟨_, rfl⟩
        have HTW := Lib.hid hTW
        obtain ⟨u1, hu1⟩ : ∃ z, u = z := ⟨_, rfl⟩
        obtain ⟨l1, hl1⟩ : ∃ z, (Tr.wo b m l) = z := ⟨_, rfl⟩
        obtain ⟨r1, hr1⟩ : ∃ z, r = z := ⟨_, rfl⟩
        obtain ⟨pvx, hpvx⟩ : ∃ z, pv = z := ⟨_, rfl⟩
        obtain ⟨plx, hplx⟩ : ∃ z, p' = z := ⟨_, rfl⟩
        obtain ⟨prx, hprx⟩ : ∃ z, pr = z := ⟨_, rfl⟩
        rw [hpvx, hplx, hprx] at HX
        rw [hpvx, hu1] at HVL
        rw [hplx, hl1] at HNL
        rw [hprx, hr1] at HNR
        rw [hTW, hu1, hl1, hr1] at HWO
        clear hTW hu1 hl1 hr1 hpvx hplx hprx
        have x2 : wc.cell? ⟨g5, 2, none⟩ = some (.pointer pvx) := row_cell HX.out 2
        have x3 : wc.cell? ⟨g5, 3, none⟩ = some (.pointer plx) := row_cell HX.out 3
        have x4 : wc.cell? ⟨g5, 4, none⟩ = some (.pointer prx) := row_cell HX.out 4
        go_wp2_with fail
        go_quiet (fail)
        obtain ⟨X1, hX1⟩ : ∃ Y, wc.drewN nq = Y := ⟨_, rfl⟩
        have hbd : Below wc.heap.size wc X1 := hX1 ▸ Below.draws (Below.refl _ _) nq
        rw [hX1]
        clear hX1 x2 x3 x4
        have rx := (hbd.block g5 (blk_lt HX.out)).trans HX.out
        have HX1 := Lib.hid rx; have HD := Lib.hid hbd
        have y2 : X1.cell? ⟨g5, 2, none⟩ = some (.pointer pvx) := row_cell rx 2
        have HBF : Hid (Below w.heap.size w X1) := Lib.hid ((HB1.out.trans (HB2.out.mono HB1.out.size)).trans ((HBX.out.trans (hbd.mono (by have := blk_lt HX.out; omega))).mono (by have := HB1.out.size; have := HG5.out; omega)))
        clear rx hbd

        cases u1 with
        | some v1' =>
          obtain ⟨gv, rfl, _, _⟩ := HVL.out
          have hmk : Tr.mk a n (some v1') l1 r1 = .node a n (some v1') l1 r1 := by cases l1 <;> cases r1 <;> rfl
          go_wp2_with fail
          go_ret
          refine ⟨some ⟨g5, 0, none⟩, rfl, ?_, HBF.out⟩
          rw [HTW.out, HWO.out, hmk]
          exact ⟨g5, _, _, _, rfl, .inr (by have := HB1.out.size; have := HG5.out; omega), HX1.out, VlAt.on HD.out HVL.out, TrAt.on HD.out HNL.out, TrAt.on HD.out HNR.out⟩
        | none =>
          obtain rfl : pvx = none := HVL.out
          cases l1 with
          | nil =>
            obtain rfl : plx = none := HNL.out
            have hmk : Tr.mk a n none .nil r1 = r1 := by cases r1 <;> rfl
            go_wp2_with fail
            go_ret
            refine ⟨prx, rfl, ?_, HBF.out⟩
            rw [HTW.out, HWO.out, hmk]
            exact TrAt.on HD.out HNR.out
          | node la ln lu ll lr =>
            obtain ⟨gl, _, _, _, hpl, _⟩ := HNL.out
            obtain rfl : plx = some ⟨gl, 0, none⟩ := hpl
            cases r1 with
            | nil =>
              obtain rfl : prx = none := HNR.out
              have hmk : Tr.mk a n none (.node la ln lu ll lr) .nil = .node la ln lu ll lr := rfl
              go_wp2_with fail
              go_ret
              refine ⟨some ⟨gl, 0, none⟩, rfl, ?_, HBF.out⟩
              rw [HTW.out, HWO.out, hmk]
              exact TrAt.on HD.out HNL.out
            | node ra rn ru rl rr =>
              obtain ⟨gr, _, _, _, hpr, _⟩ := HNR.out
              obtain rfl : prx = some ⟨gr, 0, none⟩ := hpr
              have hmk : Tr.mk a n none (.node la ln lu ll lr) (.node ra rn ru rl rr) = .node a n none (.node la ln lu ll lr) (.node ra rn ru rl rr) := rfl
              go_wp2_with fail
              go_ret
              refine ⟨some ⟨g5, 0, none⟩, rfl, ?_, HBF.out⟩
              rw [HTW.out, HWO.out, hmk]
              exact ⟨g5, _, _, _, rfl, .inr (by have := HB1.out.size; have := HG5.out; omega), HX1.out, VlAt.on HD.out HVL.out, TrAt.on HD.out HNL.out, TrAt.on HD.out HNR.out⟩
    · have HS2 := Lib.hid fun W => side_is b n W hb0 hb1 HOK.out.1.bits.1 HOK.out.1.bits.2.1
      rw [hs] at HS2
      have HSD := Lib.hid hs
      clear hs
      go_wp2_with fail
      refine wp_region_still_tail 8 (by kernel_rfl) (by kernel_rfl) ?_
      simp only [List.take_succ_cons, List.take_zero, List.drop_succ_cons, List.drop_zero]
      repeat (first | still_step | (refine wpStill_step (fun K hK => ?_); go_simp; refine ⟨_, (HS2.out _).mono (fun _ _ h => ⟨h.1, h.2.symm⟩), hK _ ?_⟩; clear hK K))
      refine wpStill_nil ?_
      change wpList _ _ _ _ _ W9.drew
      obtain ⟨V9, hV9⟩ : ∃ Y, W9.drew = Y := ⟨_, rfl⟩
      rw [hV9]
      have hbv : Below W9.heap.size W9 V9 := hV9 ▸ (Below.refl _ _).drew
      clear hV9 z2 z3 z4 f2 f3 f4 j0 j1 v1
      have r5 := (hbv.block g5 (blk_lt HR9.out)).trans HR9.out
      have q9 := (hbv.block n0 (by have := HB9.out.size; have := blk_lt HQ2.out; omega)).trans ((HB9.out.block n0 (blk_lt HQ2.out)).trans HQ2.out)
      have z3 : V9.cell? ⟨g5, 3, none⟩ = some (.pointer pl) := row_cell r5 3
      have z4 : V9.cell? ⟨g5, 4, none⟩ = some (.pointer pr) := row_cell r5 4
      have f3 := frozen_of_row _ _ 3 _ _ r5
      have f4 := frozen_of_row _ _ 4 _ _ r5
      have j0 : V9.cell? ⟨n0, 0, none⟩ = some (.int .u32 b) := row_cell q9 0
      have j1 : V9.cell? ⟨n0, 1, none⟩ = some (.int .i64 m) := row_cell q9 1
      have hbV : Below g5 W2 V9 := (Below.step HB9.out hbv).mono (by have := blk_lt HR5.out; omega)
      have hbw9 : Below w.heap.size w V9 := (HB1.out.trans (HB2.out.mono HB1.out.size)).trans (hbV.mono (by have := HB1.out.size; have := HG5.out; omega))
      have hlt : g5 < V9.heap.size := blk_lt r5
      have hwg : w.heap.size ≤ g5 := by have := HB1.out.size; have := HG5.out; omega
      have HCL : Hid (∀ X, Below V9.heap.size V9 X → Calls Try.prog 40 #[.pointer pr, .agg #[.int .u32 b, .int .i64 m]] X fun e w' => ∃ p', e = .returned (.pointer p') ∧ Nd_i (Wid P X) w' p' (Tr.wo b m r) ∧ Below X.heap.size X w') :=
        Lib.hid fun X hX => (have hX2 := Below.step hbw9 hX; CR P pr b m X HOK.out.2.2.2.2 (fun x hx => by have := HPW.out x hx; have := hX2.size; omega) (TrAt.on hX2 HR.out) hb0 hb1)
      have HRV := Lib.hid r5; have HBV := Lib.hid hbV; have HBW9 := Lib.hid hbw9
      clear r5 q9 hbV hbw9 hbv
      go_wp2_with fail
      go_cut [] from 29 to 37 (fun wx => ∃ p', wx.heap[g5]? = some (.cells #[.int .u32 a, .int .i64 n, .pointer pv, .pointer pl, .pointer p'] 102 (0, 0)) ∧ Nd_i (Wid P w) wx p' (Tr.wo b m r) ∧ Below g5 V9 wx)
      case first =>
        go_region_with (go_at_call 40; (with_reducible refine (HCL.out _ (by first | exact Below.refl _ _ | exact (Below.refl _ _).drew | exact ((Below.refl _ _).drew).drew)).mono ?_); rintro e w5 ⟨p', rfl, hp', hb5⟩; (have zc := (hb5.block g5 (by simpa using hlt)).trans HRV.out); (have zf := frozen_of_row _ _ 4 _ _ zc); (have zv : w5.cell? ⟨g5, 4, none⟩ = some (.pointer pr) := row_cell zc 4))
        all_goals
          go_wp2_with fail
          go_meet
          exact ⟨p', heap_setCell_same _ _ 4 _ _ _ zc, after_call_i HPW.out hwg hlt rfl hp', (Below.step' hb5 (by simpa using hlt)).setCell (p := ⟨g5, 4, none⟩) (Nat.le_refl _) _⟩
      case rest =>
        obtain ⟨p', hr, hn', hb'⟩ := hcut
        have HX := Lib.hid hr
        have hbw : Below w.heap.size w wc := HBW9.out.trans (hb'.mono hwg)
        have HWO : Hid (Tr.wo b m (.node a n u l r) = Tr.mk a n u l (Tr.wo b m r)) := Lib.hid (Tr.wo_hi HE.out HSD.out)
        have HVL : Hid (Vl_i (Wid P w) wc pv u) := Lib.hid (VlAt.mono (fun _ => .inl) (VlAt.on hbw HU.out))
        have HNL : Hid (Nd_i (Wid P w) wc pl l) := Lib.hid (TrAt.mono (fun _ => .inl) (TrAt.on hbw HL.out))
        have HNR : Hid (Nd_i (Wid P w) wc p' (Tr.wo b m r)) := Lib.hid hn'
        have HBX := Lib.hid (HBV.out.trans hb')
        clear hr hn' hb' hbw z3 z4 f3 f4 j0 j1
        obtain ⟨TW, hTW⟩ : ∃ z, Tr.wo b m (.node a n u l r) = z := ⟨_, rfl⟩
        have HTW := Lib.hid hTW
        obtain ⟨u1, hu1⟩ : ∃ z, u = z := ⟨_, rfl⟩
        obtain ⟨l1, hl1⟩ : ∃ z, l = z := ⟨_, rfl⟩
        obtain ⟨r1, hr1⟩ : ∃ z, (Tr.wo b m r) = z := ⟨_, rfl⟩
        obtain ⟨pvx, hpvx⟩ : ∃ z, pv = z := ⟨_, rfl⟩
        obtain ⟨plx, hplx⟩ : ∃ z, pl = z := ⟨_, rfl⟩
        obtain ⟨prx, hprx⟩ : ∃ z, p' = z := ⟨_, rfl⟩
        rw [hpvx, hplx, hprx] at HX
        rw [hpvx, hu1] at HVL
        rw [hplx, hl1] at HNL
        rw [hprx, hr1] at HNR
        rw [hTW, hu1, hl1, hr1] at HWO
        clear hTW hu1 hl1 hr1 hpvx hplx hprx
        have x2 : wc.cell? ⟨g5, 2, none⟩ = some (.pointer pvx) := row_cell HX.out 2
        have x3 : wc.cell? ⟨g5, 3, none⟩ = some (.pointer plx) := row_cell HX.out 3
        have x4 : wc.cell? ⟨g5, 4, none⟩ = some (.pointer prx) := row_cell HX.out 4
        go_wp2_with fail
        go_quiet (fail)
        obtain ⟨X1, hX1⟩ : ∃ Y, wc.drewN nq = Y := ⟨_, rfl⟩
        have hbd : Below wc.heap.size wc X1 := hX1 ▸ Below.draws (Below.refl _ _) nq
        rw [hX1]
        clear hX1 x2 x3 x4
        have rx := (hbd.block g5 (blk_lt HX.out)).trans HX.out
        have HX1 := Lib.hid rx; have HD := Lib.hid hbd
        have y2 : X1.cell? ⟨g5, 2, none⟩ = some (.pointer pvx) := row_cell rx 2
        have HBF : Hid (Below w.heap.size w X1) := Lib.hid ((HB1.out.trans (HB2.out.mono HB1.out.size)).trans ((HBX.out.trans (hbd.mono (by have := blk_lt HX.out; omega))).mono (by have := HB1.out.size; have := HG5.out; omega)))
        clear rx hbd

        cases u1 with
        | some v1' =>
          obtain ⟨gv, rfl, _, _⟩ := HVL.out
          have hmk : Tr.mk a n (some v1') l1 r1 = .node a n (some v1') l1 r1 := by cases l1 <;> cases r1 <;> rfl
          go_wp2_with fail
          go_ret
          refine ⟨some ⟨g5, 0, none⟩, rfl, ?_, HBF.out⟩
          rw [HTW.out, HWO.out, hmk]
          exact ⟨g5, _, _, _, rfl, .inr (by have := HB1.out.size; have := HG5.out; omega), HX1.out, VlAt.on HD.out HVL.out, TrAt.on HD.out HNL.out, TrAt.on HD.out HNR.out⟩
        | none =>
          obtain rfl : pvx = none := HVL.out
          cases l1 with
          | nil =>
            obtain rfl : plx = none := HNL.out
            have hmk : Tr.mk a n none .nil r1 = r1 := by cases r1 <;> rfl
            go_wp2_with fail
            go_ret
            refine ⟨prx, rfl, ?_, HBF.out⟩
            rw [HTW.out, HWO.out, hmk]
            exact TrAt.on HD.out HNR.out
          | node la ln lu ll lr =>
            obtain ⟨gl, _, _, _, hpl, _⟩ := HNL.out
            obtain rfl : plx = some ⟨gl, 0, none⟩ := hpl
            cases r1 with
            | nil =>
              obtain rfl : prx = none := HNR.out
              have hmk : Tr.mk a n none (.node la ln lu ll lr) .nil = .node la ln lu ll lr := rfl
              go_wp2_with fail
              go_ret
              refine ⟨some ⟨gl, 0, none⟩, rfl, ?_, HBF.out⟩
              rw [HTW.out, HWO.out, hmk]
              exact TrAt.on HD.out HNL.out
            | node ra rn ru rl rr =>
              obtain ⟨gr, _, _, _, hpr, _⟩ := HNR.out
              obtain rfl : prx = some ⟨gr, 0, none⟩ := hpr
              have hmk : Tr.mk a n none (.node la ln lu ll lr) (.node ra rn ru rl rr) = .node a n none (.node la ln lu ll lr) (.node ra rn ru rl rr) := rfl
              go_wp2_with fail
              go_ret
              refine ⟨some ⟨g5, 0, none⟩, rfl, ?_, HBF.out⟩
              rw [HTW.out, HWO.out, hmk]
              exact ⟨g5, _, _, _, rfl, .inr (by have := HB1.out.size; have := HG5.out; omega), HX1.out, VlAt.on HD.out HVL.out, TrAt.on HD.out HNL.out, TrAt.on HD.out HNR.out⟩
theorem wo_is_i : ∀ t : Tr Int, Wo_i t
| .nil => wo_nil_i
| .node a n u l r => wo_node_i a n u l r (wo_is_i l) (wo_is_i r)
end Go.Proofs.Ytodfimnmbfdicaa
