/- What Put of the reference does to rows: what putC says, in memory of its own or as they were. Under the conditions that it names. -/
import Derived.Test.YtodfimnmbfdicaaTuA
namespace Go.Proofs.Ytodfimnmbfdicaa
open Go.RowKit Go.Shelf
attribute [local go_sem] Oper.semAt_some
theorem cmpI_three (a n b m : Int) : cmpI a n b m = -1 ∨ cmpI a n b m = 0 ∨ cmpI a n b m = 1 := by
  unfold cmpI
  split
  · exact .inl rfl
  · split
    · exact .inr (.inl rfl)
    · exact .inr (.inr rfl)
/-- What the loop keeps. -/
structure PutJ (Z : World) (L : List Kv) (a n v : Int) (j : Nat) (s9 : Value) (wr : World) : Prop where
  own : wr.ownsRow Z.heap.size 77 3 s9 (foR (a, n) v (L.take j)).1.length (flatK encRow (foR (a, n) v (L.take j)).1)
  bel : Below Z.heap.size Z wr
set_option maxRecDepth 100000 in
set_option maxHeartbeats 8000000 in
theorem rput_is (L : List Kv) (lv : Value) (a n v : Int) (w : World) (hr : RdK encRow 3 w lv L) (hl : L.length ≤ 100000) (ha : 0 ≤ a) (ha2 : a < 4294967296) :
    Calls Try.prog 12 #[lv, .agg #[.int .u32 a, .int .i64 n], .int .i64 v] w fun e w' => ∃ v', e = .returned (.tuple #[v', .int .i64 (ck a n)]) ∧ RdK encRow 3 w' v' (putC (a, n) v L) ∧ Below w.heap.size w w' := by
  have HR := Lib.hid hr
  obtain ⟨p, c, rfl, hlc, hcm, _⟩ := hr.sl
  unfold maxLen at hcm
  obtain ⟨n0, hn0⟩ : ∃ n0, w.heap.size = n0 := ⟨_, rfl⟩
  obtain ⟨Z, hZ⟩ : ∃ Z, w.alloc (.cells #[.int .u32 a, .int .i64 n] 34) = Z := ⟨_, rfl⟩
  have hBZ : Below w.heap.size w Z := by rw [← hZ]; exact (Below.refl _ _).alloc (Nat.le_refl _) _
  have hp : Z.heap[n0]? = some (.cells #[.int .u32 a, .int .i64 n] 34 (0, 0)) := by rw [← hZ, ← hn0]; exact heap_alloc_new w _
  have c0 : Z.cell? ⟨n0, 0, none⟩ = some (.int .u32 a) := row_cell hp 0
  have c1 : Z.cell? ⟨n0, 1, none⟩ = some (.int .i64 n) := row_cell hp 1
  have HBZ := Lib.hid hBZ; have HP := Lib.hid hp; have HN0 := Lib.hid hn0
  clear hr hBZ hp
  go_enter Try.func12, Try.ntmps12
  go_wp2_with fail
  clear hZ hn0
  go_at_call 16
  refine (rcheck_is a n Z ha ha2).mono ?_
  rintro e w1 ⟨rfl, hb1⟩
  have HB1 := Lib.hid hb1
  clear c0 c1 hb1
  by_cases hc : ck a n = 0
  · have HC := Lib.hid hc
    rw [hc]
    clear hc
    go_wp2_with fail
    go_loopw [9, 10, 11] (fun s9 s10 s11 wr => ∃ j : Nat, j ≤ L.length ∧ s11 = .int .i64 j ∧ s10 = .bool (foR (a, n) v (L.take j)).2 ∧ Hid (PutJ Z L a n v j s9 wr)) (fun _ _ s11 _ => L.length - (intOf s11).toNat)
    case atStart => exact ⟨0, Nat.zero_le _, rfl, rfl, Lib.hid ⟨own_none _ _, HB1.out⟩⟩
    case round =>
      obtain ⟨j, hj, rfl, rfl, HJ⟩ := hrel
      have e1 : (0 : Int) ≤ (j : Int) := by omega
      obtain ⟨O, hO⟩ : ∃ s, foR (a, n) v (L.take j) = s := ⟨_, rfl⟩
      have hol := foR_len (a, n) v (L.take j)
      have hown := HJ.out.own
      rw [hO] at hol hown ⊢
      obtain ⟨O, d⟩ := O
      rw [List.length_take, Nat.min_eq_left hj] at hol
      simp only at hol hown ⊢
      have ho1 : O.length ≤ j + 1 := by have := d.toNat_le; omega
      have HOW := Lib.hid hown; have HO := Lib.hid hO; have HOL := Lib.hid hol
      obtain ⟨q9, k9, hq9⟩ := own_slice hown
      have hbj := HJ.out.bel
      have c0 : wr.cell? ⟨n0, 0, none⟩ = some (.int .u32 a) := row_cell ((hbj.block n0 (blk_lt HP.out)).trans HP.out) 0
      have c1 : wr.cell? ⟨n0, 1, none⟩ = some (.int .i64 n) := row_cell ((hbj.block n0 (blk_lt HP.out)).trans HP.out) 1
      have hn0l : n0 < wr.heap.size := by have := blk_lt HP.out; have := hbj.size; omega
      by_cases hlt : j < L.length
      · obtain ⟨⟨⟨x0, x1⟩, xv⟩, hx⟩ : ∃ x, L[j]? = some x := ⟨_, List.getElem?_eq_getElem hlt⟩
        obtain ⟨b, o, c', he, hbl, hcx⟩ := rd_row HR.out hx
        simp only [Value.slice.injEq] at he
        obtain ⟨rfl, -, rfl⟩ := he
        have hwr : Below w.heap.size w wr := HBZ.out.trans (hbj.mono HBZ.out.size)
        obtain ⟨f0, f1, f2⟩ := hcx wr hwr
        simp only at f0 f1 f2
        have hbl2 : b < wr.heap.size := by have := hwr.size; omega
        have HCX := Lib.hid hcx; have HBL := Lib.hid hbl; have HX := Lib.hid hx; have HWR := Lib.hid hwr
        have e2 : (j : Int) < (L.length : Int) := by omega
        subst hq9
        clear hcx hx hwr hown hO hol hbj hbl
        go_wp2_with fail
        refine wp_region_grows (by kernel_rfl) (by kernel_rfl) ?_
        refine grows_fact n0 0 (.int .u32 a) c0 hn0l fun g0 => ?_
        refine grows_fact n0 1 (.int .i64 n) c1 hn0l fun g1 => ?_
        refine grows_fact b (o + j * 3) (.int .u32 x0) f0 hbl2 fun g2 => ?_
        refine grows_fact b (o + j * 3 + 1) (.int .i64 x1) f1 hbl2 fun g3 => ?_
        repeat (go_big_quiet_step ((go_at_call 32; with_reducible exact Calls.grows_of (rcmp_is _ _ _ _ _))))
        refine wpQuiet_nil ?_
        rintro w2 ⟨⟨_, hb2⟩, rfl⟩
        have HB2 := Lib.hid hb2
        have HW2 := Lib.hid (Below.step HWR.out hb2)
        have HO2 := Lib.hid (own_on HOW.out hb2)
        have HJ2 := Lib.hid (HJ.out.bel.trans (hb2.mono HJ.out.bel.size))
        have c0 : w2.cell? ⟨n0, 0, none⟩ = some (.int .u32 a) := (hb2.cell (p := ⟨n0, 0, none⟩) hn0l).trans c0
        have c1 : w2.cell? ⟨n0, 1, none⟩ = some (.int .i64 n) := (hb2.cell (p := ⟨n0, 1, none⟩) hn0l).trans c1
        have f0 : w2.cell? ⟨b, o + j * 3, none⟩ = some (.int .u32 x0) := (hb2.cell (p := ⟨b, _, none⟩) hbl2).trans f0
        have f1 : w2.cell? ⟨b, o + j * 3 + 1, none⟩ = some (.int .i64 x1) := (hb2.cell (p := ⟨b, _, none⟩) hbl2).trans f1
        have f2 : w2.cell? ⟨b, o + j * 3 + 2, none⟩ = some (.int .i64 xv) := (hb2.cell (p := ⟨b, _, none⟩) hbl2).trans f2
        have hZ2 : Z.heap.size ≤ w2.heap.size := HJ2.out.size
        clear hb2 g0 g1 g2 g3
        obtain ⟨cv, hcv⟩ : ∃ z, cmpI a n x0 x1 = z := ⟨_, rfl⟩
        have h3 := cmpI_three a n x0 x1
        rw [hcv] at h3 ⊢
        have HCV := Lib.hid hcv
        clear hcv
        rcases h3 with rfl | rfl | rfl <;> cases d
        · have hok : O.length + 1 ≤ 100002 := by omega
          go_wp2_with first | ((at_builtin; (refine wpList_append_rdk (enc := encRow) encRow_len (by decide) encRow_one rfl (.tmp 38) (.tmp 42) 26 77 rfl _ 24 Try.underlying26 rfl infoRow Z.heap.size _ O.length _ rfl (HO2.out.alloc _) _ [((a, n), v)] rfl (own_row1 _ _ _ _) (by unfold maxLen; simp; omega) (by simp; omega) (by first | (simp; done) | (simp; omega)) ?_; intro v8 w8 hown hgr hor; clear hor; have HV8 := Lib.hid hown; have HG8 := Lib.hid hgr; clear hown hgr; obtain ⟨p8, c8, rfl⟩ := own_slice HV8.out); have hb8 : Below Z.heap.size w2 w8 := Below.grown ((Below.refl _ _).alloc hZ2 _) HG8.out (by simp; omega) fun x hx => (HO2.out.lt x hx).1; have HB8 := Lib.hid hb8; have hz8 : Z.heap.size ≤ w8.heap.size := Nat.le_trans hZ2 hb8.size; obtain ⟨f0, f1, f2⟩ := HCX.out w8 (HW2.out.trans (hb8.mono (by have := HBZ.out.size; omega))); (try simp only at f0 f1 f2); clear hb8)) | (at_builtin; (refine wpList_append_rdk (enc := encRow) encRow_len (by decide) encRow_one rfl (.tmp 46) (.tmp 51) 26 77 rfl _ 24 Try.underlying26 rfl infoRow Z.heap.size _ (O.length + 1) _ rfl (HV8.out.alloc _) _ [((x0, x1), xv)] rfl (own_row1 _ _ _ _) (by unfold maxLen; simp; omega) (by simp; omega) (by first | (simp; done) | (simp; omega)) ?_; intro v9 w9 hown hgr hor; clear hor; have HV9 := Lib.hid hown; have HG9 := Lib.hid hgr; clear hown hgr; obtain ⟨p9, c9, rfl⟩ := own_slice HV9.out))
          have hs : foR (a, n) v (L.take (j + 1)) = (O ++ [((a, n), v)] ++ [((x0, x1), xv)], true) := by rw [foR_step HX.out, HO.out]; simp [stR, HCV.out]
          go_roundw
          case rel => exact ⟨j + 1, by omega, by go_num, by rw [hs], Lib.hid ⟨by rw [hs]; simpa [flatK] using HV9.out, HJ2.out.trans (HB8.out.trans (Below.grown ((Below.refl _ _).alloc hz8 _) HG9.out (by simp; omega) fun x hx => (HV8.out.lt x hx).1))⟩⟩
          case measure => simp [intOf]; omega
        · go_wp2_with (at_builtin; (refine wpList_append_rdk (enc := encRow) encRow_len (by decide) encRow_one rfl (.tmp 46) (.tmp 51) 26 77 rfl _ 24 Try.underlying26 rfl infoRow Z.heap.size _ O.length _ rfl (HO2.out.alloc _) _ [((x0, x1), xv)] rfl (own_row1 _ _ _ _) (by unfold maxLen; simp; omega) (by simp; omega) (by first | (simp; done) | (simp; omega)) ?_; intro v9 w9 hown hgr hor; clear hor; have HV9 := Lib.hid hown; have HG9 := Lib.hid hgr; clear hown hgr; obtain ⟨p9, c9, rfl⟩ := own_slice HV9.out))
          have hs : foR (a, n) v (L.take (j + 1)) = (O ++ [((x0, x1), xv)], true) := by rw [foR_step HX.out, HO.out]; simp [stR, HCV.out]
          go_roundw
          case rel => exact ⟨j + 1, by omega, by go_num, by rw [hs], Lib.hid ⟨by rw [hs]; simpa [flatK] using HV9.out, HJ2.out.trans (Below.grown ((Below.refl _ _).alloc hZ2 _) HG9.out (by simp; omega) fun x hx => (HO2.out.lt x hx).1)⟩⟩
          case measure => simp [intOf]; omega
        · go_wp2_with (at_builtin; (refine wpList_append_rdk (enc := encRow) encRow_len (by decide) encRow_one rfl (.tmp 38) (.tmp 42) 26 77 rfl _ 24 Try.underlying26 rfl infoRow Z.heap.size _ O.length _ rfl (HO2.out.alloc _) _ [((a, n), v)] rfl (own_row1 _ _ _ _) (by unfold maxLen; simp; omega) (by simp; omega) (by first | (simp; done) | (simp; omega)) ?_; intro v9 w9 hown hgr hor; clear hor; have HV9 := Lib.hid hown; have HG9 := Lib.hid hgr; clear hown hgr; obtain ⟨p9, c9, rfl⟩ := own_slice HV9.out))
          have hs : foR (a, n) v (L.take (j + 1)) = (O ++ [((a, n), v)], true) := by rw [foR_step HX.out, HO.out]; simp [stR, HCV.out]
          go_roundw
          case rel => exact ⟨j + 1, by omega, by go_num, by rw [hs], Lib.hid ⟨by rw [hs]; simpa [flatK] using HV9.out, HJ2.out.trans (Below.grown ((Below.refl _ _).alloc hZ2 _) HG9.out (by simp; omega) fun x hx => (HO2.out.lt x hx).1)⟩⟩
          case measure => simp [intOf]; omega
        · go_wp2_with fail
          have hs : foR (a, n) v (L.take (j + 1)) = (O, true) := by rw [foR_step HX.out, HO.out]; simp [stR, HCV.out]
          go_roundw
          case rel => exact ⟨j + 1, by omega, by go_num, by rw [hs], Lib.hid ⟨by rw [hs]; simpa [flatK] using HO2.out, HJ2.out.trans (Below.refl _ _)⟩⟩
          case measure => simp [intOf]; omega
        · go_wp2_with (at_builtin; (refine wpList_append_rdk (enc := encRow) encRow_len (by decide) encRow_one rfl (.tmp 46) (.tmp 51) 26 77 rfl _ 24 Try.underlying26 rfl infoRow Z.heap.size _ O.length _ rfl (HO2.out.alloc _) _ [((x0, x1), xv)] rfl (own_row1 _ _ _ _) (by unfold maxLen; simp; omega) (by simp; omega) (by first | (simp; done) | (simp; omega)) ?_; intro v9 w9 hown hgr hor; clear hor; have HV9 := Lib.hid hown; have HG9 := Lib.hid hgr; clear hown hgr; obtain ⟨p9, c9, rfl⟩ := own_slice HV9.out))
          have hs : foR (a, n) v (L.take (j + 1)) = (O ++ [((x0, x1), xv)], false) := by rw [foR_step HX.out, HO.out]; simp [stR, HCV.out]
          go_roundw
          case rel => exact ⟨j + 1, by omega, by go_num, by rw [hs], Lib.hid ⟨by rw [hs]; simpa [flatK] using HV9.out, HJ2.out.trans (Below.grown ((Below.refl _ _).alloc hZ2 _) HG9.out (by simp; omega) fun x hx => (HO2.out.lt x hx).1)⟩⟩
          case measure => simp [intOf]; omega
        · go_wp2_with (at_builtin; (refine wpList_append_rdk (enc := encRow) encRow_len (by decide) encRow_one rfl (.tmp 46) (.tmp 51) 26 77 rfl _ 24 Try.underlying26 rfl infoRow Z.heap.size _ O.length _ rfl (HO2.out.alloc _) _ [((x0, x1), xv)] rfl (own_row1 _ _ _ _) (by unfold maxLen; simp; omega) (by simp; omega) (by first | (simp; done) | (simp; omega)) ?_; intro v9 w9 hown hgr hor; clear hor; have HV9 := Lib.hid hown; have HG9 := Lib.hid hgr; clear hown hgr; obtain ⟨p9, c9, rfl⟩ := own_slice HV9.out))
          have hs : foR (a, n) v (L.take (j + 1)) = (O ++ [((x0, x1), xv)], true) := by rw [foR_step HX.out, HO.out]; simp [stR, HCV.out]
          go_roundw
          case rel => exact ⟨j + 1, by omega, by go_num, by rw [hs], Lib.hid ⟨by rw [hs]; simpa [flatK] using HV9.out, HJ2.out.trans (Below.grown ((Below.refl _ _).alloc hZ2 _) HG9.out (by simp; omega) fun x hx => (HO2.out.lt x hx).1)⟩⟩
          case measure => simp [intOf]; omega
      · have hjl : j = L.length := by omega
        subst hjl
        have hd : decide ((L.length : Int) < (L.length : Int)) = false := by simp
        rw [List.take_length] at hO
        cases d with
        | true =>
          subst hq9
          clear c0 c1 hown hO
          go_wp2_with fail
          go_ret2
          refine ⟨_, by rw [HC.out]; rfl, ?_, HBZ.out.trans (HJ.out.bel.mono HBZ.out.size)⟩
          have e : putC (a, n) v L = O := by unfold putC putF; rw [if_pos HC.out, show foR (a, n) v L = (O, true) by rw [← HO.out, List.take_length]]; rfl
          rw [e]
          exact RdK.of_own encRow_len HOW.out
        | false =>
          subst hq9
          have hz : Z.heap.size ≤ wr.heap.size := hbj.size
          have HBJ := Lib.hid hbj
          clear hown hO hbj
          go_wp2_with (at_builtin; (refine wpList_append_rdk (enc := encRow) encRow_len (by decide) encRow_one rfl (.tmp 55) (.tmp 59) 26 77 rfl _ 24 Try.underlying26 rfl infoRow Z.heap.size _ O.length _ rfl (HOW.out.alloc _) _ [((a, n), v)] rfl (own_row1 _ _ _ _) (by unfold maxLen; simp; omega) (by simp; omega) (by first | (simp; done) | (simp; omega)) ?_; intro v9 w10 hown hgr hor; clear hor; have H9 := Lib.hid hown; have HG9 := Lib.hid hgr; clear hown hgr; obtain ⟨p9, c9, rfl⟩ := own_slice H9.out))
          go_ret2
          have hb10 : Below Z.heap.size Z w10 := Below.grown (HBJ.out.alloc HBJ.out.size _) HG9.out (by simp; omega) fun x hx => (HOW.out.lt x hx).1
          refine ⟨_, by rw [HC.out]; rfl, ?_, HBZ.out.trans (hb10.mono HBZ.out.size)⟩
          have e : putC (a, n) v L = O ++ [((a, n), v)] := by unfold putC putF; rw [if_pos HC.out, show foR (a, n) v L = (O, false) by rw [← HO.out, List.take_length]]; rfl
          rw [e]
          refine RdK.of_own encRow_len (b := Z.heap.size) (e := 77) ?_
          simpa [flatK] using H9.out
  · have hc2 : (ck a n != 0) = true := by simpa using hc
    have HC := Lib.hid hc
    obtain ⟨cc, hcc⟩ : ∃ z, ck a n = z := ⟨_, rfl⟩
    have HCC := Lib.hid hcc
    rw [hcc] at hc hc2 ⊢
    clear hcc
    go_wp2_with fail
    go_ret2
    have hb : Below w.heap.size w w1 := Below.step HBZ.out HB1.out
    refine ⟨_, by rw [HCC.out]; rfl, ?_, hb⟩
    unfold putC
    rw [if_neg HC.out]
    exact HR.out.below hb
end Go.Proofs.Ytodfimnmbfdicaa
