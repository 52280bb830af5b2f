/- What At, Within and Drop of the reference do with rows. Under the conditions that they name. -/
import Derived.Test.YtodfimnmbfdicaaTuB
namespace Go.Proofs.Ytodfimnmbfdicaa
open Go.RowKit Go.Shelf
attribute [local go_sem] Oper.semAt_some
def withR (b m : Int) (L : List Kv) : List Kv := L.filter fun x => wiB x.1.1 x.1.2 b m
def dropR (b m : Int) (L : List Kv) : List Kv := L.filter fun x => !decide (x.1.1 = b ∧ x.1.2 = m)
/-- What Drop answers: the error, and the rows. -/
def dropE (b m : Int) (L : List Kv) : Int := if ck b m = 0 then (if (dropR b m L).length = L.length then 5 else 0) else ck b m
def dropV (b m : Int) (L : List Kv) : List Kv := if ck b m = 0 then dropR b m L else L
theorem filter_step {p : Kv → Bool} {L : List Kv} {j : Nat} {x : Kv} (h : L[j]? = some x) : (L.take (j + 1)).filter p = (L.take j).filter p ++ (if p x then [x] else []) := by
  rw [List.take_add_one, h, List.filter_append]
  simp [List.filter_cons]
theorem filter_len (p : Kv → Bool) (L : List Kv) (j : Nat) : ((L.take j).filter p).length ≤ j := Nat.le_trans (List.length_filter_le _ _) (by rw [List.length_take]; omega)
theorem getL_take {p : Int × Int} {L : List Kv} {j : Nat} {x : Kv} (h : L[j]? = some x) (hn : getL p (L.take j) = none) (hx : ¬ (x.1.1 = p.1 ∧ x.1.2 = p.2)) : getL p (L.take (j + 1)) = none := by
  rw [List.take_add_one, h]
  generalize L.take j = M at hn
  induction M with
  | nil =>
    simp only [Option.toList_some, List.nil_append]
    unfold getL
    rw [if_neg (fun e => hx (by rw [e]; exact ⟨rfl, rfl⟩))]
    rfl
  | cons y M ih =>
    unfold getL at hn
    rw [List.cons_append]
    unfold getL
    split at hn
    · cases hn
    · rename_i hne; rw [if_neg hne]; exact ih hn
theorem getL_found {p : Int × Int} {L : List Kv} {j : Nat} {x : Kv} (h : L[j]? = some x) (hn : getL p (L.take j) = none) (hx : x.1.1 = p.1 ∧ x.1.2 = p.2) : getL p L = some x.2 := by
  induction L generalizing j with
  | nil => simp at h
  | cons y L ih =>
    cases j with
    | zero =>
      simp at h; subst h
      unfold getL
      rw [if_pos (Prod.ext hx.1 hx.2)]
    | succ j =>
      rw [List.take_succ_cons] at hn
      unfold getL at hn
      split at hn
      · cases hn
      · rename_i hne
        unfold getL
        rw [if_neg hne]
        exact ih (by simpa using h) hn
/-- What a loop that sifts keeps. -/
structure SiftJ (Z : World) (p : Kv → Bool) (L : List Kv) (j : Nat) (s : Value) (wr : World) : Prop where
  own : wr.ownsRow Z.heap.size 77 3 s ((L.take j).filter p).length (flatK encRow ((L.take j).filter p))
  bel : Below Z.heap.size Z wr
set_option maxRecDepth 100000 in
set_option maxHeartbeats 4000000 in
theorem rat_is (L : List Kv) (lv : Value) (a n : Int) (w : World) (hr : RdK encRow 3 w lv L) :
    Calls Try.prog 43 #[lv, .agg #[.int .u32 a, .int .i64 n]] w fun e w' => e = .returned (.tuple #[.int .i64 ((getL (a, n) L).getD 0), .bool (getL (a, n) L).isSome]) ∧ Below w.heap.size w w' := by
  have HR := Lib.hid hr
  obtain ⟨p, c, rfl, hlc, hcm, _⟩ := hr.sl
  unfold maxLen at hcm
  obtain ⟨n0, hn0⟩ : ∃ n0, w.heap.size = n0 := ⟨_, rfl⟩
  obtain ⟨Z, hZ⟩ : ∃ Z, w.alloc (.cells #[.int .u32 a, .int .i64 n] 34) = Z := ⟨_, rfl⟩
  have hBZ : Below w.heap.size w Z := by rw [← hZ]; exact (Below.refl _ _).alloc (Nat.le_refl _) _
  have hp : Z.heap[n0]? = some (.cells #[.int .u32 a, .int .i64 n] 34 (0, 0)) := by rw [← hZ, ← hn0]; exact heap_alloc_new w _
  have c0 : Z.cell? ⟨n0, 0, none⟩ = some (.int .u32 a) := row_cell hp 0
  have c1 : Z.cell? ⟨n0, 1, none⟩ = some (.int .i64 n) := row_cell hp 1
  have HBZ := Lib.hid hBZ; have HP := Lib.hid hp; have HN0 := Lib.hid hn0
  clear hr hBZ hp c0 c1
  go_enter Try.func43, Try.ntmps43
  go_wp2_with fail
  clear hZ hn0
  go_loopw [6] (fun s6 wr => ∃ j : Nat, j ≤ L.length ∧ s6 = .int .i64 j ∧ Hid (getL (a, n) (L.take j) = none) ∧ Hid (Below Z.heap.size Z wr)) (fun s6 _ => L.length - (intOf s6).toNat)
  case atStart => exact ⟨0, Nat.zero_le _, rfl, Lib.hid rfl, Lib.hid (Below.refl _ _)⟩
  case round =>
    obtain ⟨j, hj, rfl, HG, HJ⟩ := hrel
    have e1 : (0 : Int) ≤ (j : Int) := by omega
    have hbj := HJ.out
    have c0 : wr.cell? ⟨n0, 0, none⟩ = some (.int .u32 a) := row_cell ((hbj.block n0 (blk_lt HP.out)).trans HP.out) 0
    have c1 : wr.cell? ⟨n0, 1, none⟩ = some (.int .i64 n) := row_cell ((hbj.block n0 (blk_lt HP.out)).trans HP.out) 1
    have hn0l : n0 < wr.heap.size := by have := blk_lt HP.out; have := hbj.size; omega
    have hwr : Below w.heap.size w wr := HBZ.out.trans (hbj.mono HBZ.out.size)
    have HWR := Lib.hid hwr
    clear hbj hwr
    by_cases hlt : j < L.length
    · obtain ⟨⟨⟨x0, x1⟩, xv⟩, hx⟩ : ∃ x, L[j]? = some x := ⟨_, List.getElem?_eq_getElem hlt⟩
      obtain ⟨b, o, c', he, hbl, hcx⟩ := rd_row HR.out hx
      simp only [Value.slice.injEq] at he
      obtain ⟨rfl, -, rfl⟩ := he
      obtain ⟨f0, f1, f2⟩ := hcx wr HWR.out
      simp only at f0 f1 f2
      have hbl2 : b < wr.heap.size := by have := HWR.out.size; omega
      have HX := Lib.hid hx
      have e2 : (j : Int) < (L.length : Int) := by omega
      clear hcx hx hbl
      have hge := guardP .eql
      have he := fun W => eqlP x0 x1 a n W
      by_cases heq : x0 = a ∧ x1 = n
      · have d1 : decide (x0 = a ∧ x1 = n) = true := by simpa using heq
        rw [d1] at he
        have HF := Lib.hid (getL_found HX.out HG.out heq)
        clear d1 heq
        go_wp2_with fail
        refine wp_region_grows (by kernel_rfl) (by kernel_rfl) ?_
        refine grows_fact n0 0 (.int .u32 a) c0 hn0l fun g0 => ?_
        refine grows_fact n0 1 (.int .i64 n) c1 hn0l fun g1 => ?_
        refine grows_fact b (o + j * 3) (.int .u32 x0) f0 hbl2 fun g2 => ?_
        refine grows_fact b (o + j * 3 + 1) (.int .i64 x1) f1 hbl2 fun g3 => ?_
        repeat (go_big_quiet_step (fail))
        refine wpQuiet_nil ?_
        rintro w2 ⟨⟨_, hb2⟩, rfl⟩
        have f2 : w2.cell? ⟨b, o + j * 3 + 2, none⟩ = some (.int .i64 xv) := (hb2.cell (p := ⟨b, _, none⟩) hbl2).trans f2
        have HB2 := Lib.hid hb2
        clear hb2 g0 g1 g2 g3
        go_wp2_with fail
        go_ret2
        exact ⟨by rw [HF.out]; rfl, Below.step HWR.out HB2.out⟩
      · have d1 : decide (x0 = a ∧ x1 = n) = false := by simpa using heq
        rw [d1] at he
        have HG2 := Lib.hid (getL_take HX.out HG.out heq)
        clear d1 heq
        go_wp2_with fail
        refine wp_region_grows (by kernel_rfl) (by kernel_rfl) ?_
        refine grows_fact n0 0 (.int .u32 a) c0 hn0l fun g0 => ?_
        refine grows_fact n0 1 (.int .i64 n) c1 hn0l fun g1 => ?_
        refine grows_fact b (o + j * 3) (.int .u32 x0) f0 hbl2 fun g2 => ?_
        refine grows_fact b (o + j * 3 + 1) (.int .i64 x1) f1 hbl2 fun g3 => ?_
        repeat (go_big_quiet_step (fail))
        refine wpQuiet_nil ?_
        rintro w2 ⟨⟨_, hb2⟩, rfl⟩
        have HB2 := Lib.hid hb2
        clear hb2 g0 g1 g2 g3
        go_wp2_with fail
        go_roundw
        case rel => exact ⟨j + 1, by omega, by go_num, HG2, Lib.hid (HJ.out.trans (HB2.out.mono HJ.out.size))⟩
        case measure => simp [intOf]; omega
    · have hjl : j = L.length := by omega
      subst hjl
      have hd : decide ((L.length : Int) < (L.length : Int)) = false := by simp
      have HF := HG.out
      rw [List.take_length] at HF
      have HF := Lib.hid HF
      clear c0 c1
      go_wp2_with fail
      go_ret2
      exact ⟨by rw [HF.out]; rfl, HBZ.out.trans (HJ.out.mono HBZ.out.size)⟩
set_option maxRecDepth 100000 in
set_option maxHeartbeats 4000000 in
theorem rwin_is (L : List Kv) (lv : Value) (a n : Int) (w : World) (hr : RdK encRow 3 w lv L) (hl : L.length ≤ 100000) (hrg : ∀ x ∈ L, 0 ≤ x.1.1 ∧ x.1.1 < 4294967296) (ha : 0 ≤ a) (ha2 : a < 4294967296) :
    Calls Try.prog 44 #[lv, .agg #[.int .u32 a, .int .i64 n]] w fun e w' => ∃ v', e = .returned v' ∧ RdK encRow 3 w' v' (withR a n L) ∧ Below w.heap.size w w' := by
  have HR := Lib.hid hr; have HRG := Lib.hid hrg
  obtain ⟨p, c, rfl, hlc, hcm, _⟩ := hr.sl
  unfold maxLen at hcm
  obtain ⟨n0, hn0⟩ : ∃ n0, w.heap.size = n0 := ⟨_, rfl⟩
  obtain ⟨Z, hZ⟩ : ∃ Z, w.alloc (.cells #[.int .u32 a, .int .i64 n] 34) = Z := ⟨_, rfl⟩
  have hBZ : Below w.heap.size w Z := by rw [← hZ]; exact (Below.refl _ _).alloc (Nat.le_refl _) _
  have hp : Z.heap[n0]? = some (.cells #[.int .u32 a, .int .i64 n] 34 (0, 0)) := by rw [← hZ, ← hn0]; exact heap_alloc_new w _
  have c0 : Z.cell? ⟨n0, 0, none⟩ = some (.int .u32 a) := row_cell hp 0
  have c1 : Z.cell? ⟨n0, 1, none⟩ = some (.int .i64 n) := row_cell hp 1
  have HBZ := Lib.hid hBZ; have HP := Lib.hid hp; have HN0 := Lib.hid hn0
  clear hr hrg hBZ hp c0 c1
  go_enter Try.func44, Try.ntmps44
  go_wp2_with fail
  clear hZ hn0
  obtain ⟨P, hP⟩ : ∃ P : Kv → Bool, (fun x : Kv => wiB x.1.1 x.1.2 a n) = P := ⟨_, rfl⟩
  have HP2 : Hid (withR a n L = L.filter P) := Lib.hid (by rw [← hP]; rfl)
  have HPV : Hid (∀ x : Kv, P x = wiB x.1.1 x.1.2 a n) := Lib.hid fun x => by rw [← hP]
  clear hP
  go_loopw [5, 6] (fun s5 s6 wr => ∃ j : Nat, j ≤ L.length ∧ s6 = .int .i64 j ∧ Hid (SiftJ Z P L j s5 wr)) (fun _ s6 _ => L.length - (intOf s6).toNat)
  case atStart => exact ⟨0, Nat.zero_le _, rfl, Lib.hid ⟨own_none _ _, Below.refl _ _⟩⟩
  case round =>
    obtain ⟨j, hj, rfl, HJ⟩ := hrel
    have e1 : (0 : Int) ≤ (j : Int) := by omega
    have hbj := HJ.out.bel
    have c0 : wr.cell? ⟨n0, 0, none⟩ = some (.int .u32 a) := row_cell ((hbj.block n0 (blk_lt HP.out)).trans HP.out) 0
    have c1 : wr.cell? ⟨n0, 1, none⟩ = some (.int .i64 n) := row_cell ((hbj.block n0 (blk_lt HP.out)).trans HP.out) 1
    have hn0l : n0 < wr.heap.size := by have := blk_lt HP.out; have := hbj.size; omega
    have hwr : Below w.heap.size w wr := HBZ.out.trans (hbj.mono HBZ.out.size)
    have HWR := Lib.hid hwr
    clear hbj hwr
    have HOW := Lib.hid HJ.out.own
    obtain ⟨q9, k9, hq9⟩ := own_slice HJ.out.own
    have hol := filter_len P L j
    by_cases hlt : j < L.length
    · obtain ⟨⟨⟨x0, x1⟩, xv⟩, hx⟩ : ∃ x, L[j]? = some x := ⟨_, List.getElem?_eq_getElem hlt⟩
      have hrx := HRG.out _ (List.mem_of_getElem? hx)
      simp only at hrx
      obtain ⟨b, o, c', he, hbl, hcx⟩ := rd_row HR.out hx
      simp only [Value.slice.injEq] at he
      obtain ⟨rfl, -, rfl⟩ := he
      obtain ⟨f0, f1, f2⟩ := hcx wr HWR.out
      simp only at f0 f1 f2
      have hbl2 : b < wr.heap.size := by have := HWR.out.size; omega
      have HX := Lib.hid hx
      have e2 : (j : Int) < (L.length : Int) := by omega
      clear hcx hx hbl
      obtain ⟨tv, htv⟩ : ∃ t, P ((x0, x1), xv) = t := ⟨_, rfl⟩
      have HWI : Hid (∀ W, Calls Try.prog 28 #[.agg #[.int .u32 x0, .int .i64 x1], .agg #[.int .u32 a, .int .i64 n]] W fun e w' => e = .returned (.bool tv) ∧ Below W.heap.size W w') := Lib.hid fun W => by
        have h := rwithin_is x0 x1 a n W hrx.1 hrx.2 ha ha2
        rw [← htv, HPV.out]
        exact h
      have HTV := Lib.hid htv
      clear htv hrx
      subst hq9
      cases tv with
      | true =>
        go_wp2_with fail
        refine wp_region_grows (by kernel_rfl) (by kernel_rfl) ?_
        refine grows_fact n0 0 (.int .u32 a) c0 hn0l fun g0 => ?_
        refine grows_fact n0 1 (.int .i64 n) c1 hn0l fun g1 => ?_
        refine grows_fact b (o + j * 3) (.int .u32 x0) f0 hbl2 fun g2 => ?_
        refine grows_fact b (o + j * 3 + 1) (.int .i64 x1) f1 hbl2 fun g3 => ?_
        repeat (go_big_quiet_step ((go_at_call 28; with_reducible exact Calls.grows_of (HWI.out _))))
        refine wpQuiet_nil ?_
        rintro w2 ⟨⟨_, hb2⟩, rfl⟩
        have HO2 := Lib.hid (own_on HOW.out hb2)
        have HJ2 := Lib.hid (HJ.out.bel.trans (hb2.mono HJ.out.bel.size))
        have f0 : w2.cell? ⟨b, o + j * 3, none⟩ = some (.int .u32 x0) := (hb2.cell (p := ⟨b, o + j * 3, none⟩) hbl2).trans f0
        have f1 : w2.cell? ⟨b, o + j * 3 + 1, none⟩ = some (.int .i64 x1) := (hb2.cell (p := ⟨b, o + j * 3 + 1, none⟩) hbl2).trans f1
        have f2 : w2.cell? ⟨b, o + j * 3 + 2, none⟩ = some (.int .i64 xv) := (hb2.cell (p := ⟨b, o + j * 3 + 2, none⟩) hbl2).trans f2
        have hZ2 : Z.heap.size ≤ w2.heap.size := HJ2.out.size
        clear hb2 g0 g1 g2 g3
        obtain ⟨K, hK⟩ : ∃ K, (L.take j).filter P = K := ⟨_, rfl⟩
        have hs : (L.take (j + 1)).filter P = K ++ [((x0, x1), xv)] := by rw [filter_step HX.out, hK, HTV.out]; rfl
        rw [hK] at hol
        have ho2 := HO2.out
        rw [hK] at ho2
        rw [hK]
        have HO3 := Lib.hid ho2
        have HS := Lib.hid hs
        clear ho2 HO2 hK hs
        go_wp2_with (at_builtin; refine wpList_append_rdk (enc := encRow) encRow_len (by decide) encRow_one rfl (.tmp 20) (.tmp 25) 26 77 rfl _ 24 Try.underlying26 rfl infoRow Z.heap.size _ K.length _ rfl (HO3.out.alloc _) _ [((x0, x1), xv)] rfl (own_row1 _ _ _ _) (by unfold maxLen; simp; omega) (by simp; omega) (by first | (simp; done) | (simp; omega)) ?_; intro v9 w9 hown hgr hor; clear hor; have HV9 := Lib.hid hown; have HG9 := Lib.hid hgr; clear hown hgr; obtain ⟨p9, c9, rfl⟩ := own_slice HV9.out)
        go_roundw
        case rel => exact ⟨j + 1, by omega, by go_num, Lib.hid ⟨by rw [HS.out]; simpa [flatK] using HV9.out, HJ2.out.trans (Below.grown ((Below.refl _ _).alloc hZ2 _) HG9.out (by simp; omega) fun x hx => (HO3.out.lt x hx).1)⟩⟩
        case measure => simp [intOf]; omega
      | false =>
        go_wp2_with fail
        refine wp_region_grows (by kernel_rfl) (by kernel_rfl) ?_
        refine grows_fact n0 0 (.int .u32 a) c0 hn0l fun g0 => ?_
        refine grows_fact n0 1 (.int .i64 n) c1 hn0l fun g1 => ?_
        refine grows_fact b (o + j * 3) (.int .u32 x0) f0 hbl2 fun g2 => ?_
        refine grows_fact b (o + j * 3 + 1) (.int .i64 x1) f1 hbl2 fun g3 => ?_
        repeat (go_big_quiet_step ((go_at_call 28; with_reducible exact Calls.grows_of (HWI.out _))))
        refine wpQuiet_nil ?_
        rintro w2 ⟨⟨_, hb2⟩, rfl⟩
        have HO2 := Lib.hid (own_on HOW.out hb2)
        have HJ2 := Lib.hid (HJ.out.bel.trans (hb2.mono HJ.out.bel.size))
        have HS := Lib.hid (show (L.take (j + 1)).filter P = (L.take j).filter P by rw [filter_step HX.out, HTV.out]; simp)
        clear hb2 g0 g1 g2 g3
        go_wp2_with fail
        go_roundw
        case rel => exact ⟨j + 1, by omega, by go_num, Lib.hid ⟨by rw [HS.out]; exact HO2.out, HJ2.out⟩⟩
        case measure => simp [intOf]; omega
    · have hjl : j = L.length := by omega
      subst hjl
      have hd : decide ((L.length : Int) < (L.length : Int)) = false := by simp
      obtain ⟨K, hK⟩ : ∃ K, (L.take L.length).filter P = K := ⟨_, rfl⟩
      have HK : Hid (withR a n L = K) := Lib.hid (by rw [HP2.out, ← hK, List.take_length])
      have ho := HOW.out
      rw [hK] at ho
      have HO := Lib.hid ho
      rw [hK] at hq9
      clear c0 c1 hK ho HOW
      subst hq9
      go_wp2_with fail
      go_ret
      refine ⟨_, rfl, ?_, HBZ.out.trans (HJ.out.bel.mono HBZ.out.size)⟩
      rw [HK.out]
      exact RdK.of_own encRow_len HO.out
set_option maxRecDepth 100000 in
set_option maxHeartbeats 4000000 in
theorem rdrop_is (L : List Kv) (lv : Value) (a n : Int) (w : World) (hr : RdK encRow 3 w lv L) (hl : L.length ≤ 100000) (ha : 0 ≤ a) (ha2 : a < 4294967296) :
    Calls Try.prog 14 #[lv, .agg #[.int .u32 a, .int .i64 n]] w fun e w' => ∃ v', e = .returned (.tuple #[v', .int .i64 (dropE a n L)]) ∧ RdK encRow 3 w' v' (dropV a n L) ∧ Below w.heap.size w w' := by
  have HR := Lib.hid hr
  obtain ⟨p, c, rfl, hlc, hcm, _⟩ := hr.sl
  unfold maxLen at hcm
  obtain ⟨n0, hn0⟩ : ∃ n0, w.heap.size = n0 := ⟨_, rfl⟩
  obtain ⟨Z, hZ⟩ : ∃ Z, w.alloc (.cells #[.int .u32 a, .int .i64 n] 34) = Z := ⟨_, rfl⟩
  have hBZ : Below w.heap.size w Z := by rw [← hZ]; exact (Below.refl _ _).alloc (Nat.le_refl _) _
  have hp : Z.heap[n0]? = some (.cells #[.int .u32 a, .int .i64 n] 34 (0, 0)) := by rw [← hZ, ← hn0]; exact heap_alloc_new w _
  have c0 : Z.cell? ⟨n0, 0, none⟩ = some (.int .u32 a) := row_cell hp 0
  have c1 : Z.cell? ⟨n0, 1, none⟩ = some (.int .i64 n) := row_cell hp 1
  have HBZ := Lib.hid hBZ; have HP := Lib.hid hp; have HN0 := Lib.hid hn0
  clear hr hBZ hp
  go_enter Try.func14, Try.ntmps14
  go_wp2_with fail
  clear hZ hn0
  go_at_call 16
  refine (rcheck_is a n Z ha ha2).mono ?_
  rintro e w1 ⟨rfl, hb1⟩
  have HB1 := Lib.hid hb1
  clear c0 c1 hb1
  by_cases hc : ck a n = 0
  · have HC := Lib.hid hc
    rw [hc]
    clear hc
    go_wp2_with fail
    obtain ⟨P, hP⟩ : ∃ P : Kv → Bool, (fun x : Kv => !decide (x.1.1 = a ∧ x.1.2 = n)) = P := ⟨_, rfl⟩
    have HP2 : Hid (dropR a n L = L.filter P) := Lib.hid (by rw [← hP]; rfl)
    have HPV : Hid (∀ x : Kv, P x = !decide (x.1.1 = a ∧ x.1.2 = n)) := Lib.hid fun x => by rw [← hP]
    clear hP
    go_loopw [7, 8] (fun s5 s6 wr => ∃ j : Nat, j ≤ L.length ∧ s6 = .int .i64 j ∧ Hid (SiftJ Z P L j s5 wr)) (fun _ s6 _ => L.length - (intOf s6).toNat)
    case atStart => exact ⟨0, Nat.zero_le _, rfl, Lib.hid ⟨own_none _ _, HB1.out⟩⟩
    case round =>
      obtain ⟨j, hj, rfl, HJ⟩ := hrel
      have e1 : (0 : Int) ≤ (j : Int) := by omega
      have hbj := HJ.out.bel
      have c0 : wr.cell? ⟨n0, 0, none⟩ = some (.int .u32 a) := row_cell ((hbj.block n0 (blk_lt HP.out)).trans HP.out) 0
      have c1 : wr.cell? ⟨n0, 1, none⟩ = some (.int .i64 n) := row_cell ((hbj.block n0 (blk_lt HP.out)).trans HP.out) 1
      have hn0l : n0 < wr.heap.size := by have := blk_lt HP.out; have := hbj.size; omega
      have hwr : Below w.heap.size w wr := HBZ.out.trans (hbj.mono HBZ.out.size)
      have HWR := Lib.hid hwr
      clear hbj hwr
      have HOW := Lib.hid HJ.out.own
      obtain ⟨q9, k9, hq9⟩ := own_slice HJ.out.own
      have hol := filter_len P L j
      by_cases hlt : j < L.length
      · obtain ⟨⟨⟨x0, x1⟩, xv⟩, hx⟩ : ∃ x, L[j]? = some x := ⟨_, List.getElem?_eq_getElem hlt⟩
        obtain ⟨b, o, c', he, hbl, hcx⟩ := rd_row HR.out hx
        simp only [Value.slice.injEq] at he
        obtain ⟨rfl, -, rfl⟩ := he
        obtain ⟨f0, f1, f2⟩ := hcx wr HWR.out
        simp only at f0 f1 f2
        have hbl2 : b < wr.heap.size := by have := HWR.out.size; omega
        have HX := Lib.hid hx
        have e2 : (j : Int) < (L.length : Int) := by omega
        clear hcx hx hbl
        have hge := guardP .neq
        have he := fun W => neqP x0 x1 a n W
        subst hq9
        by_cases heq : x0 = a ∧ x1 = n
        · have d1 : decide (x0 = a ∧ x1 = n) = true := by simpa using heq
          rw [d1] at he
          have HTV : Hid (P ((x0, x1), xv) = false) := Lib.hid (by rw [HPV.out]; show (!decide (x0 = a ∧ x1 = n)) = false; rw [d1]; rfl)
          clear d1 heq
          go_wp2_with fail
          refine wp_region_grows (by kernel_rfl) (by kernel_rfl) ?_
          refine grows_fact n0 0 (.int .u32 a) c0 hn0l fun g0 => ?_
          refine grows_fact n0 1 (.int .i64 n) c1 hn0l fun g1 => ?_
          refine grows_fact b (o + j * 3) (.int .u32 x0) f0 hbl2 fun g2 => ?_
          refine grows_fact b (o + j * 3 + 1) (.int .i64 x1) f1 hbl2 fun g3 => ?_
          repeat (go_big_quiet_step (fail))
          refine wpQuiet_nil ?_
          rintro w2 ⟨⟨_, hb2⟩, rfl⟩
          have HO2 := Lib.hid (own_on HOW.out hb2)
          have HJ2 := Lib.hid (HJ.out.bel.trans (hb2.mono HJ.out.bel.size))
          have HS := Lib.hid (show (L.take (j + 1)).filter P = (L.take j).filter P by rw [filter_step HX.out, HTV.out]; simp)
          clear hb2 g0 g1 g2 g3
          go_wp2_with fail
          go_roundw
          case rel => exact ⟨j + 1, by omega, by go_num, Lib.hid ⟨by rw [HS.out]; exact HO2.out, HJ2.out⟩⟩
          case measure => simp [intOf]; omega
        · have d1 : decide (x0 = a ∧ x1 = n) = false := by simpa using heq
          rw [d1] at he
          have HTV : Hid (P ((x0, x1), xv) = true) := Lib.hid (by rw [HPV.out]; show (!decide (x0 = a ∧ x1 = n)) = true; rw [d1]; rfl)
          clear d1 heq
          go_wp2_with fail
          refine wp_region_grows (by kernel_rfl) (by kernel_rfl) ?_
          refine grows_fact n0 0 (.int .u32 a) c0 hn0l fun g0 => ?_
          refine grows_fact n0 1 (.int .i64 n) c1 hn0l fun g1 => ?_
          refine grows_fact b (o + j * 3) (.int .u32 x0) f0 hbl2 fun g2 => ?_
          refine grows_fact b (o + j * 3 + 1) (.int .i64 x1) f1 hbl2 fun g3 => ?_
          repeat (go_big_quiet_step (fail))
          refine wpQuiet_nil ?_
          rintro w2 ⟨⟨_, hb2⟩, rfl⟩
          have HO2 := Lib.hid (own_on HOW.out hb2)
          have HJ2 := Lib.hid (HJ.out.bel.trans (hb2.mono HJ.out.bel.size))
          have f0 : w2.cell? ⟨b, o + j * 3, none⟩ = some (.int .u32 x0) := (hb2.cell (p := ⟨b, o + j * 3, none⟩) hbl2).trans f0
          have f1 : w2.cell? ⟨b, o + j * 3 + 1, none⟩ = some (.int .i64 x1) := (hb2.cell (p := ⟨b, o + j * 3 + 1, none⟩) hbl2).trans f1
          have f2 : w2.cell? ⟨b, o + j * 3 + 2, none⟩ = some (.int .i64 xv) := (hb2.cell (p := ⟨b, o + j * 3 + 2, none⟩) hbl2).trans f2
          have hZ2 : Z.heap.size ≤ w2.heap.size := HJ2.out.size
          clear hb2 g0 g1 g2 g3
          obtain ⟨K, hK⟩ : ∃ K, (L.take j).filter P = K := ⟨_, rfl⟩
          have hs : (L.take (j + 1)).filter P = K ++ [((x0, x1), xv)] := by rw [filter_step HX.out, hK, HTV.out]; rfl
          rw [hK] at hol
          have ho2 := HO2.out
          rw [hK] at ho2
          rw [hK]
          have HO3 := Lib.hid ho2
          have HS := Lib.hid hs
          clear ho2 HO2 hK hs
          go_wp2_with (at_builtin; refine wpList_append_rdk (enc := encRow) encRow_len (by decide) encRow_one rfl (.tmp 28) (.tmp 33) 26 77 rfl _ 24 Try.underlying26 rfl infoRow Z.heap.size _ K.length _ rfl (HO3.out.alloc _) _ [((x0, x1), xv)] rfl (own_row1 _ _ _ _) (by unfold maxLen; simp; omega) (by simp; omega) (by first | (simp; done) | (simp; omega)) ?_; intro v9 w9 hown hgr hor; clear hor; have HV9 := Lib.hid hown; have HG9 := Lib.hid hgr; clear hown hgr; obtain ⟨p9, c9, rfl⟩ := own_slice HV9.out)
          go_roundw
          case rel => exact ⟨j + 1, by omega, by go_num, Lib.hid ⟨by rw [HS.out]; simpa [flatK] using HV9.out, HJ2.out.trans (Below.grown ((Below.refl _ _).alloc hZ2 _) HG9.out (by simp; omega) fun x hx => (HO3.out.lt x hx).1)⟩⟩
          case measure => simp [intOf]; omega
      · have hjl : j = L.length := by omega
        subst hjl
        have hd : decide ((L.length : Int) < (L.length : Int)) = false := by simp
        obtain ⟨K, hK⟩ : ∃ K, (L.take L.length).filter P = K := ⟨_, rfl⟩
        have HK : Hid (dropR a n L = K) := Lib.hid (by rw [HP2.out, ← hK, List.take_length])
        have hkl : K.length ≤ L.length := by rw [← hK]; exact filter_len _ _ _
        have ho := HOW.out
        rw [hK] at ho
        have HO := Lib.hid ho
        rw [hK] at hq9
        clear c0 c1 hK ho HOW
        subst hq9
        by_cases hkk : K.length = L.length
        · have hke : K = L := by
            have : (dropR a n L).length = L.length := by rw [HK.out]; exact hkk
            rw [← HK.out]
            exact List.filter_eq_self.2 (List.length_filter_eq_length_iff.1 this)
          have d1 : ((K.length : Int) == (L.length : Int)) = true := by simpa using (by omega : (K.length : Int) = L.length)
          have HKK := Lib.hid hkk; have HKE := Lib.hid hke
          clear hkk hke hkl
          go_wp2_with fail
          go_ret2
          have hbb := HBZ.out.trans (HJ.out.bel.mono HBZ.out.size)
          refine ⟨_, by rw [show dropE a n L = 5 by unfold dropE; rw [if_pos HC.out, if_pos (by rw [HK.out]; exact HKK.out)]]; rfl, ?_, hbb⟩
          unfold dropV
          rw [if_pos HC.out, HK.out, HKE.out]
          exact HR.out.below hbb
        · have d1 : ((K.length : Int) == (L.length : Int)) = false := by simpa using (by omega : ¬ (K.length : Int) = L.length)
          have HKK := Lib.hid hkk
          clear hkk hkl
          go_wp2_with fail
          go_ret2
          refine ⟨_, by rw [show dropE a n L = 0 by unfold dropE; rw [if_pos HC.out, if_neg (by rw [HK.out]; exact HKK.out)]]; rfl, ?_, HBZ.out.trans (HJ.out.bel.mono HBZ.out.size)⟩
          unfold dropV
          rw [if_pos HC.out, HK.out]
          exact RdK.of_own encRow_len HO.out
  · have hc2 : (ck a n != 0) = true := by simpa using hc
    have HC := Lib.hid hc
    obtain ⟨cc, hcc⟩ : ∃ z, ck a n = z := ⟨_, rfl⟩
    have HCC := Lib.hid hcc
    rw [hcc] at hc hc2 ⊢
    clear hcc
    go_wp2_with fail
    go_ret2
    have hb : Below w.heap.size w w1 := Below.step HBZ.out HB1.out
    refine ⟨_, by rw [show dropE a n L = cc by unfold dropE; rw [if_neg HC.out, HCC.out]]; rfl, ?_, hb⟩
    unfold dropV
    rw [if_neg HC.out]
    exact HR.out.below hb
end Go.Proofs.Ytodfimnmbfdicaa
