/- What the law's rows says of a sequence and of the rows that it goes over: true. Under the conditions that it names. -/
import Derived.Test.YtodfimnmbfdicaaTuF
import Derived.Test.YtodfimnmbfdicaaSpRd
namespace Go.Proofs.Ytodfimnmbfdicaa
open Go.RowKit Go.Shelf
attribute [local go_sem] Oper.semAt_some
theorem getElem_pre {R : List Kv} {q : List Kv} {y : Kv} (h : q ++ [y] <+: R) : R[q.length]? = some y := by
  obtain ⟨t, rfl⟩ := h
  simp
set_option maxRecDepth 100000 in
set_option maxHeartbeats 16000000 in
theorem rows_fn (P : Nat → Prop) (R : List Kv) (sv wv : Value) (leave : Int) (w : World) (hit : Iter P w sv R) (hP : ∀ y, P y → y < w.heap.size) (hr : RdK encRow 3 w wv R) (hl : R.length ≤ 100000) :
    Calls Try.prog 18 #[sv, wv, .int .i64 leave] w fun e w' => e = .returned (.bool true) ∧ Below w.heap.size w w' := by
  have HR := Lib.hid hr
  obtain ⟨p, c, rfl, hlc, hcm, _⟩ := hr.sl
  unfold maxLen at hcm
  obtain ⟨n0, hn0⟩ : ∃ n0, w.heap.size = n0 := ⟨_, rfl⟩
  obtain ⟨wr, hwr⟩ : ∃ X, ((w.alloc (.cells #[.slice p R.length c] 26)).alloc (.cells #[.int .i64 leave] 3)).alloc (.cells #[.bool false] 4) = X := ⟨_, rfl⟩
  have hbr : Below w.heap.size w wr := by rw [← hwr]; exact (((Below.refl _ _).alloc (Nat.le_refl _) _).alloc (by simp) _).alloc (by simp; omega) _
  have hrows := rows3 w (.cells #[.slice p R.length c] 26) (.cells #[.int .i64 leave] 3) (.cells #[.bool false] 4)
  rw [hwr, hn0] at hrows
  have hwz : wr.heap.size = n0 + 3 := by rw [← hwr, ← hn0]; simp
  have HROW := Lib.hid hrows; have HBR := Lib.hid hbr; have HN0 := Lib.hid hn0
  obtain ⟨N, hN⟩ : ∃ N, wr.heap.size = N := ⟨_, rfl⟩
  have HNN := Lib.hid hN
  have hNn : N = n0 + 3 := by omega
  have HNN0 := Lib.hid hNn
  obtain ⟨w1, hw1⟩ : ∃ X, wr.alloc (.cells #[.int .i64 0] 3) = X := ⟨_, rfl⟩
  have hc1 : C1 N wr 0 w1 := ⟨by rw [← hw1, ← hN]; exact (Below.refl _ _).alloc (Nat.le_refl _) _, by rw [← hw1, ← hN]; exact heap_alloc_new wr _⟩
  have hw1z : w1.heap.size = N + 1 := by rw [← hw1, ← hN]; simp
  have HC1 := Lib.hid hc1; have HW1Z := Lib.hid hw1z; have HW1 := Lib.hid hw1
  have hit1 : Iter P w1 sv R := hit.keep fun y hy => (hc1.bel.block y (by have := hP y hy; omega)).trans (hbr.block y (hP y hy))
  obtain ⟨b, rfl, hst⟩ := hit1.stops 7 (N + 1) (fun y => y = N) (fun y hy => by have := hP y hy; exact ⟨by omega, by omega⟩) (by omega)
  have HST := Lib.hid hst; have HRG := Lib.hid hit.rg; have HIT := Lib.hid hit1; have HP := Lib.hid hP
  have hqn := fun W => run_eql_func_nil (P := Try.prog) W 28 (.func 50) #[] #[.pointer (some ⟨b, 0, none⟩), .pointer (some ⟨b + 1, 0, none⟩)] Try.underlying28
  clear hw1 hr hbr hrows hN hwz hNn hc1 hw1z hit hit1 hst hP
  refine (callsIn_wide (n := 8)).1 ?_
  refine callsIn_of_wp_marks Try.func18 rfl trivial ?_ rfl
  simp only [Try.ntmps18, List.size_toArray, List.length_cons, List.length_nil, Nat.reduceAdd, Nat.reduceSub, Array.replicate_succ, Array.replicate_zero, List.push_toArray, List.append_toArray, List.nil_append, List.cons_append]
  refine wpIn_wide.2 ?_
  go_wp2_with fail
  rw [HW1.out, HNN.out]
  refine (wpIn_wide (n := 8)).1 ?_
  refine' range_cut (N := N) (n1 := N + 1) (wr := wr) (rows := R) (Mk := []) True _ (gf := 50) (lb := #[.pointer (some ⟨b, 0, none⟩), .pointer (some ⟨b + 1, 0, none⟩)]) rfl rfl trivial (enters_of Try.func50 (by kernel_rfl) rfl) HST.out HRG.out HW1Z.out (fun _ h => by cases h) ⟨HC1.out, by rw [HW1Z.out]; exact Nat.le_refl _, fun _ h => by cases h⟩ ?assign1 ?body1 ?done1 ?break1
  case assign1 =>
    intro l y W K hK
    gi_wp2
    simp [encKv]
    exact hK.out
  case body1 =>
    rintro l pre x ⟨⟨y0, y1⟩, yv⟩ W hxy hy0 hy1 hI hlen
    obtain ⟨k, hk⟩ : ∃ k : Int, (pre.length : Int) = k := ⟨_, rfl⟩
    have hk2 : (((pre ++ [x]).length : Nat) : Int) = k + 1 := by simp; omega
    have k0 : 0 ≤ k := by omega
    have k1 : k < 100000 := by omega
    rw [hk] at hI
    have c7 : W.cell? ⟨N, 0, none⟩ = some (.int .i64 k) := row_cell hI.ct.r0 0
    have c5 : W.cell? ⟨n0 + 1, 0, none⟩ = some (.int .i64 leave) := row_cell ((hI.ct.bel.block (n0 + 1) (by have := HNN0.out; omega)).trans HROW.out.2.1) 0
    have f7 := frozen_of_row _ _ 0 _ _ hI.ct.r0
    have hne : ¬ N = n0 + 1 := by have := HNN0.out; omega
    have HI := Lib.hid hI; have HK2 := Lib.hid hk2
    clear hI hxy hk hk2 hlen
    by_cases hgt : leave < k + 1
    · gi_wp2
      refine ⟨((Rd1.refl (N := N) (n1 := N + 1)).set _).kf, .inr ⟨rfl, ?_⟩⟩
      show In1 N (N + 1) wr [] (((pre ++ [x]).length : Nat) : Int) _
      rw [HK2.out]
      exact HI.out.kept (fun _ h => by cases h) (Rd1.refl.set _) (HI.out.ct.s0 _)
    · gi_wp2
      have hr := (Rd1.refl (N := N) (n1 := N + 1) (W := W)).set (.int .i64 (k + 1))
      refine ⟨hr.kf, hr.kp, ?_⟩
      show In1 N (N + 1) wr [] (((pre ++ [x]).length : Nat) : Int) _
      rw [HK2.out]
      exact HI.out.kept (fun _ h => by cases h) hr (HI.out.ct.s0 _)
  case done1 =>
    intro D W hD hI
    obtain ⟨cc, hcc⟩ : ∃ c : Int, (R.length : Int) = c := ⟨_, rfl⟩
    rw [hcc] at hI
    clear hcc
    have hhz := HNN0.out
    have hn0' := HN0.out
    have c7 : W.cell? ⟨N, 0, none⟩ = some (.int .i64 cc) := row_cell hI.ct.r0 0
    have f7 := frozen_of_row _ _ 0 _ _ hI.ct.r0
    obtain ⟨W2, hW2⟩ : ∃ X, W.setCell ⟨N, 0, none⟩ (.int .i64 0) = X := ⟨_, rfl⟩
    have hmk : W2.heap[D]? = some (.deferred (some [])) := by rw [← hW2]; exact (Below.heap_setCell _ ⟨N, 0, none⟩ _ D (by show D ≠ N; omega)).trans (hI.marks D (by simp))
    have hct2 : C1 N wr 0 W2 := by rw [← hW2]; exact hI.ct.s0 0
    obtain ⟨n2, hn2⟩ : ∃ n, W2.heap.size = n := ⟨_, rfl⟩
    have hDn : D < n2 := by rw [← hn2]; exact (Array.getElem?_eq_some_iff.1 hmk).1
    have hNl : N < n2 := by rw [← hn2]; exact hct2.lt
    have hit2 : Iter P W2 (seqV b) R := HIT.out.keep fun y hy => (hct2.bel.block y (by have := HP.out y hy; omega)).trans (HC1.out.bel.block y (by have := HP.out y hy; omega)).symm
    obtain ⟨b', hb', hst2⟩ := hit2.stops 7 n2 (fun y => y = N) (fun y hy => by have := HP.out y hy; exact ⟨by omega, by omega⟩) (by omega)
    simp only [seqV, Value.func.injEq, true_and, Array.mk.injEq, List.cons.injEq, Value.pointer.injEq, Option.some.injEq, Addr.mk.injEq, and_true] at hb'
    obtain ⟨rfl, -⟩ := hb'
    have HST2 := Lib.hid hst2; have HN2 := Lib.hid hn2; have HDN := Lib.hid hDn; have HNL := Lib.hid hNl; have HW2 := Lib.hid hW2
    have HDD := Lib.hid hD
    have HI2 : Hid (In1 N n2 wr [D] 0 W2) := Lib.hid ⟨hct2, by omega, fun D' h => by rcases List.mem_singleton.1 h with rfl; exact hmk⟩
    have HM2 : Hid (∀ D' ∈ [D], D' < n2 ∧ ¬ D' = N) := Lib.hid fun D' h => by rcases List.mem_singleton.1 h with rfl; exact ⟨hDn, by omega⟩
    clear hhz hn0' hW2 hmk hct2 hn2 hDn hNl hit2 hst2 hI hD
    go_wp2_with fail
    rw [HW2.out]
    clear c7 f7
    refine (wpIn_wide (n := 8)).1 ?_
    refine' range_cmp (N := N) (n1 := n2) (wr := wr) (rows := R) (Mk := [D]) False _ (gf := 50) (lb := #[.pointer (some ⟨b, 0, none⟩), .pointer (some ⟨b + 1, 0, none⟩)]) rfl rfl trivial (enters_of Try.func50 (by kernel_rfl) rfl) HST2.out HRG.out HN2.out HM2.out HI2.out ?assignA ?bodyA ?doneA (fun h => h.elim)
    case assignA =>
      intro l y W C K hC hK
      have HCC := Lib.hid hC
      clear hC
      gi_wp2
      rw [HCC.out]
      exact hK.out
    case bodyA =>
      rintro l pre x ⟨⟨y0, y1⟩, yv⟩ B W3 hxy hy0 hy1 hI hB hB1 hlen
      simp only at hy0 hy1 hB
      obtain ⟨⟨⟨z0, z1⟩, zv⟩, hz⟩ : ∃ z, R[pre.length]? = some z := ⟨_, List.getElem?_eq_getElem hlen⟩
      have hno : ¬ ((y0 = z0 ∧ y1 = z1) ∧ yv = zv) → ¬ (pre ++ [x]).map nk <+: R := fun hd hp => by
        rw [List.map_append, List.map_cons, List.map_nil, hxy] at hp
        have h := getElem_pre hp
        rw [List.length_map, hz] at h
        simp only [Option.some.injEq, Prod.mk.injEq] at h
        exact hd ⟨⟨h.1.1.symm, h.1.2.symm⟩, h.2.symm⟩
      obtain ⟨bb, o, c', he, hbl, hcx⟩ := rd_row HR.out hz
      simp only [Value.slice.injEq] at he
      obtain ⟨rfl, -, rfl⟩ := he
      have hhz := HNN0.out
      have hn0' := HN0.out
      have hnn := HNN.out
      have hbw : Below w.heap.size w W3 := HBR.out.trans (hI.ct.bel.mono (by omega))
      obtain ⟨g0, g1, g2⟩ := hcx W3 hbw
      simp only at g0 g1 g2
      have hk2 : (((pre ++ [x]).length : Nat) : Int) = (pre.length : Int) + 1 := by simp
      obtain ⟨k, hk⟩ : ∃ k : Nat, pre.length = k := ⟨_, rfl⟩
      rw [hk] at hI g0 g1 g2 hlen hk2
      have e1 : (0 : Int) ≤ (k : Int) := by omega
      have e2 : (k : Int) < (R.length : Int) := by omega
      have e3 : (k : Int) < 100000 := by omega
      have e4 : decide ((R.length : Int) ≤ (k : Int)) = false := by simp; omega
      have e5 : decide (R.length ≤ k) = false := by simp; omega
      have c7 : W3.cell? ⟨N, 0, none⟩ = some (.int .i64 k) := row_cell hI.ct.r0 0
      have f7 := frozen_of_row _ _ 0 _ _ hI.ct.r0
      have s4 := (hI.ct.bel.block n0 (by omega)).trans HROW.out.1
      have s6 := (hI.ct.bel.block (n0 + 1 + 1) (by omega)).trans HROW.out.2.2
      have c4 : W3.cell? ⟨n0, 0, none⟩ = some (.slice (some ⟨bb, o, none⟩) R.length c) := row_cell s4 0
      have c6 : W3.cell? ⟨n0 + 1 + 1, 0, none⟩ = some (.bool false) := row_cell s6 0
      have f6 := frozen_of_row _ _ 0 _ _ s6
      have p0 : W3.cell? ⟨B, 0, none⟩ = some (.int .u32 y0) := row_cell hB 0
      have p1 : W3.cell? ⟨B, 1, none⟩ = some (.int .i64 y1) := row_cell hB 1
      have hd : Below W3.heap.size W3 W3.drew := (Below.refl _ _).drew
      have hr4 := (Rd1.refl (N := N) (n1 := n2) (W := W3)).call hI.sz hd
      have HI4 := Lib.hid (hI.kept HM2.out hr4 (hI.ct.call hd))
      have HR4 := Lib.hid hr4
      have HNO := Lib.hid hno; have HK2 := Lib.hid hk2
      have hge := guardP .neq
      have hne := fun W => neqP y0 y1 z0 z1 W
      clear hno hcx hhz hn0' hnn hbw hk hk2 s4 s6 hB hB1 hd hr4 hI hxy hz hbl hlen
      by_cases hp : y0 = z0 ∧ y1 = z1
      · have d1 : decide (y0 = z0 ∧ y1 = z1) = true := by simpa using hp
        rw [d1] at hne
        by_cases hv : yv = zv
        · have hv2 : (yv != zv) = false := by simpa using hv
          clear d1 hp
          gi_wp2
          refine wpInR_region_still_tail 21 (no_defers (by kernel_rfl)) (by kernel_rfl) (by kernel_rfl) ?_
          simp only [List.take_succ_cons, List.take_zero, List.drop_succ_cons, List.drop_zero]
          repeat still_step
          try refine wpStill_nil ?_
          have c7 : W3.drew.cell? ⟨N, 0, none⟩ = some (.int .i64 k) := c7
          have f7 : W3.drew.frozen? ⟨N, 0, none⟩ = false := f7
          generalize W3.drew = W4 at HI4 HR4 c7 f7 ⊢
          gi_wp2
          have hr := HR4.out.set (.int .i64 ((k : Int) + 1))
          refine ⟨hr.kf, hr.kp, ?_⟩
          show In1 N n2 wr [D] (((pre ++ [x]).length : Nat) : Int) _
          rw [HK2.out]
          exact HI4.out.kept HM2.out ((Rd1.refl).set _) (HI4.out.ct.s0 _)
        · have hv2 : (yv != zv) = true := by simpa using hv
          have HN := Lib.hid (HNO.out fun h => hv h.2)
          clear d1 hp hv
          gi_wp2
          refine wpInR_region_still_tail 21 (no_defers (by kernel_rfl)) (by kernel_rfl) (by kernel_rfl) ?_
          simp only [List.take_succ_cons, List.take_zero, List.drop_succ_cons, List.drop_zero]
          repeat still_step
          try refine wpStill_nil ?_
          have c6 : W3.drew.cell? ⟨n0 + 1 + 1, 0, none⟩ = some (.bool false) := c6
          have f6 : W3.drew.frozen? ⟨n0 + 1 + 1, 0, none⟩ = false := f6
          generalize W3.drew = W4 at HI4 HR4 c6 f6 ⊢
          gi_wp2
          first
            | exact ⟨HR4.out.kf.trans ((KeepsOthers.setCell _ _ _).from _), .inl HN.out⟩
            | exact ⟨HR4.out.kf.trans ((KeepsOthers.setCell _ _ _).from _), HN.out⟩
      · have d1 : decide (y0 = z0 ∧ y1 = z1) = false := by simpa using hp
        rw [d1] at hne
        have HN := Lib.hid (HNO.out fun h => hp h.1)
        clear d1 hp
        gi_wp2
        refine wpInR_region_still_tail 21 (no_defers (by kernel_rfl)) (by kernel_rfl) (by kernel_rfl) ?_
        simp only [List.take_succ_cons, List.take_zero, List.drop_succ_cons, List.drop_zero]
        repeat still_step
        try refine wpStill_nil ?_
        have c6 : W3.drew.cell? ⟨n0 + 1 + 1, 0, none⟩ = some (.bool false) := c6
        have f6 : W3.drew.frozen? ⟨n0 + 1 + 1, 0, none⟩ = false := f6
        generalize W3.drew = W4 at HI4 HR4 c6 f6 ⊢
        gi_wp2
        first
          | exact ⟨HR4.out.kf.trans ((KeepsOthers.setCell _ _ _).from _), .inl HN.out⟩
          | exact ⟨HR4.out.kf.trans ((KeepsOthers.setCell _ _ _).from _), HN.out⟩
    case doneA =>
      intro D2 W3 hD2 hI
      have hhz := HNN0.out
      have hn0' := HN0.out
      have hnn := HNN.out
      have s4 := (hI.ct.bel.block n0 (by omega)).trans HROW.out.1
      have s6 := (hI.ct.bel.block (n0 + 1 + 1) (by omega)).trans HROW.out.2.2
      have c7 : W3.cell? ⟨N, 0, none⟩ = some (.int .i64 R.length) := row_cell hI.ct.r0 0
      have c4 : W3.cell? ⟨n0, 0, none⟩ = some (.slice p R.length c) := row_cell s4 0
      have c6 : W3.cell? ⟨n0 + 1 + 1, 0, none⟩ = some (.bool false) := row_cell s6 0
      have f6 := frozen_of_row _ _ 0 _ _ s6
      have HI := Lib.hid hI; have HS6 := Lib.hid s6
      clear hhz hn0' hnn s4 s6 hI
      go_wp2_with fail
      obtain ⟨WE, hWE⟩ : ∃ X, W3.setCell ⟨n0 + 1 + 1, 0, none⟩ (.bool true) = X := ⟨_, rfl⟩
      obtain ⟨a1, b1, _, d1⟩ := set1 (v := .bool true) (i := 0) HS6.out hWE
      rw [hWE]
      have hhz := HNN0.out
      have hn0' := HN0.out
      have hnn := HNN.out
      have q1 := HDN.out
      have q2 := HDD.out
      have e2 := (b1 D2 (by omega)).trans (HI.out.marks D2 (by simp))
      have e1 := (b1 D (by omega)).trans (HI.out.marks D (by simp))
      have hBE : Below w.heap.size w WE := (HBR.out.trans (HI.out.ct.bel.mono (by omega))).trans (d1.mono (by omega))
      obtain ⟨z2, y2⟩ := drop_mark WE D2 (.deferred none)
      obtain ⟨V2, hV2⟩ : ∃ V, WE.putObj D2 (.deferred none) = V := ⟨_, rfl⟩
      rw [hV2] at z2 y2
      obtain ⟨z1, y1⟩ := drop_mark V2 D (.deferred none)
      obtain ⟨V1, hV1⟩ : ∃ V, V2.putObj D (.deferred none) = V := ⟨_, rfl⟩
      rw [hV1] at z1 y1
      have e1' := (z2 D (by omega)).trans e1
      have yr := (z1 (n0 + 1 + 1) (by omega)).trans ((z2 (n0 + 1 + 1) (by omega)).trans a1)
      have yc : V1.cell? ⟨n0 + 1 + 1, 0, none⟩ = some (.bool true) := row_cell yr 0
      refine ⟨by simp, .inl ⟨_, V2, rfl, hV2 ▸ run_takeDeferred e2, ?_⟩⟩
      refine ⟨by simp, .inl ⟨_, V1, rfl, hV1 ▸ run_takeDeferred e1', ?_⟩⟩
      refine ⟨.bool true, ?_, rfl, (hBE.trans (y2.mono (by omega))).trans (y1.mono (by omega))⟩
      simp [results, Try.f18, go_sem, yc]
  case break1 =>
    intro _ D cc W hD hI
    refine wpIn_wide.2 ?_
    have hhz := HNN0.out
    have hn0' := HN0.out
    have c7 : W.cell? ⟨N, 0, none⟩ = some (.int .i64 cc) := row_cell hI.ct.r0 0
    have f7 := frozen_of_row _ _ 0 _ _ hI.ct.r0
    obtain ⟨W2, hW2⟩ : ∃ X, W.setCell ⟨N, 0, none⟩ (.int .i64 0) = X := ⟨_, rfl⟩
    have hmk : W2.heap[D]? = some (.deferred (some [])) := by rw [← hW2]; exact (Below.heap_setCell _ ⟨N, 0, none⟩ _ D (by show D ≠ N; omega)).trans (hI.marks D (by simp))
    have hct2 : C1 N wr 0 W2 := by rw [← hW2]; exact hI.ct.s0 0
    obtain ⟨n2, hn2⟩ : ∃ n, W2.heap.size = n := ⟨_, rfl⟩
    have hDn : D < n2 := by rw [← hn2]; exact (Array.getElem?_eq_some_iff.1 hmk).1
    have hNl : N < n2 := by rw [← hn2]; exact hct2.lt
    have hit2 : Iter P W2 (seqV b) R := HIT.out.keep fun y hy => (hct2.bel.block y (by have := HP.out y hy; omega)).trans (HC1.out.bel.block y (by have := HP.out y hy; omega)).symm
    obtain ⟨b', hb', hst2⟩ := hit2.stops 7 n2 (fun y => y = N) (fun y hy => by have := HP.out y hy; exact ⟨by omega, by omega⟩) (by omega)
    simp only [seqV, Value.func.injEq, true_and, Array.mk.injEq, List.cons.injEq, Value.pointer.injEq, Option.some.injEq, Addr.mk.injEq, and_true] at hb'
    obtain ⟨rfl, -⟩ := hb'
    have HST2 := Lib.hid hst2; have HN2 := Lib.hid hn2; have HDN := Lib.hid hDn; have HNL := Lib.hid hNl; have HW2 := Lib.hid hW2
    have HDD := Lib.hid hD
    have HI2 : Hid (In1 N n2 wr [D] 0 W2) := Lib.hid ⟨hct2, by omega, fun D' h => by rcases List.mem_singleton.1 h with rfl; exact hmk⟩
    have HM2 : Hid (∀ D' ∈ [D], D' < n2 ∧ ¬ D' = N) := Lib.hid fun D' h => by rcases List.mem_singleton.1 h with rfl; exact ⟨hDn, by omega⟩
    clear hhz hn0' hW2 hmk hct2 hn2 hDn hNl hit2 hst2 hI hD
    go_wp2_with fail
    rw [HW2.out]
    clear c7 f7
    refine (wpIn_wide (n := 8)).1 ?_
    refine' range_cmp (N := N) (n1 := n2) (wr := wr) (rows := R) (Mk := [D]) False _ (gf := 50) (lb := #[.pointer (some ⟨b, 0, none⟩), .pointer (some ⟨b + 1, 0, none⟩)]) rfl rfl trivial (enters_of Try.func50 (by kernel_rfl) rfl) HST2.out HRG.out HN2.out HM2.out HI2.out ?assignB ?bodyB ?doneB (fun h => h.elim)
    case assignB =>
      intro l y W C K hC hK
      have HCC := Lib.hid hC
      clear hC
      gi_wp2
      rw [HCC.out]
      exact hK.out
    case bodyB =>
      rintro l pre x ⟨⟨y0, y1⟩, yv⟩ B W3 hxy hy0 hy1 hI hB hB1 hlen
      simp only at hy0 hy1 hB
      obtain ⟨⟨⟨z0, z1⟩, zv⟩, hz⟩ : ∃ z, R[pre.length]? = some z := ⟨_, List.getElem?_eq_getElem hlen⟩
      have hno : ¬ ((y0 = z0 ∧ y1 = z1) ∧ yv = zv) → ¬ (pre ++ [x]).map nk <+: R := fun hd hp => by
        rw [List.map_append, List.map_cons, List.map_nil, hxy] at hp
        have h := getElem_pre hp
        rw [List.length_map, hz] at h
        simp only [Option.some.injEq, Prod.mk.injEq] at h
        exact hd ⟨⟨h.1.1.symm, h.1.2.symm⟩, h.2.symm⟩
      obtain ⟨bb, o, c', he, hbl, hcx⟩ := rd_row HR.out hz
      simp only [Value.slice.injEq] at he
      obtain ⟨rfl, -, rfl⟩ := he
      have hhz := HNN0.out
      have hn0' := HN0.out
      have hnn := HNN.out
      have hbw : Below w.heap.size w W3 := HBR.out.trans (hI.ct.bel.mono (by omega))
      obtain ⟨g0, g1, g2⟩ := hcx W3 hbw
      simp only at g0 g1 g2
      have hk2 : (((pre ++ [x]).length : Nat) : Int) = (pre.length : Int) + 1 := by simp
      obtain ⟨k, hk⟩ : ∃ k : Nat, pre.length = k := ⟨_, rfl⟩
      rw [hk] at hI g0 g1 g2 hlen hk2
      have e1 : (0 : Int) ≤ (k : Int) := by omega
      have e2 : (k : Int) < (R.length : Int) := by omega
      have e3 : (k : Int) < 100000 := by omega
      have e4 : decide ((R.length : Int) ≤ (k : Int)) = false := by simp; omega
      have e5 : decide (R.length ≤ k) = false := by simp; omega
      have c7 : W3.cell? ⟨N, 0, none⟩ = some (.int .i64 k) := row_cell hI.ct.r0 0
      have f7 := frozen_of_row _ _ 0 _ _ hI.ct.r0
      have s4 := (hI.ct.bel.block n0 (by omega)).trans HROW.out.1
      have s6 := (hI.ct.bel.block (n0 + 1 + 1) (by omega)).trans HROW.out.2.2
      have c4 : W3.cell? ⟨n0, 0, none⟩ = some (.slice (some ⟨bb, o, none⟩) R.length c) := row_cell s4 0
      have c6 : W3.cell? ⟨n0 + 1 + 1, 0, none⟩ = some (.bool false) := row_cell s6 0
      have f6 := frozen_of_row _ _ 0 _ _ s6
      have p0 : W3.cell? ⟨B, 0, none⟩ = some (.int .u32 y0) := row_cell hB 0
      have p1 : W3.cell? ⟨B, 1, none⟩ = some (.int .i64 y1) := row_cell hB 1
      have hd : Below W3.heap.size W3 W3.drew := (Below.refl _ _).drew
      have hr4 := (Rd1.refl (N := N) (n1 := n2) (W := W3)).call hI.sz hd
      have HI4 := Lib.hid (hI.kept HM2.out hr4 (hI.ct.call hd))
      have HR4 := Lib.hid hr4
      have HNO := Lib.hid hno; have HK2 := Lib.hid hk2
      have hge := guardP .neq
      have hne := fun W => neqP y0 y1 z0 z1 W
      clear hno hcx hhz hn0' hnn hbw hk hk2 s4 s6 hB hB1 hd hr4 hI hxy hz hbl hlen
      by_cases hp : y0 = z0 ∧ y1 = z1
      · have d1 : decide (y0 = z0 ∧ y1 = z1) = true := by simpa using hp
        rw [d1] at hne
        by_cases hv : yv = zv
        · have hv2 : (yv != zv) = false := by simpa using hv
          clear d1 hp
          gi_wp2
          refine wpInR_region_still_tail 21 (no_defers (by kernel_rfl)) (by kernel_rfl) (by kernel_rfl) ?_
          simp only [List.take_succ_cons, List.take_zero, List.drop_succ_cons, List.drop_zero]
          repeat still_step
          try refine wpStill_nil ?_
          have c7 : W3.drew.cell? ⟨N, 0, none⟩ = some (.int .i64 k) := c7
          have f7 : W3.drew.frozen? ⟨N, 0, none⟩ = false := f7
          generalize W3.drew = W4 at HI4 HR4 c7 f7 ⊢
          gi_wp2
          have hr := HR4.out.set (.int .i64 ((k : Int) + 1))
          refine ⟨hr.kf, hr.kp, ?_⟩
          show In1 N n2 wr [D] (((pre ++ [x]).length : Nat) : Int) _
          rw [HK2.out]
          exact HI4.out.kept HM2.out ((Rd1.refl).set _) (HI4.out.ct.s0 _)
        · have hv2 : (yv != zv) = true := by simpa using hv
          have HN := Lib.hid (HNO.out fun h => hv h.2)
          clear d1 hp hv
          gi_wp2
          refine wpInR_region_still_tail 21 (no_defers (by kernel_rfl)) (by kernel_rfl) (by kernel_rfl) ?_
          simp only [List.take_succ_cons, List.take_zero, List.drop_succ_cons, List.drop_zero]
          repeat still_step
          try refine wpStill_nil ?_
          have c6 : W3.drew.cell? ⟨n0 + 1 + 1, 0, none⟩ = some (.bool false) := c6
          have f6 : W3.drew.frozen? ⟨n0 + 1 + 1, 0, none⟩ = false := f6
          generalize W3.drew = W4 at HI4 HR4 c6 f6 ⊢
          gi_wp2
          first
            | exact ⟨HR4.out.kf.trans ((KeepsOthers.setCell _ _ _).from _), .inl HN.out⟩
            | exact ⟨HR4.out.kf.trans ((KeepsOthers.setCell _ _ _).from _), HN.out⟩
      · have d1 : decide (y0 = z0 ∧ y1 = z1) = false := by simpa using hp
        rw [d1] at hne
        have HN := Lib.hid (HNO.out fun h => hp h.1)
        clear d1 hp
        gi_wp2
        refine wpInR_region_still_tail 21 (no_defers (by kernel_rfl)) (by kernel_rfl) (by kernel_rfl) ?_
        simp only [List.take_succ_cons, List.take_zero, List.drop_succ_cons, List.drop_zero]
        repeat still_step
        try refine wpStill_nil ?_
        have c6 : W3.drew.cell? ⟨n0 + 1 + 1, 0, none⟩ = some (.bool false) := c6
        have f6 : W3.drew.frozen? ⟨n0 + 1 + 1, 0, none⟩ = false := f6
        generalize W3.drew = W4 at HI4 HR4 c6 f6 ⊢
        gi_wp2
        first
          | exact ⟨HR4.out.kf.trans ((KeepsOthers.setCell _ _ _).from _), .inl HN.out⟩
          | exact ⟨HR4.out.kf.trans ((KeepsOthers.setCell _ _ _).from _), HN.out⟩
    case doneB =>
      intro D2 W3 hD2 hI
      have hhz := HNN0.out
      have hn0' := HN0.out
      have hnn := HNN.out
      have s4 := (hI.ct.bel.block n0 (by omega)).trans HROW.out.1
      have s6 := (hI.ct.bel.block (n0 + 1 + 1) (by omega)).trans HROW.out.2.2
      have c7 : W3.cell? ⟨N, 0, none⟩ = some (.int .i64 R.length) := row_cell hI.ct.r0 0
      have c4 : W3.cell? ⟨n0, 0, none⟩ = some (.slice p R.length c) := row_cell s4 0
      have c6 : W3.cell? ⟨n0 + 1 + 1, 0, none⟩ = some (.bool false) := row_cell s6 0
      have f6 := frozen_of_row _ _ 0 _ _ s6
      have HI := Lib.hid hI; have HS6 := Lib.hid s6
      clear hhz hn0' hnn s4 s6 hI
      go_wp2_with fail
      obtain ⟨WE, hWE⟩ : ∃ X, W3.setCell ⟨n0 + 1 + 1, 0, none⟩ (.bool true) = X := ⟨_, rfl⟩
      obtain ⟨a1, b1, _, d1⟩ := set1 (v := .bool true) (i := 0) HS6.out hWE
      rw [hWE]
      have hhz := HNN0.out
      have hn0' := HN0.out
      have hnn := HNN.out
      have q1 := HDN.out
      have q2 := HDD.out
      have e2 := (b1 D2 (by omega)).trans (HI.out.marks D2 (by simp))
      have e1 := (b1 D (by omega)).trans (HI.out.marks D (by simp))
      have hBE : Below w.heap.size w WE := (HBR.out.trans (HI.out.ct.bel.mono (by omega))).trans (d1.mono (by omega))
      obtain ⟨z2, y2⟩ := drop_mark WE D2 (.deferred none)
      obtain ⟨V2, hV2⟩ : ∃ V, WE.putObj D2 (.deferred none) = V := ⟨_, rfl⟩
      rw [hV2] at z2 y2
      obtain ⟨z1, y1⟩ := drop_mark V2 D (.deferred none)
      obtain ⟨V1, hV1⟩ : ∃ V, V2.putObj D (.deferred none) = V := ⟨_, rfl⟩
      rw [hV1] at z1 y1
      have e1' := (z2 D (by omega)).trans e1
      have yr := (z1 (n0 + 1 + 1) (by omega)).trans ((z2 (n0 + 1 + 1) (by omega)).trans a1)
      have yc : V1.cell? ⟨n0 + 1 + 1, 0, none⟩ = some (.bool true) := row_cell yr 0
      refine ⟨by simp, .inl ⟨_, V2, rfl, hV2 ▸ run_takeDeferred e2, ?_⟩⟩
      refine ⟨by simp, .inl ⟨_, V1, rfl, hV1 ▸ run_takeDeferred e1', ?_⟩⟩
      refine ⟨.bool true, ?_, rfl, (hBE.trans (y2.mono (by omega))).trans (y1.mono (by omega))⟩
      simp [results, Try.f18, go_sem, yc]

end Go.Proofs.Ytodfimnmbfdicaa
