/- The law TrieLongest. Under the conditions that it names. -/
import Derived.Test.YtbdmkolceckneaaTpW
namespace Go.Proofs.Ytbdmkolceckneaa
open Go.RowKit Go.Shelf
attribute [local go_sem] Oper.semAt_some
/-- What was found last holds the address, stands in the list at its place, and is the longest. -/
theorem lst_law {l : List (Int × Int)} {L : List Kv} {T : Tr Int} (x : Int) (h : LaidOf l l.length L T) (hok : T.Ok) (hrg : ∀ y ∈ l, 0 ≤ y.1 ∧ y.1 < 4294967296) :
    ((lst (rowsT (inB x) T)).2.2 = true → inB x (lst (rowsT (inB x) T)).1.1 (lst (rowsT (inB x) T)).1.2 = true ∧ ∃ i : Nat, (lst (rowsT (inB x) T)).2.1 = i ∧ l[i]? = some ((lst (rowsT (inB x) T)).1.1, (lst (rowsT (inB x) T)).1.2)) ∧
    (∀ y ∈ l, inB x y.1 y.2 = true → (lst (rowsT (inB x) T)).2.2 = true ∧ y.2 ≤ (lst (rowsT (inB x) T)).1.2) := by
  have hch := rows_chain x hok
  have hin := rows_in x hok
  constructor
  · intro hl
    cases hg : (rowsT (inB x) T).getLast? with
    | none => unfold lst at hl; rw [hg] at hl; cases hl
    | some z =>
      have e : lst (rowsT (inB x) T) = (z.1, z.2, true) := by unfold lst; rw [hg]
      rw [e]
      have hz := List.mem_of_getLast? hg
      rw [hin] at hz
      obtain ⟨h1, h2⟩ := List.mem_filter.1 hz
      obtain ⟨i, h3, h4, h5, _⟩ := h.from_ _ _ _ (mem_rows.1 h1)
      exact ⟨h2, i, h3, h5⟩
  · intro y hy hb
    have hck : ck y.1 y.2 = 0 := by
      unfold inB at hb
      simp only [Bool.and_eq_true, decide_eq_true_eq] at hb
      exact hb.1
    obtain ⟨i, hi, he⟩ := List.getElem_of_mem hy
    obtain ⟨v, hv⟩ := h.to_ i y.1 y.2 hi (by rw [List.getElem?_eq_getElem hi, he]) hck
    have hm : ((y.1, y.2), v) ∈ rowsT (inB x) T := by
      rw [hin]
      exact List.mem_filter.2 ⟨mem_rows.2 hv, hb⟩
    generalize rowsT (inB x) T = R at hm hch
    have hne : R ≠ [] := fun e => by rw [e] at hm; cases hm
    obtain ⟨A, z, rfl⟩ : ∃ A z, R = A ++ [z] := ⟨R.dropLast, R.getLast hne, (List.dropLast_concat_getLast hne).symm⟩
    rw [lst_snoc]
    refine ⟨rfl, ?_⟩
    rcases List.mem_append.1 hm with h1 | h1
    · have := (List.pairwise_append.1 hch).2.2 _ h1 z (by simp)
      simp only at this
      show y.2 ≤ z.1.2
      omega
    · simp only [List.mem_singleton] at h1
      rw [← h1]
      exact Int.le_refl _
set_option maxRecDepth 100000 in
set_option maxHeartbeats 16000000 in
theorem longest_law (l : List (Int × Int)) (lv : Value) (a q0 q1 : Int) (w : World) (hr : RdK encP 2 w lv l) (hrg : ∀ x ∈ l, 0 ≤ x.1 ∧ x.1 < 4294967296) (ha : 0 ≤ a) (ha2 : a < 4294967296) (hq : 0 ≤ q0) (hq2 : q0 < 4294967296) : Calls Try.prog 5 #[lv, .int .u32 a, .agg #[.int .u32 q0, .int .i64 q1]] w fun e w' => e = .returned (.bool true) ∧ Below w.heap.size w w' := by
  obtain ⟨p, c, rfl, hlc, hcm, _⟩ := hr.sl
  unfold maxLen at hcm
  obtain ⟨m, hm⟩ : ∃ m, min l.length 200 = m := ⟨_, rfl⟩
  have hmi : min (l.length : Int) 200 = (m : Int) := by omega
  have hml : m ≤ l.length := by omega
  have hm1 : m ≤ 200 := by omega
  obtain ⟨E, hE⟩ : ∃ E, l.take m = E := ⟨_, rfl⟩
  have hEm : E.length = m := by rw [← hE, List.length_take]; omega
  have HRD := Lib.hid (show ∀ W, Below w.heap.size w W → RdK encP 2 W (.slice p m c) E from fun W hW => by rw [← hE]; exact (hr.take hml).below hW)
  have HRG : Hid (∀ x ∈ E, 0 ≤ x.1 ∧ x.1 < 4294967296) := Lib.hid fun x hx => hrg x (by rw [← hE] at hx; exact List.mem_of_mem_take hx)
  have HEM := Lib.hid hEm
  have e1 : (0 : Int) ≤ (m : Int) := by omega
  have e2 : (m : Int) ≤ (c : Int) := by omega
  clear hr hrg hE hm hEm
  obtain ⟨n0, hn0⟩ : ∃ n0, w.heap.size = n0 := ⟨_, rfl⟩
  -- the two boxes that the call begins with
  obtain ⟨Z, hZ⟩ : ∃ Z, ((w.alloc (.cells #[.int .u32 q0, .int .i64 q1] 34)).alloc (.cells #[.bool false] 4)) = Z := ⟨_, rfl⟩
  have hBZ : Below w.heap.size w Z := by rw [← hZ]; exact ((Below.refl _ _).alloc (Nat.le_refl _) _).alloc (by simp) _
  have hq5 : Z.heap[n0]? = some (.cells #[.int .u32 q0, .int .i64 q1] 34 (0, 0)) := by rw [← hZ, ← hn0]; exact (two_rows w _ _).1
  have hq6 : Z.heap[n0 + 1]? = some (.cells #[.bool false] 4 (0, 0)) := by rw [← hZ, ← hn0]; exact (two_rows w _ _).2
  have HBZ := Lib.hid hBZ; have HQ5 := Lib.hid hq5; have HQ6 := Lib.hid hq6; have HN0 := Lib.hid hn0
  clear hBZ hq5 hq6
  refine (callsIn_wide (n := 8)).1 ?_
  refine callsIn_of_wp_marks Try.func5 rfl trivial ?_ rfl
  simp only [Try.ntmps5, List.size_toArray, List.length_cons, List.length_nil, Nat.reduceAdd, Nat.reduceSub, Array.replicate_succ, Array.replicate_zero, List.push_toArray, List.append_toArray, List.nil_append, List.cons_append]
  refine wpIn_wide.2 ?_
  go_wp2_with fail
  go_at_call 20
  refine (awake_is Z).mono ?_
  rintro e w1 ⟨rfl, hb1⟩
  have HB1 := Lib.hid (Below.step HBZ.out hb1)
  have HR5 := Lib.hid ((hb1.block n0 (blk_lt HQ5.out)).trans HQ5.out)
  have HR6 := Lib.hid ((hb1.block (n0 + 1) (blk_lt HQ6.out)).trans HQ6.out)
  clear hb1 hZ hn0
  go_wp2_with fail
  go_at_call 24
  refine (laid_is E _ w1 (HRD.out w1 HB1.out) (by have := HEM.out; omega) HRG.out).mono ?_
  rintro e w2 ⟨t, r, L, T, rfl, htab, hla, ht, hr', hb2⟩
  have HLA := Lib.hid hla
  -- the boxes of the table and of the address
  obtain ⟨W3, hW3⟩ : ∃ X, ((w2.alloc (.cells #[.pointer (some ⟨t, 0, none⟩)] 24)).alloc (.cells #[.int .u32 a] 32)) = X := ⟨_, rfl⟩
  have hB23 : Below w2.heap.size w2 W3 := by rw [← hW3]; exact ((Below.refl _ _).alloc (Nat.le_refl _) _).alloc (by simp) _
  obtain ⟨n7, hn7⟩ : ∃ n7, w2.heap.size = n7 := ⟨_, rfl⟩
  have hr7 : W3.heap[n7]? = some (.cells #[.pointer (some ⟨t, 0, none⟩)] 24 (0, 0)) := by rw [← hW3, ← hn7]; exact (two_rows w2 _ _).1
  have hr8 : W3.heap[n7 + 1]? = some (.cells #[.int .u32 a] 32 (0, 0)) := by rw [← hW3, ← hn7]; exact (two_rows w2 _ _).2
  have HT3 := Lib.hid (htab.on hB23)
  have HB3 := Lib.hid (HB1.out.trans ((Below.step hb2 hB23).mono HB1.out.size))
  have hr5 := (hB23.block n0 (by have := hb2.size; have := blk_lt HR5.out; omega)).trans ((hb2.block n0 (blk_lt HR5.out)).trans HR5.out)
  have hr6 := (hB23.block (n0 + 1) (by have := hb2.size; have := blk_lt HR6.out; omega)).trans ((hb2.block (n0 + 1) (blk_lt HR6.out)).trans HR6.out)
  have HR5 := Lib.hid hr5; have HR6 := Lib.hid hr6; have HR7 := Lib.hid hr7; have HR8 := Lib.hid hr8
  have c7 : W3.cell? ⟨n7, 0, none⟩ = some (.pointer (some ⟨t, 0, none⟩)) := row_cell hr7 0
  have c8 : W3.cell? ⟨n7 + 1, 0, none⟩ = some (.int .u32 a) := row_cell hr8 0
  have HN7 := Lib.hid hn7
  have HZ3 := Lib.hid (show n7 + 2 = W3.heap.size by rw [← hW3, ← hn7]; simp)
  clear htab hla hb2 hB23 hr7 hr8 hr5 hr6
  go_wp2_with fail
  clear hW3 hn7
  go_at_call 25
  obtain ⟨RX, hRX⟩ : ∃ R, rowsT (inB a) T = R := ⟨_, rfl⟩
  refine (longest_is t r a L T W3 HT3.out).mono ?_
  rw [hRX]
  obtain ⟨px, hpx⟩ : ∃ z, (lst RX).1.1 = z := ⟨_, rfl⟩
  obtain ⟨pn, hpn⟩ : ∃ z, (lst RX).1.2 = z := ⟨_, rfl⟩
  obtain ⟨pv, hpv⟩ : ∃ z, (lst RX).2.1 = z := ⟨_, rfl⟩
  obtain ⟨is, his⟩ : ∃ z, (lst RX).2.2 = z := ⟨_, rfl⟩
  have hll := lst_law a HLA.out HT3.out.ok HRG.out
  rw [hRX, hpx, hpn, hpv, his] at hll
  rw [hpx, hpn, hpv, his]
  rintro e w4 ⟨rfl, hb4⟩
  obtain ⟨n9, hn9⟩ : ∃ n9, w4.heap.size = n9 := ⟨_, rfl⟩
  obtain ⟨W5, hW5⟩ : ∃ X, w4.alloc (.cells #[.int .u32 px, .int .i64 pn] 34) = X := ⟨_, rfl⟩
  have hB45 : Below w4.heap.size w4 W5 := by rw [← hW5]; exact (Below.refl _ _).alloc (Nat.le_refl _) _
  have hB35 := Below.step hb4 hB45
  have hr9 : W5.heap[n9]? = some (.cells #[.int .u32 px, .int .i64 pn] 34 (0, 0)) := by rw [← hW5, ← hn9]; exact heap_alloc_new w4 _
  have h95 : W5.heap.size = n9 + 1 := by rw [← hW5, ← hn9]; simp
  have h39 : W3.heap.size ≤ n9 := by rw [← hn9]; exact hb4.size
  have HLL := Lib.hid hll
  have hls := lst_lastB (rowsT (inB a) T)
  rw [hRX, hpn, his] at hls
  have HLST := Lib.hid hls
  have HRX := Lib.hid hRX
  clear hls
  have HT5 := Lib.hid (HT3.out.on hB35)
  have HB5 := Lib.hid (HB3.out.trans (hB35.mono HB3.out.size))
  have hl5 := blk_lt HR5.out; have hl6 := blk_lt HR6.out; have hl7 := blk_lt HR7.out; have hl8 := blk_lt HR8.out
  have hr5 := (hB35.block n0 hl5).trans HR5.out
  have hr6 := (hB35.block (n0 + 1) hl6).trans HR6.out
  have hr7 := (hB35.block n7 hl7).trans HR7.out
  have hr8 := (hB35.block (n7 + 1) hl8).trans HR8.out
  have c8 : W5.cell? ⟨n7 + 1, 0, none⟩ = some (.int .u32 a) := row_cell hr8 0
  have c90 : W5.cell? ⟨n9, 0, none⟩ = some (.int .u32 px) := row_cell hr9 0
  have c91 : W5.cell? ⟨n9, 1, none⟩ = some (.int .i64 pn) := row_cell hr9 1
  have l8 : n7 + 1 < W5.heap.size := by omega
  have l9 : n9 < W5.heap.size := by omega
  have HS5 := Lib.hid hr5; have HS6 := Lib.hid hr6; have HS7 := Lib.hid hr7; have HS8 := Lib.hid hr8; have HS9 := Lib.hid hr9; have HN9 := Lib.hid hn9
  clear hr5 hr6 hr7 hr8 hr9 hb4 hB45 hB35 c7 hpx hpn hpv his hll
  go_wp2_with fail
  clear hW5 hn9
  go_cut [63] from 39 to 62 (fun s63 wx => s63 = .bool false ∧ Below W5.heap.size W5 wx)
  case first =>
    cases is with
    | false =>
      refine wp_region_grows (by kernel_rfl) (by kernel_rfl) ?_
      repeat (go_big_quiet_step (fail))
      refine wpQuiet_nil ?_
      rintro w8 ⟨⟨_, hb8⟩, rfl⟩
      go_wp2_with fail
      go_meet
      exact ⟨rfl, hb8⟩
    | true =>
      obtain ⟨hin, i, hvi, hEi⟩ := HLL.out.1 rfl
      obtain ⟨b, o, c', he, hbl, hcx⟩ := rd_cells (HRD.out W5 HB5.out) hEi
      simp only [Value.slice.injEq] at he
      obtain ⟨rfl, -, rfl⟩ := he
      obtain ⟨f0, f1⟩ := hcx W5 (Below.refl _ _)
      simp only at f0 f1
      have hiv : i < m := by rw [← HEM.out]; exact (List.getElem?_eq_some_iff.1 hEi).1
      have HIN : Hid (∀ W, Calls Try.prog 26 #[.int .u32 a, .agg #[.int .u32 px, .int .i64 pn]] W fun e w' => e = .returned (.bool true) ∧ Below W.heap.size W w') := Lib.hid fun W => by
        have h := rin_is a px pn W ha ha2 (HRG.out _ (List.mem_of_getElem? hEi)).1 (HRG.out _ (List.mem_of_getElem? hEi)).2
        rw [hin] at h
        exact h
      have i1 : (0 : Int) ≤ (i : Int) := by omega
      have i2 : (i : Int) < (m : Int) := by omega
      have i3 : decide ((i : Int) < 0) = false := by simp
      have i4 : decide ((m : Int) ≤ (i : Int)) = false := by simp; omega
      have i5 : decide (m ≤ i) = false := by simp; omega
      have i6 : ¬ m ≤ i := by omega
      have hge := guardP .neq
      have hne : ∀ W, (binOp .neq 34 (.agg #[.int .u32 px, .int .i64 pn]) (.agg #[.int .u32 px, .int .i64 pn])).run Try.prog W = .ok (.bool false) W := fun W => (neqP px pn px pn W).trans (by simp)
      have hpv2 : pv = (i : Int) := hvi
      subst hpv2
      clear hvi hin hcx hEi
      refine wp_region_grows (by kernel_rfl) (by kernel_rfl) ?_
      refine grows_fact (n7 + 1) 0 (.int .u32 a) c8 l8 fun t0 => ?_
      refine grows_fact n9 0 (.int .u32 px) c90 l9 fun t1 => ?_
      refine grows_fact n9 1 (.int .i64 pn) c91 l9 fun t2 => ?_
      refine grows_fact b (o + i * 2) (.int .u32 px) f0 hbl fun t3 => ?_
      refine grows_fact b (o + i * 2 + 1) (.int .i64 pn) f1 hbl fun t4 => ?_
      repeat (go_big_quiet_step ((go_at_call 26; with_reducible exact Calls.grows_of (HIN.out _))))
      refine wpQuiet_nil ?_
      rintro w8 ⟨⟨_, hb8⟩, rfl⟩
      go_wp2_with fail
      go_meet
      exact ⟨rfl, hb8⟩
  case rest =>
    obtain ⟨rfl, hb6⟩ := hcut
    have HB6 := Lib.hid hb6
    clear hb6
    go_wp2_with fail
    go_loopw [12] (fun s12 wx => ∃ k : Nat, k ≤ m ∧ s12 = .int .i64 k ∧ Below W5.heap.size W5 wx) (fun s12 _ => m - (intOf s12).toNat)
    case atStart => exact ⟨0, Nat.zero_le _, rfl, HB6.out⟩
    case round =>
      obtain ⟨k, hk, rfl, hbx⟩ := hrel
      have HBX := Lib.hid hbx
      by_cases hkm : k < m
      · obtain ⟨⟨y0, y1⟩, hy⟩ : ∃ y, E[k]? = some y := ⟨_, List.getElem?_eq_getElem (by rw [HEM.out]; exact hkm)⟩
        have hym := List.mem_of_getElem? hy
        obtain ⟨b, o, c', he, hbl, hcx⟩ := rd_cells (HRD.out W5 HB5.out) hy
        simp only [Value.slice.injEq] at he
        obtain ⟨rfl, -, rfl⟩ := he
        obtain ⟨f0, f1⟩ := hcx wr hbx
        simp only at f0 f1
        have g8 := (hbx.block (n7 + 1) (blk_lt HS8.out)).trans HS8.out
        have g9 := (hbx.block n9 (blk_lt HS9.out)).trans HS9.out
        have d8 : wr.cell? ⟨n7 + 1, 0, none⟩ = some (.int .u32 a) := row_cell g8 0
        have d91 : wr.cell? ⟨n9, 1, none⟩ = some (.int .i64 pn) := row_cell g9 1
        have m8 := blk_lt g8; have m9 := blk_lt g9; have mb := Nat.lt_of_lt_of_le hbl hbx.size
        have HIN := Lib.hid (fun W => rin_is a y0 y1 W ha ha2 (HRG.out _ hym).1 (HRG.out _ hym).2)
        have i1 : (0 : Int) ≤ (k : Int) := by omega
        have i2 : (k : Int) < (m : Int) := by omega
        have HQ := Lib.hid (fun hb => HLL.out.2 _ hym hb)
        clear hbx hcx hy hym hbl g8 g9
        cases hib : inB a y0 y1 with
        | false =>
          rw [hib] at HIN
          clear hib HQ
          go_wp2_with fail
          refine wp_region_grows (by kernel_rfl) (by kernel_rfl) ?_
          refine grows_fact (n7 + 1) 0 (.int .u32 a) d8 m8 fun t0 => ?_
          refine grows_fact b (o + k * 2) (.int .u32 y0) f0 mb fun t3 => ?_
          refine grows_fact b (o + k * 2 + 1) (.int .i64 y1) f1 mb fun t4 => ?_
          repeat (go_big_quiet_step ((go_at_call 26; with_reducible exact Calls.grows_of (HIN.out _))))
          refine wpQuiet_nil ?_
          rintro w8 ⟨⟨_, hb8⟩, rfl⟩
          go_wp2_with fail
          go_roundw
          case rel => exact ⟨k + 1, by omega, by go_num, Below.step HBX.out hb8⟩
          case measure => first | (simp [intOf]; done) | (simp [intOf]; omega)
        | true =>
          obtain ⟨h1, h2⟩ := HQ.out hib
          simp only at h2
          subst h1
          rw [hib] at HIN
          have j1 : ¬ pn < y1 := by omega
          have j2 : decide (pn < y1) = false := by simp; omega
          clear hib HQ
          go_wp2_with fail
          refine wp_region_grows (by kernel_rfl) (by kernel_rfl) ?_
          refine grows_fact (n7 + 1) 0 (.int .u32 a) d8 m8 fun t0 => ?_
          refine grows_fact n9 1 (.int .i64 pn) d91 m9 fun t2 => ?_
          refine grows_fact b (o + k * 2) (.int .u32 y0) f0 mb fun t3 => ?_
          refine grows_fact b (o + k * 2 + 1) (.int .i64 y1) f1 mb fun t4 => ?_
          repeat (go_big_quiet_step ((go_at_call 26; with_reducible exact Calls.grows_of (HIN.out _))))
          refine wpQuiet_nil ?_
          rintro w8 ⟨⟨_, hb8⟩, rfl⟩
          go_wp2_with fail
          go_roundw
          case rel => exact ⟨k + 1, by omega, by go_num, Below.step HBX.out hb8⟩
          case measure => first | (simp [intOf]; done) | (simp [intOf]; omega)
      · have e4 : ¬ (k : Int) < (m : Int) := by omega
        obtain rfl : k = m := by omega
        have htr := HT5.out.on hbx
        obtain ⟨root, hroot, hnd⟩ := htr.row
        have g5 := (hbx.block n0 (blk_lt HS5.out)).trans HS5.out
        have g6 := (hbx.block (n0 + 1) (blk_lt HS6.out)).trans HS6.out
        have g7 := (hbx.block n7 (blk_lt HS7.out)).trans HS7.out
        have g8 := (hbx.block (n7 + 1) (blk_lt HS8.out)).trans HS8.out
        have g9 := (hbx.block n9 (blk_lt HS9.out)).trans HS9.out
        have HG5 := Lib.hid g5; have HG6 := Lib.hid g6; have HG7 := Lib.hid g7; have HG8 := Lib.hid g8; have HG9 := Lib.hid g9
        have hbw : Below wr.heap.size wr (((wr.alloc (.cells #[.int .i64 0] 3)).alloc (.cells #[.int .i64 0] 3)).alloc (.cells #[.int .i64 (-1)] 3)) := (((Below.refl _ _).alloc (Nat.le_refl _) _).alloc (by simp) _).alloc (by simp; omega) _
        have c7 : (((wr.alloc (.cells #[.int .i64 0] 3)).alloc (.cells #[.int .i64 0] 3)).alloc (.cells #[.int .i64 (-1)] 3)).cell? ⟨n7, 0, none⟩ = some (.pointer (some ⟨t, 0, none⟩)) := row_cell ((hbw.block n7 (blk_lt g7)).trans g7) 0
        have hcs := rows3 wr (.cells #[.int .i64 0] 3) (.cells #[.int .i64 0] 3) (.cells #[.int .i64 (-1)] 3)
        have HBW := Lib.hid hbw; have HTR := Lib.hid htr; have HRT := Lib.hid hroot; have HND := Lib.hid hnd; have HCS := Lib.hid hcs
        have HBR := Lib.hid (Below.step HB5.out hbx)
        clear hkm hbx g5 g6 g7 g8 g9 hbw htr hroot hnd hcs HB6 HBX HS5 HS6 HS7 HS8 HS9 HT5 HB5 HRD HRG HB3 HR5 HR6 HR7 HR8
        go_wp2_with fail
        obtain ⟨N, hN⟩ : ∃ N, wr.heap.size = N := ⟨_, rfl⟩
        obtain ⟨W6, hW6⟩ : ∃ X, (((wr.alloc (.cells #[.int .i64 0] 3)).alloc (.cells #[.int .i64 0] 3)).alloc (.cells #[.int .i64 (-1)] 3)) = X := ⟨_, rfl⟩
        have HNN := Lib.hid hN
        have hb6 : Below N wr W6 := by rw [← hN, ← hW6]; exact HBW.out
        have hct6 : Ctr N wr 0 0 (-1) W6 := by
          have h := HCS.out
          rw [hW6, hN] at h
          exact ⟨hb6, h.1, h.2.1, h.2.2⟩
        rw [hW6, hN]
        clear HBW HCS hW6 c7
        have HC6 := Lib.hid hct6
        have ht6 := (hb6.block t (by have := blk_lt HRT.out; omega)).trans HRT.out
        go_at_call 9
        refine (tall_is t (.map (some r)) root W6 ht6).mono ?_
        rintro e w7 ⟨rfl, hseq, hb7, hz7⟩
        obtain ⟨b1, hb1⟩ : ∃ b, W6.heap.size = b := ⟨_, rfl⟩
        obtain ⟨n1, hn1⟩ : ∃ n, w7.heap.size = n := ⟨_, rfl⟩
        have hl6 := hct6.lt
        have hct7 : Ctr N wr 0 0 (-1) w7 := hct6.call hb7
        rw [hb1] at hseq hz7 hl6
        rw [hb1]
        rw [hn1] at hz7
        have HST := Lib.hid (any_stops encN encN_ok 7 n1 (Sx N) b1 root T w7 hseq HTR.out.ok (TrAt.keep (fun y hy _ => ⟨⟨by omega, fun h => by unfold Sx at h; omega⟩, hct7.bel.block y (by omega)⟩) HND.out) (by omega) ⟨by omega, fun h => by unfold Sx at h; omega⟩ ⟨by omega, fun h => by unfold Sx at h; omega⟩)
        have HI7 := Lib.hid (show InL N n1 wr [] 0 0 (-1) w7 from ⟨hct7, by omega, fun D h => by cases h⟩)
        have HNL := Lib.hid (show N + 3 ≤ n1 by omega)
        have HN1 := Lib.hid hn1
        clear hseq hb7 hz7 hb6 hct6 hct7 ht6 hl6 hb1 hn1 hN
        go_wp2_with fail
        refine (wpIn_wide (n := 8)).1 ?_
        refine' range_ctr (n1 := n1) (rows := rowsT allP T) (Mk := []) (cIn a) (cWi q0 q1) (fun _ => -1) _ (gf := 50) (lb := #[.pointer (some ⟨b1, 0, none⟩), .pointer (some ⟨b1 + 1, 0, none⟩)]) rfl rfl trivial (enters_of Try.func50 (by kernel_rfl) rfl) HST.out (rows_pf HTR.out.ok) HN1.out (fun _ h => by cases h) HI7.out ?assign1 ?body1 ?done1
        case assign1 =>
          intro l y W C K hC hK
          have HCC := Lib.hid hC
          clear hC
          gi_wp2
          rw [HCC.out]
          exact hK.out
        case body1 =>
          rintro l pre x ⟨⟨y0, y1⟩, yv⟩ B W hxy hy0 hy1 hI hB hB1 hlen
          simp only at hy0 hy1 hB
          obtain ⟨c0, hc0⟩ : ∃ z, cIn a (pre.map nk) = z := ⟨_, rfl⟩
          obtain ⟨c1, hc1⟩ : ∃ z, cWi q0 q1 (pre.map nk) = z := ⟨_, rfl⟩
          have hr0 := cIn_rg a (pre.map nk)
          have hr1 := cWi_rg q0 q1 (pre.map nk)
          have hrs := rows_short HTR.out.ok
          rw [hc0, List.length_map] at hr0
          rw [hc1, List.length_map] at hr1
          rw [hc0, hc1] at hI
          have k0 : 0 ≤ c0 := hr0.1
          have k1 : c0 < 17179869184 := by have := hr0.2; omega
          have k2 : 0 ≤ c1 := hr1.1
          have k3 : c1 < 17179869184 := by have := hr1.2; omega
          have HXY := Lib.hid hxy; have HC0 := Lib.hid hc0; have HC1 := Lib.hid hc1
          clear hr0 hr1 hrs hc0 hc1 hlen hxy
          have hbl := hI.ct.bel
          have hlN := HNL.out
          have hnn := HNN.out
          have s5 := (hbl.block n0 (by have := blk_lt HG5.out; omega)).trans HG5.out
          have s6 := (hbl.block (n0 + 1) (by have := blk_lt HG6.out; omega)).trans HG6.out
          have s7 := (hbl.block n7 (by have := blk_lt HG7.out; omega)).trans HG7.out
          have s8 := (hbl.block (n7 + 1) (by have := blk_lt HG8.out; omega)).trans HG8.out
          have d7 : W.cell? ⟨n7, 0, none⟩ = some (.pointer (some ⟨t, 0, none⟩)) := row_cell s7 0
          have p0 : W.cell? ⟨B, 0, none⟩ = some (.int .u32 y0) := row_cell hB 0
          have p1 : W.cell? ⟨B, 1, none⟩ = some (.int .i64 y1) := row_cell hB 1
          have d6 : W.cell? ⟨n0 + 1, 0, none⟩ = some (.bool false) := row_cell s6 0
          have HS5 := Lib.hid s5; have HS6 := Lib.hid s6; have HS8 := Lib.hid s8; have HB := Lib.hid hB; have HI := Lib.hid hI
          have HTW := Lib.hid (HTR.out.on (show Below wr.heap.size wr W by rw [hnn]; exact hbl))
          clear s5 s6 s7 s8 hB hI hbl hnn hlN
          gi_wp2
          refine ⟨trivial, ?_⟩
          refine ((callsIn_wide.2 (at_is t r L T y0 y1 W HTW.out)).inRound l).mono ?_
          rintro e w1 ⟨rfl, hb1⟩
          have hR1 : Rd N n1 W w1 := Rd.refl.call HI.out.sz hb1
          have hI1 := HI.out.kept (fun _ h => by cases h) hR1 (HI.out.ct.call hb1)
          have s5 := (hb1.block n0 (blk_lt HS5.out)).trans HS5.out
          have s6 := (hb1.block (n0 + 1) (blk_lt HS6.out)).trans HS6.out
          have s8 := (hb1.block (n7 + 1) (blk_lt HS8.out)).trans HS8.out
          have sB := (hb1.block B (blk_lt HB.out)).trans HB.out
          have d6' : w1.cell? ⟨n0 + 1, 0, none⟩ = some (.bool false) := row_cell s6 0
          have d8 : w1.cell? ⟨n7 + 1, 0, none⟩ = some (.int .u32 a) := row_cell s8 0
          have p0' : w1.cell? ⟨B, 0, none⟩ = some (.int .u32 y0) := row_cell sB 0
          have p1' : w1.cell? ⟨B, 1, none⟩ = some (.int .i64 y1) := row_cell sB 1
          have f6 := frozen_of_row _ _ 0 _ _ s6
          have HR1 := Lib.hid hR1; have HI1 := Lib.hid hI1; have HS5' := Lib.hid s5; have HSB := Lib.hid sB; have HS8' := Lib.hid s8
          clear hb1 hR1 hI1 s5 s6 s8 sB d6 d7 p0 p1
          cases hg : getL (y0, y1) L with
          | none =>
            have HBAD : Hid (((y0, y1), yv) ∉ rowsT allP T) := Lib.hid fun hm => by
              have := (HLA.out.same _ _ _).2 (mem_rows.1 hm)
              rw [hg] at this
              cases this
            simp only [Option.getD_none, Option.isSome_none]
            clear hg
            gi_wp2
            exact ⟨HR1.out.kf.trans ((KeepsOthers.setCell _ _ _).from _), not_pre HXY.out HBAD.out⟩
          | some v' =>
            simp only [Option.getD_some, Option.isSome_some]
            by_cases hv : v' = yv
            · subst hv
              clear hg
              have hdn : decide (v' = v') = true := by simp
              gi_wp2
              refine ⟨trivial, ((callsIn_wide.2 (rin_is a y0 y1 w1 ha ha2 hy0 hy1)).inRound l).mono ?_⟩
              rintro e w2 ⟨rfl, hb2⟩
              have hR2 := HR1.out.call HI1.out.sz hb2
              have hI2 := HI1.out.kept (fun _ h => by cases h) (Rd.refl.call HI1.out.sz hb2) (HI1.out.ct.call hb2)
              have s5 := (hb2.block n0 (blk_lt HS5'.out)).trans HS5'.out
              have sB := (hb2.block B (blk_lt HSB.out)).trans HSB.out
              have r0 : w2.cell? ⟨N, 0, none⟩ = some (.int .i64 c0) := row_cell hI2.ct.r0 0
              have fr0 := frozen_of_row _ _ 0 _ _ hI2.ct.r0
              have hlN := HNL.out
              have hn0N : n0 < N := by have := blk_lt HG5.out; have := HNN.out; omega
              clear hb2 d6' d8 p0' p1' f6
              cases hin : inB a y0 y1 with
              | true =>
                have hR3 := hR2.set (b := N) (.int .i64 (c0 + 1)) (Nat.le_refl _) (by omega)
                have hI3 := hI2.kept (fun _ h => by cases h) (Rd.refl.set (b := N) (.int .i64 (c0 + 1)) (Nat.le_refl _) (by omega)) (hI2.ct.s0 (c0 + 1))
                have s5' := (Below.heap_setCell w2 ⟨N, 0, none⟩ (.int .i64 (c0 + 1)) n0 (by show n0 ≠ N; omega)).trans s5
                have sB' := (Below.heap_setCell w2 ⟨N, 0, none⟩ (.int .i64 (c0 + 1)) B (by show B ≠ N; omega)).trans sB
                have HF0 : Hid (cIn a ((pre ++ [x]).map nk) = c0 + 1) := Lib.hid (by rw [List.map_append, List.map_singleton, HXY.out, cIn_yes (y := ((y0, y1), v')) hin, HC0.out])
                have p0 : (w2.setCell ⟨N, 0, none⟩ (.int .i64 (c0 + 1))).cell? ⟨B, 0, none⟩ = some (.int .u32 y0) := row_cell sB' 0
                have p1 : (w2.setCell ⟨N, 0, none⟩ (.int .i64 (c0 + 1))).cell? ⟨B, 1, none⟩ = some (.int .i64 y1) := row_cell sB' 1
                have t0 : (w2.setCell ⟨N, 0, none⟩ (.int .i64 (c0 + 1))).cell? ⟨n0, 0, none⟩ = some (.int .u32 q0) := row_cell s5' 0
                have t1 : (w2.setCell ⟨N, 0, none⟩ (.int .i64 (c0 + 1))).cell? ⟨n0, 1, none⟩ = some (.int .i64 q1) := row_cell s5' 1
                have HR3 := Lib.hid hR3; have HI3 := Lib.hid hI3; have HHL := Lib.hid hlN; have HHN := Lib.hid hn0N
                clear hR2 hI2 s5 sB hR3 hI3 s5' sB' hin hlN hn0N
                gi_wp2
                obtain ⟨w3, hw3⟩ : ∃ X, w2.setCell ⟨N, 0, none⟩ (.int .i64 (c0 + 1)) = X := ⟨_, rfl⟩
                rw [hw3] at HR3 HI3
                rw [hw3]
                clear hw3 p0 p1 t0 t1 r0 fr0
                refine ⟨trivial, ((callsIn_wide.2 (rwithin_is y0 y1 q0 q1 w3 hy0 hy1 hq hq2)).inRound l).mono ?_⟩
                rintro e w4 ⟨rfl, hb4⟩
                have hR4 := HR3.out.call HI3.out.sz hb4
                have hI4 := HI3.out.kept (fun _ h => by cases h) (Rd.refl.call HI3.out.sz hb4) (HI3.out.ct.call hb4)
                have r1 : w4.cell? ⟨N + 1, 0, none⟩ = some (.int .i64 c1) := row_cell hI4.ct.r1 0
                have fr1 := frozen_of_row _ _ 0 _ _ hI4.ct.r1
                clear hb4
                cases hwi : wiB y0 y1 q0 q1 with
                | true =>
                  have HR5 := Lib.hid (hR4.set (b := N + 1) (.int .i64 (c1 + 1)) (by omega) (by omega))
                  have HI5 := Lib.hid (hI4.kept (fun _ h => by cases h) (Rd.refl.set (b := N + 1) (.int .i64 (c1 + 1)) (by omega) (by omega)) (hI4.ct.s1 (c1 + 1)))
                  have HF1 : Hid (cWi q0 q1 ((pre ++ [x]).map nk) = c1 + 1) := Lib.hid (by rw [List.map_append, List.map_singleton, HXY.out, cWi_yes (y := ((y0, y1), v')) hwi, HC1.out])
                  clear hR4 hI4 hwi
                  gi_wp2
                  exact ⟨HR5.out.kf, HR5.out.kp, by simp only [HF0.out, HF1.out]; exact HI5.out⟩
                | false =>
                  have HR5 := Lib.hid hR4
                  have HI5 := Lib.hid hI4
                  have HF1 : Hid (cWi q0 q1 ((pre ++ [x]).map nk) = c1) := Lib.hid (by rw [List.map_append, List.map_singleton, HXY.out, cWi_no (y := ((y0, y1), v')) hwi, HC1.out])
                  clear hR4 hI4 hwi
                  gi_wp2
                  exact ⟨HR5.out.kf, HR5.out.kp, by simp only [HF0.out, HF1.out]; exact HI5.out⟩
              | false =>
                have HF0 : Hid (cIn a ((pre ++ [x]).map nk) = c0) := Lib.hid (by rw [List.map_append, List.map_singleton, HXY.out, cIn_no (y := ((y0, y1), v')) hin, HC0.out])
                have p0 : w2.cell? ⟨B, 0, none⟩ = some (.int .u32 y0) := row_cell sB 0
                have p1 : w2.cell? ⟨B, 1, none⟩ = some (.int .i64 y1) := row_cell sB 1
                have t0 : w2.cell? ⟨n0, 0, none⟩ = some (.int .u32 q0) := row_cell s5 0
                have t1 : w2.cell? ⟨n0, 1, none⟩ = some (.int .i64 q1) := row_cell s5 1
                have HR3 := Lib.hid hR2; have HI3 := Lib.hid hI2
                clear hR2 hI2 s5 sB hin hlN hn0N
                gi_wp2
                obtain ⟨w3, rfl⟩ : ∃ X, X = w2 := ⟨_, rfl⟩
                clear p0 p1 t0 t1 r0 fr0
                refine ⟨trivial, ((callsIn_wide.2 (rwithin_is y0 y1 q0 q1 w3 hy0 hy1 hq hq2)).inRound l).mono ?_⟩
                rintro e w4 ⟨rfl, hb4⟩
                have hR4 := HR3.out.call HI3.out.sz hb4
                have hI4 := HI3.out.kept (fun _ h => by cases h) (Rd.refl.call HI3.out.sz hb4) (HI3.out.ct.call hb4)
                have r1 : w4.cell? ⟨N + 1, 0, none⟩ = some (.int .i64 c1) := row_cell hI4.ct.r1 0
                have fr1 := frozen_of_row _ _ 0 _ _ hI4.ct.r1
                clear hb4
                cases hwi : wiB y0 y1 q0 q1 with
                | true =>
                  have HR5 := Lib.hid (hR4.set (b := N + 1) (.int .i64 (c1 + 1)) (by omega) (by omega))
                  have HI5 := Lib.hid (hI4.kept (fun _ h => by cases h) (Rd.refl.set (b := N + 1) (.int .i64 (c1 + 1)) (by omega) (by omega)) (hI4.ct.s1 (c1 + 1)))
                  have HF1 : Hid (cWi q0 q1 ((pre ++ [x]).map nk) = c1 + 1) := Lib.hid (by rw [List.map_append, List.map_singleton, HXY.out, cWi_yes (y := ((y0, y1), v')) hwi, HC1.out])
                  clear hR4 hI4 hwi
                  gi_wp2
                  exact ⟨HR5.out.kf, HR5.out.kp, by simp only [HF0.out, HF1.out]; exact HI5.out⟩
                | false =>
                  have HR5 := Lib.hid hR4
                  have HI5 := Lib.hid hI4
                  have HF1 : Hid (cWi q0 q1 ((pre ++ [x]).map nk) = c1) := Lib.hid (by rw [List.map_append, List.map_singleton, HXY.out, cWi_no (y := ((y0, y1), v')) hwi, HC1.out])
                  clear hR4 hI4 hwi
                  gi_wp2
                  exact ⟨HR5.out.kf, HR5.out.kp, by simp only [HF0.out, HF1.out]; exact HI5.out⟩
            · have HBAD : Hid (((y0, y1), yv) ∉ rowsT allP T) := Lib.hid fun hm => by
                have := (HLA.out.same _ _ _).2 (mem_rows.1 hm)
                rw [hg] at this
                exact hv (Option.some.inj this)
              clear hg
              gi_wp2
              exact ⟨HR1.out.kf.trans ((KeepsOthers.setCell _ _ _).from _), not_pre HXY.out HBAD.out⟩
        case done1 =>
          rintro D W hD hI
          have hinc : cIn a (rowsT allP T) = ((rowsT (inB a) T).length : Int) := by unfold cIn; rw [rows_in a HTR.out.ok]
          obtain ⟨c0, hc0⟩ : ∃ z, cIn a (rowsT allP T) = z := ⟨_, rfl⟩
          obtain ⟨c1, hc1⟩ : ∃ z, cWi q0 q1 (rowsT allP T) = z := ⟨_, rfl⟩
          have hrs := rows_short HTR.out.ok
          have hr0 := cIn_rg a (rowsT allP T)
          have hr1 := cWi_rg q0 q1 (rowsT allP T)
          rw [hc0] at hr0 hinc
          rw [hc1] at hr1
          rw [hc0, hc1] at hI
          have HINC := Lib.hid hinc
          have HC1 := Lib.hid hc1
          have k0 : 0 ≤ c0 := hr0.1
          have k1 : c0 < 17179869184 := by have := hr0.2; omega
          have k2 : 0 ≤ c1 := hr1.1
          have k3 : c1 < 17179869184 := by have := hr1.2; omega
          clear hr0 hr1 hrs hc0 hc1 hinc
          have hbl := hI.ct.bel
          have hlN := HNL.out
          have hnn := HNN.out
          have s7 := (hbl.block n7 (by have := blk_lt HG7.out; omega)).trans HG7.out
          have s8 := (hbl.block (n7 + 1) (by have := blk_lt HG8.out; omega)).trans HG8.out
          have st := (hbl.block t (by have := blk_lt HRT.out; omega)).trans HRT.out
          have d7 : W.cell? ⟨n7, 0, none⟩ = some (.pointer (some ⟨t, 0, none⟩)) := row_cell s7 0
          have d8 : W.cell? ⟨n7 + 1, 0, none⟩ = some (.int .u32 a) := row_cell s8 0
          have HST2 := Lib.hid st; have HI := Lib.hid hI
          clear s7 s8 st hbl hI hlN hnn HST HI7 HN1 HC6
          go_wp2_with fail
          go_at_call 10
          refine (over_is t (.map (some r)) root a W HST2.out).mono ?_
          rintro e w8 ⟨rfl, hseq, hb8, hz8⟩
          obtain ⟨b2, hb2⟩ : ∃ b, W.heap.size + 1 = b := ⟨_, rfl⟩
          obtain ⟨a2, ha2'⟩ : ∃ b, W.heap.size = b := ⟨_, rfl⟩
          obtain ⟨n2, hn2⟩ : ∃ n, w8.heap.size = n := ⟨_, rfl⟩
          have hct8 : Ctr N wr c0 c1 (-1) w8 := HI.out.ct.call hb8
          have hlN := HNL.out
          have hnn := HNN.out
          have hsz := HI.out.sz
          have hDl : D < W.heap.size := (Array.getElem?_eq_some_iff.1 (HI.out.marks D (by simp))).1
          have hmk8 : w8.heap[D]? = some (.deferred (some [])) := (hb8.block D hDl).trans (HI.out.marks D (by simp))
          rw [hb2, ha2'] at hseq
          rw [hb2]
          rw [hn2] at hz8
          have HST3 := Lib.hid (over_stops encN encN_ok 7 n2 (Sx N) a a2 b2 root T w8 hseq HTR.out.ok (TrAt.keep (fun y hy _ => ⟨⟨by omega, fun h => by unfold Sx at h; omega⟩, hct8.bel.block y (by omega)⟩) HND.out) (by omega) ⟨by omega, fun h => by unfold Sx at h; omega⟩ ⟨by omega, fun h => by unfold Sx at h; omega⟩ ⟨by omega, fun h => by unfold Sx at h; omega⟩)
          have HI8 := Lib.hid (show InL N n2 wr [D] (c0 - (([] : List Kv).length : Int)) c1 (lastB []) w8 from ⟨by simpa [lastB] using hct8, by omega, fun D' h => by rcases List.mem_singleton.1 h with rfl; exact hmk8⟩)
          have HNL2 := Lib.hid (show N + 3 ≤ n2 by omega)
          have HN2 := Lib.hid hn2
          have HM2 : Hid (∀ D' ∈ [D], D' < n2 ∧ ¬ Sx N D') := Lib.hid fun D' h => by rcases List.mem_singleton.1 h with rfl; exact ⟨by omega, fun h => by unfold Sx at h; omega⟩
          clear hseq hb8 hz8 hct8 hlN hnn hsz hDl hmk8 hb2 ha2' hn2 d7 d8
          go_wp2_with fail
          refine (wpIn_wide (n := 8)).1 ?_
          refine' range_ctr (n1 := n2) (rows := rowsT (inB a) T) (Mk := [D]) (fun q => c0 - (q.length : Int)) (fun _ => c1) lastB _ (gf := 50) (lb := #[.pointer (some ⟨b2, 0, none⟩), .pointer (some ⟨b2 + 1, 0, none⟩)]) rfl rfl trivial (enters_of Try.func50 (by kernel_rfl) rfl) HST3.out (rows_pf HTR.out.ok) HN2.out HM2.out HI8.out ?assign2 ?body2 ?done2
          case assign2 =>
            intro l y W C K hC hK
            have HCC := Lib.hid hC
            clear hC
            gi_wp2
            rw [HCC.out]
            exact hK.out
          case body2 =>
            rintro l pre x ⟨⟨y0, y1⟩, yv⟩ B W hxy hy0 hy1 hI hB hB1 hlen
            simp only at hy0 hy1 hB
            obtain ⟨cn, hcn⟩ : ∃ z, c0 - ((pre.map nk).length : Int) = z := ⟨_, rfl⟩
            obtain ⟨lb, hlb⟩ : ∃ z, lastB (pre.map nk) = z := ⟨_, rfl⟩
            rw [hlb] at hI
            simp only [hcn] at hI
            rw [List.length_map] at hcn
            have hci := HINC.out
            have k4 : 0 < cn := by omega
            have k5 : cn < 17179869184 := by omega
            have HXY := Lib.hid hxy; have HCN := Lib.hid hcn; have HLB := Lib.hid hlb
            clear hcn hlb hlen hxy hci
            have hbl := hI.ct.bel
            have hlN := HNL2.out
            have hnn := HNN.out
            have s6 := (hbl.block (n0 + 1) (by have := blk_lt HG6.out; omega)).trans HG6.out
            have s8 := (hbl.block (n7 + 1) (by have := blk_lt HG8.out; omega)).trans HG8.out
            have d8 : W.cell? ⟨n7 + 1, 0, none⟩ = some (.int .u32 a) := row_cell s8 0
            have p0 : W.cell? ⟨B, 0, none⟩ = some (.int .u32 y0) := row_cell hB 0
            have p1 : W.cell? ⟨B, 1, none⟩ = some (.int .i64 y1) := row_cell hB 1
            have HS6 := Lib.hid s6; have HB := Lib.hid hB; have HI := Lib.hid hI
            clear s6 s8 hB hI hbl hnn hlN
            gi_wp2
            refine ⟨trivial, ((callsIn_wide.2 (rin_is a y0 y1 W ha ha2 hy0 hy1)).inRound l).mono ?_⟩
            rintro e w1 ⟨rfl, hb1⟩
            have hR1 : Rd N n2 W w1 := Rd.refl.call HI.out.sz hb1
            have hI1 := HI.out.kept HM2.out hR1 (HI.out.ct.call hb1)
            have s6 := (hb1.block (n0 + 1) (blk_lt HS6.out)).trans HS6.out
            have sB := (hb1.block B (blk_lt HB.out)).trans HB.out
            have d6 : w1.cell? ⟨n0 + 1, 0, none⟩ = some (.bool false) := row_cell s6 0
            have q1' : w1.cell? ⟨B, 1, none⟩ = some (.int .i64 y1) := row_cell sB 1
            have r2 : w1.cell? ⟨N + 1 + 1, 0, none⟩ = some (.int .i64 lb) := row_cell hI1.ct.r2 0
            have fr6 := frozen_of_row _ _ 0 _ _ s6
            have fr2 := frozen_of_row _ _ 0 _ _ hI1.ct.r2
            have HR1 := Lib.hid hR1; have HI1 := Lib.hid hI1; have HSB := Lib.hid sB
            clear hb1 hR1 hI1 s6 sB d8 p0 p1
            cases hin : inB a y0 y1 with
            | false =>
              have HBAD : Hid (((y0, y1), yv) ∉ rowsT (inB a) T) := Lib.hid fun hm => by
                have := (rows_mem (Tr.all_ok HTR.out.ok) _ hm).2
                rw [hin] at this
                cases this
              clear hin
              gi_wp2
              exact ⟨HR1.out.kf.trans ((KeepsOthers.setCell _ _ _).from _), not_pre HXY.out HBAD.out⟩
            | true =>
              clear hin
              by_cases hle : y1 ≤ lb
              · have HLE := Lib.hid hle
                gi_wp2
                exact ⟨HR1.out.kf.trans ((KeepsOthers.setCell _ _ _).from _), last_pre HXY.out (rows_chain a HTR.out.ok) (rows_bits HTR.out.ok) (by rw [HLB.out]; exact HLE.out)⟩
              · have hR3 := HR1.out.set (b := N + 1 + 1) (.int .i64 y1) (by omega) (by omega)
                have hI3 := HI1.out.kept HM2.out (Rd.refl.set (b := N + 1 + 1) (.int .i64 y1) (by omega) (by omega)) (HI1.out.ct.s2 y1)
                have r0 : (w1.setCell ⟨N + 1 + 1, 0, none⟩ (.int .i64 y1)).cell? ⟨N, 0, none⟩ = some (.int .i64 cn) := row_cell hI3.ct.r0 0
                have fr0 := frozen_of_row _ _ 0 _ _ hI3.ct.r0
                have HR4 := Lib.hid (hR3.set (b := N) (.int .i64 (cn - 1)) (Nat.le_refl _) (by omega))
                have HI4 := Lib.hid (hI3.kept HM2.out (Rd.refl.set (b := N) (.int .i64 (cn - 1)) (Nat.le_refl _) (by omega)) (hI3.ct.s0 (cn - 1)))
                have HF0 : Hid (c0 - (((pre ++ [x]).map nk).length : Int) = cn - 1) := Lib.hid (by rw [List.length_map, List.length_append]; simp only [List.length_singleton]; have := HCN.out; omega)
                have HF1 : Hid (lastB ((pre ++ [x]).map nk) = y1) := Lib.hid (by rw [List.map_append, List.map_singleton, HXY.out, lastB_snoc])
                clear hR3 hI3
                gi_wp2
                exact ⟨HR4.out.kf, HR4.out.kp, by simp only [HF0.out, HF1.out]; exact HI4.out⟩
          case done2 =>
            rintro D2 W hD2 hI
            have hinw : cWi q0 q1 (rowsT allP T) = ((rowsT allP (Tr.under q0 q1 T)).length : Int) := by unfold cWi; rw [rows_under hq hq2 HTR.out.ok]
            have hci := HINC.out
            have hcc1 := HC1.out
            have hz0 : c0 - ((rowsT (inB a) T).length : Int) = 0 := by omega
            rw [hcc1] at hinw
            simp only [hz0] at hI
            obtain ⟨lb, hlb⟩ : ∃ z, lastB (rowsT (inB a) T) = z := ⟨_, rfl⟩
            rw [hlb] at hI
            have HLB := Lib.hid hlb
            have HINW := Lib.hid hinw
            clear hci hcc1 hz0 hinw hlb
            have hbl := hI.ct.bel
            have hlN := HNL2.out
            have hnn := HNN.out
            have s5 := (hbl.block n0 (by have := blk_lt HG5.out; omega)).trans HG5.out
            have s7 := (hbl.block n7 (by have := blk_lt HG7.out; omega)).trans HG7.out
            have st := (hbl.block t (by have := blk_lt HRT.out; omega)).trans HRT.out
            have d7 : W.cell? ⟨n7, 0, none⟩ = some (.pointer (some ⟨t, 0, none⟩)) := row_cell s7 0
            have d50 : W.cell? ⟨n0, 0, none⟩ = some (.int .u32 q0) := row_cell s5 0
            have d51 : W.cell? ⟨n0, 1, none⟩ = some (.int .i64 q1) := row_cell s5 1
            have hndW : Nd_i (fun y => y < N) W root T := TrAt.keep (fun y hy _ => ⟨by omega, hbl.block y (by omega)⟩) HND.out
            have HST2 := Lib.hid st; have HI := Lib.hid hI; have HNW := Lib.hid hndW
            clear s5 s7 st hbl hI hlN hnn hndW HST3 HI8 HN2
            go_wp2_with fail
            go_at_call 29
            refine (twi_is (fun y => y < N) t (.map (some r)) root T q0 q1 W HST2.out HTR.out.ok HNW.out hq hq2).mono ?_
            rintro e w9 ⟨b3, root3, rfl, hb3, hz9, hseq, hnd9, hb9⟩
            obtain ⟨n3, hn3⟩ : ∃ n, w9.heap.size = n := ⟨_, rfl⟩
            have hct9 : Ctr N wr 0 c1 lb w9 := HI.out.ct.call hb9
            have hlN := HNL2.out
            have hsz := HI.out.sz
            have hm1 := HI.out.marks D (by simp)
            have hm2 := HI.out.marks D2 (by simp)
            have hDl : D < W.heap.size := (Array.getElem?_eq_some_iff.1 hm1).1
            have hDl2 : D2 < W.heap.size := (Array.getElem?_eq_some_iff.1 hm2).1
            have hmk1 : w9.heap[D]? = some (.deferred (some [])) := (hb9.block D hDl).trans hm1
            have hmk2 : w9.heap[D2]? = some (.deferred (some [])) := (hb9.block D2 hDl2).trans hm2
            have hlN1 := HNL.out
            rw [hn3] at hz9
            have HST4 := Lib.hid (any_stops encN encN_ok 7 n3 (Sx N) b3 root3 (Tr.under q0 q1 T) w9 hseq (Tr.under_ok HTR.out.ok) (TrAt.keep (fun y hy hp => ⟨⟨by omega, fun h => by unfold Sx at h; omega⟩, rfl⟩) hnd9) (by omega) ⟨by omega, fun h => by unfold Sx at h; omega⟩ ⟨by omega, fun h => by unfold Sx at h; omega⟩)
            have HI9 := Lib.hid (show InL N n3 wr [D2, D] 0 (c1 - (([] : List Kv).length : Int)) lb w9 from ⟨by simpa using hct9, by omega, fun D' h => by
              rcases List.mem_cons.1 h with rfl | h
              · exact hmk2
              · rcases List.mem_singleton.1 h with rfl
                exact hmk1⟩)
            have HNL3 := Lib.hid (show N + 3 ≤ n3 by omega)
            have HN3 := Lib.hid hn3
            have HM3 : Hid (∀ D' ∈ [D2, D], D' < n3 ∧ ¬ Sx N D') := Lib.hid fun D' h => by
              rcases List.mem_cons.1 h with rfl | h
              · exact ⟨by omega, fun h => by unfold Sx at h; omega⟩
              · rcases List.mem_singleton.1 h with rfl
                exact ⟨by omega, fun h => by unfold Sx at h; omega⟩
            clear hseq hb9 hz9 hct9 hlN hsz hm1 hm2 hDl hDl2 hmk1 hmk2 hn3 d7 d50 d51 hnd9 hb3 hlN1
            go_wp2_with fail
            refine (wpIn_wide (n := 8)).1 ?_
            refine' range_ctr (n1 := n3) (rows := rowsT allP (Tr.under q0 q1 T)) (Mk := [D2, D]) (fun _ => 0) (fun q => c1 - (q.length : Int)) (fun _ => lb) _ (gf := 50) (lb := #[.pointer (some ⟨b3, 0, none⟩), .pointer (some ⟨b3 + 1, 0, none⟩)]) rfl rfl trivial (enters_of Try.func50 (by kernel_rfl) rfl) HST4.out (rows_pf (Tr.under_ok HTR.out.ok)) HN3.out HM3.out HI9.out ?assign3 ?body3 ?done3
            case assign3 =>
              intro l y W C K hC hK
              have HCC := Lib.hid hC
              clear hC
              gi_wp2
              rw [HCC.out]
              exact hK.out
            case body3 =>
              rintro l pre x ⟨⟨y0, y1⟩, yv⟩ B W hxy hy0 hy1 hI hB hB1 hlen
              simp only at hy0 hy1 hB
              obtain ⟨cn, hcn⟩ : ∃ z, c1 - ((pre.map nk).length : Int) = z := ⟨_, rfl⟩
              simp only [hcn] at hI
              rw [List.length_map] at hcn
              have hci := HINW.out
              have k4 : 0 < cn := by omega
              have k5 : cn < 17179869184 := by omega
              have HXY := Lib.hid hxy; have HCN := Lib.hid hcn
              clear hcn hlen hxy hci
              have hbl := hI.ct.bel
              have hlN := HNL3.out
              have hnn := HNN.out
              have s5 := (hbl.block n0 (by have := blk_lt HG5.out; omega)).trans HG5.out
              have s6 := (hbl.block (n0 + 1) (by have := blk_lt HG6.out; omega)).trans HG6.out
              have d50 : W.cell? ⟨n0, 0, none⟩ = some (.int .u32 q0) := row_cell s5 0
              have d51 : W.cell? ⟨n0, 1, none⟩ = some (.int .i64 q1) := row_cell s5 1
              have p0 : W.cell? ⟨B, 0, none⟩ = some (.int .u32 y0) := row_cell hB 0
              have p1 : W.cell? ⟨B, 1, none⟩ = some (.int .i64 y1) := row_cell hB 1
              have HS6 := Lib.hid s6; have HI := Lib.hid hI
              clear s5 s6 hB hI hbl hnn hlN
              gi_wp2
              refine ⟨trivial, ((callsIn_wide.2 (rwithin_is y0 y1 q0 q1 W hy0 hy1 hq hq2)).inRound l).mono ?_⟩
              rintro e w1 ⟨rfl, hb1⟩
              have hR1 : Rd N n3 W w1 := Rd.refl.call HI.out.sz hb1
              have hI1 := HI.out.kept HM3.out hR1 (HI.out.ct.call hb1)
              have s6 := (hb1.block (n0 + 1) (blk_lt HS6.out)).trans HS6.out
              have d6 : w1.cell? ⟨n0 + 1, 0, none⟩ = some (.bool false) := row_cell s6 0
              have r1 : w1.cell? ⟨N + 1, 0, none⟩ = some (.int .i64 cn) := row_cell hI1.ct.r1 0
              have fr6 := frozen_of_row _ _ 0 _ _ s6
              have fr1 := frozen_of_row _ _ 0 _ _ hI1.ct.r1
              have HR1 := Lib.hid hR1; have HI1 := Lib.hid hI1
              clear hb1 hR1 hI1 s6 d50 d51 p0 p1
              cases hin : wiB y0 y1 q0 q1 with
              | false =>
                have HBAD : Hid (((y0, y1), yv) ∉ rowsT allP (Tr.under q0 q1 T)) := Lib.hid fun hm => by
                  rw [rows_under hq hq2 HTR.out.ok] at hm
                  have := (List.mem_filter.1 hm).2
                  simp only [hin] at this
                  cases this
                clear hin
                gi_wp2
                exact ⟨HR1.out.kf.trans ((KeepsOthers.setCell _ _ _).from _), not_pre HXY.out HBAD.out⟩
              | true =>
                have HR4 := Lib.hid (HR1.out.set (b := N + 1) (.int .i64 (cn - 1)) (by omega) (by omega))
                have HI4 := Lib.hid (HI1.out.kept HM3.out (Rd.refl.set (b := N + 1) (.int .i64 (cn - 1)) (by omega) (by omega)) (HI1.out.ct.s1 (cn - 1)))
                have HF0 : Hid (c1 - (((pre ++ [x]).map nk).length : Int) = cn - 1) := Lib.hid (by rw [List.length_map, List.length_append]; simp only [List.length_singleton]; have := HCN.out; omega)
                clear hin
                gi_wp2
                exact ⟨HR4.out.kf, HR4.out.kp, by simp only [HF0.out]; exact HI4.out⟩
            case done3 =>
              rintro D3 W hD3 hI
              have hci := HINW.out
              have hz1 : c1 - ((rowsT allP (Tr.under q0 q1 T)).length : Int) = 0 := by omega
              simp only [hz1] at hI
              have hbl := hI.ct.bel
              have hnn := HNN.out
              have s6 := (hbl.block (n0 + 1) (by have := blk_lt HG6.out; omega)).trans HG6.out
              have s9 := (hbl.block n9 (by have := blk_lt HG9.out; omega)).trans HG9.out
              have d6 : W.cell? ⟨n0 + 1, 0, none⟩ = some (.bool false) := row_cell s6 0
              have d9 : W.cell? ⟨n9, 1, none⟩ = some (.int .i64 pn) := row_cell s9 1
              have r0 : W.cell? ⟨N, 0, none⟩ = some (.int .i64 0) := row_cell hI.ct.r0 0
              have r1 : W.cell? ⟨N + 1, 0, none⟩ = some (.int .i64 0) := row_cell hI.ct.r1 0
              have r2 : W.cell? ⟨N + 1 + 1, 0, none⟩ = some (.int .i64 lb) := row_cell hI.ct.r2 0
              have fr6 := frozen_of_row _ _ 0 _ _ s6
              have hlb := HLB.out
              have HI := Lib.hid hI; have HS6 := Lib.hid s6
              clear hci hz1 hbl hnn s6 s9 hI HST4 HI9 HN3
              cases is with
              | false =>
                have hl := HLST.out.1 rfl
                rw [← HRX.out, hlb] at hl
                subst hl
                clear hlb
                go_wp2_with fail
                obtain ⟨WE, hWE⟩ : ∃ X, W.setCell ⟨n0 + 1, 0, none⟩ (.bool true) = X := ⟨_, rfl⟩
                obtain ⟨a1, b1, _, d1⟩ := set1 (v := .bool true) (i := 0) HS6.out hWE
                rw [hWE]
                have hN3 := HNL3.out
                have hn0N : n0 + 1 < N := by have := blk_lt HG6.out; have := HNN.out; omega
                have q1' := HM3.out D2 (by simp)
                have q2' := HM2.out D (by simp)
                have q3' := HNL.out
                have q4' := HNL2.out
                have q5' := HN0.out
                have e3 := (b1 D3 (by omega)).trans (HI.out.marks D3 (by simp))
                have e2 := (b1 D2 (by omega)).trans (HI.out.marks D2 (by simp))
                have e1 := (b1 D (by omega)).trans (HI.out.marks D (by simp))
                have hBW : Below w.heap.size w W := Below.step HBR.out (by rw [HNN.out]; exact HI.out.ct.bel)
                have hBE := hBW.trans (d1.mono (by omega))
                obtain ⟨z3, y3⟩ := drop_mark WE D3 (.deferred none)
                obtain ⟨V3, hV3⟩ : ∃ V, WE.putObj D3 (.deferred none) = V := ⟨_, rfl⟩
                rw [hV3] at z3 y3
                obtain ⟨z2, y2⟩ := drop_mark V3 D2 (.deferred none)
                obtain ⟨V2, hV2⟩ : ∃ V, V3.putObj D2 (.deferred none) = V := ⟨_, rfl⟩
                rw [hV2] at z2 y2
                obtain ⟨z1, y1⟩ := drop_mark V2 D (.deferred none)
                obtain ⟨V1, hV1⟩ : ∃ V, V2.putObj D (.deferred none) = V := ⟨_, rfl⟩
                rw [hV1] at z1 y1
                have e2' := (z3 D2 (by omega)).trans e2
                have e1' := (z2 D (by omega)).trans ((z3 D (by omega)).trans e1)
                have yr := (z1 (n0 + 1) (by omega)).trans ((z2 (n0 + 1) (by omega)).trans ((z3 (n0 + 1) (by omega)).trans a1))
                have yc : V1.cell? ⟨n0 + 1, 0, none⟩ = some (.bool true) := row_cell yr 0
                refine ⟨by simp, .inl ⟨_, V3, rfl, hV3 ▸ run_takeDeferred e3, ?_⟩⟩
                refine ⟨by simp, .inl ⟨_, V2, rfl, hV2 ▸ run_takeDeferred e2', ?_⟩⟩
                refine ⟨by simp, .inl ⟨_, V1, rfl, hV1 ▸ run_takeDeferred e1', ?_⟩⟩
                refine ⟨.bool true, ?_, rfl, ((hBE.trans (y3.mono (by omega))).trans (y2.mono (by omega))).trans (y1.mono (by omega))⟩
                simp [results, Try.f5, go_sem, yc]
              | true =>
                have hl := HLST.out.2 rfl
                rw [← HRX.out, hlb] at hl
                subst hl
                clear hlb
                go_wp2_with fail
                obtain ⟨WE, hWE⟩ : ∃ X, W.setCell ⟨n0 + 1, 0, none⟩ (.bool true) = X := ⟨_, rfl⟩
                obtain ⟨a1, b1, _, d1⟩ := set1 (v := .bool true) (i := 0) HS6.out hWE
                rw [hWE]
                have hN3 := HNL3.out
                have hn0N : n0 + 1 < N := by have := blk_lt HG6.out; have := HNN.out; omega
                have q1' := HM3.out D2 (by simp)
                have q2' := HM2.out D (by simp)
                have q3' := HNL.out
                have q4' := HNL2.out
                have q5' := HN0.out
                have e3 := (b1 D3 (by omega)).trans (HI.out.marks D3 (by simp))
                have e2 := (b1 D2 (by omega)).trans (HI.out.marks D2 (by simp))
                have e1 := (b1 D (by omega)).trans (HI.out.marks D (by simp))
                have hBW : Below w.heap.size w W := Below.step HBR.out (by rw [HNN.out]; exact HI.out.ct.bel)
                have hBE := hBW.trans (d1.mono (by omega))
                obtain ⟨z3, y3⟩ := drop_mark WE D3 (.deferred none)
                obtain ⟨V3, hV3⟩ : ∃ V, WE.putObj D3 (.deferred none) = V := ⟨_, rfl⟩
                rw [hV3] at z3 y3
                obtain ⟨z2, y2⟩ := drop_mark V3 D2 (.deferred none)
                obtain ⟨V2, hV2⟩ : ∃ V, V3.putObj D2 (.deferred none) = V := ⟨_, rfl⟩
                rw [hV2] at z2 y2
                obtain ⟨z1, y1⟩ := drop_mark V2 D (.deferred none)
                obtain ⟨V1, hV1⟩ : ∃ V, V2.putObj D (.deferred none) = V := ⟨_, rfl⟩
                rw [hV1] at z1 y1
                have e2' := (z3 D2 (by omega)).trans e2
                have e1' := (z2 D (by omega)).trans ((z3 D (by omega)).trans e1)
                have yr := (z1 (n0 + 1) (by omega)).trans ((z2 (n0 + 1) (by omega)).trans ((z3 (n0 + 1) (by omega)).trans a1))
                have yc : V1.cell? ⟨n0 + 1, 0, none⟩ = some (.bool true) := row_cell yr 0
                refine ⟨by simp, .inl ⟨_, V3, rfl, hV3 ▸ run_takeDeferred e3, ?_⟩⟩
                refine ⟨by simp, .inl ⟨_, V2, rfl, hV2 ▸ run_takeDeferred e2', ?_⟩⟩
                refine ⟨by simp, .inl ⟨_, V1, rfl, hV1 ▸ run_takeDeferred e1', ?_⟩⟩
                refine ⟨.bool true, ?_, rfl, ((hBE.trans (y3.mono (by omega))).trans (y2.mono (by omega))).trans (y1.mono (by omega))⟩
                simp [results, Try.f5, go_sem, yc]
end Go.Proofs.Ytbdmkolceckneaa
