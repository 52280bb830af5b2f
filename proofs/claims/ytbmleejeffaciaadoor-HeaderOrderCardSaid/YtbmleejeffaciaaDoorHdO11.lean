/- The law HeaderOrder where the first header compares as 0 and the bit is true: it answers true; what was there stands. The variables ErrSyntax and ErrRange of package strconv are asked to hold errors, the table of powers of ten to be what its text says. -/
import Derived.Test.YtbmleejeffaciaaDoorHdOB
import Derived.Test.YtbmleejeffaciaaDoorHdWk
import Derived.Test.YtbmleejeffaciaaDoorHdW
namespace Go.Proofs.YtbmleejeffaciaaDoor
open Go.RowKit
set_option maxRecDepth 100000 in
set_option maxHeartbeats 16000000 in
theorem order_11 (s d p sp dp s' d' p' sp' dp' i : Int) (I : Nat) (hI : I < 104) (hIw : wrap64 ((IntKind.u64.wrap i).tmod 104) = (I : Int)) (hx : tb (byL s d p sp dp) I = true) (hk : cmpH (byL s d p sp dp) (byL s' d' p' sp' dp') = 0) (w : World) (h : Hdr s d p sp dp) (h' : Hdr s' d' p' sp' dp') (hE : ErrV w) (hT : Tab10 w) :
    Calls Tryd.prog 6 #[.agg #[.int .u32 s, .int .u32 d, .int .u8 p, .int .u16 sp, .int .u16 dp], .agg #[.int .u32 s', .int .u32 d', .int .u8 p', .int .u16 sp', .int .u16 dp'], .int .i64 i] w fun e w' => e = .returned (.bool true) ∧ Below w.heap.size w w' := by
  obtain ⟨Z, hZ⟩ : ∃ Z, (w.alloc (.cells #[.int .u32 s, .int .u32 d, .int .u8 p, .int .u16 sp, .int .u16 dp] 27)).alloc (.cells #[.int .u32 s', .int .u32 d', .int .u8 p', .int .u16 sp', .int .u16 dp'] 27) = Z := ⟨_, rfl⟩
  have hb0 : Below w.heap.size w Z := by rw [← hZ]; exact ((Below.refl _ _).alloc (Nat.le_refl _) _).alloc (by simp) _
  have hAZ : Z.heap[w.heap.size]? = some (.cells #[.int .u32 s, .int .u32 d, .int .u8 p, .int .u16 sp, .int .u16 dp] 27 (0, 0)) := by rw [← hZ]; exact heap_alloc2_old w _ _
  have hBZ : Z.heap[w.heap.size + 1]? = some (.cells #[.int .u32 s', .int .u32 d', .int .u8 p', .int .u16 sp', .int .u16 dp'] 27 (0, 0)) := by rw [← hZ]; exact heap_alloc2_new w _ _
  have hzZ : w.heap.size + 1 < Z.heap.size := (Array.getElem?_eq_some_iff.1 hBZ).1
  have HW := Lib.hid (works_is _ (hE.on hb0) (hT.on hb0))
  have hA13 := byL_13 h
  obtain ⟨c0, c1, c2, c3, c4, hcf, hcH, hcby⟩ := ofL_hdr (hA13.wb I hI (!true))
  have HBit : Hid (∀ W, Calls Tryd.prog 12 #[.agg #[.int .u32 s, .int .u32 d, .int .u8 p, .int .u16 sp, .int .u16 dp], .int .i64 I] W fun e w' => e = .returned (.tuple #[.bool true, .int .i64 0]) ∧ Below W.heap.size W w') := Lib.hid fun W => by rw [← hx]; exact bit_is s d p sp dp I hI W h
  have HWith : Hid (∀ W, Calls Tryd.prog 8 #[.agg #[.int .u32 s, .int .u32 d, .int .u8 p, .int .u16 sp, .int .u16 dp], .int .i64 I, .bool (!true)] W fun e w' => e = .returned (.tuple #[.agg #[.int .u32 c0, .int .u32 c1, .int .u8 c2, .int .u16 c3, .int .u16 c4], .int .i64 0]) ∧ Below W.heap.size W w') := Lib.hid fun W => by rw [← hcf]; exact with_is s d p sp dp I (!true) hI W h
  have hVb := V_bit hA13 I hI
  obtain ⟨wv, hwv⟩ : ∃ wv : Int, wv = if true then 1 else -1 := ⟨_, rfl⟩
  have hC13 := byL_13 hcH
  have hac : cmpH (byL s d p sp dp) (byL c0 c1 c2 c3 c4) = wv ∧ cmpH (byL c0 c1 c2 c3 c4) (byL s d p sp dp) = -wv := by
    have e1 := cmpV_V (hA13.len.trans hC13.len.symm) hA13.byt hC13.byt
    have e2 := cmpV_V (hC13.len.trans hA13.len.symm) hC13.byt hA13.byt
    change cmpH _ _ = _ at e1
    change cmpH _ _ = _ at e2
    rw [e1, e2, hcby, hwv]
    have := hVb.2 hx
    simp only [Bool.not_true, if_true]
    rw [if_neg (by omega), if_pos this, if_pos this]; exact ⟨rfl, rfl⟩
  have KAC := cmp_at h hcH hac.1
  have KCA := cmp_at hcH h hac.2
  obtain ⟨m, m', sb, hm, hm', hsb, hways⟩ := ways_of h h'
  have hm0 := hm
  have KAB := cmp_at h h' hm
  have KBA := cmp_at h' h hm'
  have KS : Hid (∀ W, Calls Tryd.prog 9 #[.agg #[.int .u32 s, .int .u32 d, .int .u8 p, .int .u16 sp, .int .u16 dp], .agg #[.int .u32 s', .int .u32 d', .int .u8 p', .int .u16 sp', .int .u16 dp']] W fun e w' => e = .returned (.bool sb) ∧ Below W.heap.size W w') := Lib.hid fun W => by rw [← hsb]; exact same_is s d p sp dp s' d' p' sp' dp' W
  have HN : Hid (∀ W, Calls Tryd.prog 11 #[.agg #[.int .u32 s, .int .u32 d, .int .u8 p, .int .u16 sp, .int .u16 dp]] W (NextPost (byL s d p sp dp) W)) := Lib.hid fun W => next_is s d p sp dp W h
  have HH := Lib.hid h; have HH' := Lib.hid h'; have HA13 := Lib.hid hA13
  have HAZ := Lib.hid hAZ; have HBZ := Lib.hid hBZ; have HB0 := Lib.hid hb0
  clear hE hT hb0 hA13 hcf hcH hcby hVb hC13 hac hm hm' hsb hx hI h h'
  obtain rfl : wv = 1 := by simpa using hwv
  clear hwv
  have hz1 : w.heap.size < Z.heap.size := by omega
  obtain rfl : m = 0 := hm0.symm.trans hk
  clear hm0 hk
  rcases hways with ⟨h0, rfl, rfl, hv⟩ | ⟨h0, rfl, rfl, hv⟩ | ⟨h0, rfl, rfl, hv⟩
  all_goals first | (exact absurd h0 (by decide)) | skip
  all_goals
    clear h0
    have HV := Lib.hid hv
    clear hv
    go_enter Tryd.func6, Tryd.ntmps6
    go_wp2_with fail
    go_at_call 7
    refine HW.out.mono ?_
    rintro e w1 ⟨rfl, hb1⟩
    have hA1 := (hb1.block _ hz1).trans HAZ.out
    obtain ⟨k0, _⟩ := row_cell' (j := 0) hA1 rfl
    obtain ⟨k1, _⟩ := row_cell' (j := 1) hA1 rfl
    obtain ⟨k2, _⟩ := row_cell' (j := 2) hA1 rfl
    obtain ⟨k3, _⟩ := row_cell' (j := 3) hA1 rfl
    obtain ⟨k4, _⟩ := row_cell' (j := 4) hA1 rfl
    clear hA1
    go_wp2_with fail
    go_at_call 12
    (with_reducible refine (HBit.out _).mono ?_)
    rintro e w2 ⟨rfl, hb2⟩
    have hb02 := Below.step hb1 hb2
    clear k0 k1 k2 k3 k4
    have hA1 := (hb02.block _ hz1).trans HAZ.out
    obtain ⟨k0, _⟩ := row_cell' (j := 0) hA1 rfl
    obtain ⟨k1, _⟩ := row_cell' (j := 1) hA1 rfl
    obtain ⟨k2, _⟩ := row_cell' (j := 2) hA1 rfl
    obtain ⟨k3, _⟩ := row_cell' (j := 3) hA1 rfl
    obtain ⟨k4, _⟩ := row_cell' (j := 4) hA1 rfl
    clear hA1
    go_wp2_with fail
    go_at_call 8
    refine (HWith.out _).mono ?_
    rintro e w3 ⟨rfl, hb3⟩
    have hb03 := Below.step hb02 hb3
    clear k0 k1 k2 k3 k4
    go_wp2
    have hz3 : Z.heap.size ≤ w3.heap.size := hb03.size
    have hA4 : (w3.alloc (.cells #[.int .u32 c0, .int .u32 c1, .int .u8 c2, .int .u16 c3, .int .u16 c4] 27)).heap[w.heap.size]? = some (.cells #[.int .u32 s, .int .u32 d, .int .u8 p, .int .u16 sp, .int .u16 dp] 27 (0, 0)) := (heap_alloc_old _ _ (by omega)).trans ((hb03.block _ hz1).trans HAZ.out)
    have hB4 : (w3.alloc (.cells #[.int .u32 c0, .int .u32 c1, .int .u8 c2, .int .u16 c3, .int .u16 c4] 27)).heap[w.heap.size + 1]? = some (.cells #[.int .u32 s', .int .u32 d', .int .u8 p', .int .u16 sp', .int .u16 dp'] 27 (0, 0)) := (heap_alloc_old _ _ (by omega)).trans ((hb03.block _ hzZ).trans HBZ.out)
    have hC4 : (w3.alloc (.cells #[.int .u32 c0, .int .u32 c1, .int .u8 c2, .int .u16 c3, .int .u16 c4] 27)).heap[w3.heap.size]? = some (.cells #[.int .u32 c0, .int .u32 c1, .int .u8 c2, .int .u16 c3, .int .u16 c4] 27 (0, 0)) := heap_alloc_new w3 _
    have hb04 : Below Z.heap.size Z (w3.alloc (.cells #[.int .u32 c0, .int .u32 c1, .int .u8 c2, .int .u16 c3, .int .u16 c4] 27)) := hb03.alloc hz3 _
    obtain ⟨W4, hW4⟩ : ∃ W4, w3.alloc (.cells #[.int .u32 c0, .int .u32 c1, .int .u8 c2, .int .u16 c3, .int .u16 c4] 27) = W4 := ⟨_, rfl⟩
    rw [hW4] at hA4 hB4 hC4 hb04 ⊢
    have hlA : w.heap.size < W4.heap.size := (Array.getElem?_eq_some_iff.1 hA4).1
    have hlB : w.heap.size + 1 < W4.heap.size := (Array.getElem?_eq_some_iff.1 hB4).1
    have hlC : w3.heap.size < W4.heap.size := (Array.getElem?_eq_some_iff.1 hC4).1
    clear hW4 hb1 hb2 hb3 hb02 hb03
    refine wp_region_grows (by kernel_rfl) (by kernel_rfl) ?_
    refine grows_fact w.heap.size 0 (.int .u32 s) (row_cell' hA4 rfl).1 hlA fun r0 => ?_
    refine grows_fact w.heap.size 1 (.int .u32 d) (row_cell' hA4 rfl).1 hlA fun r1 => ?_
    refine grows_fact w.heap.size 2 (.int .u8 p) (row_cell' hA4 rfl).1 hlA fun r2 => ?_
    refine grows_fact w.heap.size 3 (.int .u16 sp) (row_cell' hA4 rfl).1 hlA fun r3 => ?_
    refine grows_fact w.heap.size 4 (.int .u16 dp) (row_cell' hA4 rfl).1 hlA fun r4 => ?_
    refine grows_fact (w.heap.size + 1) 0 (.int .u32 s') (row_cell' hB4 rfl).1 hlB fun q0 => ?_
    refine grows_fact (w.heap.size + 1) 1 (.int .u32 d') (row_cell' hB4 rfl).1 hlB fun q1 => ?_
    refine grows_fact (w.heap.size + 1) 2 (.int .u8 p') (row_cell' hB4 rfl).1 hlB fun q2 => ?_
    refine grows_fact (w.heap.size + 1) 3 (.int .u16 sp') (row_cell' hB4 rfl).1 hlB fun q3 => ?_
    refine grows_fact (w.heap.size + 1) 4 (.int .u16 dp') (row_cell' hB4 rfl).1 hlB fun q4 => ?_
    refine grows_fact w3.heap.size 0 (.int .u32 c0) (row_cell' hC4 rfl).1 hlC fun t0 => ?_
    refine grows_fact w3.heap.size 1 (.int .u32 c1) (row_cell' hC4 rfl).1 hlC fun t1 => ?_
    refine grows_fact w3.heap.size 2 (.int .u8 c2) (row_cell' hC4 rfl).1 hlC fun t2 => ?_
    refine grows_fact w3.heap.size 3 (.int .u16 c3) (row_cell' hC4 rfl).1 hlC fun t3 => ?_
    refine grows_fact w3.heap.size 4 (.int .u16 c4) (row_cell' hC4 rfl).1 hlC fun t4 => ?_
    repeat (go_big_quiet_step ((first | (go_at_call 16; with_reducible exact Calls.grows_of (KAC.out _)) | (go_at_call 16; with_reducible exact Calls.grows_of (KCA.out _)) | (go_at_call 16; with_reducible exact Calls.grows_of (KAB.out _)) | (go_at_call 16; with_reducible exact Calls.grows_of (KBA.out _)) | (go_at_call 9; with_reducible exact Calls.grows_of (KS.out _)))))
    refine wpQuiet_nil ?_
    rintro wB ⟨⟨_, hswB⟩, rfl⟩
    clear r0 r1 r2 r3 r4 q0 q1 q2 q3 q4 t0 t1 t2 t3 t4
    have hb0B := Below.step hb04 hswB
    have hA1 := (hb0B.block _ hz1).trans HAZ.out
    obtain ⟨k0, _⟩ := row_cell' (j := 0) hA1 rfl
    obtain ⟨k1, _⟩ := row_cell' (j := 1) hA1 rfl
    obtain ⟨k2, _⟩ := row_cell' (j := 2) hA1 rfl
    obtain ⟨k3, _⟩ := row_cell' (j := 3) hA1 rfl
    obtain ⟨k4, _⟩ := row_cell' (j := 4) hA1 rfl
    clear hA1
    go_wp2_with fail
    go_at_call 11
    (with_reducible refine (HN.out _).mono ?_)
    rintro e w5 hnp
    obtain ⟨hb5, hcase⟩ := hnp
    clear k0 k1 k2 k3 k4
    have hb05 := Below.step hb0B hb5
    have hz5 : Z.heap.size ≤ w5.heap.size := hb05.size
    clear hb5 hb04 hb0B hA4 hB4 hC4
    rcases hcase with ⟨j, qq, y, hj, hqq, hf, hy, y0, y1, rfl⟩ | ⟨hall, rfl⟩
    · obtain ⟨n0, n1, n2, n3, n4, hnf, hnH, hnby⟩ := ofL_hdr (nx_13 HA13.out hj hqq (y := y + 1) (by omega) (by omega))
      rw [hnf]
      have hVn := V_next HA13.out hj hqq hf hy y0
      rw [← hnby] at hVn
      have hN13 := byL_13 hnH
      have hB13 := byL_13 HH'.out
      have e1 := cmpV_V (HA13.out.len.trans hN13.len.symm) HA13.out.byt hN13.byt
      have e2 := cmpV_V (hN13.len.trans hB13.len.symm) hN13.byt hB13.byt
      change cmpH _ _ = _ at e1
      change cmpH _ _ = _ at e2
      rw [if_pos (by omega)] at e1
      have KAN := cmp_at HH.out hnH e1
      obtain ⟨r, hr⟩ : ∃ r, cmpH (byL n0 n1 n2 n3 n4) (byL s' d' p' sp' dp') = r := ⟨_, rfl⟩
      have KNB := cmp_at hnH HH'.out hr
      have hrr : Hid (V (byL s d p sp dp) < V (byL s' d' p' sp' dp') → r ≤ 0) := Lib.hid fun hlt => by
        rw [← hr, e2]
        by_cases h1 : V (byL n0 n1 n2 n3 n4) < V (byL s' d' p' sp' dp')
        · rw [if_pos h1]; omega
        · rw [if_neg h1, if_neg (by omega)]; omega
      clear hnf hnby hVn hN13 hB13 e1 e2 hr hf hy hj hqq
      have hA6 : (w5.alloc (.cells #[.int .u32 n0, .int .u32 n1, .int .u8 n2, .int .u16 n3, .int .u16 n4] 27)).heap[w.heap.size]? = some (.cells #[.int .u32 s, .int .u32 d, .int .u8 p, .int .u16 sp, .int .u16 dp] 27 (0, 0)) := (heap_alloc_old _ _ (by omega)).trans ((hb05.block _ hz1).trans HAZ.out)
      obtain ⟨k0, _⟩ := row_cell' (j := 0) hA6 rfl
      obtain ⟨k1, _⟩ := row_cell' (j := 1) hA6 rfl
      obtain ⟨k2, _⟩ := row_cell' (j := 2) hA6 rfl
      obtain ⟨k3, _⟩ := row_cell' (j := 3) hA6 rfl
      obtain ⟨k4, _⟩ := row_cell' (j := 4) hA6 rfl
      clear hA6
      go_wp2_with fail
      go_at_call 16
      (with_reducible refine (KAN.out _).mono ?_)
      rintro e w6 ⟨rfl, hb6⟩
      have hb06 : Below Z.heap.size Z w6 := Below.step (hb05.alloc hz5 _) hb6
      have hN6 : w6.heap[w5.heap.size]? = some (.cells #[.int .u32 n0, .int .u32 n1, .int .u8 n2, .int .u16 n3, .int .u16 n4] 27 (0, 0)) := (hb6.block _ (by simp)).trans (heap_alloc_new w5 _)
      have hz6 : w5.heap.size < w6.heap.size := (Array.getElem?_eq_some_iff.1 hN6).1
      clear k0 k1 k2 k3 k4
      have hA6 := (hb06.block _ hz1).trans HAZ.out
      have hB6 := (hb06.block _ hzZ).trans HBZ.out
      obtain ⟨k0, _⟩ := row_cell' (j := 0) hA6 rfl
      obtain ⟨k1, _⟩ := row_cell' (j := 1) hA6 rfl
      obtain ⟨k2, _⟩ := row_cell' (j := 2) hA6 rfl
      obtain ⟨k3, _⟩ := row_cell' (j := 3) hA6 rfl
      obtain ⟨k4, _⟩ := row_cell' (j := 4) hA6 rfl
      obtain ⟨g0, _⟩ := row_cell' (j := 0) hB6 rfl
      obtain ⟨g1, _⟩ := row_cell' (j := 1) hB6 rfl
      obtain ⟨g2, _⟩ := row_cell' (j := 2) hB6 rfl
      obtain ⟨g3, _⟩ := row_cell' (j := 3) hB6 rfl
      obtain ⟨g4, _⟩ := row_cell' (j := 4) hB6 rfl
      clear hA6 hB6
      go_wp2_with fail
      go_at_call 16
      (with_reducible refine (KBA.out _).mono ?_)
      rintro e w7 ⟨rfl, hb7⟩
      have hb07 := Below.step hb06 hb7
      clear k0 k1 k2 k3 k4 g0 g1 g2 g3 g4
      have hN7 := (hb7.block _ hz6).trans hN6
      have hB7 := (hb07.block _ hzZ).trans HBZ.out
      obtain ⟨k0, _⟩ := row_cell' (j := 0) hN7 rfl
      obtain ⟨k1, _⟩ := row_cell' (j := 1) hN7 rfl
      obtain ⟨k2, _⟩ := row_cell' (j := 2) hN7 rfl
      obtain ⟨k3, _⟩ := row_cell' (j := 3) hN7 rfl
      obtain ⟨k4, _⟩ := row_cell' (j := 4) hN7 rfl
      obtain ⟨g0, _⟩ := row_cell' (j := 0) hB7 rfl
      obtain ⟨g1, _⟩ := row_cell' (j := 1) hB7 rfl
      obtain ⟨g2, _⟩ := row_cell' (j := 2) hB7 rfl
      obtain ⟨g3, _⟩ := row_cell' (j := 3) hB7 rfl
      obtain ⟨g4, _⟩ := row_cell' (j := 4) hB7 rfl
      clear hN7 hB7
      go_wp2
      go_ret
      exact ⟨rfl, Below.step HB0.out hb07⟩
    · have hB13 := byL_13 HH'.out
      have hf := V_fulls 13
      have hA1 := fulls_of HA13.out.len hall
      have hlt := V_lt hB13.byt
      rw [hB13.len] at hlt
      have hle : V (byL s' d' p' sp' dp') ≤ V (byL s d p sp dp) := by rw [hA1]; omega
      clear hB13 hf hA1 hlt hall
      have hA6 : (w5.alloc (.cells #[.int .u32 0, .int .u32 0, .int .u8 0, .int .u16 0, .int .u16 0] 27)).heap[w.heap.size]? = some (.cells #[.int .u32 s, .int .u32 d, .int .u8 p, .int .u16 sp, .int .u16 dp] 27 (0, 0)) := (heap_alloc_old _ _ (by omega)).trans ((hb05.block _ hz1).trans HAZ.out)
      have hB6 : (w5.alloc (.cells #[.int .u32 0, .int .u32 0, .int .u8 0, .int .u16 0, .int .u16 0] 27)).heap[w.heap.size + 1]? = some (.cells #[.int .u32 s', .int .u32 d', .int .u8 p', .int .u16 sp', .int .u16 dp'] 27 (0, 0)) := (heap_alloc_old _ _ (by omega)).trans ((hb05.block _ hzZ).trans HBZ.out)
      obtain ⟨k0, _⟩ := row_cell' (j := 0) hA6 rfl
      obtain ⟨k1, _⟩ := row_cell' (j := 1) hA6 rfl
      obtain ⟨k2, _⟩ := row_cell' (j := 2) hA6 rfl
      obtain ⟨k3, _⟩ := row_cell' (j := 3) hA6 rfl
      obtain ⟨k4, _⟩ := row_cell' (j := 4) hA6 rfl
      obtain ⟨g0, _⟩ := row_cell' (j := 0) hB6 rfl
      obtain ⟨g1, _⟩ := row_cell' (j := 1) hB6 rfl
      obtain ⟨g2, _⟩ := row_cell' (j := 2) hB6 rfl
      obtain ⟨g3, _⟩ := row_cell' (j := 3) hB6 rfl
      obtain ⟨g4, _⟩ := row_cell' (j := 4) hB6 rfl
      clear hA6 hB6
      go_wp2_with fail
      go_at_call 16
      (with_reducible refine (KBA.out _).mono ?_)
      rintro e w7 ⟨rfl, hb7⟩
      go_wp2
      go_ret
      exact ⟨rfl, Below.step HB0.out (Below.step (hb05.alloc hz5 _) hb7)⟩
end Go.Proofs.YtbmleejeffaciaaDoor
