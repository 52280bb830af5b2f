/- The law HeaderBack where the text is a header's: it answers true; what was there stands. The variables ErrSyntax and ErrRange of package strconv are asked to hold errors, the table of powers of ten to be what its text says. -/
import Derived.Test.YtbmleejeffaciaaDoorHdWk
import Derived.Test.YtbmleejeffaciaaDoorHdV
import Derived.Test.YtbmleejeffaciaaDoorHdW
import Derived.Test.YtbmleejeffaciaaDoorHdX
import Derived.Test.YtbmleejeffaciaaDoorHdBkM
namespace Go.Proofs.YtbmleejeffaciaaDoor
open Go.RowKit
set_option maxRecDepth 100000 in
set_option maxHeartbeats 16000000 in
theorem back_some (s d p sp dp : Int) (tt : List UInt8) (r : List Int) (w : World) (h : Hdr s d p sp dp) (hr : B13 r) (hlen : tt.length ≤ 140737488355328) (x : Nat × Nat × Nat × Nat × Nat) (hx : hparse tt = some x) (hE : ErrV w) (hT : Tab10 w) :
    Calls Tryd.prog 5 #[.agg #[.int .u32 s, .int .u32 d, .int .u8 p, .int .u16 sp, .int .u16 dp], .string ⟨tt.toArray⟩, .agg (r.map u8V).toArray] w fun e w' => e = .returned (.bool true) ∧ Below w.heap.size w w' := by
  obtain ⟨m, hm⟩ : ∃ m, r.map u8V = m := ⟨_, rfl⟩
  have lm : m.length = 13 := by rw [← hm, List.length_map]; exact hr.len
  have HOr : Hid (∀ W, Calls Tryd.prog 24 #[.agg m.toArray] W fun e w' => e = .returned (ofL r) ∧ Below W.heap.size W w') := Lib.hid fun W => by rw [← hm]; exact of_l r W hr
  rw [hm]
  obtain ⟨Z, hZ⟩ : ∃ Z, (w.alloc (.cells #[.int .u32 s, .int .u32 d, .int .u8 p, .int .u16 sp, .int .u16 dp] 27)).alloc (.cells m.toArray 39) = Z := ⟨_, rfl⟩
  have hb0 : Below w.heap.size w Z := by rw [← hZ]; exact ((Below.refl _ _).alloc (Nat.le_refl _) _).alloc (by simp) _
  have hAZ : Z.heap[w.heap.size]? = some (.cells #[.int .u32 s, .int .u32 d, .int .u8 p, .int .u16 sp, .int .u16 dp] 27 (0, 0)) := by rw [← hZ]; exact heap_alloc2_old w _ _
  have hRZ : Z.heap[w.heap.size + 1]? = some (.cells m.toArray 39 (0, 0)) := by rw [← hZ]; exact heap_alloc2_new w _ _
  have hzZ : w.heap.size + 1 < Z.heap.size := (Array.getElem?_eq_some_iff.1 hRZ).1
  have HW := Lib.hid (works_is _ (hE.on hb0) (hT.on hb0))
  have hA13 := byL_13 h
  obtain ⟨tx, htx⟩ : ∃ tx, htext s d p sp dp = tx := ⟨_, rfl⟩
  have HTx : Hid (∀ W, Below Z.heap.size Z W → Calls Tryd.prog 20 #[.agg #[.int .u32 s, .int .u32 d, .int .u8 p, .int .u16 sp, .int .u16 dp]] W fun e w' => e = .returned (.string ⟨tx.toArray⟩) ∧ Below W.heap.size W w') := Lib.hid fun W hb => by rw [← htx]; exact htext_is s d p sp dp W h (hT.on (Below.step hb0 hb))
  have HPx : Hid (∀ W, Below Z.heap.size Z W → Calls Tryd.prog 10 #[.string ⟨tx.toArray⟩] W fun e w' => e = .returned (.tuple #[.agg #[.int .u32 s, .int .u32 d, .int .u8 p, .int .u16 sp, .int .u16 dp], .int .i64 0]) ∧ Below W.heap.size W w') := Lib.hid fun W hb => by rw [← htx]; exact hback_is s d p sp dp W h (hE.on (Below.step hb0 hb)) (hT.on (Below.step hb0 hb))
  obtain ⟨hbt, hbh⟩ := hparse_back hx
  have HPt : Hid (∀ W, Below Z.heap.size Z W → Calls Tryd.prog 10 #[.string ⟨tt.toArray⟩] W fun e w' => e = .returned (HpVal (some x)) ∧ Below W.heap.size W w') := Lib.hid fun W hb => by have := hparse_is tt hlen W (hE.on (Below.step hb0 hb)) (hT.on (Below.step hb0 hb)); rw [hx] at this; exact this
  obtain ⟨b0, hb0e⟩ : ∃ b0 : Int, (x.1 : Int) = b0 := ⟨_, rfl⟩
  obtain ⟨b1, hb1e⟩ : ∃ b1 : Int, (x.2.1 : Int) = b1 := ⟨_, rfl⟩
  obtain ⟨b2, hb2e⟩ : ∃ b2 : Int, (x.2.2.1 : Int) = b2 := ⟨_, rfl⟩
  obtain ⟨b3, hb3e⟩ : ∃ b3 : Int, (x.2.2.2.1 : Int) = b3 := ⟨_, rfl⟩
  obtain ⟨b4, hb4e⟩ : ∃ b4 : Int, (x.2.2.2.2 : Int) = b4 := ⟨_, rfl⟩
  rw [show HpVal (some x) = .tuple #[.agg #[.int .u32 b0, .int .u32 b1, .int .u8 b2, .int .u16 b3, .int .u16 b4], .int .i64 0] by simp only [HpVal]; rw [hb0e, hb1e, hb2e, hb3e, hb4e]] at HPt
  rw [hb0e, hb1e, hb2e, hb3e, hb4e] at hbt hbh
  have HTb : Hid (∀ W, Below Z.heap.size Z W → Calls Tryd.prog 20 #[.agg #[.int .u32 b0, .int .u32 b1, .int .u8 b2, .int .u16 b3, .int .u16 b4]] W fun e w' => e = .returned (.string ⟨tt.toArray⟩) ∧ Below W.heap.size W w') := Lib.hid fun W hb => by have := htext_is b0 b1 b2 b3 b4 W hbh (hT.on (Below.step hb0 hb)); rw [hbt] at this; exact this
  clear hb0e hb1e hb2e hb3e hb4e hbt hbh
  have HS : Hid (∀ W, Calls Tryd.prog 9 #[.agg #[.int .u32 s, .int .u32 d, .int .u8 p, .int .u16 sp, .int .u16 dp], .agg #[.int .u32 s, .int .u32 d, .int .u8 p, .int .u16 sp, .int .u16 dp]] W fun e w' => e = .returned (.bool true) ∧ Below W.heap.size W w') := Lib.hid fun W => by have := same_is s d p sp dp s d p sp dp W; rw [decide_eq_true ⟨⟨rfl, rfl⟩, rfl, rfl, rfl⟩] at this; exact this
  obtain ⟨ma, hma⟩ : ∃ ma, ((byL s d p sp dp).map u8V).toArray = ma := ⟨_, rfl⟩
  have HBy : Hid (∀ W, Calls Tryd.prog 22 #[.agg #[.int .u32 s, .int .u32 d, .int .u8 p, .int .u16 sp, .int .u16 dp]] W fun e w' => e = .returned (.agg ma) ∧ Below W.heap.size W w') := Lib.hid fun W => by rw [← hma]; exact bytes_l s d p sp dp W h
  have HOf : Hid (∀ W, Calls Tryd.prog 24 #[.agg ma] W fun e w' => e = .returned (.agg #[.int .u32 s, .int .u32 d, .int .u8 p, .int .u16 sp, .int .u16 dp]) ∧ Below W.heap.size W w') := Lib.hid fun W => by rw [← hma, ← of_byL h]; exact of_l _ W hA13
  obtain ⟨c0, c1, c2, c3, c4, hcf, hcH, hcby⟩ := ofL_hdr hr
  rw [hcf] at HOr
  obtain ⟨l, hl⟩ : ∃ l, byL s d p sp dp = l := ⟨_, rfl⟩
  have HL : Hid (byL s d p sp dp = l) := Lib.hid hl
  rw [hl] at hA13
  have HH := Lib.hid h; have HA13 := Lib.hid hA13; have HR := Lib.hid hr; have HM := Lib.hid hm; have HCH := Lib.hid hcH; have HCB := Lib.hid hcby; have LM := Lib.hid lm
  have HAZ := Lib.hid hAZ; have HRZ := Lib.hid hRZ; have HB0 := Lib.hid hb0
  clear hE hT hb0 hA13 hcf hcH hcby h hr hl hma htx hm lm hx
  have hz1 : w.heap.size < Z.heap.size := by omega
  go_enter Tryd.func5, Tryd.ntmps5
  go_wp2_with fail
  go_at_call 7
  refine HW.out.mono ?_
  rintro e w1 ⟨rfl, hb1⟩
  have hA1 := (hb1.block _ hz1).trans HAZ.out
  obtain ⟨k0, _⟩ := row_cell' (j := 0) hA1 rfl
  obtain ⟨k1, _⟩ := row_cell' (j := 1) hA1 rfl
  obtain ⟨k2, _⟩ := row_cell' (j := 2) hA1 rfl
  obtain ⟨k3, _⟩ := row_cell' (j := 3) hA1 rfl
  obtain ⟨k4, _⟩ := row_cell' (j := 4) hA1 rfl
  clear hA1
  go_wp2_with fail
  go_at_call 20
  (with_reducible refine (HTx.out _ hb1).mono ?_)
  rintro e w2 ⟨rfl, hb2⟩
  have hb02 := Below.step hb1 hb2
  clear k0 k1 k2 k3 k4
  go_wp2_with fail
  go_at_call 10
  (with_reducible refine (HPx.out _ hb02).mono ?_)
  rintro e w3 ⟨rfl, hb3⟩
  have hb03 := Below.step hb02 hb3
  have hz3 : Z.heap.size ≤ w3.heap.size := hb03.size
  have hb04 : Below Z.heap.size Z (w3.alloc (.cells #[.int .u32 s, .int .u32 d, .int .u8 p, .int .u16 sp, .int .u16 dp] 27)) := hb03.alloc hz3 _
  go_wp2_with fail
  go_at_call 10
  (with_reducible refine (HPt.out _ hb04).mono ?_)
  rintro e w4 ⟨rfl, hb4⟩
  go_wp2
  have hb05' := Below.step hb04 hb4
  have hz4 : w3.heap.size < w4.heap.size := by have := hb4.size; simp at this; omega
  have hz4' : Z.heap.size ≤ w4.heap.size := hb05'.size
  have hA5 : (w4.alloc (.cells #[.int .u32 b0, .int .u32 b1, .int .u8 b2, .int .u16 b3, .int .u16 b4] 27)).heap[w.heap.size]? = some (.cells #[.int .u32 s, .int .u32 d, .int .u8 p, .int .u16 sp, .int .u16 dp] 27 (0, 0)) := (heap_alloc_old _ _ (by omega)).trans ((hb05'.block _ hz1).trans HAZ.out)
  have hC5 : (w4.alloc (.cells #[.int .u32 b0, .int .u32 b1, .int .u8 b2, .int .u16 b3, .int .u16 b4] 27)).heap[w3.heap.size]? = some (.cells #[.int .u32 s, .int .u32 d, .int .u8 p, .int .u16 sp, .int .u16 dp] 27 (0, 0)) := (heap_alloc_old _ _ hz4).trans ((hb4.block _ (by simp)).trans (heap_alloc_new w3 _))
  have hB5 : (w4.alloc (.cells #[.int .u32 b0, .int .u32 b1, .int .u8 b2, .int .u16 b3, .int .u16 b4] 27)).heap[w4.heap.size]? = some (.cells #[.int .u32 b0, .int .u32 b1, .int .u8 b2, .int .u16 b3, .int .u16 b4] 27 (0, 0)) := heap_alloc_new w4 _
  have hb05 : Below Z.heap.size Z (w4.alloc (.cells #[.int .u32 b0, .int .u32 b1, .int .u8 b2, .int .u16 b3, .int .u16 b4] 27)) := hb05'.alloc hz4' _
  obtain ⟨W5, hW5⟩ : ∃ W5, w4.alloc (.cells #[.int .u32 b0, .int .u32 b1, .int .u8 b2, .int .u16 b3, .int .u16 b4] 27) = W5 := ⟨_, rfl⟩
  rw [hW5] at hA5 hB5 hC5 hb05 ⊢
  have hlA : w.heap.size < W5.heap.size := (Array.getElem?_eq_some_iff.1 hA5).1
  have hlC : w3.heap.size < W5.heap.size := (Array.getElem?_eq_some_iff.1 hC5).1
  have hlB : w4.heap.size < W5.heap.size := (Array.getElem?_eq_some_iff.1 hB5).1
  have HTb5 : Hid (∀ y : Grows W5, Calls Tryd.prog 20 #[.agg #[.int .u32 b0, .int .u32 b1, .int .u8 b2, .int .u16 b3, .int .u16 b4]] y.val fun e w' => e = .returned (.string ⟨tt.toArray⟩) ∧ Below y.val.heap.size y.val w') := Lib.hid fun y => HTb.out _ (Below.step hb05 y.below)
  clear hW5 hb1 hb2 hb3 hb4 hb02 hb03 hb04 hb05'
  refine wp_region_grows (by kernel_rfl) (by kernel_rfl) ?_
  refine grows_fact w.heap.size 0 (.int .u32 s) (row_cell' hA5 rfl).1 hlA fun r0 => ?_
  refine grows_fact w.heap.size 1 (.int .u32 d) (row_cell' hA5 rfl).1 hlA fun r1 => ?_
  refine grows_fact w.heap.size 2 (.int .u8 p) (row_cell' hA5 rfl).1 hlA fun r2 => ?_
  refine grows_fact w.heap.size 3 (.int .u16 sp) (row_cell' hA5 rfl).1 hlA fun r3 => ?_
  refine grows_fact w.heap.size 4 (.int .u16 dp) (row_cell' hA5 rfl).1 hlA fun r4 => ?_
  refine grows_fact w3.heap.size 0 (.int .u32 s) (row_cell' hC5 rfl).1 hlC fun t0 => ?_
  refine grows_fact w3.heap.size 1 (.int .u32 d) (row_cell' hC5 rfl).1 hlC fun t1 => ?_
  refine grows_fact w3.heap.size 2 (.int .u8 p) (row_cell' hC5 rfl).1 hlC fun t2 => ?_
  refine grows_fact w3.heap.size 3 (.int .u16 sp) (row_cell' hC5 rfl).1 hlC fun t3 => ?_
  refine grows_fact w3.heap.size 4 (.int .u16 dp) (row_cell' hC5 rfl).1 hlC fun t4 => ?_
  refine grows_fact w4.heap.size 0 (.int .u32 b0) (row_cell' hB5 rfl).1 hlB fun q0 => ?_
  refine grows_fact w4.heap.size 1 (.int .u32 b1) (row_cell' hB5 rfl).1 hlB fun q1 => ?_
  refine grows_fact w4.heap.size 2 (.int .u8 b2) (row_cell' hB5 rfl).1 hlB fun q2 => ?_
  refine grows_fact w4.heap.size 3 (.int .u16 b3) (row_cell' hB5 rfl).1 hlB fun q3 => ?_
  refine grows_fact w4.heap.size 4 (.int .u16 b4) (row_cell' hB5 rfl).1 hlB fun q4 => ?_
  repeat (go_big_quiet_step ((first | (go_at_call 9; with_reducible exact Calls.grows_of (HS.out _)) | (go_at_call 22; with_reducible exact Calls.grows_of (HBy.out _)) | (go_at_call 24; with_reducible exact Calls.grows_of (HOf.out _)) | (go_at_call 20; with_reducible exact Calls.grows_of (HTb5.out _)))))
  refine wpQuiet_nil ?_
  rintro wB ⟨⟨w6, hsw6⟩, rfl⟩
  clear r0 r1 r2 r3 r4 t0 t1 t2 t3 t4 q0 q1 q2 q3 q4
  have hb06 := Below.step hb05 hsw6
  have hR6 := (hb06.block _ hzZ).trans HRZ.out
  go_wp2_with (refine wpList_load_row rfl 39 _ rfl (w.heap.size + 1) rfl 39 m.toArray (0, 0) _ hR6 Tryd.underlying39 rfl (size13 LM.out) ?_)
  go_at_call 24
  (with_reducible refine (HOr.out _).mono ?_)
  rintro e w7 ⟨rfl, hb7⟩
  have hb07 := Below.step hb06 hb7
  have hz7 : Z.heap.size ≤ w7.heap.size := hb07.size
  go_wp2
  have hb08 : Below Z.heap.size Z (w7.alloc (.cells #[.int .u32 c0, .int .u32 c1, .int .u8 c2, .int .u16 c3, .int .u16 c4] 27)) := hb07.alloc hz7 _
  have hC8 : (w7.alloc (.cells #[.int .u32 c0, .int .u32 c1, .int .u8 c2, .int .u16 c3, .int .u16 c4] 27)).heap[w7.heap.size]? = some (.cells #[.int .u32 c0, .int .u32 c1, .int .u8 c2, .int .u16 c3, .int .u16 c4] 27 (0, 0)) := heap_alloc_new w7 _
  obtain ⟨W8, hW8⟩ : ∃ W8, w7.alloc (.cells #[.int .u32 c0, .int .u32 c1, .int .u8 c2, .int .u16 c3, .int .u16 c4] 27) = W8 := ⟨_, rfl⟩
  rw [hW8] at hb08 hC8 ⊢
  clear hW8 hb07 hb06 hsw6 hR6 hb05 hb7
  obtain ⟨g, hg⟩ : ∃ g, w7.heap.size = g := ⟨_, rfl⟩
  rw [hg] at hC8 hz7 ⊢
  clear hg
  have hg8 : g < W8.heap.size := (Array.getElem?_eq_some_iff.1 hC8).1
  go_loopw [12] (fun s12 wr => ∃ (k : Nat) (n0 n1 n2 n3 n4 : Int), k ≤ 104 ∧ s12 = .int .i64 k ∧ Hdr n0 n1 n2 n3 n4 ∧ byL n0 n1 n2 n3 n4 = mix l r k ∧ Below Z.heap.size Z wr ∧ wr.heap[g]? = some (.cells #[.int .u32 n0, .int .u32 n1, .int .u8 n2, .int .u16 n3, .int .u16 n4] 27 (0, 0))) (fun s12 _ => 104 - (intOf s12).toNat)
  case atStart => exact ⟨0, c0, c1, c2, c3, c4, by omega, rfl, HCH.out, HCB.out, hb08, hC8⟩
  case round =>
    obtain ⟨k, n0, n1, n2, n3, n4, hk, rfl, hnH, hnby, hbr, hC⟩ := hrel
    have hk0 : (0 : Int) ≤ (k : Int) := by omega
    have hgr : g < wr.heap.size := (Array.getElem?_eq_some_iff.1 hC).1
    have hAr := (hbr.block _ hz1).trans HAZ.out
    by_cases hk4 : k < 104
    · obtain ⟨x, hx⟩ : ∃ x, tb l k = x := ⟨_, rfl⟩
      obtain ⟨y, hy⟩ : ∃ y, tb r k = y := ⟨_, rfl⟩
      have KB1 : Hid (∀ W, Calls Tryd.prog 12 #[.agg #[.int .u32 s, .int .u32 d, .int .u8 p, .int .u16 sp, .int .u16 dp], .int .i64 k] W fun e w' => e = .returned (.tuple #[.bool x, .int .i64 0]) ∧ Below W.heap.size W w') := Lib.hid fun W => by
        have := bit_is s d p sp dp k hk4 W HH.out
        rw [HL.out, hx] at this
        exact this
      have KB2 : Hid (∀ W, Calls Tryd.prog 12 #[.agg #[.int .u32 n0, .int .u32 n1, .int .u8 n2, .int .u16 n3, .int .u16 n4], .int .i64 k] W fun e w' => e = .returned (.tuple #[.bool y, .int .i64 0]) ∧ Below W.heap.size W w') := Lib.hid fun W => by
        have := bit_is n0 n1 n2 n3 n4 k hk4 W hnH
        rw [hnby, tb_mix HR.out k hk k hk4, if_neg (Nat.lt_irrefl _), hy] at this
        exact this
      obtain ⟨f0, f1, f2, f3, f4, hff, hfH, hfby⟩ := ofL_hdr (mix_13 (l := l) HR.out (k + 1) (by omega))
      have KW : Hid (∀ W, Calls Tryd.prog 8 #[.agg #[.int .u32 n0, .int .u32 n1, .int .u8 n2, .int .u16 n3, .int .u16 n4], .int .i64 k, .bool x] W fun e w' => e = .returned (.tuple #[.agg #[.int .u32 f0, .int .u32 f1, .int .u8 f2, .int .u16 f3, .int .u16 f4], .int .i64 0]) ∧ Below W.heap.size W w') := Lib.hid fun W => by
        have := with_is n0 n1 n2 n3 n4 k x hk4 W hnH
        rw [hnby, ← hx] at this
        rw [← hff, ← hx]
        exact this
      obtain ⟨q, hq⟩ : ∃ q, k / 8 = q := ⟨_, rfl⟩
      obtain ⟨j, hj⟩ : ∃ j, k % 8 = j := ⟨_, rfl⟩
      have hq13 : q < 13 := by omega
      have hj8 : j < 8 := by omega
      have hqd : (k : Int).tdiv 8 = (q : Int) := by rw [Int.tdiv_eq_ediv_of_nonneg hk0]; omega
      have hqm : (k : Int).tmod 8 = (j : Int) := by rw [Int.tmod_eq_emod_of_nonneg hk0]; omega
      obtain ⟨v, hv⟩ : ∃ v, r.getD q 0 = v := ⟨_, rfl⟩
      have v0 : 0 ≤ v := by rw [← hv]; exact HR.out.at_lo hq13
      have v1 : v < 256 := by rw [← hv]; exact HR.out.at_hi hq13
      have g0 : m[q]? = some (.int .u8 v) := by
        rw [← HM.out, List.getElem?_map, ← hv, List.getD_eq_getElem?_getD, List.getElem?_eq_getElem (by rw [HR.out.len]; exact hq13)]; rfl
      have HBIT := Lib.hid (shr_bit v k j y v0 v1 hj (by rw [← hy]; unfold tb; rw [hq, hv]))
      have hk104 : (k : Int) < 104 := by omega
      have q0 : (0 : Int) ≤ (q : Int) := by omega
      have q1 : (q : Int) < 13 := by omega
      have j0 : (0 : Int) ≤ (j : Int) := by omega
      have j1 : (j : Int) < 8 := by omega
      obtain ⟨k0, _⟩ := row_cell' (j := 0) hAr rfl
      obtain ⟨k1, _⟩ := row_cell' (j := 1) hAr rfl
      obtain ⟨k2, _⟩ := row_cell' (j := 2) hAr rfl
      obtain ⟨k3, _⟩ := row_cell' (j := 3) hAr rfl
      obtain ⟨k4, _⟩ := row_cell' (j := 4) hAr rfl
      clear hAr hx hy hff hv hnH hnby hq hk
      go_wp2_with fail
      go_at_call 12
      (with_reducible refine (KB1.out _).mono ?_)
      rintro e w9 ⟨rfl, hb9⟩
      have hC9 := (hb9.block _ hgr).trans hC
      obtain ⟨e0, _⟩ := row_cell' (j := 0) hC9 rfl
      obtain ⟨e1, _⟩ := row_cell' (j := 1) hC9 rfl
      obtain ⟨e2, _⟩ := row_cell' (j := 2) hC9 rfl
      obtain ⟨e3, _⟩ := row_cell' (j := 3) hC9 rfl
      obtain ⟨e4, _⟩ := row_cell' (j := 4) hC9 rfl
      clear k0 k1 k2 k3 k4
      go_wp2_with fail
      go_at_call 12
      (with_reducible refine (KB2.out _).mono ?_)
      rintro e w10 ⟨rfl, hb10⟩
      have hg9 : g < w9.heap.size := (Array.getElem?_eq_some_iff.1 hC9).1
      have hC10 := (hb10.block _ hg9).trans hC9
      have hb010 := Below.step (Below.step hbr hb9) hb10
      have hR10 := (hb010.block _ hzZ).trans HRZ.out
      clear e0 e1 e2 e3 e4
      obtain ⟨hr1, hr2⟩ := row_cell' (j := q) hR10 (by simpa using g0)
      obtain ⟨e0, _⟩ := row_cell' (j := 0) hC10 rfl
      obtain ⟨e1, _⟩ := row_cell' (j := 1) hC10 rfl
      obtain ⟨e2, _⟩ := row_cell' (j := 2) hC10 rfl
      obtain ⟨e3, _⟩ := row_cell' (j := 3) hC10 rfl
      obtain ⟨e4, _⟩ := row_cell' (j := 4) hC10 rfl
      clear hC9 hR10
      have hbit := HBIT.out
      go_wp2_with fail
      go_at_call 8
      (with_reducible refine (KW.out _).mono ?_)
      rintro e w11 ⟨rfl, hb11⟩
      have hg10 : g < w10.heap.size := (Array.getElem?_eq_some_iff.1 hC10).1
      have hC11 := (hb11.block _ hg10).trans hC10
      have hb011 := Below.step hb010 hb11
      clear e0 e1 e2 e3 e4
      obtain ⟨e0, ef0⟩ := row_cell' (j := 0) hC11 rfl
      obtain ⟨e1, ef1⟩ := row_cell' (j := 1) hC11 rfl
      obtain ⟨e2, ef2⟩ := row_cell' (j := 2) hC11 rfl
      obtain ⟨e3, ef3⟩ := row_cell' (j := 3) hC11 rfl
      obtain ⟨e4, ef4⟩ := row_cell' (j := 4) hC11 rfl
      clear hC10
      go_wp2
      go_roundw
      case rel =>
        exact ⟨k + 1, f0, f1, f2, f3, f4, by omega, rfl, hfH, hfby, by
          repeat refine Below.setCell ?_ (by omega) _
          exact hb011, set5 hC11⟩
      case measure => simp [intOf]; omega
    · obtain rfl : k = 104 := by omega
      have hnn : Value.agg #[.int .u32 n0, .int .u32 n1, .int .u8 n2, .int .u16 n3, .int .u16 n4] = .agg #[.int .u32 s, .int .u32 d, .int .u8 p, .int .u16 sp, .int .u16 dp] := by rw [← of_byL hnH, ← of_byL HH.out, hnby, mix_all HA13.out HR.out, HL.out]
      simp only [Value.agg.injEq, Array.mk.injEq, List.cons.injEq, Value.int.injEq, true_and, and_true] at hnn
      obtain ⟨rfl, rfl, rfl, rfl, rfl⟩ := hnn
      obtain ⟨k0, _⟩ := row_cell' (j := 0) hAr rfl
      obtain ⟨k1, _⟩ := row_cell' (j := 1) hAr rfl
      obtain ⟨k2, _⟩ := row_cell' (j := 2) hAr rfl
      obtain ⟨k3, _⟩ := row_cell' (j := 3) hAr rfl
      obtain ⟨k4, _⟩ := row_cell' (j := 4) hAr rfl
      obtain ⟨e0, _⟩ := row_cell' (j := 0) hC rfl
      obtain ⟨e1, _⟩ := row_cell' (j := 1) hC rfl
      obtain ⟨e2, _⟩ := row_cell' (j := 2) hC rfl
      obtain ⟨e3, _⟩ := row_cell' (j := 3) hC rfl
      obtain ⟨e4, _⟩ := row_cell' (j := 4) hC rfl
      clear hAr hC hnH hnby
      go_wp2_with fail
      go_at_call 9
      (with_reducible refine (HS.out _).mono ?_)
      rintro e w9 ⟨rfl, hb9⟩
      go_wp2
      go_ret
      exact ⟨rfl, Below.step HB0.out (Below.step hbr hb9)⟩
end Go.Proofs.YtbmleejeffaciaaDoor
