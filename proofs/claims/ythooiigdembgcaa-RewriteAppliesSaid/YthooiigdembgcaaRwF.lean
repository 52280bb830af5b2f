/- What Permits of waymarkref11 does. Under the condition that filters read and that the header is one. -/
import Derived.Test.YthooiigdembgcaaRwD
namespace Go.Proofs.Ythooiigdembgcaa
open Go.RowKit
theorem prmS_empty {fs : List FilD} {s : ByteArray} {h : HdrD} (hs : sEq s ⟨#[]⟩ = true) (hh : h.ok) : prmS fs s h = true := by unfold prmS; rw [rulesO_empty hs]; exact any_prm hh
theorem prmS_none {fs : List FilD} {s : ByteArray} {h : HdrD} (e : rulesO fs s = none) : prmS fs s h = false := by unfold prmS; rw [e]
theorem prmS_some {fs : List FilD} {s : ByteArray} {h : HdrD} {l : List RuleD} (e : rulesO fs s = some l) : prmS fs s h = prmB l h := by unfold prmS; rw [e]
set_option maxHeartbeats 2000000 in
theorem rprm_is (fs : List FilD) (s : ByteArray) (h : HdrD) (u : Value) (w : World) (hf : RdF w u fs) (hh : h.ok) : Calls Try.prog 30 #[u, .string s, vH h] w fun e w' => e = .returned (.bool (prmS fs s h)) ∧ Below w.heap.size w w' := by
  obtain ⟨up, uc, rfl, hulc, hucm, hup⟩ := hf.rd.sl
  have HUP := Lib.hid hup
  have HF := Lib.hid hf
  have HH := Lib.hid hh
  clear hf hup hh
  unfold maxLen at hucm
  obtain ⟨q, hq⟩ : ∃ q, sEq s ⟨#[]⟩ = q := ⟨_, rfl⟩
  have HQ := Lib.hid hq
  have hqq : (s.toList == (⟨#[]⟩ : ByteArray).toList) = q := hq
  have hqe : (s.toList == []) = q := by rw [← hqq, show (⟨#[]⟩ : ByteArray).toList = [] by decide +kernel]
  obtain ⟨W1, hW1⟩ : ∃ W, w.alloc (.cells (encH h).toArray 40) = W := ⟨_, rfl⟩
  have HB1 : Hid (Below w.heap.size w W1) := Lib.hid (by rw [← hW1]; exact (Below.refl _ _).alloc (Nat.le_refl _) _)
  have HX1 : Hid (W1.heap[w.heap.size]? = some (.cells (encH h).toArray 40 (0, 0))) := Lib.hid (by rw [← hW1]; exact heap_new _ _)
  clear hq
  cases q with
  | true =>
    have HE := Lib.hid (prmS_empty (fs := fs) HQ.out HH.out)
    obtain ⟨src, dst, pr, sp, dp⟩ := h
    simp only [encH] at hW1
    show Calls _ _ #[_, _, .agg #[.int .u32 src, .int .u32 dst, .int .u8 pr, .int .u16 sp, .int .u16 dp]] _ _
    go_enter Try.func30, Try.ntmps30
    go_wp2
    go_ret
    exact ⟨ret_bool HE.out.symm, HB1.out⟩
  | false =>
    obtain ⟨z, hz⟩ : ∃ z, prmS fs s h = z := ⟨_, rfl⟩
    rw [hz]
    have HZ := Lib.hid hz
    obtain ⟨o, hno⟩ : ∃ o, nmO fs s = o := ⟨_, rfl⟩
    cases o with
    | none =>
      have hI : nmI fs s = -1 := by unfold nmI; rw [hno]
      have HNM := Lib.hid (hI ▸ rnamed_is fs s _ W1 (HF.out.below HB1.out))
      have HE : Hid (z = false) := Lib.hid (by rw [← HZ.out]; exact prmS_none (rulesO_none HQ.out hno))
      clear hno hI hz
      obtain ⟨src, dst, pr, sp, dp⟩ := h
      simp only [encH] at hW1
      show Calls _ _ #[_, _, .agg #[.int .u32 src, .int .u32 dst, .int .u8 pr, .int .u16 sp, .int .u16 dp]] _ _
      go_enter Try.func30, Try.ntmps30
      go_wp2_with fail
      go_at_call 32
      (with_reducible refine HNM.out.mono ?_)
      rintro e w2 ⟨rfl, hb2⟩
      have HB2 := Lib.hid (Below.step HB1.out hb2)
      clear hb2
      go_wp2_with fail
      refine wp_region_grows (by kernel_rfl) (by kernel_rfl) ?_
      repeat (go_big_quiet_step (fail))
      refine wpQuiet_nil ?_
      rintro w3 ⟨⟨_, hb3⟩, rfl⟩
      have HB3 := Lib.hid (Below.step HB2.out hb3)
      clear hb3
      go_wp2
      go_ret
      exact ⟨ret_bool HE.out.symm, HB3.out⟩
    | some m =>
      have hI : nmI fs s = m := by unfold nmI; rw [hno]
      have HNM := Lib.hid (hI ▸ rnamed_is fs s _ W1 (HF.out.below HB1.out))
      obtain ⟨f, hfm⟩ := nmO_at hno
      have hmlt := (List.getElem?_eq_some_iff.1 hfm).1
      obtain ⟨fb, fo, hup2, hfb, hfc⟩ := HUP.out m f hfm
      subst hup2
      have hro := HF.out.ok f (List.mem_of_getElem? hfm)
      have hks : prmB f.l h = z := by rw [← hz]; exact (prmS_some (rulesO_some HQ.out hno hfm)).symm
      obtain ⟨fn, fv, fl⟩ := f
      simp only [encF] at hfc hks hro
      obtain ⟨fp, fc, rfl⟩ := hro.1.slice
      have HFC := Lib.hid hfc
      have HRO := Lib.hid hro.1
      have m1 : (0 : Int) ≤ (m : Int) := by omega
      have m2 : (m : Int) < (fs.length : Int) := by omega
      have m3 : ¬ (m : Int) < 0 := by omega
      have HC : Hid (∀ W, Below w.heap.size w W → Calls Try.prog 12 #[.agg #[.string fn, .slice fp fl.length fc], vH h] W fun e w' => e = .returned (.bool z) ∧ Below W.heap.size W w') := Lib.hid fun W hb => by rw [← hks]; exact rpermits_is fn _ fl h W (HRO.out.below hb) HH.out
      clear hno hI hfm hfc hro hks hz
      obtain ⟨src, dst, pr, sp, dp⟩ := h
      simp only [encH] at hW1
      have HC : Hid (∀ W, Below w.heap.size w W → Calls Try.prog 12 #[.agg #[.string fn, .slice fp fl.length fc], .agg #[.int .u32 src, .int .u32 dst, .int .u8 pr, .int .u16 sp, .int .u16 dp]] W fun e w' => e = .returned (.bool z) ∧ Below W.heap.size W w') := HC
      show Calls _ _ #[_, _, .agg #[.int .u32 src, .int .u32 dst, .int .u8 pr, .int .u16 sp, .int .u16 dp]] _ _
      go_enter Try.func30, Try.ntmps30
      go_wp2_with fail
      go_at_call 32
      (with_reducible refine HNM.out.mono ?_)
      rintro e w2 ⟨rfl, hb2⟩
      have HB2 := Lib.hid (Below.step HB1.out hb2)
      have d0 := HFC.out w2 HB2.out 0 _ rfl
      have d1 := HFC.out w2 HB2.out 1 _ rfl
      simp only [Nat.add_zero] at d0
      have hx2 := (hb2.block w.heap.size (Array.getElem?_eq_some_iff.1 HX1.out).1).trans HX1.out
      have x0 : w2.cell? ⟨w.heap.size, 0, none⟩ = some (.int .u32 src) := by rw [cell_of_heap hx2]; rfl
      have x1 : w2.cell? ⟨w.heap.size, 1, none⟩ = some (.int .u32 dst) := by rw [cell_of_heap hx2]; rfl
      have x2 : w2.cell? ⟨w.heap.size, 2, none⟩ = some (.int .u8 pr) := by rw [cell_of_heap hx2]; rfl
      have x3 : w2.cell? ⟨w.heap.size, 3, none⟩ = some (.int .u16 sp) := by rw [cell_of_heap hx2]; rfl
      have x4 : w2.cell? ⟨w.heap.size, 4, none⟩ = some (.int .u16 dp) := by rw [cell_of_heap hx2]; rfl
      have hz2 : w.heap.size < w2.heap.size := (Array.getElem?_eq_some_iff.1 hx2).1
      have hz3 : fb < w2.heap.size := by have := HB2.out.size; omega
      clear hb2 hx2
      go_wp2_with fail
      refine wp_region_grows (by kernel_rfl) (by kernel_rfl) ?_
      refine grows_fact fb (fo + m * 2) (.string fn) d0 hz3 fun g0 => ?_
      refine grows_fact fb (fo + m * 2 + 1) (.slice fp fl.length fc) d1 hz3 fun g1 => ?_
      refine grows_fact w.heap.size 0 (.int .u32 src) x0 hz2 fun k0 => ?_
      refine grows_fact w.heap.size 1 (.int .u32 dst) x1 hz2 fun k1 => ?_
      refine grows_fact w.heap.size 2 (.int .u8 pr) x2 hz2 fun k2 => ?_
      refine grows_fact w.heap.size 3 (.int .u16 sp) x3 hz2 fun k3 => ?_
      refine grows_fact w.heap.size 4 (.int .u16 dp) x4 hz2 fun k4 => ?_
      clear d0 d1 x0 x1 x2 x3 x4
      repeat (go_big_quiet_step ((go_at_call 12; with_reducible exact Calls.grows_of (HC.out _ (Below.step HB2.out (Grows.below _))))))
      refine wpQuiet_nil ?_
      rintro w3 ⟨⟨_, hb3⟩, rfl⟩
      have HB3 := Lib.hid (Below.step HB2.out hb3)
      clear hb3
      go_wp2
      go_ret
      exact ⟨rfl, HB3.out⟩
end Go.Proofs.Ythooiigdembgcaa
