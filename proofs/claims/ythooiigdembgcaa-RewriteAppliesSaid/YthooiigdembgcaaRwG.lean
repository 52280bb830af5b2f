/- What First of waymarkref11 does. Under the condition that filters and rewrites read and that the header is one. -/
import Derived.Test.YthooiigdembgcaaRwF
namespace Go.Proofs.Ythooiigdembgcaa
open Go.RowKit
theorem firO_some {ws : List RewD} {fs : List FilD} {d : Bool} {h : HdrD} {k : Nat} {r : RewD} (hs : ws[k]? = some r) (hf : ((r.dest == d) && prmS fs r.flt h) = true) (ha : ∀ (i : Nat) (r : RewD), i < k → ws[i]? = some r → ((r.dest == d) && prmS fs r.flt h) = false) : firO ws fs d h = some k := by
  unfold firO
  rw [List.findIdx?_eq_some_iff_getElem]
  obtain ⟨hk, e⟩ := List.getElem?_eq_some_iff.1 hs
  refine ⟨hk, by rw [e]; exact hf, fun j hj => ?_⟩
  have := ha j _ hj (List.getElem?_eq_getElem (by omega))
  rw [this]; simp
theorem firO_none {ws : List RewD} {fs : List FilD} {d : Bool} {h : HdrD} (ha : ∀ (i : Nat) (r : RewD), ws[i]? = some r → ((r.dest == d) && prmS fs r.flt h) = false) : firO ws fs d h = none := by
  unfold firO
  rw [List.findIdx?_eq_none_iff]
  intro f hf
  obtain ⟨i, hi, e⟩ := List.mem_iff_getElem.1 hf
  exact ha i f (by rw [List.getElem?_eq_getElem hi, e])
theorem firI_some {ws : List RewD} {fs : List FilD} {d : Bool} {h : HdrD} {k : Nat} (e : firO ws fs d h = some k) : firI ws fs d h = k := by unfold firI; rw [e]
theorem firI_none {ws : List RewD} {fs : List FilD} {d : Bool} {h : HdrD} (e : firO ws fs d h = none) : firI ws fs d h = -1 := by unfold firI; rw [e]
theorem firO_at {ws : List RewD} {fs : List FilD} {d : Bool} {h : HdrD} {k : Nat} (e : firO ws fs d h = some k) : ∃ r, ws[k]? = some r := by
  unfold firO at e
  rw [List.findIdx?_eq_some_iff_getElem] at e
  obtain ⟨hk, _⟩ := e
  exact ⟨_, List.getElem?_eq_getElem hk⟩
theorem hdr_cells {W : World} {b : Nat} {src dst pr sp dp : Int} (h : W.heap[b]? = some (.cells #[.int .u32 src, .int .u32 dst, .int .u8 pr, .int .u16 sp, .int .u16 dp] 40 (0, 0))) : W.cell? ⟨b, 0, none⟩ = some (.int .u32 src) ∧ W.cell? ⟨b, 1, none⟩ = some (.int .u32 dst) ∧ W.cell? ⟨b, 2, none⟩ = some (.int .u8 pr) ∧ W.cell? ⟨b, 3, none⟩ = some (.int .u16 sp) ∧ W.cell? ⟨b, 4, none⟩ = some (.int .u16 dp) := by
  refine ⟨?_, ?_, ?_, ?_, ?_⟩ <;> (rw [cell_of_heap h]; rfl)
set_option maxHeartbeats 2000000 in
theorem rfirst_no (ws : List RewD) (fs : List FilD) (v u : Value) (d : Bool) (h : HdrD) (w : World) (c0 : Int) (hr : RdK encW 3 w v ws) (hf : RdF w u fs) (hck : ckWs ws fs = c0) (hne : c0 ≠ 0) : Calls Try.prog 16 #[v, u, .bool d, vH h] w fun e w' => e = .returned (.tuple #[.int .i64 0, .int .i64 c0]) ∧ Below w.heap.size w w' := by
  obtain ⟨src, dst, pr, sp, dp⟩ := h
  have HB1 : Hid (Below w.heap.size w (w.alloc (.cells #[.int .u32 src, .int .u32 dst, .int .u8 pr, .int .u16 sp, .int .u16 dp] 40))) := Lib.hid ((Below.refl _ _).alloc (Nat.le_refl _) _)
  have HC := Lib.hid (hck ▸ rchk_is ws fs v u _ (hr.below HB1.out) (hf.below HB1.out))
  have hne2 : (c0 != 0) = true := by simpa using hne
  show Calls _ _ #[_, _, _, .agg #[.int .u32 src, .int .u32 dst, .int .u8 pr, .int .u16 sp, .int .u16 dp]] _ _
  clear hr hf hck hne
  go_enter Try.func16, Try.ntmps16
  go_wp2_with fail
  go_at_call 20
  (with_reducible refine HC.out.mono ?_)
  rintro e w1 ⟨rfl, hb1⟩
  have HB2 := Lib.hid (Below.step HB1.out hb1)
  clear hb1
  go_wp2
  go_ret2
  exact ⟨rfl, HB2.out⟩
set_option maxHeartbeats 2000000 in
theorem rfirst_ok (ws : List RewD) (fs : List FilD) (v u : Value) (d : Bool) (h : HdrD) (w : World) (hr : RdK encW 3 w v ws) (hf : RdF w u fs) (hh : h.ok) (hck : ckWs ws fs = 0) : Calls Try.prog 16 #[v, u, .bool d, vH h] w fun e w' => e = .returned (.tuple #[.int .i64 (firI ws fs d h), .int .i64 0]) ∧ Below w.heap.size w w' := by
  obtain ⟨p, c, rfl, hlc, hcm, hp⟩ := hr.sl
  have HP := Lib.hid hp
  have HR := Lib.hid hr
  have HF := Lib.hid hf
  have HH := Lib.hid hh
  clear hp hr hf hh
  unfold maxLen at hcm
  obtain ⟨src, dst, pr, sp, dp⟩ := h
  obtain ⟨W1, hW1⟩ : ∃ W, w.alloc (.cells #[.int .u32 src, .int .u32 dst, .int .u8 pr, .int .u16 sp, .int .u16 dp] 40) = W := ⟨_, rfl⟩
  have HB1 : Hid (Below w.heap.size w W1) := Lib.hid (by rw [← hW1]; exact (Below.refl _ _).alloc (Nat.le_refl _) _)
  have HX1 : Hid (W1.heap[w.heap.size]? = some (.cells #[.int .u32 src, .int .u32 dst, .int .u8 pr, .int .u16 sp, .int .u16 dp] 40 (0, 0))) := Lib.hid (by rw [← hW1]; exact heap_new _ _)
  have HC := Lib.hid (hck ▸ rchk_is ws fs _ u W1 (HR.out.below HB1.out) (HF.out.below HB1.out))
  have HHC : Hid (∀ W, Below W1.heap.size W1 W → w.heap.size < W.heap.size ∧ W.cell? ⟨w.heap.size, 0, none⟩ = some (.int .u32 src) ∧ W.cell? ⟨w.heap.size, 1, none⟩ = some (.int .u32 dst) ∧ W.cell? ⟨w.heap.size, 2, none⟩ = some (.int .u8 pr) ∧ W.cell? ⟨w.heap.size, 3, none⟩ = some (.int .u16 sp) ∧ W.cell? ⟨w.heap.size, 4, none⟩ = some (.int .u16 dp)) := Lib.hid fun W hb => by
    have hlt := (Array.getElem?_eq_some_iff.1 HX1.out).1
    have e := (hb.block w.heap.size hlt).trans HX1.out
    exact ⟨(Array.getElem?_eq_some_iff.1 e).1, hdr_cells e⟩
  show Calls _ _ #[_, _, _, .agg #[.int .u32 src, .int .u32 dst, .int .u8 pr, .int .u16 sp, .int .u16 dp]] _ _
  clear hck
  go_enter Try.func16, Try.ntmps16
  go_wp2_with fail
  go_at_call 20
  (with_reducible refine HC.out.mono ?_)
  rintro e w1 ⟨rfl, hb1⟩
  have HB2 := Lib.hid hb1
  clear hb1
  go_wp2
  go_loopw [11] (fun i wr => ∃ k : Nat, k ≤ ws.length ∧ i = .int .i64 k ∧ Hid (∀ (i : Nat) (r : RewD), i < k → ws[i]? = some r → ((r.dest == d) && prmS fs r.flt ⟨src, dst, pr, sp, dp⟩) = false) ∧ Below W1.heap.size W1 wr) (fun i _ => ws.length - (intOf i).toNat)
  case atStart => exact ⟨0, Nat.zero_le _, rfl, Lib.hid (fun i r h => by omega), HB2.out⟩
  case round =>
    obtain ⟨k, hk, rfl, HA, hbw⟩ := hrel
    have HX := Lib.hid hbw
    have HW := Lib.hid (Below.step HB1.out hbw)
    clear hbw
    by_cases hlt : k < ws.length
    · obtain ⟨r, hs⟩ : ∃ r, ws[k]? = some r := ⟨_, List.getElem?_eq_getElem hlt⟩
      obtain ⟨b, o, rfl, hbs, hc⟩ := HP.out k r hs
      have hc := hc wr HW.out
      have e1 : (0 : Int) ≤ (k : Int) := by omega
      have e2 : (k : Int) < (ws.length : Int) := by omega
      have HS := Lib.hid hs
      have hz := HW.out.size
      clear hs
      obtain ⟨dest, flt, aim⟩ := r
      simp only [encW] at hc
      have c0 : wr.cell? ⟨b, o + k * 3, none⟩ = some (.bool dest) := hc 0 _ rfl
      have c1 : wr.cell? ⟨b, o + k * 3 + 1, none⟩ = some (.string flt) := hc 1 _ rfl
      have hbr : b < wr.heap.size := by omega
      clear hc
      obtain ⟨hz2, x0, x1, x2, x3, x4⟩ := HHC.out wr HX.out
      obtain ⟨q, hq⟩ : ∃ q, (dest == d) = q := ⟨_, rfl⟩
      obtain ⟨z, hzz⟩ : ∃ z, prmS fs flt ⟨src, dst, pr, sp, dp⟩ = z := ⟨_, rfl⟩
      have HQ := Lib.hid hq
      have HZ := Lib.hid hzz
      have HPM : Hid (∀ W, Below W1.heap.size W1 W → Calls Try.prog 30 #[u, .string flt, .agg #[.int .u32 src, .int .u32 dst, .int .u8 pr, .int .u16 sp, .int .u16 dp]] W fun e w' => e = .returned (.bool z) ∧ Below W.heap.size W w') := Lib.hid fun W hb => by rw [← hzz]; exact rprm_is fs flt ⟨src, dst, pr, sp, dp⟩ u W (HF.out.below (Below.step HB1.out hb)) HH.out
      clear hzz
      cases q with
      | false =>
        have HPN : Hid (((dest == d) && prmS fs flt ⟨src, dst, pr, sp, dp⟩) = false) := Lib.hid (by rw [HQ.out]; rfl)
        go_wp2_with fail
        refine wp_region_grows (by kernel_rfl) (by kernel_rfl) ?_
        refine grows_fact b (o + k * 3) (.bool dest) c0 hbr fun g0 => ?_
        clear c0 c1 x0 x1 x2 x3 x4
        repeat (go_big_quiet_step (fail))
        refine wpQuiet_nil ?_
        rintro w2 ⟨⟨_, hb2⟩, rfl⟩
        have HB3 := Lib.hid (Below.step HX.out hb2)
        clear hb2 g0
        go_wp2
        go_roundw
        case rel => exact ⟨k + 1, by omega, by go_num, Lib.hid (step_lt HA.out HS.out HPN.out), HB3.out⟩
        case measure => simp [intOf]; omega
      | true =>
        have HPN : Hid (((dest == d) && prmS fs flt ⟨src, dst, pr, sp, dp⟩) = z) := Lib.hid (by rw [HQ.out, HZ.out]; rfl)
        cases z with
        | false =>
          go_wp2_with fail
          refine wp_region_grows (by kernel_rfl) (by kernel_rfl) ?_
          refine grows_fact b (o + k * 3) (.bool dest) c0 hbr fun g0 => ?_
          refine grows_fact b (o + k * 3 + 1) (.string flt) c1 hbr fun g1 => ?_
          refine grows_fact w.heap.size 0 (.int .u32 src) x0 hz2 fun k0 => ?_
          refine grows_fact w.heap.size 1 (.int .u32 dst) x1 hz2 fun k1 => ?_
          refine grows_fact w.heap.size 2 (.int .u8 pr) x2 hz2 fun k2 => ?_
          refine grows_fact w.heap.size 3 (.int .u16 sp) x3 hz2 fun k3 => ?_
          refine grows_fact w.heap.size 4 (.int .u16 dp) x4 hz2 fun k4 => ?_
          clear c0 c1 x0 x1 x2 x3 x4
          repeat (go_big_quiet_step ((go_at_call 30; with_reducible exact Calls.grows_of (HPM.out _ (Below.step HX.out (Grows.below _))))))
          refine wpQuiet_nil ?_
          rintro w2 ⟨⟨_, hb2⟩, rfl⟩
          have HB3 := Lib.hid (Below.step HX.out hb2)
          clear hb2 g0 g1 k0 k1 k2 k3 k4
          go_wp2
          go_roundw
          case rel => exact ⟨k + 1, by omega, by go_num, Lib.hid (step_lt HA.out HS.out HPN.out), HB3.out⟩
          case measure => simp [intOf]; omega
        | true =>
          have HE := Lib.hid (firI_some (firO_some HS.out HPN.out HA.out))
          go_wp2_with fail
          refine wp_region_grows (by kernel_rfl) (by kernel_rfl) ?_
          refine grows_fact b (o + k * 3) (.bool dest) c0 hbr fun g0 => ?_
          refine grows_fact b (o + k * 3 + 1) (.string flt) c1 hbr fun g1 => ?_
          refine grows_fact w.heap.size 0 (.int .u32 src) x0 hz2 fun k0 => ?_
          refine grows_fact w.heap.size 1 (.int .u32 dst) x1 hz2 fun k1 => ?_
          refine grows_fact w.heap.size 2 (.int .u8 pr) x2 hz2 fun k2 => ?_
          refine grows_fact w.heap.size 3 (.int .u16 sp) x3 hz2 fun k3 => ?_
          refine grows_fact w.heap.size 4 (.int .u16 dp) x4 hz2 fun k4 => ?_
          clear c0 c1 x0 x1 x2 x3 x4
          repeat (go_big_quiet_step ((go_at_call 30; with_reducible exact Calls.grows_of (HPM.out _ (Below.step HX.out (Grows.below _))))))
          refine wpQuiet_nil ?_
          rintro w2 ⟨⟨_, hb2⟩, rfl⟩
          have HB3 := Lib.hid (Below.step HW.out hb2)
          clear hb2 g0 g1 k0 k1 k2 k3 k4
          go_wp2
          go_ret2
          exact ⟨ret_int2 HE.out.symm rfl, HB3.out⟩
    · have HE := Lib.hid (firI_none (firO_none (all_lt HA.out hlt)))
      go_wp2
      go_ret2
      exact ⟨ret_int2 HE.out.symm rfl, HW.out⟩
end Go.Proofs.Ythooiigdembgcaa
