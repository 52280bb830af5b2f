/- What Decides of waymarkref10 does. No condition but that what is handed in is of its kind. -/
import Derived.Test.YthooiigdembgcaaFlD
namespace Go.Proofs.Ythooiigdembgcaa
open Go.RowKit
set_option maxHeartbeats 2000000 in
theorem rdecides_is (nm : ByteArray) (v : Value) (l : List RuleD) (h : HdrD) (w : World) (hr : RdR w v l) (hh : h.ok) : Calls Try.prog 11 #[.agg #[.string nm, v], vH h] w fun e w' => e = .returned (.int .i64 (decI l h)) ∧ Below w.heap.size w w' := by
  obtain ⟨p, c, rfl, hlc, hcm, hp⟩ := hr.rd.sl
  have HP := Lib.hid hp
  have HOK := Lib.hid hr.ok
  have HHK := Lib.hid hh
  have HR := Lib.hid hr
  clear hp hr hh
  unfold maxLen at hcm
  obtain ⟨src, dst, pr, sp, dp⟩ := h
  show Calls _ _ #[_, .agg #[.int .u32 src, .int .u32 dst, .int .u8 pr, .int .u16 sp, .int .u16 dp]] _ _
  have hb0 : Below w.heap.size w ((w.alloc (.cells #[.string nm, .slice p l.length c] 24)).alloc (.cells #[.int .u32 src, .int .u32 dst, .int .u8 pr, .int .u16 sp, .int .u16 dp] 40)) := ((Below.refl _ _).alloc (Nat.le_refl _) _).alloc (by simp) _
  have HB0 := Lib.hid hb0
  clear hb0
  go_enter Try.func11, Try.ntmps11
  go_wp2
  go_loopw [5] (fun i wr => ∃ k : Nat, k ≤ l.length ∧ i = .int .i64 k ∧ Hid (∀ (i : Nat) (s : RuleD), i < k → l[i]? = some s → fitB s ⟨src, dst, pr, sp, dp⟩ = false) ∧ Below w.heap.size w wr ∧ Below ((w.alloc (.cells #[.string nm, .slice p l.length c] 24)).alloc (.cells #[.int .u32 src, .int .u32 dst, .int .u8 pr, .int .u16 sp, .int .u16 dp] 40)).heap.size ((w.alloc (.cells #[.string nm, .slice p l.length c] 24)).alloc (.cells #[.int .u32 src, .int .u32 dst, .int .u8 pr, .int .u16 sp, .int .u16 dp] 40)) wr) (fun i _ => l.length - (intOf i).toNat)
  case atStart => exact ⟨0, Nat.zero_le _, rfl, Lib.hid (fun i s h => by omega), HB0.out, Below.refl _ _⟩
  case round =>
    obtain ⟨k, hk, rfl, HA, hbw, hbx⟩ := hrel
    have HW := Lib.hid hbw; have HX := Lib.hid hbx
    clear hbw hbx
    have f0 : wr.cell? ⟨w.heap.size, 0, none⟩ = some (.string nm) := (HX.out.cell (p := ⟨w.heap.size, 0, none⟩) (by simp; omega)).trans (by go_simp)
    have f1 : wr.cell? ⟨w.heap.size, 1, none⟩ = some (.slice p l.length c) := (HX.out.cell (p := ⟨w.heap.size, 1, none⟩) (by simp; omega)).trans (by go_simp)
    have d0 : wr.cell? ⟨w.heap.size + 1, 0, none⟩ = some (.int .u32 src) := (HX.out.cell (p := ⟨w.heap.size + 1, 0, none⟩) (by simp)).trans (by go_simp)
    have d1 : wr.cell? ⟨w.heap.size + 1, 1, none⟩ = some (.int .u32 dst) := (HX.out.cell (p := ⟨w.heap.size + 1, 1, none⟩) (by simp)).trans (by go_simp)
    have d2 : wr.cell? ⟨w.heap.size + 1, 2, none⟩ = some (.int .u8 pr) := (HX.out.cell (p := ⟨w.heap.size + 1, 2, none⟩) (by simp)).trans (by go_simp)
    have d3 : wr.cell? ⟨w.heap.size + 1, 3, none⟩ = some (.int .u16 sp) := (HX.out.cell (p := ⟨w.heap.size + 1, 3, none⟩) (by simp)).trans (by go_simp)
    have d4 : wr.cell? ⟨w.heap.size + 1, 4, none⟩ = some (.int .u16 dp) := (HX.out.cell (p := ⟨w.heap.size + 1, 4, none⟩) (by simp)).trans (by go_simp)
    have hy : w.heap.size + 1 + 1 ≤ wr.heap.size := by have := HX.out.size; simpa using this
    have hy1 : ¬ w.heap.size + 1 = wr.heap.size := by omega
    have hy0 : ¬ w.heap.size = wr.heap.size := by omega
    by_cases hlt : k < l.length
    · obtain ⟨s, hs⟩ : ∃ s, l[k]? = some s := ⟨_, List.getElem?_eq_getElem hlt⟩
      obtain ⟨b, o, rfl, hbs, hc⟩ := HP.out k s hs
      have hc := hc wr HW.out
      have hok := HOK.out s (List.mem_of_getElem? hs)
      have HS2 := Lib.hid hs
      have e1 : (0 : Int) ≤ (k : Int) := by omega
      have e2 : (k : Int) < (l.length : Int) := by omega
      have hz := HW.out.size
      obtain ⟨q, hq⟩ : ∃ q, fitB s ⟨src, dst, pr, sp, dp⟩ = q := ⟨_, rfl⟩
      have HQ := Lib.hid hq
      clear hs
      obtain ⟨perm, proto, sa, sn, da, dn, sl, sh, dl, dh⟩ := s
      have hcall : ∀ W, Calls Try.prog 10 #[.agg #[.bool perm, .int .i64 proto, .int .u32 sa, .int .i64 sn, .int .u32 da, .int .i64 dn, .int .u32 sl, .int .u32 sh, .int .u32 dl, .int .u32 dh], .agg #[.int .u32 src, .int .u32 dst, .int .u8 pr, .int .u16 sp, .int .u16 dp]] W fun e w' => e = .returned (.bool q) ∧ Below W.heap.size W w' := fun W => by rw [← hq]; exact rfits_is _ _ W hok HHK.out
      have HC := Lib.hid hcall
      clear hq hcall hok
      simp only [encR] at hc
      have c0 : wr.cell? ⟨b, o + k * 10, none⟩ = some (.bool perm) := hc 0 _ rfl
      have c1 : wr.cell? ⟨b, o + k * 10 + 1, none⟩ = some (.int .i64 proto) := hc 1 _ rfl
      have c2 : wr.cell? ⟨b, o + k * 10 + 2, none⟩ = some (.int .u32 sa) := hc 2 _ rfl
      have c3 : wr.cell? ⟨b, o + k * 10 + 3, none⟩ = some (.int .i64 sn) := hc 3 _ rfl
      have c4 : wr.cell? ⟨b, o + k * 10 + 4, none⟩ = some (.int .u32 da) := hc 4 _ rfl
      have c5 : wr.cell? ⟨b, o + k * 10 + 5, none⟩ = some (.int .i64 dn) := hc 5 _ rfl
      have c6 : wr.cell? ⟨b, o + k * 10 + 6, none⟩ = some (.int .u32 sl) := hc 6 _ rfl
      have c7 : wr.cell? ⟨b, o + k * 10 + 7, none⟩ = some (.int .u32 sh) := hc 7 _ rfl
      have c8 : wr.cell? ⟨b, o + k * 10 + 8, none⟩ = some (.int .u32 dl) := hc 8 _ rfl
      have c9 : wr.cell? ⟨b, o + k * 10 + 9, none⟩ = some (.int .u32 dh) := hc 9 _ rfl
      clear hc
      cases q with
      | true =>
        go_wp2_with fail
        refine wp_region_grows (by kernel_rfl) (by kernel_rfl) ?_
        refine grows_fact b (o + k * 10) (.bool perm) c0 (by have := HW.out.size; omega) fun g0 => ?_
        refine grows_fact b (o + k * 10 + 1) (.int .i64 proto) c1 (by have := HW.out.size; omega) fun g1 => ?_
        refine grows_fact b (o + k * 10 + 2) (.int .u32 sa) c2 (by have := HW.out.size; omega) fun g2 => ?_
        refine grows_fact b (o + k * 10 + 3) (.int .i64 sn) c3 (by have := HW.out.size; omega) fun g3 => ?_
        refine grows_fact b (o + k * 10 + 4) (.int .u32 da) c4 (by have := HW.out.size; omega) fun g4 => ?_
        refine grows_fact b (o + k * 10 + 5) (.int .i64 dn) c5 (by have := HW.out.size; omega) fun g5 => ?_
        refine grows_fact b (o + k * 10 + 6) (.int .u32 sl) c6 (by have := HW.out.size; omega) fun g6 => ?_
        refine grows_fact b (o + k * 10 + 7) (.int .u32 sh) c7 (by have := HW.out.size; omega) fun g7 => ?_
        refine grows_fact b (o + k * 10 + 8) (.int .u32 dl) c8 (by have := HW.out.size; omega) fun g8 => ?_
        refine grows_fact b (o + k * 10 + 9) (.int .u32 dh) c9 (by have := HW.out.size; omega) fun g9 => ?_
        refine grows_fact (w.heap.size + 1) 0 (.int .u32 src) d0 (by omega) fun h0 => ?_
        refine grows_fact (w.heap.size + 1) 1 (.int .u32 dst) d1 (by omega) fun h1 => ?_
        refine grows_fact (w.heap.size + 1) 2 (.int .u8 pr) d2 (by omega) fun h2 => ?_
        refine grows_fact (w.heap.size + 1) 3 (.int .u16 sp) d3 (by omega) fun h3 => ?_
        refine grows_fact (w.heap.size + 1) 4 (.int .u16 dp) d4 (by omega) fun h4 => ?_
        refine grows_fact w.heap.size 0 (.string nm) f0 (by omega) fun h5 => ?_
        refine grows_fact w.heap.size 1 (.slice (some ⟨b, o, none⟩) l.length c) f1 (by omega) fun h6 => ?_
        clear f0 f1 d0 d1 d2 d3 d4 c0 c1 c2 c3 c4 c5 c6 c7 c8 c9
        repeat (go_big_quiet_step ((go_at_call 10; with_reducible exact Calls.grows_of (HC.out _))))
        refine wpQuiet_nil ?_
        rintro w2 ⟨⟨_, hb2⟩, rfl⟩
        have HB2 := Lib.hid hb2
        clear hb2 g0 g1 g2 g3 g4 g5 g6 g7 g8 g9 h0 h1 h2 h3 h4 h5 h6
        go_wp2
        go_ret
        exact ⟨ret_int (decI_some (decO_some HS2.out HQ.out HA.out)).symm, Below.step (by first | exact HW.out | exact HW.out.alloc hz _) HB2.out⟩
      | false =>
        go_wp2_with fail
        refine wp_region_grows (by kernel_rfl) (by kernel_rfl) ?_
        refine grows_fact b (o + k * 10) (.bool perm) c0 (by have := HW.out.size; omega) fun g0 => ?_
        refine grows_fact b (o + k * 10 + 1) (.int .i64 proto) c1 (by have := HW.out.size; omega) fun g1 => ?_
        refine grows_fact b (o + k * 10 + 2) (.int .u32 sa) c2 (by have := HW.out.size; omega) fun g2 => ?_
        refine grows_fact b (o + k * 10 + 3) (.int .i64 sn) c3 (by have := HW.out.size; omega) fun g3 => ?_
        refine grows_fact b (o + k * 10 + 4) (.int .u32 da) c4 (by have := HW.out.size; omega) fun g4 => ?_
        refine grows_fact b (o + k * 10 + 5) (.int .i64 dn) c5 (by have := HW.out.size; omega) fun g5 => ?_
        refine grows_fact b (o + k * 10 + 6) (.int .u32 sl) c6 (by have := HW.out.size; omega) fun g6 => ?_
        refine grows_fact b (o + k * 10 + 7) (.int .u32 sh) c7 (by have := HW.out.size; omega) fun g7 => ?_
        refine grows_fact b (o + k * 10 + 8) (.int .u32 dl) c8 (by have := HW.out.size; omega) fun g8 => ?_
        refine grows_fact b (o + k * 10 + 9) (.int .u32 dh) c9 (by have := HW.out.size; omega) fun g9 => ?_
        refine grows_fact (w.heap.size + 1) 0 (.int .u32 src) d0 (by omega) fun h0 => ?_
        refine grows_fact (w.heap.size + 1) 1 (.int .u32 dst) d1 (by omega) fun h1 => ?_
        refine grows_fact (w.heap.size + 1) 2 (.int .u8 pr) d2 (by omega) fun h2 => ?_
        refine grows_fact (w.heap.size + 1) 3 (.int .u16 sp) d3 (by omega) fun h3 => ?_
        refine grows_fact (w.heap.size + 1) 4 (.int .u16 dp) d4 (by omega) fun h4 => ?_
        refine grows_fact w.heap.size 0 (.string nm) f0 (by omega) fun h5 => ?_
        refine grows_fact w.heap.size 1 (.slice (some ⟨b, o, none⟩) l.length c) f1 (by omega) fun h6 => ?_
        clear f0 f1 d0 d1 d2 d3 d4 c0 c1 c2 c3 c4 c5 c6 c7 c8 c9
        repeat (go_big_quiet_step ((go_at_call 10; with_reducible exact Calls.grows_of (HC.out _))))
        refine wpQuiet_nil ?_
        rintro w2 ⟨⟨_, hb2⟩, rfl⟩
        have HB2 := Lib.hid hb2
        clear hb2 g0 g1 g2 g3 g4 g5 g6 g7 g8 g9 h0 h1 h2 h3 h4 h5 h6
        go_wp2
        go_roundw
        case rel =>
          refine ⟨k + 1, by omega, by go_num, Lib.hid fun i s hi h => ?_, Below.step (by first | exact HW.out | exact HW.out.alloc hz _) HB2.out, Below.step (by first | exact HX.out | exact HX.out.alloc HX.out.size _) HB2.out⟩
          rcases Nat.lt_succ_iff_lt_or_eq.1 hi with h2 | rfl
          · exact HA.out i s h2 h
          · rw [HS2.out] at h
            cases h
            exact HQ.out
        case measure => simp [intOf]; omega
    · go_wp2
      go_ret
      exact ⟨ret_int (decI_none (decO_none fun i s h => HA.out i s (by have := (List.getElem?_eq_some_iff.1 h).1; omega) h)).symm, HW.out⟩
end Go.Proofs.Ythooiigdembgcaa
