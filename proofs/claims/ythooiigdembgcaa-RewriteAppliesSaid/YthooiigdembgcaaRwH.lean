/- What each of package rewrite does with First's closure: the place of the first rewrite of a kind whose filter permits a header. Under the condition that filters and rewrites read, may be, and that the header is one. -/
import Derived.Test.YthooiigdembgcaaRwE
import Derived.Test.YthooiigdembgcaaRwG
namespace Go.Proofs.Ythooiigdembgcaa
open Go.RowKit
set_option maxHeartbeats 2000000 in
theorem do_is (h : HdrD) (nm : ByteArray) (v : Value) (l : List RuleD) (k x : Int) (z : Bool) (B F : Nat) (W : World) (hr : RdR W v l) (hck : ckF l = 0) (hh : h.ok) (hz : prmB l h = z) (hBF : B < F) (hF : F < W.heap.size)
    (hx : W.heap[B]? = some (.cells (encH h).toArray 40 (0, 0))) (hy : W.heap[F]? = some (.cells #[.int .i64 x] 3 (0, 0))) :
    Calls Try.prog 29 #[.int .i64 k, .agg #[.string nm, v], .pointer (some ⟨B, 0, none⟩), .pointer (some ⟨F, 0, none⟩)] W fun e w' => e = .returned (.bool (!z)) ∧ (z = false → Below W.heap.size W w') ∧ (z = true → Below F W w' ∧ w'.heap[F]? = some (.cells #[.int .i64 k] 3 (0, 0))) := by
  obtain ⟨p, c, rfl⟩ := hr.slice
  obtain ⟨W1, hW1⟩ : ∃ X, W.alloc (.cells #[.string nm, .slice p l.length c] 24) = X := ⟨_, rfl⟩
  have hb1 : Below W.heap.size W W1 := by rw [← hW1]; exact (Below.refl _ _).alloc (Nat.le_refl _) _
  have hx1 := (hb1.block B (by omega)).trans hx
  have hy1 := (hb1.block F hF).trans hy
  have hf1 : W1.heap[W.heap.size]? = some (.cells #[.string nm, .slice p l.length c] 24 (0, 0)) := by rw [← hW1]; exact heap_new _ _
  have HC := Lib.hid (hz ▸ permits_ok nm _ l h W1 (hr.below hb1) hh hck)
  obtain ⟨src, dst, pr, sp, dp⟩ := h
  have HC : Hid (Calls Try.prog 8 #[.agg #[.string nm, .slice p l.length c], .agg #[.int .u32 src, .int .u32 dst, .int .u8 pr, .int .u16 sp, .int .u16 dp]] W1 fun e w' => e = .returned (.tuple #[.bool z, .int .i64 0]) ∧ Below W1.heap.size W1 w') := HC
  obtain ⟨x0, x1, x2, x3, x4⟩ := hdr_cells hx1
  have y0 : W1.cell? ⟨W.heap.size, 0, none⟩ = some (.string nm) := by rw [cell_of_heap hf1]; rfl
  have y1 : W1.cell? ⟨W.heap.size, 1, none⟩ = some (.slice p l.length c) := by rw [cell_of_heap hf1]; rfl
  have HB1 := Lib.hid hb1
  have HY1 := Lib.hid hy1
  have HBF := Lib.hid hBF
  have HFF := Lib.hid hF
  clear hr hck hh hz hx hy hb1 hx1 hy1 hf1
  cases z with
  | false =>
    go_enter Try.func29, Try.ntmps29
    go_wp2_with fail
    go_at_call 8
    (with_reducible refine HC.out.mono ?_)
    rintro e w2 ⟨rfl, hb2⟩
    have HB2 := Lib.hid (Below.step HB1.out hb2)
    clear hb2
    go_wp2
    go_ret
    exact ⟨rfl, fun _ => HB2.out, fun h => by cases h⟩
  | true =>
    go_enter Try.func29, Try.ntmps29
    go_wp2_with fail
    go_at_call 8
    (with_reducible refine HC.out.mono ?_)
    rintro e w2 ⟨rfl, hb2⟩
    have HB2 := Lib.hid (Below.step HB1.out hb2)
    have hy2 := (hb2.block F (by have := HB1.out.size; have := HFF.out; omega)).trans HY1.out
    have HY2 := Lib.hid hy2
    have u0 : w2.cell? ⟨F, 0, none⟩ = some (.int .i64 x) := by rw [cell_of_heap hy2]; rfl
    have u1 : w2.frozen? ⟨F, 0, none⟩ = false := by simp [World.frozen?, hy2]
    clear hb2 hy2
    go_wp2
    go_ret
    refine ⟨rfl, (fun h => by cases h), fun _ => ⟨?_, ?_⟩⟩
    · exact (HB2.out.mono (Nat.le_of_lt HFF.out)).setCell (p := ⟨F, 0, none⟩) (Nat.le_refl _) _
    · exact heap_setCell _ HY2.out
theorem rep_some {ws : List RewD} {fs : List FilD} {d : Bool} {h : HdrD} {k : Nat} {r : RewD} (hr : (ws.take k).any (repB r) = true) (hd : (r.dest == d) = true)
    (ha : ∀ (i : Nat) (r : RewD), i < k → ws[i]? = some r → ((r.dest == d) && prmS fs r.flt h) = false) : ((r.dest == d) && prmS fs r.flt h) = false := by
  obtain ⟨q, hq, e⟩ := List.any_eq_true.1 hr
  obtain ⟨i, hi, rfl⟩ := List.mem_iff_getElem.1 hq
  have hik : i < k := by rw [List.length_take] at hi; omega
  have hil : i < ws.length := by rw [List.length_take] at hi; omega
  have e2 : ws[i]? = some (ws.take k)[i] := by rw [List.getElem_take]; exact List.getElem?_eq_getElem hil
  have := ha i _ hik e2
  unfold repB at e
  rw [Bool.and_eq_true] at e
  rw [prmS_same e.2] at this
  have e3 : (ws.take k)[i].dest = r.dest := by simpa using e.1
  rw [e3] at this
  exact this
set_option maxHeartbeats 4000000 in
theorem each_is (ws : List RewD) (fs : List FilD) (v u : Value) (d : Bool) (h : HdrD) (B F : Nat) (w : World) (hr : RdK encW 3 w v ws) (hf : RdF w u fs) (hh : h.ok) (hck : ∀ (i : Nat) (r : RewD), ws[i]? = some r → ckS fs r.flt = 0) (hBF : B < F) (hF : F < w.heap.size)
    (hx : w.heap[B]? = some (.cells (encH h).toArray 40 (0, 0))) (hy : w.heap[F]? = some (.cells #[.int .i64 (-1)] 3 (0, 0))) :
    Calls Try.prog 28 #[v, u, .bool d, .func (.func 29) #[] #[.pointer (some ⟨B, 0, none⟩), .pointer (some ⟨F, 0, none⟩)]] w fun e w' => e = .returned (.tuple #[]) ∧ Below F w w' ∧ w'.heap[F]? = some (.cells #[.int .i64 (firI ws fs d h)] 3 (0, 0)) := by
  obtain ⟨p, c, rfl, hlc, hcm, hp⟩ := hr.sl
  obtain ⟨up, un, uc, rfl⟩ : ∃ p n c, u = .slice p n c := by obtain ⟨p, c, e, _⟩ := hf.rd; exact ⟨_, _, _, e⟩
  have eg : ∀ args w, (callFunc 29 args).run Try.prog w = .ok (.enter 29 args) w := enters_of Try.func29 (by kernel_rfl) rfl
  have HP := Lib.hid hp
  have HF := Lib.hid hf
  have HH := Lib.hid hh
  have HCK := Lib.hid hck
  have HBF := Lib.hid hBF
  have HFF := Lib.hid hF
  have HX := Lib.hid hx
  have HY := Lib.hid hy
  clear hp hr hf hh hck hBF hF hx hy
  unfold maxLen at hcm
  go_enter Try.func28, Try.ntmps28
  go_wp2
  go_loopw [14] (fun i wr => ∃ k : Nat, k ≤ ws.length ∧ i = .int .i64 k ∧ Hid (∀ (i : Nat) (r : RewD), i < k → ws[i]? = some r → ((r.dest == d) && prmS fs r.flt h) = false) ∧ Below w.heap.size w wr) (fun i _ => ws.length - (intOf i).toNat)
  case atStart => exact ⟨0, Nat.zero_le _, rfl, Lib.hid (fun i r h => by omega), Below.refl _ _⟩
  case round =>
    obtain ⟨k, hk, rfl, HA, hbw⟩ := hrel
    have HW := Lib.hid hbw
    clear hbw
    by_cases hlt : k < ws.length
    · obtain ⟨r, hs⟩ : ∃ r, ws[k]? = some r := ⟨_, List.getElem?_eq_getElem hlt⟩
      obtain ⟨b, o, rfl, hbs, hc⟩ := HP.out k r hs
      have hcall : ∀ W, Below w.heap.size w W → ∀ i s, ws[i]? = some s → ∀ j u, (encW s)[j]? = some u → W.cell? ⟨b, o + i * 3 + j, none⟩ = some u := fun W hb i s hi j u hu => by
        obtain ⟨b', o', e, _, hc'⟩ := HP.out i s hi
        simp only [Option.some.injEq, Addr.mk.injEq, and_true] at e
        obtain ⟨rfl, rfl⟩ := e
        exact hc' W hb j u hu
      have HALL := Lib.hid hcall
      have hc := hc wr HW.out
      have e1 : (0 : Int) ≤ (k : Int) := by omega
      have e2 : (k : Int) < (ws.length : Int) := by omega
      have e3 : ¬ (c : Int) < (k : Int) := by omega
      have e4 : (k : Int) ≤ (c : Int) := by omega
      have HS := Lib.hid hs
      have hz := HW.out.size
      have hks := HCK.out k r hs
      obtain ⟨dest, flt, aim⟩ := r
      simp only [encW] at hc
      simp only at hks
      have HKS := Lib.hid hks
      have c0 : wr.cell? ⟨b, o + k * 3, none⟩ = some (.bool dest) := hc 0 _ rfl
      have c1 : wr.cell? ⟨b, o + k * 3 + 1, none⟩ = some (.string flt) := hc 1 _ rfl
      have c2 : wr.cell? ⟨b, o + k * 3 + 2, none⟩ = some (.int .u32 aim) := hc 2 _ rfl
      obtain ⟨W1, hW1⟩ : ∃ X, wr.alloc (.cells #[.bool dest, .string flt, .int .u32 aim] 57) = X := ⟨_, rfl⟩
      have HB1 : Hid (Below w.heap.size w W1) := Lib.hid (by rw [← hW1]; exact HW.out.alloc hz _)
      have hx1 : W1.heap[wr.heap.size]? = some (.cells #[.bool dest, .string flt, .int .u32 aim] 57 (0, 0)) := by rw [← hW1]; exact heap_new _ _
      have HX1 := Lib.hid hx1
      have y0 : W1.cell? ⟨wr.heap.size, 0, none⟩ = some (.bool dest) := by rw [cell_of_heap hx1]; rfl
      have y1 : W1.cell? ⟨wr.heap.size, 1, none⟩ = some (.string flt) := by rw [cell_of_heap hx1]; rfl
      have y2 : W1.cell? ⟨wr.heap.size, 2, none⟩ = some (.int .u32 aim) := by rw [cell_of_heap hx1]; rfl
      have hz1 : wr.heap.size < W1.heap.size := (Array.getElem?_eq_some_iff.1 hx1).1
      obtain ⟨q, hq⟩ : ∃ q, (dest != d) = q := ⟨_, rfl⟩
      obtain ⟨z, hzz⟩ : ∃ z, (ws.take k).any (repB ⟨dest, flt, aim⟩) = z := ⟨_, rfl⟩
      have HQ := Lib.hid hq
      have HZ := Lib.hid hzz
      have hbig : ws.length ≤ 9223372036854775807 := by omega
      have HRP : Hid (∀ W, Below w.heap.size w W → Calls Try.prog 37 #[.slice (some ⟨b, o, none⟩) k c, .agg #[.bool dest, .string flt, .int .u32 aim]] W fun e w' => e = .returned (.bool z) ∧ Below W.heap.size W w') := Lib.hid fun W hb => by rw [← hzz]; exact repeats_is ws dest flt aim b o k c W (by omega) hbig (by have := hb.size; omega) (HALL.out W hb)
      clear hzz hs hc hks hcall hx1 hbig
      cases q with
      | true =>
        have hde : (dest == d) = false := by simpa [bne] using HQ.out
        have HPN : Hid (((dest == d) && prmS fs flt h) = false) := Lib.hid (by
          have : (dest == d) = false := by simpa [bne] using HQ.out
          rw [this]; rfl)
        go_wp2_with fail
        refine wp_region_grows (by kernel_rfl) (by kernel_rfl) ?_
        refine grows_fact wr.heap.size 0 (.bool dest) y0 hz1 fun g0 => ?_
        clear c0 c1 c2 y0 y1 y2
        repeat (go_big_quiet_step (fail))
        refine wpQuiet_nil ?_
        rintro w2 ⟨⟨_, hb2⟩, rfl⟩
        have HB3 := Lib.hid (Below.step HB1.out hb2)
        clear hb2 g0
        go_wp2
        go_roundw
        case rel => exact ⟨k + 1, by omega, by go_num, Lib.hid (step_lt HA.out HS.out HPN.out), HB3.out⟩
        case measure => simp [intOf]; omega
      | false =>
        have HD : Hid ((dest == d) = true) := Lib.hid (by simpa [bne] using HQ.out)
        have hde := HD.out
        cases z with
        | true =>
          have HPN := Lib.hid (rep_some HZ.out HD.out HA.out)
          go_wp2_with fail
          refine wp_region_grows (by kernel_rfl) (by kernel_rfl) ?_
          refine grows_fact wr.heap.size 0 (.bool dest) y0 hz1 fun g0 => ?_
          refine grows_fact wr.heap.size 1 (.string flt) y1 hz1 fun g1 => ?_
          refine grows_fact wr.heap.size 2 (.int .u32 aim) y2 hz1 fun g2 => ?_
          clear c0 c1 c2 y0 y1 y2
          repeat (go_big_quiet_step ((go_at_call 37; with_reducible exact Calls.grows_of (HRP.out _ (Below.step HB1.out (Grows.below _))))))
          refine wpQuiet_nil ?_
          rintro w2 ⟨⟨_, hb2⟩, rfl⟩
          have HB3 := Lib.hid (Below.step HB1.out hb2)
          clear hb2 g0 g1 g2
          go_wp2
          go_roundw
          case rel => exact ⟨k + 1, by omega, by go_num, Lib.hid (step_lt HA.out HS.out HPN.out), HB3.out⟩
          case measure => simp [intOf]; omega
        | false =>
          go_wp2_with fail
          refine wp_region_grows (by kernel_rfl) (by kernel_rfl) ?_
          refine grows_fact wr.heap.size 0 (.bool dest) y0 hz1 fun g0 => ?_
          refine grows_fact wr.heap.size 1 (.string flt) y1 hz1 fun g1 => ?_
          refine grows_fact wr.heap.size 2 (.int .u32 aim) y2 hz1 fun g2 => ?_
          clear c0 c1 c2 y0 y1 y2
          repeat (go_big_quiet_step ((go_at_call 37; with_reducible exact Calls.grows_of (HRP.out _ (Below.step HB1.out (Grows.below _))))))
          refine wpQuiet_nil ?_
          rintro w2 ⟨⟨_, hb2⟩, rfl⟩
          have HB3 := Lib.hid (Below.step HB1.out hb2)
          have y1 : w2.cell? ⟨wr.heap.size, 1, none⟩ = some (.string flt) := by rw [cell_of_heap ((hb2.block _ hz1).trans HX1.out)]; rfl
          have HN := Lib.hid (named_is fs flt _ w2 (HF.out.below HB3.out))
          clear hb2 g0 g1 g2
          go_wp2_with fail
          go_at_call 31
          (with_reducible refine HN.out.mono ?_)
          rintro e w3 ⟨nm3, p3, n3, c3, b3, rfl, hb3, hor⟩
          have HB4 := Lib.hid (Below.step HB3.out hb3)
          clear hb3 HN
          rcases hor with ⟨rfl, ho⟩ | ⟨rfl, l, ho, hr3⟩
          · exact absurd (HKS.out.symm.trans (ckS_none ho)) (by decide)
          · have hkl := (ckS_some ho).symm.trans HKS.out
            obtain ⟨y, hyy⟩ : ∃ y, prmB l h = y := ⟨_, rfl⟩
            have hps := (prmS_some (h := h) ho).trans hyy
            obtain ⟨W4, hW4⟩ : ∃ X, w3.alloc (.cells #[.string nm3, .slice p3 n3 c3] 24) = X := ⟨_, rfl⟩
            have hb34 : Below w3.heap.size w3 W4 := by rw [← hW4]; exact (Below.refl _ _).alloc (Nat.le_refl _) _
            have HB5 := Lib.hid (Below.step HB4.out hb34)
            have hx4 : W4.heap[w3.heap.size]? = some (.cells #[.string nm3, .slice p3 n3 c3] 24 (0, 0)) := by rw [← hW4]; exact heap_new _ _
            have z0 : W4.cell? ⟨w3.heap.size, 0, none⟩ = some (.string nm3) := by rw [cell_of_heap hx4]; rfl
            have z1 : W4.cell? ⟨w3.heap.size, 1, none⟩ = some (.slice p3 n3 c3) := by rw [cell_of_heap hx4]; rfl
            have HDO := Lib.hid (do_is h nm3 _ l (k : Int) (-1) y B F W4 (hr3.below hb34) hkl HH.out hyy HBF.out (by have := HB5.out.size; have := HFF.out; omega) ((HB5.out.block B (by have := HBF.out; have := HFF.out; omega)).trans HX.out) ((HB5.out.block F HFF.out).trans HY.out))
            have HPS := Lib.hid hps
            clear hr3 hb34 hx4 hps hyy hkl ho
            cases y with
            | false =>
              have HPN : Hid (((dest == d) && prmS fs flt h) = false) := Lib.hid (by rw [HPS.out]; simp)
              go_wp2_with fail
              refine HDO.out.mono ?_
              rintro e w5 ⟨rfl, hb5, _⟩
              have HB6 := Lib.hid (Below.step HB5.out (hb5 (by simp)))
              clear hb5
              go_wp2
              go_roundw
              case rel => exact ⟨k + 1, by omega, by go_num, Lib.hid (step_lt HA.out HS.out HPN.out), HB6.out⟩
              case measure => simp [intOf]; omega
            | true =>
              have HPN : Hid (((dest == d) && prmS fs flt h) = true) := Lib.hid (by rw [HPS.out, HD.out]; rfl)
              have HE := Lib.hid (firI_some (firO_some HS.out HPN.out HA.out))
              go_wp2_with fail
              refine HDO.out.mono ?_
              rintro e w5 ⟨rfl, _, hb5⟩
              obtain ⟨hb5, hy5⟩ := hb5 (by simp)
              have HB6 := Lib.hid ((HB5.out.mono (Nat.le_of_lt HFF.out)).trans hb5)
              have HY5 := Lib.hid hy5
              clear hb5 hy5
              go_wp2
              (try simp only [Exit.inBlock, Exit.then])
              refine bodyPost_ret (results_none rfl _ _ _) rfl ?_
              exact ⟨rfl, HB6.out, by rw [HE.out]; exact HY5.out⟩
    · have HE := Lib.hid (firI_none (firO_none (all_lt HA.out hlt)))
      have hyw := (HW.out.block F HFF.out).trans HY.out
      have HYW := Lib.hid hyw
      clear hyw
      go_wp2
      go_end0
      exact ⟨rfl, HW.out.mono (Nat.le_of_lt HFF.out), by rw [HE.out]; exact HYW.out⟩
end Go.Proofs.Ythooiigdembgcaa
