/- Are two lists of routes the same, in both packages. No condition but the lists' lengths. -/
import Derived.Test.YtgpoeeccgpjnlaaGreatDoorRsK
namespace Go.Proofs.YtgpoeeccgpjnlaaGreatDoor
open Go.RowKit Go.Lib Go.Shelf
def SmP (w : World) (l m : List RtD) (e : Ending) (w' : World) : Prop := ∃ b, e = .returned (.bool b) ∧ (b = true ↔ l = m) ∧ Below w.heap.size w w'
theorem SmP.no {w w' : World} {l m : List RtD} {e : Ending} (h : e = .returned (.bool false)) (hn : l ≠ m) (hb : Below w.heap.size w w') : SmP w l m e w' := ⟨false, h, ⟨(fun h => by cases h), fun h => absurd h hn⟩, hb⟩
theorem SmP.yes {w w' : World} {l m : List RtD} {e : Ending} (h : e = .returned (.bool true)) (hn : l = m) (hb : Below w.heap.size w w') : SmP w l m e w' := ⟨true, h, ⟨fun _ => hn, fun _ => rfl⟩, hb⟩
theorem eqGd : Tryz.prog.eqGuardType Tryz.prog.depth 27 = false := by kernel_rfl
theorem neqR (r s : RtD) (w : World) : (binOp .neq 27 (.agg (encRt r).toArray) (.agg (encRt s).toArray)).run Tryz.prog w = .ok (.bool (!(cR r s == 0))) w := by
  by_cases h : r = s
  · subst h
    rw [cR_self]
    obtain ⟨a, b, fr, di, me, ta, nm, ho, dc⟩ := r
    simp [go_sem, encRt]
  · have h0 : (cR r s == 0) = false := by
      simp only [beq_eq_false_iff_ne, ne_eq]
      exact fun e => h (cR_one e)
    rw [h0]
    obtain ⟨a, b, fr, di, me, ta, nm, ho, dc⟩ := r
    obtain ⟨a2, b2, fr2, di2, me2, ta2, nm2, ho2, dc2⟩ := s
    simp [go_sem, encRt]
    intro h1 h2 h3 h4 h5 h6 h7 h8 h9
    refine h ?_
    have : nm = nm2 := by
      have : nm.data.toList = nm2.data.toList := by simpa [ByteArray.toList_eq] using h7
      exact ByteArray.ext (Array.ext' this)
    rw [h1, h2, h3, h4, h5, h6, this, h8, h9]
theorem guardR (op : BinOp) (a b : Operand) (r s : RtD) (w : World) : (eqGuard op 27 a b (.agg (encRt r).toArray) (.agg (encRt s).toArray)).run Tryz.prog w = .ok () w :=
  run_eqGuard_agg _ _ _ _ _ _ _ eqGd
set_option maxRecDepth 100000 in
set_option maxHeartbeats 8000000 in
theorem rsame_is (v1 v2 : Value) (l m : List RtD) (w : World) (h1 : RdK encRt 9 w v1 l) (h2 : RdK encRt 9 w v2 m) (hl1 : l.length ≤ 1000000) (hl2 : m.length ≤ 1000000) :
    Calls Tryz.prog 8 #[v1, v2] w (SmP w l m) := by
  obtain ⟨p1, c1, rfl, _, _, hx1⟩ := h1.sl
  obtain ⟨p2, c2, rfl, _, _, hx2⟩ := h2.sl
  have H1 := Lib.hid hx1
  have H2 := Lib.hid hx2
  clear hx1 hx2 h1 h2
  by_cases hlen : l.length = m.length
  · have HL := Lib.hid hlen
    rw [← hlen]
    clear hlen
    go_enter Tryz.func8, Tryz.ntmps8
    go_wp2_with fail
    go_loopw [5] (fun si wr => ∃ i : Nat, i ≤ l.length ∧ si = .int .i64 i ∧ Hid (Below w.heap.size w wr ∧ l.take i = m.take i)) (fun si _ => l.length - (intOf si).toNat)
    case atStart => exact ⟨0, Nat.zero_le _, rfl, Lib.hid ⟨Below.refl _ _, by simp⟩⟩
    case round =>
      obtain ⟨i, hi, rfl, HI⟩ := hrel
      by_cases hlt : i < l.length
      · have hlti : (i : Int) < (l.length : Int) := by omega
        have i0 : (0 : Int) ≤ (i : Int) := by omega
        obtain ⟨x, hx⟩ : ∃ x, l[i]? = some x := ⟨_, List.getElem?_eq_getElem hlt⟩
        obtain ⟨y, hy⟩ : ∃ y, m[i]? = some y := ⟨_, List.getElem?_eq_getElem (by have := HL.out; omega)⟩
        obtain ⟨b0, o0, rfl, hb0, hcx⟩ := H1.out i x hx
        obtain ⟨b1, o1, rfl, hb1, hcy⟩ := H2.out i y hy
        have HX := Lib.hid hx
        have HY := Lib.hid hy
        have hn := neqR x y
        have hg := fun op a b => guardR op a b x y
        have HD : Hid ((cR x y == 0) = true ↔ x = y) := Lib.hid ⟨fun h => cR_one (by simpa using h), fun h => by rw [h, cR_self]; rfl⟩
        obtain ⟨d, hd⟩ : ∃ d, (cR x y == 0) = d := ⟨_, rfl⟩
        rw [hd] at hn HD
        obtain ⟨x0, hx0⟩ : ∃ x0, x = x0 := ⟨_, rfl⟩
        obtain ⟨y0, hy0⟩ : ∃ y0, y = y0 := ⟨_, rfl⟩
        rw [hx0] at HX HD
        rw [hy0] at HY HD
        clear hx hy hd
        obtain ⟨xa, xb, xfr, xdi, xme, xta, xnm, xho, xdc⟩ := x
        obtain ⟨ya, yb, yfr, ydi, yme, yta, ynm, yho, ydc⟩ := y
        clear hx0 hy0
        simp only [encRt] at hn hg
        have cx0 : wr.cell? ⟨b0, o0 + i * 9, none⟩ = some (.int .u32 xa) := by have := hcx wr HI.out.1 0 _ rfl; simpa only [Nat.add_zero] using this
        have cy0 : wr.cell? ⟨b1, o1 + i * 9, none⟩ = some (.int .u32 ya) := by have := hcy wr HI.out.1 0 _ rfl; simpa only [Nat.add_zero] using this
        have cx1 : wr.cell? ⟨b0, o0 + i * 9 + 1, none⟩ = some (.int .i64 xb) := by have := hcx wr HI.out.1 1 _ rfl; simpa only [Nat.add_zero] using this
        have cy1 : wr.cell? ⟨b1, o1 + i * 9 + 1, none⟩ = some (.int .i64 yb) := by have := hcy wr HI.out.1 1 _ rfl; simpa only [Nat.add_zero] using this
        have cx2 : wr.cell? ⟨b0, o0 + i * 9 + 2, none⟩ = some (.int .u8 xfr) := by have := hcx wr HI.out.1 2 _ rfl; simpa only [Nat.add_zero] using this
        have cy2 : wr.cell? ⟨b1, o1 + i * 9 + 2, none⟩ = some (.int .u8 yfr) := by have := hcy wr HI.out.1 2 _ rfl; simpa only [Nat.add_zero] using this
        have cx3 : wr.cell? ⟨b0, o0 + i * 9 + 3, none⟩ = some (.int .i64 xdi) := by have := hcx wr HI.out.1 3 _ rfl; simpa only [Nat.add_zero] using this
        have cy3 : wr.cell? ⟨b1, o1 + i * 9 + 3, none⟩ = some (.int .i64 ydi) := by have := hcy wr HI.out.1 3 _ rfl; simpa only [Nat.add_zero] using this
        have cx4 : wr.cell? ⟨b0, o0 + i * 9 + 4, none⟩ = some (.int .i64 xme) := by have := hcx wr HI.out.1 4 _ rfl; simpa only [Nat.add_zero] using this
        have cy4 : wr.cell? ⟨b1, o1 + i * 9 + 4, none⟩ = some (.int .i64 yme) := by have := hcy wr HI.out.1 4 _ rfl; simpa only [Nat.add_zero] using this
        have cx5 : wr.cell? ⟨b0, o0 + i * 9 + 5, none⟩ = some (.int .i64 xta) := by have := hcx wr HI.out.1 5 _ rfl; simpa only [Nat.add_zero] using this
        have cy5 : wr.cell? ⟨b1, o1 + i * 9 + 5, none⟩ = some (.int .i64 yta) := by have := hcy wr HI.out.1 5 _ rfl; simpa only [Nat.add_zero] using this
        have cx6 : wr.cell? ⟨b0, o0 + i * 9 + 6, none⟩ = some (.string xnm) := by have := hcx wr HI.out.1 6 _ rfl; simpa only [Nat.add_zero] using this
        have cy6 : wr.cell? ⟨b1, o1 + i * 9 + 6, none⟩ = some (.string ynm) := by have := hcy wr HI.out.1 6 _ rfl; simpa only [Nat.add_zero] using this
        have cx7 : wr.cell? ⟨b0, o0 + i * 9 + 7, none⟩ = some (.int .u32 xho) := by have := hcx wr HI.out.1 7 _ rfl; simpa only [Nat.add_zero] using this
        have cy7 : wr.cell? ⟨b1, o1 + i * 9 + 7, none⟩ = some (.int .u32 yho) := by have := hcy wr HI.out.1 7 _ rfl; simpa only [Nat.add_zero] using this
        have cx8 : wr.cell? ⟨b0, o0 + i * 9 + 8, none⟩ = some (.bool xdc) := by have := hcx wr HI.out.1 8 _ rfl; simpa only [Nat.add_zero] using this
        have cy8 : wr.cell? ⟨b1, o1 + i * 9 + 8, none⟩ = some (.bool ydc) := by have := hcy wr HI.out.1 8 _ rfl; simpa only [Nat.add_zero] using this
        clear hcx hcy
        have g0 : b0 < wr.heap.size := by have := HI.out.1.size; omega
        have g1 : b1 < wr.heap.size := by have := HI.out.1.size; omega
        have HS : Hid (d = true → l.take (i + 1) = m.take (i + 1)) := Lib.hid fun h => by
          rw [List.take_add_one, List.take_add_one, HX.out, HY.out, HI.out.2, HD.out.1 h]
        have HN : Hid (d = false → l ≠ m) := Lib.hid fun h e => by
          have e1 := HX.out
          rw [e, HY.out] at e1
          have := HD.out.2 (by simpa using e1.symm)
          rw [h] at this; cases this
        go_wp2_with fail
        refine wp_region_grows (by kernel_rfl) (by kernel_rfl) ?_
        refine grows_fact _ _ _ cx0 g0 fun rx0 => ?_
        refine grows_fact _ _ _ cy0 g1 fun ry0 => ?_
        refine grows_fact _ _ _ cx1 g0 fun rx1 => ?_
        refine grows_fact _ _ _ cy1 g1 fun ry1 => ?_
        refine grows_fact _ _ _ cx2 g0 fun rx2 => ?_
        refine grows_fact _ _ _ cy2 g1 fun ry2 => ?_
        refine grows_fact _ _ _ cx3 g0 fun rx3 => ?_
        refine grows_fact _ _ _ cy3 g1 fun ry3 => ?_
        refine grows_fact _ _ _ cx4 g0 fun rx4 => ?_
        refine grows_fact _ _ _ cy4 g1 fun ry4 => ?_
        refine grows_fact _ _ _ cx5 g0 fun rx5 => ?_
        refine grows_fact _ _ _ cy5 g1 fun ry5 => ?_
        refine grows_fact _ _ _ cx6 g0 fun rx6 => ?_
        refine grows_fact _ _ _ cy6 g1 fun ry6 => ?_
        refine grows_fact _ _ _ cx7 g0 fun rx7 => ?_
        refine grows_fact _ _ _ cy7 g1 fun ry7 => ?_
        refine grows_fact _ _ _ cx8 g0 fun rx8 => ?_
        refine grows_fact _ _ _ cy8 g1 fun ry8 => ?_
        clear cx0 cy0 cx1 cy1 cx2 cy2 cx3 cy3 cx4 cy4 cx5 cy5 cx6 cy6 cx7 cy7 cx8 cy8 g0 g1
        cases d
        · repeat (go_big_quiet_step (fail))
          refine wpQuiet_nil ?_
          rintro w4 ⟨⟨_, hb4⟩, rfl⟩
          have HB := Lib.hid (HI.out.1.trans (hb4.mono HI.out.1.size))
          clear hb4 hn hg
          go_wp2_with fail
          go_ret
          exact SmP.no rfl (HN.out (by first | rfl | trivial)) HB.out
        · repeat (go_big_quiet_step (fail))
          refine wpQuiet_nil ?_
          rintro w4 ⟨⟨_, hb4⟩, rfl⟩
          have HB := Lib.hid (HI.out.1.trans (hb4.mono HI.out.1.size))
          clear hb4 hn hg
          go_wp2_with fail
          go_roundw
          case rel => exact ⟨i + 1, by omega, by go_num, Lib.hid ⟨HB.out, HS.out (by first | rfl | trivial)⟩⟩
          case measure => first | (simp [intOf]; done) | (simp [intOf]; omega)
      · have hil : i = l.length := by omega
        have hlti : ¬ (i : Int) < (l.length : Int) := by omega
        subst hil
        have HE : Hid (l = m) := Lib.hid (by have := HI.out.2; rw [List.take_length] at this; rw [this, HL.out, List.take_length])
        go_wp2_with fail
        go_ret
        exact SmP.yes rfl HE.out HI.out.1
  · have HL : Hid (l ≠ m) := Lib.hid fun e => hlen (by rw [e])
    have e1 : ((l.length : Int) != (m.length : Int)) = true := by simp; omega
    have e2 : ((l.length : Int) == (m.length : Int)) = false := by simp; omega
    clear hlen
    go_enter Tryz.func8, Tryz.ntmps8
    go_wp2_with fail
    go_ret
    exact SmP.no rfl HL.out (Below.refl _ _)
end Go.Proofs.YtgpoeeccgpjnlaaGreatDoor
