/- What Tokens of package lex hands back. Under the conditions that it names. -/
import Derived.Test.YthkiojedkafdhaaLxX
import Derived.Test.YthkiojedkafdhaaShelf
import Derived.Test.YthkiojedkafdhaaOwnRow
import Derived.Deep.CutBlock
import Derived.Deep.RegionWith
import Derived.Deep.RegionHeld3
import Derived.Deep.AppendLies
namespace Go.Proofs.Ythkiojedkafdhaa
open Go.RowKit Go.Shelf
theorem clone_is (s : ByteArray) (hs : s.size ≤ 281474976710656) (W : World) : Calls Try.prog 14 #[.string s] W fun e w' => e = .returned (.string s) ∧ Below W.heap.size W w' := by
  have H := Lib.hid (fun W => Try.stringslite_Clone s W hs)
  go_enter Try.func14, Try.ntmps14
  go_wp2_with (go_at_call 28; (with_reducible refine (H.out _).mono ?_); rintro e w1 ⟨rfl, hb1⟩)
  go_ret
  exact ⟨rfl, hb1⟩
/-- A token's cells. -/
def tokC (t : Int × List UInt8 × (Int × Int)) : List Value := [.int .u8 t.1, .string ⟨t.2.1.toArray⟩, .int .i64 t.2.2.1, .int .i64 t.2.2.2]
theorem infoTok : (Try.prog.info? 40).map (fun i => (i.zero, i.size, i.bytes)) = some (some (.agg #[.int .u8 0, .string ⟨#[]⟩, .int .i64 0, .int .i64 0]), 4, 40) := by kernel_rfl
theorem btw_text (k : Int) (keep : Bool) (cl l : List UInt8) (n : Nat) (q : Int × Int) : (btw k keep cl l n q).text.length ≤ l.length := by
  unfold btw
  split
  · simp only
    split
    · rw [List.length_take]; omega
    · simp
  · simp
theorem part_text (b : UInt8) (r : List UInt8) (q : Int × Int) : (partR (b :: r) q).text.length ≤ (b :: r).length := by
  simp only [partR]
  split
  · simp
  split
  · simp
  split
  · simp
  split
  · exact Nat.le_trans (btw_text _ _ _ _ _ _) (by simp; omega)
  split
  · exact Nat.le_trans (btw_text _ _ _ _ _ _) (by simp)
  · simp only [List.length_take]; omega
/-- What Tokens hands back. -/
def TokPost (l : List UInt8) (w : World) (e : Ending) (w' : World) : Prop := Below w.heap.size w w' ∧
  ((∃ u v E : Int, E ≠ 0 ∧ ChkV l = .tuple #[.agg #[.int .i64 u, .int .i64 v], .int .i64 E] ∧ e = .returned (.tuple #[.slice none 0 0, .agg #[.int .i64 u, .int .i64 v], .int .i64 E])) ∨
   (∃ u v : Int, ChkV l = .tuple #[.agg #[.int .i64 0, .int .i64 0], .int .i64 0] ∧ (toks l.length l (1, 1)).2 = some (u, v) ∧ e = .returned (.tuple #[.slice none 0 0, .agg #[.int .i64 u, .int .i64 v], .int .i64 71])) ∨
   (∃ s : Value, ChkV l = .tuple #[.agg #[.int .i64 0, .int .i64 0], .int .i64 0] ∧ (toks l.length l (1, 1)).2 = none ∧ e = .returned (.tuple #[s, .agg #[.int .i64 0, .int .i64 0], .int .i64 0]) ∧ w'.ownsRow w.heap.size 40 4 s (toks l.length l (1, 1)).1.length ((toks l.length l (1, 1)).1.flatMap tokC)))
theorem chk_form (l : List UInt8) : (∃ u v E : Int, E ≠ 0 ∧ ChkV l = .tuple #[.agg #[.int .i64 u, .int .i64 v], .int .i64 E]) ∨ (ChkV l = .tuple #[.agg #[.int .i64 0, .int .i64 0], .int .i64 0] ∧ l.length ≤ 65536) := by
  unfold ChkV
  by_cases h1 : 65536 < l.length
  · rw [if_pos h1]; exact .inl ⟨_, _, _, by decide, rfl⟩
  rw [if_neg h1]
  by_cases h2 : cntU pF l (1, 1) = l.length
  · rw [if_pos h2]; exact .inr ⟨rfl, by omega⟩
  rw [if_neg h2]
  split
  · exact .inl ⟨_, _, _, by decide, rfl⟩
  · exact .inl ⟨_, _, _, by decide, rfl⟩
set_option maxRecDepth 100000 in
set_option maxHeartbeats 8000000 in
theorem tokens_is (s : ByteArray) (w : World) (hs : s.size ≤ 9223372036854775807) : Calls Try.prog 8 #[.string s] w (TokPost s.data.toList w) := by
  have hl : s.data.toList.length = s.size := by simp
  have HCK := Lib.hid (fun W => check_is s W hs)
  obtain ⟨Z, hZ⟩ : ∃ Z, w.alloc (.cells #[.int .i64 0, .int .i64 0] 27) = Z := ⟨_, rfl⟩
  have hb0 : Below w.heap.size w Z := by rw [← hZ]; exact (Below.refl _ _).alloc (Nat.le_refl _) _
  have hPZ : Z.heap[w.heap.size]? = some (.cells #[.int .i64 0, .int .i64 0] 27 (0, 0)) := by rw [← hZ]; exact heap_alloc_new w _
  have hz0 : w.heap.size < Z.heap.size := (Array.getElem?_eq_some_iff.1 hPZ).1
  have HB0 := Lib.hid hb0; have HPZ := Lib.hid hPZ
  clear hb0 hPZ
  rcases chk_form s.data.toList with ⟨u, v, E, hE, hck⟩ | ⟨hck, h65⟩
  · rw [hck] at HCK
    have HE := Lib.hid hE; have HC := Lib.hid hck
    have hEb : (E != 0) = true := by simpa using hE
    clear hE hck
    go_enter Try.func8, Try.ntmps8
    go_wp2_with fail
    go_at_call 9
    (with_reducible refine (HCK.out _).mono ?_)
    rintro e w1 ⟨rfl, hb1⟩
    try clear hZ
    have hP1 : (w1.alloc (.cells #[.int .i64 u, .int .i64 v] 27)).heap[w.heap.size]? = some (.cells #[.int .i64 0, .int .i64 0] 27 (0, 0)) := (heap_alloc_old _ _ (Nat.lt_of_lt_of_le hz0 hb1.size)).trans ((hb1.block _ hz0).trans HPZ.out)
    have hQ1 := heap_alloc_new w1 (.cells #[.int .i64 u, .int .i64 v] 27)
    have hbA : Below w.heap.size w (w1.alloc (.cells #[.int .i64 u, .int .i64 v] 27)) := (Below.step HB0.out hb1).alloc (by have := hb1.size; omega) _
    obtain ⟨W1, hW1⟩ : ∃ W1, w1.alloc (.cells #[.int .i64 u, .int .i64 v] 27) = W1 := ⟨_, rfl⟩
    rw [hW1] at hP1 hQ1 hbA
    obtain ⟨r0, rf0⟩ := row_cell' (j := 0) hP1 rfl
    obtain ⟨r1, rf1⟩ := row_cell' (j := 1) hP1 rfl
    obtain ⟨q0, _⟩ := row_cell' (j := 0) hQ1 rfl
    obtain ⟨q1, _⟩ := row_cell' (j := 1) hQ1 rfl
    have HP1 := Lib.hid hP1; have HBA := Lib.hid hbA
    clear hP1 hQ1 hbA
    go_wp2_with fail
    try rw [hW1]
    clear hW1
    go_region
    go_wp2_with fail
    have hfin : ((W1.setCell ⟨w.heap.size, 0, none⟩ (.int .i64 u)).setCell ⟨w.heap.size, 1, none⟩ (.int .i64 v)).drew.heap[w.heap.size]? = some (.cells #[.int .i64 u, .int .i64 v] 27 (0, 0)) := set2 (m0 := u) (m1 := v) HP1.out
    have hbf : Below w.heap.size w ((W1.setCell ⟨w.heap.size, 0, none⟩ (.int .i64 u)).setCell ⟨w.heap.size, 1, none⟩ (.int .i64 v)).drew := by
      refine Below.drew ?_
      repeat refine Below.setCell ?_ (by simp) _
      exact HBA.out
    obtain ⟨W9, hW9⟩ : ∃ W9, ((W1.setCell ⟨w.heap.size, 0, none⟩ (.int .i64 u)).setCell ⟨w.heap.size, 1, none⟩ (.int .i64 v)).drew = W9 := ⟨_, rfl⟩
    rw [hW9] at hfin hbf ⊢
    clear hW9
    obtain ⟨e0, _⟩ := row_cell' (j := 0) hfin rfl
    obtain ⟨e1, _⟩ := row_cell' (j := 1) hfin rfl
    exact bodyPost_ret (v := .tuple #[.slice none 0 0, .agg #[.int .i64 u, .int .i64 v], .int .i64 E]) (by simp [results, Try.results8, go_sem, e0, e1]) rfl ⟨hbf, .inl ⟨u, v, E, HE.out, HC.out, rfl⟩⟩
  · rw [hck] at HCK
    have HC := Lib.hid hck
    clear hck
    go_enter Try.func8, Try.ntmps8
    go_wp2_with fail
    go_at_call 9
    (with_reducible refine (HCK.out _).mono ?_)
    rintro e w1 ⟨rfl, hb1⟩
    try clear hZ
    have hP1 : (w1.alloc (.cells #[.int .i64 0, .int .i64 0] 27)).heap[w.heap.size]? = some (.cells #[.int .i64 0, .int .i64 0] 27 (0, 0)) := (heap_alloc_old _ _ (Nat.lt_of_lt_of_le hz0 hb1.size)).trans ((hb1.block _ hz0).trans HPZ.out)
    have hbA : Below w.heap.size w (w1.alloc (.cells #[.int .i64 0, .int .i64 0] 27)) := (Below.step HB0.out hb1).alloc (by have := hb1.size; omega) _
    go_wp2_with fail
    obtain ⟨W1, hW1⟩ : ∃ W1, w1.alloc (.cells #[.int .i64 0, .int .i64 0] 27) = W1 := ⟨_, rfl⟩
    rw [hW1] at hP1 hbA ⊢
    clear hW1
    go_at_call 10
    refine (start_is s _).mono ?_
    rintro e W2 ⟨g, rfl, hg, hrd, hb2⟩
    have hP2 := (hb2.block _ (Array.getElem?_eq_some_iff.1 hP1).1).trans hP1
    have hbB := Below.step hbA hb2
    have HP2 := Lib.hid hP2; have HBB := Lib.hid hbB
    have hw1g : w.heap.size < g := by have := (Array.getElem?_eq_some_iff.1 hP1).1; omega
    have hg2 := hrd.lt
    obtain ⟨T0, hT0⟩ : ∃ T0, toks s.data.toList.length s.data.toList (1, 1) = T0 := ⟨_, rfl⟩
    have HT0 := Lib.hid hT0
    clear hP1 hbA hP2 hbB hb1 hb2 hT0
    go_wp2_with fail
    go_loopw [7] (fun s7 wr => ∃ (d : List (Int × List UInt8 × (Int × Int))) (rest : List UInt8) (ln c : Int), Hid (T0 = (d ++ (toks rest.length rest (ln, c)).1, (toks rest.length rest (ln, c)).2)) ∧ Rd wr g rest ln c ∧ rest.length ≤ s.size ∧ 0 ≤ ln ∧ ln ≤ 1 + (s.size - rest.length : Nat) ∧ 0 ≤ c ∧ c ≤ 1 + 2 * (s.size - rest.length : Nat) ∧ d.length + rest.length ≤ s.size ∧ wr.ownsRow W2.heap.size 40 4 s7 d.length (d.flatMap tokC) ∧ W2.grownBy wr (some g)) (fun _ wr => leftN wr g)
    case atStart => exact ⟨[], s.data.toList, 1, 1, Lib.hid (by rw [← HT0.out]; rfl), hrd, by omega, by omega, by omega, by omega, by omega, by first | (simp; done) | (simp; omega), World.ownsRow_nil _ _ _ _, gb_refl _ _⟩
    case round =>
      obtain ⟨d, rest, ln, c, HT, hr, hrs, hln, hln2, hc, hc2, hdl, hown, hgr⟩ := hrel
      have HD := Lib.hid (done_is g rest ln c wr hr)
      have hw2 : w.heap.size < W2.heap.size := (Array.getElem?_eq_some_iff.1 HP2.out).1
      have hPr := (hgr.block w.heap.size hw2 (fun e => by cases e; omega)).trans HP2.out
      obtain ⟨r0, rf0⟩ := row_cell' (j := 0) hPr rfl
      obtain ⟨r1, rf1⟩ := row_cell' (j := 1) hPr rfl
      have HPr := Lib.hid hPr
      have hbw : Below w.heap.size w wr := ⟨hgr.os.trans HBB.out.os, hgr.tape.trans HBB.out.tape, hgr.output.trans HBB.out.output, Nat.le_trans HBB.out.size hgr.size, fun k hk => (hgr.block k (by omega) (fun e => by cases e; omega)).trans (HBB.out.block k hk)⟩
      have HBW := Lib.hid hbw; have HOWN := Lib.hid hown; have HGR := Lib.hid hgr
      clear hPr hbw
      cases rest with
      | nil =>
        clear hown hgr
        go_wp2_with (go_at_call 11; (refine HD.out.mono ?_); rintro e w3 ⟨rfl, rfl⟩)
        have hTd : T0 = (d, none) := by rw [HT.out]; simp [toks]
        have hown9 : ((wr.setCell ⟨w.heap.size, 0, none⟩ (.int .i64 0)).setCell ⟨w.heap.size, 1, none⟩ (.int .i64 0)).ownsRow w.heap.size 40 4 u7 d.length (d.flatMap tokC) := by
          refine ownsRow_base (ownsRow_of HOWN.out fun x _ hx1 hx2 => ?_) (Nat.le_of_lt hw2)
          rw [Below.heap_setCell _ _ _ _ (by simp; omega), Below.heap_setCell _ _ _ _ (by simp; omega)]
        have hfin : ((wr.setCell ⟨w.heap.size, 0, none⟩ (.int .i64 0)).setCell ⟨w.heap.size, 1, none⟩ (.int .i64 0)).heap[w.heap.size]? = some (.cells #[.int .i64 0, .int .i64 0] 27 (0, 0)) := set2 (m0 := 0) (m1 := 0) HPr.out
        have hbf : Below w.heap.size w ((wr.setCell ⟨w.heap.size, 0, none⟩ (.int .i64 0)).setCell ⟨w.heap.size, 1, none⟩ (.int .i64 0)) := by
          skip
          repeat refine Below.setCell ?_ (by simp) _
          exact HBW.out
        obtain ⟨W9, hW9⟩ : ∃ W9, ((wr.setCell ⟨w.heap.size, 0, none⟩ (.int .i64 0)).setCell ⟨w.heap.size, 1, none⟩ (.int .i64 0)) = W9 := ⟨_, rfl⟩
        rw [hW9] at hfin hbf hown9 ⊢
        clear hW9
        obtain ⟨e0, _⟩ := row_cell' (j := 0) hfin rfl
        obtain ⟨e1, _⟩ := row_cell' (j := 1) hfin rfl
        exact bodyPost_ret (v := .tuple #[u7, .agg #[.int .i64 0, .int .i64 0], .int .i64 0]) (by simp [results, Try.results8, go_sem, e0, e1]) rfl ⟨hbf, .inr (.inr ⟨u7, HC.out, by rw [HT0.out, hTd], rfl, by rw [HT0.out, hTd]; exact hown9⟩)⟩
      | cons b r =>
        obtain ⟨j1, _⟩ := row_cell' (j := 1) hr rfl
        obtain ⟨j2, _⟩ := row_cell' (j := 2) hr rfl
        have hgl := hr.lt
        have HR := Lib.hid hr
        obtain ⟨W3, hW3⟩ : ∃ W3, wr.alloc (.cells #[.int .i64 ln, .int .i64 c] 27) = W3 := ⟨_, rfl⟩
        have hg3 : wr.grownBy W3 (some g) := by rw [← hW3]; exact gb_alloc _ _ _
        have hr3 : Rd W3 g (b :: r) ln c := by unfold Rd; rw [← hW3]; exact (heap_alloc_old _ _ hgl).trans hr
        have hq3 : W3.heap[wr.heap.size]? = some (.cells #[.int .i64 ln, .int .i64 c] 27 (0, 0)) := by rw [← hW3]; exact heap_alloc_new wr _
        have hoff := part_off b r (ln, c)
        have hpa := part_is g b r ln c W3 hr3 (by omega) hln (by omega) hc (by omega)
        have htk : toks (b :: r).length (b :: r) (ln, c) = if (partR (b :: r) (ln, c)).ok = false then ([], some (ln, c)) else ((if (partR (b :: r) (ln, c)).kind = 0 then [] else [((partR (b :: r) (ln, c)).kind, (partR (b :: r) (ln, c)).text, (ln, c))]) ++ (toks (partR (b :: r) (ln, c)).rest.length (partR (b :: r) (ln, c)).rest (partR (b :: r) (ln, c)).at').1, (toks (partR (b :: r) (ln, c)).rest.length (partR (b :: r) (ln, c)).rest (partR (b :: r) (ln, c)).at').2) := by
          rw [List.length_cons]
          simp only [toks]
          rw [toks_fuel r.length (partR (b :: r) (ln, c)).rest.length _ _ (by have := hoff.lt; simp at this; omega) (Nat.le_refl _)]
        obtain ⟨x, hx⟩ : ∃ x, partR (b :: r) (ln, c) = x := ⟨_, rfl⟩
        have htxl := part_text b r (ln, c)
        rw [hx] at hpa hoff htk htxl
        obtain ⟨kd, tx, ok, rs, ln', c'⟩ := x
        have HPA : Hid (Calls Try.prog 13 #[.pointer (some ⟨g, 0, none⟩)] W3 fun e w' => e = .returned (.tuple #[.int .u8 kd, .string ⟨tx.toArray⟩, .bool ok]) ∧ Rd w' g rs ln' c' ∧ W3.grownBy w' (some g)) := Lib.hid hpa
        have HTK : Hid (toks (b :: r).length (b :: r) (ln, c) = if ok = false then ([], some (ln, c)) else ((if kd = 0 then [] else [(kd, tx, (ln, c))]) ++ (toks rs.length rs (ln', c')).1, (toks rs.length rs (ln', c')).2)) := Lib.hid htk
        have hrsl : rs.length < (b :: r).length := hoff.lt
        have htx : tx.length ≤ 65536 := Nat.le_trans htxl (by omega)
        clear htxl
        have hadv : 0 ≤ ln' ∧ ln' ≤ ln + ((b :: r).length - rs.length : Nat) ∧ 0 ≤ c' ∧ c' ≤ c + 1 + ((b :: r).length - rs.length : Nat) := by
          obtain ⟨n, n1, n2, n3, n4⟩ := hoff
          simp only at n3 n4
          have hbd := adv_bound ((b :: r).take n) (ln, c) hln hc
          rw [← n4, List.length_take, Nat.min_eq_left n2] at hbd
          simp only at hbd
          have : rs.length = (b :: r).length - n := by rw [n3, List.length_drop]
          omega
        obtain ⟨a1, a2, a3, a4⟩ := hadv
        have HG3 := Lib.hid hg3; have HQ3 := Lib.hid hq3
        clear hx hoff hg3 hr3 hq3 hr hown hgr hpa htk
        go_wp2_with (go_at_call 11; (refine HD.out.mono ?_); rintro e w3 ⟨rfl, rfl⟩)
        go_at_call 13
        refine HPA.out.mono ?_
        rintro e w4 ⟨rfl, hr4, hg4⟩
        have hlt3 : wr.heap.size < W3.heap.size := (Array.getElem?_eq_some_iff.1 HQ3.out).1
        have hq4 := (hg4.block _ hlt3 (fun e => by cases e; omega)).trans HQ3.out
        have hG4 : W2.grownBy w4 (some g) := gb_trans (gb_trans HGR.out HG3.out) hg4
        have hP4 := (hG4.block w.heap.size hw2 (fun e => by cases e; omega)).trans HP2.out
        have hB4 : Below w.heap.size w w4 := ⟨hG4.os.trans HBB.out.os, hG4.tape.trans HBB.out.tape, hG4.output.trans HBB.out.output, Nat.le_trans HBB.out.size hG4.size, fun k hk => (hG4.block k (by omega) (fun e => by cases e; omega)).trans (HBB.out.block k hk)⟩
        have hown4 : w4.ownsRow W2.heap.size 40 4 u7 d.length (d.flatMap tokC) := ownsRow_of HOWN.out fun x _ hx1 hx2 => (gb_trans HG3.out hg4).block x hx2 (fun e => by cases e; omega)
        try clear hW3
        clear r0 rf0 r1 rf1 j1 j2
        cases ok with
        | false =>
          obtain ⟨r0, rf0⟩ := row_cell' (j := 0) hP4 rfl
          obtain ⟨r1, rf1⟩ := row_cell' (j := 1) hP4 rfl
          obtain ⟨j1, _⟩ := row_cell' (j := 0) hq4 rfl
          obtain ⟨j2, _⟩ := row_cell' (j := 1) hq4 rfl
          have hTd : T0 = (d, some (ln, c)) := by rw [HT.out, HTK.out, if_pos rfl]; simp
          have HTD := Lib.hid hTd; have HP4 := Lib.hid hP4; have HB4 := Lib.hid hB4
          clear hTd hP4 hq4 hB4 hown4 hG4
          go_wp2_with fail
          go_region
          go_wp2_with fail
          have hfin : ((w4.setCell ⟨w.heap.size, 0, none⟩ (.int .i64 ln)).setCell ⟨w.heap.size, 1, none⟩ (.int .i64 c)).drew.heap[w.heap.size]? = some (.cells #[.int .i64 ln, .int .i64 c] 27 (0, 0)) := set2 (m0 := ln) (m1 := c) HP4.out
          have hbf : Below w.heap.size w ((w4.setCell ⟨w.heap.size, 0, none⟩ (.int .i64 ln)).setCell ⟨w.heap.size, 1, none⟩ (.int .i64 c)).drew := by
            refine Below.drew ?_
            repeat refine Below.setCell ?_ (by simp) _
            exact HB4.out
          obtain ⟨W9, hW9⟩ : ∃ W9, ((w4.setCell ⟨w.heap.size, 0, none⟩ (.int .i64 ln)).setCell ⟨w.heap.size, 1, none⟩ (.int .i64 c)).drew = W9 := ⟨_, rfl⟩
          rw [hW9] at hfin hbf ⊢
          clear hW9
          obtain ⟨e0, _⟩ := row_cell' (j := 0) hfin rfl
          obtain ⟨e1, _⟩ := row_cell' (j := 1) hfin rfl
          exact bodyPost_ret (v := .tuple #[.slice none 0 0, .agg #[.int .i64 ln, .int .i64 c], .int .i64 71]) (by simp [results, Try.results8, go_sem, e0, e1]) rfl ⟨hbf, .inr (.inl ⟨ln, c, HC.out, by rw [HT0.out, HTD.out], rfl⟩)⟩
        | true =>
          have HTD : Hid (T0 = ((d ++ if kd = 0 then [] else [(kd, tx, (ln, c))]) ++ (toks rs.length rs (ln', c')).1, (toks rs.length rs (ln', c')).2)) := Lib.hid (by rw [HT.out, HTK.out, if_neg (by simp)]; simp)
          by_cases hkd : kd = 0
          · subst hkd
            go_wp2_with fail
            go_roundw
            case rel => exact ⟨d, rs, ln', c', Lib.hid (by rw [HTD.out]; simp), hr4, by omega, by omega, by omega, by omega, by omega, by omega, hown4, hG4⟩
            case measure => rw [hr4.left, HR.out.left]; exact hrsl
          · have hkb : (kd != 0) = true := by simpa using hkd
            obtain ⟨j1, _⟩ := row_cell' (j := 0) hq4 rfl
            obtain ⟨j2, _⟩ := row_cell' (j := 1) hq4 rfl
            have hz4 : wr.heap.size < w4.heap.size := (Array.getElem?_eq_some_iff.1 hq4).1
            have hsx := mk_size tx
            have HCL := Lib.hid (fun W => clone_is ⟨tx.toArray⟩ (by rw [mk_size]; omega) W)
            have HOWN4 := Lib.hid hown4; have HG4 := Lib.hid hG4; have HR4 := Lib.hid hr4
            have J1 := Lib.hid j1; have J2 := Lib.hid j2
            obtain ⟨i0, hi0, hy0, hy1, hy2⟩ := info_parts infoTok
            have hw24 := hG4.size
            have HNE : Hid (u7.ownBlock ≠ some wr.heap.size) := Lib.hid fun h => by have := (World.ownsRow.lt HOWN.out _ h).2; omega
            clear hown4 hG4 hr4 hP4 hq4 hB4
            go_wp2_with fail
            go_region_held3 (fun w' => w'.cell? ⟨wr.heap.size, 0, none⟩ = some (.int .i64 ln) ∧ w'.cell? ⟨wr.heap.size, 1, none⟩ = some (.int .i64 c)) (first | go_keep | (simp [*, World.cell?_alloc_some]; done) | (trace_state; fail)) (first
              | (go_at_call 14; (with_reducible refine (HCL.out _).mono ?_); rintro e wz ⟨rfl, hbz⟩; (have hbzz : Below w4.heap.size w4 wz := Below.step ((Below.refl _ _).drew) hbz); (have hoz : World.ownsRow wz W2.heap.size 40 4 u7 d.length (d.flatMap tokC) := ownsRow_of HOWN4.out (fun x _ _ hx => hbzz.block x hx)); (have z0 : wz.cell? ⟨wr.heap.size, 0, none⟩ = some (.int .i64 ln) := (hbzz.cell (p := ⟨wr.heap.size, 0, none⟩) hz4).trans J1.out); (have z1 : wz.cell? ⟨wr.heap.size, 1, none⟩ = some (.int .i64 c) := (hbzz.cell (p := ⟨wr.heap.size, 1, none⟩) hz4).trans J2.out); have hzz := hbzz.size)
              | ((refine step_append_lies _ rfl (.tmp 42) (.tmp 48) 31 rfl W2.heap.size 40 i0 (.agg #[.int .u8 0, .string ⟨#[]⟩, .int .i64 0, .int .i64 0]) 4 40 Try.underlying31 hi0 hy0 hy1 hy2 rfl (by decide) _ _ _ rfl (World.ownsRow.alloc hoz _) ⟨wz.heap.size, 0, none⟩ 1 1 [.int .u8 kd, .string ⟨tx.toArray⟩, .int .i64 ln, .int .i64 c] rfl rfl (World.news_of_block (heap_alloc_new wz _)) (fun x hx => by simp at hx; rcases hx with rfl | rfl | rfl | rfl <;> rfl) (by omega) (by unfold maxLen; omega) (by omega) (by simp; omega) _ rfl ?_); intro g9 cap9 w9 hown9 hgr9 hor9 hlt9; have y0 : w9.cell? ⟨wr.heap.size, 0, none⟩ = some (.int .i64 ln) := World.grownBy.cell hgr9 (by first | exact (World.cell?_alloc_some _ _ _ _ z0) | simp [z0, World.cell?_alloc_some]) (fun h => HNE.out h.symm); have y1 : w9.cell? ⟨wr.heap.size, 1, none⟩ = some (.int .i64 c) := World.grownBy.cell hgr9 (by first | exact (World.cell?_alloc_some _ _ _ _ z1) | simp [z1, World.cell?_alloc_some]) (fun h => HNE.out h.symm)))
            have hsz9 := hbzz.size
            have hk9 : ∀ k, k < W2.heap.size → w9.heap[k]? = w4.heap[k]? := fun k hk => (hgr9.block k (by simp; omega) (fun e => by have := (World.ownsRow.lt HOWN4.out k e.symm).1; omega)).trans ((heap_alloc_old _ _ (by omega)).trans (hbzz.block k (by omega)))
            have hr9 : Rd w9 g rs ln' c' := (hk9 g hg2).trans HR4.out
            have hG9 : W2.grownBy w9 (some g) := ⟨hgr9.os.trans (hbzz.os.trans HG4.out.os), hgr9.tape.trans (hbzz.tape.trans HG4.out.tape), hgr9.output.trans (hbzz.output.trans HG4.out.output), Nat.le_trans HG4.out.size (Nat.le_trans hbzz.size (Nat.le_trans (by simp) hgr9.size)), fun k hk hne => (hk9 k hk).trans (HG4.out.block k hk hne)⟩
            have hown10 : w9.ownsRow W2.heap.size 40 4 (.slice (some ⟨g9, 0, none⟩) (d.length + 1) cap9) (d ++ [(kd, tx, (ln, c))]).length ((d ++ [(kd, tx, (ln, c))]).flatMap tokC) := by
              rw [List.length_append, List.flatMap_append]
              simpa [tokC] using hown9
            go_wp2
            go_roundw
            case rel => exact ⟨d ++ [(kd, tx, (ln, c))], rs, ln', c', Lib.hid (by rw [HTD.out, if_neg hkd]), hr9, by omega, by omega, by omega, by omega, by omega, by simp at hrsl ⊢; simp at hdl; omega, hown10, hG9⟩
            case measure => rw [hr9.left, HR.out.left]; exact hrsl
end Go.Proofs.Ythkiojedkafdhaa
