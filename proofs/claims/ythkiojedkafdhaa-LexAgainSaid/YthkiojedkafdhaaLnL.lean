/- What line of package lex's reader hands back. Under the conditions that it names. -/
import Derived.Test.YthkiojedkafdhaaLnU
import Derived.Test.YthkiojedkafdhaaLnC
import Derived.Deep.CutBlock
import Derived.Deep.DeepCutAuto
import Derived.Deep.RegionWith
import Derived.Deep.RegionHeld3
import Derived.Deep.RegionLaw
import Derived.Deep.AppendLies
namespace Go.Proofs.Ythkiojedkafdhaa
open Go.RowKit
/-- What a cell holds. -/
def getv (w : World) (a : Addr) : Value := (w.cell? a).getD undef
theorem getv_ok {w : World} {a : Addr} {x : Value} (h : w.cell? a = some x) : w.cell? a = some (getv w a) := by unfold getv; rw [h]; rfl
theorem getv_set {w : World} {a : Addr} {x : Value} (v : Value) (h : w.cell? a = some x) : (w.setCell a v).cell? a = some (getv (w.setCell a v) a) := getv_ok (World.cell?_setCell_same' _ _ _ (by rw [h]; rfl))
theorem infoWd : (Try.prog.info? 38).map (fun i => (i.zero, i.size, i.bytes)) = some (some (.agg #[.string ⟨#[]⟩, .int .i64 0, .int .i64 0]), 3, 32) := by kernel_rfl
/-- What line hands back. -/
def LinePost (l : List UInt8) (ln : Int) (g : Nat) (W : World) (e : Ending) (w' : World) : Prop := ∃ (wv : Value) (ln' c' : Int), e = .returned (.agg #[.int .i64 (nS l : Nat), wv]) ∧ w'.ownsRow W.heap.size 38 3 wv (lineR l).1.length ((lineR l).1.flatMap (wdC ln)) ∧ Rd w' g ((lineR l).2.1.drop 1) ln' c' ∧ ((lineR l).2.1 ≠ [] → ln' = ln + 1 ∧ c' = 1) ∧ 0 ≤ ln' ∧ ln' ≤ ln + 1 ∧ 0 ≤ c' ∧ c' ≤ 1000000000 ∧ W.grownBy w' (some g)
/-- Ahead of the words: what is left, and where. -/
def LnA (W : World) (g : Nat) (l : List UInt8) (ln : Int) (n B3 : Nat) (T0 : List (List UInt8 × Int) × List UInt8 × Int) (wx : World) : Prop := ∃ (l2 : List UInt8) (c2 : Int), T0 = wdsR l2.length l2 c2 ∧ Rd wx g l2 ln c2 ∧ [32].isPrefixOf l2 = false ∧ l2.length ≤ l.length ∧ 0 ≤ c2 ∧ c2 ≤ 1 + (l.length - l2.length : Nat) ∧ wx.heap[B3]? = some (.cells #[.int .i64 n, .slice none 0 0] 36 (0, 0)) ∧ wx.heap[W.heap.size]? = some (.cells #[.int .i64 0, .slice none 0 0] 36 (0, 0)) ∧ W.grownBy wx (some g)
/-- Behind one word. -/
def LnB (W : World) (g : Nat) (ln : Int) (n B3 : Nat) (r1 : List UInt8) (c : Int) (D : List (List UInt8 × Int)) (wx : World) : Prop := ∃ sv : Value, Rd wx g r1 ln c ∧ wx.heap[B3]? = some (.cells #[.int .i64 n, sv] 36 (0, 0)) ∧ wx.heap[W.heap.size]? = some (.cells #[.int .i64 0, .slice none 0 0] 36 (0, 0)) ∧ wx.ownsRow (B3 + 1) 38 3 sv D.length (D.flatMap (wdC ln)) ∧ W.grownBy wx (some g)
theorem lnB_mk {W W5 wy wz w9 : World} {g B3 n g9 cap9 : Nat} {ln c c1 : Int} {r1 tx : List UInt8} {d : List (List UInt8 × Int)} {sv : Value} {o : Obj} (hBg : B3 ≠ g) (hBW : W.heap.size < B3) (hg5 : g < W5.heap.size) (hB5 : B3 < W5.heap.size)
    (hG5 : W.grownBy W5 (some g)) (hL25 : W5.heap[W.heap.size]? = some (.cells #[.int .i64 0, .slice none 0 0] 36 (0, 0))) (hgW : g < W.heap.size)
    (hgy : W5.grownBy wy (some g)) (hry : Rd wy g r1 ln c1) (hy3 : wy.heap[B3]? = some (.cells #[.int .i64 n, sv] 36 (0, 0))) (hbz : Below wy.heap.size wy wz)
    (hvb : ∀ x, sv.ownBlock = some x → B3 + 1 ≤ x) (hgr : (wz.alloc o).grownBy w9 sv.ownBlock)
    (hown : w9.ownsRow (B3 + 1) 38 3 (.slice (some ⟨g9, 0, none⟩) (d.length + 1) cap9) (d.length + 1) (d.flatMap (wdC ln) ++ [.string ⟨tx.toArray⟩, .int .i64 ln, .int .i64 c])) :
    LnB W g ln n B3 r1 c1 (d ++ [(tx, c)]) (w9.setCell ⟨B3, 1, none⟩ (.slice (some ⟨g9, 0, none⟩) (d.length + 1) cap9)) := by
  have hyz := hbz.size
  have h5y := hgy.size
  have hW5 := hG5.size
  have k9 : ∀ x, x < W5.heap.size → x ≤ B3 → w9.heap[x]? = wy.heap[x]? := fun x hx hxb => (hgr.block x (by simp; omega) (fun e => by have := hvb x e.symm; omega)).trans ((heap_alloc_old _ _ (by omega)).trans (hbz.block x (by omega)))
  have k8 : ∀ x, x ≠ B3 → (w9.setCell ⟨B3, 1, none⟩ (.slice (some ⟨g9, 0, none⟩) (d.length + 1) cap9)).heap[x]? = w9.heap[x]? := fun x hx => Below.heap_setCell w9 ⟨B3, 1, none⟩ _ x (by simpa using hx)
  refine ⟨.slice (some ⟨g9, 0, none⟩) (d.length + 1) cap9, ?_, ?_, ?_, ?_, ?_⟩
  · exact (k8 g hBg.symm).trans ((k9 g hg5 (by omega)).trans hry)
  · exact Lib.heap_setCell_same (i := 1) ((k9 B3 hB5 (Nat.le_refl _)).trans hy3) _
  · exact (k8 _ (by omega)).trans ((k9 _ (by omega) (by omega)).trans ((hgy.block _ (by omega) (fun e => by cases e; omega)).trans hL25))
  · rw [List.length_append, List.flatMap_append]
    have := ownsRow_of hown (w' := w9.setCell ⟨B3, 1, none⟩ (.slice (some ⟨g9, 0, none⟩) (d.length + 1) cap9)) (fun x _ hx _ => k8 x (by omega))
    simpa [wdC] using this
  · refine ⟨?_, ?_, ?_, ?_, fun x hx hne => ?_⟩
    · exact (hgr.os.trans (hbz.os.trans (hgy.os.trans hG5.os)))
    · exact (hgr.tape.trans (hbz.tape.trans (hgy.tape.trans hG5.tape)))
    · exact (hgr.output.trans (hbz.output.trans (hgy.output.trans hG5.output)))
    · have := hgr.size
      simp at this ⊢; omega
    · exact (k8 x (by omega)).trans ((k9 x (by omega) (by omega)).trans ((hgy.block x (by omega) hne).trans (hG5.block x hx hne)))
set_option maxRecDepth 100000 in
set_option maxHeartbeats 16000000 in
theorem line_is (g : Nat) (l : List UInt8) (ln : Int) (W : World) (h : Rd W g l ln 1) (hl : l.length ≤ 65536) (hln : 0 ≤ ln) (hln2 : ln ≤ 1000000) :
    Calls Try.prog 12 #[.pointer (some ⟨g, 0, none⟩)] W (LinePost l ln g W) := by
  obtain ⟨Z, hZ⟩ : ∃ Z, W.alloc (.cells #[.int .i64 0, .slice none 0 0] 36) = Z := ⟨_, rfl⟩
  have hgW := h.lt
  have hrz : Rd Z g l ln 1 := by unfold Rd; rw [← hZ]; exact (heap_alloc_old _ _ hgW).trans h
  have hL2 : Z.heap[W.heap.size]? = some (.cells #[.int .i64 0, .slice none 0 0] 36 (0, 0)) := by rw [← hZ]; exact heap_alloc_new W _
  have hgz : W.grownBy Z (some g) := by rw [← hZ]; exact gb_alloc _ _ _
  have hzs : W.heap.size < Z.heap.size := (Array.getElem?_eq_some_iff.1 hL2).1
  have hnl := nS_le l
  have hdl : (l.drop (nS l)).length = l.length - nS l := List.length_drop
  have hns := mk_size (l.take (nS l))
  have htl : (l.take (nS l)).length = nS l := by rw [List.length_take]; omega
  rw [htl] at hns
  have HSK := Lib.hid (skip_is g l ln 1 Z hrz hl hln (by omega) (by omega) (by omega))
  have HAT := Lib.hid (fun W h => at_is g (l.drop (nS l)) [33] ln (1 + nS l) W h (by omega))
  have HEO := Lib.hid (fun W h => eol_is g (l.drop (nS l)) ln (1 + nS l) W h (by omega) hln (by omega) (by omega) (by omega))
  have HL2 := Lib.hid hL2; have HGZ := Lib.hid hgz
  clear h hrz hL2 hgz htl
  go_enter Try.func12, Try.ntmps12
  go_wp2_with fail
  try rw [hZ]
  go_at_call 15
  refine HSK.out.mono ?_
  rintro e w1 ⟨rfl, hr1, hg1⟩
  try clear hZ
  have hL21 := (hg1.block _ hzs (fun e => by cases e; omega)).trans HL2.out
  have hG1 := gb_trans HGZ.out hg1
  have hs1 := hg1.size
  have HR1 := Lib.hid hr1; have HL21 := Lib.hid hL21; have HG1 := Lib.hid hG1
  clear hr1 hL21 hG1 hg1
  go_wp2_with fail
  obtain ⟨B3, hB3⟩ : ∃ B3, w1.heap.size = B3 := ⟨_, rfl⟩
  obtain ⟨W3, hW3⟩ : ∃ W3, w1.alloc (.cells #[.int .i64 (nS l : Nat), .slice none 0 0] 36) = W3 := ⟨_, rfl⟩
  have hL3 : W3.heap[B3]? = some (.cells #[.int .i64 (nS l : Nat), .slice none 0 0] 36 (0, 0)) := by rw [← hW3, ← hB3]; exact heap_alloc_new w1 _
  have hr3 : Rd W3 g (l.drop (nS l)) ln (1 + nS l) := by unfold Rd; rw [← hW3]; exact (heap_alloc_old _ _ HR1.out.lt).trans HR1.out
  have hL2 : W3.heap[W.heap.size]? = some (.cells #[.int .i64 0, .slice none 0 0] 36 (0, 0)) := by rw [← hW3]; exact (heap_alloc_old _ _ (by omega)).trans HL21.out
  have hG2 : W.grownBy W3 (some g) := by rw [← hW3]; exact gb_trans HG1.out (gb_alloc _ _ _)
  have hB2 : B3 < W3.heap.size := (Array.getElem?_eq_some_iff.1 hL3).1
  rw [hW3, hB3]
  have hBg : B3 ≠ g := by omega
  have hBW : W.heap.size < B3 := by omega
  obtain ⟨T0, hT0⟩ : ∃ T0, lineR l = T0 := ⟨_, rfl⟩
  have HT0 := Lib.hid hT0
  have HAT3 := HAT.out W3 hr3
  obtain ⟨n, hn⟩ : ∃ n : Nat, nS l = n := ⟨_, rfl⟩
  have HNN := Lib.hid hn
  obtain ⟨l1, hl1⟩ : ∃ l1, l.drop n = l1 := ⟨_, rfl⟩
  have hsp1 : [32].isPrefixOf l1 = false := by rw [← hl1, ← hn]; exact drop_nS l
  have hlr : lineR l = if [33].isPrefixOf l1 then wdsR (l1.drop (nE l1)).length (l1.drop (nE l1)) (1 + n + nE l1) else wdsR l1.length l1 (1 + n) := by unfold lineR; rw [hn, hl1]
  rw [hT0] at hlr
  rw [hn] at hL3 hr3 HEO HAT3 hdl hnl hns ⊢
  rw [hl1] at hr3 HEO HAT3 hdl
  clear hT0 hW3 hB3 HL21 HR1 HG1 HSK HAT hn hl1 hns HL2 HGZ
  go_upto_if 12 with (go_at_call 19; (refine HAT3.mono ?_); rintro e w3 ⟨rfl, rfl⟩)
  go_cut [] (fun wx => LnA W g l ln n B3 T0 wx)
  case first =>
    cases hbang : [33].isPrefixOf l1 with
    | true =>
      rw [hbang, if_pos rfl] at hlr
      have hend := drop_nE l1
      have hEl := nE_le l1
      have hE1 : (l1.drop (nE l1)).length = l1.length - nE l1 := List.length_drop
      have hsp2 : [32].isPrefixOf (l1.drop (nE l1)) = false := by
        rcases hend with h | ⟨r, h⟩
        · rw [h]; rfl
        · rw [h, one_cons]; rfl
      have HX := Lib.hid hlr; have HSP := Lib.hid hsp2; have HL3 := Lib.hid hL3; have HL2 := Lib.hid hL2; have HG2 := Lib.hid hG2; have HR3 := Lib.hid hr3
      clear hlr hsp1 hsp2 hend hL3 hL2 hG2 hr3 HAT3
      go_wp2_with (go_at_call 15; (refine (HEO.out _ HR3.out).mono ?_); rintro e W4 ⟨rfl, hr2, hg4⟩)
      go_meet
      exact ⟨_, _, HX.out, hr2, HSP.out, by omega, by omega, by omega, (hg4.block _ hB2 (fun e => by cases e; omega)).trans HL3.out, (hg4.block _ (by omega) (fun e => by cases e; omega)).trans HL2.out, gb_trans HG2.out hg4⟩
    | false =>
      rw [hbang, if_neg (by simp)] at hlr
      have HX := Lib.hid hlr; have HSP := Lib.hid hsp1; have HL3 := Lib.hid hL3; have HL2 := Lib.hid hL2; have HG2 := Lib.hid hG2; have HR3 := Lib.hid hr3
      clear hlr hsp1 hL3 hL2 hG2 hr3 HAT3
      go_wp2_with fail
      go_meet
      exact ⟨_, _, HX.out, HR3.out, HSP.out, by omega, by omega, by omega, HL3.out, HL2.out, HG2.out⟩
  case rest =>
    clear hlr hL3 hL2 hG2 hr3 HAT3 hsp1 HEO hB2 hdl hnl
    obtain ⟨l2, c2, hlr, hr2, hs2, hll2, hc20, hc21, hL3, hL2, hG2⟩ := hcut
    have hB2 : B3 < wc.heap.size := (Array.getElem?_eq_some_iff.1 hL3).1
    have HLR := Lib.hid hlr; have HS2 := Lib.hid hs2
    have HL3 := Lib.hid hL3; have HL2 := Lib.hid hL2; have HG2 := Lib.hid hG2; have HR2 := Lib.hid hr2
    clear hlr hs2 hL3 hL2 hG2 hr2
    go_wp2_with fail
    have hL3 := HL3.out; have hL2 := HL2.out; have hG2 := HG2.out; have hr2 := HR2.out
    go_loopw [4] (fun _ wr => ∃ (d : List (List UInt8 × Int)) (r : List UInt8) (c : Int) (sv : Value), Hid (T0 = (d ++ (wdsR r.length r c).1, (wdsR r.length r c).2)) ∧ Rd wr g r ln c ∧ Hid ([32].isPrefixOf r = false) ∧ r.length ≤ l.length ∧ 0 ≤ c ∧ c ≤ 1 + (l.length - r.length : Nat) ∧ d.length + r.length ≤ l.length ∧ wr.heap[B3]? = some (.cells #[.int .i64 n, sv] 36 (0, 0)) ∧ wr.heap[W.heap.size]? = some (.cells #[.int .i64 0, .slice none 0 0] 36 (0, 0)) ∧ wr.ownsRow (B3 + 1) 38 3 sv d.length (d.flatMap (wdC ln)) ∧ W.grownBy wr (some g) ∧ B3 < wr.heap.size) (fun _ wr => leftN wr g)
    case atStart => exact ⟨[], l2, c2, .slice none 0 0, Lib.hid (by rw [← HLR.out]; rfl), hr2, HS2, by omega, by omega, by omega, by simp; omega, hL3, hL2, World.ownsRow_nil _ _ _ _, hG2, hB2⟩
    case round =>
      obtain ⟨d, r, c, sv, HT, hr, HS, hrl, hc, hc2, hdl, hL3, hL2, hown, hgr, hB⟩ := hrel
      have HD := Lib.hid (done_is g r ln c wr hr)
      have HLE := Lib.hid (lineEnd_is g r ln c wr hr (by omega))
      obtain ⟨x0, xf0⟩ := row_cell' (j := 0) hL3 rfl
      obtain ⟨x1, xf1⟩ := row_cell' (j := 1) hL3 rfl
      obtain ⟨y0, yf0⟩ := row_cell' (j := 0) hL2 rfl
      obtain ⟨y1, yf1⟩ := row_cell' (j := 1) hL2 rfl
      obtain ⟨j1, jf1⟩ := row_cell' (j := 1) hr rfl
      obtain ⟨j2, jf2⟩ := row_cell' (j := 2) hr rfl
      have hgw := hr.lt
      have HR := Lib.hid hr; have HL3 := Lib.hid hL3; have HL2 := Lib.hid hL2; have HOWN := Lib.hid hown; have HGR := Lib.hid hgr
      clear hr hL3 hL2 hown hgr
      by_cases hst : (r.isEmpty || pEnd r) = true
      · have HE := Lib.hid (stop_atEnd hst)
        have HTE : Hid (T0 = (d, r, c)) := Lib.hid (by rw [HT.out, wdsR_stop hst]; simp)
        have HNX := Lib.hid (next_is g r ln c wr HR.out HE.out (by omega) hln (by omega) hc (by omega))
        have hway : r.isEmpty = true ∨ (r.isEmpty = false ∧ pEnd r = true) := by
          cases hre : r.isEmpty with
          | true => exact .inl rfl
          | false => rw [hre] at hst; exact .inr ⟨rfl, by simpa using hst⟩
        obtain ⟨p9, q9, rfl⟩ := own_sl HOWN.out
        rcases hway with he | ⟨he, hp⟩
        · rw [he] at HD
          clear hst he HT
          go_wp2_with (first | (go_at_call 11; (refine HD.out.mono ?_); rintro e w3 ⟨rfl, rfl⟩) | (go_at_call 20; (refine HLE.out.mono ?_); rintro e w3 ⟨rfl, rfl⟩))
          go_at_call 22
          refine HNX.out.mono ?_
          rintro e w8 ⟨⟨v8, rfl⟩, ⟨ln8, c8, hr8, hn8, a1, a2, a3, a4⟩, hg8⟩
          have hL38 := (hg8.block B3 hB (fun e => by cases e; omega)).trans HL3.out
          have hL28 := (hg8.block W.heap.size (by omega) (fun e => by cases e; omega)).trans HL2.out
          have hown8 := ownsRow_of HOWN.out (fun x _ hx hxl => hg8.block x hxl (fun e => by cases e; omega))
          have HL28 := Lib.hid hL28; have HG8 := Lib.hid (gb_trans HGR.out hg8); have HOWN8 := Lib.hid hown8; have HN8 := Lib.hid hn8; have HR8 := Lib.hid hr8
          clear x0 xf0 x1 xf1 y0 yf0 y1 yf1 j1 jf1 j2 jf2
          obtain ⟨x0, xf0⟩ := row_cell' (j := 0) hL38 rfl
          obtain ⟨x1, xf1⟩ := row_cell' (j := 1) hL38 rfl
          obtain ⟨y0, yf0⟩ := row_cell' (j := 0) hL28 rfl
          obtain ⟨y1, yf1⟩ := row_cell' (j := 1) hL28 rfl
          have hs8 := hg8.size
          clear hL38 hL28 hown8 hn8 hr8 hg8
          go_wp2_with fail
          have hfin := set2v (.int .i64 n) (.slice p9 d.length q9) HL28.out
          have hk8 : ∀ x, x ≠ W.heap.size → ((w8.setCell ⟨W.heap.size, 0, none⟩ (.int .i64 n)).setCell ⟨W.heap.size, 1, none⟩ (.slice p9 d.length q9)).heap[x]? = w8.heap[x]? := fun x hx => (Below.heap_setCell _ _ _ _ (by simpa using hx)).trans (Below.heap_setCell _ _ _ _ (by simpa using hx))
          have hrf : Rd ((w8.setCell ⟨W.heap.size, 0, none⟩ (.int .i64 n)).setCell ⟨W.heap.size, 1, none⟩ (.slice p9 d.length q9)) g (r.drop 1) ln8 c8 := (hk8 g (by omega)).trans HR8.out
          have hof : ((w8.setCell ⟨W.heap.size, 0, none⟩ (.int .i64 n)).setCell ⟨W.heap.size, 1, none⟩ (.slice p9 d.length q9)).ownsRow W.heap.size 38 3 (.slice p9 d.length q9) d.length (d.flatMap (wdC ln)) := ownsRow_base (ownsRow_of HOWN8.out (fun x _ hx _ => hk8 x (by omega))) (by omega)
          have hgf : W.grownBy ((w8.setCell ⟨W.heap.size, 0, none⟩ (.int .i64 n)).setCell ⟨W.heap.size, 1, none⟩ (.slice p9 d.length q9)) (some g) := by
            refine ⟨?_, ?_, ?_, ?_, fun x hx hne => (hk8 x (by omega)).trans (HG8.out.block x hx hne)⟩
            · exact HG8.out.os
            · exact HG8.out.tape
            · exact HG8.out.output
            · simpa using HG8.out.size
          obtain ⟨W9, hW9⟩ : ∃ W9, ((w8.setCell ⟨W.heap.size, 0, none⟩ (.int .i64 n)).setCell ⟨W.heap.size, 1, none⟩ (.slice p9 d.length q9)) = W9 := ⟨_, rfl⟩
          rw [hW9] at hfin hrf hof hgf ⊢
          clear hW9 hk8
          obtain ⟨e0, _⟩ := row_cell' (j := 0) hfin rfl
          obtain ⟨e1, _⟩ := row_cell' (j := 1) hfin rfl
          refine bodyPost_ret (v := .agg #[.int .i64 n, .slice p9 d.length q9]) (by simp [results, Try.results12, go_sem, e0, e1]) rfl ⟨.slice p9 d.length q9, ln8, c8, ?_, ?_, ?_, ?_, a1, a2, a3, a4, hgf⟩
          · rw [HNN.out]
          · rw [Hid.out HT0, HTE.out]; exact hof
          · rw [Hid.out HT0, HTE.out]; exact hrf
          · rw [Hid.out HT0, HTE.out]; exact HN8.out
        · rw [he] at HD
          rw [hp] at HLE
          clear hst he hp HT
          go_wp2_with (first | (go_at_call 11; (refine HD.out.mono ?_); rintro e w3 ⟨rfl, rfl⟩) | (go_at_call 20; (refine HLE.out.mono ?_); rintro e w3 ⟨rfl, rfl⟩))
          go_at_call 22
          refine HNX.out.mono ?_
          rintro e w8 ⟨⟨v8, rfl⟩, ⟨ln8, c8, hr8, hn8, a1, a2, a3, a4⟩, hg8⟩
          have hL38 := (hg8.block B3 hB (fun e => by cases e; omega)).trans HL3.out
          have hL28 := (hg8.block W.heap.size (by omega) (fun e => by cases e; omega)).trans HL2.out
          have hown8 := ownsRow_of HOWN.out (fun x _ hx hxl => hg8.block x hxl (fun e => by cases e; omega))
          have HL28 := Lib.hid hL28; have HG8 := Lib.hid (gb_trans HGR.out hg8); have HOWN8 := Lib.hid hown8; have HN8 := Lib.hid hn8; have HR8 := Lib.hid hr8
          clear x0 xf0 x1 xf1 y0 yf0 y1 yf1 j1 jf1 j2 jf2
          obtain ⟨x0, xf0⟩ := row_cell' (j := 0) hL38 rfl
          obtain ⟨x1, xf1⟩ := row_cell' (j := 1) hL38 rfl
          obtain ⟨y0, yf0⟩ := row_cell' (j := 0) hL28 rfl
          obtain ⟨y1, yf1⟩ := row_cell' (j := 1) hL28 rfl
          have hs8 := hg8.size
          clear hL38 hL28 hown8 hn8 hr8 hg8
          go_wp2_with fail
          have hfin := set2v (.int .i64 n) (.slice p9 d.length q9) HL28.out
          have hk8 : ∀ x, x ≠ W.heap.size → ((w8.setCell ⟨W.heap.size, 0, none⟩ (.int .i64 n)).setCell ⟨W.heap.size, 1, none⟩ (.slice p9 d.length q9)).heap[x]? = w8.heap[x]? := fun x hx => (Below.heap_setCell _ _ _ _ (by simpa using hx)).trans (Below.heap_setCell _ _ _ _ (by simpa using hx))
          have hrf : Rd ((w8.setCell ⟨W.heap.size, 0, none⟩ (.int .i64 n)).setCell ⟨W.heap.size, 1, none⟩ (.slice p9 d.length q9)) g (r.drop 1) ln8 c8 := (hk8 g (by omega)).trans HR8.out
          have hof : ((w8.setCell ⟨W.heap.size, 0, none⟩ (.int .i64 n)).setCell ⟨W.heap.size, 1, none⟩ (.slice p9 d.length q9)).ownsRow W.heap.size 38 3 (.slice p9 d.length q9) d.length (d.flatMap (wdC ln)) := ownsRow_base (ownsRow_of HOWN8.out (fun x _ hx _ => hk8 x (by omega))) (by omega)
          have hgf : W.grownBy ((w8.setCell ⟨W.heap.size, 0, none⟩ (.int .i64 n)).setCell ⟨W.heap.size, 1, none⟩ (.slice p9 d.length q9)) (some g) := by
            refine ⟨?_, ?_, ?_, ?_, fun x hx hne => (hk8 x (by omega)).trans (HG8.out.block x hx hne)⟩
            · exact HG8.out.os
            · exact HG8.out.tape
            · exact HG8.out.output
            · simpa using HG8.out.size
          obtain ⟨W9, hW9⟩ : ∃ W9, ((w8.setCell ⟨W.heap.size, 0, none⟩ (.int .i64 n)).setCell ⟨W.heap.size, 1, none⟩ (.slice p9 d.length q9)) = W9 := ⟨_, rfl⟩
          rw [hW9] at hfin hrf hof hgf ⊢
          clear hW9 hk8
          obtain ⟨e0, _⟩ := row_cell' (j := 0) hfin rfl
          obtain ⟨e1, _⟩ := row_cell' (j := 1) hfin rfl
          refine bodyPost_ret (v := .agg #[.int .i64 n, .slice p9 d.length q9]) (by simp [results, Try.results12, go_sem, e0, e1]) rfl ⟨.slice p9 d.length q9, ln8, c8, ?_, ?_, ?_, ?_, a1, a2, a3, a4, hgf⟩
          · rw [HNN.out]
          · rw [Hid.out HT0, HTE.out]; exact hof
          · rw [Hid.out HT0, HTE.out]; exact hrf
          · rw [Hid.out HT0, HTE.out]; exact HN8.out
      · have hst' : (r.isEmpty || pEnd r) = false := by simpa using hst
        obtain ⟨hem, hpe⟩ := Bool.or_eq_false_iff.1 hst'
        rw [hem] at HD
        rw [hpe] at HLE
        have hk := nB_pos hst' HS.out
        have hkl := nB_le r
        have hkd : (r.drop (nB r)).length = r.length - nB r := List.length_drop
        have hsl := nS_le (r.drop (nB r))
        obtain ⟨k, hkk⟩ : ∃ k, nB r = k := ⟨_, rfl⟩
        obtain ⟨r1, hr1⟩ : ∃ r1, r.drop k = r1 := ⟨_, rfl⟩
        obtain ⟨m, hm⟩ : ∃ m, nS r1 = m := ⟨_, rfl⟩
        obtain ⟨tx, htx⟩ : ∃ tx, r.take k = tx := ⟨_, rfl⟩
        have HT2 : Hid (T0 = ((d ++ [(tx, c)]) ++ (wdsR (r1.drop m).length (r1.drop m) (c + k + m)).1, (wdsR (r1.drop m).length (r1.drop m) (c + k + m)).2)) := Lib.hid (by
          rw [HT.out]
          cases hrr : r with
          | nil => rw [hrr] at hem; simp at hem
          | cons b r' =>
            rw [List.length_cons]
            conv => lhs; unfold wdsR
            rw [← hrr, if_neg (by rw [hst']; simp), hkk, hr1, hm, htx, wdsR_fuel r'.length (r1.drop m).length _ _ (by rw [← hm]; exact drop_nS r1) (by
              have e1 : r.length = r'.length + 1 := by rw [hrr]; rfl
              have e2 : r1.length = r.length - k := by rw [← hr1, List.length_drop]
              rw [List.length_drop]
              omega) (Nat.le_refl _)]
            simp)
        have HSD : Hid ([32].isPrefixOf (r1.drop m) = false) := Lib.hid (by rw [← hm]; exact drop_nS r1)
        have HWD := Lib.hid (fun W h => word_is g r ln c W h (by omega) hln (by omega) hc (by omega))
        rw [hkk] at HWD
        rw [hr1, htx] at HWD
        rw [hkk] at hk hkl hkd
        rw [hr1] at hkd
        rw [hkk, hr1, hm] at hsl
        have HSK := Lib.hid (fun W h => skip_is g r1 ln (c + k) W h (by omega) hln (by omega) (by omega) (by omega))
        rw [hm] at HSK
        have hmd : (r1.drop m).length = r1.length - m := List.length_drop
        have htxl : tx.length = k := by rw [← htx, List.length_take]; omega
        have hsx := mk_size tx
        have HCL := Lib.hid (fun W => clone_is ⟨tx.toArray⟩ (by rw [mk_size]; omega) W)
        clear hst hst' hem hpe HT hkk hr1 hm htx
        go_wp2_with (first | (go_at_call 11; (refine HD.out.mono ?_); rintro e w3 ⟨rfl, rfl⟩) | (go_at_call 20; (refine HLE.out.mono ?_); rintro e w3 ⟨rfl, rfl⟩))
        obtain ⟨W5, hW5⟩ : ∃ W5, wr.alloc (.cells #[.int .i64 ln, .int .i64 c] 27) = W5 := ⟨_, rfl⟩
        have hq5 : W5.heap[wr.heap.size]? = some (.cells #[.int .i64 ln, .int .i64 c] 27 (0, 0)) := by rw [← hW5]; exact heap_alloc_new wr _
        have hr5 : Rd W5 g r ln c := by unfold Rd; rw [← hW5]; exact (heap_alloc_old _ _ hgw).trans HR.out
        have hL35 : W5.heap[B3]? = some (.cells #[.int .i64 n, sv] 36 (0, 0)) := by rw [← hW5]; exact (heap_alloc_old _ _ hB).trans HL3.out
        have hL25 : W5.heap[W.heap.size]? = some (.cells #[.int .i64 0, .slice none 0 0] 36 (0, 0)) := by rw [← hW5]; exact (heap_alloc_old _ _ (by omega)).trans HL2.out
        have hG5 : W.grownBy W5 (some g) := by rw [← hW5]; exact gb_trans HGR.out (gb_alloc _ _ _)
        have hown5 : W5.ownsRow (B3 + 1) 38 3 sv d.length (d.flatMap (wdC ln)) := by rw [← hW5]; exact World.ownsRow.alloc HOWN.out _
        have hlt5 : wr.heap.size < W5.heap.size := (Array.getElem?_eq_some_iff.1 hq5).1
        rw [hW5]
        clear x0 xf0 x1 xf1 y0 yf0 y1 yf1 j1 jf1 j2 jf2 hW5
        obtain ⟨B4, hB4⟩ : ∃ B4, wr.heap.size = B4 := ⟨_, rfl⟩
        have hvb : ∀ x, sv.ownBlock = some x → B3 + 1 ≤ x ∧ x < B4 := fun x hx => by have := HOWN.out.lt x hx; omega
        have HVB := Lib.hid hvb
        rw [hB4] at hq5 hlt5 hgw hB ⊢
        clear hB4 hvb
        have x1 : W5.cell? ⟨B3, 1, none⟩ = some sv := (row_cell' (j := 1) hL35 rfl).1
        have hne34 : ¬ B3 = B4 := by omega
        have HGV : Hid (getv W5.drew ⟨B3, 1, none⟩ = sv) := Lib.hid (by unfold getv; rw [show W5.drew.cell? ⟨B3, 1, none⟩ = some sv from x1]; rfl)
        have hne43 : ¬ B4 = B3 := by omega
        obtain ⟨p0, _⟩ := row_cell' (j := 0) hq5 rfl
        obtain ⟨p1, _⟩ := row_cell' (j := 1) hq5 rfl
        have HR5 := Lib.hid hr5; have HL35 := Lib.hid hL35; have HL25 := Lib.hid hL25; have HG5 := Lib.hid hG5; have HOWN5 := Lib.hid hown5; have HQ5 := Lib.hid hq5
        have hB5 : B3 < W5.heap.size := by omega
        obtain ⟨i0, hi0, hy0, hy1, hy2⟩ := info_parts infoWd
        clear hq5 hr5 hL35 hL25 hG5 hown5
        go_upto_region 6 with fail
        go_cut [] from 17 to 44 (fun wx => LnB W g ln n B3 r1 (c + k) (d ++ [(tx, c)]) wx)
        case first =>
          go_region_law (first
          | (go_simp; go_at_call 15; (refine (HWD.out W5.drew HR5.out).mono ?_); rintro e wy ⟨rfl, hry, hgy⟩; (have hgyy : W5.grownBy wy (some g) := ⟨hgy.os, hgy.tape, hgy.output, hgy.size, hgy.block⟩); (have y3 : wy.heap[B3]? = some (.cells #[.int .i64 n, sv] 36 (0, 0)) := (hgyy.block _ hB5 (fun e => by cases e; omega)).trans HL35.out); (have y4 : wy.heap[B4]? = some (.cells #[.int .i64 ln, .int .i64 c] 27 (0, 0)) := (hgyy.block _ hlt5 (fun e => by cases e; omega)).trans HQ5.out); (have q1 : wy.cell? ⟨B3, 1, none⟩ = some sv := (row_cell' (j := 1) y3 rfl).1); (obtain ⟨q2, _⟩ := row_cell' (j := 0) y4 rfl); (obtain ⟨q3, _⟩ := row_cell' (j := 1) y4 rfl); have HGY := Lib.hid hgyy; have HRY := Lib.hid hry; have HY3 := Lib.hid y3; have HY4 := Lib.hid y4; clear y3 y4 hgyy hgy hry)
          | (go_simp; go_at_call 14; (refine (HCL.out _).mono ?_); rintro e wz ⟨rfl, hbz⟩; (have z3 : wz.heap[B3]? = some (.cells #[.int .i64 n, sv] 36 (0, 0)) := (hbz.block _ (Nat.lt_of_lt_of_le hB5 HGY.out.size)).trans HY3.out); (have z4 : wz.heap[B4]? = some (.cells #[.int .i64 ln, .int .i64 c] 27 (0, 0)) := (hbz.block _ (Nat.lt_of_lt_of_le hlt5 HGY.out.size)).trans HY4.out); (have t1 : wz.cell? ⟨B3, 1, none⟩ = some sv := (row_cell' (j := 1) z3 rfl).1); (have tf1 : wz.frozen? ⟨B3, 1, none⟩ = false := (row_cell' (j := 1) z3 rfl).2); (obtain ⟨t2, _⟩ := row_cell' (j := 0) z4 rfl); (obtain ⟨t3, _⟩ := row_cell' (j := 1) z4 rfl); have HBZ := Lib.hid hbz; have hzz := hbz.size; have hyz := HGY.out.size; (have lz3 : B3 < wz.heap.size := by omega); (have lz4 : B4 < wz.heap.size := by omega); (have hoz : World.ownsRow wz (B3 + 1) 38 3 sv d.length (d.flatMap (wdC ln)) := ownsRow_of HOWN5.out (fun x hx _ hxl => (hbz.block x (Nat.lt_of_lt_of_le hxl hyz)).trans (HGY.out.block x hxl (fun e => by have := HVB.out x hx; cases e; omega)))); clear z3 z4 hbz)
          | ((refine step_append_lies _ (by rfl) (.tmp 30) (.tmp 38) 34 (by rfl) (B3 + 1) 38 i0 (.agg #[.string ⟨#[]⟩, .int .i64 0, .int .i64 0]) 3 32 Try.underlying34 hi0 hy0 hy1 hy2 rfl (by decide) _ _ _ (by rfl) (World.ownsRow.alloc hoz _) ⟨wz.heap.size, 0, none⟩ 1 1 [.string ⟨tx.toArray⟩, .int .i64 ln, .int .i64 c] (by rfl) rfl (World.news_of_block (heap_alloc_new wz _)) (fun x hx => by simp at hx; rcases hx with rfl | rfl | rfl <;> rfl) (by omega) (by unfold maxLen; omega) (by omega) (by simp; omega) _ rfl ?_); intro g9 cap9 w9 hown9 hgr9 hor9 hlt9; (have v1 : w9.cell? ⟨B3, 1, none⟩ = some sv := World.grownBy.cell hgr9 (by first | exact (World.cell?_alloc_some _ _ _ _ t1) | simp [t1, World.cell?_alloc_some]) (fun h => by have := HVB.out _ h.symm; simp at this; omega)); (have v2 : w9.cell? ⟨B4, 0, none⟩ = some (.int .i64 ln) := World.grownBy.cell hgr9 (by first | exact (World.cell?_alloc_some _ _ _ _ t2) | simp [t2, World.cell?_alloc_some]) (fun h => by have := HVB.out _ h.symm; simp at this)); (have v3 : w9.cell? ⟨B4, 1, none⟩ = some (.int .i64 c) := World.grownBy.cell hgr9 (by first | exact (World.cell?_alloc_some _ _ _ _ t3) | simp [t3, World.cell?_alloc_some]) (fun h => by have := HVB.out _ h.symm; simp at this)); (have v4 : w9.frozen? ⟨B3, 1, none⟩ = false := (World.grownBy.frozen_far hgr9 ⟨B3, 1, none⟩ (by simp; omega) (fun h => by have := HVB.out _ h.symm; simp at this; omega)).trans ((World.frozen?_alloc_past _ _ _ (by omega)).trans tf1))))
          all_goals
            go_wp2_with fail
            go_meet
            exact lnB_mk hBg hBW (by omega) hB5 HG5.out HL25.out hgW HGY.out HRY.out HY3.out HBZ.out (fun x hx => (HVB.out x hx).1) hgr9 hown9
        case rest =>
          obtain ⟨sv6, hr6, hL36, hL26, hown6, hG6⟩ := hcut
          have HR6 := Lib.hid hr6; have HL36 := Lib.hid hL36; have HL26 := Lib.hid hL26; have HOWN6 := Lib.hid hown6; have HG6 := Lib.hid hG6
          have hB6 : B3 < _ := (Array.getElem?_eq_some_iff.1 hL36).1
          clear hr6 hL36 hL26 hown6 hG6
          go_wp2_with (go_at_call 15; (refine (HSK.out _ HR6.out).mono ?_); rintro e w7 ⟨rfl, hr7, hg7⟩)
          have hs7 := hg7.size
          have hlr7 : (r1.drop m).length < r.length := by omega
          go_roundw
          case rel => exact ⟨d ++ [(tx, c)], r1.drop m, c + k + m, sv6, HT2, hr7, HSD, by omega, by omega, by omega, by simp; omega, (hg7.block _ hB6 (fun e => by cases e; omega)).trans HL36.out, (hg7.block _ (by omega) (fun e => by cases e; omega)).trans HL26.out, ownsRow_of HOWN6.out (fun x _ hx hxl => hg7.block x hxl (fun e => by cases e; omega)), gb_trans HG6.out hg7, by omega⟩
          case measure => rw [hr7.left, HR.out.left]; exact hlr7
end Go.Proofs.Ythkiojedkafdhaa
