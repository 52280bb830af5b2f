/- TrieNames answers true. No condition. -/
import Derived.Test.YtfnakobkibljiaaTrI
namespace Go.Proofs.Ytfnakobkibljiaa
open Go.RowKit Go.Shelf
attribute [local go_sem] Oper.semAt_some
/-- A block below B stays what it is. -/
theorem own_obj {β : Type} {B : Nat} {o : Obj} (D : Nat) (hD : D < B) : OwnFrom B (fun (_ : β) W => W.heap[D]? = some o) :=
  fun _ W W' row hs hg hr => (hg.block D (Array.getElem?_eq_some_iff.1 hs).1 (fun e => by have := (hr D e.symm).1; omega)).trans hs
set_option maxRecDepth 100000 in
set_option maxHeartbeats 8000000 in
theorem trieNames_is (w : World) : Calls Try.prog 3 #[] w fun e w' => e = .returned (.bool true) ∧ Below w.heap.size w w' := by
  refine (callsIn_wide (n := 8)).1 ?_
  refine callsIn_of_wp_marks Try.func3 rfl trivial ?_ rfl
  simp only [Try.ntmps3, List.size_toArray, List.length_cons, List.length_nil, Nat.reduceAdd, Nat.reduceSub, Array.replicate_succ, Array.replicate_zero, List.push_toArray, List.append_toArray, List.nil_append, List.cons_append]
  gi_wp2_with fail
  refine ⟨trivial, ?_⟩
  obtain ⟨Z, hZ⟩ : ∃ Z, w.alloc (.cells #[.bool false] 4) = Z := ⟨_, rfl⟩
  have hBZ : Below w.heap.size w Z := by rw [← hZ]; exact (Below.refl _ _).alloc (Nat.le_refl _) _
  have hq : Z.heap[w.heap.size]? = some (.cells #[.bool false] 4 (0, 0)) := by rw [← hZ]; exact heap_alloc_new w _
  rw [hZ]
  clear hZ
  have hzl := (Array.getElem?_eq_some_iff.1 hq).1
  have hc0 := (cell_of_row _ _ 0 _ _ (0, 0) hq).trans (rfl : _ = some (Value.bool false))
  have hf0 := frozen_of_row _ _ 0 _ _ hq
  clear hq
  refine (callsIn_wide.2 (at_nil 0 0 Z)).mono ?_
  rintro e w1 ⟨rfl, hb1⟩
  gi_wp2_with fail
  refine ⟨trivial, ?_⟩
  refine (callsIn_wide.2 (longest_nil 0 w1)).mono ?_
  rintro e w2 ⟨rfl, hb2⟩
  gi_wp2_with fail
  refine ⟨trivial, ?_⟩
  obtain ⟨W2, hW2⟩ : ∃ W2, w2.alloc (.cells #[.int .u32 0, .int .i64 0] 28) = W2 := ⟨_, rfl⟩
  have hbz : Below Z.heap.size Z W2 := by rw [← hW2]; exact (Below.step hb1 hb2).alloc (by have := hb1.size; have := hb2.size; omega) _
  rw [hW2]
  clear hW2
  have hc0 := (hbz.cell (p := ⟨w.heap.size, 0, none⟩) hzl).trans hc0
  have hf0 := (hbz.frozen (p := ⟨w.heap.size, 0, none⟩) hzl).trans hf0
  have hBW : Below w.heap.size w W2 := hBZ.trans (hbz.mono hBZ.size)
  have hsl : w.heap.size < W2.heap.size := by have := hbz.size; omega
  clear hbz hb1 hb2 hBZ hzl
  refine (callsIn_wide.2 (seqAll_nil W2)).mono ?_
  rintro e wl ⟨b1, fn, cs, rfl, hbge, hblt, hn1, hl1, hbl⟩
  gi_wp2
  have hzl := hbl.size
  have hc1 := (hbl.cell (p := ⟨w.heap.size, 0, none⟩) (by show w.heap.size < _; omega)).trans hc0
  have hf1 := (hbl.frozen (p := ⟨w.heap.size, 0, none⟩) (by show w.heap.size < _; omega)).trans hf0
  have hBl : Below w.heap.size w wl := hBW.trans (hbl.mono (by omega))
  refine wpIn_rangeFunc_ownF rfl (by omega) (gf := 24) (lb := #[.pointer (some ⟨b1, 0, none⟩), .pointer (some ⟨b1 + 1, 0, none⟩)]) rfl trivial (enters_of Try.func24 (by kernel_rfl) rfl)
    (nil_stops (α := Empty) (fun x => nomatch x) _ b1 fn cs (Below w.heap.size) wl hblt hn1 hl1) belowK_t (belowK_b (by omega)) (Below.refl _ _) (fun x => nomatch x)
    (fun _ W => (W.cell? ⟨w.heap.size, 0, none⟩ = some (.bool false) ∧ W.frozen? ⟨w.heap.size, 0, none⟩ = false) ∧ Below w.heap.size w W)
    (fun _ _ _ => False)
    (OwnFrom.and (Own.from (fun s A B row hs hg hr => ⟨cell_kept hs.1 hg hr, (frozen_kept hs.1 hg hr).trans hs.2⟩) _) (ownFrom_below (Nat.le_refl _) (by omega)))
    (fun _ _ _ _ _ hs _ _ => hs)
    ⟨⟨hc1, hf1⟩, hBl⟩
    (fun x => nomatch x) ?assign1 ?body1 ?done1 ?stop1
  case assign1 =>
    intro l x
    exact nomatch x
  case body1 =>
    intro l pre x
    exact nomatch x
  case stop1 =>
    rintro D c pre W _ _ h _
    exact h.elim
  case done1 =>
    clear hc1 hf1 hBl hn1 hl1 hblt hbge
    rintro D1 ys W hDge rfl ⟨⟨hc0, hf0⟩, hBW⟩ hK1
    have hD1l : D1 < W.heap.size := (Array.getElem?_eq_some_iff.1 hK1).1
    have hDs1 : w.heap.size < D1 := by omega
    have hsl : w.heap.size < W.heap.size := by
      have := World.block_lt_of_cell? W _ hc0
      simpa using this
    gi_wp2_with fail
    refine ⟨trivial, ?_⟩
    refine (callsIn_wide.2 (seqOver_nil 0 W)).mono ?_
    rintro e wl ⟨b2, fn, cs, rfl, hbge, hblt, hn1, hl1, hbl⟩
    gi_wp2
    have hzl := hbl.size
    have hc1 := (hbl.cell (p := ⟨w.heap.size, 0, none⟩) (by show w.heap.size < _; omega)).trans hc0
    have hf1 := (hbl.frozen (p := ⟨w.heap.size, 0, none⟩) (by show w.heap.size < _; omega)).trans hf0
    have hBl : Below w.heap.size w wl := hBW.trans (hbl.mono (by omega))
    refine wpIn_rangeFunc_ownF rfl (by omega) (gf := 24) (lb := #[.pointer (some ⟨b2, 0, none⟩), .pointer (some ⟨b2 + 1, 0, none⟩)]) rfl trivial (enters_of Try.func24 (by kernel_rfl) rfl)
      (nil_stops (α := Empty) (fun x => nomatch x) _ b2 fn cs (Below w.heap.size) wl hblt hn1 hl1) belowK_t (belowK_b (by omega)) (Below.refl _ _) (fun x => nomatch x)
      (fun _ W => ((W.cell? ⟨w.heap.size, 0, none⟩ = some (.bool false) ∧ W.frozen? ⟨w.heap.size, 0, none⟩ = false) ∧ W.heap[D1]? = some (.deferred (some []))) ∧ Below w.heap.size w W)
      (fun _ _ _ => False)
      (OwnFrom.and (OwnFrom.and (Own.from (fun s A B row hs hg hr => ⟨cell_kept hs.1 hg hr, (frozen_kept hs.1 hg hr).trans hs.2⟩) _) (own_obj D1 (by omega))) (ownFrom_below (Nat.le_refl _) (by omega)))
      (fun _ _ _ _ _ hs _ _ => hs)
      ⟨⟨⟨hc1, hf1⟩, (hbl.block D1 hD1l).trans hK1⟩, hBl⟩
      (fun x => nomatch x) ?assign2 ?body2 ?done2 ?stop2
    case assign2 =>
      intro l x
      exact nomatch x
    case body2 =>
      intro l pre x
      exact nomatch x
    case stop2 =>
      rintro D c pre W _ _ h _
      exact h.elim
    case done2 =>
      clear hc1 hf1 hBl hn1 hl1 hblt hbge
      rintro D2 ys W hDge rfl ⟨⟨⟨hc0, hf0⟩, hK1⟩, hBW⟩ hK2
      have hlt12 : D1 < D2 := by omega
      have hD1l : D1 < W.heap.size := (Array.getElem?_eq_some_iff.1 hK1).1
      have hD2l : D2 < W.heap.size := (Array.getElem?_eq_some_iff.1 hK2).1
      have hDs2 : w.heap.size < D2 := by omega
      have hsl : w.heap.size < W.heap.size := by
        have := World.block_lt_of_cell? W _ hc0
        simpa using this
      gi_wp2_with fail
      refine ⟨trivial, ?_⟩
      refine (callsIn_wide.2 (seqWithin_nil 0 0 W)).mono ?_
      rintro e wl ⟨b3, fn, cs, rfl, hbge, hblt, hn1, hl1, hbl⟩
      gi_wp2
      have hzl := hbl.size
      have hc1 := (hbl.cell (p := ⟨w.heap.size, 0, none⟩) (by show w.heap.size < _; omega)).trans hc0
      have hf1 := (hbl.frozen (p := ⟨w.heap.size, 0, none⟩) (by show w.heap.size < _; omega)).trans hf0
      have hBl : Below w.heap.size w wl := hBW.trans (hbl.mono (by omega))
      refine wpIn_rangeFunc_ownF rfl (by omega) (gf := 24) (lb := #[.pointer (some ⟨b3, 0, none⟩), .pointer (some ⟨b3 + 1, 0, none⟩)]) rfl trivial (enters_of Try.func24 (by kernel_rfl) rfl)
        (nil_stops (α := Empty) (fun x => nomatch x) _ b3 fn cs (Below w.heap.size) wl hblt hn1 hl1) belowK_t (belowK_b (by omega)) (Below.refl _ _) (fun x => nomatch x)
        (fun _ W => (((W.cell? ⟨w.heap.size, 0, none⟩ = some (.bool false) ∧ W.frozen? ⟨w.heap.size, 0, none⟩ = false) ∧ W.heap[D1]? = some (.deferred (some []))) ∧ W.heap[D2]? = some (.deferred (some []))) ∧ Below w.heap.size w W)
        (fun _ _ _ => False)
        (OwnFrom.and (OwnFrom.and (OwnFrom.and (Own.from (fun s A B row hs hg hr => ⟨cell_kept hs.1 hg hr, (frozen_kept hs.1 hg hr).trans hs.2⟩) _) (own_obj D1 (by omega))) (own_obj D2 (by omega))) (ownFrom_below (Nat.le_refl _) (by omega)))
        (fun _ _ _ _ _ hs _ _ => hs)
        ⟨⟨⟨⟨hc1, hf1⟩, (hbl.block D1 hD1l).trans hK1⟩, (hbl.block D2 hD2l).trans hK2⟩, hBl⟩
        (fun x => nomatch x) ?assign3 ?body3 ?done3 ?stop3
      case assign3 =>
        intro l x
        exact nomatch x
      case body3 =>
        intro l pre x
        exact nomatch x
      case stop3 =>
        rintro D c pre W _ _ h _
        exact h.elim
      case done3 =>
        clear hc1 hf1 hBl hn1 hl1 hblt hbge
        rintro D3 ys W hDge rfl ⟨⟨⟨⟨hc0, hf0⟩, hK1⟩, hK2⟩, hBW⟩ hK3
        have hlt13 : D1 < D3 := by omega
        have hlt23 : D2 < D3 := by omega
        have hD1l : D1 < W.heap.size := (Array.getElem?_eq_some_iff.1 hK1).1
        have hD2l : D2 < W.heap.size := (Array.getElem?_eq_some_iff.1 hK2).1
        have hD3l : D3 < W.heap.size := (Array.getElem?_eq_some_iff.1 hK3).1
        have hDs3 : w.heap.size < D3 := by omega
        have hsl : w.heap.size < W.heap.size := by
          have := World.block_lt_of_cell? W _ hc0
          simpa using this
        gi_wp2_with fail
        refine ⟨trivial, ?_⟩
        refine (callsIn_wide.2 (new_is W)).mono ?_
        rintro e w4 ⟨rfl, hm4, ht4, hl4, hb4⟩
        have HPF := Lib.hid (put_first (W.heap.size + 1) W.heap.size W.heap.size ⟨#[97, 108, 108]⟩ w4 (Nat.le_refl _) (by omega) (by omega) ht4 hm4)
        have HB4 := Lib.hid hb4
        clear hm4 ht4 hb4
        gi_wp2_with fail
        refine ⟨trivial, ?_⟩
        refine (callsIn_wide.2 HPF.out).mono ?_
        rintro e w5 ⟨rfl, g, v, pt, pg, pv, pm, hb5⟩
        have HLF := Lib.hid (longest_first (W.heap.size + 1) g v _ _ w5 pt pg pv)
        have HPT := Lib.hid pt; have HPM := Lib.hid pm
        have HB5 := Lib.hid (HB4.out.trans hb5)
        clear pt pg pv pm hb5 HPF
        gi_wp2_with fail
        refine ⟨trivial, ?_⟩
        refine (callsIn_wide.2 HLF.out).mono ?_
        rintro e w6 ⟨rfl, hb6⟩
        have HB6 := Lib.hid hb6
        clear hb6 HLF
        gi_wp2_with fail
        refine ⟨trivial, ?_⟩
        obtain ⟨W6, hW6⟩ : ∃ W6, w6.alloc (.cells #[.int .u32 0, .int .i64 0] 28) = W6 := ⟨_, rfl⟩
        have hb56 : Below w5.heap.size w5 W6 := by rw [← hW6]; exact HB6.out.alloc (by have := HB6.out.size; omega) _
        rw [hW6]
        clear hW6
        have HB56 := Lib.hid hb56
        have ht6 := (hb56.block (W.heap.size + 1) (Array.getElem?_eq_some_iff.1 HPT.out).1).trans HPT.out
        have hr6 := (hb56.block W.heap.size (Array.getElem?_eq_some_iff.1 HPM.out).1).trans HPM.out
        have HT6 := Lib.hid ht6; have HR6 := Lib.hid hr6
        clear hb56 ht6 hr6
        refine (callsIn_wide.2 (len_nil W6)).mono ?_
        rintro e w7 ⟨rfl, rfl⟩
        gi_wp2_with fail
        refine ⟨trivial, ?_⟩
        refine (callsIn_wide.2 (copy_nil W6)).mono ?_
        rintro e w7 ⟨rfl, rfl⟩
        gi_wp2_with fail
        refine ⟨trivial, ?_⟩
        refine (callsIn_wide.2 (put_nil 0 0 ⟨#[]⟩ W6)).mono ?_
        rintro e w7 ⟨rfl, hb7⟩
        gi_wp2_with fail
        refine ⟨trivial, ?_⟩
        refine (callsIn_wide.2 (drop_nil 0 0 w7)).mono ?_
        rintro e w8 ⟨rfl, hb8⟩
        gi_wp2_with fail
        refine ⟨trivial, ?_⟩
        refine (callsIn_wide.2 (put_bad ⟨W.heap.size + 1, 0, none⟩ 0 33 1 ⟨#[]⟩ w8 (by omega) (by omega) (by decide) (by omega))).mono ?_
        rintro e w9 ⟨rfl, hb9⟩
        gi_wp2_with fail
        refine ⟨trivial, ?_⟩
        refine (callsIn_wide.2 (put_bad ⟨W.heap.size + 1, 0, none⟩ 1 0 10 ⟨#[]⟩ w9 (by omega) (by omega) (by decide) (by omega))).mono ?_
        rintro e w10 ⟨rfl, hb10⟩
        have hb610 : Below W6.heap.size W6 w10 := Below.step (Below.step (Below.step hb7 hb8) hb9) hb10
        have HDN := Lib.hid (drop_none (W.heap.size + 1) W.heap.size _ _ w10 ((hb610.block (W.heap.size + 1) (Array.getElem?_eq_some_iff.1 HT6.out).1).trans HT6.out) ((hb610.block W.heap.size (Array.getElem?_eq_some_iff.1 HR6.out).1).trans HR6.out))
        have HB610 := Lib.hid hb610
        clear hb7 hb8 hb9 hb10 hb610
        gi_wp2_with fail
        refine ⟨trivial, ?_⟩
        refine (callsIn_wide.2 HDN.out).mono ?_
        rintro e w11 ⟨rfl, hb11⟩
        have hz5 := HB5.out.size
        have hz6 := HB56.out.size
        have hall : Below W.heap.size W w11 := (HB5.out.trans (HB56.out.mono hz5)).trans ((Below.step HB610.out hb11).mono (by omega))
        have hc9 := (hall.cell (p := ⟨w.heap.size, 0, none⟩) hsl).trans hc0
        have hf9 := (hall.frozen (p := ⟨w.heap.size, 0, none⟩) hsl).trans hf0
        have k1 := (hall.block D1 hD1l).trans hK1
        have k2 := (hall.block D2 hD2l).trans hK2
        have k3 := (hall.block D3 hD3l).trans hK3
        have HALL := Lib.hid hall
        clear hc0 hf0 hall hb11
        gi_wp2_with fail
        obtain ⟨WE, hWE⟩ : ∃ WE, w11.setCell ⟨w.heap.size, 0, none⟩ (.bool true) = WE := ⟨_, rfl⟩
        have hce : WE.cell? ⟨w.heap.size, 0, none⟩ = some (.bool true) := by rw [← hWE]; exact World.cell?_setCell_same' _ _ _ (by rw [hc9]; rfl)
        have e1 : WE.heap[D1]? = some (.deferred (some [])) := by rw [← hWE]; exact (Below.heap_setCell w11 ⟨w.heap.size, 0, none⟩ _ D1 (by show D1 ≠ w.heap.size; omega)).trans k1
        have e2 : WE.heap[D2]? = some (.deferred (some [])) := by rw [← hWE]; exact (Below.heap_setCell w11 ⟨w.heap.size, 0, none⟩ _ D2 (by show D2 ≠ w.heap.size; omega)).trans k2
        have e3 : WE.heap[D3]? = some (.deferred (some [])) := by rw [← hWE]; exact (Below.heap_setCell w11 ⟨w.heap.size, 0, none⟩ _ D3 (by show D3 ≠ w.heap.size; omega)).trans k3
        have hBE : Below w.heap.size w WE := by rw [← hWE]; exact (hBW.trans (HALL.out.mono hBW.size)).setCell (p := ⟨w.heap.size, 0, none⟩) (Nat.le_refl _) _
        try rw [hWE]
        clear hWE k1 k2 k3 hc9 hf9
        obtain ⟨V3, hV3⟩ : ∃ V, WE.putObj D3 (.deferred none) = V := ⟨_, rfl⟩
        have g3 : WE.grownBy V3 (some D3) := by rw [← hV3]; exact grownBy_putObj' WE D3 _
        have u2 : V3.heap[D2]? = some (.deferred (some [])) := (g3.block D2 (Array.getElem?_eq_some_iff.1 e2).1 (by intro e; cases e; omega)).trans e2
        have u1 : V3.heap[D1]? = some (.deferred (some [])) := (g3.block D1 (Array.getElem?_eq_some_iff.1 e1).1 (by intro e; cases e; omega)).trans e1
        have uc := cell_kept hce g3 (fun r e => by cases e; exact ⟨_, e3, rfl⟩)
        have uB : Below w.heap.size w V3 := by rw [← hV3]; exact hBE.trans (belowK_b (w := w) (Nat.le_refl _) _ D3 _ _ (by omega) e3 rfl rfl)
        obtain ⟨V2, hV2⟩ : ∃ V, V3.putObj D2 (.deferred none) = V := ⟨_, rfl⟩
        have g2 : V3.grownBy V2 (some D2) := by rw [← hV2]; exact grownBy_putObj' V3 D2 _
        have x1 : V2.heap[D1]? = some (.deferred (some [])) := (g2.block D1 (Array.getElem?_eq_some_iff.1 u1).1 (by intro e; cases e; omega)).trans u1
        have xc := cell_kept uc g2 (fun r e => by cases e; exact ⟨_, u2, rfl⟩)
        have xB : Below w.heap.size w V2 := by rw [← hV2]; exact uB.trans (belowK_b (w := w) (Nat.le_refl _) _ D2 _ _ (by omega) u2 rfl rfl)
        have yc := cell_kept xc (grownBy_putObj' V2 D1 (.deferred none)) (fun r e => by cases e; exact ⟨_, x1, rfl⟩)
        refine ⟨by simp, .inl ⟨_, V3, rfl, hV3 ▸ run_takeDeferred e3, ?_⟩⟩
        refine ⟨by simp, .inl ⟨_, V2, rfl, hV2 ▸ run_takeDeferred u2, ?_⟩⟩
        refine ⟨by simp, .inl ⟨_, _, rfl, run_takeDeferred x1, ?_⟩⟩
        refine ⟨.bool true, ?_, rfl, xB.trans (belowK_b (w := w) (Nat.le_refl _) _ D1 _ _ (by omega) x1 rfl rfl)⟩
        simp [results, Try.f3, go_sem, yc]
end Go.Proofs.Ytfnakobkibljiaa
