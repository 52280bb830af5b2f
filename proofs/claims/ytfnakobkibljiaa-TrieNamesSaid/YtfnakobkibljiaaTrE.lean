/- Put of a first prefix into a new table. Under the conditions that it names. -/
import Derived.Test.YtfnakobkibljiaaTrD
import Derived.Deep.DeepCutAuto
import Derived.Deep.RegionWith
import Derived.Laws.Rows
namespace Go.Proofs.Ytfnakobkibljiaa
open Go.RowKit Go.Shelf
set_option maxRecDepth 100000 in
set_option maxHeartbeats 4000000 in
theorem put_first (t r B : Nat) (s : ByteArray) (w : World) (hB1 : B ≤ r) (hB2 : B ≤ t) (hrt : r ≠ t) (ht : w.heap[t]? = some (.cells #[.map (some r), .pointer none] 47 (0, 0))) (hr : w.heap[r]? = some (.map #[] 0)) :
    Calls Try.prog 10 #[.pointer (some ⟨t, 0, none⟩), .agg #[.int .u32 0, .int .i64 0], .string s] w fun e w' => e = .returned (.int .i64 0) ∧ ∃ g v : Nat, w'.heap[t]? = some (.cells #[.map (some r), .pointer (some ⟨g, 0, none⟩)] 47 (0, 0)) ∧ w'.heap[g]? = some (.cells #[.int .u32 0, .int .i64 0, .pointer (some ⟨v, 0, none⟩), .pointer none, .pointer none] 62 (0, 0)) ∧ w'.heap[v]? = some (.cells #[.string s] 9 (0, 0)) ∧
      w'.heap[r]? = some (.map #[{ key := .agg #[.int .u32 0, .int .i64 0], val := .pointer (some ⟨v, 0, none⟩), born := 0 }] 1) ∧ Below B w w' := by
  have htl : t < w.heap.size := (Array.getElem?_eq_some_iff.1 ht).1
  have hrl : r < w.heap.size := (Array.getElem?_eq_some_iff.1 hr).1
  obtain ⟨Z, hZ⟩ : ∃ Z, (w.alloc (.cells #[.int .u32 0, .int .i64 0] 28)).alloc (.cells #[.string s] 9) = Z := ⟨_, rfl⟩
  have hzs : Z.heap.size = w.heap.size + 2 := by rw [← hZ]; simp
  have hBZ : Below w.heap.size w Z := by rw [← hZ]; exact ((Below.refl _ _).alloc (Nat.le_refl _) _).alloc (by simp) _
  have hp : Z.heap[w.heap.size]? = some (.cells #[.int .u32 0, .int .i64 0] 28 (0, 0)) := by rw [← hZ]; exact (Below.heap_alloc _ _ _ (by simp)).trans (heap_alloc_new w _)
  have hv : Z.heap[w.heap.size + 1]? = some (.cells #[.string s] 9 (0, 0)) := by
    have := heap_alloc_new (w.alloc (.cells #[.int .u32 0, .int .i64 0] 28)) (.cells #[.string s] 9)
    rw [World.size_alloc, hZ] at this; exact this
  have hck : ck 0 0 = 0 := by decide
  have HCK := Lib.hid (fun w => check_is 0 0 w (by omega) (by omega))
  rw [hck] at HCK
  have HT := Lib.hid ((hBZ.block t htl).trans ht); have HR := Lib.hid ((hBZ.block r hrl).trans hr); have HP := Lib.hid hp; have HV := Lib.hid hv; have HBZ := Lib.hid hBZ; have HZS := Lib.hid hzs
  have HZ := Lib.hid hZ
  clear hp hv hBZ hzs hck ht hr hZ
  go_enter Try.func10, Try.ntmps10
  go_wp2_with fail
  rw [HZ.out]
  have hwB : B ≤ w.heap.size := by omega
  obtain ⟨n0, hn0⟩ : ∃ n0, w.heap.size = n0 := ⟨_, rfl⟩
  rw [hn0] at HP HV HZS htl hrl HBZ hwB ⊢
  clear hn0
  go_at_call 20
  (with_reducible refine (HCK.out _).mono ?_)
  rintro e w1 ⟨rfl, hb1⟩
  have hzs := HZS.out
  have hz1 := hb1.size
  have m0 := (hb1.block t (by omega)).trans HT.out
  have m1 := (hb1.block r (by omega)).trans HR.out
  have m2 := (hb1.block n0 (by omega)).trans HP.out
  have m3 := (hb1.block (n0 + 1) (by omega)).trans HV.out
  have c0 := (cell_of_row _ _ 0 _ _ (0, 0) m0).trans (rfl : _ = some (Value.map (some r)))
  have c1 := (cell_of_row _ _ 1 _ _ (0, 0) m0).trans (rfl : _ = some (Value.pointer none))
  have p0 := (cell_of_row _ _ 0 _ _ (0, 0) m2).trans (rfl : _ = some (Value.int .u32 0))
  have p1 := (cell_of_row _ _ 1 _ _ (0, 0) m2).trans (rfl : _ = some (Value.int .i64 0))
  have HM := Lib.hid (And.intro m0 (And.intro m1 (And.intro m2 m3))); have HB1 := Lib.hid hb1
  clear m0 m1 m2 m3 hb1
  have hme := map_some r
  go_wp2_with fail
  go_still_tail 5, (by kernel_rfl)
  change wpList _ _ _ _ _ w1.drew
  have hb12 : Below w1.heap.size w1 w1.drew := (Below.refl _ _).drew
  generalize w1.drew = w2 at hb12 ⊢
  obtain ⟨m0, m1, m2, m3⟩ := HM.out
  have hst := store_first (w := w2) ⟨n0 + 1, 0, none⟩ ((hb12.block r (by omega)).trans m1)
  obtain ⟨w3, hw3⟩ : ∃ w3, w2.putObj r (.map #[{ key := .agg #[.int .u32 0, .int .i64 0], val := .pointer (some ⟨n0 + 1, 0, none⟩), born := 0 }] 1) = w3 := ⟨_, rfl⟩
  rw [hw3] at hst
  have hz2 := hb12.size
  have hz3 : w3.heap.size = w2.heap.size := by rw [← hw3]; simp [World.putObj]
  have k1 : w3.heap[r]? = some (.map #[{ key := .agg #[.int .u32 0, .int .i64 0], val := .pointer (some ⟨n0 + 1, 0, none⟩), born := 0 }] 1) := by rw [← hw3]; simp only [World.putObj]; rw [Array.getElem?_setIfInBounds, if_pos rfl, if_pos (by omega)]
  have koth : ∀ b, b ≠ r → w3.heap[b]? = w2.heap[b]? := fun b hb => by rw [← hw3]; simp only [World.putObj]; rw [Array.getElem?_setIfInBounds]; rw [if_neg (fun e => hb e.symm)]
  have k0 := (koth t (fun e => hrt e.symm)).trans ((hb12.block t (by omega)).trans m0)
  have k2 := (koth n0 (by omega)).trans ((hb12.block n0 (by omega)).trans m2)
  have k3 := (koth (n0 + 1) (by omega)).trans ((hb12.block (n0 + 1) (by omega)).trans m3)
  have hB3 : Below B w3 w3 := Below.refl _ _
  have hb23 : Below B w2 w3 := by rw [← hw3]; exact (Below.refl B w2).grown (grownBy_putObj' w2 r _) (by omega) (fun k e => by cases e; exact hB1)
  have c0 := (cell_of_row _ _ 0 _ _ (0, 0) k0).trans (rfl : _ = some (Value.map (some r)))
  have c1 := (cell_of_row _ _ 1 _ _ (0, 0) k0).trans (rfl : _ = some (Value.pointer none))
  have f1 := frozen_of_row _ _ 1 _ _ k0
  have p0 := (cell_of_row _ _ 0 _ _ (0, 0) k2).trans (rfl : _ = some (Value.int .u32 0))
  have p1 := (cell_of_row _ _ 1 _ _ (0, 0) k2).trans (rfl : _ = some (Value.int .i64 0))
  have HK := Lib.hid (And.intro k0 (And.intro k1 (And.intro k2 k3))); have HB23 := Lib.hid hb23; have HB12 := Lib.hid hb12
  clear k0 k1 k2 k3 hb23 hb12 koth hw3 m0 m1 m2 m3 hB3
  go_wp2_with fail
  have HZ3 := Lib.hid hz3
  have hz23 : w2.heap.size ≤ w3.heap.size := by omega
  clear hz3
  have HWN := Lib.hid (fun w => with_nil 0 0 ⟨n0 + 1, 0, none⟩ w)
  clear hst
  go_cut [35] (fun s35 wx => ∃ g : Nat, s35 = .pointer (some ⟨g, 0, none⟩) ∧ wx.heap[t]? = some (.cells #[.map (some r), .pointer (some ⟨g, 0, none⟩)] 47 (0, 0)) ∧ wx.heap[g]? = some (.cells #[.int .u32 0, .int .i64 0, .pointer (some ⟨n0 + 1, 0, none⟩), .pointer none, .pointer none] 62 (0, 0)) ∧ wx.heap[n0 + 1]? = some (.cells #[.string s] 9 (0, 0)) ∧ wx.heap[r]? = some (.map #[{ key := .agg #[.int .u32 0, .int .i64 0], val := .pointer (some ⟨n0 + 1, 0, none⟩), born := 0 }] 1) ∧ Below B w wx)
  case first =>
    go_region_with (go_at_call 21; (with_reducible refine (HWN.out _).mono ?_); rintro e w5 ⟨rfl, hg, hgl, hb45⟩; (have hb35 : Below w3.heap.size w3 w5 := Below.step ((Below.refl _ _).drew) hb45); (have e0 := (hb35.block t (by omega)).trans HK.out.1); (have zc1 := (cell_of_row _ _ 1 _ _ (0, 0) e0).trans (rfl : _ = some (Value.pointer none))); (have zf1 := frozen_of_row _ _ 1 _ _ e0); (have HE0 := Lib.hid e0); (have HB35 := Lib.hid hb35); (have HGG := Lib.hid hg); clear e0 hb35 hb45 hg)
    all_goals
      go_wp2_with fail
      go_meet
      refine ⟨w3.heap.size + 1, rfl, heap_setCell_same w5 t 1 _ _ _ HE0.out, ?_, ?_, ?_, ?_⟩
      · exact (Below.heap_setCell w5 ⟨t, 1, none⟩ _ _ (by show w3.heap.size + 1 ≠ t; omega)).trans HGG.out
      · exact (Below.heap_setCell w5 ⟨t, 1, none⟩ _ _ (by show n0 + 1 ≠ t; omega)).trans ((HB35.out.block (n0 + 1) (by omega)).trans HK.out.2.2.2)
      · exact (Below.heap_setCell w5 ⟨t, 1, none⟩ _ _ (by show r ≠ t; omega)).trans ((HB35.out.block r (by omega)).trans HK.out.2.1)
      · exact (((((HBZ.out.mono (by omega)).trans (HB1.out.mono (by omega))).trans (HB12.out.mono (by omega))).trans HB23.out).trans (HB35.out.mono (by omega))).setCell (p := ⟨t, 1, none⟩) hB2 _
  case rest =>
    obtain ⟨g, rfl, h0, h1, h2, h3, h4⟩ := hcut
    have HH := Lib.hid (And.intro h0 (And.intro h1 (And.intro h2 (And.intro h3 h4))))
    clear h0 h1 h2 h3 h4
    go_wp2_with fail
    go_ret
    exact ⟨rfl, g, n0 + 1, HH.out.1, HH.out.2.1, HH.out.2.2.1, HH.out.2.2.2.1, HH.out.2.2.2.2⟩
end Go.Proofs.Ytfnakobkibljiaa
