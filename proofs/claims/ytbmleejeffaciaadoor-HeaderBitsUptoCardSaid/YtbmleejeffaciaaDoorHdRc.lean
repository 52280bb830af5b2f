/- What Of of package waymarkref03 hands back: the header of thirteen bytes. Under the condition that they are bytes. -/
import Derived.Test.YtbmleejeffaciaaDoorHdRb
import Derived.Test.YtbmleejeffaciaaDoorHdBkM
namespace Go.Proofs.YtbmleejeffaciaaDoor
open Go.RowKit
set_option maxRecDepth 100000 in
set_option maxHeartbeats 4000000 in
theorem ofR_is (l : List Int) (w : World) (h : B13 l) :
    Calls Tryd.prog 25 #[.agg (l.map u8V).toArray] w fun e w' => e = .returned (ofL l) ∧ Below w.heap.size w w' := by
  obtain ⟨m, hm⟩ : ∃ m, l.map u8V = m := ⟨_, rfl⟩
  have lm : m.length = 13 := by rw [← hm, List.length_map]; exact h.len
  obtain ⟨f0, f1, f2, f3, f4, hf⟩ := ofL_form l
  have hfin := hdrN_V h
  rw [hf] at hfin
  rw [hm, hf]
  obtain ⟨N, hN⟩ : ∃ N, V l = N := ⟨_, rfl⟩
  have HTB : Hid (∀ c, c < 104 → tb l c = bt N c) := Lib.hid fun c hc => by rw [← hN]; exact tb_V h hc
  rw [hN] at hfin
  have HF := Lib.hid hfin; have H13 := Lib.hid h; have HM := Lib.hid hm
  obtain ⟨Z, hZ⟩ : ∃ Z, (w.alloc (.cells m.toArray 39)).alloc (.cells #[.int .u32 0, .int .u32 0, .int .u8 0, .int .u16 0, .int .u16 0] 27) = Z := ⟨_, rfl⟩
  have hb0 : Below w.heap.size w Z := by rw [← hZ]; exact ((Below.refl _ _).alloc (Nat.le_refl _) _).alloc (by simp) _
  have hRW : Z.heap[w.heap.size]? = some (.cells m.toArray 39 (0, 0)) := by rw [← hZ]; exact heap_alloc2_old w _ _
  have hRZ : Z.heap[w.heap.size + 1]? = some (.cells #[.int .u32 0, .int .u32 0, .int .u8 0, .int .u16 0, .int .u16 0] 27 (0, 0)) := by rw [← hZ]; exact heap_alloc2_new w _ _
  have hz1 : w.heap.size + 1 < Z.heap.size := (Array.getElem?_eq_some_iff.1 hRZ).1
  have hz0 : w.heap.size < Z.heap.size := by omega
  have HB0 := Lib.hid hb0; have HRZ := Lib.hid hRZ; have HRW := Lib.hid hRW
  obtain ⟨i0, hi0, hq0, hq1, hq2⟩ := info_parts infoT
  clear hb0 hRZ hRW hfin hf hN hm h
  go_enter Tryd.func25, Tryd.ntmps25
  go_wp2_with fail
  try rw [hZ]
  clear hZ
  go_loopw [3, 4] (fun s3 s4 wr => ∃ c : Nat, c ≤ 104 ∧ s4 = .int .i64 c ∧ wr.ownsRow Z.heap.size 4 1 s3 c (((bl N).take c).map .bool) ∧ Below Z.heap.size Z wr) (fun _ s4 _ => 104 - (intOf s4).toNat)
  case atStart => exact ⟨0, by omega, rfl, World.ownsRow_nil _ _ _ _, Below.refl _ _⟩
  case round =>
    obtain ⟨c, hc, rfl, hown, hbw⟩ := hrel
    have hc0 : (0 : Int) ≤ (c : Int) := by omega
    by_cases hlt : c < 104
    · have hle := hbw.size
      have hr := (hbw.block _ hz0).trans HRW.out
      obtain ⟨q, hq⟩ : ∃ q, c / 8 = q := ⟨_, rfl⟩
      obtain ⟨j, hj⟩ : ∃ j, c % 8 = j := ⟨_, rfl⟩
      have hq13 : q < 13 := by omega
      have hj8 : j < 8 := by omega
      have hqd : (c : Int).tdiv 8 = (q : Int) := by rw [Int.tdiv_eq_ediv_of_nonneg hc0]; omega
      have hqm : (c : Int).tmod 8 = (j : Int) := by rw [Int.tmod_eq_emod_of_nonneg hc0]; omega
      obtain ⟨v, hv⟩ : ∃ v, l.getD q 0 = v := ⟨_, rfl⟩
      have v0 : 0 ≤ v := by rw [← hv]; exact H13.out.at_lo hq13
      have v1 : v < 256 := by rw [← hv]; exact H13.out.at_hi hq13
      have g0 : m[q]? = some (.int .u8 v) := by
        rw [← HM.out, List.getElem?_map, ← hv, List.getD_eq_getElem?_getD, List.getElem?_eq_getElem (by rw [H13.out.len]; exact hq13)]; rfl
      obtain ⟨y, hy⟩ : ∃ y, bt N c = y := ⟨_, rfl⟩
      have hbit := shr_bit v c j y v0 v1 hj (by rw [← hy, ← HTB.out c hlt]; unfold tb; rw [hq, hv])
      obtain ⟨hr1, hr2⟩ := row_cell' (j := q) hr (by simpa using g0)
      have HY := Lib.hid hy
      have hc4 : (c : Int) < 104 := by omega
      have q0 : (0 : Int) ≤ (q : Int) := by omega
      have q1 : (q : Int) < 13 := by omega
      have j0 : (0 : Int) ≤ (j : Int) := by omega
      have j1 : (j : Int) < 8 := by omega
      clear hr hq hv hy
      go_wp2_with (at_builtin; refine wpList_append_own _ rfl _ _ 56 rfl Z.heap.size 4 i0 (.bool false) 1 1 Tryd.underlying56 hi0 hq0 hq1 hq2 rfl (by decide) _ _ _ rfl (hown.alloc _) ⟨wr.heap.size, 0, none⟩ 1 1 [.bool y] rfl rfl (cell_one_new _ _ _) (fun x hx => by simp at hx; rcases hx with rfl; rfl) (by unfold maxLen; omega) (by omega) (by simp; omega) ?_; intro v' w3 hown' hgrow3 hnil3)
      have hbw3 : Below Z.heap.size Z w3 := Below.grown (hbw.alloc hle _) hgrow3 (by simp; omega) (fun j hj => (hown.lt _ hj).1)
      go_roundw
      case rel => first | exact ⟨c + 1, by omega, by go_num, bits_more (n := c) (by omega) HY.out hown', hbw3⟩ | ((repeat apply Exists.intro); refine ⟨?_, rfl⟩; exact ⟨c + 1, by omega, by go_num, bits_more (n := c) (by omega) HY.out hown', hbw3⟩)
      case measure => first | (simp [intOf]; done) | (simp [intOf]; omega)
    · obtain rfl : c = 104 := by omega
      have hfull : (bl N).take 104 = bl N := List.take_of_length_le (by rw [bl_len]; omega)
      rw [hfull] at hown
      obtain ⟨g, cap, rfl, hg, hB⟩ := bools_of hown
      clear hlt hfull hown
      go_wp2_with fail
      go_at_call 31
      refine (ofbits_is N g cap _ hB.lt (fun j hj => (hB.cell (bl_at N j hj)).1)).mono ?_
      rw [HF.out]
      rintro e w3 ⟨rfl, hb3⟩
      have hb03 := Below.step hbw hb3
      have hR3 := (hb03.block _ hz1).trans HRZ.out
      have HR3 := Lib.hid hR3
      obtain ⟨r0, rf0⟩ := row_cell' (j := 0) hR3 rfl
      obtain ⟨r1, rf1⟩ := row_cell' (j := 1) hR3 rfl
      obtain ⟨r2, rf2⟩ := row_cell' (j := 2) hR3 rfl
      obtain ⟨r3, rf3⟩ := row_cell' (j := 3) hR3 rfl
      obtain ⟨r4, rf4⟩ := row_cell' (j := 4) hR3 rfl
      clear hR3
      go_wp2_with fail
      have hfin := set5 (m0 := f0) (m1 := f1) (m2 := f2) (m3 := f3) (m4 := f4) HR3.out
      have hbf : Below w.heap.size w (((((w3.setCell ⟨w.heap.size + 1, 0, none⟩ (.int .u32 f0)).setCell ⟨w.heap.size + 1, 1, none⟩ (.int .u32 f1)).setCell ⟨w.heap.size + 1, 2, none⟩ (.int .u8 f2)).setCell ⟨w.heap.size + 1, 3, none⟩ (.int .u16 f3)).setCell ⟨w.heap.size + 1, 4, none⟩ (.int .u16 f4)) := by
        repeat refine Below.setCell ?_ (by simp) _
        exact Below.step HB0.out hb03
      obtain ⟨W9, hW9⟩ : ∃ W9, (((((w3.setCell ⟨w.heap.size + 1, 0, none⟩ (.int .u32 f0)).setCell ⟨w.heap.size + 1, 1, none⟩ (.int .u32 f1)).setCell ⟨w.heap.size + 1, 2, none⟩ (.int .u8 f2)).setCell ⟨w.heap.size + 1, 3, none⟩ (.int .u16 f3)).setCell ⟨w.heap.size + 1, 4, none⟩ (.int .u16 f4)) = W9 := ⟨_, rfl⟩
      rw [hW9] at hfin hbf ⊢
      clear hW9
      obtain ⟨e0, ef0⟩ := row_cell' (j := 0) hfin rfl
      obtain ⟨e1, ef1⟩ := row_cell' (j := 1) hfin rfl
      obtain ⟨e2, ef2⟩ := row_cell' (j := 2) hfin rfl
      obtain ⟨e3, ef3⟩ := row_cell' (j := 3) hfin rfl
      obtain ⟨e4, ef4⟩ := row_cell' (j := 4) hfin rfl
      exact bodyPost_ret (v := .agg #[.int .u32 f0, .int .u32 f1, .int .u8 f2, .int .u16 f3, .int .u16 f4]) (by simp [results, Tryd.results25, go_sem, e0, e1, e2, e3, e4]) rfl ⟨rfl, hbf⟩
end Go.Proofs.YtbmleejeffaciaaDoor
