/- What With of package header hands back. Under the conditions that it names. -/
import Derived.Test.YtbmleejeffaciaaDoorHdW0
import Derived.Deep.RegionWith
import Derived.IntWalk
import Derived.Outline
namespace Go.Proofs.YtbmleejeffaciaaDoor
open Go.RowKit
set_option maxRecDepth 100000 in
set_option maxHeartbeats 4000000 in
theorem with_is (s d p sp dp : Int) (i : Nat) (b : Bool) (hi : i < 104) (w : World) (h : Hdr s d p sp dp) :
    Calls Tryd.prog 8 #[.agg #[.int .u32 s, .int .u32 d, .int .u8 p, .int .u16 sp, .int .u16 dp], .int .i64 i, .bool b] w fun e w' => e = .returned (.tuple #[ofL (wb (byL s d p sp dp) i b), .int .i64 0]) ∧ Below w.heap.size w w' := by
  have HB : Hid (∀ W, Calls Tryd.prog 22 #[.agg #[.int .u32 s, .int .u32 d, .int .u8 p, .int .u16 sp, .int .u16 dp]] W fun e w' => e = .returned (.agg ((byL s d p sp dp).map u8V).toArray) ∧ Below W.heap.size W w') := Lib.hid fun W => bytes_l s d p sp dp W h
  obtain ⟨l, hl⟩ : ∃ l, byL s d p sp dp = l := ⟨_, rfl⟩
  have h13 := byL_13 h
  rw [hl] at HB h13
  rw [hl]
  obtain ⟨q, hq⟩ : ∃ q, i / 8 = q := ⟨_, rfl⟩
  have hq13 : q < 13 := by omega
  have hqi : (i : Int) / 8 = (q : Int) := by omega
  have h0 : (0 : Int) ≤ (i : Int) := by omega
  have h1 : (i : Int) < 104 := by omega
  obtain ⟨y, hy⟩ : ∃ y, l.getD q 0 = y := ⟨_, rfl⟩
  have y0 : 0 ≤ y := by rw [← hy]; exact h13.at_lo hq13
  have y1 : y < 256 := by rw [← hy]; exact h13.at_hi hq13
  have HAL : Hid (∀ W, Calls Tryd.prog 26 #[.int .i64 i] W fun e w' => e = .returned (.int .u8 (pm i)) ∧ W = w') := Lib.hid fun W => alone_is i hi W
  have E1 := andNot_bit y i y0 y1
  have E2 := or_bit y i y0 y1
  have HL := Lib.hid h13.len
  obtain ⟨y2, hy2⟩ : ∃ y2, stb y i false = y2 := ⟨_, rfl⟩
  obtain ⟨y3, hy3⟩ : ∃ y3, stb y i true = y3 := ⟨_, rfl⟩
  rw [hy2] at E1 E2
  rw [hy3] at E2
  obtain ⟨m0, hm0⟩ : ∃ m, l.map u8V = m := ⟨_, rfl⟩
  obtain ⟨m1, hm1⟩ : ∃ m, m0.set q (.int .u8 y2) = m := ⟨_, rfl⟩
  obtain ⟨m2, hm2⟩ : ∃ m, m1.set q (.int .u8 y3) = m := ⟨_, rfl⟩
  have e1 : m1 = (l.set q y2).map u8V := by rw [← hm1, ← hm0]; exact set13 l q y2
  have e2 : m2 = (l.set q y3).map u8V := by rw [← hm2, e1, set13, List.set_set]
  have HOF1 : Hid (∀ W, Calls Tryd.prog 24 #[.agg m1.toArray] W fun e w' => e = .returned (ofL (wb l i false)) ∧ Below W.heap.size W w') := Lib.hid fun W => by
    have := of_l (wb l i false) W (h13.wb i hi false)
    unfold wb at this ⊢
    rw [hq, hy, hy2] at this ⊢
    rw [e1]
    exact this
  have HOF2 : Hid (∀ W, Calls Tryd.prog 24 #[.agg m2.toArray] W fun e w' => e = .returned (ofL (wb l i true)) ∧ Below W.heap.size W w') := Lib.hid fun W => by
    have := of_l (wb l i true) W (h13.wb i hi true)
    unfold wb at this ⊢
    rw [hq, hy, hy3] at this ⊢
    rw [e2]
    exact this
  obtain ⟨f0, f1, f2, f3, f4, hf⟩ := ofL_form (wb l i b)
  rw [hf]
  have l0 : m0.length = 13 := by rw [← hm0, List.length_map]; exact HL.out
  have l1 : m1.length = 13 := by rw [← hm1, List.length_set]; exact l0
  have l2 : m2.length = 13 := by rw [← hm2, List.length_set]; exact l1
  have o0 : ∀ v ∈ m0, v.oneCell' = true := by rw [← hm0]; exact u8V_one l
  have g0 : m0[q]? = some (.int .u8 y) := by
    rw [← hm0, List.getElem?_map, ← hy, List.getD_eq_getElem?_getD, List.getElem?_eq_getElem (by rw [HL.out]; exact hq13)]; rfl
  have g1 : m1[q]? = some (.int .u8 y2) := by rw [← hm1, List.getElem?_set_self (by omega)]
  rw [hm0] at HB
  have L0 := Lib.hid l0; have L1 := Lib.hid l1; have L2 := Lib.hid l2; have O0 := Lib.hid o0; have G0 := Lib.hid g0; have G1 := Lib.hid g1
  have q0 : (0 : Int) ≤ (q : Int) := by omega
  have q1 : (q : Int) < 13 := by omega
  have hqd : (i : Int).tdiv 8 = (q : Int) := by rw [Int.tdiv_eq_ediv_of_nonneg h0]; exact hqi
  have hqw : IntKind.i64.wrap (q : Int) = (q : Int) := IntWalk.i64_in _ ⟨by omega, by omega⟩
  clear hl hq h hi h13 hm0 hy hy2 hy3 e1 e2 l0 l1 l2 o0 g0 g1 y0 y1 HL
  cases b with
  | false =>
    rw [hf] at HOF1
    clear hf HOF2
    go_enter Tryd.func8, Tryd.ntmps8
    go_wp2_with (go_at_call 22; (with_reducible refine (HB.out _).mono ?_); rintro e w1 ⟨rfl, hb1⟩; obtain ⟨hcA, hfA⟩ := bcell hb1; have hzA : w.heap.size + 1 < w1.heap.size := (by have := hb1.size; simp at this; omega); have hzA2 : w.heap.size < w1.heap.size := (by omega); have l0 := L0.out; have hst := put13 L0.out O0.out w1; have hc := cell13 G0.out w1)
    go_region_with (go_at_call 26; (with_reducible refine (HAL.out _).mono ?_); rintro e w' ⟨rfl, rfl⟩)
    all_goals
      go_wp2_with (first | (refine wpList_load_row rfl 39 _ rfl w1.heap.size rfl 39 m1.toArray (0, 0) _ (heap_alloc_last w1 _) Tryd.underlying39 rfl (size13 L1.out) ?_) | (go_at_call 24; (with_reducible refine (HOF1.out _).mono ?_); rintro e w2 ⟨rfl, hb2⟩; obtain ⟨hcB, hfB⟩ := bcell hb2; have hzB : w1.heap.size < w2.heap.size := (by have := hb2.size; simp at this; omega)))
      exact bodyPost_ret (v := .tuple #[.agg #[.int .u32 f0, .int .u32 f1, .int .u8 f2, .int .u16 f3, .int .u16 f4], .int .i64 0]) (by simp [results, Tryd.results8, go_sem, hcA, hcB, hzA, hzA2]) rfl ⟨rfl, by
        repeat refine Below.setCell ?_ (by simp) _
        exact Below.step (((((Below.refl _ _).alloc (Nat.le_refl _) _).alloc (by simp) _).trans (hb1.mono (by simp; omega))).alloc (by omega) _ |>.drew) hb2⟩
  | true =>
    rw [hf] at HOF2
    clear hf HOF1
    go_enter Tryd.func8, Tryd.ntmps8
    go_wp2_with (go_at_call 22; (with_reducible refine (HB.out _).mono ?_); rintro e w1 ⟨rfl, hb1⟩; obtain ⟨hcA, hfA⟩ := bcell hb1; have hzA : w.heap.size + 1 < w1.heap.size := (by have := hb1.size; simp at this; omega); have hzA2 : w.heap.size < w1.heap.size := (by omega); have l0 := L0.out; have hst := put13 L0.out O0.out w1; have hc := cell13 G0.out w1; have hc1 := cell13 G1.out w1)
    go_region_with (go_at_call 26; (with_reducible refine (HAL.out _).mono ?_); rintro e w' ⟨rfl, rfl⟩)
    all_goals
      go_wp2
      go_region_with (go_at_call 26; (with_reducible refine (HAL.out _).mono ?_); rintro e w' ⟨rfl, rfl⟩)
      all_goals
        go_wp2_with (first | (refine wpList_load_row rfl 39 _ rfl w1.heap.size rfl 39 m2.toArray (0, 0) _ (heap_alloc_last w1 _) Tryd.underlying39 rfl (size13 L2.out) ?_) | (go_at_call 24; (with_reducible refine (HOF2.out _).mono ?_); rintro e w2 ⟨rfl, hb2⟩; obtain ⟨hcB, hfB⟩ := bcell hb2; have hzB : w1.heap.size < w2.heap.size := (by have := hb2.size; simp at this; omega)))
        exact bodyPost_ret (v := .tuple #[.agg #[.int .u32 f0, .int .u32 f1, .int .u8 f2, .int .u16 f3, .int .u16 f4], .int .i64 0]) (by simp [results, Tryd.results8, go_sem, hcA, hcB, hzA, hzA2]) rfl ⟨rfl, by
          repeat refine Below.setCell ?_ (by simp) _
          exact Below.step (((((Below.refl _ _).alloc (Nat.le_refl _) _).alloc (by simp) _).trans (hb1.mono (by simp; omega))).alloc (by omega) _ |>.drew.drew) hb2⟩
end Go.Proofs.YtbmleejeffaciaaDoor
