/- What Next of package header hands back. Under the condition that the fields are what their types hold. -/
import Derived.Test.YtbmleejeffaciaaDoorHdW0
import Derived.Deep.MidRow
namespace Go.Proofs.YtbmleejeffaciaaDoor
open Go.RowKit
/-- Bytes whose last k have come round to nought. -/
def nx (l : List Int) (k : Nat) : List Int := l.take (13 - k) ++ List.replicate k 0
theorem nx_len {l : List Int} (h : l.length = 13) {k : Nat} (hk : k ≤ 13) : (nx l k).length = 13 := by
  unfold nx; rw [List.length_append, List.length_take, List.length_replicate]; omega
theorem nx_at {l : List Int} (h : l.length = 13) {k q : Nat} (hk : k < 13) (hq : q = 12 - k) : (nx l k)[q]? = l[q]? := by
  unfold nx; rw [List.getElem?_append_left (by rw [List.length_take]; omega), List.getElem?_take, if_pos (by omega)]
theorem nx_nought {l : List Int} (h : l.length = 13) {k q : Nat} (hk : k < 13) (hq : q = 12 - k) : (nx l k).set q 0 = nx l (k + 1) := by
  subst hq
  apply List.ext_getElem?
  intro j
  unfold nx
  have e1 : (l.take (13 - k)).length = 13 - k := by rw [List.length_take]; omega
  have e2 : (l.take (13 - (k + 1))).length = 12 - k := by rw [List.length_take]; omega
  rw [List.getElem?_set]
  by_cases h1 : 12 - k = j
  · subst h1
    rw [if_pos rfl, if_pos (by rw [List.length_append, e1, List.length_replicate]; omega), List.getElem?_append_right (by omega), e2, Nat.sub_self, List.getElem?_replicate, if_pos (by omega)]
  · rw [if_neg h1]
    by_cases h2 : j < 12 - k
    · rw [List.getElem?_append_left (by omega), List.getElem?_append_left (by omega), List.getElem?_take, List.getElem?_take, if_pos (by omega), if_pos (by omega)]
    · rw [List.getElem?_append_right (by omega), List.getElem?_append_right (by omega), e1, e2, List.getElem?_replicate, List.getElem?_replicate]
      by_cases h3 : j < 13
      · rw [if_pos (by omega), if_pos (by omega)]
      · rw [if_neg (by omega), if_neg (by omega)]
theorem nx_zero (l : List Int) (h : l.length = 13) : nx l 0 = l := by unfold nx; rw [List.take_of_length_le (by omega)]; simp
theorem nx_13 {l : List Int} (h : B13 l) {k q : Nat} (hk : k < 13) (hq : q = 12 - k) {y : Int} (h0 : 0 ≤ y) (h1 : y < 256) : B13 ((nx l k).set q y) := by
  refine ⟨by rw [List.length_set]; exact nx_len h.len (by omega), fun x hx => ?_, fun x hx => ?_⟩ <;>
  · rcases List.mem_or_eq_of_mem_set hx with hx | rfl
    · unfold nx at hx
      rcases List.mem_append.1 hx with hx | hx
      · first | exact h.lo x (List.mem_of_mem_take hx) | exact h.hi x (List.mem_of_mem_take hx)
      · have := (List.mem_replicate.1 hx).2; omega
    · assumption
/-- What Next hands back, of bytes. -/
def NextPost (l : List Int) (w : World) (e : Ending) (w' : World) : Prop := Below w.heap.size w w' ∧
  ((∃ k q y, k < 13 ∧ q = 12 - k ∧ (∀ j, 13 - k ≤ j → j < 13 → l[j]? = some 255) ∧ l[q]? = some y ∧ 0 ≤ y ∧ y < 255 ∧ e = .returned (.tuple #[ofL ((nx l k).set q (y + 1)), .int .i64 0])) ∨
   ((∀ j, j < 13 → l[j]? = some 255) ∧ e = .returned (.tuple #[.agg #[.int .u32 0, .int .u32 0, .int .u8 0, .int .u16 0, .int .u16 0], .int .i64 5])))
theorem row_cell {W : World} {g j : Nat} {cs : Array Value} {t : TypeId} {v : Value} (h : W.heap[g]? = some (.cells cs t (0, 0))) (hj : cs[j]? = some v) : W.cell? ⟨g, j, none⟩ = some v ∧ W.frozen? ⟨g, j, none⟩ = false :=
  ⟨(cell_of_row _ _ j _ _ (0, 0) h).trans hj, frozen_of_row _ _ j _ _ h⟩
set_option maxRecDepth 100000 in
set_option maxHeartbeats 8000000 in
theorem next_is (s d p sp dp : Int) (w : World) (h : Hdr s d p sp dp) :
    Calls Tryd.prog 11 #[.agg #[.int .u32 s, .int .u32 d, .int .u8 p, .int .u16 sp, .int .u16 dp]] w (NextPost (byL s d p sp dp) w) := by
  have HB : Hid (∀ W, Calls Tryd.prog 22 #[.agg #[.int .u32 s, .int .u32 d, .int .u8 p, .int .u16 sp, .int .u16 dp]] W fun e w' => e = .returned (.agg ((byL s d p sp dp).map u8V).toArray) ∧ Below W.heap.size W w') := Lib.hid fun W => bytes_l s d p sp dp W h
  obtain ⟨l, hl⟩ : ∃ l, byL s d p sp dp = l := ⟨_, rfl⟩
  have h13 := byL_13 h
  rw [hl] at HB h13
  rw [hl]
  have H13 := Lib.hid h13
  obtain ⟨m0, hm0⟩ : ∃ m, l.map u8V = m := ⟨_, rfl⟩
  have l0 : m0.length = 13 := by rw [← hm0, List.length_map]; exact h13.len
  have o0 : ∀ v ∈ m0, v.oneCell' = true := by rw [← hm0]; exact u8V_one l
  rw [hm0] at HB
  have L0 := Lib.hid l0; have O0 := Lib.hid o0; have M0 := Lib.hid hm0
  clear hl h h13 hm0 l0 o0
  go_enter Tryd.func11, Tryd.ntmps11
  go_wp2_with (go_at_call 22; (with_reducible refine (HB.out _).mono ?_); rintro e w1 ⟨rfl, hb1⟩; have l0 := L0.out; have hst := put13 L0.out O0.out w1)
  have hz1 : w.heap.size + 1 < w1.heap.size := by have := hb1.size; simp at this; omega
  have hres : w1.heap[w.heap.size + 1]? = some (.cells #[.int .u32 0, .int .u32 0, .int .u8 0, .int .u16 0, .int .u16 0] 27 (0, 0)) := by
    have := hb1.block (w.heap.size + 1) (by simp)
    rw [this]
    exact heap_alloc2_new w _ _
  have hbw : Below w.heap.size w w1 := ((((Below.refl w.heap.size w).alloc (Nat.le_refl _) _).alloc (by simp) _).trans (hb1.mono (by simp; omega)))
  clear hst l0 hb1
  go_loopw [9] (fun i wr => ∃ k : Nat, k ≤ 13 ∧ i = .int .i64 k ∧ Hid (∀ j, 13 - k ≤ j → j < 13 → l[j]? = some 255) ∧ Hid (wr.heap[w1.heap.size]? = some (.cells ((nx l k).map u8V).toArray 39 (0, 0))) ∧ Hid (wr.heap[w.heap.size + 1]? = some (.cells #[.int .u32 0, .int .u32 0, .int .u8 0, .int .u16 0, .int .u16 0] 27 (0, 0))) ∧ Below w.heap.size w wr) (fun i _ => 13 - (intOf i).toNat)
  case atStart =>
    refine ⟨0, by omega, rfl, Lib.hid (fun j h1 h2 => by omega), Lib.hid ?_, Lib.hid ?_, hbw.alloc (by omega) _⟩
    · rw [nx_zero l H13.out.len, M0.out]; exact heap_alloc_last _ _
    · rw [heap_alloc_old _ _ (by omega)]; exact hres
  case round =>
    obtain ⟨k, hk, rfl, HK, HG, HR, hbr⟩ := hrel
    by_cases hlt : k < 13
    · obtain ⟨q, hq⟩ : ∃ q, q = 12 - k := ⟨_, rfl⟩
      have hqi : (12 : Int) - (k : Int) = (q : Int) := by omega
      have hq13 : q < 13 := by omega
      have q0 : (0 : Int) ≤ (q : Int) := by omega
      have q1 : (q : Int) < 13 := by omega
      obtain ⟨y, hy⟩ : ∃ y, l[q]? = some y := ⟨_, List.getElem?_eq_getElem (by rw [H13.out.len]; exact hq13)⟩
      have hym := List.mem_of_getElem? hy
      have y0 := H13.out.lo y hym
      have y1 := H13.out.hi y hym
      obtain ⟨c0, f0⟩ := row_cell (j := q) (v := .int .u8 y) HG.out (by rw [List.getElem?_toArray, List.getElem?_map, nx_at H13.out.len hlt hq, hy]; rfl)
      have HY := Lib.hid hy; have HQ := Lib.hid hq
      have hlr : w1.heap.size < wr.heap.size := (Array.getElem?_eq_some_iff.1 HG.out).1
      clear hy hym hq
      by_cases h255 : y = 255
      · subst h255
        go_wp2
        go_roundw
        case rel =>
          refine ⟨k + 1, by omega, by go_num, Lib.hid (fun j h1 h2 => ?_), Lib.hid ?_, Lib.hid ?_, Below.setCell (p := ⟨w1.heap.size, _, none⟩) hbr (by show w.heap.size ≤ w1.heap.size; omega) _⟩
          · by_cases h3 : 13 - k ≤ j
            · exact HK.out j h3 h2
            · have h4 : j = q := by have := HQ.out; omega
              rw [h4]; exact HY.out
          · rw [heap_setCell_same _ _ _ _ _ _ HG.out, set_u8, nx_nought H13.out.len hlt HQ.out]
          · rw [heap_setCell_other _ _ _ _ (by show w.heap.size + 1 ≠ w1.heap.size; omega)]; exact HR.out
        case measure => simp [intOf]; omega
      · have y2 : y < 255 := by omega
        have y3 : (y + 1 != 0) = true := by simp; omega
        obtain ⟨m1, hm1⟩ : ∃ m, ((nx l k).set q (y + 1)).map u8V = m := ⟨_, rfl⟩
        have hg2 : (wr.setCell ⟨w1.heap.size, q, none⟩ (.int .u8 (y + 1))).heap[w1.heap.size]? = some (.cells m1.toArray 39 (0, 0)) := by
          rw [heap_setCell_same _ _ _ _ _ _ HG.out, set_u8, hm1]
        have HG2 := Lib.hid hg2
        have HS13 : Hid (m1.length = 13) := Lib.hid (by rw [← hm1, List.length_map, List.length_set]; exact nx_len H13.out.len hk)
        obtain ⟨g0, g1, g2, g3, g4, hf⟩ := ofL_form ((nx l k).set q (y + 1))
        have HOF : Hid (∀ W, Calls Tryd.prog 24 #[.agg m1.toArray] W fun e w' => e = .returned (.agg #[.int .u32 g0, .int .u32 g1, .int .u8 g2, .int .u16 g3, .int .u16 g4]) ∧ Below W.heap.size W w') := Lib.hid fun W => by
          rw [← hf, ← hm1]; exact of_l _ W (nx_13 H13.out hlt HQ.out (by omega) (by omega))
        have HF := Lib.hid hf
        have hz2 : w.heap.size + 1 < wr.heap.size := by omega
        have HR2 : Hid ((wr.setCell ⟨w1.heap.size, q, none⟩ (.int .u8 (y + 1))).heap[w.heap.size + 1]? = some (.cells #[.int .u32 0, .int .u32 0, .int .u8 0, .int .u16 0, .int .u16 0] 27 (0, 0))) := Lib.hid (by
          rw [heap_setCell_other _ _ _ _ (by show w.heap.size + 1 ≠ w1.heap.size; omega)]; exact HR.out)
        clear hg2 hf hm1
        go_wp2_with (first | (refine wpList_load_row rfl 39 _ rfl w1.heap.size rfl 39 m1.toArray (0, 0) _ HG2.out Tryd.underlying39 rfl (size13 HS13.out) ?_) | (go_at_call 24; (with_reducible refine (HOF.out _).mono ?_); rintro e w2 ⟨rfl, hb2⟩; have hres2 := (hb2.block (w.heap.size + 1) (by simp; omega)).trans HR2.out; obtain ⟨d0, e0⟩ := row_cell (j := 0) hres2 rfl; obtain ⟨d1, e1⟩ := row_cell (j := 1) hres2 rfl; obtain ⟨d2, e2⟩ := row_cell (j := 2) hres2 rfl; obtain ⟨d3, e3⟩ := row_cell (j := 3) hres2 rfl; obtain ⟨d4, e4⟩ := row_cell (j := 4) hres2 rfl; clear hres2))
        refine bodyPost_ret (v := .tuple #[.agg #[.int .u32 g0, .int .u32 g1, .int .u8 g2, .int .u16 g3, .int .u16 g4], .int .i64 0]) (by simp [results, Tryd.results11, go_sem, d0, d1, d2, d3, d4]) rfl ⟨?_, .inl ⟨k, q, y, hlt, HQ.out, HK.out, HY.out, y0, y2, by rw [HF.out]⟩⟩
        repeat refine Below.setCell ?_ (by simp) _
        exact Below.step (Below.setCell (p := ⟨w1.heap.size, _, none⟩) hbr (by show w.heap.size ≤ w1.heap.size; omega) _) hb2
    · obtain rfl : k = 13 := by omega
      obtain ⟨d0, e0⟩ := row_cell (j := 0) HR.out rfl
      obtain ⟨d1, e1⟩ := row_cell (j := 1) HR.out rfl
      obtain ⟨d2, e2⟩ := row_cell (j := 2) HR.out rfl
      obtain ⟨d3, e3⟩ := row_cell (j := 3) HR.out rfl
      obtain ⟨d4, e4⟩ := row_cell (j := 4) HR.out rfl
      go_wp2
      refine bodyPost_ret (v := .tuple #[.agg #[.int .u32 0, .int .u32 0, .int .u8 0, .int .u16 0, .int .u16 0], .int .i64 5]) (by simp [results, Tryd.results11, go_sem, d0, d1, d2, d3, d4]) rfl ⟨?_, .inr ⟨fun j hj => HK.out j (by omega) hj, rfl⟩⟩
      repeat refine Below.setCell ?_ (by simp) _
      exact hbr
end Go.Proofs.YtbmleejeffaciaaDoor
