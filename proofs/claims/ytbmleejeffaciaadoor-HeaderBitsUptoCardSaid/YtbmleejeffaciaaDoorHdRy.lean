/- What Bytes of package waymarkref03 hands back: a header's thirteen bytes. Under the condition that the fields are what their types hold. -/
import Derived.Test.YtbmleejeffaciaaDoorHdRb
import Derived.Test.YtbmleejeffaciaaDoorHdBkM
namespace Go.Proofs.YtbmleejeffaciaaDoor
open Go.RowKit
/-- Bytes of which c bits are read. -/
def pbL (N c : Nat) : List Value := (List.range 13).map fun q => .int .u8 (fv N (8 * q) (min 8 (c - 8 * q)) : Nat)
theorem pbL_at (N c q : Nat) (h : q < 13) : (pbL N c)[q]? = some (.int .u8 (fv N (8 * q) (min 8 (c - 8 * q)) : Nat)) := by
  simp [pbL, List.getElem?_map, List.getElem?_range h]
theorem pbL_len (N c : Nat) : (pbL N c).length = 13 := by simp [pbL]
theorem pbL_0 (N : Nat) : (pbL N 0).toArray = #[.int .u8 0, .int .u8 0, .int .u8 0, .int .u8 0, .int .u8 0, .int .u8 0, .int .u8 0, .int .u8 0, .int .u8 0, .int .u8 0, .int .u8 0, .int .u8 0, .int .u8 0] := by
  simp [pbL, fv_0, show List.range 13 = [0, 1, 2, 3, 4, 5, 6, 7, 8, 9, 10, 11, 12] from rfl]
theorem pbL_more (N c q : Nat) (hc : c < 104) (hq : c / 8 = q) : pbL N (c + 1) = (pbL N c).set q (.int .u8 (2 * fv N (8 * q) (c % 8) + (if bt N c then 1 else 0) : Nat)) := by
  apply List.ext_getElem?
  intro j
  by_cases hj : j < 13
  · rw [pbL_at _ _ _ hj, List.getElem?_set]
    by_cases e : q = j
    · subst e
      rw [if_pos rfl, if_pos (by rw [pbL_len]; exact hj)]
      have e1 : min 8 (c + 1 - 8 * q) = c % 8 + 1 := by omega
      rw [e1, fv_step N (8 * q) (c % 8) (by omega), show 8 * q + c % 8 = c by omega]
    · rw [if_neg e, pbL_at _ _ _ hj]
      have e1 : min 8 (c + 1 - 8 * j) = min 8 (c - 8 * j) := by omega
      rw [e1]
  · rw [List.getElem?_eq_none (by rw [pbL_len]; omega), List.getElem?_eq_none (by rw [List.length_set, pbL_len]; omega)]
theorem pbL_all {l : List Int} (h : B13 l) : pbL (V l) 104 = l.map u8V := by
  apply List.ext_getElem?
  intro j
  by_cases hj : j < 13
  · rw [pbL_at _ _ _ hj, List.getElem?_map, List.getElem?_eq_getElem (by rw [h.len]; exact hj), show min 8 (104 - 8 * j) = 8 by omega, V_byte h hj, List.getD_eq_getElem?_getD, List.getElem?_eq_getElem (by rw [h.len]; exact hj)]
    rfl
  · rw [List.getElem?_eq_none (by rw [pbL_len]; omega), List.getElem?_eq_none (by rw [List.length_map, h.len]; omega)]
set_option maxHeartbeats 1000000 in
theorem set13c {w : World} {g : Nat} {t : TypeId} {x0 x1 x2 x3 x4 x5 x6 x7 x8 x9 x10 x11 x12 : Int} (h : w.heap[g]? = some (.cells #[.int .u8 0, .int .u8 0, .int .u8 0, .int .u8 0, .int .u8 0, .int .u8 0, .int .u8 0, .int .u8 0, .int .u8 0, .int .u8 0, .int .u8 0, .int .u8 0, .int .u8 0] t (0, 0))) :
    (((((((((((((w.setCell ⟨g, 0, none⟩ (.int .u8 x0)).setCell ⟨g, 1, none⟩ (.int .u8 x1)).setCell ⟨g, 2, none⟩ (.int .u8 x2)).setCell ⟨g, 3, none⟩ (.int .u8 x3)).setCell ⟨g, 4, none⟩ (.int .u8 x4)).setCell ⟨g, 5, none⟩ (.int .u8 x5)).setCell ⟨g, 6, none⟩ (.int .u8 x6)).setCell ⟨g, 7, none⟩ (.int .u8 x7)).setCell ⟨g, 8, none⟩ (.int .u8 x8)).setCell ⟨g, 9, none⟩ (.int .u8 x9)).setCell ⟨g, 10, none⟩ (.int .u8 x10)).setCell ⟨g, 11, none⟩ (.int .u8 x11)).setCell ⟨g, 12, none⟩ (.int .u8 x12)).heap[g]? = some (.cells #[.int .u8 x0, .int .u8 x1, .int .u8 x2, .int .u8 x3, .int .u8 x4, .int .u8 x5, .int .u8 x6, .int .u8 x7, .int .u8 x8, .int .u8 x9, .int .u8 x10, .int .u8 x11, .int .u8 x12] t (0, 0)) := by
  have h0 : (w.setCell ⟨g, 0, none⟩ (.int .u8 x0)).heap[g]? = some (.cells #[.int .u8 x0, .int .u8 0, .int .u8 0, .int .u8 0, .int .u8 0, .int .u8 0, .int .u8 0, .int .u8 0, .int .u8 0, .int .u8 0, .int .u8 0, .int .u8 0, .int .u8 0] t (0, 0)) := Lib.heap_setCell_same (i := 0) h (.int .u8 x0)
  have h1 : ((w.setCell ⟨g, 0, none⟩ (.int .u8 x0)).setCell ⟨g, 1, none⟩ (.int .u8 x1)).heap[g]? = some (.cells #[.int .u8 x0, .int .u8 x1, .int .u8 0, .int .u8 0, .int .u8 0, .int .u8 0, .int .u8 0, .int .u8 0, .int .u8 0, .int .u8 0, .int .u8 0, .int .u8 0, .int .u8 0] t (0, 0)) := Lib.heap_setCell_same (i := 1) h0 (.int .u8 x1)
  have h2 : (((w.setCell ⟨g, 0, none⟩ (.int .u8 x0)).setCell ⟨g, 1, none⟩ (.int .u8 x1)).setCell ⟨g, 2, none⟩ (.int .u8 x2)).heap[g]? = some (.cells #[.int .u8 x0, .int .u8 x1, .int .u8 x2, .int .u8 0, .int .u8 0, .int .u8 0, .int .u8 0, .int .u8 0, .int .u8 0, .int .u8 0, .int .u8 0, .int .u8 0, .int .u8 0] t (0, 0)) := Lib.heap_setCell_same (i := 2) h1 (.int .u8 x2)
  have h3 : ((((w.setCell ⟨g, 0, none⟩ (.int .u8 x0)).setCell ⟨g, 1, none⟩ (.int .u8 x1)).setCell ⟨g, 2, none⟩ (.int .u8 x2)).setCell ⟨g, 3, none⟩ (.int .u8 x3)).heap[g]? = some (.cells #[.int .u8 x0, .int .u8 x1, .int .u8 x2, .int .u8 x3, .int .u8 0, .int .u8 0, .int .u8 0, .int .u8 0, .int .u8 0, .int .u8 0, .int .u8 0, .int .u8 0, .int .u8 0] t (0, 0)) := Lib.heap_setCell_same (i := 3) h2 (.int .u8 x3)
  have h4 : (((((w.setCell ⟨g, 0, none⟩ (.int .u8 x0)).setCell ⟨g, 1, none⟩ (.int .u8 x1)).setCell ⟨g, 2, none⟩ (.int .u8 x2)).setCell ⟨g, 3, none⟩ (.int .u8 x3)).setCell ⟨g, 4, none⟩ (.int .u8 x4)).heap[g]? = some (.cells #[.int .u8 x0, .int .u8 x1, .int .u8 x2, .int .u8 x3, .int .u8 x4, .int .u8 0, .int .u8 0, .int .u8 0, .int .u8 0, .int .u8 0, .int .u8 0, .int .u8 0, .int .u8 0] t (0, 0)) := Lib.heap_setCell_same (i := 4) h3 (.int .u8 x4)
  have h5 : ((((((w.setCell ⟨g, 0, none⟩ (.int .u8 x0)).setCell ⟨g, 1, none⟩ (.int .u8 x1)).setCell ⟨g, 2, none⟩ (.int .u8 x2)).setCell ⟨g, 3, none⟩ (.int .u8 x3)).setCell ⟨g, 4, none⟩ (.int .u8 x4)).setCell ⟨g, 5, none⟩ (.int .u8 x5)).heap[g]? = some (.cells #[.int .u8 x0, .int .u8 x1, .int .u8 x2, .int .u8 x3, .int .u8 x4, .int .u8 x5, .int .u8 0, .int .u8 0, .int .u8 0, .int .u8 0, .int .u8 0, .int .u8 0, .int .u8 0] t (0, 0)) := Lib.heap_setCell_same (i := 5) h4 (.int .u8 x5)
  have h6 : (((((((w.setCell ⟨g, 0, none⟩ (.int .u8 x0)).setCell ⟨g, 1, none⟩ (.int .u8 x1)).setCell ⟨g, 2, none⟩ (.int .u8 x2)).setCell ⟨g, 3, none⟩ (.int .u8 x3)).setCell ⟨g, 4, none⟩ (.int .u8 x4)).setCell ⟨g, 5, none⟩ (.int .u8 x5)).setCell ⟨g, 6, none⟩ (.int .u8 x6)).heap[g]? = some (.cells #[.int .u8 x0, .int .u8 x1, .int .u8 x2, .int .u8 x3, .int .u8 x4, .int .u8 x5, .int .u8 x6, .int .u8 0, .int .u8 0, .int .u8 0, .int .u8 0, .int .u8 0, .int .u8 0] t (0, 0)) := Lib.heap_setCell_same (i := 6) h5 (.int .u8 x6)
  have h7 : ((((((((w.setCell ⟨g, 0, none⟩ (.int .u8 x0)).setCell ⟨g, 1, none⟩ (.int .u8 x1)).setCell ⟨g, 2, none⟩ (.int .u8 x2)).setCell ⟨g, 3, none⟩ (.int .u8 x3)).setCell ⟨g, 4, none⟩ (.int .u8 x4)).setCell ⟨g, 5, none⟩ (.int .u8 x5)).setCell ⟨g, 6, none⟩ (.int .u8 x6)).setCell ⟨g, 7, none⟩ (.int .u8 x7)).heap[g]? = some (.cells #[.int .u8 x0, .int .u8 x1, .int .u8 x2, .int .u8 x3, .int .u8 x4, .int .u8 x5, .int .u8 x6, .int .u8 x7, .int .u8 0, .int .u8 0, .int .u8 0, .int .u8 0, .int .u8 0] t (0, 0)) := Lib.heap_setCell_same (i := 7) h6 (.int .u8 x7)
  have h8 : (((((((((w.setCell ⟨g, 0, none⟩ (.int .u8 x0)).setCell ⟨g, 1, none⟩ (.int .u8 x1)).setCell ⟨g, 2, none⟩ (.int .u8 x2)).setCell ⟨g, 3, none⟩ (.int .u8 x3)).setCell ⟨g, 4, none⟩ (.int .u8 x4)).setCell ⟨g, 5, none⟩ (.int .u8 x5)).setCell ⟨g, 6, none⟩ (.int .u8 x6)).setCell ⟨g, 7, none⟩ (.int .u8 x7)).setCell ⟨g, 8, none⟩ (.int .u8 x8)).heap[g]? = some (.cells #[.int .u8 x0, .int .u8 x1, .int .u8 x2, .int .u8 x3, .int .u8 x4, .int .u8 x5, .int .u8 x6, .int .u8 x7, .int .u8 x8, .int .u8 0, .int .u8 0, .int .u8 0, .int .u8 0] t (0, 0)) := Lib.heap_setCell_same (i := 8) h7 (.int .u8 x8)
  have h9 : ((((((((((w.setCell ⟨g, 0, none⟩ (.int .u8 x0)).setCell ⟨g, 1, none⟩ (.int .u8 x1)).setCell ⟨g, 2, none⟩ (.int .u8 x2)).setCell ⟨g, 3, none⟩ (.int .u8 x3)).setCell ⟨g, 4, none⟩ (.int .u8 x4)).setCell ⟨g, 5, none⟩ (.int .u8 x5)).setCell ⟨g, 6, none⟩ (.int .u8 x6)).setCell ⟨g, 7, none⟩ (.int .u8 x7)).setCell ⟨g, 8, none⟩ (.int .u8 x8)).setCell ⟨g, 9, none⟩ (.int .u8 x9)).heap[g]? = some (.cells #[.int .u8 x0, .int .u8 x1, .int .u8 x2, .int .u8 x3, .int .u8 x4, .int .u8 x5, .int .u8 x6, .int .u8 x7, .int .u8 x8, .int .u8 x9, .int .u8 0, .int .u8 0, .int .u8 0] t (0, 0)) := Lib.heap_setCell_same (i := 9) h8 (.int .u8 x9)
  have h10 : (((((((((((w.setCell ⟨g, 0, none⟩ (.int .u8 x0)).setCell ⟨g, 1, none⟩ (.int .u8 x1)).setCell ⟨g, 2, none⟩ (.int .u8 x2)).setCell ⟨g, 3, none⟩ (.int .u8 x3)).setCell ⟨g, 4, none⟩ (.int .u8 x4)).setCell ⟨g, 5, none⟩ (.int .u8 x5)).setCell ⟨g, 6, none⟩ (.int .u8 x6)).setCell ⟨g, 7, none⟩ (.int .u8 x7)).setCell ⟨g, 8, none⟩ (.int .u8 x8)).setCell ⟨g, 9, none⟩ (.int .u8 x9)).setCell ⟨g, 10, none⟩ (.int .u8 x10)).heap[g]? = some (.cells #[.int .u8 x0, .int .u8 x1, .int .u8 x2, .int .u8 x3, .int .u8 x4, .int .u8 x5, .int .u8 x6, .int .u8 x7, .int .u8 x8, .int .u8 x9, .int .u8 x10, .int .u8 0, .int .u8 0] t (0, 0)) := Lib.heap_setCell_same (i := 10) h9 (.int .u8 x10)
  have h11 : ((((((((((((w.setCell ⟨g, 0, none⟩ (.int .u8 x0)).setCell ⟨g, 1, none⟩ (.int .u8 x1)).setCell ⟨g, 2, none⟩ (.int .u8 x2)).setCell ⟨g, 3, none⟩ (.int .u8 x3)).setCell ⟨g, 4, none⟩ (.int .u8 x4)).setCell ⟨g, 5, none⟩ (.int .u8 x5)).setCell ⟨g, 6, none⟩ (.int .u8 x6)).setCell ⟨g, 7, none⟩ (.int .u8 x7)).setCell ⟨g, 8, none⟩ (.int .u8 x8)).setCell ⟨g, 9, none⟩ (.int .u8 x9)).setCell ⟨g, 10, none⟩ (.int .u8 x10)).setCell ⟨g, 11, none⟩ (.int .u8 x11)).heap[g]? = some (.cells #[.int .u8 x0, .int .u8 x1, .int .u8 x2, .int .u8 x3, .int .u8 x4, .int .u8 x5, .int .u8 x6, .int .u8 x7, .int .u8 x8, .int .u8 x9, .int .u8 x10, .int .u8 x11, .int .u8 0] t (0, 0)) := Lib.heap_setCell_same (i := 11) h10 (.int .u8 x11)
  have h12 : (((((((((((((w.setCell ⟨g, 0, none⟩ (.int .u8 x0)).setCell ⟨g, 1, none⟩ (.int .u8 x1)).setCell ⟨g, 2, none⟩ (.int .u8 x2)).setCell ⟨g, 3, none⟩ (.int .u8 x3)).setCell ⟨g, 4, none⟩ (.int .u8 x4)).setCell ⟨g, 5, none⟩ (.int .u8 x5)).setCell ⟨g, 6, none⟩ (.int .u8 x6)).setCell ⟨g, 7, none⟩ (.int .u8 x7)).setCell ⟨g, 8, none⟩ (.int .u8 x8)).setCell ⟨g, 9, none⟩ (.int .u8 x9)).setCell ⟨g, 10, none⟩ (.int .u8 x10)).setCell ⟨g, 11, none⟩ (.int .u8 x11)).setCell ⟨g, 12, none⟩ (.int .u8 x12)).heap[g]? = some (.cells #[.int .u8 x0, .int .u8 x1, .int .u8 x2, .int .u8 x3, .int .u8 x4, .int .u8 x5, .int .u8 x6, .int .u8 x7, .int .u8 x8, .int .u8 x9, .int .u8 x10, .int .u8 x11, .int .u8 x12] t (0, 0)) := Lib.heap_setCell_same (i := 12) h11 (.int .u8 x12)
  exact h12
theorem set_one {w : World} {g q : Nat} {t : TypeId} {m : List Value} {v : Value} (h : w.heap[g]? = some (.cells m.toArray t (0, 0))) : (w.setCell ⟨g, q, none⟩ v).heap[g]? = some (.cells (m.set q v).toArray t (0, 0)) := by
  have := Lib.heap_setCell_same (i := q) h v
  rwa [List.setIfInBounds_toArray] at this
set_option maxRecDepth 100000 in
set_option maxHeartbeats 8000000 in
theorem bytesR_is (s d p sp dp : Int) (w : World) (h : Hdr s d p sp dp) :
    Calls Tryd.prog 23 #[.agg #[.int .u32 s, .int .u32 d, .int .u8 p, .int .u16 sp, .int .u16 dp]] w fun e w' => e = .returned (.agg ((byL s d p sp dp).map u8V).toArray) ∧ Below w.heap.size w w' := by
  have hA13 := byL_13 h
  have HB : Hid (∀ W, Calls Tryd.prog 30 #[.agg #[.int .u32 s, .int .u32 d, .int .u8 p, .int .u16 sp, .int .u16 dp]] W fun e w' => ∃ v, e = .returned v ∧ w'.ownsRow W.heap.size 4 1 v 104 ((bl (V (byL s d p sp dp))).map .bool) ∧ Below W.heap.size W w') := Lib.hid fun W => bits_is s d p sp dp W h
  have hall := pbL_all hA13
  generalize byL s d p sp dp = l at *
  obtain ⟨N, hN⟩ : ∃ N, V l = N := ⟨_, rfl⟩
  rw [hN] at HB hall
  obtain ⟨x0, x1, x2, x3, x4, x5, x6, x7, x8, x9, x10, x11, x12, hx⟩ : ∃ x0 x1 x2 x3 x4 x5 x6 x7 x8 x9 x10 x11 x12 : Int, (l.map u8V).toArray = #[.int .u8 x0, .int .u8 x1, .int .u8 x2, .int .u8 x3, .int .u8 x4, .int .u8 x5, .int .u8 x6, .int .u8 x7, .int .u8 x8, .int .u8 x9, .int .u8 x10, .int .u8 x11, .int .u8 x12] := by
    obtain ⟨hl, _, _⟩ := hA13
    match l, hl with
    | [x0, x1, x2, x3, x4, x5, x6, x7, x8, x9, x10, x11, x12], _ => exact ⟨x0, x1, x2, x3, x4, x5, x6, x7, x8, x9, x10, x11, x12, rfl⟩
  have HALL : Hid ((pbL N 104).toArray = #[.int .u8 x0, .int .u8 x1, .int .u8 x2, .int .u8 x3, .int .u8 x4, .int .u8 x5, .int .u8 x6, .int .u8 x7, .int .u8 x8, .int .u8 x9, .int .u8 x10, .int .u8 x11, .int .u8 x12]) := Lib.hid (by rw [hall]; exact hx)
  rw [hx]
  clear hx hall hN hA13 h
  obtain ⟨Z, hZ⟩ : ∃ Z, (w.alloc (.cells #[.int .u32 s, .int .u32 d, .int .u8 p, .int .u16 sp, .int .u16 dp] 27)).alloc (.cells #[.int .u8 0, .int .u8 0, .int .u8 0, .int .u8 0, .int .u8 0, .int .u8 0, .int .u8 0, .int .u8 0, .int .u8 0, .int .u8 0, .int .u8 0, .int .u8 0, .int .u8 0] 39) = Z := ⟨_, rfl⟩
  have hb0 : Below w.heap.size w Z := by rw [← hZ]; exact ((Below.refl _ _).alloc (Nat.le_refl _) _).alloc (by simp) _
  have hRZ : Z.heap[w.heap.size + 1]? = some (.cells #[.int .u8 0, .int .u8 0, .int .u8 0, .int .u8 0, .int .u8 0, .int .u8 0, .int .u8 0, .int .u8 0, .int .u8 0, .int .u8 0, .int .u8 0, .int .u8 0, .int .u8 0] 39 (0, 0)) := by rw [← hZ]; exact heap_alloc2_new w _ _
  have hAZ : Z.heap[w.heap.size]? = some (.cells #[.int .u32 s, .int .u32 d, .int .u8 p, .int .u16 sp, .int .u16 dp] 27 (0, 0)) := by rw [← hZ]; exact heap_alloc2_old w _ _
  have hz1 : w.heap.size + 1 < Z.heap.size := (Array.getElem?_eq_some_iff.1 hRZ).1
  have HB0 := Lib.hid hb0; have HRZ := Lib.hid hRZ
  obtain ⟨k0, kf0⟩ := row_cell' (j := 0) hAZ rfl
  obtain ⟨k1, kf1⟩ := row_cell' (j := 1) hAZ rfl
  obtain ⟨k2, kf2⟩ := row_cell' (j := 2) hAZ rfl
  obtain ⟨k3, kf3⟩ := row_cell' (j := 3) hAZ rfl
  obtain ⟨k4, kf4⟩ := row_cell' (j := 4) hAZ rfl
  clear hb0 hRZ hAZ
  go_enter Tryd.func23, Tryd.ntmps23
  go_wp2_with fail
  go_at_call 30
  (with_reducible refine (HB.out _).mono ?_)
  rintro e w1 ⟨v, rfl, hown, hb1⟩
  obtain ⟨g, cap, rfl, hg, hBa⟩ := bools_of hown
  clear k0 k1 k2 k3 k4 kf0 kf1 kf2 kf3 kf4 hown
  have hz2 := hb1.size
  have hgl := hBa.lt
  have hb2 : Below Z.heap.size Z (w1.alloc (.cells #[.int .u8 0, .int .u8 0, .int .u8 0, .int .u8 0, .int .u8 0, .int .u8 0, .int .u8 0, .int .u8 0, .int .u8 0, .int .u8 0, .int .u8 0, .int .u8 0, .int .u8 0] 39)) := hb1.alloc hz2 _
  have hrow2 : (w1.alloc (.cells #[.int .u8 0, .int .u8 0, .int .u8 0, .int .u8 0, .int .u8 0, .int .u8 0, .int .u8 0, .int .u8 0, .int .u8 0, .int .u8 0, .int .u8 0, .int .u8 0, .int .u8 0] 39)).heap[w1.heap.size]? = some (.cells (pbL N 0).toArray 39 (0, 0)) := by rw [pbL_0]; exact heap_alloc_new w1 _
  have hBa2 : Bools (w1.alloc (.cells #[.int .u8 0, .int .u8 0, .int .u8 0, .int .u8 0, .int .u8 0, .int .u8 0, .int .u8 0, .int .u8 0, .int .u8 0, .int .u8 0, .int .u8 0, .int .u8 0, .int .u8 0] 39)) g (bl N) := hBa.on ((Below.refl _ _).alloc (Nat.le_refl _) _)
  obtain ⟨W2, hW2⟩ : ∃ W2, w1.alloc (.cells #[.int .u8 0, .int .u8 0, .int .u8 0, .int .u8 0, .int .u8 0, .int .u8 0, .int .u8 0, .int .u8 0, .int .u8 0, .int .u8 0, .int .u8 0, .int .u8 0, .int .u8 0] 39) = W2 := ⟨_, rfl⟩
  rw [hW2] at hb2 hrow2 hBa2
  go_wp2_with fail
  try rw [hW2]
  clear hW2 hb1 hBa
  obtain ⟨nb, hnb⟩ : ∃ nb, w1.heap.size = nb := ⟨_, rfl⟩
  rw [hnb] at hrow2 hz2 hgl ⊢
  clear hnb
  go_loopw [5] (fun s5 wr => ∃ c : Nat, c ≤ 104 ∧ s5 = .int .i64 c ∧ wr.heap[nb]? = some (.cells (pbL N c).toArray 39 (0, 0)) ∧ Below nb W2 wr) (fun s5 _ => 104 - (intOf s5).toNat)
  case atStart => exact ⟨0, by omega, rfl, hrow2, Below.refl _ _⟩
  case round =>
    obtain ⟨c, hc, rfl, hrow, hbw⟩ := hrel
    have hc0 : (0 : Int) ≤ (c : Int) := by omega
    by_cases hlt : c < 104
    · have hc4 : (c : Int) < 104 := by omega
      obtain ⟨q, hq⟩ : ∃ q, c / 8 = q := ⟨_, rfl⟩
      have hq13 : q < 13 := by omega
      have hqd : (c : Int).tdiv 8 = (q : Int) := by rw [Int.tdiv_eq_ediv_of_nonneg hc0]; omega
      have q0 : (0 : Int) ≤ (q : Int) := by omega
      have q1 : (q : Int) < 13 := by omega
      have hat := pbL_at N c q hq13
      rw [show min 8 (c - 8 * q) = c % 8 by omega] at hat
      have hmore := pbL_more N c q hlt hq
      have hfl := fv_lt N (8 * q) (c % 8)
      have hp7 : (2 : Nat) ^ (c % 8) ≤ 128 := Nat.pow_le_pow_right (n := 2) (by omega) (by omega : c % 8 ≤ 7)
      obtain ⟨f, hf⟩ : ∃ f, fv N (8 * q) (c % 8) = f := ⟨_, rfl⟩
      rw [hf] at hat hmore hfl
      have hf1 : (f : Int) < 128 := by omega
      have hf0 : (0 : Int) ≤ (f : Int) := by omega
      obtain ⟨n0, nf0⟩ := row_cell' (j := q) hrow (by simpa using hat)
      have HROW := Lib.hid hrow
      obtain ⟨y, hy⟩ : ∃ y, bt N c = y := ⟨_, rfl⟩
      rw [hy] at hmore
      obtain ⟨cur, hcur, hcc⟩ := hBa2
      have hcell : wr.cell? ⟨g, c, none⟩ = some (.bool y) := (row_cell' ((hbw.block _ hgl).trans hcur) (hcc c y ((bl_at N c hlt).trans (congrArg some hy)))).1
      clear hrow hat hfl hp7 hf hy hcur hcc hq
      cases y with
      | false =>
        have HMORE : Hid ((pbL N (c + 1)) = (pbL N c).set q (.int .u8 (2 * (f : Int)))) := Lib.hid (by rw [hmore]; simp)
        clear hmore
        go_wp2_with fail
        go_roundw
        case rel => exact ⟨c + 1, by omega, by go_num, by rw [HMORE.out]; exact set_one HROW.out, by
          repeat refine Below.setCell ?_ (by simp) _
          exact hbw⟩
        case measure => first | (simp [intOf]; done) | (simp [intOf]; omega)
      | true =>
        have HMORE : Hid ((pbL N (c + 1)) = ((pbL N c).set q (.int .u8 (2 * (f : Int)))).set q (.int .u8 (2 * (f : Int) + 1))) := Lib.hid (by rw [hmore, List.set_set]; simp)
        clear hmore
        go_wp2_with fail
        go_roundw
        case rel => exact ⟨c + 1, by omega, by go_num, by rw [HMORE.out]; exact set_one (set_one HROW.out), by
          repeat refine Below.setCell ?_ (by simp) _
          exact hbw⟩
        case measure => first | (simp [intOf]; done) | (simp [intOf]; omega)
    · obtain rfl : c = 104 := by omega
      rw [HALL.out] at hrow
      have hb3 : Below Z.heap.size Z wr := hb2.trans (hbw.mono hz2)
      have hR3 := (hb3.block _ hz1).trans HRZ.out
      have HR3 := Lib.hid hR3
      obtain ⟨n0, nf0⟩ := row_cell' (j := 0) hrow rfl
      obtain ⟨n1, nf1⟩ := row_cell' (j := 1) hrow rfl
      obtain ⟨n2, nf2⟩ := row_cell' (j := 2) hrow rfl
      obtain ⟨n3, nf3⟩ := row_cell' (j := 3) hrow rfl
      obtain ⟨n4, nf4⟩ := row_cell' (j := 4) hrow rfl
      obtain ⟨n5, nf5⟩ := row_cell' (j := 5) hrow rfl
      obtain ⟨n6, nf6⟩ := row_cell' (j := 6) hrow rfl
      obtain ⟨n7, nf7⟩ := row_cell' (j := 7) hrow rfl
      obtain ⟨n8, nf8⟩ := row_cell' (j := 8) hrow rfl
      obtain ⟨n9, nf9⟩ := row_cell' (j := 9) hrow rfl
      obtain ⟨n10, nf10⟩ := row_cell' (j := 10) hrow rfl
      obtain ⟨n11, nf11⟩ := row_cell' (j := 11) hrow rfl
      obtain ⟨n12, nf12⟩ := row_cell' (j := 12) hrow rfl
      obtain ⟨r0, rf0⟩ := row_cell' (j := 0) hR3 rfl
      obtain ⟨r1, rf1⟩ := row_cell' (j := 1) hR3 rfl
      obtain ⟨r2, rf2⟩ := row_cell' (j := 2) hR3 rfl
      obtain ⟨r3, rf3⟩ := row_cell' (j := 3) hR3 rfl
      obtain ⟨r4, rf4⟩ := row_cell' (j := 4) hR3 rfl
      obtain ⟨r5, rf5⟩ := row_cell' (j := 5) hR3 rfl
      obtain ⟨r6, rf6⟩ := row_cell' (j := 6) hR3 rfl
      obtain ⟨r7, rf7⟩ := row_cell' (j := 7) hR3 rfl
      obtain ⟨r8, rf8⟩ := row_cell' (j := 8) hR3 rfl
      obtain ⟨r9, rf9⟩ := row_cell' (j := 9) hR3 rfl
      obtain ⟨r10, rf10⟩ := row_cell' (j := 10) hR3 rfl
      obtain ⟨r11, rf11⟩ := row_cell' (j := 11) hR3 rfl
      obtain ⟨r12, rf12⟩ := row_cell' (j := 12) hR3 rfl
      clear hlt hrow hR3
      go_wp2_with fail
      have hfin := set13c (x0 := x0) (x1 := x1) (x2 := x2) (x3 := x3) (x4 := x4) (x5 := x5) (x6 := x6) (x7 := x7) (x8 := x8) (x9 := x9) (x10 := x10) (x11 := x11) (x12 := x12) HR3.out
      have hbf : Below w.heap.size w (((((((((((((wr.setCell ⟨w.heap.size + 1, 0, none⟩ (.int .u8 x0)).setCell ⟨w.heap.size + 1, 1, none⟩ (.int .u8 x1)).setCell ⟨w.heap.size + 1, 2, none⟩ (.int .u8 x2)).setCell ⟨w.heap.size + 1, 3, none⟩ (.int .u8 x3)).setCell ⟨w.heap.size + 1, 4, none⟩ (.int .u8 x4)).setCell ⟨w.heap.size + 1, 5, none⟩ (.int .u8 x5)).setCell ⟨w.heap.size + 1, 6, none⟩ (.int .u8 x6)).setCell ⟨w.heap.size + 1, 7, none⟩ (.int .u8 x7)).setCell ⟨w.heap.size + 1, 8, none⟩ (.int .u8 x8)).setCell ⟨w.heap.size + 1, 9, none⟩ (.int .u8 x9)).setCell ⟨w.heap.size + 1, 10, none⟩ (.int .u8 x10)).setCell ⟨w.heap.size + 1, 11, none⟩ (.int .u8 x11)).setCell ⟨w.heap.size + 1, 12, none⟩ (.int .u8 x12)) := by
        repeat refine Below.setCell ?_ (by simp) _
        exact Below.step HB0.out hb3
      obtain ⟨W9, hW9⟩ : ∃ W9, (((((((((((((wr.setCell ⟨w.heap.size + 1, 0, none⟩ (.int .u8 x0)).setCell ⟨w.heap.size + 1, 1, none⟩ (.int .u8 x1)).setCell ⟨w.heap.size + 1, 2, none⟩ (.int .u8 x2)).setCell ⟨w.heap.size + 1, 3, none⟩ (.int .u8 x3)).setCell ⟨w.heap.size + 1, 4, none⟩ (.int .u8 x4)).setCell ⟨w.heap.size + 1, 5, none⟩ (.int .u8 x5)).setCell ⟨w.heap.size + 1, 6, none⟩ (.int .u8 x6)).setCell ⟨w.heap.size + 1, 7, none⟩ (.int .u8 x7)).setCell ⟨w.heap.size + 1, 8, none⟩ (.int .u8 x8)).setCell ⟨w.heap.size + 1, 9, none⟩ (.int .u8 x9)).setCell ⟨w.heap.size + 1, 10, none⟩ (.int .u8 x10)).setCell ⟨w.heap.size + 1, 11, none⟩ (.int .u8 x11)).setCell ⟨w.heap.size + 1, 12, none⟩ (.int .u8 x12)) = W9 := ⟨_, rfl⟩
      rw [hW9] at hfin hbf ⊢
      clear hW9
      obtain ⟨e0, ef0⟩ := row_cell' (j := 0) hfin rfl
      obtain ⟨e1, ef1⟩ := row_cell' (j := 1) hfin rfl
      obtain ⟨e2, ef2⟩ := row_cell' (j := 2) hfin rfl
      obtain ⟨e3, ef3⟩ := row_cell' (j := 3) hfin rfl
      obtain ⟨e4, ef4⟩ := row_cell' (j := 4) hfin rfl
      obtain ⟨e5, ef5⟩ := row_cell' (j := 5) hfin rfl
      obtain ⟨e6, ef6⟩ := row_cell' (j := 6) hfin rfl
      obtain ⟨e7, ef7⟩ := row_cell' (j := 7) hfin rfl
      obtain ⟨e8, ef8⟩ := row_cell' (j := 8) hfin rfl
      obtain ⟨e9, ef9⟩ := row_cell' (j := 9) hfin rfl
      obtain ⟨e10, ef10⟩ := row_cell' (j := 10) hfin rfl
      obtain ⟨e11, ef11⟩ := row_cell' (j := 11) hfin rfl
      obtain ⟨e12, ef12⟩ := row_cell' (j := 12) hfin rfl
      exact bodyPost_ret (v := .agg #[.int .u8 x0, .int .u8 x1, .int .u8 x2, .int .u8 x3, .int .u8 x4, .int .u8 x5, .int .u8 x6, .int .u8 x7, .int .u8 x8, .int .u8 x9, .int .u8 x10, .int .u8 x11, .int .u8 x12]) (by simp [results, Tryd.results23, go_sem, e0, e1, e2, e3, e4, e5, e6, e7, e8, e9, e10, e11, e12]) rfl ⟨rfl, hbf⟩
end Go.Proofs.YtbmleejeffaciaaDoor
