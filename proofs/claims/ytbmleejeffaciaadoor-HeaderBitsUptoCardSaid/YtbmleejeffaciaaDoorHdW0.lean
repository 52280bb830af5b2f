/- Facts on bytes with one bit set; thirteen bytes in a block of one's own. No condition but those named. -/
import Derived.Test.YtbmleejeffaciaaDoorHdK
import Derived.Deep.WholeRow
namespace Go.Proofs.YtbmleejeffaciaaDoor
open Go.RowKit
/-- A byte with the bit of i set so. -/
def stb (y : Int) (i : Nat) (b : Bool) : Int := y - y / pm i % 2 * pm i + if b then pm i else 0
theorem andNot_all : ∀ y : Fin 256, bits .andNot .u8 (y.val : Int) 128 = (y.val : Int) - (y.val : Int) / 128 % 2 * 128 ∧ bits .andNot .u8 (y.val : Int) 64 = (y.val : Int) - (y.val : Int) / 64 % 2 * 64 ∧ bits .andNot .u8 (y.val : Int) 32 = (y.val : Int) - (y.val : Int) / 32 % 2 * 32 ∧ bits .andNot .u8 (y.val : Int) 16 = (y.val : Int) - (y.val : Int) / 16 % 2 * 16 ∧
    bits .andNot .u8 (y.val : Int) 8 = (y.val : Int) - (y.val : Int) / 8 % 2 * 8 ∧ bits .andNot .u8 (y.val : Int) 4 = (y.val : Int) - (y.val : Int) / 4 % 2 * 4 ∧ bits .andNot .u8 (y.val : Int) 2 = (y.val : Int) - (y.val : Int) / 2 % 2 * 2 ∧ bits .andNot .u8 (y.val : Int) 1 = (y.val : Int) - (y.val : Int) / 1 % 2 * 1 := by decide +kernel
theorem or_all : ∀ y : Fin 256, (y.val / 128 % 2 = 0 → bits .or .u8 (y.val : Int) 128 = (y.val : Int) + 128) ∧ (y.val / 64 % 2 = 0 → bits .or .u8 (y.val : Int) 64 = (y.val : Int) + 64) ∧ (y.val / 32 % 2 = 0 → bits .or .u8 (y.val : Int) 32 = (y.val : Int) + 32) ∧ (y.val / 16 % 2 = 0 → bits .or .u8 (y.val : Int) 16 = (y.val : Int) + 16) ∧
    (y.val / 8 % 2 = 0 → bits .or .u8 (y.val : Int) 8 = (y.val : Int) + 8) ∧ (y.val / 4 % 2 = 0 → bits .or .u8 (y.val : Int) 4 = (y.val : Int) + 4) ∧ (y.val / 2 % 2 = 0 → bits .or .u8 (y.val : Int) 2 = (y.val : Int) + 2) ∧ (y.val / 1 % 2 = 0 → bits .or .u8 (y.val : Int) 1 = (y.val : Int) + 1) := by decide +kernel
set_option maxHeartbeats 1000000 in
theorem andNot_bit (y : Int) (i : Nat) (h0 : 0 ≤ y) (h1 : y < 256) : bits .andNot .u8 y (pm i) = stb y i false := by
  obtain ⟨Y, rfl⟩ := Int.eq_ofNat_of_zero_le h0
  have h := andNot_all ⟨Y, by omega⟩
  simp only at h
  unfold stb
  obtain ⟨a, b, c, d, e, f, g, k⟩ := h
  rcases pm_cases i with h | h | h | h | h | h | h | h <;> rw [h] <;> simp only [Bool.false_eq_true, if_false, Int.add_zero] <;> assumption
set_option maxHeartbeats 2000000 in
theorem or_bit (y : Int) (i : Nat) (h0 : 0 ≤ y) (h1 : y < 256) : bits .or .u8 (stb y i false) (pm i) = stb y i true := by
  have hz : ∃ Z : Nat, stb y i false = (Z : Int) ∧ Z < 256 ∧ stb y i true = Z + pm i ∧ ((Z : Int) / pm i) % 2 = 0 := by
    unfold stb
    simp only [Bool.false_eq_true, if_false, if_true, Int.add_zero]
    refine ⟨(y - y / pm i % 2 * pm i).toNat, ?_⟩
    rcases pm_cases i with h | h | h | h | h | h | h | h <;> rw [h] <;> omega
  obtain ⟨Z, e1, h2, e2, h3⟩ := hz
  rw [e1, e2]
  have h := or_all ⟨Z, h2⟩
  simp only at h
  obtain ⟨a, b, c, d, e, f, g, k⟩ := h
  rcases pm_cases i with h | h | h | h | h | h | h | h <;> rw [h] at h3 ⊢ <;> first | exact a (by omega) | exact b (by omega) | exact c (by omega) | exact d (by omega) | exact e (by omega) | exact f (by omega) | exact g (by omega) | exact k (by omega)
set_option maxHeartbeats 2000000 in
theorem stb_rng (y : Int) (i : Nat) (b : Bool) (h0 : 0 ≤ y) (h1 : y < 256) : 0 ≤ stb y i b ∧ stb y i b < 256 := by
  unfold stb
  cases b <;> simp only [Bool.false_eq_true, if_false, if_true] <;> rcases pm_cases i with h | h | h | h | h | h | h | h <;> rw [h] <;> omega
/-- Bytes with the bit i set so. -/
def wb (l : List Int) (i : Nat) (b : Bool) : List Int := l.set (i / 8) (stb (l.getD (i / 8) 0) i b)
theorem B13.wb {l : List Int} (h : B13 l) (i : Nat) (hi : i < 104) (b : Bool) : B13 (wb l i b) := by
  have hr := stb_rng (l.getD (i / 8) 0) i b (h.at_lo (by omega)) (h.at_hi (by omega))
  unfold Go.Proofs.YtbmleejeffaciaaDoor.wb
  refine ⟨by rw [List.length_set]; exact h.len, fun x hx => ?_, fun x hx => ?_⟩ <;>
  · rcases List.mem_or_eq_of_mem_set hx with hx | rfl
    · first | exact h.lo x hx | exact h.hi x hx
    · omega
theorem set_u8 (l : List Int) (q : Nat) (y : Int) : (l.map u8V).toArray.setIfInBounds q (.int .u8 y) = ((l.set q y).map u8V).toArray := by
  rw [List.setIfInBounds_toArray, List.map_set]; rfl
theorem put13 {m : List Value} (hl : m.length = 13) (h1 : ∀ v ∈ m, v.oneCell' = true) (W : World) : Sem.run Tryd.prog (storeCells ⟨W.heap.size, 0, none⟩ m) (W.alloc (.cells #[.int .u8 0, .int .u8 0, .int .u8 0, .int .u8 0, .int .u8 0, .int .u8 0, .int .u8 0, .int .u8 0, .int .u8 0, .int .u8 0, .int .u8 0, .int .u8 0, .int .u8 0] 39)) = .ok () (W.alloc (.cells m.toArray 39)) := by
  have h := run_storeCells_new (P := Tryd.prog) W 39 #[.int .u8 0, .int .u8 0, .int .u8 0, .int .u8 0, .int .u8 0, .int .u8 0, .int .u8 0, .int .u8 0, .int .u8 0, .int .u8 0, .int .u8 0, .int .u8 0, .int .u8 0] m.toArray (by rw [show m.toArray.size = 13 by simpa using hl]; kernel_rfl) (by simp [hl]) (by simpa using h1)
  simpa using h
theorem size13 {m : List Value} (hl : m.length = 13) : (Tryd.prog.info? 39).map (·.size) = some m.toArray.size := by
  rw [show m.toArray.size = 13 by simpa using hl]; kernel_rfl
theorem get13 {m : List Value} (hl : m.length = 13) {W : World} {g : Nat} {t : TypeId} (hg : W.heap[g]? = some (.cells m.toArray t (0, 0))) : Sem.run Tryd.prog (loadCellsFrom ⟨g, 0, none⟩ 0 13 #[]) W = .ok m.toArray W := by
  have := run_loadCells_list (P := Tryd.prog) W ⟨g, 0, none⟩ m (fun j v hv => by
    have hadd : (⟨g, 0, none⟩ : Addr).add j = ⟨g, j, none⟩ := by unfold Addr.add; split <;> simp_all
    rw [hadd, cell_of_row _ _ j _ t (0, 0) hg]
    simpa using hv)
  rw [hl] at this
  simpa [loadCells] using this
theorem set13 (l : List Int) (q : Nat) (v : Int) : (l.map u8V).set q (.int .u8 v) = (l.set q v).map u8V := by rw [List.map_set]; rfl
theorem cell13 {m : List Value} {q : Nat} {v : Value} (hq : m[q]? = some v) (W : World) : (W.alloc (.cells m.toArray 39)).cell? ⟨W.heap.size, q, none⟩ = some v := by
  rw [cell_of_row _ _ q _ _ (0, 0) (heap_alloc_last W _)]
  simpa using hq
theorem u8V_one (l : List Int) : ∀ v ∈ l.map u8V, v.oneCell' = true := by
  intro v hv
  obtain ⟨x, _, rfl⟩ := List.mem_map.1 hv
  rfl
theorem ofL_form (l : List Int) : ∃ f0 f1 f2 f3 f4 : Int, ofL l = .agg #[.int .u32 f0, .int .u32 f1, .int .u8 f2, .int .u16 f3, .int .u16 f4] := ⟨_, _, _, _, _, rfl⟩
end Go.Proofs.YtbmleejeffaciaaDoor
