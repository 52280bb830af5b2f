/- What Parse of package header says of a header's own text; a header's cells laid into its block anew. Each under the conditions that it names. -/
import Derived.Test.YtbmleejeffaciaaDoorHdM
import Derived.Test.YtbmleejeffaciaaDoorHdW0
import Derived.Lib.BufferMore
namespace Go.Proofs.YtbmleejeffaciaaDoor
open Go.RowKit
theorem htext_len {s d p sp dp : Int} (h : Hdr s d p sp dp) : (htext s d p sp dp).length ≤ 140737488355328 := by
  obtain ⟨hs0, hs1, hd0, hd1, hp0, hp1, hsp0, hsp1, hdp0, hdp1⟩ := h
  have h1 := endText_len s.toNat sp.toNat (by omega) (by omega)
  have h2 := endText_len d.toNat dp.toNat (by omega) (by omega)
  have h3 := dec_short 4 p.toNat (by omega)
  unfold htext
  simp only [List.length_append, List.length_cons]
  omega
theorem hback_is (s d p sp dp : Int) (W : World) (h : Hdr s d p sp dp) (hE : ErrV W) (hT : Tab10 W) : Calls Tryd.prog 10 #[.string ⟨(htext s d p sp dp).toArray⟩] W fun e w' => e = .returned (.tuple #[.agg #[.int .u32 s, .int .u32 d, .int .u8 p, .int .u16 sp, .int .u16 dp], .int .i64 0]) ∧ Below W.heap.size W w' := by
  have := hparse_is (htext s d p sp dp) (htext_len h) W hE hT
  rw [hparse_htext h] at this
  obtain ⟨hs0, hs1, hd0, hd1, hp0, hp1, hsp0, hsp1, hdp0, hdp1⟩ := h
  simp only [HpVal, Int.toNat_of_nonneg hs0, Int.toNat_of_nonneg hd0, Int.toNat_of_nonneg hp0, Int.toNat_of_nonneg hsp0, Int.toNat_of_nonneg hdp0] at this
  exact this
set_option maxHeartbeats 1000000 in
theorem shr_bit (v : Int) (k j : Nat) (y : Bool) (v0 : 0 ≤ v) (v1 : v < 256) (hj : k % 8 = j) (hy : decide (v / pm k % 2 = 1) = y) : (bits .and .u8 (v / 2 ^ (7 - j)) 1 == 1) = y := by
  have hj8 : j = 0 ∨ j = 1 ∨ j = 2 ∨ j = 3 ∨ j = 4 ∨ j = 5 ∨ j = 6 ∨ j = 7 := by omega
  rw [pm_at hj] at hy
  have hb : ∀ x : Int, 0 ≤ x → x < 256 → bits .and .u8 x 1 = x % 2 := fun x x0 x1 => by
    have h := and_bit x 7 x0 x1
    rw [show pm 7 = 1 by decide, Int.ediv_one, Int.mul_one] at h
    exact h
  have key : ∀ x : Int, 0 ≤ x → x < 256 → (bits .and .u8 x 1 == 1) = decide (x % 2 = 1) := fun x x0 x1 => by
    rw [hb x x0 x1, Bool.eq_iff_iff]
    simp
  rw [← hy]
  clear hj hy
  rcases hj8 with rfl | rfl | rfl | rfl | rfl | rfl | rfl | rfl <;> (simp only [Nat.reduceSub, Int.reducePow, Int.reduceDiv]; exact key _ (by omega) (by omega))
/-- A header's five cells stored into a block that holds a header. -/
theorem set5 {w : World} {g : Nat} {n0 n1 n2 n3 n4 m0 m1 m2 m3 m4 : Int} {t : TypeId} (h : w.heap[g]? = some (.cells #[.int .u32 n0, .int .u32 n1, .int .u8 n2, .int .u16 n3, .int .u16 n4] t (0, 0))) :
    (((((w.setCell ⟨g, 0, none⟩ (.int .u32 m0)).setCell ⟨g, 1, none⟩ (.int .u32 m1)).setCell ⟨g, 2, none⟩ (.int .u8 m2)).setCell ⟨g, 3, none⟩ (.int .u16 m3)).setCell ⟨g, 4, none⟩ (.int .u16 m4)).heap[g]? = some (.cells #[.int .u32 m0, .int .u32 m1, .int .u8 m2, .int .u16 m3, .int .u16 m4] t (0, 0)) := by
  have h0 := Lib.heap_setCell_same (i := 0) h (.int .u32 m0)
  have h1 := Lib.heap_setCell_same (i := 1) h0 (.int .u32 m1)
  have h2 := Lib.heap_setCell_same (i := 2) h1 (.int .u8 m2)
  have h3 := Lib.heap_setCell_same (i := 3) h2 (.int .u16 m3)
  have h4 := Lib.heap_setCell_same (i := 4) h3 (.int .u16 m4)
  exact h4
end Go.Proofs.YtbmleejeffaciaaDoor
