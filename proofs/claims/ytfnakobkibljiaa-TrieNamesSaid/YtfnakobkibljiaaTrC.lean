/- Longest of nobody's table. No condition. -/
import Derived.Test.YtfnakobkibljiaaTrB
namespace Go.Proofs.Ytfnakobkibljiaa
open Go.RowKit Go.Shelf
attribute [local go_sem] Oper.semAt_some
set_option maxRecDepth 100000 in
set_option maxHeartbeats 4000000 in
theorem longest_nil (a : Int) (w : World) : Calls Try.prog 5 #[.pointer none, .int .u32 a] w fun e w' => e = .returned (.tuple #[.agg #[.int .u32 0, .int .i64 0], .string ⟨#[]⟩, .bool false]) ∧ Below w.heap.size w w' := by
  have HO := Lib.hid (fun w => seqOver_nil a w)
  refine (callsIn_wide (n := 4)).1 ?_
  refine callsIn_of_wp_marks Try.func5 rfl trivial ?_ rfl
  simp only [Try.ntmps5, List.size_toArray, List.length_cons, List.length_nil, Nat.reduceAdd, Nat.reduceSub, Array.replicate_succ, Array.replicate_zero, List.push_toArray, List.append_toArray, List.nil_append, List.cons_append]
  gi_wp2_with fail
  refine ⟨trivial, ?_⟩
  obtain ⟨W0, hW0⟩ : ∃ W0, ((((w.alloc (.cells #[.int .u32 0, .int .i64 0] 28)).alloc (.cells #[.int .u32 0, .int .i64 0] 28)).alloc (.cells #[.string ⟨#[]⟩] 9)).alloc (.cells #[.bool false] 4)) = W0 := ⟨_, rfl⟩
  have hz0 : W0.heap.size = w.heap.size + 4 := by rw [← hW0]; simp
  have hB0 : Below w.heap.size w W0 := by rw [← hW0]; exact ((((Below.refl _ _).alloc (Nat.le_refl _) _).alloc (by simp) _).alloc (by simp; omega) _).alloc (by simp; omega) _
  have hrows := rows4 w (.cells #[.int .u32 0, .int .i64 0] 28) (.cells #[.int .u32 0, .int .i64 0] 28) (.cells #[.string ⟨#[]⟩] 9) (.cells #[.bool false] 4)
  rw [hW0] at hrows
  obtain ⟨k0, k1, k2, k3⟩ := hrows
  rw [hW0]
  clear hW0
  have HK := Lib.hid (And.intro hz0 (And.intro hB0 (And.intro k0 (And.intro k1 (And.intro k2 k3)))))
  clear hB0 k0 k1 k2 k3 hz0
  refine (callsIn_wide.2 (HO.out _)).mono ?_
  rintro e w1 ⟨b, fn, cs, rfl, hbl, hblt, h1, h2, hb1⟩
  gi_wp2
  obtain ⟨hz0, hB0, k0, k1, k2, k3⟩ := HK.out
  have hz1 := hb1.size
  have m0 := (hb1.block w.heap.size (by omega)).trans k0
  have m1 := (hb1.block (w.heap.size + 1) (by omega)).trans k1
  have m2 := (hb1.block (w.heap.size + 1 + 1) (by omega)).trans k2
  have m3 := (hb1.block (w.heap.size + 1 + 1 + 1) (by omega)).trans k3
  have c00 := (cell_of_row _ _ 0 _ _ (0, 0) m0).trans (rfl : _ = some (Value.int .u32 0))
  have c01 := (cell_of_row _ _ 1 _ _ (0, 0) m0).trans (rfl : _ = some (Value.int .i64 0))
  have f00 := frozen_of_row _ _ 0 _ _ m0
  have f01 := frozen_of_row _ _ 1 _ _ m0
  have c10 := (cell_of_row _ _ 0 _ _ (0, 0) m1).trans (rfl : _ = some (Value.int .u32 0))
  have c11 := (cell_of_row _ _ 1 _ _ (0, 0) m1).trans (rfl : _ = some (Value.int .i64 0))
  have c20 := (cell_of_row _ _ 0 _ _ (0, 0) m2).trans (rfl : _ = some (Value.string ⟨#[]⟩))
  have c30 := (cell_of_row _ _ 0 _ _ (0, 0) m3).trans (rfl : _ = some (Value.bool false))
  have hbB : Below w.heap.size w w1 := hB0.trans (hb1.mono hB0.size)
  clear m0 m1 m2 m3 k0 k1 k2 k3 HK hB0
  refine wpIn_rangeFunc_ownF rfl (by omega) (gf := 24) (lb := #[.pointer (some ⟨b, 0, none⟩), .pointer (some ⟨b + 1, 0, none⟩)]) rfl trivial (enters_of Try.func24 (by kernel_rfl) rfl)
    (nil_stops (α := Empty) (fun x => nomatch x) _ b fn cs (Below w.heap.size) w1 hblt h1 h2) belowK_t (belowK_b (by omega)) (Below.refl _ _) (fun x => nomatch x)
    (fun _ W => (W.cell? ⟨w.heap.size, 0, none⟩ = some (.int .u32 0) ∧ W.cell? ⟨w.heap.size, 1, none⟩ = some (.int .i64 0) ∧ W.frozen? ⟨w.heap.size, 0, none⟩ = false ∧ W.frozen? ⟨w.heap.size, 1, none⟩ = false ∧ W.cell? ⟨w.heap.size + 1, 0, none⟩ = some (.int .u32 0) ∧ W.cell? ⟨w.heap.size + 1, 1, none⟩ = some (.int .i64 0) ∧ W.cell? ⟨w.heap.size + 1 + 1, 0, none⟩ = some (.string ⟨#[]⟩) ∧ W.cell? ⟨w.heap.size + 1 + 1 + 1, 0, none⟩ = some (.bool false)) ∧ Below w.heap.size w W)
    (fun _ _ _ => False)
    (OwnFrom.and (Own.from (fun s A B row hs hg hr => ⟨cell_kept hs.1 hg hr, cell_kept hs.2.1 hg hr, (frozen_kept hs.1 hg hr).trans hs.2.2.1, (frozen_kept hs.2.1 hg hr).trans hs.2.2.2.1, cell_kept hs.2.2.2.2.1 hg hr, cell_kept hs.2.2.2.2.2.1 hg hr, cell_kept hs.2.2.2.2.2.2.1 hg hr, cell_kept hs.2.2.2.2.2.2.2 hg hr⟩) _) (ownFrom_below (Nat.le_refl _) (by omega)))
    (fun _ _ _ _ _ hs _ _ => hs)
    ⟨⟨c00, c01, f00, f01, c10, c11, c20, c30⟩, hbB⟩
    (fun x => nomatch x) ?assign ?body ?done ?stop
  case assign =>
    intro l x
    exact nomatch x
  case body =>
    intro l pre x
    exact nomatch x
  case stop =>
    rintro D c pre W _ _ h _
    exact h.elim
  case done =>
    rintro D ys W hD rfl ⟨⟨d00, d01, e00, e01, d10, d11, d20, d30⟩, hB⟩ hK
    clear c00 c01 f00 f01 c10 c11 c20 c30
    gi_wp2
    gi_region
    rw [setCell_same d00, setCell_same d01]
    gi_wp2
    have hK2 : W.drew.heap[D]? = some (.deferred (some [])) := hK
    have g0 : W.drew.cell? ⟨w.heap.size, 0, none⟩ = some (.int .u32 0) := d00
    have g1 : W.drew.cell? ⟨w.heap.size, 1, none⟩ = some (.int .i64 0) := d01
    refine ⟨by simp, .inl ⟨_, _, rfl, run_takeDeferred hK2, ?_⟩⟩
    have q0 := cell_kept g0 (grownBy_putObj' _ D (.deferred none)) (fun r e => by cases e; exact ⟨_, hK2, rfl⟩)
    have q1 := cell_kept g1 (grownBy_putObj' _ D (.deferred none)) (fun r e => by cases e; exact ⟨_, hK2, rfl⟩)
    refine ⟨.tuple #[.agg #[.int .u32 0, .int .i64 0], .string ⟨#[]⟩, .bool false], ?_, rfl, hB.drew.trans (belowK_b (w := w) (Nat.le_refl _) _ D _ _ (by omega) hK2 rfl rfl)⟩
    simp [results, Try.f5, go_sem, q0, q1]
end Go.Proofs.Ytfnakobkibljiaa
