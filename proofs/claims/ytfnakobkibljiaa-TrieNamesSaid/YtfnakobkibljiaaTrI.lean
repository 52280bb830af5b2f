/- Longest of a table with one prefix. Under the conditions that they name. -/
import Derived.Test.YtfnakobkibljiaaTrH
namespace Go.Proofs.Ytfnakobkibljiaa
open Go.RowKit Go.Shelf
attribute [local go_sem] Oper.semAt_some
/-- What was found last. -/
def lst : List Kv → (Int × Int) × ByteArray × Bool
  | [] => ((0, 0), ⟨#[]⟩, false)
  | x :: _ => (x.1, x.2, true)
/-- What a loop's variables hold. -/
def Boxes (w : World) (pre : List Kv) (W : World) : Prop := (W.cell? ⟨w.heap.size, 0, none⟩ = some (.int .u32 0) ∧ W.cell? ⟨w.heap.size, 1, none⟩ = some (.int .i64 0) ∧ W.frozen? ⟨w.heap.size, 0, none⟩ = false ∧ W.frozen? ⟨w.heap.size, 1, none⟩ = false ∧ W.cell? ⟨w.heap.size + 1, 0, none⟩ = some (.int .u32 (lst pre).1.1) ∧ W.cell? ⟨w.heap.size + 1, 1, none⟩ = some (.int .i64 (lst pre).1.2) ∧ W.cell? ⟨w.heap.size + 1 + 1, 0, none⟩ = some (.string (lst pre).2.1) ∧ W.cell? ⟨w.heap.size + 1 + 1 + 1, 0, none⟩ = some (.bool (lst pre).2.2) ∧ W.frozen? ⟨w.heap.size + 1, 0, none⟩ = false ∧ W.frozen? ⟨w.heap.size + 1, 1, none⟩ = false ∧ W.frozen? ⟨w.heap.size + 1 + 1, 0, none⟩ = false ∧ W.frozen? ⟨w.heap.size + 1 + 1 + 1, 0, none⟩ = false) ∧ Below w.heap.size w W
theorem boxes_own (w : World) {B : Nat} (hB : w.heap.size ≤ B) : OwnFrom B (Boxes w) :=
  (OwnFrom.and (Own.from (fun s A B row hs hg hr => ⟨cell_kept hs.1 hg hr, cell_kept hs.2.1 hg hr, (frozen_kept hs.1 hg hr).trans hs.2.2.1, (frozen_kept hs.2.1 hg hr).trans hs.2.2.2.1, cell_kept hs.2.2.2.2.1 hg hr, cell_kept hs.2.2.2.2.2.1 hg hr, cell_kept hs.2.2.2.2.2.2.1 hg hr, cell_kept hs.2.2.2.2.2.2.2.1 hg hr, (frozen_kept hs.2.2.2.2.1 hg hr).trans hs.2.2.2.2.2.2.2.2.1, (frozen_kept hs.2.2.2.2.2.1 hg hr).trans hs.2.2.2.2.2.2.2.2.2.1, (frozen_kept hs.2.2.2.2.2.2.1 hg hr).trans hs.2.2.2.2.2.2.2.2.2.2.1, (frozen_kept hs.2.2.2.2.2.2.2.1 hg hr).trans hs.2.2.2.2.2.2.2.2.2.2.2⟩) _) (ownFrom_below (Nat.le_refl _) hB))
/-- A round's prefix, in a box, and its frame. -/
def AtX (w : World) (t : Nat) (b : Nat) (x : Kv) (a' : Act) (W : World) : Prop := ∃ B : Nat, w.heap.size + 4 ≤ B ∧ B < W.heap.size ∧ W.cell? ⟨B, 0, none⟩ = some (.int .u32 x.1.1) ∧ W.cell? ⟨B, 1, none⟩ = some (.int .i64 x.1.2) ∧
  a' = { tmps := #[.pointer (some ⟨t, 0, none⟩), .int .u32 4294967295, undef, undef, .pointer (some ⟨w.heap.size, 0, none⟩), .string ⟨#[]⟩, .bool false, .pointer (some ⟨w.heap.size + 1, 0, none⟩), .pointer (some ⟨w.heap.size + 1 + 1, 0, none⟩), .pointer (some ⟨w.heap.size + 1 + 1 + 1, 0, none⟩), .pointer (some ⟨B, 0, none⟩), .string x.2, .pointer (some ⟨t, 0, none⟩), .int .u32 4294967295, seqV b, .agg #[.int .u32 x.1.1, .int .i64 x.1.2], .string x.2, undef, undef, undef, undef, undef], defers := [] }
set_option maxRecDepth 100000 in
set_option maxHeartbeats 4000000 in
theorem longest_first (t g v : Nat) (m : Value) (s : ByteArray) (w : World) (ht : w.heap[t]? = some (.cells #[m, .pointer (some ⟨g, 0, none⟩)] 47 (0, 0))) (hg : w.heap[g]? = some (.cells #[.int .u32 0, .int .i64 0, .pointer (some ⟨v, 0, none⟩), .pointer none, .pointer none] 62 (0, 0))) (hv : w.heap[v]? = some (.cells #[.string s] 9 (0, 0))) :
    Calls Try.prog 5 #[.pointer (some ⟨t, 0, none⟩), .int .u32 4294967295] w fun e w' => e = .returned (.tuple #[.agg #[.int .u32 0, .int .i64 0], .string s, .bool true]) ∧ Below w.heap.size w w' := by
  have htl := (Array.getElem?_eq_some_iff.1 ht).1
  have hgl := (Array.getElem?_eq_some_iff.1 hg).1
  have hvl := (Array.getElem?_eq_some_iff.1 hv).1
  have HO := Lib.hid (fun w ht => over_one t m (some ⟨g, 0, none⟩) 4294967295 w ht)
  refine (callsIn_wide (n := 4)).1 ?_
  refine callsIn_of_wp_marks Try.func5 rfl trivial ?_ rfl
  simp only [Try.ntmps5, List.size_toArray, List.length_cons, List.length_nil, Nat.reduceAdd, Nat.reduceSub, Array.replicate_succ, Array.replicate_zero, List.push_toArray, List.append_toArray, List.nil_append, List.cons_append]
  have HT := Lib.hid ht; have HG := Lib.hid hg; have HV := Lib.hid hv
  clear ht hg hv
  gi_wp2_with fail
  refine ⟨trivial, ?_⟩
  obtain ⟨W0, hW0⟩ : ∃ W0, ((((w.alloc (.cells #[.int .u32 0, .int .i64 0] 28)).alloc (.cells #[.int .u32 0, .int .i64 0] 28)).alloc (.cells #[.string ⟨#[]⟩] 9)).alloc (.cells #[.bool false] 4)) = W0 := ⟨_, rfl⟩
  have hz0 : W0.heap.size = w.heap.size + 4 := by rw [← hW0]; simp
  have hB0 : Below w.heap.size w W0 := by rw [← hW0]; exact ((((Below.refl _ _).alloc (Nat.le_refl _) _).alloc (by simp) _).alloc (by simp; omega) _).alloc (by simp; omega) _
  have hrows := rows4 w (.cells #[.int .u32 0, .int .i64 0] 28) (.cells #[.int .u32 0, .int .i64 0] 28) (.cells #[.string ⟨#[]⟩] 9) (.cells #[.bool false] 4)
  rw [hW0] at hrows
  obtain ⟨k0, k1, k2, k3⟩ := hrows
  rw [hW0]
  clear hW0
  have HK := Lib.hid (And.intro hz0 (And.intro hB0 (And.intro k0 (And.intro k1 (And.intro k2 k3)))))
  have ht0 := (hB0.block t htl).trans HT.out
  clear hB0 k0 k1 k2 k3
  refine (callsIn_wide.2 (HO.out W0 ht0)).mono ?_
  rintro e w1 ⟨rfl, ha0, hn1, hl1, hb1⟩
  clear ht0
  obtain ⟨b, hb⟩ : ∃ b, W0.heap.size + 1 = b := ⟨_, rfl⟩
  rw [hb] at hn1 hl1 ⊢
  gi_wp2
  obtain ⟨_, hB0, k0, k1, k2, k3⟩ := HK.out
  have hz1 := hb1.size
  have m0 := (hb1.block w.heap.size (by omega)).trans k0
  have m1 := (hb1.block (w.heap.size + 1) (by omega)).trans k1
  have m2 := (hb1.block (w.heap.size + 1 + 1) (by omega)).trans k2
  have m3 := (hb1.block (w.heap.size + 1 + 1 + 1) (by omega)).trans k3
  have hbB : Below w.heap.size w w1 := hB0.trans (hb1.mono hB0.size)
  have hBox : Boxes w [] w1 := ⟨⟨(cell_of_row _ _ 0 _ _ (0, 0) m0).trans rfl, (cell_of_row _ _ 1 _ _ (0, 0) m0).trans rfl, frozen_of_row _ _ 0 _ _ m0, frozen_of_row _ _ 1 _ _ m0, (cell_of_row _ _ 0 _ _ (0, 0) m1).trans rfl, (cell_of_row _ _ 1 _ _ (0, 0) m1).trans rfl, (cell_of_row _ _ 0 _ _ (0, 0) m2).trans rfl, (cell_of_row _ _ 0 _ _ (0, 0) m3).trans rfl, frozen_of_row _ _ 0 _ _ m1, frozen_of_row _ _ 1 _ _ m1, frozen_of_row _ _ 0 _ _ m2, frozen_of_row _ _ 0 _ _ m3⟩, hbB⟩
  have hstop := one_stops 3 w.heap.size g v b W0.heap.size s ((0, 0), s) rfl w1 hn1 hl1 ((hbB.block g hgl).trans HG.out) ((hbB.block v hvl).trans HV.out) ha0 hgl (by omega)
  clear m0 m1 m2 m3 k0 k1 k2 k3 hB0
  refine wpIn_rangeFunc_ownH rfl (by omega) (gf := 24) (lb := #[.pointer (some ⟨b, 0, none⟩), .pointer (some ⟨b + 1, 0, none⟩)]) rfl trivial (enters_of Try.func24 (by kernel_rfl) rfl)
    hstop belowK_t (belowK_b (by omega)) (Below.refl _ _) (fun x => rfl)
    (Boxes w) (fun _ _ _ => False)
    (boxes_own w (by omega))
    (fun _ _ _ _ _ hs _ _ => hs)
    hBox (AtX w t b) (fun x a' => Own.from (fun _ A B row hs hg hr => by
      obtain ⟨C, h1, h2, h3, h4, h5⟩ := hs
      exact ⟨C, h1, by have := hg.size; omega, cell_kept h3 hg hr, cell_kept h4 hg hr, h5⟩) _) ?assign ?body ?done ?stop
  case stop =>
    rintro D c pre W _ _ h _
    exact h.elim
  case assign =>
    rintro l pre x W K hI hK
    gi_wp2
    have hlt := World.block_lt_of_cell? W _ hI.1.2.2.2.2.2.2.2.1
    simp only at hlt
    have hn := heap_alloc_new W (.cells #[.int .u32 x.1.1, .int .i64 x.1.2] 28)
    refine hK _ _ ((KeepsOthers.alloc _ _).from _) ((Below.refl _ W).alloc hI.2.size _) ((boxes_own w (Nat.le_refl w.heap.size)).alloc _ hI) ⟨W.heap.size, by omega, by simp, (cell_of_row _ _ 0 _ _ (0, 0) hn).trans rfl, (cell_of_row _ _ 1 _ _ (0, 0) hn).trans rfl, rfl⟩
  case body =>
    rintro l pre x a' W hl ⟨r, hr⟩ hI ⟨C, h1, h2, h3, h4, rfl⟩ hlen
    obtain rfl : pre = [] := List.length_eq_zero_iff.1 (by omega)
    obtain ⟨⟨d00, d01, e00, e01, d10, d11, d20, d30, e10, e11, e20, e30⟩, hB⟩ := hI
    gi_wp2
    refine ⟨((((KeepsOthers.setCell _ _ _).trans (KeepsOthers.setCell _ _ _)).trans (KeepsOthers.setCell _ _ _)).trans (KeepsOthers.setCell _ _ _)).from _, (((((Below.refl w.heap.size W).setCell (p := ⟨w.heap.size + 1, 0, none⟩) (by show w.heap.size ≤ w.heap.size + 1; omega) _).setCell (p := ⟨w.heap.size + 1, 1, none⟩) (by show w.heap.size ≤ w.heap.size + 1; omega) _).setCell (p := ⟨w.heap.size + 1 + 1, 0, none⟩) (by show w.heap.size ≤ w.heap.size + 1 + 1; omega) _).setCell (p := ⟨w.heap.size + 1 + 1 + 1, 0, none⟩) (by show w.heap.size ≤ w.heap.size + 1 + 1 + 1; omega) _), ⟨((World.cell?_setCell_other _ _ _ _ (by intro e; simp only [Addr.mk.injEq] at e; omega)).trans ((World.cell?_setCell_other _ _ _ _ (by intro e; simp only [Addr.mk.injEq] at e; omega)).trans ((World.cell?_setCell_other _ _ _ _ (by intro e; simp only [Addr.mk.injEq] at e; omega)).trans ((World.cell?_setCell_other _ _ _ _ (by intro e; simp only [Addr.mk.injEq] at e; omega)).trans d00)))), ((World.cell?_setCell_other _ _ _ _ (by intro e; simp only [Addr.mk.injEq] at e; omega)).trans ((World.cell?_setCell_other _ _ _ _ (by intro e; simp only [Addr.mk.injEq] at e; omega)).trans ((World.cell?_setCell_other _ _ _ _ (by intro e; simp only [Addr.mk.injEq] at e; omega)).trans ((World.cell?_setCell_other _ _ _ _ (by intro e; simp only [Addr.mk.injEq] at e; omega)).trans d01)))), (by simp only [World.frozen?_setCell]; exact e00), (by simp only [World.frozen?_setCell]; exact e01), ((World.cell?_setCell_other _ _ _ _ (by intro e; simp only [Addr.mk.injEq] at e; omega)).trans ((World.cell?_setCell_other _ _ _ _ (by intro e; simp only [Addr.mk.injEq] at e; omega)).trans ((World.cell?_setCell_other _ _ _ _ (by intro e; simp only [Addr.mk.injEq] at e; omega)).trans (World.cell?_setCell_same' _ _ _ (by rw [d10]; rfl))))), ((World.cell?_setCell_other _ _ _ _ (by intro e; simp only [Addr.mk.injEq] at e; omega)).trans ((World.cell?_setCell_other _ _ _ _ (by intro e; simp only [Addr.mk.injEq] at e; omega)).trans (World.cell?_setCell_same' _ _ _ (by rw [((World.cell?_setCell_other _ _ _ _ (by intro e; simp only [Addr.mk.injEq] at e; omega)).trans d11)]; rfl)))), ((World.cell?_setCell_other _ _ _ _ (by intro e; simp only [Addr.mk.injEq] at e; omega)).trans (World.cell?_setCell_same' _ _ _ (by rw [((World.cell?_setCell_other _ _ _ _ (by intro e; simp only [Addr.mk.injEq] at e; omega)).trans ((World.cell?_setCell_other _ _ _ _ (by intro e; simp only [Addr.mk.injEq] at e; omega)).trans d20))]; rfl))), (World.cell?_setCell_same' _ _ _ (by rw [((World.cell?_setCell_other _ _ _ _ (by intro e; simp only [Addr.mk.injEq] at e; omega)).trans ((World.cell?_setCell_other _ _ _ _ (by intro e; simp only [Addr.mk.injEq] at e; omega)).trans ((World.cell?_setCell_other _ _ _ _ (by intro e; simp only [Addr.mk.injEq] at e; omega)).trans d30)))]; rfl)), (by simp only [World.frozen?_setCell]; exact e10), (by simp only [World.frozen?_setCell]; exact e11), (by simp only [World.frozen?_setCell]; exact e20), (by simp only [World.frozen?_setCell]; exact e30)⟩, ((((hB.setCell (p := ⟨w.heap.size + 1, 0, none⟩) (by show w.heap.size ≤ w.heap.size + 1; omega) _).setCell (p := ⟨w.heap.size + 1, 1, none⟩) (by show w.heap.size ≤ w.heap.size + 1; omega) _).setCell (p := ⟨w.heap.size + 1 + 1, 0, none⟩) (by show w.heap.size ≤ w.heap.size + 1 + 1; omega) _).setCell (p := ⟨w.heap.size + 1 + 1 + 1, 0, none⟩) (by show w.heap.size ≤ w.heap.size + 1 + 1 + 1; omega) _)⟩
  case done =>
    rintro D ys W hD rfl ⟨⟨d00, d01, e00, e01, d10, d11, d20, d30, e10, e11, e20, e30⟩, hB⟩ hK
    simp only [lst] at d10 d11 d20 d30
    gi_wp2
    gi_region
    rw [setCell_same d00, setCell_same d01]
    gi_wp2
    have hK2 : W.drew.heap[D]? = some (.deferred (some [])) := hK
    have g0 : W.drew.cell? ⟨w.heap.size, 0, none⟩ = some (.int .u32 0) := d00
    have g1 : W.drew.cell? ⟨w.heap.size, 1, none⟩ = some (.int .i64 0) := d01
    refine ⟨by simp, .inl ⟨_, _, rfl, run_takeDeferred hK2, ?_⟩⟩
    have q0 := cell_kept g0 (grownBy_putObj' _ D (.deferred none)) (fun r e => by cases e; exact ⟨_, hK2, rfl⟩)
    have q1 := cell_kept g1 (grownBy_putObj' _ D (.deferred none)) (fun r e => by cases e; exact ⟨_, hK2, rfl⟩)
    refine ⟨.tuple #[.agg #[.int .u32 0, .int .i64 0], .string s, .bool true], ?_, rfl, hB.drew.trans (belowK_b (w := w) (Nat.le_refl _) _ D _ _ (by omega) hK2 rfl rfl)⟩
    simp [results, Try.f5, go_sem, q0, q1]
end Go.Proofs.Ytfnakobkibljiaa
