/- slices.Concat of two lists of numbers; Join of package lists: two lists' communities in form; the law's own comparison. Under the conditions that they name. -/
import Derived.Test.YtkkhmdiffddllaaDoorVaA
import Derived.Test.YtkkhmdiffddllaaDoorUtF
namespace Go.Proofs.YtkkhmdiffddllaaDoor
open Go.Shelf Go.RowKit Go.Lib Go.Sort
set_option maxRecDepth 100000 in
set_option maxHeartbeats 1000000 in
theorem concat_is (g : Nat) (v0 v1 : Value) (a b : List Int) (w : World) (hg : w.heap[g]? = some (.cells #[v0, v1] 22 (0, 0))) (h0 : RdK encU 1 w v0 a) (h1 : RdK encU 1 w v1 b) (ha : a.length ≤ 8796093022208) (hb : b.length ≤ 8796093022208) :
    Calls Tryd.prog 19 #[.slice (some ⟨g, 0, none⟩) 2 2] w fun e w' => ∃ v, e = .returned v ∧ OwnU w.heap.size w' v (a ++ b) ∧ Below w.heap.size w w' := by
  have H0 := Lib.hid h0
  have H1 := Lib.hid h1
  obtain ⟨p0, c0, rfl, _, _, q0⟩ := h0.sl
  clear q0
  obtain ⟨p1, c1, rfl, _, _, q1⟩ := h1.sl
  clear q1 h0 h1
  have HG := Lib.hid hg
  obtain ⟨x0, x1⟩ : w.cell? ⟨g, 0, none⟩ = some (.slice p0 a.length c0) ∧ w.cell? ⟨g, 1, none⟩ = some (.slice p1 b.length c1) := ⟨cell_heap hg, cell_heap hg⟩
  clear hg
  have GC := Lib.hid (grow_nil (a.length + b.length) (by omega) w)
  have hc : ((a.length + b.length : Nat) : Int) = (a.length : Int) + (b.length : Int) := by omega
  rw [hc] at GC
  clear hc
  go_enter Tryd.func19, Tryd.ntmps19
  go_wp2_with fail
  refine wp_loop_rounds 3 ?_
  rw [rounds_succ]
  go_wp2_with fail
  rw [rounds_succ]
  go_wp2_with fail
  rw [rounds_succ]
  go_wp2_with fail
  (with_reducible refine GC.out.mono ?_)
  rintro e W1 ⟨v, rfl, hO, hB1⟩
  have O1 := Lib.hid hO
  have B1 := Lib.hid hB1
  obtain ⟨p2, c2, hs⟩ := own_sl hO
  subst hs
  obtain ⟨y0, y1⟩ : W1.cell? ⟨g, 0, none⟩ = some (.slice p0 a.length c0) ∧ W1.cell? ⟨g, 1, none⟩ = some (.slice p1 b.length c1) := ⟨cell_heap (carryH HG.out hB1), cell_heap (carryH HG.out hB1)⟩
  clear hO hB1 GC x0 x1
  go_wp2_with fail
  refine wp_loop_rounds 3 ?_
  rw [rounds_succ]
  go_wp2_with (first
    | (at_builtin; refine wpList_append_rdk encU_len (by decide) encU_one rfl _ _ 22 23 rfl (.int .u32 0) 4 Tryd.underlying22 rfl infoU w.heap.size _ 0 [] rfl O1.out _ a rfl (H0.out.below B1.out) (by unfold maxLen; omega) (by omega) B1.out.size ?_
       intro v2 W2 o2 g2 n2
       have O2 : Hid (OwnU w.heap.size W2 v2 a) := Lib.hid (by simpa using o2)
       have B2 : Hid (Below w.heap.size w W2) := Lib.hid (B1.out.grown g2 B1.out.size (fun j hj => (O1.out.lt j hj).1))
       obtain ⟨z0, z1⟩ : W2.cell? ⟨g, 0, none⟩ = some (.slice p0 a.length c0) ∧ W2.cell? ⟨g, 1, none⟩ = some (.slice p1 b.length c1) := ⟨cell_heap (carryH HG.out B2.out), cell_heap (carryH HG.out B2.out)⟩
       obtain ⟨p3, c3, hs3⟩ := own_sl O2.out
       clear o2 g2 n2
       subst hs3))
  rw [rounds_succ]
  go_wp2_with (first
    | (at_builtin; refine wpList_append_rdk encU_len (by decide) encU_one rfl _ _ 22 23 rfl (.int .u32 0) 4 Tryd.underlying22 rfl infoU w.heap.size _ a.length (flatK encU a) rfl O2.out _ b rfl (H1.out.below B2.out) (by unfold maxLen; omega) (by omega) B2.out.size ?_
       intro v4 W4 o4 g4 n4
       have O4 : Hid (OwnU w.heap.size W4 v4 (a ++ b)) := Lib.hid (by show W4.ownsRow _ _ _ _ (a ++ b).length _; rw [List.length_append]; simpa [flatK, List.flatMap_append] using o4)
       have B4 : Hid (Below w.heap.size w W4) := Lib.hid (B2.out.grown g4 B2.out.size (fun j hj => (O2.out.lt j hj).1))
       clear o4 g4 n4))
  rw [rounds_succ]
  go_wp2_with fail
  go_ret
  exact ⟨_, rfl, O4.out, B4.out⟩
set_option maxRecDepth 100000 in
set_option maxHeartbeats 1000000 in
theorem join_is (v0 v1 : Value) (a b : List Int) (w : World) (h0 : RdK encU 1 w v0 a) (h1 : RdK encU 1 w v1 b) (ha : a.length ≤ 8796093022208) (hb : b.length ≤ 8796093022208) :
    Calls Tryd.prog 6 #[v0, v1] w fun e w' => ∃ v r, e = .returned v ∧ OwnU w.heap.size w' v r ∧ IsForm (a ++ b) r ∧ r.length ≤ (a ++ b).length ∧ Below w.heap.size w w' := by
  have H0 := Lib.hid h0
  have H1 := Lib.hid h1
  obtain ⟨p0, c0, rfl, _, _, q0⟩ := h0.sl
  clear q0
  obtain ⟨p1, c1, rfl, _, _, q1⟩ := h1.sl
  clear q1 h0 h1
  obtain ⟨W1, hW1⟩ : ∃ X, w.alloc (.cells #[.slice p0 a.length c0, .slice p1 b.length c1] 22) = X := ⟨_, rfl⟩
  have P1 := Lib.hid (heap_alc hW1)
  have B1 : Hid (Below w.heap.size w W1) := Lib.hid (by rw [← hW1]; exact (Below.refl _ _).alloc (Nat.le_refl _) _)
  have C1 := Lib.hid (concat_is w.heap.size (.slice p0 a.length c0) (.slice p1 b.length c1) a b W1 P1.out (H0.out.below B1.out) (H1.out.below B1.out) ha hb)
  have C2 := Lib.hid fun v W (hv : OwnU W1.heap.size W v (a ++ b)) => normal_is v (a ++ b) W (RdK.of_own encU_len hv) (by rw [List.length_append]; omega)
  go_enter Tryd.func6, Tryd.ntmps6
  go_wp2_with fail
  (with_reducible refine C1.out.mono ?_)
  rintro e W2 ⟨v, rfl, hO, hB2⟩
  have O2 := Lib.hid hO
  have B2 : Hid (Below w.heap.size w W2) := Lib.hid (Below.step B1.out hB2)
  clear hO hB2
  go_wp2_with fail
  go_at_call 5
  (with_reducible refine (C2.out v W2 O2.out).mono ?_)
  rintro e W3 ⟨v3, r, rfl, hO3, hf, hl, hb3⟩
  have O3 := Lib.hid (own_lower hO3 B2.out.size)
  have B3 : Hid (Below w.heap.size w W3) := Lib.hid (Below.step B2.out hb3)
  have F3 := Lib.hid hf
  have L3 := Lib.hid hl
  clear hO3 hb3 hf hl
  go_wp2
  go_ret
  exact ⟨_, r, rfl, O3.out, F3.out, L3.out, B3.out⟩
end Go.Proofs.YtkkhmdiffddllaaDoor
