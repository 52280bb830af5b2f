/- The order of prefixes of package waymarkref08. No condition. -/
import Derived.Test.YtiimbcdnblhpfaaRsD
import Derived.Deep.RegionHeld3
import Derived.Deep.DeepCutAuto
namespace Go.Proofs.Ytiimbcdnblhpfaa
open Go.RowKit Go.Shelf
theorem one_c (x y : Int) (w : World) : Calls Try.prog 15 #[.bool (decide (x < y)), .bool (decide (y < x))] w fun e w' => e = .returned (.int .i64 (cI x y)) ∧ w = w' := by
  refine (one_is _ _ _).mono ?_
  rintro e w' ⟨rfl, h⟩
  exact ⟨by simp [cI], h⟩
theorem first_new (l : List Int) (w : World) (n : Nat) (hn : n = l.length) (hl : l.length ≤ 1000) : Calls Try.prog 13 #[.slice (some ⟨w.heap.size, 0, none⟩) n n] (w.alloc (.cells (l.map (Value.int .i64)).toArray 3)) fun e w' => e = .returned (.int .i64 (fst0 l)) ∧ w' = w.alloc (.cells (l.map (Value.int .i64)).toArray 3) := by
  subst hn
  refine (first_is l w.heap.size _ hl fun i hi => ?_).mono fun e w' h => ⟨h.1, h.2.symm⟩
  have h := heap_new' w (.cells (l.map (Value.int .i64)).toArray 3)
  simp only [World.cell?, h]
  simp [hi]
theorem cell_n {w : World} {cs : Array Value} {t : TypeId} {i : Nat} {v : Value} (h : cs[i]? = some v) : (w.alloc (.cells cs t)).cell? ⟨w.heap.size, i, none⟩ = some v := by
  have h2 := heap_new' w (.cells cs t)
  simp only [World.cell?, h2]
  exact h
theorem cell_nd {w : World} {cs : Array Value} {t : TypeId} {i : Nat} {v : Value} (h : cs[i]? = some v) : (w.alloc (.cells cs t)).drew.cell? ⟨w.heap.size, i, none⟩ = some v := cell_n h
set_option maxRecDepth 100000 in
set_option maxHeartbeats 8000000 in
theorem rpref_is (a b c d : Int) (w : World) : Calls Try.prog 14 #[.agg #[.int .u32 a, .int .i64 b], .agg #[.int .u32 c, .int .i64 d]] w fun e w' => e = .returned (.int .i64 (cP a b c d)) ∧ Below w.heap.size w w' := by
  have H1 := Lib.hid fun W => one_c a c W
  have H2 := Lib.hid fun W => one_c b d W
  have HV : Hid (cP a b c d = fst0 [cI a c, cI b d]) := Lib.hid (by
    simp only [cP, fst0]
    by_cases h : cI a c = 0
    · rw [if_pos h, if_pos h]; split <;> simp_all
    · rw [if_neg h, if_neg h])
  obtain ⟨v, hv⟩ : ∃ v, cP a b c d = v := ⟨_, rfl⟩
  rw [hv] at HV ⊢
  obtain ⟨k1, hk1⟩ : ∃ v, cI a c = v := ⟨_, rfl⟩
  obtain ⟨k2, hk2⟩ : ∃ v, cI b d = v := ⟨_, rfl⟩
  rw [hk1] at H1 HV
  rw [hk2] at H2 HV
  clear hv hk1 hk2
  obtain ⟨Z, hZ⟩ : ∃ X, (w.alloc (.cells #[.int .u32 a, .int .i64 b] 26)).alloc (.cells #[.int .u32 c, .int .i64 d] 26) = X := ⟨_, rfl⟩
  have HBZ : Hid (Below w.heap.size w Z) := Lib.hid (by rw [← hZ]; exact ((Below.refl _ _).alloc (Nat.le_refl _) _).alloc (by simp) _)
  have hz : Z.heap.size = w.heap.size + 2 := by rw [← hZ]; simp
  have z1 : Z.heap[w.heap.size]? = some (.cells #[.int .u32 a, .int .i64 b] 26 (0, 0)) := by rw [← hZ, heap_old' _ _ _ (by simp)]; exact heap_new' _ _
  have z2 : Z.heap[w.heap.size + 1]? = some (.cells #[.int .u32 c, .int .i64 d] 26 (0, 0)) := by rw [← hZ]; have := heap_new' (w.alloc (.cells #[.int .u32 a, .int .i64 b] 26)) (.cells #[.int .u32 c, .int .i64 d] 26); simpa using this
  have HX : Hid (∀ W, Below Z.heap.size Z W → W.cell? ⟨w.heap.size, 0, none⟩ = some (.int .u32 a) ∧ W.cell? ⟨w.heap.size, 1, none⟩ = some (.int .i64 b) ∧ W.cell? ⟨w.heap.size + 1, 0, none⟩ = some (.int .u32 c) ∧ W.cell? ⟨w.heap.size + 1, 1, none⟩ = some (.int .i64 d)) := Lib.hid fun W hb => by
    have e1 := (hb.block w.heap.size (by omega)).trans z1
    have e2 := (hb.block (w.heap.size + 1) (by omega)).trans z2
    refine ⟨?_, ?_, ?_, ?_⟩ <;> first | (simp only [World.cell?, e1]; rfl) | (simp only [World.cell?, e2]; rfl)
  have HF : Hid (∀ (W : World) (g : Nat), W.cell? ⟨g, 0, none⟩ = some (.int .i64 k1) → W.cell? ⟨g, 1, none⟩ = some (.int .i64 k2) → Calls Try.prog 13 #[.slice (some ⟨g, 0, none⟩) 2 2] W fun e w' => e = .returned (.int .i64 (fst0 [k1, k2])) ∧ W = w') := Lib.hid fun W g h1 h2 => first_is [k1, k2] g W (by simp) fun i hi => by
    match i, hi with
    | 0, _ => exact h1
    | 1, _ => exact h2
  clear z1 z2 hz
  have hb0 : Below Z.heap.size Z Z := Below.refl _ _
  obtain ⟨x0, x1, x2, x3⟩ := HX.out Z (Below.refl _ _)
  go_enter Try.func14, Try.ntmps14
  go_wp2_with fail
  go_region_held3 (fun w' => w'.cell? ⟨w.heap.size, 0, none⟩ = some (.int .u32 a) ∧ w'.cell? ⟨w.heap.size, 1, none⟩ = some (.int .i64 b) ∧ w'.cell? ⟨w.heap.size + 1, 0, none⟩ = some (.int .u32 c) ∧ w'.cell? ⟨w.heap.size + 1, 1, none⟩ = some (.int .i64 d)) (first | exact HX.out _ (by first | assumption | exact hb0.drew) | exact HX.out _ (Below.alloc (by first | assumption | exact hb0.drew) (Below.size (by first | assumption | exact hb0.drew)) _) | go_keep | (trace_state; fail)) (first
    | (go_at_call 15; refine (H1.out _).mono ?_; rintro e w3 ⟨rfl, rfl⟩)
    | (go_at_call 15; refine (H2.out _).mono ?_; rintro e w3 ⟨rfl, rfl⟩)
    | (go_at_call 13; refine (HF.out _ _ (by first | exact cell_nd rfl | exact cell_n rfl) (by first | exact cell_nd rfl | exact cell_n rfl)).mono ?_; rintro e w3 ⟨rfl, rfl⟩))
  simp only [Exit.then]
  go_wp2
  go_ret
  rw [HV.out]
  exact ⟨rfl, (HBZ.out.alloc HBZ.out.size _).drew⟩
end Go.Proofs.Ytiimbcdnblhpfaa
