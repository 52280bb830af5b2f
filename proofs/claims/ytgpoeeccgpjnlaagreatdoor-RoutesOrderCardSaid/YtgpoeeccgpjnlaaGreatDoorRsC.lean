/- The order of routes as it is made and asked; of package waymarkref08: one, first. Under the conditions that they name. -/
import Derived.Test.YtgpoeeccgpjnlaaGreatDoorRsB
import Derived.Deep.RegionHeld3
import Derived.Deep.DeepCutAuto
namespace Go.Proofs.YtgpoeeccgpjnlaaGreatDoor
open Go.RowKit Go.Shelf
theorem inTurn_at (p : Option Addr) (n c : Nat) (w : World) : Calls Tryz.prog 20 #[.slice p n c] w fun e w' => e = .returned (.func (.func 65) #[] #[.pointer (some ⟨w.heap.size, 0, none⟩)]) ∧ ∃ t, w' = w.alloc (.cells #[.slice p n c] t) := by
  go_enter Tryz.func20, Tryz.ntmps20
  go_wp2
  go_ret
  exact ⟨rfl, _, rfl⟩
theorem order_is (w : World) : Calls Tryz.prog 11 #[] w fun e w' => ∃ q h, e = .returned (.func (.func 65) #[] #[.pointer (some ⟨q, 0, none⟩)]) ∧ OrdAt w' q h ∧ Below w.heap.size w w' := by
  go_enter Tryz.func11, Tryz.ntmps11
  go_wp2_with fail
  go_at_call 20
  refine (inTurn_at _ _ _ _).mono ?_
  rintro e w' ⟨rfl, t, rfl⟩
  obtain ⟨W1, hW1⟩ : ∃ X, w.alloc (.cells #[.func (.func 21) #[] #[], .func (.func 23) #[] #[], .func (.func 25) #[] #[], .func (.func 27) #[] #[], .func (.func 28) #[] #[], .func (.func 29) #[] #[], .func (.func 31) #[] #[], .func (.func 33) #[] #[]] 34) = X := ⟨_, rfl⟩
  have h1 : W1.heap[w.heap.size]? = some (.cells #[.func (.func 21) #[] #[], .func (.func 23) #[] #[], .func (.func 25) #[] #[], .func (.func 27) #[] #[], .func (.func 28) #[] #[], .func (.func 29) #[] #[], .func (.func 31) #[] #[], .func (.func 33) #[] #[]] 34 (0, 0)) := by rw [← hW1]; exact heap_new' _ _
  have hb : Below w.heap.size w W1 := by rw [← hW1]; exact (Below.refl _ _).alloc (Nat.le_refl _) _
  rw [hW1]
  have hlt := (Array.getElem?_eq_some_iff.1 h1).1
  have HO : Hid (OrdAt (W1.alloc (.cells #[.slice (some ⟨w.heap.size, 0, none⟩) 8 8] t)) W1.heap.size w.heap.size ∧ Below w.heap.size w (W1.alloc (.cells #[.slice (some ⟨w.heap.size, 0, none⟩) 8 8] t))) := Lib.hid (by
    have e1 := heap_new' W1 (.cells #[.slice (some ⟨w.heap.size, 0, none⟩) 8 8] t)
    have e2 := (heap_old' W1 (.cells #[.slice (some ⟨w.heap.size, 0, none⟩) 8 8] t) _ hlt).trans h1
    refine ⟨⟨by simp, by simp; omega, ?_, ?_, ?_, ?_, ?_, ?_, ?_, ?_, ?_⟩, hb.alloc hb.size _⟩
    · simp only [World.cell?, e1]; rfl
    all_goals simp only [World.cell?, e2]; rfl)
  clear h1 hb hW1
  go_wp2
  go_ret
  exact ⟨_, _, rfl, HO.out.1, HO.out.2⟩
set_option maxRecDepth 100000 in
set_option maxHeartbeats 8000000 in
theorem rcmp_is (r s : RtD) (w : World) : Calls Tryz.prog 5 #[.agg (encRt r).toArray, .agg (encRt s).toArray] w fun e w' => e = .returned (.int .i64 (cR r s)) ∧ Below w.heap.size w w' := by
  have HT : Hid (∀ (W : World) (q h : Nat), OrdAt W q h → Calls Tryz.prog 65 #[.agg (encRt r).toArray, .agg (encRt s).toArray, .pointer (some ⟨q, 0, none⟩)] W fun e w' => e = .returned (.int .i64 (cR r s)) ∧ Below W.heap.size W w') := Lib.hid fun W q h ho => turn_is r s W q h ho
  have eg : ∀ args w, (callFunc 65 args).run Tryz.prog w = .ok (.enter 65 args) w := enters_of Tryz.func65 (by kernel_rfl) rfl
  obtain ⟨v, hv⟩ : ∃ v, cR r s = v := ⟨_, rfl⟩
  rw [hv] at HT ⊢
  clear hv
  obtain ⟨a, b, fr, di, me, ta, nm, ho, dc⟩ := r
  obtain ⟨a2, b2, fr2, di2, me2, ta2, nm2, ho2, dc2⟩ := s
  simp only [encRt] at *
  obtain ⟨Z, hZ⟩ : ∃ X, (w.alloc (.cells #[.int .u32 a, .int .i64 b, .int .u8 fr, .int .i64 di, .int .i64 me, .int .i64 ta, .string nm, .int .u32 ho, .bool dc] 27)).alloc (.cells #[.int .u32 a2, .int .i64 b2, .int .u8 fr2, .int .i64 di2, .int .i64 me2, .int .i64 ta2, .string nm2, .int .u32 ho2, .bool dc2] 27) = X := ⟨_, rfl⟩
  have HBZ : Hid (Below w.heap.size w Z) := Lib.hid (by rw [← hZ]; exact ((Below.refl _ _).alloc (Nat.le_refl _) _).alloc (by simp) _)
  have hz : Z.heap.size = w.heap.size + 2 := by rw [← hZ]; simp
  have z1 : Z.heap[w.heap.size]? = some (.cells #[.int .u32 a, .int .i64 b, .int .u8 fr, .int .i64 di, .int .i64 me, .int .i64 ta, .string nm, .int .u32 ho, .bool dc] 27 (0, 0)) := by rw [← hZ, heap_old' _ _ _ (by simp)]; exact heap_new' _ _
  have z2 : Z.heap[w.heap.size + 1]? = some (.cells #[.int .u32 a2, .int .i64 b2, .int .u8 fr2, .int .i64 di2, .int .i64 me2, .int .i64 ta2, .string nm2, .int .u32 ho2, .bool dc2] 27 (0, 0)) := by rw [← hZ]; have := heap_new' (w.alloc (.cells #[.int .u32 a, .int .i64 b, .int .u8 fr, .int .i64 di, .int .i64 me, .int .i64 ta, .string nm, .int .u32 ho, .bool dc] 27)) (.cells #[.int .u32 a2, .int .i64 b2, .int .u8 fr2, .int .i64 di2, .int .i64 me2, .int .i64 ta2, .string nm2, .int .u32 ho2, .bool dc2] 27); simpa using this
  have HX : Hid (∀ W, Below Z.heap.size Z W → W.cell? ⟨w.heap.size, 0, none⟩ = some (.int .u32 a) ∧ W.cell? ⟨w.heap.size, 1, none⟩ = some (.int .i64 b) ∧ W.cell? ⟨w.heap.size, 2, none⟩ = some (.int .u8 fr) ∧ W.cell? ⟨w.heap.size, 3, none⟩ = some (.int .i64 di) ∧ W.cell? ⟨w.heap.size, 4, none⟩ = some (.int .i64 me) ∧ W.cell? ⟨w.heap.size, 5, none⟩ = some (.int .i64 ta) ∧ W.cell? ⟨w.heap.size, 6, none⟩ = some (.string nm) ∧ W.cell? ⟨w.heap.size, 7, none⟩ = some (.int .u32 ho) ∧ W.cell? ⟨w.heap.size, 8, none⟩ = some (.bool dc) ∧ W.cell? ⟨w.heap.size + 1, 0, none⟩ = some (.int .u32 a2) ∧ W.cell? ⟨w.heap.size + 1, 1, none⟩ = some (.int .i64 b2) ∧ W.cell? ⟨w.heap.size + 1, 2, none⟩ = some (.int .u8 fr2) ∧ W.cell? ⟨w.heap.size + 1, 3, none⟩ = some (.int .i64 di2) ∧ W.cell? ⟨w.heap.size + 1, 4, none⟩ = some (.int .i64 me2) ∧ W.cell? ⟨w.heap.size + 1, 5, none⟩ = some (.int .i64 ta2) ∧ W.cell? ⟨w.heap.size + 1, 6, none⟩ = some (.string nm2) ∧ W.cell? ⟨w.heap.size + 1, 7, none⟩ = some (.int .u32 ho2) ∧ W.cell? ⟨w.heap.size + 1, 8, none⟩ = some (.bool dc2)) := Lib.hid fun W hb => by
    have e1 := (hb.block w.heap.size (by omega)).trans z1
    have e2 := (hb.block (w.heap.size + 1) (by omega)).trans z2
    refine ⟨?_, ?_, ?_, ?_, ?_, ?_, ?_, ?_, ?_, ?_, ?_, ?_, ?_, ?_, ?_, ?_, ?_, ?_⟩ <;> first | (simp only [World.cell?, e1]; rfl) | (simp only [World.cell?, e2]; rfl)
  clear z1 z2 hz
  have hb0 : Below Z.heap.size Z Z := Below.refl _ _
  obtain ⟨x0, x1, x2, x3, x4, x5, x6, x7, x8, x9, x10, x11, x12, x13, x14, x15, x16, x17⟩ := HX.out Z (Below.refl _ _)
  have HO := Lib.hid fun W => order_is W
  go_enter Tryz.func5, Tryz.ntmps5
  go_wp2_with fail
  go_region_held3 (fun w' => w'.cell? ⟨w.heap.size, 0, none⟩ = some (.int .u32 a) ∧ w'.cell? ⟨w.heap.size, 1, none⟩ = some (.int .i64 b) ∧ w'.cell? ⟨w.heap.size, 2, none⟩ = some (.int .u8 fr) ∧ w'.cell? ⟨w.heap.size, 3, none⟩ = some (.int .i64 di) ∧ w'.cell? ⟨w.heap.size, 4, none⟩ = some (.int .i64 me) ∧ w'.cell? ⟨w.heap.size, 5, none⟩ = some (.int .i64 ta) ∧ w'.cell? ⟨w.heap.size, 6, none⟩ = some (.string nm) ∧ w'.cell? ⟨w.heap.size, 7, none⟩ = some (.int .u32 ho) ∧ w'.cell? ⟨w.heap.size, 8, none⟩ = some (.bool dc) ∧ w'.cell? ⟨w.heap.size + 1, 0, none⟩ = some (.int .u32 a2) ∧ w'.cell? ⟨w.heap.size + 1, 1, none⟩ = some (.int .i64 b2) ∧ w'.cell? ⟨w.heap.size + 1, 2, none⟩ = some (.int .u8 fr2) ∧ w'.cell? ⟨w.heap.size + 1, 3, none⟩ = some (.int .i64 di2) ∧ w'.cell? ⟨w.heap.size + 1, 4, none⟩ = some (.int .i64 me2) ∧ w'.cell? ⟨w.heap.size + 1, 5, none⟩ = some (.int .i64 ta2) ∧ w'.cell? ⟨w.heap.size + 1, 6, none⟩ = some (.string nm2) ∧ w'.cell? ⟨w.heap.size + 1, 7, none⟩ = some (.int .u32 ho2) ∧ w'.cell? ⟨w.heap.size + 1, 8, none⟩ = some (.bool dc2)) (first | exact HX.out _ (by first | assumption | exact hb0.drew) | go_keep | (trace_state; fail)) (first
    | (go_at_call 11; refine (HO.out _).mono ?_; rintro e w3 ⟨q, h, rfl, ho3, hb3⟩; have hb3 := Below.step (a := Z) (by first | assumption | exact hb0.drew) hb3)
    | (refine (HT.out _ q h (ho3.on (by first | exact Below.refl _ _ | exact (Below.refl _ _).drew))).mono ?_; rintro e w4 ⟨rfl, hb4⟩; have hb4 := Below.step (a := Z) (by assumption : Below Z.heap.size Z w3) hb4))
  have HB4 := Lib.hid hb4
  simp only [Exit.then]
  go_wp2
  go_ret
  exact ⟨rfl, HBZ.out.trans (HB4.out.mono HBZ.out.size)⟩
end Go.Proofs.YtgpoeeccgpjnlaaGreatDoor
