/- The order of adverts as it is made and asked. Under the conditions that they name. -/
import Derived.Test.YtmbkkjofikijiaaGreatDoorRaB
import Derived.Deep.RegionHeld3
import Derived.Deep.DeepCutAuto
namespace Go.Proofs.YtmbkkjofikijiaaGreatDoor
open Go.RowKit Go.Shelf
theorem inTurnB (p : Option Addr) (n c : Nat) (w : World) : Calls Tryz.prog 79 #[.slice p n c] w fun e w' => e = .returned (.func (.func 132) #[] #[.pointer (some ⟨w.heap.size, 0, none⟩)]) ∧ ∃ t, w' = w.alloc (.cells #[.slice p n c] t) := by
  go_enter Tryz.func79, Tryz.ntmps79
  go_wp2
  go_ret
  exact ⟨rfl, _, rfl⟩
theorem orderB (w : World) : Calls Tryz.prog 50 #[] w fun e w' => ∃ q h, e = .returned (.func (.func 132) #[] #[.pointer (some ⟨q, 0, none⟩)]) ∧ OrdB w' q h ∧ Below w.heap.size w w' := by
  go_enter Tryz.func50, Tryz.ntmps50
  go_wp2_with fail
  go_at_call 79
  refine (inTurnB _ _ _ _).mono ?_
  rintro e w' ⟨rfl, t, rfl⟩
  obtain ⟨W1, hW1⟩ : ∃ X, w.alloc (.cells #[.func (.func 80) #[] #[], .func (.func 82) #[] #[], .func (.func 84) #[] #[], .func (.func 85) #[] #[], .func (.func 86) #[] #[], .func (.func 88) #[] #[], .func (.func 89) #[] #[], .func (.func 90) #[] #[], .func (.func 92) #[] #[], .func (.func 93) #[] #[], .func (.func 95) #[] #[], .func (.func 96) #[] #[]] 42) = X := ⟨_, rfl⟩
  have h1 : W1.heap[w.heap.size]? = some (.cells #[.func (.func 80) #[] #[], .func (.func 82) #[] #[], .func (.func 84) #[] #[], .func (.func 85) #[] #[], .func (.func 86) #[] #[], .func (.func 88) #[] #[], .func (.func 89) #[] #[], .func (.func 90) #[] #[], .func (.func 92) #[] #[], .func (.func 93) #[] #[], .func (.func 95) #[] #[], .func (.func 96) #[] #[]] 42 (0, 0)) := by rw [← hW1]; exact heap_new' _ _
  have hb : Below w.heap.size w W1 := by rw [← hW1]; exact (Below.refl _ _).alloc (Nat.le_refl _) _
  rw [hW1]
  have hlt := (Array.getElem?_eq_some_iff.1 h1).1
  have HO : Hid (OrdB (W1.alloc (.cells #[.slice (some ⟨w.heap.size, 0, none⟩) 12 12] t)) W1.heap.size w.heap.size ∧ Below w.heap.size w (W1.alloc (.cells #[.slice (some ⟨w.heap.size, 0, none⟩) 12 12] t))) := Lib.hid (by
    have e1 := heap_new' W1 (.cells #[.slice (some ⟨w.heap.size, 0, none⟩) 12 12] t)
    have e2 := (heap_old' W1 (.cells #[.slice (some ⟨w.heap.size, 0, none⟩) 12 12] t) _ hlt).trans h1
    refine ⟨⟨by simp, by simp; omega, ?_, ?_, ?_, ?_, ?_, ?_, ?_, ?_, ?_, ?_, ?_, ?_, ?_⟩, hb.alloc hb.size _⟩
    · simp only [World.cell?, e1]; rfl
    all_goals simp only [World.cell?, e2]; rfl)
  clear h1 hb hW1
  go_wp2
  go_ret
  exact ⟨_, _, rfl, HO.out.1, HO.out.2⟩
set_option maxRecDepth 100000 in
set_option maxHeartbeats 16000000 in
theorem acmp_is (r s : AdD) (w : World) (hr : RdA w r) (hs : RdA w s) : Calls Tryz.prog 17 #[.agg (encAd r).toArray, .agg (encAd s).toArray] w fun e w' => e = .returned (.int .i64 (cA r s)) ∧ Below w.heap.size w w' := by
  have HT : Hid (∀ (W : World) (q h : Nat), OrdB W q h → Below w.heap.size w W → Calls Tryz.prog 132 #[.agg (encAd r).toArray, .agg (encAd s).toArray, .pointer (some ⟨q, 0, none⟩)] W fun e w' => e = .returned (.int .i64 (cA r s)) ∧ Below W.heap.size W w') := Lib.hid fun W q h ho hb => (turnB r s W q h ho (hr.on hb) (hs.on hb)).mono fun e w' hp => ⟨hp.1, hp.2.1⟩
  have eg : ∀ args w, (callFunc 132 args).run Tryz.prog w = .ok (.enter 132 args) w := enters_of Tryz.func132 (by kernel_rfl) rfl
  obtain ⟨v, hv⟩ : ∃ v, cA r s = v := ⟨_, rfl⟩
  rw [hv] at HT ⊢
  clear hv hr hs
  obtain ⟨xa, xb, xho, xpf, xme, xpa, xvpa, xco, xvco, xpe, xpi, xex, xog, xcl, xvcl, xse⟩ := r
  obtain ⟨ya, yb, yho, ypf, yme, ypa, yvpa, yco, yvco, ype, ypi, yex, yog, ycl, yvcl, yse⟩ := s
  simp only [encAd] at *
  obtain ⟨Z, hZ⟩ : ∃ X, (w.alloc (.cells #[.int .u32 xa, .int .i64 xb, .int .u32 xho, .int .i64 xpf, .int .i64 xme, xvpa, xvco, .int .u32 xpe, .int .u32 xpi, .bool xex, .int .u32 xog, xvcl, .int .i64 xse] 31)).alloc (.cells #[.int .u32 ya, .int .i64 yb, .int .u32 yho, .int .i64 ypf, .int .i64 yme, yvpa, yvco, .int .u32 ype, .int .u32 ypi, .bool yex, .int .u32 yog, yvcl, .int .i64 yse] 31) = X := ⟨_, rfl⟩
  have HBZ : Hid (Below w.heap.size w Z) := Lib.hid (by rw [← hZ]; exact ((Below.refl _ _).alloc (Nat.le_refl _) _).alloc (by simp) _)
  have hz : Z.heap.size = w.heap.size + 2 := by rw [← hZ]; simp
  have z1 : Z.heap[w.heap.size]? = some (.cells #[.int .u32 xa, .int .i64 xb, .int .u32 xho, .int .i64 xpf, .int .i64 xme, xvpa, xvco, .int .u32 xpe, .int .u32 xpi, .bool xex, .int .u32 xog, xvcl, .int .i64 xse] 31 (0, 0)) := by rw [← hZ, heap_old' _ _ _ (by simp)]; exact heap_new' _ _
  have z2 : Z.heap[w.heap.size + 1]? = some (.cells #[.int .u32 ya, .int .i64 yb, .int .u32 yho, .int .i64 ypf, .int .i64 yme, yvpa, yvco, .int .u32 ype, .int .u32 ypi, .bool yex, .int .u32 yog, yvcl, .int .i64 yse] 31 (0, 0)) := by rw [← hZ]; have := heap_new' (w.alloc (.cells #[.int .u32 xa, .int .i64 xb, .int .u32 xho, .int .i64 xpf, .int .i64 xme, xvpa, xvco, .int .u32 xpe, .int .u32 xpi, .bool xex, .int .u32 xog, xvcl, .int .i64 xse] 31)) (.cells #[.int .u32 ya, .int .i64 yb, .int .u32 yho, .int .i64 ypf, .int .i64 yme, yvpa, yvco, .int .u32 ype, .int .u32 ypi, .bool yex, .int .u32 yog, yvcl, .int .i64 yse] 31); simpa using this
  have HX : Hid (∀ W, Below Z.heap.size Z W → W.cell? ⟨w.heap.size, 0, none⟩ = some (.int .u32 xa) ∧ W.cell? ⟨w.heap.size, 1, none⟩ = some (.int .i64 xb) ∧ W.cell? ⟨w.heap.size, 2, none⟩ = some (.int .u32 xho) ∧ W.cell? ⟨w.heap.size, 3, none⟩ = some (.int .i64 xpf) ∧ W.cell? ⟨w.heap.size, 4, none⟩ = some (.int .i64 xme) ∧ W.cell? ⟨w.heap.size, 5, none⟩ = some (xvpa) ∧ W.cell? ⟨w.heap.size, 6, none⟩ = some (xvco) ∧ W.cell? ⟨w.heap.size, 7, none⟩ = some (.int .u32 xpe) ∧ W.cell? ⟨w.heap.size, 8, none⟩ = some (.int .u32 xpi) ∧ W.cell? ⟨w.heap.size, 9, none⟩ = some (.bool xex) ∧ W.cell? ⟨w.heap.size, 10, none⟩ = some (.int .u32 xog) ∧ W.cell? ⟨w.heap.size, 11, none⟩ = some (xvcl) ∧ W.cell? ⟨w.heap.size, 12, none⟩ = some (.int .i64 xse) ∧ W.cell? ⟨w.heap.size + 1, 0, none⟩ = some (.int .u32 ya) ∧ W.cell? ⟨w.heap.size + 1, 1, none⟩ = some (.int .i64 yb) ∧ W.cell? ⟨w.heap.size + 1, 2, none⟩ = some (.int .u32 yho) ∧ W.cell? ⟨w.heap.size + 1, 3, none⟩ = some (.int .i64 ypf) ∧ W.cell? ⟨w.heap.size + 1, 4, none⟩ = some (.int .i64 yme) ∧ W.cell? ⟨w.heap.size + 1, 5, none⟩ = some (yvpa) ∧ W.cell? ⟨w.heap.size + 1, 6, none⟩ = some (yvco) ∧ W.cell? ⟨w.heap.size + 1, 7, none⟩ = some (.int .u32 ype) ∧ W.cell? ⟨w.heap.size + 1, 8, none⟩ = some (.int .u32 ypi) ∧ W.cell? ⟨w.heap.size + 1, 9, none⟩ = some (.bool yex) ∧ W.cell? ⟨w.heap.size + 1, 10, none⟩ = some (.int .u32 yog) ∧ W.cell? ⟨w.heap.size + 1, 11, none⟩ = some (yvcl) ∧ W.cell? ⟨w.heap.size + 1, 12, none⟩ = some (.int .i64 yse)) := Lib.hid fun W hb => by
    have e1 := (hb.block w.heap.size (by omega)).trans z1
    have e2 := (hb.block (w.heap.size + 1) (by omega)).trans z2
    refine ⟨?_, ?_, ?_, ?_, ?_, ?_, ?_, ?_, ?_, ?_, ?_, ?_, ?_, ?_, ?_, ?_, ?_, ?_, ?_, ?_, ?_, ?_, ?_, ?_, ?_, ?_⟩ <;> first | (simp only [World.cell?, e1]; rfl) | (simp only [World.cell?, e2]; rfl)
  clear z1 z2 hz
  have hb0 : Below Z.heap.size Z Z := Below.refl _ _
  obtain ⟨z0, z1, z2, z3, z4, z5, z6, z7, z8, z9, z10, z11, z12, z13, z14, z15, z16, z17, z18, z19, z20, z21, z22, z23, z24, z25⟩ := HX.out Z (Below.refl _ _)
  have HO := Lib.hid fun W => orderB W
  go_enter Tryz.func17, Tryz.ntmps17
  go_wp2_with fail
  go_region_held3 (fun w' => w'.cell? ⟨w.heap.size, 0, none⟩ = some (.int .u32 xa) ∧ w'.cell? ⟨w.heap.size, 1, none⟩ = some (.int .i64 xb) ∧ w'.cell? ⟨w.heap.size, 2, none⟩ = some (.int .u32 xho) ∧ w'.cell? ⟨w.heap.size, 3, none⟩ = some (.int .i64 xpf) ∧ w'.cell? ⟨w.heap.size, 4, none⟩ = some (.int .i64 xme) ∧ w'.cell? ⟨w.heap.size, 5, none⟩ = some (xvpa) ∧ w'.cell? ⟨w.heap.size, 6, none⟩ = some (xvco) ∧ w'.cell? ⟨w.heap.size, 7, none⟩ = some (.int .u32 xpe) ∧ w'.cell? ⟨w.heap.size, 8, none⟩ = some (.int .u32 xpi) ∧ w'.cell? ⟨w.heap.size, 9, none⟩ = some (.bool xex) ∧ w'.cell? ⟨w.heap.size, 10, none⟩ = some (.int .u32 xog) ∧ w'.cell? ⟨w.heap.size, 11, none⟩ = some (xvcl) ∧ w'.cell? ⟨w.heap.size, 12, none⟩ = some (.int .i64 xse) ∧ w'.cell? ⟨w.heap.size + 1, 0, none⟩ = some (.int .u32 ya) ∧ w'.cell? ⟨w.heap.size + 1, 1, none⟩ = some (.int .i64 yb) ∧ w'.cell? ⟨w.heap.size + 1, 2, none⟩ = some (.int .u32 yho) ∧ w'.cell? ⟨w.heap.size + 1, 3, none⟩ = some (.int .i64 ypf) ∧ w'.cell? ⟨w.heap.size + 1, 4, none⟩ = some (.int .i64 yme) ∧ w'.cell? ⟨w.heap.size + 1, 5, none⟩ = some (yvpa) ∧ w'.cell? ⟨w.heap.size + 1, 6, none⟩ = some (yvco) ∧ w'.cell? ⟨w.heap.size + 1, 7, none⟩ = some (.int .u32 ype) ∧ w'.cell? ⟨w.heap.size + 1, 8, none⟩ = some (.int .u32 ypi) ∧ w'.cell? ⟨w.heap.size + 1, 9, none⟩ = some (.bool yex) ∧ w'.cell? ⟨w.heap.size + 1, 10, none⟩ = some (.int .u32 yog) ∧ w'.cell? ⟨w.heap.size + 1, 11, none⟩ = some (yvcl) ∧ w'.cell? ⟨w.heap.size + 1, 12, none⟩ = some (.int .i64 yse)) (first | exact HX.out _ (by first | assumption | exact hb0.drew) | go_keep | (trace_state; fail)) (first
    | (go_at_call 50; refine (HO.out _).mono ?_; rintro e w3 ⟨q, h, rfl, ho3, hb3⟩; have hb3 := Below.step (a := Z) (by first | assumption | exact hb0.drew) hb3)
    | (refine (HT.out _ q h (ho3.on (by first | exact Below.refl _ _ | exact (Below.refl _ _).drew)) (HBZ.out.trans (Below.mono (by first | assumption | exact (by assumption : Below Z.heap.size Z w3).drew) HBZ.out.size))).mono ?_; rintro e w4 ⟨rfl, hb4⟩; have hb4 := Below.step (a := Z) (by assumption : Below Z.heap.size Z w3) hb4))
  have HB4 := Lib.hid hb4
  simp only [Exit.then]
  go_wp2
  go_ret
  exact ⟨rfl, HBZ.out.trans (HB4.out.mono HBZ.out.size)⟩
end Go.Proofs.YtmbkkjofikijiaaGreatDoor
