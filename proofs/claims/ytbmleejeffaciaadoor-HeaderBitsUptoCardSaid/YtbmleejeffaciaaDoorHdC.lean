/- What Cmp of package header hands back: which of the two rows of bytes comes first. Under the condition that the fields are what their types hold. -/
import Derived.Test.YtbmleejeffaciaaDoorHdW0
import Derived.Deep.RegionWith
import Derived.Deep.DeepCutAuto
import Derived.Deep.RegionHeld3
import Derived.Deep.MidRow
import Derived.Test.YtbmleejeffaciaaDoorHdCmp
namespace Go.Proofs.YtbmleejeffaciaaDoor
open Go.RowKit
/-- Which of two rows of bytes comes first. -/
def cmpH (a b : List Int) : Int := Lib.compareBytes (Lib.bytesOf a) (Lib.bytesOf b)
/-- Two rows of bytes stand in boxes. -/
def CmpAt (w : World) (A B : List Value) (s5 s6 : Value) (wx : World) : Prop := ∃ gA gB, s5 = .pointer (some ⟨gA, 0, none⟩) ∧ s6 = .pointer (some ⟨gB, 0, none⟩) ∧ wx.rangeAt gA 0 A ∧ wx.rangeAt gB 0 B ∧ Below w.heap.size w wx
theorem cell_far {W : World} {g b o : Nat} {vs : List Value} {v : Value} (h : W.cell? ⟨b, o, none⟩ = some v) (hne : b ≠ g) : (W.setCells g 0 vs).cell? ⟨b, o, none⟩ = some v := by
  rw [World.cell?_setCells_out _ _ _ _ _ (fun e => absurd e hne)]; exact h
theorem below_setCells {B g : Nat} {a : World} (vs : List Value) : ∀ {o : Nat} {w : World}, Below B a w → B ≤ g → Below B a (w.setCells g o vs) := by
  induction vs with
  | nil => intro o w h _; exact h
  | cons v vs ih => intro o w h hg; exact ih (Below.setCell (p := ⟨g, o, none⟩) h hg v) hg
theorem there_new {V : World} {g : Nat} (h : g = V.heap.size) : (V.alloc (.cells #[.int .u8 0, .int .u8 0, .int .u8 0, .int .u8 0, .int .u8 0, .int .u8 0, .int .u8 0, .int .u8 0, .int .u8 0, .int .u8 0, .int .u8 0, .int .u8 0, .int .u8 0] 39)).there g 0 13 := by
  subst h
  intro j hj
  rw [Nat.zero_add]
  refine ⟨?_, frozen_of_row _ _ j _ _ (heap_alloc_last V _)⟩
  rw [cell_of_row _ _ j _ _ (0, 0) (heap_alloc_last V _)]
  match j, hj with
  | 0, _ => rfl
  | 1, _ => rfl
  | 2, _ => rfl
  | 3, _ => rfl
  | 4, _ => rfl
  | 5, _ => rfl
  | 6, _ => rfl
  | 7, _ => rfl
  | 8, _ => rfl
  | 9, _ => rfl
  | 10, _ => rfl
  | 11, _ => rfl
  | 12, _ => rfl
theorem cmp_leaf {w : World} {mA mB : List Value} (W : World) (g5 g6 : Nat) (lA : mA.length = 13) (lB : mB.length = 13) (h5 : W.there g5 0 13) (h6 : W.there g6 0 13) (hne : g5 ≠ g6) (n5 : w.heap.size ≤ g5) (n6 : w.heap.size ≤ g6) (hb : Below w.heap.size w W) :
    CmpAt w mA mB (.pointer (some ⟨g5, 0, none⟩)) (.pointer (some ⟨g6, 0, none⟩)) ((W.drew.setCells g5 0 mA).setCells g6 0 mB) :=
  ⟨g5, g6, rfl, rfl, World.rangeAt_setCells_apart (World.rangeAt_setCells_same _ _ _ _ (by rw [lA]; exact (World.there_drew _ _ _ _).2 h5)) _ _ _ (.inl hne), World.rangeAt_setCells_same _ _ _ _ (by rw [lB]; exact World.there_setCells ((World.there_drew _ _ _ _).2 h6) _ _ _), below_setCells _ (below_setCells _ hb.drew n5) n6⟩
theorem byA_form (s d p sp dp : Int) (h : Hdr s d p sp dp) : ∃ m : List Value, m = (byL s d p sp dp).map u8V ∧ m.length = 13 ∧ (∀ v ∈ m, v.oneCell' = true) ∧ ∀ w : World, Calls Tryd.prog 22 #[.agg #[.int .u32 s, .int .u32 d, .int .u8 p, .int .u16 sp, .int .u16 dp]] w fun e w' => e = .returned (.agg m.toArray) ∧ ((w.alloc (.cells #[.int .u32 s, .int .u32 d, .int .u8 p, .int .u16 sp, .int .u16 dp] 27)).alloc (.cells m.toArray 39)).alloc (.cells m.toArray 39) = w' :=
  ⟨_, rfl, rfl, u8V_one _, fun w => (bytes_w s d p sp dp w h).mono fun _ _ ⟨he, hw⟩ => ⟨he, hw.symm⟩⟩
set_option maxRecDepth 100000 in
set_option maxHeartbeats 16000000 in
theorem cmp_is (s d p sp dp s' d' p' sp' dp' : Int) (w : World) (h : Hdr s d p sp dp) (h' : Hdr s' d' p' sp' dp') :
    Calls Tryd.prog 16 #[.agg #[.int .u32 s, .int .u32 d, .int .u8 p, .int .u16 sp, .int .u16 dp], .agg #[.int .u32 s', .int .u32 d', .int .u8 p', .int .u16 sp', .int .u16 dp']] w fun e w' => e = .returned (.int .i64 (cmpH (byL s d p sp dp) (byL s' d' p' sp' dp'))) ∧ Below w.heap.size w w' := by
  obtain ⟨mA, eA, lA, oA, hA⟩ := byA_form s d p sp dp h
  obtain ⟨mB, eB, lB, oB, hB⟩ := byA_form s' d' p' sp' dp' h'
  have HA := Lib.hid hA
  have HB := Lib.hid hB
  have EA := Lib.hid eA; have EB := Lib.hid eB
  have i13 : (Tryd.prog.info? 39).map (·.size) = some 13 := by kernel_rfl
  clear h h' eA eB hA hB
  have r0 : ∀ (V : World) (g : Nat), g = V.heap.size → ((V.alloc (.cells #[.int .u8 0, .int .u8 0, .int .u8 0, .int .u8 0, .int .u8 0, .int .u8 0, .int .u8 0, .int .u8 0, .int .u8 0, .int .u8 0, .int .u8 0, .int .u8 0, .int .u8 0] 39)).drew).there g 0 13 := fun V g hg => (World.there_drew _ _ _ _).2 (there_new hg)
  have q0 : ∀ (V : World) (g b : Nat) (vs : List Value), g = V.heap.size → (((V.alloc (.cells #[.int .u8 0, .int .u8 0, .int .u8 0, .int .u8 0, .int .u8 0, .int .u8 0, .int .u8 0, .int .u8 0, .int .u8 0, .int .u8 0, .int .u8 0, .int .u8 0, .int .u8 0] 39)).drew).setCells b 0 vs).there g 0 13 := fun V g b vs hg => World.there_setCells ((World.there_drew _ _ _ _).2 (there_new hg)) _ _ _
  have r1 : ∀ (V : World) (g : Nat) (o1 : Obj), g = V.heap.size → (((V.alloc (.cells #[.int .u8 0, .int .u8 0, .int .u8 0, .int .u8 0, .int .u8 0, .int .u8 0, .int .u8 0, .int .u8 0, .int .u8 0, .int .u8 0, .int .u8 0, .int .u8 0, .int .u8 0] 39)).alloc o1).drew).there g 0 13 := fun V g o1 hg => (World.there_drew _ _ _ _).2 (World.there_alloc (there_new hg) _)
  have q1 : ∀ (V : World) (g b : Nat) (vs : List Value) (o1 : Obj), g = V.heap.size → ((((V.alloc (.cells #[.int .u8 0, .int .u8 0, .int .u8 0, .int .u8 0, .int .u8 0, .int .u8 0, .int .u8 0, .int .u8 0, .int .u8 0, .int .u8 0, .int .u8 0, .int .u8 0, .int .u8 0] 39)).alloc o1).drew).setCells b 0 vs).there g 0 13 := fun V g b vs o1 hg => World.there_setCells ((World.there_drew _ _ _ _).2 (World.there_alloc (there_new hg) _)) _ _ _
  have r2 : ∀ (V : World) (g : Nat) (o1 o2 : Obj), g = V.heap.size → ((((V.alloc (.cells #[.int .u8 0, .int .u8 0, .int .u8 0, .int .u8 0, .int .u8 0, .int .u8 0, .int .u8 0, .int .u8 0, .int .u8 0, .int .u8 0, .int .u8 0, .int .u8 0, .int .u8 0] 39)).alloc o1).alloc o2).drew).there g 0 13 := fun V g o1 o2 hg => (World.there_drew _ _ _ _).2 (World.there_alloc (World.there_alloc (there_new hg) _) _)
  have q2 : ∀ (V : World) (g b : Nat) (vs : List Value) (o1 o2 : Obj), g = V.heap.size → (((((V.alloc (.cells #[.int .u8 0, .int .u8 0, .int .u8 0, .int .u8 0, .int .u8 0, .int .u8 0, .int .u8 0, .int .u8 0, .int .u8 0, .int .u8 0, .int .u8 0, .int .u8 0, .int .u8 0] 39)).alloc o1).alloc o2).drew).setCells b 0 vs).there g 0 13 := fun V g b vs o1 o2 hg => World.there_setCells ((World.there_drew _ _ _ _).2 (World.there_alloc (World.there_alloc (there_new hg) _) _)) _ _ _
  have r3 : ∀ (V : World) (g : Nat) (o1 o2 o3 : Obj), g = V.heap.size → (((((V.alloc (.cells #[.int .u8 0, .int .u8 0, .int .u8 0, .int .u8 0, .int .u8 0, .int .u8 0, .int .u8 0, .int .u8 0, .int .u8 0, .int .u8 0, .int .u8 0, .int .u8 0, .int .u8 0] 39)).alloc o1).alloc o2).alloc o3).drew).there g 0 13 := fun V g o1 o2 o3 hg => (World.there_drew _ _ _ _).2 (World.there_alloc (World.there_alloc (World.there_alloc (there_new hg) _) _) _)
  have q3 : ∀ (V : World) (g b : Nat) (vs : List Value) (o1 o2 o3 : Obj), g = V.heap.size → ((((((V.alloc (.cells #[.int .u8 0, .int .u8 0, .int .u8 0, .int .u8 0, .int .u8 0, .int .u8 0, .int .u8 0, .int .u8 0, .int .u8 0, .int .u8 0, .int .u8 0, .int .u8 0, .int .u8 0] 39)).alloc o1).alloc o2).alloc o3).drew).setCells b 0 vs).there g 0 13 := fun V g b vs o1 o2 o3 hg => World.there_setCells ((World.there_drew _ _ _ _).2 (World.there_alloc (World.there_alloc (World.there_alloc (there_new hg) _) _) _)) _ _ _
  have r4 : ∀ (V : World) (g : Nat) (o1 o2 o3 o4 : Obj), g = V.heap.size → ((((((V.alloc (.cells #[.int .u8 0, .int .u8 0, .int .u8 0, .int .u8 0, .int .u8 0, .int .u8 0, .int .u8 0, .int .u8 0, .int .u8 0, .int .u8 0, .int .u8 0, .int .u8 0, .int .u8 0] 39)).alloc o1).alloc o2).alloc o3).alloc o4).drew).there g 0 13 := fun V g o1 o2 o3 o4 hg => (World.there_drew _ _ _ _).2 (World.there_alloc (World.there_alloc (World.there_alloc (World.there_alloc (there_new hg) _) _) _) _)
  have q4 : ∀ (V : World) (g b : Nat) (vs : List Value) (o1 o2 o3 o4 : Obj), g = V.heap.size → (((((((V.alloc (.cells #[.int .u8 0, .int .u8 0, .int .u8 0, .int .u8 0, .int .u8 0, .int .u8 0, .int .u8 0, .int .u8 0, .int .u8 0, .int .u8 0, .int .u8 0, .int .u8 0, .int .u8 0] 39)).alloc o1).alloc o2).alloc o3).alloc o4).drew).setCells b 0 vs).there g 0 13 := fun V g b vs o1 o2 o3 o4 hg => World.there_setCells ((World.there_drew _ _ _ _).2 (World.there_alloc (World.there_alloc (World.there_alloc (World.there_alloc (there_new hg) _) _) _) _)) _ _ _
  have r5 : ∀ (V : World) (g : Nat) (o1 o2 o3 o4 o5 : Obj), g = V.heap.size → (((((((V.alloc (.cells #[.int .u8 0, .int .u8 0, .int .u8 0, .int .u8 0, .int .u8 0, .int .u8 0, .int .u8 0, .int .u8 0, .int .u8 0, .int .u8 0, .int .u8 0, .int .u8 0, .int .u8 0] 39)).alloc o1).alloc o2).alloc o3).alloc o4).alloc o5).drew).there g 0 13 := fun V g o1 o2 o3 o4 o5 hg => (World.there_drew _ _ _ _).2 (World.there_alloc (World.there_alloc (World.there_alloc (World.there_alloc (World.there_alloc (there_new hg) _) _) _) _) _)
  have q5 : ∀ (V : World) (g b : Nat) (vs : List Value) (o1 o2 o3 o4 o5 : Obj), g = V.heap.size → ((((((((V.alloc (.cells #[.int .u8 0, .int .u8 0, .int .u8 0, .int .u8 0, .int .u8 0, .int .u8 0, .int .u8 0, .int .u8 0, .int .u8 0, .int .u8 0, .int .u8 0, .int .u8 0, .int .u8 0] 39)).alloc o1).alloc o2).alloc o3).alloc o4).alloc o5).drew).setCells b 0 vs).there g 0 13 := fun V g b vs o1 o2 o3 o4 o5 hg => World.there_setCells ((World.there_drew _ _ _ _).2 (World.there_alloc (World.there_alloc (World.there_alloc (World.there_alloc (World.there_alloc (there_new hg) _) _) _) _) _)) _ _ _
  have r6 : ∀ (V : World) (g : Nat) (o1 o2 o3 o4 o5 o6 : Obj), g = V.heap.size → ((((((((V.alloc (.cells #[.int .u8 0, .int .u8 0, .int .u8 0, .int .u8 0, .int .u8 0, .int .u8 0, .int .u8 0, .int .u8 0, .int .u8 0, .int .u8 0, .int .u8 0, .int .u8 0, .int .u8 0] 39)).alloc o1).alloc o2).alloc o3).alloc o4).alloc o5).alloc o6).drew).there g 0 13 := fun V g o1 o2 o3 o4 o5 o6 hg => (World.there_drew _ _ _ _).2 (World.there_alloc (World.there_alloc (World.there_alloc (World.there_alloc (World.there_alloc (World.there_alloc (there_new hg) _) _) _) _) _) _)
  have q6 : ∀ (V : World) (g b : Nat) (vs : List Value) (o1 o2 o3 o4 o5 o6 : Obj), g = V.heap.size → (((((((((V.alloc (.cells #[.int .u8 0, .int .u8 0, .int .u8 0, .int .u8 0, .int .u8 0, .int .u8 0, .int .u8 0, .int .u8 0, .int .u8 0, .int .u8 0, .int .u8 0, .int .u8 0, .int .u8 0] 39)).alloc o1).alloc o2).alloc o3).alloc o4).alloc o5).alloc o6).drew).setCells b 0 vs).there g 0 13 := fun V g b vs o1 o2 o3 o4 o5 o6 hg => World.there_setCells ((World.there_drew _ _ _ _).2 (World.there_alloc (World.there_alloc (World.there_alloc (World.there_alloc (World.there_alloc (World.there_alloc (there_new hg) _) _) _) _) _) _)) _ _ _
  have r7 : ∀ (V : World) (g : Nat) (o1 o2 o3 o4 o5 o6 o7 : Obj), g = V.heap.size → (((((((((V.alloc (.cells #[.int .u8 0, .int .u8 0, .int .u8 0, .int .u8 0, .int .u8 0, .int .u8 0, .int .u8 0, .int .u8 0, .int .u8 0, .int .u8 0, .int .u8 0, .int .u8 0, .int .u8 0] 39)).alloc o1).alloc o2).alloc o3).alloc o4).alloc o5).alloc o6).alloc o7).drew).there g 0 13 := fun V g o1 o2 o3 o4 o5 o6 o7 hg => (World.there_drew _ _ _ _).2 (World.there_alloc (World.there_alloc (World.there_alloc (World.there_alloc (World.there_alloc (World.there_alloc (World.there_alloc (there_new hg) _) _) _) _) _) _) _)
  have q7 : ∀ (V : World) (g b : Nat) (vs : List Value) (o1 o2 o3 o4 o5 o6 o7 : Obj), g = V.heap.size → ((((((((((V.alloc (.cells #[.int .u8 0, .int .u8 0, .int .u8 0, .int .u8 0, .int .u8 0, .int .u8 0, .int .u8 0, .int .u8 0, .int .u8 0, .int .u8 0, .int .u8 0, .int .u8 0, .int .u8 0] 39)).alloc o1).alloc o2).alloc o3).alloc o4).alloc o5).alloc o6).alloc o7).drew).setCells b 0 vs).there g 0 13 := fun V g b vs o1 o2 o3 o4 o5 o6 o7 hg => World.there_setCells ((World.there_drew _ _ _ _).2 (World.there_alloc (World.there_alloc (World.there_alloc (World.there_alloc (World.there_alloc (World.there_alloc (World.there_alloc (there_new hg) _) _) _) _) _) _) _)) _ _ _
  have rs : ∀ (V : World) (o : Obj), (V.alloc o).heap.size = V.heap.size + 1 := fun V o => by simp
  go_enter Tryd.func16, Tryd.ntmps16
  go_upto_region 1 with fail
  go_cut [5, 6] (fun s5 s6 wx => CmpAt w mA mB s5 s6 wx)
  case first =>
    go_region_held3 (fun w' => (w'.cell? ⟨w.heap.size, 0, none⟩ = some (.int .u32 s) ∧ w'.cell? ⟨w.heap.size, 1, none⟩ = some (.int .u32 d) ∧ w'.cell? ⟨w.heap.size, 2, none⟩ = some (.int .u8 p) ∧ w'.cell? ⟨w.heap.size, 3, none⟩ = some (.int .u16 sp) ∧ w'.cell? ⟨w.heap.size, 4, none⟩ = some (.int .u16 dp)) ∧ (w'.cell? ⟨w.heap.size + 1, 0, none⟩ = some (.int .u32 s') ∧ w'.cell? ⟨w.heap.size + 1, 1, none⟩ = some (.int .u32 d') ∧ w'.cell? ⟨w.heap.size + 1, 2, none⟩ = some (.int .u8 p') ∧ w'.cell? ⟨w.heap.size + 1, 3, none⟩ = some (.int .u16 sp') ∧ w'.cell? ⟨w.heap.size + 1, 4, none⟩ = some (.int .u16 dp'))) (first | (go_simp; done) | (refine ⟨⟨?_, ?_, ?_, ?_, ?_⟩, ⟨?_, ?_, ?_, ?_, ?_⟩⟩ <;> (first | assumption | (refine cell_far ?_ (by omega); (first | assumption | (go_simp; done)))))) (first | (go_at_call 22; (with_reducible refine (HA.out _).mono ?_); rintro e w' ⟨rfl, rfl⟩) | (go_at_call 22; (with_reducible refine (HB.out _).mono ?_); rintro e w' ⟨rfl, rfl⟩))
    all_goals
      go_wp2_with fail
      go_meet
      exact cmp_leaf _ _ _ lA lB (by repeat (first | ((with_reducible refine there_new ?_); simp; done) | (with_reducible refine World.there_alloc ?_ _))) (by repeat (first | ((with_reducible refine there_new ?_); simp; done) | (with_reducible refine World.there_alloc ?_ _))) (by omega) (by omega) (by omega) (by repeat (first | (with_reducible exact Below.refl _ _) | (with_reducible refine Below.alloc ?_ (by simp; omega) _) | (with_reducible refine Below.alloc ?_ (by simp) _)))
  case rest =>
    obtain ⟨gA, gB, rfl, rfl, hrA, hrB, hbx⟩ := hcut
    clear r0 r1 r2 r3 r4 r5 r6 r7 q0 q1 q2 q3 q4 q5 q6 q7 rs oA oB lA lB
    have HC : Hid (∀ k, Calls Tryd.prog 32 #[.slice (some ⟨gA, 0, none⟩) 13 13, .slice (some ⟨gB, 0, none⟩) 13 13] (wc.drewN k) fun e w' => e = .returned (.int .i64 (cmpH (byL s d p sp dp) (byL s' d' p' sp' dp'))) ∧ w' = wc.drewN k) := Lib.hid fun k => by
      have e1 := EA.out
      have e2 := EB.out
      subst e1 e2
      exact (bcompare_is (wc.drewN k) hrA hrB rfl rfl).mono fun _ _ ⟨he, hw⟩ => ⟨he, hw.symm⟩
    go_wp2
    go_quiet ((go_at_call 32; with_reducible exact Calls.quiet_of_same (HC.out _)))
    go_wp2
    go_ret
    exact ⟨rfl, Below.draws hbx _⟩
end Go.Proofs.YtbmleejeffaciaaDoor
