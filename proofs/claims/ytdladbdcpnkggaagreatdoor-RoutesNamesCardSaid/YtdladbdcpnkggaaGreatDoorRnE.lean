/- AdvertText of package routes at what RoutesNames asks. Condition: the table of package strconv is what its text says. -/
import Derived.Test.YtdladbdcpnkggaaGreatDoorRnD
namespace Go.Proofs.YtdladbdcpnkggaaGreatDoor
open Go.RowKit
theorem side_is (w : World) : Calls Tryz.prog 14 #[.bool false] w fun e w' => e = .returned (.string ⟨#[105, 110, 116, 101, 114, 110, 97, 108]⟩) ∧ Below w.heap.size w w' := by
  go_enter Tryz.func14, Tryz.ntmps14
  go_wp2
  go_ret
  exact ⟨rfl, Below.refl _ _⟩
theorem at0 (w : World) (ht : Tab10 w) : Calls Tryz.prog 12 #[.int .u32 0] w fun e w' => e = .returned (.string ⟨#[48, 46, 48, 46, 48, 46, 48]⟩) ∧ Below w.heap.size w w' := by
  have h := text_is 0 w (by omega) (by omega) ht
  rw [show (⟨(text (0 : Int).toNat).toArray⟩ : ByteArray) = ⟨#[48, 46, 48, 46, 48, 46, 48]⟩ by decide +kernel] at h
  exact h
theorem iam (w : World) (ht : Tab10 w) : Calls Tryz.prog 11 #[.int .i64 (-1)] w fun e w' => e = .returned (.string ⟨#[45, 49]⟩) ∧ Below w.heap.size w w' := by
  have h := itoa_is (-1) w (by omega) (by omega) ht
  rw [show (⟨(Lib.itoa (-1)).toArray⟩ : ByteArray) = ⟨#[45, 49]⟩ by decide +kernel] at h
  exact h
theorem own_below {w W : World} {B n k : Nat} {e : TypeId} {v : Value} {xs : List Value} (h : w.ownsRow B e k v n xs) (hb : Below w.heap.size w W) : W.ownsRow B e k v n xs := by
  rcases h with ⟨h1, h2 | ⟨g, cap, cur, e1, h3, h4, h5⟩⟩
  · exact ⟨h1, .inl h2⟩
  · exact ⟨h1, .inr ⟨g, cap, cur, e1, h3, (hb.block g (Array.getElem?_eq_some_iff.1 h4).1).trans h4, h5⟩⟩
set_option maxHeartbeats 1000000 in
theorem adv_b (w : World) : Calls Tryz.prog 5 #[.agg #[.int .u32 0, .int .i64 0, .int .u32 0, .int .i64 0, .int .i64 0, .slice none 0 0, .slice none 0 0, .int .u32 0, .int .u32 0, .bool false, .int .u32 0, .slice none 0 0, .int .i64 (-2)]] w fun e w' => e = .returned (.tuple #[.string ⟨#[]⟩, .int .i64 1]) ∧ Below w.heap.size w w' := by
  obtain ⟨W1, hW1⟩ : ∃ X, w.alloc (.cells #[.int .u32 0, .int .i64 0, .int .u32 0, .int .i64 0, .int .i64 0, .slice none 0 0, .slice none 0 0, .int .u32 0, .int .u32 0, .bool false, .int .u32 0, .slice none 0 0, .int .i64 (-2)] 35) = X := ⟨_, rfl⟩
  have HB1 : Hid (Below w.heap.size w W1) := Lib.hid (by rw [← hW1]; exact (Below.refl _ _).alloc (Nat.le_refl _) _)
  have HX1 : Hid (W1.heap[w.heap.size]? = some (.cells #[.int .u32 0, .int .i64 0, .int .u32 0, .int .i64 0, .int .i64 0, .slice none 0 0, .slice none 0 0, .int .u32 0, .int .u32 0, .bool false, .int .u32 0, .slice none 0 0, .int .i64 (-2)] 35 (0, 0))) := Lib.hid (by rw [← hW1]; exact heap_new' _ _)
  have HZ1 : Hid (w.heap.size < W1.heap.size) := Lib.hid (Array.getElem?_eq_some_iff.1 HX1.out).1
  have HCE : Hid (∀ W, Below W1.heap.size W1 W → W.cell? ⟨w.heap.size, 0, none⟩ = some (.int .u32 0) ∧ W.cell? ⟨w.heap.size, 1, none⟩ = some (.int .i64 0) ∧ W.cell? ⟨w.heap.size, 2, none⟩ = some (.int .u32 0) ∧ W.cell? ⟨w.heap.size, 3, none⟩ = some (.int .i64 0) ∧ W.cell? ⟨w.heap.size, 4, none⟩ = some (.int .i64 0) ∧ W.cell? ⟨w.heap.size, 5, none⟩ = some (.slice none 0 0) ∧ W.cell? ⟨w.heap.size, 6, none⟩ = some (.slice none 0 0) ∧ W.cell? ⟨w.heap.size, 7, none⟩ = some (.int .u32 0) ∧ W.cell? ⟨w.heap.size, 8, none⟩ = some (.int .u32 0) ∧ W.cell? ⟨w.heap.size, 9, none⟩ = some (.bool false) ∧ W.cell? ⟨w.heap.size, 10, none⟩ = some (.int .u32 0) ∧ W.cell? ⟨w.heap.size, 11, none⟩ = some (.slice none 0 0) ∧ W.cell? ⟨w.heap.size, 12, none⟩ = some (.int .i64 (-2))) := Lib.hid fun W hb => by
    have e := (hb.block w.heap.size HZ1.out).trans HX1.out
    refine ⟨?_, ?_, ?_, ?_, ?_, ?_, ?_, ?_, ?_, ?_, ?_, ?_, ?_⟩ <;> (simp only [World.cell?, e]; rfl)
  obtain ⟨x0, x1, x2, x3, x4, x5, x6, x7, x8, x9, x10, x11, x12⟩ := HCE.out W1 (Below.refl _ _)
  go_enter Tryz.func5, Tryz.ntmps5
  go_wp2_with fail
  go_at_call 13
  refine (amay_b _).mono ?_
  rintro e w2 ⟨rfl, hb2⟩
  have HB2 := Lib.hid (Below.step HB1.out hb2)
  clear hb2
  go_wp2
  go_ret2
  exact ⟨rfl, HB2.out⟩
theorem write_0 (B : Nat) (a : List UInt8) (v : Value) (p : Option Addr) (w : World) (ho : w.ownsRow B 5 1 v a.length (Lib.byteCells a)) (hB : B ≤ w.heap.size) (hla : a.length ≤ 100000) :
    Calls Tryz.prog 9 #[v, .slice p 0 0] w (WrPost B a w) :=
  write_is B a [] v p 0 w ho hB (fun W hk i s hs => by simp at hs) (by decide) (fun s h => by simp at h) (fun k hk => by
    have : k = 0 := by simpa using hk
    subst this
    show a.length ≤ _
    omega)
theorem write_1 (B : Nat) (a : List UInt8) (s : ByteArray) (v : Value) (h c : Nat) (cur : Array Value) (w : World) (r : List UInt8) (hh : w.heap[h]? = some (.cells cur 9 (0, 0))) (hw : cur[0]? = some (.string s)) (ho : w.ownsRow B 5 1 v a.length (Lib.byteCells a)) (hB : B ≤ w.heap.size) (hla : a.length ≤ 100000) (hs : s.size ≤ 1000) (hr : jn a [s] = r) :
    Calls Tryz.prog 9 #[v, .slice (some ⟨h, 0, none⟩) 1 c] w (WrPost B r w) := by
  subst hr
  refine write_is B a [s] v _ c w ho hB (fun W hk i t ht => ?_) (by simp) (fun t ht => by simp at ht; subst ht; omega) (fun k hk => ?_)
  · have h1 := hk h _ hh (by simp) (by intro c fz e; simp at e)
    match i, ht with
    | 0, ht =>
      simp at ht; subst ht
      refine ⟨_, _, rfl, ?_⟩
      simp only [World.cell?, h1]
      exact hw
    | j + 1, ht => simp at ht
  · have h2 := jn_le ([s].take k) a (fun t ht => by have := List.mem_of_mem_take ht; simp at this; subst this; omega)
    rw [List.length_take] at h2
    have h3 : min k [s].length * 100001 ≤ 1 * 100001 := Nat.mul_le_mul_right _ (by simp; omega)
    omega
set_option maxRecDepth 100000 in
set_option maxHeartbeats 16000000 in
theorem adv_a (g : Nat) (w : World) (hcg : w.cell? ⟨g, 0, none⟩ = some (.int .u32 4294967295)) (hg : g < w.heap.size) (ht : Tab10 w) : Calls Tryz.prog 5 #[.agg #[.int .u32 0, .int .i64 0, .int .u32 0, .int .i64 0, .int .i64 0, .slice (some ⟨g, 0, none⟩) 1 1, .slice none 0 0, .int .u32 0, .int .u32 0, .bool false, .int .u32 0, .slice none 0 0, .int .i64 (-1)]] w fun e w' => e = .returned (.tuple #[.string ⟨#[48, 46, 48, 46, 48, 46, 48, 47, 48, 32, 118, 105, 97, 32, 48, 46, 48, 46, 48, 46, 48, 32, 112, 114, 101, 102, 32, 48, 32, 109, 101, 116, 114, 105, 99, 32, 48, 32, 112, 101, 101, 114, 32, 48, 46, 48, 46, 48, 46, 48, 32, 105, 100, 32, 48, 46, 48, 46, 48, 46, 48, 32, 105, 110, 116, 101, 114, 110, 97, 108, 32, 111, 114, 105, 103, 105, 110, 32, 48, 46, 48, 46, 48, 46, 48, 32, 115, 101, 115, 115, 105, 111, 110, 32, 45, 49, 32, 112, 97, 116, 104, 32, 52, 50, 57, 52, 57, 54, 55, 50, 57, 53, 32, 99, 111, 109, 109, 32, 99, 108, 117, 115, 116, 101, 114, 115]⟩, .int .i64 0]) ∧ Below w.heap.size w w' := by
  obtain ⟨W1, hW1⟩ : ∃ X, w.alloc (.cells #[.int .u32 0, .int .i64 0, .int .u32 0, .int .i64 0, .int .i64 0, .slice (some ⟨g, 0, none⟩) 1 1, .slice none 0 0, .int .u32 0, .int .u32 0, .bool false, .int .u32 0, .slice none 0 0, .int .i64 (-1)] 35) = X := ⟨_, rfl⟩
  have HB1 : Hid (Below w.heap.size w W1) := Lib.hid (by rw [← hW1]; exact (Below.refl _ _).alloc (Nat.le_refl _) _)
  have HX1 : Hid (W1.heap[w.heap.size]? = some (.cells #[.int .u32 0, .int .i64 0, .int .u32 0, .int .i64 0, .int .i64 0, .slice (some ⟨g, 0, none⟩) 1 1, .slice none 0 0, .int .u32 0, .int .u32 0, .bool false, .int .u32 0, .slice none 0 0, .int .i64 (-1)] 35 (0, 0))) := Lib.hid (by rw [← hW1]; exact heap_new' _ _)
  have HZ1 : Hid (w.heap.size < W1.heap.size) := Lib.hid (Array.getElem?_eq_some_iff.1 HX1.out).1
  have HCE : Hid (∀ W, Below W1.heap.size W1 W → W.cell? ⟨w.heap.size, 0, none⟩ = some (.int .u32 0) ∧ W.cell? ⟨w.heap.size, 1, none⟩ = some (.int .i64 0) ∧ W.cell? ⟨w.heap.size, 2, none⟩ = some (.int .u32 0) ∧ W.cell? ⟨w.heap.size, 3, none⟩ = some (.int .i64 0) ∧ W.cell? ⟨w.heap.size, 4, none⟩ = some (.int .i64 0) ∧ W.cell? ⟨w.heap.size, 5, none⟩ = some (.slice (some ⟨g, 0, none⟩) 1 1) ∧ W.cell? ⟨w.heap.size, 6, none⟩ = some (.slice none 0 0) ∧ W.cell? ⟨w.heap.size, 7, none⟩ = some (.int .u32 0) ∧ W.cell? ⟨w.heap.size, 8, none⟩ = some (.int .u32 0) ∧ W.cell? ⟨w.heap.size, 9, none⟩ = some (.bool false) ∧ W.cell? ⟨w.heap.size, 10, none⟩ = some (.int .u32 0) ∧ W.cell? ⟨w.heap.size, 11, none⟩ = some (.slice none 0 0) ∧ W.cell? ⟨w.heap.size, 12, none⟩ = some (.int .i64 (-1))) := Lib.hid fun W hb => by
    have e := (hb.block w.heap.size HZ1.out).trans HX1.out
    refine ⟨?_, ?_, ?_, ?_, ?_, ?_, ?_, ?_, ?_, ?_, ?_, ?_, ?_⟩ <;> (simp only [World.cell?, e]; rfl)
  obtain ⟨x0, x1, x2, x3, x4, x5, x6, x7, x8, x9, x10, x11, x12⟩ := HCE.out W1 (Below.refl _ _)
  have HT := Lib.hid ht
  have HCG := Lib.hid hcg
  have HG := Lib.hid hg
  clear ht hcg hg
  go_enter Tryz.func5, Tryz.ntmps5
  go_wp2_with fail
  go_at_call 13
  refine (amay_a _ _ _ _).mono ?_
  rintro e w2 ⟨rfl, hb2⟩
  have HB2 := Lib.hid hb2
  clear hb2 x0 x1 x2 x3 x4 x5 x6 x7 x8 x9 x10 x11 x12
  have HSS : Hid (∀ W, Below w2.heap.size w2 W → W.cell? ⟨w.heap.size, 0, none⟩ = some (.int .u32 0) ∧ W.cell? ⟨w.heap.size, 1, none⟩ = some (.int .i64 0) ∧ W.cell? ⟨w.heap.size, 2, none⟩ = some (.int .u32 0) ∧ W.cell? ⟨w.heap.size, 3, none⟩ = some (.int .i64 0) ∧ W.cell? ⟨w.heap.size, 4, none⟩ = some (.int .i64 0) ∧ W.cell? ⟨w.heap.size, 5, none⟩ = some (.slice (some ⟨g, 0, none⟩) 1 1) ∧ W.cell? ⟨w.heap.size, 6, none⟩ = some (.slice none 0 0) ∧ W.cell? ⟨w.heap.size, 7, none⟩ = some (.int .u32 0) ∧ W.cell? ⟨w.heap.size, 8, none⟩ = some (.int .u32 0) ∧ W.cell? ⟨w.heap.size, 9, none⟩ = some (.bool false) ∧ W.cell? ⟨w.heap.size, 10, none⟩ = some (.int .u32 0) ∧ W.cell? ⟨w.heap.size, 11, none⟩ = some (.slice none 0 0) ∧ W.cell? ⟨w.heap.size, 12, none⟩ = some (.int .i64 (-1))) := Lib.hid fun W hb => HCE.out W (Below.step HB2.out hb)
  have HTT : Hid (∀ W, Below w2.heap.size w2 W → Tab10 W) := Lib.hid fun W hb => HT.out.on (Below.step HB1.out (Below.step HB2.out hb))
  have hb0 : Below w2.heap.size w2 w2 := Below.refl _ _
  obtain ⟨x0, x1, x2, x3, x4, x5, x6, x7, x8, x9, x10, x11, x12⟩ := HSS.out w2 (Below.refl _ _)
  have HPT : Hid (∀ W, Below w2.heap.size w2 W → Calls Tryz.prog 10 #[.agg #[.int .u32 0, .int .i64 0]] W fun e w' => e = .returned (.string ⟨#[48, 46, 48, 46, 48, 46, 48, 47, 48]⟩) ∧ Below W.heap.size W w') := Lib.hid fun W hb => pt0 W (HTT.out W hb)
  have HAT : Hid (∀ W, Below w2.heap.size w2 W → Calls Tryz.prog 12 #[.int .u32 0] W fun e w' => e = .returned (.string ⟨#[48, 46, 48, 46, 48, 46, 48]⟩) ∧ Below W.heap.size W w') := Lib.hid fun W hb => at0 W (HTT.out W hb)
  have HIA : Hid (∀ W, Below w2.heap.size w2 W → Calls Tryz.prog 11 #[.int .i64 0] W fun e w' => e = .returned (.string ⟨#[48]⟩) ∧ Below W.heap.size W w') := Lib.hid fun W hb => ia _ _ (by omega) (by omega) (by decide +kernel) W (HTT.out W hb)
  have HWR : Hid (∀ W, Below w2.heap.size w2 W → Calls Tryz.prog 9 #[.slice none 0 0, .slice (some ⟨W.heap.size, 0, none⟩) 7 7] (W.alloc (.cells #[.string ⟨#[48, 46, 48, 46, 48, 46, 48, 47, 48]⟩, .string ⟨#[118, 105, 97]⟩, .string ⟨#[48, 46, 48, 46, 48, 46, 48]⟩, .string ⟨#[112, 114, 101, 102]⟩, .string ⟨#[48]⟩, .string ⟨#[109, 101, 116, 114, 105, 99]⟩, .string ⟨#[48]⟩] 9)) (WrPost w2.heap.size [48, 46, 48, 46, 48, 46, 48, 47, 48, 32, 118, 105, 97, 32, 48, 46, 48, 46, 48, 46, 48, 32, 112, 114, 101, 102, 32, 48, 32, 109, 101, 116, 114, 105, 99, 32, 48] (W.alloc (.cells #[.string ⟨#[48, 46, 48, 46, 48, 46, 48, 47, 48]⟩, .string ⟨#[118, 105, 97]⟩, .string ⟨#[48, 46, 48, 46, 48, 46, 48]⟩, .string ⟨#[112, 114, 101, 102]⟩, .string ⟨#[48]⟩, .string ⟨#[109, 101, 116, 114, 105, 99]⟩, .string ⟨#[48]⟩] 9)))) := Lib.hid fun W hb => write_lit w2.heap.size [] [⟨#[48, 46, 48, 46, 48, 46, 48, 47, 48]⟩, ⟨#[118, 105, 97]⟩, ⟨#[48, 46, 48, 46, 48, 46, 48]⟩, ⟨#[112, 114, 101, 102]⟩, ⟨#[48]⟩, ⟨#[109, 101, 116, 114, 105, 99]⟩, ⟨#[48]⟩] _ 7 W _ rfl (by decide) (by decide +kernel) (by decide) (World.ownsRow_nil _ _ _ _) hb.size (by decide +kernel)
  go_wp2_with fail
  go_region_held3 (fun w' => w'.cell? ⟨w.heap.size, 0, none⟩ = some (.int .u32 0) ∧ w'.cell? ⟨w.heap.size, 1, none⟩ = some (.int .i64 0) ∧ w'.cell? ⟨w.heap.size, 2, none⟩ = some (.int .u32 0) ∧ w'.cell? ⟨w.heap.size, 3, none⟩ = some (.int .i64 0) ∧ w'.cell? ⟨w.heap.size, 4, none⟩ = some (.int .i64 0) ∧ w'.cell? ⟨w.heap.size, 5, none⟩ = some (.slice (some ⟨g, 0, none⟩) 1 1) ∧ w'.cell? ⟨w.heap.size, 6, none⟩ = some (.slice none 0 0) ∧ w'.cell? ⟨w.heap.size, 7, none⟩ = some (.int .u32 0) ∧ w'.cell? ⟨w.heap.size, 8, none⟩ = some (.int .u32 0) ∧ w'.cell? ⟨w.heap.size, 9, none⟩ = some (.bool false) ∧ w'.cell? ⟨w.heap.size, 10, none⟩ = some (.int .u32 0) ∧ w'.cell? ⟨w.heap.size, 11, none⟩ = some (.slice none 0 0) ∧ w'.cell? ⟨w.heap.size, 12, none⟩ = some (.int .i64 (-1))) (first | exact HSS.out _ (Below.trans (Below.refl _ _) (by first | assumption | exact hb0.drew)) | exact HSS.out _ (Below.trans (Below.refl _ _) (Below.alloc (by first | assumption | exact hb0.drew) (Below.size (by first | assumption | exact hb0.drew)) _)) | go_keep | (trace_state; fail)) (first
    | (go_at_call 10; refine (HPT.out _ (by first | assumption | exact hb0.drew)).mono ?_; rintro e w3 ⟨rfl, hb3⟩; have hb3 := Below.step (a := w2) (by first | assumption | exact hb0.drew) hb3)
    | (go_at_call 12; refine (HAT.out _ (by first | assumption | exact hb0.drew)).mono ?_; rintro e w3 ⟨rfl, hb3⟩; have hb3 := Below.step (a := w2) (by first | assumption | exact hb0.drew) hb3)
    | (go_at_call 11; refine (HIA.out _ (by first | assumption | exact hb0.drew)).mono ?_; rintro e w3 ⟨rfl, hb3⟩; have hb3 := Below.step (a := w2) (by first | assumption | exact hb0.drew) hb3)
    | (go_at_call 9; refine (HWR.out _ (by first | assumption | exact hb0.drew)).mono ?_; rintro e w4 ⟨v4, rfl, ho4, hb3, _⟩; have hb3 := Below.trans (Below.alloc (a := w2) (by first | assumption | exact hb0.drew) (Below.size (by first | assumption | exact hb0.drew)) _) hb3))
  have HO4 := Lib.hid ho4
  have HB4 := Lib.hid hb3
  clear x0 x1 x2 x3 x4 x5 x6 x7 x8 x9 x10 x11 x12 ho4 hb3 hb0 HPT HWR HIA
  obtain ⟨x0, x1, x2, x3, x4, x5, x6, x7, x8, x9, x10, x11, x12⟩ := HSS.out w4 HB4.out
  have hb0 : Below w4.heap.size w4 w4 := Below.refl _ _
  have hb24 : Below w2.heap.size w2 w4 := HB4.out
  have HSD : Hid (∀ W, Below w4.heap.size w4 W → Calls Tryz.prog 14 #[.bool false] W fun e w' => e = .returned (.string ⟨#[105, 110, 116, 101, 114, 110, 97, 108]⟩) ∧ Below W.heap.size W w') := Lib.hid fun W hb => side_is W
  have HAT : Hid (∀ W, Below w4.heap.size w4 W → Calls Tryz.prog 12 #[.int .u32 0] W fun e w' => e = .returned (.string ⟨#[48, 46, 48, 46, 48, 46, 48]⟩) ∧ Below W.heap.size W w') := Lib.hid fun W hb => HAT.out W (Below.step HB4.out hb)
  have HIM : Hid (∀ W, Below w4.heap.size w4 W → Calls Tryz.prog 11 #[.int .i64 (-1)] W fun e w' => e = .returned (.string ⟨#[45, 49]⟩) ∧ Below W.heap.size W w') := Lib.hid fun W hb => iam W (HTT.out W (Below.step HB4.out hb))
  have HWR : Hid (∀ W, Below w4.heap.size w4 W → Calls Tryz.prog 9 #[v4, .slice (some ⟨W.heap.size, 0, none⟩) 9 9] (W.alloc (.cells #[.string ⟨#[112, 101, 101, 114]⟩, .string ⟨#[48, 46, 48, 46, 48, 46, 48]⟩, .string ⟨#[105, 100]⟩, .string ⟨#[48, 46, 48, 46, 48, 46, 48]⟩, .string ⟨#[105, 110, 116, 101, 114, 110, 97, 108]⟩, .string ⟨#[111, 114, 105, 103, 105, 110]⟩, .string ⟨#[48, 46, 48, 46, 48, 46, 48]⟩, .string ⟨#[115, 101, 115, 115, 105, 111, 110]⟩, .string ⟨#[45, 49]⟩] 9)) (WrPost w2.heap.size [48, 46, 48, 46, 48, 46, 48, 47, 48, 32, 118, 105, 97, 32, 48, 46, 48, 46, 48, 46, 48, 32, 112, 114, 101, 102, 32, 48, 32, 109, 101, 116, 114, 105, 99, 32, 48, 32, 112, 101, 101, 114, 32, 48, 46, 48, 46, 48, 46, 48, 32, 105, 100, 32, 48, 46, 48, 46, 48, 46, 48, 32, 105, 110, 116, 101, 114, 110, 97, 108, 32, 111, 114, 105, 103, 105, 110, 32, 48, 46, 48, 46, 48, 46, 48, 32, 115, 101, 115, 115, 105, 111, 110, 32, 45, 49] (W.alloc (.cells #[.string ⟨#[112, 101, 101, 114]⟩, .string ⟨#[48, 46, 48, 46, 48, 46, 48]⟩, .string ⟨#[105, 100]⟩, .string ⟨#[48, 46, 48, 46, 48, 46, 48]⟩, .string ⟨#[105, 110, 116, 101, 114, 110, 97, 108]⟩, .string ⟨#[111, 114, 105, 103, 105, 110]⟩, .string ⟨#[48, 46, 48, 46, 48, 46, 48]⟩, .string ⟨#[115, 101, 115, 115, 105, 111, 110]⟩, .string ⟨#[45, 49]⟩] 9)))) := Lib.hid fun W hb => write_lit w2.heap.size [48, 46, 48, 46, 48, 46, 48, 47, 48, 32, 118, 105, 97, 32, 48, 46, 48, 46, 48, 46, 48, 32, 112, 114, 101, 102, 32, 48, 32, 109, 101, 116, 114, 105, 99, 32, 48] [⟨#[112, 101, 101, 114]⟩, ⟨#[48, 46, 48, 46, 48, 46, 48]⟩, ⟨#[105, 100]⟩, ⟨#[48, 46, 48, 46, 48, 46, 48]⟩, ⟨#[105, 110, 116, 101, 114, 110, 97, 108]⟩, ⟨#[111, 114, 105, 103, 105, 110]⟩, ⟨#[48, 46, 48, 46, 48, 46, 48]⟩, ⟨#[115, 101, 115, 115, 105, 111, 110]⟩, ⟨#[45, 49]⟩] _ 9 W _ rfl (by decide) (by decide +kernel) (by decide) (own_below HO4.out hb) (by have := HB4.out.size; have := hb.size; omega) (by decide +kernel)
  (try simp only [Exit.then])
  go_wp2_with fail
  go_region_held3 (fun w' => w'.cell? ⟨w.heap.size, 0, none⟩ = some (.int .u32 0) ∧ w'.cell? ⟨w.heap.size, 1, none⟩ = some (.int .i64 0) ∧ w'.cell? ⟨w.heap.size, 2, none⟩ = some (.int .u32 0) ∧ w'.cell? ⟨w.heap.size, 3, none⟩ = some (.int .i64 0) ∧ w'.cell? ⟨w.heap.size, 4, none⟩ = some (.int .i64 0) ∧ w'.cell? ⟨w.heap.size, 5, none⟩ = some (.slice (some ⟨g, 0, none⟩) 1 1) ∧ w'.cell? ⟨w.heap.size, 6, none⟩ = some (.slice none 0 0) ∧ w'.cell? ⟨w.heap.size, 7, none⟩ = some (.int .u32 0) ∧ w'.cell? ⟨w.heap.size, 8, none⟩ = some (.int .u32 0) ∧ w'.cell? ⟨w.heap.size, 9, none⟩ = some (.bool false) ∧ w'.cell? ⟨w.heap.size, 10, none⟩ = some (.int .u32 0) ∧ w'.cell? ⟨w.heap.size, 11, none⟩ = some (.slice none 0 0) ∧ w'.cell? ⟨w.heap.size, 12, none⟩ = some (.int .i64 (-1))) (first | exact HSS.out _ (Below.step hb24 (by first | assumption | exact hb0.drew)) | exact HSS.out _ (Below.step hb24 (Below.alloc (by first | assumption | exact hb0.drew) (Below.size (by first | assumption | exact hb0.drew)) _)) | exact HSS.out _ (by assumption) | go_keep | (trace_state; fail)) (first
    | (go_at_call 12; refine (HAT.out _ (by first | assumption | exact hb0.drew)).mono ?_; rintro e w3 ⟨rfl, hb3⟩; have hb3 := Below.step (a := w4) (by first | assumption | exact hb0.drew) hb3)
    | (go_at_call 14; refine (HSD.out _ (by first | assumption | exact hb0.drew)).mono ?_; rintro e w3 ⟨rfl, hb3⟩; have hb3 := Below.step (a := w4) (by first | assumption | exact hb0.drew) hb3)
    | (go_at_call 11; refine (HIM.out _ (by first | assumption | exact hb0.drew)).mono ?_; rintro e w3 ⟨rfl, hb3⟩; have hb3 := Below.step (a := w4) (by first | assumption | exact hb0.drew) hb3)
    | (go_at_call 9; refine (HWR.out _ (by first | assumption | exact hb0.drew)).mono ?_; rintro e w6 ⟨v6, rfl, ho6, hb6, _⟩; have hb6 := Below.trans (Below.step hb24 (Below.alloc (a := w4) (by first | assumption | exact hb0.drew) (Below.size (by first | assumption | exact hb0.drew)) _)) hb6))
  have HO6 := Lib.hid ho6
  have HB6 := Lib.hid hb6
  clear x0 x1 x2 x3 x4 x5 x6 x7 x8 x9 x10 x11 x12 ho6 hb6 hb0 hb24 HWR HIM HAT HSD
  have hsz : w.heap.size ≤ w2.heap.size := by have := HB2.out.size; have := HB1.out.size; omega
  obtain ⟨x0, x1, x2, x3, x4, x5, x6, x7, x8, x9, x10, x11, x12⟩ := HSS.out w6 HB6.out
  (try simp only [Exit.then])
  go_wp2_with fail
  go_at_call 9
  refine (write_lit w2.heap.size [48, 46, 48, 46, 48, 46, 48, 47, 48, 32, 118, 105, 97, 32, 48, 46, 48, 46, 48, 46, 48, 32, 112, 114, 101, 102, 32, 48, 32, 109, 101, 116, 114, 105, 99, 32, 48, 32, 112, 101, 101, 114, 32, 48, 46, 48, 46, 48, 46, 48, 32, 105, 100, 32, 48, 46, 48, 46, 48, 46, 48, 32, 105, 110, 116, 101, 114, 110, 97, 108, 32, 111, 114, 105, 103, 105, 110, 32, 48, 46, 48, 46, 48, 46, 48, 32, 115, 101, 115, 115, 105, 111, 110, 32, 45, 49] [⟨#[112, 97, 116, 104]⟩] _ 1 w6 [48, 46, 48, 46, 48, 46, 48, 47, 48, 32, 118, 105, 97, 32, 48, 46, 48, 46, 48, 46, 48, 32, 112, 114, 101, 102, 32, 48, 32, 109, 101, 116, 114, 105, 99, 32, 48, 32, 112, 101, 101, 114, 32, 48, 46, 48, 46, 48, 46, 48, 32, 105, 100, 32, 48, 46, 48, 46, 48, 46, 48, 32, 105, 110, 116, 101, 114, 110, 97, 108, 32, 111, 114, 105, 103, 105, 110, 32, 48, 46, 48, 46, 48, 46, 48, 32, 115, 101, 115, 115, 105, 111, 110, 32, 45, 49, 32, 112, 97, 116, 104] rfl (by decide) (by decide +kernel) (by decide) HO6.out HB6.out.size (by decide +kernel)).mono ?_
  rintro e w7 ⟨v7, rfl, ho7, hb7, _⟩
  have HB7 := Lib.hid (Below.trans (HB6.out.alloc HB6.out.size _) hb7)
  have HO7 := Lib.hid ho7
  clear x0 x1 x2 x3 x4 x5 x6 x7 x8 x9 x10 x11 x12 ho7 hb7
  obtain ⟨x0, x1, x2, x3, x4, x5, x6, x7, x8, x9, x10, x11, x12⟩ := HSS.out w7 HB7.out
  (try simp only)
  go_wp2_with fail
  go_at_call 15
  refine (texts_one g w7 ((Below.cell (p := ⟨g, 0, none⟩) (HB1.out.trans ((Below.step HB2.out HB7.out).mono HB1.out.size)) HG.out).trans HCG.out) (by have := HG.out; have := HB7.out.size; omega) (HTT.out _ HB7.out)).mono ?_
  rintro e w8 ⟨h8, c8, cur8, rfl, hh8, hw8, hb8⟩
  have HB8 := Lib.hid (Below.step HB7.out hb8)
  have HO8 := Lib.hid (own_below HO7.out hb8)
  have HH8 := Lib.hid hh8; have HW8 := Lib.hid hw8
  clear x0 x1 x2 x3 x4 x5 x6 x7 x8 x9 x10 x11 x12 hb8 hh8 hw8
  obtain ⟨x0, x1, x2, x3, x4, x5, x6, x7, x8, x9, x10, x11, x12⟩ := HSS.out w8 HB8.out
  (try simp only)
  go_wp2_with fail
  go_at_call 9
  refine (write_1 w2.heap.size [48, 46, 48, 46, 48, 46, 48, 47, 48, 32, 118, 105, 97, 32, 48, 46, 48, 46, 48, 46, 48, 32, 112, 114, 101, 102, 32, 48, 32, 109, 101, 116, 114, 105, 99, 32, 48, 32, 112, 101, 101, 114, 32, 48, 46, 48, 46, 48, 46, 48, 32, 105, 100, 32, 48, 46, 48, 46, 48, 46, 48, 32, 105, 110, 116, 101, 114, 110, 97, 108, 32, 111, 114, 105, 103, 105, 110, 32, 48, 46, 48, 46, 48, 46, 48, 32, 115, 101, 115, 115, 105, 111, 110, 32, 45, 49, 32, 112, 97, 116, 104] ⟨#[52, 50, 57, 52, 57, 54, 55, 50, 57, 53]⟩ v7 h8 c8 cur8 w8 [48, 46, 48, 46, 48, 46, 48, 47, 48, 32, 118, 105, 97, 32, 48, 46, 48, 46, 48, 46, 48, 32, 112, 114, 101, 102, 32, 48, 32, 109, 101, 116, 114, 105, 99, 32, 48, 32, 112, 101, 101, 114, 32, 48, 46, 48, 46, 48, 46, 48, 32, 105, 100, 32, 48, 46, 48, 46, 48, 46, 48, 32, 105, 110, 116, 101, 114, 110, 97, 108, 32, 111, 114, 105, 103, 105, 110, 32, 48, 46, 48, 46, 48, 46, 48, 32, 115, 101, 115, 115, 105, 111, 110, 32, 45, 49, 32, 112, 97, 116, 104, 32, 52, 50, 57, 52, 57, 54, 55, 50, 57, 53] HH8.out HW8.out HO8.out HB8.out.size (by decide) (by decide) (by decide +kernel)).mono ?_
  rintro e w9 ⟨v9, rfl, ho9, hb9, _⟩
  have HB9 := Lib.hid (Below.trans HB8.out hb9)
  have HO9 := Lib.hid ho9
  clear x0 x1 x2 x3 x4 x5 x6 x7 x8 x9 x10 x11 x12 ho9 hb9
  obtain ⟨x0, x1, x2, x3, x4, x5, x6, x7, x8, x9, x10, x11, x12⟩ := HSS.out w9 HB9.out
  (try simp only)
  go_wp2_with fail
  go_at_call 9
  refine (write_lit w2.heap.size [48, 46, 48, 46, 48, 46, 48, 47, 48, 32, 118, 105, 97, 32, 48, 46, 48, 46, 48, 46, 48, 32, 112, 114, 101, 102, 32, 48, 32, 109, 101, 116, 114, 105, 99, 32, 48, 32, 112, 101, 101, 114, 32, 48, 46, 48, 46, 48, 46, 48, 32, 105, 100, 32, 48, 46, 48, 46, 48, 46, 48, 32, 105, 110, 116, 101, 114, 110, 97, 108, 32, 111, 114, 105, 103, 105, 110, 32, 48, 46, 48, 46, 48, 46, 48, 32, 115, 101, 115, 115, 105, 111, 110, 32, 45, 49, 32, 112, 97, 116, 104, 32, 52, 50, 57, 52, 57, 54, 55, 50, 57, 53] [⟨#[99, 111, 109, 109]⟩] _ 1 w9 [48, 46, 48, 46, 48, 46, 48, 47, 48, 32, 118, 105, 97, 32, 48, 46, 48, 46, 48, 46, 48, 32, 112, 114, 101, 102, 32, 48, 32, 109, 101, 116, 114, 105, 99, 32, 48, 32, 112, 101, 101, 114, 32, 48, 46, 48, 46, 48, 46, 48, 32, 105, 100, 32, 48, 46, 48, 46, 48, 46, 48, 32, 105, 110, 116, 101, 114, 110, 97, 108, 32, 111, 114, 105, 103, 105, 110, 32, 48, 46, 48, 46, 48, 46, 48, 32, 115, 101, 115, 115, 105, 111, 110, 32, 45, 49, 32, 112, 97, 116, 104, 32, 52, 50, 57, 52, 57, 54, 55, 50, 57, 53, 32, 99, 111, 109, 109] rfl (by decide) (by decide +kernel) (by decide) HO9.out HB9.out.size (by decide +kernel)).mono ?_
  rintro e w10 ⟨v10, rfl, ho10, hb10, _⟩
  have HB10 := Lib.hid (Below.trans (HB9.out.alloc HB9.out.size _) hb10)
  have HO10 := Lib.hid ho10
  clear x0 x1 x2 x3 x4 x5 x6 x7 x8 x9 x10 x11 x12 ho10 hb10
  obtain ⟨x0, x1, x2, x3, x4, x5, x6, x7, x8, x9, x10, x11, x12⟩ := HSS.out w10 HB10.out
  (try simp only)
  go_wp2_with fail
  go_at_call 15
  refine (texts_nil w10 _).mono ?_
  rintro e w11 ⟨p11, rfl, hb11⟩
  have HB11 := Lib.hid (Below.step HB10.out hb11)
  have HO11 := Lib.hid (own_below HO10.out hb11)
  clear x0 x1 x2 x3 x4 x5 x6 x7 x8 x9 x10 x11 x12 hb11
  obtain ⟨x0, x1, x2, x3, x4, x5, x6, x7, x8, x9, x10, x11, x12⟩ := HSS.out w11 HB11.out
  (try simp only)
  go_wp2_with fail
  go_at_call 9
  refine (write_0 w2.heap.size [48, 46, 48, 46, 48, 46, 48, 47, 48, 32, 118, 105, 97, 32, 48, 46, 48, 46, 48, 46, 48, 32, 112, 114, 101, 102, 32, 48, 32, 109, 101, 116, 114, 105, 99, 32, 48, 32, 112, 101, 101, 114, 32, 48, 46, 48, 46, 48, 46, 48, 32, 105, 100, 32, 48, 46, 48, 46, 48, 46, 48, 32, 105, 110, 116, 101, 114, 110, 97, 108, 32, 111, 114, 105, 103, 105, 110, 32, 48, 46, 48, 46, 48, 46, 48, 32, 115, 101, 115, 115, 105, 111, 110, 32, 45, 49, 32, 112, 97, 116, 104, 32, 52, 50, 57, 52, 57, 54, 55, 50, 57, 53, 32, 99, 111, 109, 109] v10 p11 w11 HO11.out HB11.out.size (by decide)).mono ?_
  rintro e w12 ⟨v12, rfl, ho12, hb12, _⟩
  have HB12 := Lib.hid (Below.trans HB11.out hb12)
  have HO12 := Lib.hid ho12
  clear x0 x1 x2 x3 x4 x5 x6 x7 x8 x9 x10 x11 x12 ho12 hb12
  obtain ⟨x0, x1, x2, x3, x4, x5, x6, x7, x8, x9, x10, x11, x12⟩ := HSS.out w12 HB12.out
  (try simp only)
  go_wp2_with fail
  go_at_call 9
  refine (write_lit w2.heap.size [48, 46, 48, 46, 48, 46, 48, 47, 48, 32, 118, 105, 97, 32, 48, 46, 48, 46, 48, 46, 48, 32, 112, 114, 101, 102, 32, 48, 32, 109, 101, 116, 114, 105, 99, 32, 48, 32, 112, 101, 101, 114, 32, 48, 46, 48, 46, 48, 46, 48, 32, 105, 100, 32, 48, 46, 48, 46, 48, 46, 48, 32, 105, 110, 116, 101, 114, 110, 97, 108, 32, 111, 114, 105, 103, 105, 110, 32, 48, 46, 48, 46, 48, 46, 48, 32, 115, 101, 115, 115, 105, 111, 110, 32, 45, 49, 32, 112, 97, 116, 104, 32, 52, 50, 57, 52, 57, 54, 55, 50, 57, 53, 32, 99, 111, 109, 109] [⟨#[99, 108, 117, 115, 116, 101, 114, 115]⟩] _ 1 w12 [48, 46, 48, 46, 48, 46, 48, 47, 48, 32, 118, 105, 97, 32, 48, 46, 48, 46, 48, 46, 48, 32, 112, 114, 101, 102, 32, 48, 32, 109, 101, 116, 114, 105, 99, 32, 48, 32, 112, 101, 101, 114, 32, 48, 46, 48, 46, 48, 46, 48, 32, 105, 100, 32, 48, 46, 48, 46, 48, 46, 48, 32, 105, 110, 116, 101, 114, 110, 97, 108, 32, 111, 114, 105, 103, 105, 110, 32, 48, 46, 48, 46, 48, 46, 48, 32, 115, 101, 115, 115, 105, 111, 110, 32, 45, 49, 32, 112, 97, 116, 104, 32, 52, 50, 57, 52, 57, 54, 55, 50, 57, 53, 32, 99, 111, 109, 109, 32, 99, 108, 117, 115, 116, 101, 114, 115] rfl (by decide) (by decide +kernel) (by decide) HO12.out HB12.out.size (by decide +kernel)).mono ?_
  rintro e w13 ⟨v13, rfl, ho13, hb13, _⟩
  have HB13 := Lib.hid (Below.trans (HB12.out.alloc HB12.out.size _) hb13)
  have HO13 := Lib.hid ho13
  clear x0 x1 x2 x3 x4 x5 x6 x7 x8 x9 x10 x11 x12 ho13 hb13
  obtain ⟨x0, x1, x2, x3, x4, x5, x6, x7, x8, x9, x10, x11, x12⟩ := HSS.out w13 HB13.out
  (try simp only)
  go_wp2_with fail
  go_at_call 17
  refine (texts_nil2 w13 _).mono ?_
  rintro e w14 ⟨p14, rfl, hb14⟩
  have HB14 := Lib.hid (Below.step HB13.out hb14)
  have HO14 := Lib.hid (own_below HO13.out hb14)
  clear x0 x1 x2 x3 x4 x5 x6 x7 x8 x9 x10 x11 x12 hb14
  obtain ⟨x0, x1, x2, x3, x4, x5, x6, x7, x8, x9, x10, x11, x12⟩ := HSS.out w14 HB14.out
  (try simp only)
  go_wp2_with fail
  go_at_call 9
  refine (write_0 w2.heap.size [48, 46, 48, 46, 48, 46, 48, 47, 48, 32, 118, 105, 97, 32, 48, 46, 48, 46, 48, 46, 48, 32, 112, 114, 101, 102, 32, 48, 32, 109, 101, 116, 114, 105, 99, 32, 48, 32, 112, 101, 101, 114, 32, 48, 46, 48, 46, 48, 46, 48, 32, 105, 100, 32, 48, 46, 48, 46, 48, 46, 48, 32, 105, 110, 116, 101, 114, 110, 97, 108, 32, 111, 114, 105, 103, 105, 110, 32, 48, 46, 48, 46, 48, 46, 48, 32, 115, 101, 115, 115, 105, 111, 110, 32, 45, 49, 32, 112, 97, 116, 104, 32, 52, 50, 57, 52, 57, 54, 55, 50, 57, 53, 32, 99, 111, 109, 109, 32, 99, 108, 117, 115, 116, 101, 114, 115] v13 p14 w14 HO14.out HB14.out.size (by decide)).mono ?_
  rintro e w15 ⟨v15, rfl, ho15, hb15, _⟩
  have HB15 := Lib.hid (Below.trans HB14.out hb15)
  have HO15 := Lib.hid ho15
  clear x0 x1 x2 x3 x4 x5 x6 x7 x8 x9 x10 x11 x12 ho15 hb15
  obtain ⟨x0, x1, x2, x3, x4, x5, x6, x7, x8, x9, x10, x11, x12⟩ := HSS.out w15 HB15.out
  (try simp only)
  obtain ⟨gz, cz, hvz, _, _⟩ := World.ownsRow.form HO15.out (by decide)
  obtain rfl := hvz
  have hcv : (convert 41 9 (.slice (some ⟨gz, 0, none⟩) 126 cz)).run Tryz.prog w15 = .ok (.string ⟨#[48, 46, 48, 46, 48, 46, 48, 47, 48, 32, 118, 105, 97, 32, 48, 46, 48, 46, 48, 46, 48, 32, 112, 114, 101, 102, 32, 48, 32, 109, 101, 116, 114, 105, 99, 32, 48, 32, 112, 101, 101, 114, 32, 48, 46, 48, 46, 48, 46, 48, 32, 105, 100, 32, 48, 46, 48, 46, 48, 46, 48, 32, 105, 110, 116, 101, 114, 110, 97, 108, 32, 111, 114, 105, 103, 105, 110, 32, 48, 46, 48, 46, 48, 46, 48, 32, 115, 101, 115, 115, 105, 111, 110, 32, 45, 49, 32, 112, 97, 116, 104, 32, 52, 50, 57, 52, 57, 54, 55, 50, 57, 53, 32, 99, 111, 109, 109, 32, 99, 108, 117, 115, 116, 101, 114, 115]⟩) w15 := conv_bytes (L := [48, 46, 48, 46, 48, 46, 48, 47, 48, 32, 118, 105, 97, 32, 48, 46, 48, 46, 48, 46, 48, 32, 112, 114, 101, 102, 32, 48, 32, 109, 101, 116, 114, 105, 99, 32, 48, 32, 112, 101, 101, 114, 32, 48, 46, 48, 46, 48, 46, 48, 32, 105, 100, 32, 48, 46, 48, 46, 48, 46, 48, 32, 105, 110, 116, 101, 114, 110, 97, 108, 32, 111, 114, 105, 103, 105, 110, 32, 48, 46, 48, 46, 48, 46, 48, 32, 115, 101, 115, 115, 105, 111, 110, 32, 45, 49, 32, 112, 97, 116, 104, 32, 52, 50, 57, 52, 57, 54, 55, 50, 57, 53, 32, 99, 111, 109, 109, 32, 99, 108, 117, 115, 116, 101, 114, 115]) HO15.out
  go_wp2
  go_ret2
  exact ⟨rfl, HB1.out.trans ((Below.step HB2.out HB15.out).mono HB1.out.size)⟩
end Go.Proofs.YtdladbdcpnkggaaGreatDoor
