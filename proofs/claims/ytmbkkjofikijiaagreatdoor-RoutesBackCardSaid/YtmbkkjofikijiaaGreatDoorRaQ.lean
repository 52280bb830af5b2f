/- readRoute and Parse of package routes at awake's text. Conditions: the table of package strconv and the words of package routes are what their texts say. -/
import Derived.Test.YtmbkkjofikijiaaGreatDoorRaP
namespace Go.Proofs.YtmbkkjofikijiaaGreatDoor
open Go.RowKit
/-- What stands while a text is read as a route's: the answer's cells, the route's, the text's rest. -/
structure RqS (w0 W : World) (n : Nat) (r : List Value) (s : ByteArray) : Prop where
  bel : Below n w0 W
  res : W.heap[n]? = some (.cells #[.int .u32 0, .int .i64 0, .int .u8 0, .int .i64 0, .int .i64 0, .int .i64 0, .string ⟨#[]⟩, .int .u32 0, .bool false] 27 (0, 0))
  rou : W.heap[n + 1]? = some (.cells r.toArray 27 (0, 0))
  nine : r.length = 9
  txt : At1 W (n + 2) s
theorem RqS.sz {w0 W : World} {n : Nat} {r : List Value} {s : ByteArray} (h : RqS w0 W n r s) : n + 2 < W.heap.size := (Array.getElem?_eq_some_iff.1 h.txt).1
/-- Behind a call of what takes a word off. -/
theorem RqS.tk {w0 W W' : World} {n : Nat} {r : List Value} {s s' : ByteArray} (h : RqS w0 W n r s) (hb : Below (n + 2) W W') (ha : At1 W' (n + 2) s') : RqS w0 W' n r s' :=
  ⟨h.bel.trans (hb.mono (by omega)), (hb.block n (by omega)).trans h.res, (hb.block (n + 1) (by omega)).trans h.rou, h.nine, ha⟩
/-- Behind a call that writes nothing old. -/
theorem RqS.on {w0 W W' : World} {n : Nat} {r : List Value} {s : ByteArray} (h : RqS w0 W n r s) (hb : Below W.heap.size W W') : RqS w0 W' n r s :=
  have hz := h.sz
  ⟨h.bel.trans (hb.mono (by omega)), (hb.block n (by omega)).trans h.res, (hb.block (n + 1) (by omega)).trans h.rou, h.nine, (hb.block (n + 2) (by omega)).trans h.txt⟩
/-- Behind a store into one of the route's cells. -/
theorem RqS.st {w0 W : World} {n : Nat} {r : List Value} {s : ByteArray} (h : RqS w0 W n r s) (o : Nat) (v : Value) : RqS w0 (W.setCell ⟨n + 1, o, none⟩ v) n (r.set o v) s := by
  refine ⟨h.bel.setCell (p := ⟨n + 1, o, none⟩) (Nat.le_succ n) _, ?_, ?_, by rw [List.length_set]; exact h.nine, ?_⟩
  · rw [Below.heap_setCell _ _ _ _ (show n ≠ n + 1 by omega)]; exact h.res
  · have := heap_set1 W (n + 1) o v _ _ _ h.rou
    rw [this]; simp
  · unfold At1; rw [Below.heap_setCell _ _ _ _ (show n + 2 ≠ n + 1 by omega)]; exact h.txt
theorem RqS.cells {w0 W : World} {n : Nat} {r : List Value} {s : ByteArray} (h : RqS w0 W n r s) : ∀ o, W.cell? ⟨n + 1, o, none⟩ = r[o]? := fun o => by
  simp only [World.cell?, h.rou]; simp
theorem RqS.free {w0 W : World} {n : Nat} {r : List Value} {s : ByteArray} (h : RqS w0 W n r s) : ∀ o, W.frozen? ⟨n + 1, o, none⟩ = false := fun o => by
  simp [World.frozen?, h.rou]
set_option maxRecDepth 100000 in
set_option maxHeartbeats 8000000 in
theorem rread_w (w : World) (hs : Src9 w) : Calls Tryz.prog 39 #[.string ⟨#[49, 48, 46, 48, 46, 48, 46, 48, 47, 56, 32, 105, 110, 116, 114, 97, 32, 49, 49, 48, 32, 50, 48, 32, 48, 32, 118, 105, 97, 32, 49, 48, 46, 49, 46, 48, 46, 49, 32, 111, 110, 32, 101, 116, 104, 48]⟩] w fun e w' => e = .returned (.agg #[.int .u32 167772160, .int .i64 8, .int .u8 3, .int .i64 110, .int .i64 20, .int .i64 0, .string ⟨#[101, 116, 104, 48]⟩, .int .u32 167837697, .bool false]) ∧ Below w.heap.size w w' := by
  have eg : ∀ args w, (callFunc 125 args).run Tryz.prog w = .ok (.enter 125 args) w := enters_of Tryz.func125 (by kernel_rfl) rfl
  obtain ⟨w1, hw1⟩ : ∃ X, (w.alloc (.cells #[.int .u32 0, .int .i64 0, .int .u8 0, .int .i64 0, .int .i64 0, .int .i64 0, .string ⟨#[]⟩, .int .u32 0, .bool false] 27)).alloc (.cells #[.int .u32 0, .int .i64 0, .int .u8 0, .int .i64 0, .int .i64 0, .int .i64 0, .string ⟨#[]⟩, .int .u32 0, .bool false] 27) = X := ⟨_, rfl⟩
  have HZ1 : Hid (w1.heap.size = w.heap.size + 2) := Lib.hid (by rw [← hw1]; exact (Array.size_push ..).trans (congrArg (· + 1) (Array.size_push ..)))
  have HB1 : Hid (Below w.heap.size w w1) := Lib.hid (by rw [← hw1]; exact ((Below.refl _ _).alloc (Nat.le_refl _) _).alloc (Nat.le_trans (Nat.le_succ _) (Nat.le_of_eq (Array.size_push ..).symm)) _)
  have HX1 : Hid (w1.heap[w.heap.size]? = some (.cells #[.int .u32 0, .int .i64 0, .int .u8 0, .int .i64 0, .int .i64 0, .int .i64 0, .string ⟨#[]⟩, .int .u32 0, .bool false] 27 (0, 0))) := Lib.hid (by rw [← hw1]; exact ((Below.refl _ _).alloc (Nat.le_refl _) _).block _ (Nat.lt_of_lt_of_eq (Nat.lt_succ_self _) (Array.size_push ..).symm) |>.trans (heap_new' _ _))
  have HY1 : Hid (w1.heap[w.heap.size + 1]? = some (.cells #[.int .u32 0, .int .i64 0, .int .u8 0, .int .i64 0, .int .i64 0, .int .i64 0, .string ⟨#[]⟩, .int .u32 0, .bool false] 27 (0, 0))) := Lib.hid (by rw [← hw1]; have h := heap_new' (w.alloc (.cells #[.int .u32 0, .int .i64 0, .int .u8 0, .int .i64 0, .int .i64 0, .int .i64 0, .string ⟨#[]⟩, .int .u32 0, .bool false] 27)) (.cells #[.int .u32 0, .int .i64 0, .int .u8 0, .int .i64 0, .int .i64 0, .int .i64 0, .string ⟨#[]⟩, .int .u32 0, .bool false] 27); rwa [show (w.alloc (.cells #[.int .u32 0, .int .i64 0, .int .u8 0, .int .i64 0, .int .i64 0, .int .i64 0, .string ⟨#[]⟩, .int .u32 0, .bool false] 27)).heap.size = w.heap.size + 1 from Array.size_push ..] at h)
  have HS := Lib.hid hs
  clear hs
  go_enter Tryz.func39, Tryz.ntmps39
  go_wp2_with fail
  try rw [hw1]
  go_at_call 68
  refine (taker_is _ _).mono ?_
  rintro e w2 ⟨rfl, hw2⟩
  have e2 : w1.heap.size = w.heap.size + 2 := HZ1.out
  rw [e2]
  have S2 : Hid (RqS w w2 w.heap.size [.int .u32 0, .int .i64 0, .int .u8 0, .int .i64 0, .int .i64 0, .int .i64 0, .string ⟨#[]⟩, .int .u32 0, .bool false] ⟨#[49, 48, 46, 48, 46, 48, 46, 48, 47, 56, 32, 105, 110, 116, 114, 97, 32, 49, 49, 48, 32, 50, 48, 32, 48, 32, 118, 105, 97, 32, 49, 48, 46, 49, 46, 48, 46, 49, 32, 111, 110, 32, 101, 116, 104, 48]⟩) := Lib.hid (by
    have hb : Below w1.heap.size w1 w2 := by rw [hw2]; exact (Below.refl _ _).alloc (Nat.le_refl _) _
    have ht : w2.heap[w1.heap.size]? = some (.cells #[.string ⟨#[49, 48, 46, 48, 46, 48, 46, 48, 47, 56, 32, 105, 110, 116, 114, 97, 32, 49, 49, 48, 32, 50, 48, 32, 48, 32, 118, 105, 97, 32, 49, 48, 46, 49, 46, 48, 46, 49, 32, 111, 110, 32, 101, 116, 104, 48]⟩] 9 (0, 0)) := by rw [hw2]; exact heap_new' _ _
    rw [e2] at ht
    exact ⟨HB1.out.trans (hb.mono (by omega)), (hb.block _ (by omega)).trans HX1.out, (hb.block _ (by omega)).trans HY1.out, rfl, ht⟩)
  clear e2 hw2 hw1
  go_wp2_with fail
  refine (tk_is ⟨#[49, 48, 46, 48, 46, 48, 46, 48, 47, 56, 32, 105, 110, 116, 114, 97, 32, 49, 49, 48, 32, 50, 48, 32, 48, 32, 118, 105, 97, 32, 49, 48, 46, 49, 46, 48, 46, 49, 32, 111, 110, 32, 101, 116, 104, 48]⟩ (w.heap.size + 2) _ S2.out.txt (by decide) ⟨#[49, 48, 46, 48, 46, 48, 46, 48, 47, 56]⟩ ⟨#[105, 110, 116, 114, 97, 32, 49, 49, 48, 32, 50, 48, 32, 48, 32, 118, 105, 97, 32, 49, 48, 46, 49, 46, 48, 46, 49, 32, 111, 110, 32, 101, 116, 104, 48]⟩ (by decide +kernel) (by decide +kernel)).mono ?_
  rintro e w3 ⟨rfl, ha, hb⟩
  have S3 := Lib.hid (S2.out.tk hb ha)
  clear ha hb
  go_wp2_with fail
  go_at_call 69
  refine (pfx_w _).mono ?_
  rintro e w4 ⟨rfl, hb⟩
  have S4 := Lib.hid (S3.out.on hb)
  clear hb
  obtain ⟨hc4, hf4⟩ : (∀ o, w4.cell? ⟨w.heap.size + 1, o, none⟩ = ([.int .u32 0, .int .i64 0, .int .u8 0, .int .i64 0, .int .i64 0, .int .i64 0, .string ⟨#[]⟩, .int .u32 0, .bool false] : List Value)[o]?) ∧ ∀ o, w4.frozen? ⟨w.heap.size + 1, o, none⟩ = false := ⟨S4.out.cells, S4.out.free⟩
  have xc0 := hc4 0; have xf0 := hf4 0
  simp only [List.getElem?_cons_zero, List.getElem?_cons_succ] at xc0
  have xc1 := hc4 1; have xf1 := hf4 1
  simp only [List.getElem?_cons_zero, List.getElem?_cons_succ] at xc1
  clear hc4 hf4
  go_wp2_with fail
  obtain ⟨w5, hw5⟩ : ∃ X, ((w4.setCell ⟨w.heap.size + 1, 0, none⟩ (.int .u32 167772160)).setCell ⟨w.heap.size + 1, 1, none⟩ (.int .i64 8)) = X := ⟨_, rfl⟩
  have S5 : Hid (RqS w w5 w.heap.size [.int .u32 167772160, .int .i64 8, .int .u8 0, .int .i64 0, .int .i64 0, .int .i64 0, .string ⟨#[]⟩, .int .u32 0, .bool false] ⟨#[105, 110, 116, 114, 97, 32, 49, 49, 48, 32, 50, 48, 32, 48, 32, 118, 105, 97, 32, 49, 48, 46, 49, 46, 48, 46, 49, 32, 111, 110, 32, 101, 116, 104, 48]⟩) := Lib.hid (by rw [← hw5]; exact ((S4.out).st 0 (.int .u32 167772160)).st 1 (.int .i64 8))
  rw [hw5]
  clear hw5 xc0 xf0 xc1 xf1
  refine (tk_is ⟨#[105, 110, 116, 114, 97, 32, 49, 49, 48, 32, 50, 48, 32, 48, 32, 118, 105, 97, 32, 49, 48, 46, 49, 46, 48, 46, 49, 32, 111, 110, 32, 101, 116, 104, 48]⟩ (w.heap.size + 2) _ S5.out.txt (by decide) ⟨#[105, 110, 116, 114, 97]⟩ ⟨#[49, 49, 48, 32, 50, 48, 32, 48, 32, 118, 105, 97, 32, 49, 48, 46, 49, 46, 48, 46, 49, 32, 111, 110, 32, 101, 116, 104, 48]⟩ (by decide +kernel) (by decide +kernel)).mono ?_
  rintro e w6 ⟨rfl, ha, hb⟩
  have S6 := Lib.hid (S5.out.tk hb ha)
  clear ha hb
  go_wp2_with fail
  go_at_call 70
  refine (src_w _ (HS.out.on S6.out.bel)).mono ?_
  rintro e w7 ⟨rfl, hq⟩
  have S7 : Hid (RqS w w7 w.heap.size [.int .u32 167772160, .int .i64 8, .int .u8 0, .int .i64 0, .int .i64 0, .int .i64 0, .string ⟨#[]⟩, .int .u32 0, .bool false] ⟨#[49, 49, 48, 32, 50, 48, 32, 48, 32, 118, 105, 97, 32, 49, 48, 46, 49, 46, 48, 46, 49, 32, 111, 110, 32, 101, 116, 104, 48]⟩) := Lib.hid (by rw [hq]; exact S6.out)
  clear hq
  obtain ⟨hc7, hf7⟩ : (∀ o, w7.cell? ⟨w.heap.size + 1, o, none⟩ = ([.int .u32 167772160, .int .i64 8, .int .u8 0, .int .i64 0, .int .i64 0, .int .i64 0, .string ⟨#[]⟩, .int .u32 0, .bool false] : List Value)[o]?) ∧ ∀ o, w7.frozen? ⟨w.heap.size + 1, o, none⟩ = false := ⟨S7.out.cells, S7.out.free⟩
  have xc2 := hc7 2; have xf2 := hf7 2
  simp only [List.getElem?_cons_zero, List.getElem?_cons_succ] at xc2
  clear hc7 hf7
  go_wp2_with fail
  obtain ⟨w8, hw8⟩ : ∃ X, (w7.setCell ⟨w.heap.size + 1, 2, none⟩ (.int .u8 3)) = X := ⟨_, rfl⟩
  have S8 : Hid (RqS w w8 w.heap.size [.int .u32 167772160, .int .i64 8, .int .u8 3, .int .i64 0, .int .i64 0, .int .i64 0, .string ⟨#[]⟩, .int .u32 0, .bool false] ⟨#[49, 49, 48, 32, 50, 48, 32, 48, 32, 118, 105, 97, 32, 49, 48, 46, 49, 46, 48, 46, 49, 32, 111, 110, 32, 101, 116, 104, 48]⟩) := Lib.hid (by rw [← hw8]; exact (S7.out).st 2 (.int .u8 3))
  rw [hw8]
  clear hw8 xc2 xf2
  refine (tk_is ⟨#[49, 49, 48, 32, 50, 48, 32, 48, 32, 118, 105, 97, 32, 49, 48, 46, 49, 46, 48, 46, 49, 32, 111, 110, 32, 101, 116, 104, 48]⟩ (w.heap.size + 2) _ S8.out.txt (by decide) ⟨#[49, 49, 48]⟩ ⟨#[50, 48, 32, 48, 32, 118, 105, 97, 32, 49, 48, 46, 49, 46, 48, 46, 49, 32, 111, 110, 32, 101, 116, 104, 48]⟩ (by decide +kernel) (by decide +kernel)).mono ?_
  rintro e w9 ⟨rfl, ha, hb⟩
  have S9 := Lib.hid (S8.out.tk hb ha)
  clear ha hb
  go_wp2_with fail
  go_at_call 71
  refine (num_w ⟨#[49, 49, 48]⟩ 110 (by decide) (by decide +kernel) _).mono ?_
  rintro e w10 ⟨rfl, hb⟩
  have S10 := Lib.hid (S9.out.on hb)
  clear hb
  obtain ⟨hc10, hf10⟩ : (∀ o, w10.cell? ⟨w.heap.size + 1, o, none⟩ = ([.int .u32 167772160, .int .i64 8, .int .u8 3, .int .i64 0, .int .i64 0, .int .i64 0, .string ⟨#[]⟩, .int .u32 0, .bool false] : List Value)[o]?) ∧ ∀ o, w10.frozen? ⟨w.heap.size + 1, o, none⟩ = false := ⟨S10.out.cells, S10.out.free⟩
  have xc3 := hc10 3; have xf3 := hf10 3
  simp only [List.getElem?_cons_zero, List.getElem?_cons_succ] at xc3
  clear hc10 hf10
  go_wp2_with fail
  obtain ⟨w11, hw11⟩ : ∃ X, (w10.setCell ⟨w.heap.size + 1, 3, none⟩ (.int .i64 110)) = X := ⟨_, rfl⟩
  have S11 : Hid (RqS w w11 w.heap.size [.int .u32 167772160, .int .i64 8, .int .u8 3, .int .i64 110, .int .i64 0, .int .i64 0, .string ⟨#[]⟩, .int .u32 0, .bool false] ⟨#[50, 48, 32, 48, 32, 118, 105, 97, 32, 49, 48, 46, 49, 46, 48, 46, 49, 32, 111, 110, 32, 101, 116, 104, 48]⟩) := Lib.hid (by rw [← hw11]; exact (S10.out).st 3 (.int .i64 110))
  rw [hw11]
  clear hw11 xc3 xf3
  refine (tk_is ⟨#[50, 48, 32, 48, 32, 118, 105, 97, 32, 49, 48, 46, 49, 46, 48, 46, 49, 32, 111, 110, 32, 101, 116, 104, 48]⟩ (w.heap.size + 2) _ S11.out.txt (by decide) ⟨#[50, 48]⟩ ⟨#[48, 32, 118, 105, 97, 32, 49, 48, 46, 49, 46, 48, 46, 49, 32, 111, 110, 32, 101, 116, 104, 48]⟩ (by decide +kernel) (by decide +kernel)).mono ?_
  rintro e w12 ⟨rfl, ha, hb⟩
  have S12 := Lib.hid (S11.out.tk hb ha)
  clear ha hb
  go_wp2_with fail
  go_at_call 71
  refine (num_w ⟨#[50, 48]⟩ 20 (by decide) (by decide +kernel) _).mono ?_
  rintro e w13 ⟨rfl, hb⟩
  have S13 := Lib.hid (S12.out.on hb)
  clear hb
  obtain ⟨hc13, hf13⟩ : (∀ o, w13.cell? ⟨w.heap.size + 1, o, none⟩ = ([.int .u32 167772160, .int .i64 8, .int .u8 3, .int .i64 110, .int .i64 0, .int .i64 0, .string ⟨#[]⟩, .int .u32 0, .bool false] : List Value)[o]?) ∧ ∀ o, w13.frozen? ⟨w.heap.size + 1, o, none⟩ = false := ⟨S13.out.cells, S13.out.free⟩
  have xc4 := hc13 4; have xf4 := hf13 4
  simp only [List.getElem?_cons_zero, List.getElem?_cons_succ] at xc4
  clear hc13 hf13
  go_wp2_with fail
  obtain ⟨w14, hw14⟩ : ∃ X, (w13.setCell ⟨w.heap.size + 1, 4, none⟩ (.int .i64 20)) = X := ⟨_, rfl⟩
  have S14 : Hid (RqS w w14 w.heap.size [.int .u32 167772160, .int .i64 8, .int .u8 3, .int .i64 110, .int .i64 20, .int .i64 0, .string ⟨#[]⟩, .int .u32 0, .bool false] ⟨#[48, 32, 118, 105, 97, 32, 49, 48, 46, 49, 46, 48, 46, 49, 32, 111, 110, 32, 101, 116, 104, 48]⟩) := Lib.hid (by rw [← hw14]; exact (S13.out).st 4 (.int .i64 20))
  rw [hw14]
  clear hw14 xc4 xf4
  refine (tk_is ⟨#[48, 32, 118, 105, 97, 32, 49, 48, 46, 49, 46, 48, 46, 49, 32, 111, 110, 32, 101, 116, 104, 48]⟩ (w.heap.size + 2) _ S14.out.txt (by decide) ⟨#[48]⟩ ⟨#[118, 105, 97, 32, 49, 48, 46, 49, 46, 48, 46, 49, 32, 111, 110, 32, 101, 116, 104, 48]⟩ (by decide +kernel) (by decide +kernel)).mono ?_
  rintro e w15 ⟨rfl, ha, hb⟩
  have S15 := Lib.hid (S14.out.tk hb ha)
  clear ha hb
  go_wp2_with fail
  go_at_call 71
  refine (num_w ⟨#[48]⟩ 0 (by decide) (by decide +kernel) _).mono ?_
  rintro e w16 ⟨rfl, hb⟩
  have S16 := Lib.hid (S15.out.on hb)
  clear hb
  obtain ⟨hc16, hf16⟩ : (∀ o, w16.cell? ⟨w.heap.size + 1, o, none⟩ = ([.int .u32 167772160, .int .i64 8, .int .u8 3, .int .i64 110, .int .i64 20, .int .i64 0, .string ⟨#[]⟩, .int .u32 0, .bool false] : List Value)[o]?) ∧ ∀ o, w16.frozen? ⟨w.heap.size + 1, o, none⟩ = false := ⟨S16.out.cells, S16.out.free⟩
  have xc5 := hc16 5; have xf5 := hf16 5
  simp only [List.getElem?_cons_zero, List.getElem?_cons_succ] at xc5
  clear hc16 hf16
  go_wp2_with fail
  obtain ⟨w17, hw17⟩ : ∃ X, (w16.setCell ⟨w.heap.size + 1, 5, none⟩ (.int .i64 0)) = X := ⟨_, rfl⟩
  have S17 : Hid (RqS w w17 w.heap.size [.int .u32 167772160, .int .i64 8, .int .u8 3, .int .i64 110, .int .i64 20, .int .i64 0, .string ⟨#[]⟩, .int .u32 0, .bool false] ⟨#[118, 105, 97, 32, 49, 48, 46, 49, 46, 48, 46, 49, 32, 111, 110, 32, 101, 116, 104, 48]⟩) := Lib.hid (by rw [← hw17]; exact (S16.out).st 5 (.int .i64 0))
  rw [hw17]
  clear hw17 xc5 xf5
  refine (tk_is ⟨#[118, 105, 97, 32, 49, 48, 46, 49, 46, 48, 46, 49, 32, 111, 110, 32, 101, 116, 104, 48]⟩ (w.heap.size + 2) _ S17.out.txt (by decide) ⟨#[118, 105, 97]⟩ ⟨#[49, 48, 46, 49, 46, 48, 46, 49, 32, 111, 110, 32, 101, 116, 104, 48]⟩ (by decide +kernel) (by decide +kernel)).mono ?_
  rintro e w18 ⟨rfl, ha, hb⟩
  have S18 := Lib.hid (S17.out.tk hb ha)
  clear ha hb
  go_wp2_with fail
  refine wp_loop_rounds 3 ?_
  rw [rounds_succ]
  go_wp2_with fail
  refine (tk_is ⟨#[49, 48, 46, 49, 46, 48, 46, 49, 32, 111, 110, 32, 101, 116, 104, 48]⟩ (w.heap.size + 2) _ S18.out.txt (by decide) ⟨#[49, 48, 46, 49, 46, 48, 46, 49]⟩ ⟨#[111, 110, 32, 101, 116, 104, 48]⟩ (by decide +kernel) (by decide +kernel)).mono ?_
  rintro e w19 ⟨rfl, ha, hb⟩
  have S19 := Lib.hid (S18.out.tk hb ha)
  clear ha hb
  go_wp2_with fail
  go_at_call 72
  refine (adr_w _).mono ?_
  rintro e w20 ⟨rfl, hb⟩
  have S20 := Lib.hid (S19.out.on hb)
  clear hb
  obtain ⟨hc20, hf20⟩ : (∀ o, w20.cell? ⟨w.heap.size + 1, o, none⟩ = ([.int .u32 167772160, .int .i64 8, .int .u8 3, .int .i64 110, .int .i64 20, .int .i64 0, .string ⟨#[]⟩, .int .u32 0, .bool false] : List Value)[o]?) ∧ ∀ o, w20.frozen? ⟨w.heap.size + 1, o, none⟩ = false := ⟨S20.out.cells, S20.out.free⟩
  have xc7 := hc20 7; have xf7 := hf20 7
  simp only [List.getElem?_cons_zero, List.getElem?_cons_succ] at xc7
  clear hc20 hf20
  go_wp2_with fail
  obtain ⟨w21, hw21⟩ : ∃ X, (w20.setCell ⟨w.heap.size + 1, 7, none⟩ (.int .u32 167837697)) = X := ⟨_, rfl⟩
  have S21 : Hid (RqS w w21 w.heap.size [.int .u32 167772160, .int .i64 8, .int .u8 3, .int .i64 110, .int .i64 20, .int .i64 0, .string ⟨#[]⟩, .int .u32 167837697, .bool false] ⟨#[111, 110, 32, 101, 116, 104, 48]⟩) := Lib.hid (by rw [← hw21]; exact (S20.out).st 7 (.int .u32 167837697))
  rw [hw21]
  clear hw21 xc7 xf7
  refine (tk_is ⟨#[111, 110, 32, 101, 116, 104, 48]⟩ (w.heap.size + 2) _ S21.out.txt (by decide) ⟨#[111, 110]⟩ ⟨#[101, 116, 104, 48]⟩ (by decide +kernel) (by decide +kernel)).mono ?_
  rintro e w22 ⟨rfl, ha, hb⟩
  have S22 := Lib.hid (S21.out.tk hb ha)
  clear ha hb
  go_wp2_with fail
  rw [rounds_succ]
  go_wp2_with fail
  refine (tk_is ⟨#[101, 116, 104, 48]⟩ (w.heap.size + 2) _ S22.out.txt (by decide) ⟨#[101, 116, 104, 48]⟩ ⟨#[]⟩ (by decide +kernel) (by decide +kernel)).mono ?_
  rintro e w23 ⟨rfl, ha, hb⟩
  have S23 := Lib.hid (S22.out.tk hb ha)
  clear ha hb
  go_wp2_with fail
  go_at_call 73
  refine (clone_w ⟨#[101, 116, 104, 48]⟩ (by decide) _).mono ?_
  rintro e w24 ⟨rfl, hb⟩
  have S24 := Lib.hid (S23.out.on hb)
  clear hb
  obtain ⟨hc24, hf24⟩ : (∀ o, w24.cell? ⟨w.heap.size + 1, o, none⟩ = ([.int .u32 167772160, .int .i64 8, .int .u8 3, .int .i64 110, .int .i64 20, .int .i64 0, .string ⟨#[]⟩, .int .u32 167837697, .bool false] : List Value)[o]?) ∧ ∀ o, w24.frozen? ⟨w.heap.size + 1, o, none⟩ = false := ⟨S24.out.cells, S24.out.free⟩
  have xc6 := hc24 6; have xf6 := hf24 6
  simp only [List.getElem?_cons_zero, List.getElem?_cons_succ] at xc6
  clear hc24 hf24
  go_wp2_with fail
  obtain ⟨w25, hw25⟩ : ∃ X, (w24.setCell ⟨w.heap.size + 1, 6, none⟩ (.string ⟨#[101, 116, 104, 48]⟩)) = X := ⟨_, rfl⟩
  have S25 : Hid (RqS w w25 w.heap.size [.int .u32 167772160, .int .i64 8, .int .u8 3, .int .i64 110, .int .i64 20, .int .i64 0, .string ⟨#[101, 116, 104, 48]⟩, .int .u32 167837697, .bool false] ⟨#[]⟩) := Lib.hid (by rw [← hw25]; exact (S24.out).st 6 (.string ⟨#[101, 116, 104, 48]⟩))
  rw [hw25]
  clear hw25 xc6 xf6
  refine (tk_is ⟨#[]⟩ (w.heap.size + 2) _ S25.out.txt (by decide) ⟨#[]⟩ ⟨#[]⟩ (by decide +kernel) (by decide +kernel)).mono ?_
  rintro e w26 ⟨rfl, ha, hb⟩
  have S26 := Lib.hid (S25.out.tk hb ha)
  clear ha hb
  have hd : ∀ o, w26.cell? ⟨w.heap.size, o, none⟩ = ([.int .u32 0, .int .i64 0, .int .u8 0, .int .i64 0, .int .i64 0, .int .i64 0, .string ⟨#[]⟩, .int .u32 0, .bool false] : List Value)[o]? := fun o => by
    simp only [World.cell?, S26.out.res]; simp
  have hg : ∀ o, w26.frozen? ⟨w.heap.size, o, none⟩ = false := fun o => by simp [World.frozen?, S26.out.res]
  have hc : ∀ o, w26.cell? ⟨w.heap.size + 1, o, none⟩ = ([.int .u32 167772160, .int .i64 8, .int .u8 3, .int .i64 110, .int .i64 20, .int .i64 0, .string ⟨#[101, 116, 104, 48]⟩, .int .u32 167837697, .bool false] : List Value)[o]? := S26.out.cells
  have xc0 := hc 0; have xd0 := hd 0; have xg0 := hg 0
  simp only [List.getElem?_cons_zero, List.getElem?_cons_succ] at xc0 xd0
  have xc1 := hc 1; have xd1 := hd 1; have xg1 := hg 1
  simp only [List.getElem?_cons_zero, List.getElem?_cons_succ] at xc1 xd1
  have xc2 := hc 2; have xd2 := hd 2; have xg2 := hg 2
  simp only [List.getElem?_cons_zero, List.getElem?_cons_succ] at xc2 xd2
  have xc3 := hc 3; have xd3 := hd 3; have xg3 := hg 3
  simp only [List.getElem?_cons_zero, List.getElem?_cons_succ] at xc3 xd3
  have xc4 := hc 4; have xd4 := hd 4; have xg4 := hg 4
  simp only [List.getElem?_cons_zero, List.getElem?_cons_succ] at xc4 xd4
  have xc5 := hc 5; have xd5 := hd 5; have xg5 := hg 5
  simp only [List.getElem?_cons_zero, List.getElem?_cons_succ] at xc5 xd5
  have xc6 := hc 6; have xd6 := hd 6; have xg6 := hg 6
  simp only [List.getElem?_cons_zero, List.getElem?_cons_succ] at xc6 xd6
  have xc7 := hc 7; have xd7 := hd 7; have xg7 := hg 7
  simp only [List.getElem?_cons_zero, List.getElem?_cons_succ] at xc7 xd7
  have xc8 := hc 8; have xd8 := hd 8; have xg8 := hg 8
  simp only [List.getElem?_cons_zero, List.getElem?_cons_succ] at xc8 xd8
  clear hc hd hg
  go_wp2_with fail
  rw [rounds_succ]
  go_wp2
  refine bodyPost_ret (by simp [results, Tryz.results39, go_sem, xd0, xd1, xd2, xd3, xd4, xd5, xd6, xd7, xd8]; try rfl) rfl ?_
  exact ⟨rfl, Below.setCell (p := ⟨w.heap.size, 8, none⟩) (Below.setCell (p := ⟨w.heap.size, 7, none⟩) (Below.setCell (p := ⟨w.heap.size, 6, none⟩) (Below.setCell (p := ⟨w.heap.size, 5, none⟩) (Below.setCell (p := ⟨w.heap.size, 4, none⟩) (Below.setCell (p := ⟨w.heap.size, 3, none⟩) (Below.setCell (p := ⟨w.heap.size, 2, none⟩) (Below.setCell (p := ⟨w.heap.size, 1, none⟩) (Below.setCell (p := ⟨w.heap.size, 0, none⟩) (S26.out.bel) (Nat.le_refl _) _) (Nat.le_refl _) _) (Nat.le_refl _) _) (Nat.le_refl _) _) (Nat.le_refl _) _) (Nat.le_refl _) _) (Nat.le_refl _) _) (Nat.le_refl _) _) (Nat.le_refl _) _⟩
end Go.Proofs.YtmbkkjofikijiaaGreatDoor
