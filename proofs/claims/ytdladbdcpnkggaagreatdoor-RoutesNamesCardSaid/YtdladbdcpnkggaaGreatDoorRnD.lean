/- Text of package routes at what RoutesNames asks. Conditions: the table of package strconv and the words of package routes are what their texts say. -/
import Derived.Test.YtdladbdcpnkggaaGreatDoorRnC
import Derived.Deep.RegionHeld3
import Derived.Deep.DeepCutAuto
namespace Go.Proofs.YtdladbdcpnkggaaGreatDoor
open Go.RowKit
/-- The word that stands eighth among the sources. -/
def Src (w : World) : Prop := w.cell? ⟨0, 8, none⟩ = some (.string ⟨#[105, 98, 103, 112]⟩) ∧ 0 < w.heap.size
theorem Src.on {w w' : World} (h : Src w) (hb : Below w.heap.size w w') : Src w' := ⟨(hb.cell (p := ⟨0, 8, none⟩) h.2).trans h.1, by have := hb.size; have := h.2; omega⟩
theorem pt0 (w : World) (ht : Tab10 w) : Calls Tryz.prog 10 #[.agg #[.int .u32 0, .int .i64 0]] w fun e w' => e = .returned (.string ⟨#[48, 46, 48, 46, 48, 46, 48, 47, 48]⟩) ∧ Below w.heap.size w w' := by
  have h := ptext_is 0 0 w (by omega) (by omega) (by omega) (by omega) ht
  rw [show (⟨(ptext (0 : Int).toNat 0).toArray⟩ : ByteArray) = ⟨#[48, 46, 48, 46, 48, 46, 48, 47, 48]⟩ by decide +kernel] at h
  exact h
theorem ia (n : Int) (s : ByteArray) (hn : 0 ≤ n) (hn2 : n < 4294967296) (hs : (⟨(Lib.itoa n).toArray⟩ : ByteArray) = s) (w : World) (ht : Tab10 w) : Calls Tryz.prog 11 #[.int .i64 n] w fun e w' => e = .returned (.string s) ∧ Below w.heap.size w w' := by
  have h := itoa_is n w (by omega) (by omega) ht
  rw [hs] at h
  exact h
theorem jn_le : ∀ (ws : List ByteArray) (a : List UInt8), (∀ s ∈ ws, s.size ≤ 100000) → (jn a ws).length ≤ a.length + ws.length * 100001
  | [], a, _ => by simp [jn]
  | s :: ws, a, h => by
    have h1 := h s (List.mem_cons_self ..)
    have h2 := jn_le ws (jn1 a s) (fun t ht => h t (List.mem_cons_of_mem _ ht))
    have h3 : (jn1 a s).length ≤ a.length + 100001 := by
      unfold jn1
      rw [bsz] at h1
      simp only [List.length_append]
      split <;> simp only [List.length_nil, List.length_cons] <;> omega
    have e : jn a (s :: ws) = jn (jn1 a s) ws := rfl
    rw [e, List.length_cons]
    omega
theorem built_rd (ws : List ByteArray) (X W : World) (hk : Lib.OthersKept 5 none (X.alloc (.cells (ws.map Value.string).toArray 9)) W) : ∀ i s, ws[i]? = some s → ∃ b o, (some ⟨X.heap.size, 0, none⟩ : Option Addr) = some ⟨b, o, none⟩ ∧ W.cell? ⟨b, o + i, none⟩ = some (.string s) := fun i s hs => by
  have h := hk X.heap.size _ (heap_new' X _) (by simp) (by intro c fz e; simp at e)
  refine ⟨_, _, rfl, ?_⟩
  simp only [World.cell?, h]
  simp [hs]
theorem write_lit (B : Nat) (a : List UInt8) (ws : List ByteArray) (v : Value) (n : Nat) (X : World) (r : List UInt8) (hn : n = ws.length) (h20 : ws.length ≤ 20) (hs : ws.all (fun s => decide (s.size ≤ 1000)) = true) (hla : a.length ≤ 100000) (ho : X.ownsRow B 5 1 v a.length (Lib.byteCells a)) (hB : B ≤ X.heap.size) (hr : jn a ws = r) :
    Calls Tryz.prog 9 #[v, .slice (some ⟨X.heap.size, 0, none⟩) n n] (X.alloc (.cells (ws.map Value.string).toArray 9)) (WrPost B r (X.alloc (.cells (ws.map Value.string).toArray 9))) := by
  subst hn hr
  have h1 : ∀ s ∈ ws, s.size ≤ 1000 := fun s h => by simpa using List.all_eq_true.1 hs s h
  refine write_is B a ws v _ _ _ (ho.alloc _) (by simp; omega) (fun W hk => built_rd ws X W hk) (by omega) (fun s h => by have := h1 s h; omega) (fun k hk => ?_)
  have h2 := jn_le (ws.take k) a (fun s h => by have := h1 s (List.mem_of_mem_take h); omega)
  rw [List.length_take] at h2
  have h3 : min k ws.length * 100001 ≤ 20 * 100001 := Nat.mul_le_mul_right _ (by omega)
  omega
set_option maxHeartbeats 1000000 in
theorem text_b (w : World) : Calls Tryz.prog 4 #[.agg #[.int .u32 0, .int .i64 0, .int .u8 8, .int .i64 2147483647, .int .i64 2147483647, .int .i64 2147483648, .string ⟨#[97]⟩, .int .u32 0, .bool false]] w fun e w' => e = .returned (.tuple #[.string ⟨#[]⟩, .int .i64 1]) ∧ Below w.heap.size w w' := by
  obtain ⟨W1, hW1⟩ : ∃ X, w.alloc (.cells #[.int .u32 0, .int .i64 0, .int .u8 8, .int .i64 2147483647, .int .i64 2147483647, .int .i64 2147483648, .string ⟨#[97]⟩, .int .u32 0, .bool false] 27) = X := ⟨_, rfl⟩
  have HB1 : Hid (Below w.heap.size w W1) := Lib.hid (by rw [← hW1]; exact (Below.refl _ _).alloc (Nat.le_refl _) _)
  have HX1 : Hid (W1.heap[w.heap.size]? = some (.cells #[.int .u32 0, .int .i64 0, .int .u8 8, .int .i64 2147483647, .int .i64 2147483647, .int .i64 2147483648, .string ⟨#[97]⟩, .int .u32 0, .bool false] 27 (0, 0))) := Lib.hid (by rw [← hW1]; exact heap_new' _ _)
  have HZ1 : Hid (w.heap.size < W1.heap.size) := Lib.hid (Array.getElem?_eq_some_iff.1 HX1.out).1
  have HCE : Hid (∀ W, Below W1.heap.size W1 W → W.cell? ⟨w.heap.size, 0, none⟩ = some (.int .u32 0) ∧ W.cell? ⟨w.heap.size, 1, none⟩ = some (.int .i64 0) ∧ W.cell? ⟨w.heap.size, 2, none⟩ = some (.int .u8 8) ∧ W.cell? ⟨w.heap.size, 3, none⟩ = some (.int .i64 2147483647) ∧ W.cell? ⟨w.heap.size, 4, none⟩ = some (.int .i64 2147483647) ∧ W.cell? ⟨w.heap.size, 5, none⟩ = some (.int .i64 2147483648) ∧ W.cell? ⟨w.heap.size, 6, none⟩ = some (.string ⟨#[97]⟩) ∧ W.cell? ⟨w.heap.size, 7, none⟩ = some (.int .u32 0) ∧ W.cell? ⟨w.heap.size, 8, none⟩ = some (.bool false)) := Lib.hid fun W hb => by
    have e := (hb.block w.heap.size HZ1.out).trans HX1.out
    refine ⟨?_, ?_, ?_, ?_, ?_, ?_, ?_, ?_, ?_⟩ <;> (simp only [World.cell?, e]; rfl)
  obtain ⟨x0, x1, x2, x3, x4, x5, x6, x7, x8⟩ := HCE.out W1 (Below.refl _ _)
  go_enter Tryz.func4, Tryz.ntmps4
  go_wp2_with fail
  go_at_call 8
  refine (may_b _).mono ?_
  rintro e w2 ⟨rfl, hb2⟩
  have HB2 := Lib.hid (Below.step HB1.out hb2)
  clear hb2
  go_wp2
  go_ret2
  exact ⟨rfl, HB2.out⟩
set_option maxHeartbeats 1000000 in
theorem text_c (w : World) : Calls Tryz.prog 4 #[.agg #[.int .u32 0, .int .i64 0, .int .u8 9, .int .i64 0, .int .i64 0, .int .i64 0, .string ⟨#[]⟩, .int .u32 0, .bool false]] w fun e w' => e = .returned (.tuple #[.string ⟨#[]⟩, .int .i64 1]) ∧ Below w.heap.size w w' := by
  obtain ⟨W1, hW1⟩ : ∃ X, w.alloc (.cells #[.int .u32 0, .int .i64 0, .int .u8 9, .int .i64 0, .int .i64 0, .int .i64 0, .string ⟨#[]⟩, .int .u32 0, .bool false] 27) = X := ⟨_, rfl⟩
  have HB1 : Hid (Below w.heap.size w W1) := Lib.hid (by rw [← hW1]; exact (Below.refl _ _).alloc (Nat.le_refl _) _)
  have HX1 : Hid (W1.heap[w.heap.size]? = some (.cells #[.int .u32 0, .int .i64 0, .int .u8 9, .int .i64 0, .int .i64 0, .int .i64 0, .string ⟨#[]⟩, .int .u32 0, .bool false] 27 (0, 0))) := Lib.hid (by rw [← hW1]; exact heap_new' _ _)
  have HZ1 : Hid (w.heap.size < W1.heap.size) := Lib.hid (Array.getElem?_eq_some_iff.1 HX1.out).1
  have HCE : Hid (∀ W, Below W1.heap.size W1 W → W.cell? ⟨w.heap.size, 0, none⟩ = some (.int .u32 0) ∧ W.cell? ⟨w.heap.size, 1, none⟩ = some (.int .i64 0) ∧ W.cell? ⟨w.heap.size, 2, none⟩ = some (.int .u8 9) ∧ W.cell? ⟨w.heap.size, 3, none⟩ = some (.int .i64 0) ∧ W.cell? ⟨w.heap.size, 4, none⟩ = some (.int .i64 0) ∧ W.cell? ⟨w.heap.size, 5, none⟩ = some (.int .i64 0) ∧ W.cell? ⟨w.heap.size, 6, none⟩ = some (.string ⟨#[]⟩) ∧ W.cell? ⟨w.heap.size, 7, none⟩ = some (.int .u32 0) ∧ W.cell? ⟨w.heap.size, 8, none⟩ = some (.bool false)) := Lib.hid fun W hb => by
    have e := (hb.block w.heap.size HZ1.out).trans HX1.out
    refine ⟨?_, ?_, ?_, ?_, ?_, ?_, ?_, ?_, ?_⟩ <;> (simp only [World.cell?, e]; rfl)
  obtain ⟨x0, x1, x2, x3, x4, x5, x6, x7, x8⟩ := HCE.out W1 (Below.refl _ _)
  go_enter Tryz.func4, Tryz.ntmps4
  go_wp2_with fail
  go_at_call 8
  refine (may_c _).mono ?_
  rintro e w2 ⟨rfl, hb2⟩
  have HB2 := Lib.hid (Below.step HB1.out hb2)
  clear hb2
  go_wp2
  go_ret2
  exact ⟨rfl, HB2.out⟩
set_option maxHeartbeats 1000000 in
theorem text_d (w : World) : Calls Tryz.prog 4 #[.agg #[.int .u32 0, .int .i64 0, .int .u8 1, .int .i64 0, .int .i64 0, .int .i64 0, .string ⟨#[49]⟩, .int .u32 0, .bool false]] w fun e w' => e = .returned (.tuple #[.string ⟨#[]⟩, .int .i64 1]) ∧ Below w.heap.size w w' := by
  obtain ⟨W1, hW1⟩ : ∃ X, w.alloc (.cells #[.int .u32 0, .int .i64 0, .int .u8 1, .int .i64 0, .int .i64 0, .int .i64 0, .string ⟨#[49]⟩, .int .u32 0, .bool false] 27) = X := ⟨_, rfl⟩
  have HB1 : Hid (Below w.heap.size w W1) := Lib.hid (by rw [← hW1]; exact (Below.refl _ _).alloc (Nat.le_refl _) _)
  have HX1 : Hid (W1.heap[w.heap.size]? = some (.cells #[.int .u32 0, .int .i64 0, .int .u8 1, .int .i64 0, .int .i64 0, .int .i64 0, .string ⟨#[49]⟩, .int .u32 0, .bool false] 27 (0, 0))) := Lib.hid (by rw [← hW1]; exact heap_new' _ _)
  have HZ1 : Hid (w.heap.size < W1.heap.size) := Lib.hid (Array.getElem?_eq_some_iff.1 HX1.out).1
  have HCE : Hid (∀ W, Below W1.heap.size W1 W → W.cell? ⟨w.heap.size, 0, none⟩ = some (.int .u32 0) ∧ W.cell? ⟨w.heap.size, 1, none⟩ = some (.int .i64 0) ∧ W.cell? ⟨w.heap.size, 2, none⟩ = some (.int .u8 1) ∧ W.cell? ⟨w.heap.size, 3, none⟩ = some (.int .i64 0) ∧ W.cell? ⟨w.heap.size, 4, none⟩ = some (.int .i64 0) ∧ W.cell? ⟨w.heap.size, 5, none⟩ = some (.int .i64 0) ∧ W.cell? ⟨w.heap.size, 6, none⟩ = some (.string ⟨#[49]⟩) ∧ W.cell? ⟨w.heap.size, 7, none⟩ = some (.int .u32 0) ∧ W.cell? ⟨w.heap.size, 8, none⟩ = some (.bool false)) := Lib.hid fun W hb => by
    have e := (hb.block w.heap.size HZ1.out).trans HX1.out
    refine ⟨?_, ?_, ?_, ?_, ?_, ?_, ?_, ?_, ?_⟩ <;> (simp only [World.cell?, e]; rfl)
  obtain ⟨x0, x1, x2, x3, x4, x5, x6, x7, x8⟩ := HCE.out W1 (Below.refl _ _)
  go_enter Tryz.func4, Tryz.ntmps4
  go_wp2_with fail
  go_at_call 8
  refine (may_d _).mono ?_
  rintro e w2 ⟨rfl, hb2⟩
  have HB2 := Lib.hid (Below.step HB1.out hb2)
  clear hb2
  go_wp2
  go_ret2
  exact ⟨rfl, HB2.out⟩
set_option maxRecDepth 100000 in
set_option maxHeartbeats 8000000 in
theorem text_a (w : World) (ht : Tab10 w) (hs : Src w) : Calls Tryz.prog 4 #[.agg #[.int .u32 0, .int .i64 0, .int .u8 8, .int .i64 2147483647, .int .i64 2147483647, .int .i64 2147483647, .string ⟨#[97]⟩, .int .u32 0, .bool false]] w fun e w' => e = .returned (.tuple #[.string ⟨#[48, 46, 48, 46, 48, 46, 48, 47, 48, 32, 105, 98, 103, 112, 32, 50, 49, 52, 55, 52, 56, 51, 54, 52, 55, 32, 50, 49, 52, 55, 52, 56, 51, 54, 52, 55, 32, 50, 49, 52, 55, 52, 56, 51, 54, 52, 55, 32, 111, 110, 32, 97]⟩, .int .i64 0]) ∧ Below w.heap.size w w' := by
  obtain ⟨W1, hW1⟩ : ∃ X, w.alloc (.cells #[.int .u32 0, .int .i64 0, .int .u8 8, .int .i64 2147483647, .int .i64 2147483647, .int .i64 2147483647, .string ⟨#[97]⟩, .int .u32 0, .bool false] 27) = X := ⟨_, rfl⟩
  have HB1 : Hid (Below w.heap.size w W1) := Lib.hid (by rw [← hW1]; exact (Below.refl _ _).alloc (Nat.le_refl _) _)
  have HX1 : Hid (W1.heap[w.heap.size]? = some (.cells #[.int .u32 0, .int .i64 0, .int .u8 8, .int .i64 2147483647, .int .i64 2147483647, .int .i64 2147483647, .string ⟨#[97]⟩, .int .u32 0, .bool false] 27 (0, 0))) := Lib.hid (by rw [← hW1]; exact heap_new' _ _)
  have HZ1 : Hid (w.heap.size < W1.heap.size) := Lib.hid (Array.getElem?_eq_some_iff.1 HX1.out).1
  have HCE : Hid (∀ W, Below W1.heap.size W1 W → W.cell? ⟨w.heap.size, 0, none⟩ = some (.int .u32 0) ∧ W.cell? ⟨w.heap.size, 1, none⟩ = some (.int .i64 0) ∧ W.cell? ⟨w.heap.size, 2, none⟩ = some (.int .u8 8) ∧ W.cell? ⟨w.heap.size, 3, none⟩ = some (.int .i64 2147483647) ∧ W.cell? ⟨w.heap.size, 4, none⟩ = some (.int .i64 2147483647) ∧ W.cell? ⟨w.heap.size, 5, none⟩ = some (.int .i64 2147483647) ∧ W.cell? ⟨w.heap.size, 6, none⟩ = some (.string ⟨#[97]⟩) ∧ W.cell? ⟨w.heap.size, 7, none⟩ = some (.int .u32 0) ∧ W.cell? ⟨w.heap.size, 8, none⟩ = some (.bool false)) := Lib.hid fun W hb => by
    have e := (hb.block w.heap.size HZ1.out).trans HX1.out
    refine ⟨?_, ?_, ?_, ?_, ?_, ?_, ?_, ?_, ?_⟩ <;> (simp only [World.cell?, e]; rfl)
  obtain ⟨x0, x1, x2, x3, x4, x5, x6, x7, x8⟩ := HCE.out W1 (Below.refl _ _)
  have HT := Lib.hid ht
  have HS := Lib.hid hs
  clear ht hs
  go_enter Tryz.func4, Tryz.ntmps4
  go_wp2_with fail
  go_at_call 8
  refine (may_a _).mono ?_
  rintro e w2 ⟨rfl, hb2⟩
  have HB2 := Lib.hid hb2
  clear hb2 x0 x1 x2 x3 x4 x5 x6 x7 x8
  have HSS : Hid (∀ W, Below w2.heap.size w2 W → W.cell? ⟨w.heap.size, 0, none⟩ = some (.int .u32 0) ∧ W.cell? ⟨w.heap.size, 1, none⟩ = some (.int .i64 0) ∧ W.cell? ⟨w.heap.size, 2, none⟩ = some (.int .u8 8) ∧ W.cell? ⟨w.heap.size, 3, none⟩ = some (.int .i64 2147483647) ∧ W.cell? ⟨w.heap.size, 4, none⟩ = some (.int .i64 2147483647) ∧ W.cell? ⟨w.heap.size, 5, none⟩ = some (.int .i64 2147483647) ∧ W.cell? ⟨w.heap.size, 6, none⟩ = some (.string ⟨#[97]⟩) ∧ W.cell? ⟨w.heap.size, 7, none⟩ = some (.int .u32 0) ∧ W.cell? ⟨w.heap.size, 8, none⟩ = some (.bool false) ∧ W.cell? ⟨0, 8, none⟩ = some (.string ⟨#[105, 98, 103, 112]⟩)) := Lib.hid fun W hb => by
    have h1 := HCE.out W (Below.step HB2.out hb)
    have h2 := HS.out.on (Below.step HB1.out (Below.step HB2.out hb))
    obtain ⟨a0, a1, a2, a3, a4, a5, a6, a7, a8⟩ := h1
    exact ⟨a0, a1, a2, a3, a4, a5, a6, a7, a8, h2.1⟩
  have HTT : Hid (∀ W, Below w2.heap.size w2 W → Tab10 W) := Lib.hid fun W hb => HT.out.on (Below.step HB1.out (Below.step HB2.out hb))
  have hb0 : Below w2.heap.size w2 w2 := Below.refl _ _
  obtain ⟨x0, x1, x2, x3, x4, x5, x6, x7, x8, xs⟩ := HSS.out w2 (Below.refl _ _)
  have HPT : Hid (∀ W, Below w2.heap.size w2 W → Calls Tryz.prog 10 #[.agg #[.int .u32 0, .int .i64 0]] W fun e w' => e = .returned (.string ⟨#[48, 46, 48, 46, 48, 46, 48, 47, 48]⟩) ∧ Below W.heap.size W w') := Lib.hid fun W hb => pt0 W (HTT.out W hb)
  have HIA : Hid (∀ W, Below w2.heap.size w2 W → Calls Tryz.prog 11 #[.int .i64 2147483647] W fun e w' => e = .returned (.string ⟨#[50, 49, 52, 55, 52, 56, 51, 54, 52, 55]⟩) ∧ Below W.heap.size W w') := Lib.hid fun W hb => ia _ _ (by omega) (by omega) (by decide +kernel) W (HTT.out W hb)
  have HWR : Hid (∀ W, Below w2.heap.size w2 W → Calls Tryz.prog 9 #[.slice none 0 0, .slice (some ⟨W.heap.size, 0, none⟩) 5 5] (W.alloc (.cells #[.string ⟨#[48, 46, 48, 46, 48, 46, 48, 47, 48]⟩, .string ⟨#[105, 98, 103, 112]⟩, .string ⟨#[50, 49, 52, 55, 52, 56, 51, 54, 52, 55]⟩, .string ⟨#[50, 49, 52, 55, 52, 56, 51, 54, 52, 55]⟩, .string ⟨#[50, 49, 52, 55, 52, 56, 51, 54, 52, 55]⟩] 9)) (WrPost w2.heap.size [48, 46, 48, 46, 48, 46, 48, 47, 48, 32, 105, 98, 103, 112, 32, 50, 49, 52, 55, 52, 56, 51, 54, 52, 55, 32, 50, 49, 52, 55, 52, 56, 51, 54, 52, 55, 32, 50, 49, 52, 55, 52, 56, 51, 54, 52, 55] (W.alloc (.cells #[.string ⟨#[48, 46, 48, 46, 48, 46, 48, 47, 48]⟩, .string ⟨#[105, 98, 103, 112]⟩, .string ⟨#[50, 49, 52, 55, 52, 56, 51, 54, 52, 55]⟩, .string ⟨#[50, 49, 52, 55, 52, 56, 51, 54, 52, 55]⟩, .string ⟨#[50, 49, 52, 55, 52, 56, 51, 54, 52, 55]⟩] 9)))) := Lib.hid fun W hb => write_lit w2.heap.size [] [⟨#[48, 46, 48, 46, 48, 46, 48, 47, 48]⟩, ⟨#[105, 98, 103, 112]⟩, ⟨#[50, 49, 52, 55, 52, 56, 51, 54, 52, 55]⟩, ⟨#[50, 49, 52, 55, 52, 56, 51, 54, 52, 55]⟩, ⟨#[50, 49, 52, 55, 52, 56, 51, 54, 52, 55]⟩] _ 5 W _ rfl (by decide) (by decide +kernel) (by decide) (World.ownsRow_nil _ _ _ _) hb.size (by decide +kernel)
  go_wp2_with fail
  go_region_held3 (fun w' => w'.cell? ⟨w.heap.size, 0, none⟩ = some (.int .u32 0) ∧ w'.cell? ⟨w.heap.size, 1, none⟩ = some (.int .i64 0) ∧ w'.cell? ⟨w.heap.size, 2, none⟩ = some (.int .u8 8) ∧ w'.cell? ⟨w.heap.size, 3, none⟩ = some (.int .i64 2147483647) ∧ w'.cell? ⟨w.heap.size, 4, none⟩ = some (.int .i64 2147483647) ∧ w'.cell? ⟨w.heap.size, 5, none⟩ = some (.int .i64 2147483647) ∧ w'.cell? ⟨w.heap.size, 6, none⟩ = some (.string ⟨#[97]⟩) ∧ w'.cell? ⟨w.heap.size, 7, none⟩ = some (.int .u32 0) ∧ w'.cell? ⟨w.heap.size, 8, none⟩ = some (.bool false) ∧ w'.cell? ⟨0, 8, none⟩ = some (.string ⟨#[105, 98, 103, 112]⟩)) (first | exact HSS.out _ (by first | assumption | exact hb0.drew) | exact HSS.out _ (Below.alloc (by first | assumption | exact hb0.drew) (Below.size (by first | assumption | exact hb0.drew)) _) | go_keep | (trace_state; fail)) (first
    | (go_at_call 10; refine (HPT.out _ (by first | assumption | exact hb0.drew)).mono ?_; rintro e w3 ⟨rfl, hb3⟩; have hb3 := Below.step (a := w2) (by first | assumption | exact hb0.drew) hb3)
    | (go_at_call 11; refine (HIA.out _ (by first | assumption | exact hb0.drew)).mono ?_; rintro e w3 ⟨rfl, hb3⟩; have hb3 := Below.step (a := w2) (by first | assumption | exact hb0.drew) hb3)
    | (go_at_call 9; refine (HWR.out _ (by first | assumption | exact hb0.drew)).mono ?_; rintro e w3 ⟨v3, rfl, ho3, hb3, _⟩; have hb3 := Below.trans (Below.alloc (a := w2) (by first | assumption | exact hb0.drew) (Below.size (by first | assumption | exact hb0.drew)) _) hb3))
  have HO3 := Lib.hid ho3
  have HB3 := Lib.hid hb3
  clear x0 x1 x2 x3 x4 x5 x6 x7 x8 xs ho3 hb3
  obtain ⟨x0, x1, x2, x3, x4, x5, x6, x7, x8, xs⟩ := HSS.out w3 HB3.out
  (try simp only [Exit.then])
  go_wp2_with fail
  go_at_call 9
  refine (write_lit w2.heap.size [48, 46, 48, 46, 48, 46, 48, 47, 48, 32, 105, 98, 103, 112, 32, 50, 49, 52, 55, 52, 56, 51, 54, 52, 55, 32, 50, 49, 52, 55, 52, 56, 51, 54, 52, 55, 32, 50, 49, 52, 55, 52, 56, 51, 54, 52, 55] [⟨#[111, 110]⟩, ⟨#[97]⟩] _ 2 w3 [48, 46, 48, 46, 48, 46, 48, 47, 48, 32, 105, 98, 103, 112, 32, 50, 49, 52, 55, 52, 56, 51, 54, 52, 55, 32, 50, 49, 52, 55, 52, 56, 51, 54, 52, 55, 32, 50, 49, 52, 55, 52, 56, 51, 54, 52, 55, 32, 111, 110, 32, 97] rfl (by decide) (by decide +kernel) (by decide) HO3.out HB3.out.size (by decide +kernel)).mono ?_
  rintro e w4 ⟨v4, rfl, ho4, hb4, _⟩
  have HB4 := Lib.hid (Below.trans (HB3.out.alloc HB3.out.size _) hb4)
  obtain ⟨g4, c4, rfl, _, _⟩ := World.ownsRow.form ho4 (by decide)
  have hcv : (convert 41 9 (.slice (some ⟨g4, 0, none⟩) 52 c4)).run Tryz.prog w4 = .ok (.string ⟨#[48, 46, 48, 46, 48, 46, 48, 47, 48, 32, 105, 98, 103, 112, 32, 50, 49, 52, 55, 52, 56, 51, 54, 52, 55, 32, 50, 49, 52, 55, 52, 56, 51, 54, 52, 55, 32, 50, 49, 52, 55, 52, 56, 51, 54, 52, 55, 32, 111, 110, 32, 97]⟩) w4 := conv_bytes (L := [48, 46, 48, 46, 48, 46, 48, 47, 48, 32, 105, 98, 103, 112, 32, 50, 49, 52, 55, 52, 56, 51, 54, 52, 55, 32, 50, 49, 52, 55, 52, 56, 51, 54, 52, 55, 32, 50, 49, 52, 55, 52, 56, 51, 54, 52, 55, 32, 111, 110, 32, 97]) ho4
  clear x0 x1 x2 x3 x4 x5 x6 x7 x8 xs ho4 hb4
  obtain ⟨x0, x1, x2, x3, x4, x5, x6, x7, x8, xs⟩ := HSS.out w4 HB4.out
  go_wp2
  go_ret2
  exact ⟨rfl, HB1.out.trans ((Below.step HB2.out HB4.out).mono HB1.out.size)⟩
end Go.Proofs.YtdladbdcpnkggaaGreatDoor
