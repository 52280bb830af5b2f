/- isName, routeMay and Text of package routes at the one route that awake asks. Conditions: the table of package strconv and the words of package routes are what their texts say. -/
import Derived.Test.YtmbkkjofikijiaaGreatDoorRnB
import Derived.Laws.MakeOwn
import Derived.Deep.RegionHeld3
import Derived.Deep.DeepCutAuto
namespace Go.Proofs.YtmbkkjofikijiaaGreatDoor
open Go.RowKit
theorem heap_new' (w : World) (x : Obj) : (w.alloc x).heap[w.heap.size]? = some x := by
  show (w.heap.push x)[w.heap.size]? = some x
  simp
theorem own_below {B : Nat} {e : TypeId} {k : Nat} {v : Value} {n : Nat} {xs : List Value} {w w' : World} (h : w.ownsRow B e k v n xs) (hb : Below w.heap.size w w') : w'.ownsRow B e k v n xs := by
  rcases h.2 with ⟨e, h0⟩ | ⟨k, cap, cur, e, h1, h2, h3⟩
  · exact ⟨h.1, .inl ⟨e, h0⟩⟩
  · exact ⟨h.1, .inr ⟨k, cap, cur, e, h1, (hb.block k (Array.getElem?_eq_some_iff.1 h2).1).trans h2, h3⟩⟩
theorem rdi {l : List Int} {n : Nat} (W : World) (hn : n = l.length) (hl : l.length ≤ 1000) : RdK encI 1 (W.alloc (.cells (l.map (Value.int .i64)).toArray 3)) (.slice (some ⟨W.heap.size, 0, none⟩) n n) l := by
  subst hn
  refine ⟨_, _, rfl, Nat.le_refl _, by unfold maxLen; omega, fun _ => ⟨W.heap.size, 0, rfl, by simp, fun i s hs j u hu => ?_⟩⟩
  match j, hu with
  | 0, hu =>
    simp [encI] at hu; subst hu
    rw [show (0 + i * 1 + 0) = i by omega]
    have h := heap_new' W (.cells (l.map (Value.int .i64)).toArray 3)
    simp only [World.cell?, h]
    simp [hs]
  | j + 1, hu => simp [encI] at hu
theorem ckw (w : World) : Calls Tryz.prog 60 #[.agg #[.int .u32 167772160, .int .i64 8]] w fun e w' => e = .returned (.int .i64 0) ∧ Below w.heap.size w w' := by
  have := check_is 167772160 8 w (by omega) (by omega)
  rw [show ck 167772160 8 = 0 by decide +kernel] at this
  exact this
theorem name_w (w : World) : Calls Tryz.prog 62 #[.string ⟨#[101, 116, 104, 48]⟩] w fun e w' => e = .returned (.bool true) ∧ Below w.heap.size w w' := by
  have hi : Calls Tryz.prog 120 #[.string ⟨#[97, 98, 99, 100, 101, 102, 103, 104, 105, 106, 107, 108, 109, 110, 111, 112, 113, 114, 115, 116, 117, 118, 119, 120, 121, 122, 65, 66, 67, 68, 69, 70, 71, 72, 73, 74, 75, 76, 77, 78, 79, 80, 81, 82, 83, 84, 85, 86, 87, 88, 89, 90]⟩, .int .u8 101] w fun e w' => e = .returned (.int .i64 4) ∧ w' = w := by
    have := Tryz.strings_IndexByte ⟨#[97, 98, 99, 100, 101, 102, 103, 104, 105, 106, 107, 108, 109, 110, 111, 112, 113, 114, 115, 116, 117, 118, 119, 120, 121, 122, 65, 66, 67, 68, 69, 70, 71, 72, 73, 74, 75, 76, 77, 78, 79, 80, 81, 82, 83, 84, 85, 86, 87, 88, 89, 90]⟩ 101 w
    rw [show Lib.indexByte (⟨#[97, 98, 99, 100, 101, 102, 103, 104, 105, 106, 107, 108, 109, 110, 111, 112, 113, 114, 115, 116, 117, 118, 119, 120, 121, 122, 65, 66, 67, 68, 69, 70, 71, 72, 73, 74, 75, 76, 77, 78, 79, 80, 81, 82, 83, 84, 85, 86, 87, 88, 89, 90]⟩ : ByteArray).data.toList (101 : Int).toNat.toUInt8 = 4 by decide +kernel] at this
    exact this
  have ht := trim_is ⟨#[101, 116, 104, 48]⟩ (by decide) w
  rw [show (⟨(Lib.trimS (⟨#[101, 116, 104, 48]⟩ : ByteArray).data.toList [97, 98, 99, 100, 101, 102, 103, 104, 105, 106, 107, 108, 109, 110, 111, 112, 113, 114, 115, 116, 117, 118, 119, 120, 121, 122, 65, 66, 67, 68, 69, 70, 71, 72, 73, 74, 75, 76, 77, 78, 79, 80, 81, 82, 83, 84, 85, 86, 87, 88, 89, 90, 48, 49, 50, 51, 52, 53, 54, 55, 56, 57, 45, 95, 46, 47]).toArray⟩ : ByteArray) = ⟨#[]⟩ by decide +kernel] at ht
  have HI := Lib.hid hi; have HT := Lib.hid ht
  clear hi ht
  go_enter Tryz.func62, Tryz.ntmps62
  go_wp2_with fail
  go_at_call 120
  refine HI.out.mono ?_
  rintro _ _ ⟨rfl, rfl⟩
  go_wp2_with fail
  go_at_call 121
  refine HT.out.mono ?_
  rintro e w1 ⟨rfl, hb⟩
  have HB := Lib.hid hb
  clear hb
  go_wp2
  go_ret
  exact ⟨rfl, HB.out⟩
set_option maxHeartbeats 2000000 in
theorem may_w (w : World) : Calls Tryz.prog 22 #[.agg #[.int .u32 167772160, .int .i64 8, .int .u8 3, .int .i64 110, .int .i64 20, .int .i64 0, .string ⟨#[101, 116, 104, 48]⟩, .int .u32 167837697, .bool false]] w fun e w' => e = .returned (.bool true) ∧ Below w.heap.size w w' := by
  obtain ⟨W1, hW1⟩ : ∃ X, w.alloc (.cells #[.int .u32 167772160, .int .i64 8, .int .u8 3, .int .i64 110, .int .i64 20, .int .i64 0, .string ⟨#[101, 116, 104, 48]⟩, .int .u32 167837697, .bool false] 27) = X := ⟨_, rfl⟩
  have HB1 : Hid (Below w.heap.size w W1) := Lib.hid (by rw [← hW1]; exact (Below.refl _ _).alloc (Nat.le_refl _) _)
  have HX1 : Hid (W1.heap[w.heap.size]? = some (.cells #[.int .u32 167772160, .int .i64 8, .int .u8 3, .int .i64 110, .int .i64 20, .int .i64 0, .string ⟨#[101, 116, 104, 48]⟩, .int .u32 167837697, .bool false] 27 (0, 0))) := Lib.hid (by rw [← hW1]; exact heap_new' _ _)
  have HZ1 : Hid (w.heap.size < W1.heap.size) := Lib.hid (Array.getElem?_eq_some_iff.1 HX1.out).1
  have HCE : Hid (∀ W, Below W1.heap.size W1 W → W.cell? ⟨w.heap.size, 0, none⟩ = some (.int .u32 167772160) ∧ W.cell? ⟨w.heap.size, 1, none⟩ = some (.int .i64 8) ∧ W.cell? ⟨w.heap.size, 2, none⟩ = some (.int .u8 3) ∧ W.cell? ⟨w.heap.size, 3, none⟩ = some (.int .i64 110) ∧ W.cell? ⟨w.heap.size, 4, none⟩ = some (.int .i64 20) ∧ W.cell? ⟨w.heap.size, 5, none⟩ = some (.int .i64 0) ∧ W.cell? ⟨w.heap.size, 6, none⟩ = some (.string ⟨#[101, 116, 104, 48]⟩) ∧ W.cell? ⟨w.heap.size, 7, none⟩ = some (.int .u32 167837697) ∧ W.cell? ⟨w.heap.size, 8, none⟩ = some (.bool false)) := Lib.hid fun W hb => by
    have e := (hb.block w.heap.size HZ1.out).trans HX1.out
    refine ⟨?_, ?_, ?_, ?_, ?_, ?_, ?_, ?_, ?_⟩ <;> (simp only [World.cell?, e]; rfl)
  obtain ⟨x0, x1, x2, x3, x4, x5, x6, x7, x8⟩ := HCE.out W1 (Below.refl _ _)
  go_enter Tryz.func22, Tryz.ntmps22
  go_wp2_with fail
  go_at_call 60
  refine (ckw _).mono ?_
  rintro e w2 ⟨rfl, hb2⟩
  have HB2 := Lib.hid hb2
  clear hb2 x0 x1 x2 x3 x4 x5 x6 x7 x8
  obtain ⟨x0, x1, x2, x3, x4, x5, x6, x7, x8⟩ := HCE.out w2 HB2.out
  go_wp2_with fail
  go_at_call 61
  have hn2 := nums_is (0) [110, 20, 0] _ _ (rdi w2 (n := 3) rfl (by simp))
  rw [show ([110, 20, 0] : List Int).all (okN (0)) = true by decide] at hn2
  refine hn2.mono ?_
  rintro e w3 ⟨rfl, hb3⟩
  have HB3 := Lib.hid (Below.step (HB2.out.alloc HB2.out.size _) hb3)
  clear hb3 hn2 x0 x1 x2 x3 x4 x5 x6 x7 x8
  obtain ⟨x0, x1, x2, x3, x4, x5, x6, x7, x8⟩ := HCE.out w3 HB3.out
  go_wp2_with fail
  go_at_call 62
  refine (name_w _).mono ?_
  rintro e w4 ⟨rfl, hb4⟩
  have HB4 := Lib.hid (Below.step HB3.out hb4)
  clear hb4 x0 x1 x2 x3 x4 x5 x6 x7 x8
  obtain ⟨x0, x1, x2, x3, x4, x5, x6, x7, x8⟩ := HCE.out w4 HB4.out
  go_wp2
  go_ret
  exact ⟨rfl, HB1.out.trans (HB4.out.mono HB1.out.size)⟩
theorem ia (n : Int) (s : ByteArray) (hn : 0 ≤ n) (hn2 : n < 4294967296) (hs : (⟨(Lib.itoa n).toArray⟩ : ByteArray) = s) (w : World) (ht : Tab10 w) : Calls Tryz.prog 25 #[.int .i64 n] w fun e w' => e = .returned (.string s) ∧ Below w.heap.size w w' := by
  have h := itoa_is n w (by omega) (by omega) ht
  rw [hs] at h
  exact h
theorem jn_le : ∀ (ws : List ByteArray) (a : List UInt8), (∀ s ∈ ws, s.size ≤ 100000) → (jn a ws).length ≤ a.length + ws.length * 100001
  | [], a, _ => by simp [jn]
  | s :: ws, a, h => by
    have h1 := h s (List.mem_cons_self ..)
    have h2 := jn_le ws (jn1 a s) (fun t ht => h t (List.mem_cons_of_mem _ ht))
    have h3 : (jn1 a s).length ≤ a.length + 100001 := by
      unfold jn1
      rw [bsz] at h1
      simp only [List.length_append]
      split <;> simp only [List.length_nil, List.length_cons] <;> omega
    have e : jn a (s :: ws) = jn (jn1 a s) ws := rfl
    rw [e, List.length_cons]
    omega
theorem built_rd (ws : List ByteArray) (X W : World) (hk : Lib.OthersKept 5 none (X.alloc (.cells (ws.map Value.string).toArray 9)) W) : ∀ i s, ws[i]? = some s → ∃ b o, (some ⟨X.heap.size, 0, none⟩ : Option Addr) = some ⟨b, o, none⟩ ∧ W.cell? ⟨b, o + i, none⟩ = some (.string s) := fun i s hs => by
  have h := hk X.heap.size _ (heap_new' X _) (by simp) (by intro c fz e; simp at e)
  refine ⟨_, _, rfl, ?_⟩
  simp only [World.cell?, h]
  simp [hs]
theorem write_lit (B : Nat) (a : List UInt8) (ws : List ByteArray) (v : Value) (n : Nat) (X : World) (r : List UInt8) (hn : n = ws.length) (h20 : ws.length ≤ 20) (hs : ws.all (fun s => decide (s.size ≤ 1000)) = true) (hla : a.length ≤ 1000000) (ho : X.ownsRow B 5 1 v a.length (Lib.byteCells a)) (hB : B ≤ X.heap.size) (hr : jn a ws = r) :
    Calls Tryz.prog 23 #[v, .slice (some ⟨X.heap.size, 0, none⟩) n n] (X.alloc (.cells (ws.map Value.string).toArray 9)) (WrPost B r (X.alloc (.cells (ws.map Value.string).toArray 9))) := by
  subst hn hr
  have h1 : ∀ s ∈ ws, s.size ≤ 1000 := fun s h => by simpa using List.all_eq_true.1 hs s h
  refine write_is B a ws v _ _ _ (ho.alloc _) (by simp; omega) (fun W hk => built_rd ws X W hk) (by omega) (fun s h => by have := h1 s h; omega) (fun k hk => ?_)
  have h2 := jn_le (ws.take k) a (fun s h => by have := h1 s (List.mem_of_mem_take h); omega)
  rw [List.length_take] at h2
  have h3 : min k ws.length * 100001 ≤ 20 * 100001 := Nat.mul_le_mul_right _ (by omega)
  omega
/-- The words of package routes. -/
def Src9 (w : World) : Prop := (w.cell? ⟨0, 0, none⟩ = some (.string ⟨#[]⟩) ∧ w.cell? ⟨0, 1, none⟩ = some (.string ⟨#[99, 111, 110, 110, 101, 99, 116, 101, 100]⟩) ∧ w.cell? ⟨0, 2, none⟩ = some (.string ⟨#[119, 114, 105, 116, 116, 101, 110]⟩) ∧ w.cell? ⟨0, 3, none⟩ = some (.string ⟨#[105, 110, 116, 114, 97]⟩) ∧ w.cell? ⟨0, 4, none⟩ = some (.string ⟨#[105, 110, 116, 101, 114]⟩) ∧ w.cell? ⟨0, 5, none⟩ = some (.string ⟨#[101, 120, 116, 101, 114, 110, 97, 108, 49]⟩) ∧ w.cell? ⟨0, 6, none⟩ = some (.string ⟨#[101, 120, 116, 101, 114, 110, 97, 108, 50]⟩) ∧ w.cell? ⟨0, 7, none⟩ = some (.string ⟨#[101, 98, 103, 112]⟩) ∧ w.cell? ⟨0, 8, none⟩ = some (.string ⟨#[105, 98, 103, 112]⟩)) ∧ 0 < w.heap.size
theorem Src9.on {w w' : World} (h : Src9 w) (hb : Below w.heap.size w w') : Src9 w' := by
  obtain ⟨⟨h0, h1, h2, h3, h4, h5, h6, h7, h8⟩, hl⟩ := h
  have := hb.size
  exact ⟨⟨(hb.cell (p := ⟨0, 0, none⟩) hl).trans h0, (hb.cell (p := ⟨0, 1, none⟩) hl).trans h1, (hb.cell (p := ⟨0, 2, none⟩) hl).trans h2, (hb.cell (p := ⟨0, 3, none⟩) hl).trans h3, (hb.cell (p := ⟨0, 4, none⟩) hl).trans h4, (hb.cell (p := ⟨0, 5, none⟩) hl).trans h5, (hb.cell (p := ⟨0, 6, none⟩) hl).trans h6, (hb.cell (p := ⟨0, 7, none⟩) hl).trans h7, (hb.cell (p := ⟨0, 8, none⟩) hl).trans h8⟩, by omega⟩
theorem Src9.three {w : World} (h : Src9 w) : w.cell? ⟨0, 3, none⟩ = some (.string ⟨#[105, 110, 116, 114, 97]⟩) := h.1.2.2.2.1
theorem ptw (w : World) (ht : Tab10 w) : Calls Tryz.prog 24 #[.agg #[.int .u32 167772160, .int .i64 8]] w fun e w' => e = .returned (.string ⟨#[49, 48, 46, 48, 46, 48, 46, 48, 47, 56]⟩) ∧ Below w.heap.size w w' := by
  have h := ptext_is 167772160 8 w (by omega) (by omega) (by omega) (by omega) ht
  rw [show (⟨(ptext (167772160 : Int).toNat 8).toArray⟩ : ByteArray) = ⟨#[49, 48, 46, 48, 46, 48, 46, 48, 47, 56]⟩ by decide +kernel] at h
  exact h
theorem axw (w : World) (ht : Tab10 w) : Calls Tryz.prog 26 #[.int .u32 167837697] w fun e w' => e = .returned (.string ⟨#[49, 48, 46, 49, 46, 48, 46, 49]⟩) ∧ Below w.heap.size w w' := by
  have h := text_is 167837697 w (by omega) (by omega) ht
  rw [show (⟨(text (167837697 : Int).toNat).toArray⟩ : ByteArray) = ⟨#[49, 48, 46, 49, 46, 48, 46, 49]⟩ by decide +kernel] at h
  exact h
set_option maxRecDepth 100000 in
set_option maxHeartbeats 8000000 in
theorem text_w (w : World) (ht : Tab10 w) (hs : Src9 w) : Calls Tryz.prog 8 #[.agg #[.int .u32 167772160, .int .i64 8, .int .u8 3, .int .i64 110, .int .i64 20, .int .i64 0, .string ⟨#[101, 116, 104, 48]⟩, .int .u32 167837697, .bool false]] w fun e w' => e = .returned (.tuple #[.string ⟨#[49, 48, 46, 48, 46, 48, 46, 48, 47, 56, 32, 105, 110, 116, 114, 97, 32, 49, 49, 48, 32, 50, 48, 32, 48, 32, 118, 105, 97, 32, 49, 48, 46, 49, 46, 48, 46, 49, 32, 111, 110, 32, 101, 116, 104, 48]⟩, .int .i64 0]) ∧ Below w.heap.size w w' := by
  obtain ⟨W1, hW1⟩ : ∃ X, w.alloc (.cells #[.int .u32 167772160, .int .i64 8, .int .u8 3, .int .i64 110, .int .i64 20, .int .i64 0, .string ⟨#[101, 116, 104, 48]⟩, .int .u32 167837697, .bool false] 27) = X := ⟨_, rfl⟩
  have HB1 : Hid (Below w.heap.size w W1) := Lib.hid (by rw [← hW1]; exact (Below.refl _ _).alloc (Nat.le_refl _) _)
  have HX1 : Hid (W1.heap[w.heap.size]? = some (.cells #[.int .u32 167772160, .int .i64 8, .int .u8 3, .int .i64 110, .int .i64 20, .int .i64 0, .string ⟨#[101, 116, 104, 48]⟩, .int .u32 167837697, .bool false] 27 (0, 0))) := Lib.hid (by rw [← hW1]; exact heap_new' _ _)
  have HZ1 : Hid (w.heap.size < W1.heap.size) := Lib.hid (Array.getElem?_eq_some_iff.1 HX1.out).1
  have HCE : Hid (∀ W, Below W1.heap.size W1 W → W.cell? ⟨w.heap.size, 0, none⟩ = some (.int .u32 167772160) ∧ W.cell? ⟨w.heap.size, 1, none⟩ = some (.int .i64 8) ∧ W.cell? ⟨w.heap.size, 2, none⟩ = some (.int .u8 3) ∧ W.cell? ⟨w.heap.size, 3, none⟩ = some (.int .i64 110) ∧ W.cell? ⟨w.heap.size, 4, none⟩ = some (.int .i64 20) ∧ W.cell? ⟨w.heap.size, 5, none⟩ = some (.int .i64 0) ∧ W.cell? ⟨w.heap.size, 6, none⟩ = some (.string ⟨#[101, 116, 104, 48]⟩) ∧ W.cell? ⟨w.heap.size, 7, none⟩ = some (.int .u32 167837697) ∧ W.cell? ⟨w.heap.size, 8, none⟩ = some (.bool false)) := Lib.hid fun W hb => by
    have e := (hb.block w.heap.size HZ1.out).trans HX1.out
    refine ⟨?_, ?_, ?_, ?_, ?_, ?_, ?_, ?_, ?_⟩ <;> (simp only [World.cell?, e]; rfl)
  obtain ⟨x0, x1, x2, x3, x4, x5, x6, x7, x8⟩ := HCE.out W1 (Below.refl _ _)
  have HT := Lib.hid ht
  have HS := Lib.hid hs
  clear ht hs
  go_enter Tryz.func8, Tryz.ntmps8
  go_wp2_with fail
  go_at_call 22
  refine (may_w _).mono ?_
  rintro e w2 ⟨rfl, hb2⟩
  have HB2 := Lib.hid hb2
  clear hb2 x0 x1 x2 x3 x4 x5 x6 x7 x8
  have HSS : Hid (∀ W, Below w2.heap.size w2 W → W.cell? ⟨w.heap.size, 0, none⟩ = some (.int .u32 167772160) ∧ W.cell? ⟨w.heap.size, 1, none⟩ = some (.int .i64 8) ∧ W.cell? ⟨w.heap.size, 2, none⟩ = some (.int .u8 3) ∧ W.cell? ⟨w.heap.size, 3, none⟩ = some (.int .i64 110) ∧ W.cell? ⟨w.heap.size, 4, none⟩ = some (.int .i64 20) ∧ W.cell? ⟨w.heap.size, 5, none⟩ = some (.int .i64 0) ∧ W.cell? ⟨w.heap.size, 6, none⟩ = some (.string ⟨#[101, 116, 104, 48]⟩) ∧ W.cell? ⟨w.heap.size, 7, none⟩ = some (.int .u32 167837697) ∧ W.cell? ⟨w.heap.size, 8, none⟩ = some (.bool false) ∧ W.cell? ⟨0, 3, none⟩ = some (.string ⟨#[105, 110, 116, 114, 97]⟩)) := Lib.hid fun W hb => by
    have h1 := HCE.out W (Below.step HB2.out hb)
    have h2 := HS.out.on (Below.step HB1.out (Below.step HB2.out hb))
    obtain ⟨a0, a1, a2, a3, a4, a5, a6, a7, a8⟩ := h1
    exact ⟨a0, a1, a2, a3, a4, a5, a6, a7, a8, h2.three⟩
  have HTT : Hid (∀ W, Below w2.heap.size w2 W → Tab10 W) := Lib.hid fun W hb => HT.out.on (Below.step HB1.out (Below.step HB2.out hb))
  have hb0 : Below w2.heap.size w2 w2 := Below.refl _ _
  obtain ⟨x0, x1, x2, x3, x4, x5, x6, x7, x8, xs⟩ := HSS.out w2 (Below.refl _ _)
  have HPT : Hid (∀ W, Below w2.heap.size w2 W → Calls Tryz.prog 24 #[.agg #[.int .u32 167772160, .int .i64 8]] W fun e w' => e = .returned (.string ⟨#[49, 48, 46, 48, 46, 48, 46, 48, 47, 56]⟩) ∧ Below W.heap.size W w') := Lib.hid fun W hb => ptw W (HTT.out W hb)
  have HI0 : Hid (∀ W, Below w2.heap.size w2 W → Calls Tryz.prog 25 #[.int .i64 110] W fun e w' => e = .returned (.string ⟨#[49, 49, 48]⟩) ∧ Below W.heap.size W w') := Lib.hid fun W hb => ia _ _ (by omega) (by omega) (by decide +kernel) W (HTT.out W hb)
  have HI1 : Hid (∀ W, Below w2.heap.size w2 W → Calls Tryz.prog 25 #[.int .i64 20] W fun e w' => e = .returned (.string ⟨#[50, 48]⟩) ∧ Below W.heap.size W w') := Lib.hid fun W hb => ia _ _ (by omega) (by omega) (by decide +kernel) W (HTT.out W hb)
  have HI2 : Hid (∀ W, Below w2.heap.size w2 W → Calls Tryz.prog 25 #[.int .i64 0] W fun e w' => e = .returned (.string ⟨#[48]⟩) ∧ Below W.heap.size W w') := Lib.hid fun W hb => ia _ _ (by omega) (by omega) (by decide +kernel) W (HTT.out W hb)
  have HWR : Hid (∀ W, Below w2.heap.size w2 W → Calls Tryz.prog 23 #[.slice none 0 0, .slice (some ⟨W.heap.size, 0, none⟩) 5 5] (W.alloc (.cells #[.string ⟨#[49, 48, 46, 48, 46, 48, 46, 48, 47, 56]⟩, .string ⟨#[105, 110, 116, 114, 97]⟩, .string ⟨#[49, 49, 48]⟩, .string ⟨#[50, 48]⟩, .string ⟨#[48]⟩] 9)) (WrPost w2.heap.size [49, 48, 46, 48, 46, 48, 46, 48, 47, 56, 32, 105, 110, 116, 114, 97, 32, 49, 49, 48, 32, 50, 48, 32, 48] (W.alloc (.cells #[.string ⟨#[49, 48, 46, 48, 46, 48, 46, 48, 47, 56]⟩, .string ⟨#[105, 110, 116, 114, 97]⟩, .string ⟨#[49, 49, 48]⟩, .string ⟨#[50, 48]⟩, .string ⟨#[48]⟩] 9)))) := Lib.hid fun W hb => write_lit w2.heap.size [] [⟨#[49, 48, 46, 48, 46, 48, 46, 48, 47, 56]⟩, ⟨#[105, 110, 116, 114, 97]⟩, ⟨#[49, 49, 48]⟩, ⟨#[50, 48]⟩, ⟨#[48]⟩] _ 5 W _ rfl (by decide) (by decide +kernel) (by decide) (World.ownsRow_nil _ _ _ _) hb.size (by decide +kernel)
  go_wp2_with fail
  go_region_held3 (fun w' => w'.cell? ⟨w.heap.size, 0, none⟩ = some (.int .u32 167772160) ∧ w'.cell? ⟨w.heap.size, 1, none⟩ = some (.int .i64 8) ∧ w'.cell? ⟨w.heap.size, 2, none⟩ = some (.int .u8 3) ∧ w'.cell? ⟨w.heap.size, 3, none⟩ = some (.int .i64 110) ∧ w'.cell? ⟨w.heap.size, 4, none⟩ = some (.int .i64 20) ∧ w'.cell? ⟨w.heap.size, 5, none⟩ = some (.int .i64 0) ∧ w'.cell? ⟨w.heap.size, 6, none⟩ = some (.string ⟨#[101, 116, 104, 48]⟩) ∧ w'.cell? ⟨w.heap.size, 7, none⟩ = some (.int .u32 167837697) ∧ w'.cell? ⟨w.heap.size, 8, none⟩ = some (.bool false) ∧ w'.cell? ⟨0, 3, none⟩ = some (.string ⟨#[105, 110, 116, 114, 97]⟩)) (first | exact HSS.out _ (by first | assumption | exact hb0.drew) | exact HSS.out _ (Below.alloc (by first | assumption | exact hb0.drew) (Below.size (by first | assumption | exact hb0.drew)) _) | go_keep | (trace_state; fail)) (first
    | (go_at_call 24; refine (HPT.out _ (by first | assumption | exact hb0.drew)).mono ?_; rintro e w3 ⟨rfl, hb3⟩; have hb3 := Below.step (a := w2) (by first | assumption | exact hb0.drew) hb3)
    | (go_at_call 25; (first | refine (HI0.out _ (by first | assumption | exact hb0.drew)).mono ?_ | refine (HI1.out _ (by first | assumption | exact hb0.drew)).mono ?_ | refine (HI2.out _ (by first | assumption | exact hb0.drew)).mono ?_); rintro e w3 ⟨rfl, hb3⟩; have hb3 := Below.step (a := w2) (by first | assumption | exact hb0.drew) hb3)
    | (go_at_call 23; refine (HWR.out _ (by first | assumption | exact hb0.drew)).mono ?_; rintro e w3 ⟨v3, rfl, ho3, hb3, _⟩; have hb3 := Below.trans (Below.alloc (a := w2) (by first | assumption | exact hb0.drew) (Below.size (by first | assumption | exact hb0.drew)) _) hb3))
  have HO3 := Lib.hid ho3
  have HB3 := Lib.hid hb3
  clear x0 x1 x2 x3 x4 x5 x6 x7 x8 xs ho3 hb3
  obtain ⟨x0, x1, x2, x3, x4, x5, x6, x7, x8, xs⟩ := HSS.out w3 HB3.out
  (try simp only [Exit.then])
  go_wp2_with fail
  go_at_call 26
  refine (axw _ (HTT.out _ HB3.out)).mono ?_
  rintro e w4 ⟨rfl, hb4⟩
  have HB4 := Lib.hid (Below.step HB3.out hb4)
  have HO4 := Lib.hid (own_below HO3.out hb4)
  clear x0 x1 x2 x3 x4 x5 x6 x7 x8 xs hb4
  obtain ⟨x0, x1, x2, x3, x4, x5, x6, x7, x8, xs⟩ := HSS.out w4 HB4.out
  go_wp2_with fail
  go_at_call 23
  refine (write_lit w2.heap.size [49, 48, 46, 48, 46, 48, 46, 48, 47, 56, 32, 105, 110, 116, 114, 97, 32, 49, 49, 48, 32, 50, 48, 32, 48] [⟨#[118, 105, 97]⟩, ⟨#[49, 48, 46, 49, 46, 48, 46, 49]⟩] _ 2 w4 [49, 48, 46, 48, 46, 48, 46, 48, 47, 56, 32, 105, 110, 116, 114, 97, 32, 49, 49, 48, 32, 50, 48, 32, 48, 32, 118, 105, 97, 32, 49, 48, 46, 49, 46, 48, 46, 49] rfl (by decide) (by decide +kernel) (by decide) HO4.out HB4.out.size (by decide +kernel)).mono ?_
  rintro e w5 ⟨v5, rfl, ho5, hb5, _⟩
  have HB5 := Lib.hid (Below.trans (HB4.out.alloc HB4.out.size _) hb5)
  have HO5 := Lib.hid ho5
  clear x0 x1 x2 x3 x4 x5 x6 x7 x8 xs hb5 ho5
  obtain ⟨x0, x1, x2, x3, x4, x5, x6, x7, x8, xs⟩ := HSS.out w5 HB5.out
  go_wp2_with fail
  go_at_call 23
  refine (write_lit w2.heap.size [49, 48, 46, 48, 46, 48, 46, 48, 47, 56, 32, 105, 110, 116, 114, 97, 32, 49, 49, 48, 32, 50, 48, 32, 48, 32, 118, 105, 97, 32, 49, 48, 46, 49, 46, 48, 46, 49] [⟨#[111, 110]⟩, ⟨#[101, 116, 104, 48]⟩] _ 2 w5 [49, 48, 46, 48, 46, 48, 46, 48, 47, 56, 32, 105, 110, 116, 114, 97, 32, 49, 49, 48, 32, 50, 48, 32, 48, 32, 118, 105, 97, 32, 49, 48, 46, 49, 46, 48, 46, 49, 32, 111, 110, 32, 101, 116, 104, 48] rfl (by decide) (by decide +kernel) (by decide) HO5.out HB5.out.size (by decide +kernel)).mono ?_
  rintro e w6 ⟨v6, rfl, ho6, hb6, _⟩
  have HB6 := Lib.hid (Below.trans (HB5.out.alloc HB5.out.size _) hb6)
  obtain ⟨g6, c6, rfl, _, _⟩ := World.ownsRow.form ho6 (by decide)
  have hcv : (convert 59 9 (.slice (some ⟨g6, 0, none⟩) 46 c6)).run Tryz.prog w6 = .ok (.string ⟨#[49, 48, 46, 48, 46, 48, 46, 48, 47, 56, 32, 105, 110, 116, 114, 97, 32, 49, 49, 48, 32, 50, 48, 32, 48, 32, 118, 105, 97, 32, 49, 48, 46, 49, 46, 48, 46, 49, 32, 111, 110, 32, 101, 116, 104, 48]⟩) w6 := conv_bytes (L := [49, 48, 46, 48, 46, 48, 46, 48, 47, 56, 32, 105, 110, 116, 114, 97, 32, 49, 49, 48, 32, 50, 48, 32, 48, 32, 118, 105, 97, 32, 49, 48, 46, 49, 46, 48, 46, 49, 32, 111, 110, 32, 101, 116, 104, 48]) ho6
  clear x0 x1 x2 x3 x4 x5 x6 x7 x8 xs ho6 hb6
  obtain ⟨x0, x1, x2, x3, x4, x5, x6, x7, x8, xs⟩ := HSS.out w6 HB6.out
  go_wp2
  go_ret2
  exact ⟨rfl, HB1.out.trans ((Below.step HB2.out HB6.out).mono HB1.out.size)⟩
end Go.Proofs.YtmbkkjofikijiaaGreatDoor
