/- What Bit, With and Of of package waymarkref03 hand back; rows of bits in memory. Under the conditions that they name. -/
import Derived.Test.YtbmleejeffaciaaDoorHdBits
import Derived.Test.YtbmleejeffaciaaDoorHdOb
namespace Go.Proofs.YtbmleejeffaciaaDoor
open Go.RowKit
/-- A block of bits. -/
def Bools (w : World) (g : Nat) (bs : List Bool) : Prop := ∃ cur : Array Value, w.heap[g]? = some (.cells cur 4 (0, 0)) ∧ ∀ (j : Nat) (b : Bool), bs[j]? = some b → cur[j]? = some (Value.bool b)
theorem bools_of {w : World} {B : Nat} {v : Value} {bs : List Bool} (h : w.ownsRow B 4 1 v 104 (bs.map Value.bool)) : ∃ g cap, v = .slice (some ⟨g, 0, none⟩) 104 cap ∧ B ≤ g ∧ Bools w g bs := by
  rcases h.2 with ⟨_, h0⟩ | ⟨g, cap, cur, rfl, hg, hh, _, _, _, htk⟩
  · cases h0
  · refine ⟨g, cap, rfl, hg, cur, hh, fun j b hj => ?_⟩
    have e : (bs.map Value.bool)[j]? = some (.bool b) := by rw [List.getElem?_map, hj]; rfl
    rw [← htk, List.getElem?_take] at e
    split at e
    · simpa using e
    · cases e
theorem Bools.lt {w : World} {g : Nat} {bs : List Bool} (h : Bools w g bs) : g < w.heap.size := by
  obtain ⟨cur, hh, _⟩ := h
  exact (Array.getElem?_eq_some_iff.1 hh).1
theorem Bools.cell {w : World} {g j : Nat} {bs : List Bool} {b : Bool} (h : Bools w g bs) (hj : bs[j]? = some b) : w.cell? ⟨g, j, none⟩ = some (.bool b) ∧ w.frozen? ⟨g, j, none⟩ = false := by
  obtain ⟨cur, hh, hc⟩ := h
  exact row_cell' hh (hc j b hj)
theorem Bools.on {w w' : World} {g : Nat} {bs : List Bool} (h : Bools w g bs) (hb : Below w.heap.size w w') : Bools w' g bs := by
  have hl := h.lt
  obtain ⟨cur, hh, hc⟩ := h
  exact ⟨cur, (hb.block g hl).trans hh, hc⟩
theorem Bools.set {w : World} {g j : Nat} {bs : List Bool} {b : Bool} (h : Bools w g bs) : Bools (w.setCell ⟨g, j, none⟩ (.bool b)) g (bs.set j b) := by
  obtain ⟨cur, hh, hc⟩ := h
  refine ⟨_, Lib.heap_setCell_same hh _, fun i c hi => ?_⟩
  rw [Array.getElem?_setIfInBounds]
  rw [List.getElem?_set] at hi
  by_cases e : j = i
  · rw [if_pos e] at hi
    split at hi
    · rename_i hlt
      have hb := hc i bs[i] (by rw [List.getElem?_eq_getElem (by omega)])
      have hsz := (Array.getElem?_eq_some_iff.1 hb).1
      obtain rfl := Option.some.inj hi
      rw [if_pos e, if_pos (by omega)]
    · cases hi
  · rw [if_neg e] at hi
    rw [if_neg e]
    exact hc i c hi
theorem heap_setCell_other {w : World} {g j k : Nat} {v : Value} (h : k ≠ g) : (w.setCell ⟨g, j, none⟩ v).heap[k]? = w.heap[k]? := Below.heap_setCell w ⟨g, j, none⟩ v k h
set_option maxRecDepth 100000 in
set_option maxHeartbeats 2000000 in
theorem bitR_is (s d p sp dp : Int) (I : Nat) (hI : I < 104) (w : World) (h : Hdr s d p sp dp) :
    Calls Tryd.prog 13 #[.agg #[.int .u32 s, .int .u32 d, .int .u8 p, .int .u16 sp, .int .u16 dp], .int .i64 I] w fun e w' => e = .returned (.tuple #[.bool (tb (byL s d p sp dp) I), .int .i64 0]) ∧ Below w.heap.size w w' := by
  have HB : Hid (∀ W, Calls Tryd.prog 30 #[.agg #[.int .u32 s, .int .u32 d, .int .u8 p, .int .u16 sp, .int .u16 dp]] W fun e w' => ∃ v, e = .returned v ∧ w'.ownsRow W.heap.size 4 1 v 104 ((bl (V (byL s d p sp dp))).map .bool) ∧ Below W.heap.size W w') := Lib.hid fun W => bits_is s d p sp dp W h
  rw [tb_V (byL_13 h) hI]
  generalize V (byL s d p sp dp) = N at *
  have h0 : (0 : Int) ≤ (I : Int) := by omega
  have h1 : (I : Int) < 104 := by omega
  have h2 : (I : Int) ≤ 103 := by omega
  have hat := bl_at N I hI
  obtain ⟨y, hy⟩ : ∃ y, bt N I = y := ⟨_, rfl⟩
  rw [hy] at hat ⊢
  clear hI h hy
  go_enter Tryd.func13, Tryd.ntmps13
  go_wp2_with fail
  go_at_call 30
  (with_reducible refine (HB.out _).mono ?_)
  rintro e w1 ⟨v, rfl, hown, hb1⟩
  obtain ⟨g, cap, rfl, hg, hB⟩ := bools_of hown
  obtain ⟨c0, _⟩ := hB.cell hat
  go_wp2
  go_ret2
  exact ⟨rfl, Below.step ((Below.refl _ _).alloc (Nat.le_refl _) _) hb1⟩
set_option maxRecDepth 100000 in
theorem bitR_no (s d p sp dp i : Int) (hi : i < 0 ∨ 104 ≤ i) (w : World) :
    Calls Tryd.prog 13 #[.agg #[.int .u32 s, .int .u32 d, .int .u8 p, .int .u16 sp, .int .u16 dp], .int .i64 i] w fun e w' => e = .returned (.tuple #[.bool false, .int .i64 1]) ∧ Below w.heap.size w w' := by
  by_cases h0 : i < 0
  · clear hi
    go_enter Tryd.func13, Tryd.ntmps13
    go_wp2
    go_ret2
    exact ⟨rfl, (Below.refl _ _).alloc (Nat.le_refl _) _⟩
  · have h1 : 104 ≤ i := by omega
    have h2 : ¬ i ≤ 103 := by omega
    have h3 : 103 < i := by omega
    clear hi
    go_enter Tryd.func13, Tryd.ntmps13
    go_wp2
    go_ret2
    exact ⟨rfl, (Below.refl _ _).alloc (Nat.le_refl _) _⟩
set_option maxRecDepth 100000 in
theorem withR_no (s d p sp dp i : Int) (b : Bool) (hi : i < 0 ∨ 104 ≤ i) (w : World) :
    Calls Tryd.prog 14 #[.agg #[.int .u32 s, .int .u32 d, .int .u8 p, .int .u16 sp, .int .u16 dp], .int .i64 i, .bool b] w fun e w' => e = .returned (.tuple #[.agg #[.int .u32 0, .int .u32 0, .int .u8 0, .int .u16 0, .int .u16 0], .int .i64 1]) ∧ Below w.heap.size w w' := by
  by_cases h0 : i < 0
  · clear hi
    go_enter Tryd.func14, Tryd.ntmps14
    go_wp2
    exact bodyPost_ret (v := .tuple #[.agg #[.int .u32 0, .int .u32 0, .int .u8 0, .int .u16 0, .int .u16 0], .int .i64 1]) (by simp [results, Tryd.results14, go_sem]) rfl ⟨rfl, by
      repeat refine Below.setCell ?_ (by simp) _
      exact ((Below.refl _ _).alloc (Nat.le_refl _) _).alloc (by simp) _⟩
  · have h1 : 104 ≤ i := by omega
    have h2 : ¬ i ≤ 103 := by omega
    have h3 : 103 < i := by omega
    clear hi
    go_enter Tryd.func14, Tryd.ntmps14
    go_wp2
    exact bodyPost_ret (v := .tuple #[.agg #[.int .u32 0, .int .u32 0, .int .u8 0, .int .u16 0, .int .u16 0], .int .i64 1]) (by simp [results, Tryd.results14, go_sem]) rfl ⟨rfl, by
      repeat refine Below.setCell ?_ (by simp) _
      exact ((Below.refl _ _).alloc (Nat.le_refl _) _).alloc (by simp) _⟩
set_option maxRecDepth 100000 in
set_option maxHeartbeats 2000000 in
theorem withR_is (s d p sp dp : Int) (I : Nat) (b : Bool) (hI : I < 104) (w : World) (h : Hdr s d p sp dp) :
    Calls Tryd.prog 14 #[.agg #[.int .u32 s, .int .u32 d, .int .u8 p, .int .u16 sp, .int .u16 dp], .int .i64 I, .bool b] w fun e w' => e = .returned (.tuple #[ofL (wb (byL s d p sp dp) I b), .int .i64 0]) ∧ Below w.heap.size w w' := by
  have HB : Hid (∀ W, Calls Tryd.prog 30 #[.agg #[.int .u32 s, .int .u32 d, .int .u8 p, .int .u16 sp, .int .u16 dp]] W fun e w' => ∃ v, e = .returned v ∧ w'.ownsRow W.heap.size 4 1 v 104 ((bl (V (byL s d p sp dp))).map .bool) ∧ Below W.heap.size W w') := Lib.hid fun W => bits_is s d p sp dp W h
  have hset := bl_wb (byL_13 h) hI b
  have hfin := hdrN_V ((byL_13 h).wb I hI b)
  obtain ⟨f0, f1, f2, f3, f4, hf⟩ := ofL_form (wb (byL s d p sp dp) I b)
  rw [hf] at hfin ⊢
  have hat := bl_at (V (byL s d p sp dp)) I hI
  generalize V (byL s d p sp dp) = N at *
  generalize V (wb (byL s d p sp dp) I b) = M at *
  have h0 : (0 : Int) ≤ (I : Int) := by omega
  have h1 : (I : Int) < 104 := by omega
  have h2 : (I : Int) ≤ 103 := by omega
  obtain ⟨Z, hZ⟩ : ∃ Z, (w.alloc (.cells #[.int .u32 s, .int .u32 d, .int .u8 p, .int .u16 sp, .int .u16 dp] 27)).alloc (.cells #[.int .u32 0, .int .u32 0, .int .u8 0, .int .u16 0, .int .u16 0] 27) = Z := ⟨_, rfl⟩
  have hb0 : Below w.heap.size w Z := by rw [← hZ]; exact ((Below.refl _ _).alloc (Nat.le_refl _) _).alloc (by simp) _
  have hAZ : Z.heap[w.heap.size]? = some (.cells #[.int .u32 s, .int .u32 d, .int .u8 p, .int .u16 sp, .int .u16 dp] 27 (0, 0)) := by rw [← hZ]; exact heap_alloc2_old w _ _
  have hRZ : Z.heap[w.heap.size + 1]? = some (.cells #[.int .u32 0, .int .u32 0, .int .u8 0, .int .u16 0, .int .u16 0] 27 (0, 0)) := by rw [← hZ]; exact heap_alloc2_new w _ _
  have hz1 : w.heap.size + 1 < Z.heap.size := (Array.getElem?_eq_some_iff.1 hRZ).1
  have HB0 := Lib.hid hb0; have HRZ := Lib.hid hRZ; have HS := Lib.hid hset; have HF := Lib.hid hfin
  obtain ⟨k0, _⟩ := row_cell' (j := 0) hAZ rfl
  obtain ⟨k1, _⟩ := row_cell' (j := 1) hAZ rfl
  obtain ⟨k2, _⟩ := row_cell' (j := 2) hAZ rfl
  obtain ⟨k3, _⟩ := row_cell' (j := 3) hAZ rfl
  obtain ⟨k4, _⟩ := row_cell' (j := 4) hAZ rfl
  clear hI h hf hb0 hRZ hset hfin hAZ
  go_enter Tryd.func14, Tryd.ntmps14
  go_wp2_with fail
  go_at_call 30
  (with_reducible refine (HB.out _).mono ?_)
  rintro e w1 ⟨v, rfl, hown, hb1⟩
  obtain ⟨g, cap, rfl, hg, hB⟩ := bools_of hown
  obtain ⟨c0, cf0⟩ := hB.cell hat
  have hB2 := hB.set (j := I) (b := b)
  rw [HS.out] at hB2
  have hb2 : Below Z.heap.size Z (w1.setCell ⟨g, I, none⟩ (.bool b)) := hb1.setCell hg _
  clear hown hB k0 k1 k2 k3 k4
  go_wp2_with fail
  go_at_call 31
  refine (ofbits_is M g cap _ hB2.lt (fun j hj => (hB2.cell (bl_at M j hj)).1)).mono ?_
  rw [HF.out]
  rintro e w3 ⟨rfl, hb3⟩
  have hb03 := Below.step hb2 hb3
  have hR3 := (hb03.block _ hz1).trans HRZ.out
  have HR3 := Lib.hid hR3
  obtain ⟨r0, rf0⟩ := row_cell' (j := 0) hR3 rfl
  obtain ⟨r1, rf1⟩ := row_cell' (j := 1) hR3 rfl
  obtain ⟨r2, rf2⟩ := row_cell' (j := 2) hR3 rfl
  obtain ⟨r3, rf3⟩ := row_cell' (j := 3) hR3 rfl
  obtain ⟨r4, rf4⟩ := row_cell' (j := 4) hR3 rfl
  clear hR3
  go_wp2_with fail
  have hfin := set5 (m0 := f0) (m1 := f1) (m2 := f2) (m3 := f3) (m4 := f4) HR3.out
  have hbf : Below w.heap.size w (((((w3.setCell ⟨w.heap.size + 1, 0, none⟩ (.int .u32 f0)).setCell ⟨w.heap.size + 1, 1, none⟩ (.int .u32 f1)).setCell ⟨w.heap.size + 1, 2, none⟩ (.int .u8 f2)).setCell ⟨w.heap.size + 1, 3, none⟩ (.int .u16 f3)).setCell ⟨w.heap.size + 1, 4, none⟩ (.int .u16 f4)) := by
    repeat refine Below.setCell ?_ (by simp) _
    exact Below.step HB0.out hb03
  obtain ⟨W9, hW9⟩ : ∃ W9, (((((w3.setCell ⟨w.heap.size + 1, 0, none⟩ (.int .u32 f0)).setCell ⟨w.heap.size + 1, 1, none⟩ (.int .u32 f1)).setCell ⟨w.heap.size + 1, 2, none⟩ (.int .u8 f2)).setCell ⟨w.heap.size + 1, 3, none⟩ (.int .u16 f3)).setCell ⟨w.heap.size + 1, 4, none⟩ (.int .u16 f4)) = W9 := ⟨_, rfl⟩
  rw [hW9] at hfin hbf ⊢
  clear hW9
  obtain ⟨e0, ef0⟩ := row_cell' (j := 0) hfin rfl
  obtain ⟨e1, ef1⟩ := row_cell' (j := 1) hfin rfl
  obtain ⟨e2, ef2⟩ := row_cell' (j := 2) hfin rfl
  obtain ⟨e3, ef3⟩ := row_cell' (j := 3) hfin rfl
  obtain ⟨e4, ef4⟩ := row_cell' (j := 4) hfin rfl
  exact bodyPost_ret (v := .tuple #[.agg #[.int .u32 f0, .int .u32 f1, .int .u8 f2, .int .u16 f3, .int .u16 f4], .int .i64 0]) (by simp [results, Tryd.results14, go_sem, e0, e1, e2, e3, e4]) rfl ⟨rfl, hbf⟩
end Go.Proofs.YtbmleejeffaciaaDoor
