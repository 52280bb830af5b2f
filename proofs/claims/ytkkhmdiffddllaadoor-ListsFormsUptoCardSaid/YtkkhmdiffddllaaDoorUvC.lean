/- Do lists decide? (What each statement asks first.) The variables ErrSyntax and ErrRange of package strconv are asked to hold errors, the table of powers of ten to be what its text says. -/
import Derived.Test.YtkkhmdiffddllaaDoorUvB
namespace Go.Proofs.YtkkhmdiffddllaaDoor
open Go.Shelf Go.RowKit Go.Lib
/-- A block of whole elements reads as their list. -/
theorem rd_block {α : Type} {enc : α → List Value} {k : Nat} (hk : ∀ s, (enc s).length = k) {w : World} {g : Nat} {T : TypeId} {cur : Array Value} {l : List α} (h : w.heap[g]? = some (.cells cur T (0, 0))) (hc : cur.toList = flatK enc l) (hm : l.length ≤ maxLen) : RdK enc k w (.slice (some ⟨g, 0, none⟩) l.length l.length) l := by
  have hs : cur.size = l.length * k := by rw [← Array.length_toList, hc, flatK_length hk]
  exact RdK.of_own (b := 0) (e := T) hk ⟨by rw [flatK_length hk], .inr ⟨g, l.length, cur, rfl, Nat.zero_le _, h, Nat.le_refl _, hm, hs, by rw [← hc, ← hs, ← Array.length_toList]; exact List.take_length⟩⟩
theorem boxP {A B C : World} {v0 v1 : Value} (h5 : A.alloc (.cells #[(.int .u32 0), (.int .i64 0)] 49) = B) (h6 : ((B.setCell ⟨A.heap.size, 0, none⟩ v0).setCell ⟨A.heap.size, 1, none⟩ v1) = C) : Hid (C.heap[A.heap.size]? = some (.cells #[v0, v1] 49 (0, 0))) ∧ Hid (Below A.heap.size A C) ∧ Hid (C.heap.size = A.heap.size + 1) ∧ Hid (B.heap[A.heap.size]? = some (.cells #[(.int .u32 0), (.int .i64 0)] 49 (0, 0))) := by
  have e := heap_alc h5
  have h : Below A.heap.size A B := by rw [← h5]; exact (Below.refl _ _).alloc (Nat.le_refl _) _
  refine ⟨Lib.hid ?_, Lib.hid ?_, Lib.hid ?_, Lib.hid e⟩
  · rw [← h6]; simpa using (heap_store (o := 1) (v := v1) (heap_store (o := 0) (v := v0) e))
  · rw [← h6]; exact (Below.setCell (p := ⟨A.heap.size, 1, none⟩) (Below.setCell (p := ⟨A.heap.size, 0, none⟩) h (Nat.le_refl _) _) (Nat.le_refl _) _)
  · rw [← h6]; simp; rw [← h5]; simp
theorem boxL {A B C : World} {v0 v1 : Value} (h5 : A.alloc (.cells #[(.string ⟨#[]⟩), (.slice none 0 0)] 54) = B) (h6 : ((B.setCell ⟨A.heap.size, 0, none⟩ v0).setCell ⟨A.heap.size, 1, none⟩ v1) = C) : Hid (C.heap[A.heap.size]? = some (.cells #[v0, v1] 54 (0, 0))) ∧ Hid (Below A.heap.size A C) ∧ Hid (C.heap.size = A.heap.size + 1) ∧ Hid (B.heap[A.heap.size]? = some (.cells #[(.string ⟨#[]⟩), (.slice none 0 0)] 54 (0, 0))) := by
  have e := heap_alc h5
  have h : Below A.heap.size A B := by rw [← h5]; exact (Below.refl _ _).alloc (Nat.le_refl _) _
  refine ⟨Lib.hid ?_, Lib.hid ?_, Lib.hid ?_, Lib.hid e⟩
  · rw [← h6]; simpa using (heap_store (o := 1) (v := v1) (heap_store (o := 0) (v := v0) e))
  · rw [← h6]; exact (Below.setCell (p := ⟨A.heap.size, 1, none⟩) (Below.setCell (p := ⟨A.heap.size, 0, none⟩) h (Nat.le_refl _) _) (Nat.le_refl _) _)
  · rw [← h6]; simp; rw [← h5]; simp
theorem boxC {A B C : World} {v0 v1 : Value} (h5 : A.alloc (.cells #[(.string ⟨#[]⟩), (.slice none 0 0)] 35) = B) (h6 : ((B.setCell ⟨A.heap.size, 0, none⟩ v0).setCell ⟨A.heap.size, 1, none⟩ v1) = C) : Hid (C.heap[A.heap.size]? = some (.cells #[v0, v1] 35 (0, 0))) ∧ Hid (Below A.heap.size A C) ∧ Hid (C.heap.size = A.heap.size + 1) ∧ Hid (B.heap[A.heap.size]? = some (.cells #[(.string ⟨#[]⟩), (.slice none 0 0)] 35 (0, 0))) := by
  have e := heap_alc h5
  have h : Below A.heap.size A B := by rw [← h5]; exact (Below.refl _ _).alloc (Nat.le_refl _) _
  refine ⟨Lib.hid ?_, Lib.hid ?_, Lib.hid ?_, Lib.hid e⟩
  · rw [← h6]; simpa using (heap_store (o := 1) (v := v1) (heap_store (o := 0) (v := v0) e))
  · rw [← h6]; exact (Below.setCell (p := ⟨A.heap.size, 1, none⟩) (Below.setCell (p := ⟨A.heap.size, 0, none⟩) h (Nat.le_refl _) _) (Nat.le_refl _) _)
  · rw [← h6]; simp; rw [← h5]; simp
theorem w1_fst : fstI (fitE 167772160 8) [(⟨true, 167772160, 8, 16, 24⟩ : EntD), (⟨false, 167772160, 8, 8, 32⟩ : EntD)] = some 1 := by decide +kernel
theorem w1_per : lets (fitE 167772160 8) EntD.perm [(⟨true, 167772160, 8, 16, 24⟩ : EntD), (⟨false, 167772160, 8, 8, 32⟩ : EntD)] = false := by decide +kernel
theorem w2_per : lets (fitE 167837696 16) EntD.perm [(⟨true, 167772160, 8, 16, 24⟩ : EntD), (⟨false, 167772160, 8, 8, 32⟩ : EntD)] = true := by decide +kernel
theorem w_ok : OkE [(⟨true, 167772160, 8, 16, 24⟩ : EntD), (⟨false, 167772160, 8, 8, 32⟩ : EntD)] := by intro e he; simp at he; rcases he with rfl | rfl <;> decide
theorem w_par1 : parV [49, 58, 49] = some 65537 := by decide +kernel
theorem w_par2 : parV [48, 49, 58, 49] = none := by decide +kernel
theorem w_par3 : parV [49, 58, 54, 53, 53, 51, 54] = none := by decide +kernel
theorem w_all1 (g : Nat) : lets (fitM [2, 3, 1]) MemD.perm [⟨true, some ⟨g, 0, none⟩, 2, [1, 2]⟩] = true := rfl
theorem w_all2 (g : Nat) : lets (fitM [1]) MemD.perm [⟨true, some ⟨g, 0, none⟩, 2, [1, 2]⟩] = false := rfl
theorem w_norm {r : List Int} (h : IsForm [5, 1, 5] r) : r.length = 2 := by
  have h2 : IsForm [5, 1, 5] [1, 5] := ⟨by decide, fun x => by simp; omega⟩
  have e := form_one (l := []) h.1 h2.1 fun x => (h.2 x).trans (h2.2 x).symm
  rw [e]; rfl
set_option maxRecDepth 100000 in
set_option maxHeartbeats 4000000 in
theorem works_is (w : World) (ht : Tab10 w) (hE : ErrV w) : Calls Tryd.prog 14 #[] w fun e w' => e = .returned (.bool true) ∧ Below w.heap.size w w' := by
  have HTT := Lib.hid ht
  have HEE := Lib.hid hE
  clear ht hE
  have BWw : Hid (Below w.heap.size w w) := Lib.hid (Below.refl _ _)
  obtain ⟨A1, hA1⟩ : ∃ X, w.alloc (.cells #[(.int .u32 0), (.int .i64 0)] 49) = X := ⟨_, rfl⟩
  obtain ⟨A2, hA2⟩ : ∃ X, ((A1.setCell ⟨w.heap.size, 0, none⟩ (.int .u32 167772160)).setCell ⟨w.heap.size, 1, none⟩ (.int .i64 8)) = X := ⟨_, rfl⟩
  obtain ⟨PPA2, HbA2, zA2, HzA2⟩ := boxP hA1 hA2
  obtain ⟨zA2_0, zA2_1⟩ : A1.cell? ⟨w.heap.size, 0, none⟩ = some (.int .u32 0) ∧ A1.cell? ⟨w.heap.size, 1, none⟩ = some (.int .i64 0) := ⟨cell_heap HzA2.out, cell_heap HzA2.out⟩
  have fzA2 : ∀ o, A1.frozen? ⟨w.heap.size, o, none⟩ = false := fun o => frozen_heap HzA2.out
  have BWA2 : Hid (Below w.heap.size w A2) := Lib.hid (Below.step BWw.out HbA2.out)
  obtain ⟨p2_0, p2_1⟩ : A2.cell? ⟨w.heap.size, 0, none⟩ = some (.int .u32 167772160) ∧ A2.cell? ⟨w.heap.size, 1, none⟩ = some (.int .i64 8) := ⟨cell_heap PPA2.out, cell_heap PPA2.out⟩
  obtain ⟨A3, hA3⟩ : ∃ X, A2.alloc (.cells #[(.bool true), (.int .u32 167772160), (.int .i64 8), (.int .i64 16), (.int .i64 24), (.bool false), (.int .u32 167772160), (.int .i64 8), (.int .i64 8), (.int .i64 32)] 51) = X := ⟨_, rfl⟩
  have HbA3 : Hid (Below A2.heap.size A2 A3) := Lib.hid (by rw [← hA3]; exact (Below.refl _ _).alloc (Nat.le_refl _) _)
  have PPA3 : Hid (A3.heap[w.heap.size]? = some (.cells #[(.int .u32 167772160), (.int .i64 8)] 49 (0, 0))) := Lib.hid (carryH PPA2.out HbA3.out)
  have BWA3 : Hid (Below w.heap.size w A3) := Lib.hid (Below.step BWA2.out HbA3.out)
  have EEA3 : Hid (A3.heap[A2.heap.size]? = some (.cells #[(.bool true), (.int .u32 167772160), (.int .i64 8), (.int .i64 16), (.int .i64 24), (.bool false), (.int .u32 167772160), (.int .i64 8), (.int .i64 8), (.int .i64 32)] 51 (0, 0))) := Lib.hid (heap_alc hA3)
  obtain ⟨A4, hA4⟩ : ∃ X, A3.alloc (.cells #[(.string ⟨#[]⟩), (.slice none 0 0)] 54) = X := ⟨_, rfl⟩
  obtain ⟨A5, hA5⟩ : ∃ X, ((A4.setCell ⟨A3.heap.size, 0, none⟩ (.string ⟨#[]⟩)).setCell ⟨A3.heap.size, 1, none⟩ (.slice (some ⟨A2.heap.size, 0, none⟩) 2 2)) = X := ⟨_, rfl⟩
  obtain ⟨LLA5, HbA5, zA5, HzA5⟩ := boxL hA4 hA5
  obtain ⟨zA5_0, zA5_1⟩ : A4.cell? ⟨A3.heap.size, 0, none⟩ = some (.string ⟨#[]⟩) ∧ A4.cell? ⟨A3.heap.size, 1, none⟩ = some (.slice none 0 0) := ⟨cell_heap HzA5.out, cell_heap HzA5.out⟩
  have fzA5 : ∀ o, A4.frozen? ⟨A3.heap.size, o, none⟩ = false := fun o => frozen_heap HzA5.out
  have PPA5 : Hid (A5.heap[w.heap.size]? = some (.cells #[(.int .u32 167772160), (.int .i64 8)] 49 (0, 0))) := Lib.hid (carryH PPA3.out HbA5.out)
  have EEA5 : Hid (A5.heap[A2.heap.size]? = some (.cells #[(.bool true), (.int .u32 167772160), (.int .i64 8), (.int .i64 16), (.int .i64 24), (.bool false), (.int .u32 167772160), (.int .i64 8), (.int .i64 8), (.int .i64 32)] 51 (0, 0))) := Lib.hid (carryH EEA3.out HbA5.out)
  have BWA5 : Hid (Below w.heap.size w A5) := Lib.hid (Below.step BWA3.out HbA5.out)
  obtain ⟨A6, hA6⟩ : ∃ X, A5.alloc (.cells #[(.int .u32 1), (.int .u32 2)] 23) = X := ⟨_, rfl⟩
  have HbA6 : Hid (Below A5.heap.size A5 A6) := Lib.hid (by rw [← hA6]; exact (Below.refl _ _).alloc (Nat.le_refl _) _)
  have PPA6 : Hid (A6.heap[w.heap.size]? = some (.cells #[(.int .u32 167772160), (.int .i64 8)] 49 (0, 0))) := Lib.hid (carryH PPA5.out HbA6.out)
  have EEA6 : Hid (A6.heap[A2.heap.size]? = some (.cells #[(.bool true), (.int .u32 167772160), (.int .i64 8), (.int .i64 16), (.int .i64 24), (.bool false), (.int .u32 167772160), (.int .i64 8), (.int .i64 8), (.int .i64 32)] 51 (0, 0))) := Lib.hid (carryH EEA5.out HbA6.out)
  have LLA6 : Hid (A6.heap[A3.heap.size]? = some (.cells #[(.string ⟨#[]⟩), (.slice (some ⟨A2.heap.size, 0, none⟩) 2 2)] 54 (0, 0))) := Lib.hid (carryH LLA5.out HbA6.out)
  have BWA6 : Hid (Below w.heap.size w A6) := Lib.hid (Below.step BWA5.out HbA6.out)
  have UUA6 : Hid (A6.heap[A5.heap.size]? = some (.cells #[(.int .u32 1), (.int .u32 2)] 23 (0, 0))) := Lib.hid (heap_alc hA6)
  obtain ⟨A7, hA7⟩ : ∃ X, A6.alloc (.cells #[(.bool true), (.slice (some ⟨A5.heap.size, 0, none⟩) 2 2)] 56) = X := ⟨_, rfl⟩
  have HbA7 : Hid (Below A6.heap.size A6 A7) := Lib.hid (by rw [← hA7]; exact (Below.refl _ _).alloc (Nat.le_refl _) _)
  have PPA7 : Hid (A7.heap[w.heap.size]? = some (.cells #[(.int .u32 167772160), (.int .i64 8)] 49 (0, 0))) := Lib.hid (carryH PPA6.out HbA7.out)
  have EEA7 : Hid (A7.heap[A2.heap.size]? = some (.cells #[(.bool true), (.int .u32 167772160), (.int .i64 8), (.int .i64 16), (.int .i64 24), (.bool false), (.int .u32 167772160), (.int .i64 8), (.int .i64 8), (.int .i64 32)] 51 (0, 0))) := Lib.hid (carryH EEA6.out HbA7.out)
  have LLA7 : Hid (A7.heap[A3.heap.size]? = some (.cells #[(.string ⟨#[]⟩), (.slice (some ⟨A2.heap.size, 0, none⟩) 2 2)] 54 (0, 0))) := Lib.hid (carryH LLA6.out HbA7.out)
  have UUA7 : Hid (A7.heap[A5.heap.size]? = some (.cells #[(.int .u32 1), (.int .u32 2)] 23 (0, 0))) := Lib.hid (carryH UUA6.out HbA7.out)
  have BWA7 : Hid (Below w.heap.size w A7) := Lib.hid (Below.step BWA6.out HbA7.out)
  have MMA7 : Hid (A7.heap[A6.heap.size]? = some (.cells #[(.bool true), (.slice (some ⟨A5.heap.size, 0, none⟩) 2 2)] 56 (0, 0))) := Lib.hid (heap_alc hA7)
  obtain ⟨A8, hA8⟩ : ∃ X, A7.alloc (.cells #[(.string ⟨#[]⟩), (.slice none 0 0)] 35) = X := ⟨_, rfl⟩
  obtain ⟨A9, hA9⟩ : ∃ X, ((A8.setCell ⟨A7.heap.size, 0, none⟩ (.string ⟨#[]⟩)).setCell ⟨A7.heap.size, 1, none⟩ (.slice (some ⟨A6.heap.size, 0, none⟩) 1 1)) = X := ⟨_, rfl⟩
  obtain ⟨CCA9, HbA9, zA9, HzA9⟩ := boxC hA8 hA9
  obtain ⟨zA9_0, zA9_1⟩ : A8.cell? ⟨A7.heap.size, 0, none⟩ = some (.string ⟨#[]⟩) ∧ A8.cell? ⟨A7.heap.size, 1, none⟩ = some (.slice none 0 0) := ⟨cell_heap HzA9.out, cell_heap HzA9.out⟩
  have fzA9 : ∀ o, A8.frozen? ⟨A7.heap.size, o, none⟩ = false := fun o => frozen_heap HzA9.out
  have PPA9 : Hid (A9.heap[w.heap.size]? = some (.cells #[(.int .u32 167772160), (.int .i64 8)] 49 (0, 0))) := Lib.hid (carryH PPA7.out HbA9.out)
  have EEA9 : Hid (A9.heap[A2.heap.size]? = some (.cells #[(.bool true), (.int .u32 167772160), (.int .i64 8), (.int .i64 16), (.int .i64 24), (.bool false), (.int .u32 167772160), (.int .i64 8), (.int .i64 8), (.int .i64 32)] 51 (0, 0))) := Lib.hid (carryH EEA7.out HbA9.out)
  have LLA9 : Hid (A9.heap[A3.heap.size]? = some (.cells #[(.string ⟨#[]⟩), (.slice (some ⟨A2.heap.size, 0, none⟩) 2 2)] 54 (0, 0))) := Lib.hid (carryH LLA7.out HbA9.out)
  have UUA9 : Hid (A9.heap[A5.heap.size]? = some (.cells #[(.int .u32 1), (.int .u32 2)] 23 (0, 0))) := Lib.hid (carryH UUA7.out HbA9.out)
  have MMA9 : Hid (A9.heap[A6.heap.size]? = some (.cells #[(.bool true), (.slice (some ⟨A5.heap.size, 0, none⟩) 2 2)] 56 (0, 0))) := Lib.hid (carryH MMA7.out HbA9.out)
  have BWA9 : Hid (Below w.heap.size w A9) := Lib.hid (Below.step BWA7.out HbA9.out)
  obtain ⟨q9l0, q9l1⟩ : A9.cell? ⟨A3.heap.size, 0, none⟩ = some (.string ⟨#[]⟩) ∧ A9.cell? ⟨A3.heap.size, 1, none⟩ = some (.slice (some ⟨A2.heap.size, 0, none⟩) 2 2) := ⟨cell_heap LLA9.out, cell_heap LLA9.out⟩
  obtain ⟨q9p0, q9p1⟩ : A9.cell? ⟨w.heap.size, 0, none⟩ = some (.int .u32 167772160) ∧ A9.cell? ⟨w.heap.size, 1, none⟩ = some (.int .i64 8) := ⟨cell_heap PPA9.out, cell_heap PPA9.out⟩
  obtain ⟨q9c0, q9c1⟩ : A9.cell? ⟨A7.heap.size, 0, none⟩ = some (.string ⟨#[]⟩) ∧ A9.cell? ⟨A7.heap.size, 1, none⟩ = some (.slice (some ⟨A6.heap.size, 0, none⟩) 1 1) := ⟨cell_heap CCA9.out, cell_heap CCA9.out⟩
  have C1 := Lib.hid (entry_is ⟨#[]⟩ (.slice (some ⟨A2.heap.size, 0, none⟩) 2 2) [(⟨true, 167772160, 8, 16, 24⟩ : EntD), (⟨false, 167772160, 8, 8, 32⟩ : EntD)] 167772160 8 A9 (rd_block (enc := encE) (l := [(⟨true, 167772160, 8, 16, 24⟩ : EntD), (⟨false, 167772160, 8, 8, 32⟩ : EntD)]) (fun _ => rfl) EEA9.out rfl (by decide)) w_ok (by decide) (by decide))
  rw [w1_fst] at C1
  simp only [outI] at C1
  go_enter Tryd.func14, Tryd.ntmps14
  go_wp2_with fail
  go_at_call 26
  (with_reducible refine C1.out.mono ?_)
  rintro e A10 ⟨rfl, hb⟩
  have HbA10 := Lib.hid hb
  clear hb
  have PPA10 : Hid (A10.heap[w.heap.size]? = some (.cells #[(.int .u32 167772160), (.int .i64 8)] 49 (0, 0))) := Lib.hid (carryH PPA9.out HbA10.out)
  have EEA10 : Hid (A10.heap[A2.heap.size]? = some (.cells #[(.bool true), (.int .u32 167772160), (.int .i64 8), (.int .i64 16), (.int .i64 24), (.bool false), (.int .u32 167772160), (.int .i64 8), (.int .i64 8), (.int .i64 32)] 51 (0, 0))) := Lib.hid (carryH EEA9.out HbA10.out)
  have LLA10 : Hid (A10.heap[A3.heap.size]? = some (.cells #[(.string ⟨#[]⟩), (.slice (some ⟨A2.heap.size, 0, none⟩) 2 2)] 54 (0, 0))) := Lib.hid (carryH LLA9.out HbA10.out)
  have UUA10 : Hid (A10.heap[A5.heap.size]? = some (.cells #[(.int .u32 1), (.int .u32 2)] 23 (0, 0))) := Lib.hid (carryH UUA9.out HbA10.out)
  have MMA10 : Hid (A10.heap[A6.heap.size]? = some (.cells #[(.bool true), (.slice (some ⟨A5.heap.size, 0, none⟩) 2 2)] 56 (0, 0))) := Lib.hid (carryH MMA9.out HbA10.out)
  have CCA10 : Hid (A10.heap[A7.heap.size]? = some (.cells #[(.string ⟨#[]⟩), (.slice (some ⟨A6.heap.size, 0, none⟩) 1 1)] 35 (0, 0))) := Lib.hid (carryH CCA9.out HbA10.out)
  have BWA10 : Hid (Below w.heap.size w A10) := Lib.hid (Below.step BWA9.out HbA10.out)
  have D0 := Lib.hid (lparse_is ⟨#[49, 58, 49]⟩ (by decide) A10 (HTT.out.on BWA10.out) (HEE.out.on BWA10.out))
  rw [show (⟨#[49, 58, 49]⟩ : ByteArray).data.toList = [49, 58, 49] from rfl, w_par1] at D0
  simp only [parE] at D0
  go_wp2_with fail
  go_at_call 7
  (with_reducible refine D0.out.mono ?_)
  rintro e A11 ⟨rfl, hb⟩
  have HbA11 := Lib.hid hb
  clear hb
  have PPA11 : Hid (A11.heap[w.heap.size]? = some (.cells #[(.int .u32 167772160), (.int .i64 8)] 49 (0, 0))) := Lib.hid (carryH PPA10.out HbA11.out)
  have EEA11 : Hid (A11.heap[A2.heap.size]? = some (.cells #[(.bool true), (.int .u32 167772160), (.int .i64 8), (.int .i64 16), (.int .i64 24), (.bool false), (.int .u32 167772160), (.int .i64 8), (.int .i64 8), (.int .i64 32)] 51 (0, 0))) := Lib.hid (carryH EEA10.out HbA11.out)
  have LLA11 : Hid (A11.heap[A3.heap.size]? = some (.cells #[(.string ⟨#[]⟩), (.slice (some ⟨A2.heap.size, 0, none⟩) 2 2)] 54 (0, 0))) := Lib.hid (carryH LLA10.out HbA11.out)
  have UUA11 : Hid (A11.heap[A5.heap.size]? = some (.cells #[(.int .u32 1), (.int .u32 2)] 23 (0, 0))) := Lib.hid (carryH UUA10.out HbA11.out)
  have MMA11 : Hid (A11.heap[A6.heap.size]? = some (.cells #[(.bool true), (.slice (some ⟨A5.heap.size, 0, none⟩) 2 2)] 56 (0, 0))) := Lib.hid (carryH MMA10.out HbA11.out)
  have CCA11 : Hid (A11.heap[A7.heap.size]? = some (.cells #[(.string ⟨#[]⟩), (.slice (some ⟨A6.heap.size, 0, none⟩) 1 1)] 35 (0, 0))) := Lib.hid (carryH CCA10.out HbA11.out)
  have BWA11 : Hid (Below w.heap.size w A11) := Lib.hid (Below.step BWA10.out HbA11.out)
  have D1 := Lib.hid (lparse_is ⟨#[48, 49, 58, 49]⟩ (by decide) A11 (HTT.out.on BWA11.out) (HEE.out.on BWA11.out))
  rw [show (⟨#[48, 49, 58, 49]⟩ : ByteArray).data.toList = [48, 49, 58, 49] from rfl, w_par2] at D1
  simp only [parE] at D1
  go_wp2_with fail
  go_at_call 7
  (with_reducible refine D1.out.mono ?_)
  rintro e A12 ⟨rfl, hb⟩
  have HbA12 := Lib.hid hb
  clear hb
  have PPA12 : Hid (A12.heap[w.heap.size]? = some (.cells #[(.int .u32 167772160), (.int .i64 8)] 49 (0, 0))) := Lib.hid (carryH PPA11.out HbA12.out)
  have EEA12 : Hid (A12.heap[A2.heap.size]? = some (.cells #[(.bool true), (.int .u32 167772160), (.int .i64 8), (.int .i64 16), (.int .i64 24), (.bool false), (.int .u32 167772160), (.int .i64 8), (.int .i64 8), (.int .i64 32)] 51 (0, 0))) := Lib.hid (carryH EEA11.out HbA12.out)
  have LLA12 : Hid (A12.heap[A3.heap.size]? = some (.cells #[(.string ⟨#[]⟩), (.slice (some ⟨A2.heap.size, 0, none⟩) 2 2)] 54 (0, 0))) := Lib.hid (carryH LLA11.out HbA12.out)
  have UUA12 : Hid (A12.heap[A5.heap.size]? = some (.cells #[(.int .u32 1), (.int .u32 2)] 23 (0, 0))) := Lib.hid (carryH UUA11.out HbA12.out)
  have MMA12 : Hid (A12.heap[A6.heap.size]? = some (.cells #[(.bool true), (.slice (some ⟨A5.heap.size, 0, none⟩) 2 2)] 56 (0, 0))) := Lib.hid (carryH MMA11.out HbA12.out)
  have CCA12 : Hid (A12.heap[A7.heap.size]? = some (.cells #[(.string ⟨#[]⟩), (.slice (some ⟨A6.heap.size, 0, none⟩) 1 1)] 35 (0, 0))) := Lib.hid (carryH CCA11.out HbA12.out)
  have BWA12 : Hid (Below w.heap.size w A12) := Lib.hid (Below.step BWA11.out HbA12.out)
  have D2 := Lib.hid (lparse_is ⟨#[49, 58, 54, 53, 53, 51, 54]⟩ (by decide) A12 (HTT.out.on BWA12.out) (HEE.out.on BWA12.out))
  rw [show (⟨#[49, 58, 54, 53, 53, 51, 54]⟩ : ByteArray).data.toList = [49, 58, 54, 53, 53, 51, 54] from rfl, w_par3] at D2
  simp only [parE] at D2
  go_wp2_with fail
  go_at_call 7
  (with_reducible refine D2.out.mono ?_)
  rintro e A13 ⟨rfl, hb⟩
  have HbA13 := Lib.hid hb
  clear hb
  have PPA13 : Hid (A13.heap[w.heap.size]? = some (.cells #[(.int .u32 167772160), (.int .i64 8)] 49 (0, 0))) := Lib.hid (carryH PPA12.out HbA13.out)
  have EEA13 : Hid (A13.heap[A2.heap.size]? = some (.cells #[(.bool true), (.int .u32 167772160), (.int .i64 8), (.int .i64 16), (.int .i64 24), (.bool false), (.int .u32 167772160), (.int .i64 8), (.int .i64 8), (.int .i64 32)] 51 (0, 0))) := Lib.hid (carryH EEA12.out HbA13.out)
  have LLA13 : Hid (A13.heap[A3.heap.size]? = some (.cells #[(.string ⟨#[]⟩), (.slice (some ⟨A2.heap.size, 0, none⟩) 2 2)] 54 (0, 0))) := Lib.hid (carryH LLA12.out HbA13.out)
  have UUA13 : Hid (A13.heap[A5.heap.size]? = some (.cells #[(.int .u32 1), (.int .u32 2)] 23 (0, 0))) := Lib.hid (carryH UUA12.out HbA13.out)
  have MMA13 : Hid (A13.heap[A6.heap.size]? = some (.cells #[(.bool true), (.slice (some ⟨A5.heap.size, 0, none⟩) 2 2)] 56 (0, 0))) := Lib.hid (carryH MMA12.out HbA13.out)
  have CCA13 : Hid (A13.heap[A7.heap.size]? = some (.cells #[(.string ⟨#[]⟩), (.slice (some ⟨A6.heap.size, 0, none⟩) 1 1)] 35 (0, 0))) := Lib.hid (carryH CCA12.out HbA13.out)
  have BWA13 : Hid (Below w.heap.size w A13) := Lib.hid (Below.step BWA12.out HbA13.out)
  obtain ⟨q13l0, q13l1⟩ : A13.cell? ⟨A3.heap.size, 0, none⟩ = some (.string ⟨#[]⟩) ∧ A13.cell? ⟨A3.heap.size, 1, none⟩ = some (.slice (some ⟨A2.heap.size, 0, none⟩) 2 2) := ⟨cell_heap LLA13.out, cell_heap LLA13.out⟩
  obtain ⟨q13p0, q13p1⟩ : A13.cell? ⟨w.heap.size, 0, none⟩ = some (.int .u32 167772160) ∧ A13.cell? ⟨w.heap.size, 1, none⟩ = some (.int .i64 8) := ⟨cell_heap PPA13.out, cell_heap PPA13.out⟩
  obtain ⟨q13c0, q13c1⟩ : A13.cell? ⟨A7.heap.size, 0, none⟩ = some (.string ⟨#[]⟩) ∧ A13.cell? ⟨A7.heap.size, 1, none⟩ = some (.slice (some ⟨A6.heap.size, 0, none⟩) 1 1) := ⟨cell_heap CCA13.out, cell_heap CCA13.out⟩
  have C2 := Lib.hid (permits_is ⟨#[]⟩ (.slice (some ⟨A2.heap.size, 0, none⟩) 2 2) [(⟨true, 167772160, 8, 16, 24⟩ : EntD), (⟨false, 167772160, 8, 8, 32⟩ : EntD)] 167772160 8 A13 (rd_block (enc := encE) (l := [(⟨true, 167772160, 8, 16, 24⟩ : EntD), (⟨false, 167772160, 8, 8, 32⟩ : EntD)]) (fun _ => rfl) EEA13.out rfl (by decide)) w_ok (by decide) (by decide))
  rw [w1_per] at C2
  go_wp2_with fail
  go_at_call 27
  (with_reducible refine C2.out.mono ?_)
  rintro e A14 ⟨rfl, hb⟩
  have HbA14 := Lib.hid hb
  clear hb
  have PPA14 : Hid (A14.heap[w.heap.size]? = some (.cells #[(.int .u32 167772160), (.int .i64 8)] 49 (0, 0))) := Lib.hid (carryH PPA13.out HbA14.out)
  have EEA14 : Hid (A14.heap[A2.heap.size]? = some (.cells #[(.bool true), (.int .u32 167772160), (.int .i64 8), (.int .i64 16), (.int .i64 24), (.bool false), (.int .u32 167772160), (.int .i64 8), (.int .i64 8), (.int .i64 32)] 51 (0, 0))) := Lib.hid (carryH EEA13.out HbA14.out)
  have LLA14 : Hid (A14.heap[A3.heap.size]? = some (.cells #[(.string ⟨#[]⟩), (.slice (some ⟨A2.heap.size, 0, none⟩) 2 2)] 54 (0, 0))) := Lib.hid (carryH LLA13.out HbA14.out)
  have UUA14 : Hid (A14.heap[A5.heap.size]? = some (.cells #[(.int .u32 1), (.int .u32 2)] 23 (0, 0))) := Lib.hid (carryH UUA13.out HbA14.out)
  have MMA14 : Hid (A14.heap[A6.heap.size]? = some (.cells #[(.bool true), (.slice (some ⟨A5.heap.size, 0, none⟩) 2 2)] 56 (0, 0))) := Lib.hid (carryH MMA13.out HbA14.out)
  have CCA14 : Hid (A14.heap[A7.heap.size]? = some (.cells #[(.string ⟨#[]⟩), (.slice (some ⟨A6.heap.size, 0, none⟩) 1 1)] 35 (0, 0))) := Lib.hid (carryH CCA13.out HbA14.out)
  have BWA14 : Hid (Below w.heap.size w A14) := Lib.hid (Below.step BWA13.out HbA14.out)
  obtain ⟨q14l0, q14l1⟩ : A14.cell? ⟨A3.heap.size, 0, none⟩ = some (.string ⟨#[]⟩) ∧ A14.cell? ⟨A3.heap.size, 1, none⟩ = some (.slice (some ⟨A2.heap.size, 0, none⟩) 2 2) := ⟨cell_heap LLA14.out, cell_heap LLA14.out⟩
  obtain ⟨q14p0, q14p1⟩ : A14.cell? ⟨w.heap.size, 0, none⟩ = some (.int .u32 167772160) ∧ A14.cell? ⟨w.heap.size, 1, none⟩ = some (.int .i64 8) := ⟨cell_heap PPA14.out, cell_heap PPA14.out⟩
  obtain ⟨q14c0, q14c1⟩ : A14.cell? ⟨A7.heap.size, 0, none⟩ = some (.string ⟨#[]⟩) ∧ A14.cell? ⟨A7.heap.size, 1, none⟩ = some (.slice (some ⟨A6.heap.size, 0, none⟩) 1 1) := ⟨cell_heap CCA14.out, cell_heap CCA14.out⟩
  have C3 := Lib.hid (permits_is ⟨#[]⟩ (.slice (some ⟨A2.heap.size, 0, none⟩) 2 2) [(⟨true, 167772160, 8, 16, 24⟩ : EntD), (⟨false, 167772160, 8, 8, 32⟩ : EntD)] 167837696 16 A14 (rd_block (enc := encE) (l := [(⟨true, 167772160, 8, 16, 24⟩ : EntD), (⟨false, 167772160, 8, 8, 32⟩ : EntD)]) (fun _ => rfl) EEA14.out rfl (by decide)) w_ok (by decide) (by decide))
  rw [w2_per] at C3
  go_wp2_with fail
  go_at_call 27
  (with_reducible refine C3.out.mono ?_)
  rintro e A15 ⟨rfl, hb⟩
  have HbA15 := Lib.hid hb
  clear hb
  have PPA15 : Hid (A15.heap[w.heap.size]? = some (.cells #[(.int .u32 167772160), (.int .i64 8)] 49 (0, 0))) := Lib.hid (carryH PPA14.out HbA15.out)
  have EEA15 : Hid (A15.heap[A2.heap.size]? = some (.cells #[(.bool true), (.int .u32 167772160), (.int .i64 8), (.int .i64 16), (.int .i64 24), (.bool false), (.int .u32 167772160), (.int .i64 8), (.int .i64 8), (.int .i64 32)] 51 (0, 0))) := Lib.hid (carryH EEA14.out HbA15.out)
  have LLA15 : Hid (A15.heap[A3.heap.size]? = some (.cells #[(.string ⟨#[]⟩), (.slice (some ⟨A2.heap.size, 0, none⟩) 2 2)] 54 (0, 0))) := Lib.hid (carryH LLA14.out HbA15.out)
  have UUA15 : Hid (A15.heap[A5.heap.size]? = some (.cells #[(.int .u32 1), (.int .u32 2)] 23 (0, 0))) := Lib.hid (carryH UUA14.out HbA15.out)
  have MMA15 : Hid (A15.heap[A6.heap.size]? = some (.cells #[(.bool true), (.slice (some ⟨A5.heap.size, 0, none⟩) 2 2)] 56 (0, 0))) := Lib.hid (carryH MMA14.out HbA15.out)
  have CCA15 : Hid (A15.heap[A7.heap.size]? = some (.cells #[(.string ⟨#[]⟩), (.slice (some ⟨A6.heap.size, 0, none⟩) 1 1)] 35 (0, 0))) := Lib.hid (carryH CCA14.out HbA15.out)
  have BWA15 : Hid (Below w.heap.size w A15) := Lib.hid (Below.step BWA14.out HbA15.out)
  obtain ⟨q15l0, q15l1⟩ : A15.cell? ⟨A3.heap.size, 0, none⟩ = some (.string ⟨#[]⟩) ∧ A15.cell? ⟨A3.heap.size, 1, none⟩ = some (.slice (some ⟨A2.heap.size, 0, none⟩) 2 2) := ⟨cell_heap LLA15.out, cell_heap LLA15.out⟩
  obtain ⟨q15p0, q15p1⟩ : A15.cell? ⟨w.heap.size, 0, none⟩ = some (.int .u32 167772160) ∧ A15.cell? ⟨w.heap.size, 1, none⟩ = some (.int .i64 8) := ⟨cell_heap PPA15.out, cell_heap PPA15.out⟩
  obtain ⟨q15c0, q15c1⟩ : A15.cell? ⟨A7.heap.size, 0, none⟩ = some (.string ⟨#[]⟩) ∧ A15.cell? ⟨A7.heap.size, 1, none⟩ = some (.slice (some ⟨A6.heap.size, 0, none⟩) 1 1) := ⟨cell_heap CCA15.out, cell_heap CCA15.out⟩
  obtain ⟨A16, hA16⟩ : ∃ X, A15.alloc (.cells #[(.int .u32 2), (.int .u32 3), (.int .u32 1)] 23) = X := ⟨_, rfl⟩
  have HbA16 : Hid (Below A15.heap.size A15 A16) := Lib.hid (by rw [← hA16]; exact (Below.refl _ _).alloc (Nat.le_refl _) _)
  have PPA16 : Hid (A16.heap[w.heap.size]? = some (.cells #[(.int .u32 167772160), (.int .i64 8)] 49 (0, 0))) := Lib.hid (carryH PPA15.out HbA16.out)
  have EEA16 : Hid (A16.heap[A2.heap.size]? = some (.cells #[(.bool true), (.int .u32 167772160), (.int .i64 8), (.int .i64 16), (.int .i64 24), (.bool false), (.int .u32 167772160), (.int .i64 8), (.int .i64 8), (.int .i64 32)] 51 (0, 0))) := Lib.hid (carryH EEA15.out HbA16.out)
  have LLA16 : Hid (A16.heap[A3.heap.size]? = some (.cells #[(.string ⟨#[]⟩), (.slice (some ⟨A2.heap.size, 0, none⟩) 2 2)] 54 (0, 0))) := Lib.hid (carryH LLA15.out HbA16.out)
  have UUA16 : Hid (A16.heap[A5.heap.size]? = some (.cells #[(.int .u32 1), (.int .u32 2)] 23 (0, 0))) := Lib.hid (carryH UUA15.out HbA16.out)
  have MMA16 : Hid (A16.heap[A6.heap.size]? = some (.cells #[(.bool true), (.slice (some ⟨A5.heap.size, 0, none⟩) 2 2)] 56 (0, 0))) := Lib.hid (carryH MMA15.out HbA16.out)
  have CCA16 : Hid (A16.heap[A7.heap.size]? = some (.cells #[(.string ⟨#[]⟩), (.slice (some ⟨A6.heap.size, 0, none⟩) 1 1)] 35 (0, 0))) := Lib.hid (carryH CCA15.out HbA16.out)
  have BWA16 : Hid (Below w.heap.size w A16) := Lib.hid (Below.step BWA15.out HbA16.out)
  have X1A16 : Hid (A16.heap[A15.heap.size]? = some (.cells #[(.int .u32 2), (.int .u32 3), (.int .u32 1)] 23 (0, 0))) := Lib.hid (heap_alc hA16)
  obtain ⟨q16l0, q16l1⟩ : A16.cell? ⟨A3.heap.size, 0, none⟩ = some (.string ⟨#[]⟩) ∧ A16.cell? ⟨A3.heap.size, 1, none⟩ = some (.slice (some ⟨A2.heap.size, 0, none⟩) 2 2) := ⟨cell_heap LLA16.out, cell_heap LLA16.out⟩
  obtain ⟨q16p0, q16p1⟩ : A16.cell? ⟨w.heap.size, 0, none⟩ = some (.int .u32 167772160) ∧ A16.cell? ⟨w.heap.size, 1, none⟩ = some (.int .i64 8) := ⟨cell_heap PPA16.out, cell_heap PPA16.out⟩
  obtain ⟨q16c0, q16c1⟩ : A16.cell? ⟨A7.heap.size, 0, none⟩ = some (.string ⟨#[]⟩) ∧ A16.cell? ⟨A7.heap.size, 1, none⟩ = some (.slice (some ⟨A6.heap.size, 0, none⟩) 1 1) := ⟨cell_heap CCA16.out, cell_heap CCA16.out⟩
  have C4 := Lib.hid (allows_is ⟨#[]⟩ (.slice (some ⟨A6.heap.size, 0, none⟩) 1 1) [⟨true, some ⟨A5.heap.size, 0, none⟩, 2, [1, 2]⟩] (.slice (some ⟨A15.heap.size, 0, none⟩) 3 3) [2, 3, 1] A16 (rd_block (enc := encM) (l := [⟨true, some ⟨A5.heap.size, 0, none⟩, 2, [1, 2]⟩]) (fun _ => rfl) MMA16.out rfl (show (1 : Nat) ≤ maxLen by decide)) (fun m hm => by have h := List.mem_singleton.1 hm; subst h; exact ⟨rd_block (enc := encU) (l := [1, 2]) (fun _ => rfl) UUA16.out rfl (by decide), (show (2 : Nat) ≤ 35184372087808 by decide)⟩) (rd_block (enc := encU) (l := [2, 3, 1]) (fun _ => rfl) X1A16.out rfl (by decide)) (by decide) (show (1 : Nat) ≤ 35184372087808 by decide))
  rw [w_all1] at C4
  go_wp2_with fail
  go_at_call 16
  (with_reducible refine C4.out.mono ?_)
  rintro e A17 ⟨rfl, hb⟩
  have HbA17 := Lib.hid hb
  clear hb
  have PPA17 : Hid (A17.heap[w.heap.size]? = some (.cells #[(.int .u32 167772160), (.int .i64 8)] 49 (0, 0))) := Lib.hid (carryH PPA16.out HbA17.out)
  have EEA17 : Hid (A17.heap[A2.heap.size]? = some (.cells #[(.bool true), (.int .u32 167772160), (.int .i64 8), (.int .i64 16), (.int .i64 24), (.bool false), (.int .u32 167772160), (.int .i64 8), (.int .i64 8), (.int .i64 32)] 51 (0, 0))) := Lib.hid (carryH EEA16.out HbA17.out)
  have LLA17 : Hid (A17.heap[A3.heap.size]? = some (.cells #[(.string ⟨#[]⟩), (.slice (some ⟨A2.heap.size, 0, none⟩) 2 2)] 54 (0, 0))) := Lib.hid (carryH LLA16.out HbA17.out)
  have UUA17 : Hid (A17.heap[A5.heap.size]? = some (.cells #[(.int .u32 1), (.int .u32 2)] 23 (0, 0))) := Lib.hid (carryH UUA16.out HbA17.out)
  have MMA17 : Hid (A17.heap[A6.heap.size]? = some (.cells #[(.bool true), (.slice (some ⟨A5.heap.size, 0, none⟩) 2 2)] 56 (0, 0))) := Lib.hid (carryH MMA16.out HbA17.out)
  have CCA17 : Hid (A17.heap[A7.heap.size]? = some (.cells #[(.string ⟨#[]⟩), (.slice (some ⟨A6.heap.size, 0, none⟩) 1 1)] 35 (0, 0))) := Lib.hid (carryH CCA16.out HbA17.out)
  have X1A17 : Hid (A17.heap[A15.heap.size]? = some (.cells #[(.int .u32 2), (.int .u32 3), (.int .u32 1)] 23 (0, 0))) := Lib.hid (carryH X1A16.out HbA17.out)
  have BWA17 : Hid (Below w.heap.size w A17) := Lib.hid (Below.step BWA16.out HbA17.out)
  obtain ⟨q17l0, q17l1⟩ : A17.cell? ⟨A3.heap.size, 0, none⟩ = some (.string ⟨#[]⟩) ∧ A17.cell? ⟨A3.heap.size, 1, none⟩ = some (.slice (some ⟨A2.heap.size, 0, none⟩) 2 2) := ⟨cell_heap LLA17.out, cell_heap LLA17.out⟩
  obtain ⟨q17p0, q17p1⟩ : A17.cell? ⟨w.heap.size, 0, none⟩ = some (.int .u32 167772160) ∧ A17.cell? ⟨w.heap.size, 1, none⟩ = some (.int .i64 8) := ⟨cell_heap PPA17.out, cell_heap PPA17.out⟩
  obtain ⟨q17c0, q17c1⟩ : A17.cell? ⟨A7.heap.size, 0, none⟩ = some (.string ⟨#[]⟩) ∧ A17.cell? ⟨A7.heap.size, 1, none⟩ = some (.slice (some ⟨A6.heap.size, 0, none⟩) 1 1) := ⟨cell_heap CCA17.out, cell_heap CCA17.out⟩
  obtain ⟨A18, hA18⟩ : ∃ X, A17.alloc (.cells #[(.int .u32 1)] 23) = X := ⟨_, rfl⟩
  have HbA18 : Hid (Below A17.heap.size A17 A18) := Lib.hid (by rw [← hA18]; exact (Below.refl _ _).alloc (Nat.le_refl _) _)
  have PPA18 : Hid (A18.heap[w.heap.size]? = some (.cells #[(.int .u32 167772160), (.int .i64 8)] 49 (0, 0))) := Lib.hid (carryH PPA17.out HbA18.out)
  have EEA18 : Hid (A18.heap[A2.heap.size]? = some (.cells #[(.bool true), (.int .u32 167772160), (.int .i64 8), (.int .i64 16), (.int .i64 24), (.bool false), (.int .u32 167772160), (.int .i64 8), (.int .i64 8), (.int .i64 32)] 51 (0, 0))) := Lib.hid (carryH EEA17.out HbA18.out)
  have LLA18 : Hid (A18.heap[A3.heap.size]? = some (.cells #[(.string ⟨#[]⟩), (.slice (some ⟨A2.heap.size, 0, none⟩) 2 2)] 54 (0, 0))) := Lib.hid (carryH LLA17.out HbA18.out)
  have UUA18 : Hid (A18.heap[A5.heap.size]? = some (.cells #[(.int .u32 1), (.int .u32 2)] 23 (0, 0))) := Lib.hid (carryH UUA17.out HbA18.out)
  have MMA18 : Hid (A18.heap[A6.heap.size]? = some (.cells #[(.bool true), (.slice (some ⟨A5.heap.size, 0, none⟩) 2 2)] 56 (0, 0))) := Lib.hid (carryH MMA17.out HbA18.out)
  have CCA18 : Hid (A18.heap[A7.heap.size]? = some (.cells #[(.string ⟨#[]⟩), (.slice (some ⟨A6.heap.size, 0, none⟩) 1 1)] 35 (0, 0))) := Lib.hid (carryH CCA17.out HbA18.out)
  have X1A18 : Hid (A18.heap[A15.heap.size]? = some (.cells #[(.int .u32 2), (.int .u32 3), (.int .u32 1)] 23 (0, 0))) := Lib.hid (carryH X1A17.out HbA18.out)
  have BWA18 : Hid (Below w.heap.size w A18) := Lib.hid (Below.step BWA17.out HbA18.out)
  have X2A18 : Hid (A18.heap[A17.heap.size]? = some (.cells #[(.int .u32 1)] 23 (0, 0))) := Lib.hid (heap_alc hA18)
  obtain ⟨q18l0, q18l1⟩ : A18.cell? ⟨A3.heap.size, 0, none⟩ = some (.string ⟨#[]⟩) ∧ A18.cell? ⟨A3.heap.size, 1, none⟩ = some (.slice (some ⟨A2.heap.size, 0, none⟩) 2 2) := ⟨cell_heap LLA18.out, cell_heap LLA18.out⟩
  obtain ⟨q18p0, q18p1⟩ : A18.cell? ⟨w.heap.size, 0, none⟩ = some (.int .u32 167772160) ∧ A18.cell? ⟨w.heap.size, 1, none⟩ = some (.int .i64 8) := ⟨cell_heap PPA18.out, cell_heap PPA18.out⟩
  obtain ⟨q18c0, q18c1⟩ : A18.cell? ⟨A7.heap.size, 0, none⟩ = some (.string ⟨#[]⟩) ∧ A18.cell? ⟨A7.heap.size, 1, none⟩ = some (.slice (some ⟨A6.heap.size, 0, none⟩) 1 1) := ⟨cell_heap CCA18.out, cell_heap CCA18.out⟩
  have C5 := Lib.hid (allows_is ⟨#[]⟩ (.slice (some ⟨A6.heap.size, 0, none⟩) 1 1) [⟨true, some ⟨A5.heap.size, 0, none⟩, 2, [1, 2]⟩] (.slice (some ⟨A17.heap.size, 0, none⟩) 1 1) [1] A18 (rd_block (enc := encM) (l := [⟨true, some ⟨A5.heap.size, 0, none⟩, 2, [1, 2]⟩]) (fun _ => rfl) MMA18.out rfl (show (1 : Nat) ≤ maxLen by decide)) (fun m hm => by have h := List.mem_singleton.1 hm; subst h; exact ⟨rd_block (enc := encU) (l := [1, 2]) (fun _ => rfl) UUA18.out rfl (by decide), (show (2 : Nat) ≤ 35184372087808 by decide)⟩) (rd_block (enc := encU) (l := [1]) (fun _ => rfl) X2A18.out rfl (by decide)) (by decide) (show (1 : Nat) ≤ 35184372087808 by decide))
  rw [w_all2] at C5
  go_wp2_with fail
  go_at_call 16
  (with_reducible refine C5.out.mono ?_)
  rintro e A19 ⟨rfl, hb⟩
  have HbA19 := Lib.hid hb
  clear hb
  have PPA19 : Hid (A19.heap[w.heap.size]? = some (.cells #[(.int .u32 167772160), (.int .i64 8)] 49 (0, 0))) := Lib.hid (carryH PPA18.out HbA19.out)
  have EEA19 : Hid (A19.heap[A2.heap.size]? = some (.cells #[(.bool true), (.int .u32 167772160), (.int .i64 8), (.int .i64 16), (.int .i64 24), (.bool false), (.int .u32 167772160), (.int .i64 8), (.int .i64 8), (.int .i64 32)] 51 (0, 0))) := Lib.hid (carryH EEA18.out HbA19.out)
  have LLA19 : Hid (A19.heap[A3.heap.size]? = some (.cells #[(.string ⟨#[]⟩), (.slice (some ⟨A2.heap.size, 0, none⟩) 2 2)] 54 (0, 0))) := Lib.hid (carryH LLA18.out HbA19.out)
  have UUA19 : Hid (A19.heap[A5.heap.size]? = some (.cells #[(.int .u32 1), (.int .u32 2)] 23 (0, 0))) := Lib.hid (carryH UUA18.out HbA19.out)
  have MMA19 : Hid (A19.heap[A6.heap.size]? = some (.cells #[(.bool true), (.slice (some ⟨A5.heap.size, 0, none⟩) 2 2)] 56 (0, 0))) := Lib.hid (carryH MMA18.out HbA19.out)
  have CCA19 : Hid (A19.heap[A7.heap.size]? = some (.cells #[(.string ⟨#[]⟩), (.slice (some ⟨A6.heap.size, 0, none⟩) 1 1)] 35 (0, 0))) := Lib.hid (carryH CCA18.out HbA19.out)
  have X1A19 : Hid (A19.heap[A15.heap.size]? = some (.cells #[(.int .u32 2), (.int .u32 3), (.int .u32 1)] 23 (0, 0))) := Lib.hid (carryH X1A18.out HbA19.out)
  have X2A19 : Hid (A19.heap[A17.heap.size]? = some (.cells #[(.int .u32 1)] 23 (0, 0))) := Lib.hid (carryH X2A18.out HbA19.out)
  have BWA19 : Hid (Below w.heap.size w A19) := Lib.hid (Below.step BWA18.out HbA19.out)
  obtain ⟨A20, hA20⟩ : ∃ X, A19.alloc (.cells #[(.int .u32 5), (.int .u32 1), (.int .u32 5)] 23) = X := ⟨_, rfl⟩
  have HbA20 : Hid (Below A19.heap.size A19 A20) := Lib.hid (by rw [← hA20]; exact (Below.refl _ _).alloc (Nat.le_refl _) _)
  have PPA20 : Hid (A20.heap[w.heap.size]? = some (.cells #[(.int .u32 167772160), (.int .i64 8)] 49 (0, 0))) := Lib.hid (carryH PPA19.out HbA20.out)
  have EEA20 : Hid (A20.heap[A2.heap.size]? = some (.cells #[(.bool true), (.int .u32 167772160), (.int .i64 8), (.int .i64 16), (.int .i64 24), (.bool false), (.int .u32 167772160), (.int .i64 8), (.int .i64 8), (.int .i64 32)] 51 (0, 0))) := Lib.hid (carryH EEA19.out HbA20.out)
  have LLA20 : Hid (A20.heap[A3.heap.size]? = some (.cells #[(.string ⟨#[]⟩), (.slice (some ⟨A2.heap.size, 0, none⟩) 2 2)] 54 (0, 0))) := Lib.hid (carryH LLA19.out HbA20.out)
  have UUA20 : Hid (A20.heap[A5.heap.size]? = some (.cells #[(.int .u32 1), (.int .u32 2)] 23 (0, 0))) := Lib.hid (carryH UUA19.out HbA20.out)
  have MMA20 : Hid (A20.heap[A6.heap.size]? = some (.cells #[(.bool true), (.slice (some ⟨A5.heap.size, 0, none⟩) 2 2)] 56 (0, 0))) := Lib.hid (carryH MMA19.out HbA20.out)
  have CCA20 : Hid (A20.heap[A7.heap.size]? = some (.cells #[(.string ⟨#[]⟩), (.slice (some ⟨A6.heap.size, 0, none⟩) 1 1)] 35 (0, 0))) := Lib.hid (carryH CCA19.out HbA20.out)
  have X1A20 : Hid (A20.heap[A15.heap.size]? = some (.cells #[(.int .u32 2), (.int .u32 3), (.int .u32 1)] 23 (0, 0))) := Lib.hid (carryH X1A19.out HbA20.out)
  have X2A20 : Hid (A20.heap[A17.heap.size]? = some (.cells #[(.int .u32 1)] 23 (0, 0))) := Lib.hid (carryH X2A19.out HbA20.out)
  have BWA20 : Hid (Below w.heap.size w A20) := Lib.hid (Below.step BWA19.out HbA20.out)
  have X3A20 : Hid (A20.heap[A19.heap.size]? = some (.cells #[(.int .u32 5), (.int .u32 1), (.int .u32 5)] 23 (0, 0))) := Lib.hid (heap_alc hA20)
  have C6 := Lib.hid (normal_is (.slice (some ⟨A19.heap.size, 0, none⟩) 3 3) [5, 1, 5] A20 (rd_block (enc := encU) (l := [5, 1, 5]) (fun _ => rfl) X3A20.out rfl (by decide)) (by decide))
  go_wp2_with fail
  go_at_call 5
  (with_reducible refine C6.out.mono ?_)
  rintro e A21 ⟨v', r, rfl, ow, fr, hrl, hb⟩
  have HbA21 := Lib.hid hb
  clear hb
  have BW21 := Lib.hid (Below.step BWA20.out HbA21.out)
  obtain ⟨fp, fc, rfl⟩ := own_sl ow
  have h2 := w_norm fr
  rw [h2]
  clear ow fr hrl
  go_wp2
  go_ret
  exact ⟨rfl, BW21.out⟩
end Go.Proofs.YtkkhmdiffddllaaDoor
