/- numberText, texts, routeMay and advertMay of package routes, at what RoutesNames asks. Condition: the table of package strconv is what its text says. -/
import Derived.Test.YtdladbdcpnkggaaGreatDoorRnB
import Derived.Laws.MakeOwn
namespace Go.Proofs.YtdladbdcpnkggaaGreatDoor
open Go.RowKit
theorem heap_new' (w : World) (x : Obj) : (w.alloc x).heap[w.heap.size]? = some x := by
  show (w.heap.push x)[w.heap.size]? = some x
  simp
theorem infoT : (Tryz.prog.info? 9).map (fun i => (i.zero, i.size, i.bytes)) = some (some (.string ⟨#[]⟩), 1, 16) := by kernel_rfl
theorem ntext_is (w : World) (ht : Tab10 w) : Calls Tryz.prog 16 #[.int .u32 4294967295] w fun e w' => e = .returned (.string ⟨#[52, 50, 57, 52, 57, 54, 55, 50, 57, 53]⟩) ∧ Below w.heap.size w w' := by
  have h := fmt_is 4294967295 (by omega) w ht
  rw [show (⟨(Lib.decDigits 4294967295).toArray⟩ : ByteArray) = ⟨#[52, 50, 57, 52, 57, 54, 55, 50, 57, 53]⟩ by decide +kernel] at h
  have H : Hid (Calls Tryz.prog 26 #[.int .u64 4294967295, .int .i64 10] w fun e w' => e = .returned (.string ⟨#[52, 50, 57, 52, 57, 54, 55, 50, 57, 53]⟩) ∧ Below w.heap.size w w') := h
  clear h ht
  go_enter Tryz.func16, Tryz.ntmps16
  go_wp2_with fail
  go_at_call 26
  refine H.out.mono ?_
  rintro e w1 ⟨rfl, hb⟩
  go_wp2
  go_ret
  exact ⟨rfl, hb⟩
theorem make0 (n : Nat) (hn : n ≤ 1) : ∃ C : Array Value, Hid (C.size = n) ∧ ∀ w : World, (Instr.makeSlice 49 (.int .i64 0) (.int .i64 n)).run Tryz.prog w = .ok (.slice (some ⟨w.heap.size, 0, none⟩) 0 n) (w.alloc (.cells C 9)) := by
  obtain ⟨i0, hi0, hy0, hy1, hy2⟩ := info_parts infoT
  refine ⟨madeCells (Value.string ⟨#[]⟩).cells (n * 1), Lib.hid (by rw [size_madeCells]; omega), fun w => ?_⟩
  have := run_makeSlice (P := Tryz.prog) w 49 9 i0 (.string ⟨#[]⟩) Tryz.underlying49 hi0 hy0 .i64 .i64 0 n (by omega) (by omega) (by rw [hy1]; simp; omega) (by rw [hy2]; omega) (by omega)
  rw [hy1] at this
  simpa using this
theorem texts_nil (w : World) (f : Value) : Calls Tryz.prog 15 #[.slice none 0 0, f] w fun e w' => ∃ p, e = .returned (.slice p 0 0) ∧ Below w.heap.size w w' := by
  obtain ⟨C, HC, hm⟩ := make0 0 (by omega)
  have hmk : ∀ w : World, (Instr.makeSlice 49 (.int .i64 0) (.int .i64 0)).run Tryz.prog w = .ok (.slice (some ⟨w.heap.size, 0, none⟩) 0 0) (w.alloc (.cells C 9)) := hm
  clear hm
  go_enter Tryz.func15, Tryz.ntmps15
  go_wp2
  refine wp_loop_rounds 1 ?_
  rw [rounds_succ]
  go_wp2
  go_ret
  exact ⟨_, rfl, (Below.refl _ _).alloc (Nat.le_refl _) _⟩
theorem texts_nil2 (w : World) (f : Value) : Calls Tryz.prog 17 #[.slice none 0 0, f] w fun e w' => ∃ p, e = .returned (.slice p 0 0) ∧ Below w.heap.size w w' := by
  obtain ⟨C, HC, hm⟩ := make0 0 (by omega)
  have hmk : ∀ w : World, (Instr.makeSlice 49 (.int .i64 0) (.int .i64 0)).run Tryz.prog w = .ok (.slice (some ⟨w.heap.size, 0, none⟩) 0 0) (w.alloc (.cells C 9)) := hm
  clear hm
  go_enter Tryz.func17, Tryz.ntmps17
  go_wp2
  refine wp_loop_rounds 1 ?_
  rw [rounds_succ]
  go_wp2
  go_ret
  exact ⟨_, rfl, (Below.refl _ _).alloc (Nat.le_refl _) _⟩
theorem texts_one (g : Nat) (w : World) (hc : w.cell? ⟨g, 0, none⟩ = some (.int .u32 4294967295)) (hg : g < w.heap.size) (ht : Tab10 w) : Calls Tryz.prog 15 #[.slice (some ⟨g, 0, none⟩) 1 1, .func (.func 16) #[] #[]] w fun e w' => ∃ h c cur, e = .returned (.slice (some ⟨h, 0, none⟩) 1 c) ∧ w'.heap[h]? = some (.cells cur 9 (0, 0)) ∧ cur[0]? = some (.string ⟨#[52, 50, 57, 52, 57, 54, 55, 50, 57, 53]⟩) ∧ Below w.heap.size w w' := by
  obtain ⟨C, HC, hm⟩ := make0 1 (by omega)
  have hmk : ∀ w : World, (Instr.makeSlice 49 (.int .i64 0) (.int .i64 1)).run Tryz.prog w = .ok (.slice (some ⟨w.heap.size, 0, none⟩) 0 1) (w.alloc (.cells C 9)) := hm
  have eg : ∀ args w, (callFunc 16 args).run Tryz.prog w = .ok (.enter 16 args) w := enters_of Tryz.func16 (by kernel_rfl) rfl
  obtain ⟨W1, hW1⟩ : ∃ X, w.alloc (.cells C 9) = X := ⟨_, rfl⟩
  have HB1 : Hid (Below w.heap.size w W1) := Lib.hid (by rw [← hW1]; exact (Below.refl _ _).alloc (Nat.le_refl _) _)
  have HO1 : Hid (W1.ownsRow w.heap.size 9 1 (.slice (some ⟨w.heap.size, 0, none⟩) 0 1) 0 []) := Lib.hid (by rw [← hW1]; exact ⟨by simp, .inr ⟨w.heap.size, 1, C, rfl, Nat.le_refl _, heap_new' _ _, by omega, by unfold maxLen; omega, by rw [HC.out], by simp⟩⟩)
  have hc1 : W1.cell? ⟨g, 0, none⟩ = some (.int .u32 4294967295) := (HB1.out.cell (p := ⟨g, 0, none⟩) hg).trans hc
  have HN := Lib.hid (ntext_is W1 (ht.on HB1.out))
  obtain ⟨i0, hi0, hz0, hz1, hz2⟩ := info_parts infoT
  clear hm hc ht
  go_enter Tryz.func15, Tryz.ntmps15
  go_wp2
  refine wp_loop_rounds 2 ?_
  rw [rounds_succ]
  go_wp2_with fail
  refine HN.out.mono ?_
  rintro e w2 ⟨rfl, hb2⟩
  have HO2 : Hid (w2.ownsRow w.heap.size 9 1 (.slice (some ⟨w.heap.size, 0, none⟩) 0 1) 0 []) := Lib.hid (by
    have := HO1.out
    rcases this.2 with ⟨e, _⟩ | ⟨k, cap, cur, e, h1, h2, h3⟩
    · cases e
    · exact ⟨this.1, .inr ⟨k, cap, cur, e, h1, (hb2.block k (Array.getElem?_eq_some_iff.1 h2).1).trans h2, h3⟩⟩)
  have HB2 := Lib.hid (Below.step HB1.out hb2)
  have hys : w.heap.size ≤ w2.heap.size := HB2.out.size
  clear hb2
  go_wp2_with (first
    | (at_builtin; refine wpList_append_own _ rfl _ _ 49 rfl w.heap.size 9 i0 (.string ⟨#[]⟩) 1 16 Tryz.underlying49 hi0 hz0 hz1 hz2 rfl (by decide) _ _ _ rfl (HO2.out.alloc _) ⟨w2.heap.size, 0, none⟩ 1 1 [.string ⟨#[52, 50, 57, 52, 57, 54, 55, 50, 57, 53]⟩] rfl rfl (cell_one_new _ _ _) (fun x hx => by simp at hx; rcases hx with rfl; rfl) (by unfold maxLen; omega) (by omega) (by simp <;> omega) ?_; intro v3 w3 hown3 hgr3 hnil3; have HO3 := Lib.hid hown3; have HB3 : Hid (Below w.heap.size w w3) := Lib.hid (Below.grown (HB2.out.alloc hys _) hgr3 (by simp <;> omega) (fun j hj => (HO2.out.lt _ hj).1)); clear hown3 hgr3 hnil3))
  rw [rounds_succ]
  go_wp2
  go_ret
  obtain ⟨h1, h2⟩ := HO3.out
  rcases h2 with ⟨_, h0⟩ | ⟨k, cap, cur, rfl, hb, hk, hnc, hcm, hcs, htk⟩
  · omega
  · refine ⟨k, cap, cur, rfl, hk, ?_, HB3.out⟩
    have e : (cur.toList.take 1)[0]? = some (.string ⟨#[52, 50, 57, 52, 57, 54, 55, 50, 57, 53]⟩) := by
      have htk' : cur.toList.take 1 = [.string ⟨#[52, 50, 57, 52, 57, 54, 55, 50, 57, 53]⟩] := htk
      rw [htk']; rfl
    rw [List.getElem?_take, if_pos (by omega)] at e
    rw [← Array.getElem?_toList]; exact e
theorem rdi {l : List Int} {n : Nat} (W : World) (hn : n = l.length) (hl : l.length ≤ 1000) : RdK encI 1 (W.alloc (.cells (l.map (Value.int .i64)).toArray 3)) (.slice (some ⟨W.heap.size, 0, none⟩) n n) l := by
  subst hn
  refine ⟨_, _, rfl, Nat.le_refl _, by unfold maxLen; omega, fun _ => ⟨W.heap.size, 0, rfl, by simp, fun i s hs j u hu => ?_⟩⟩
  match j, hu with
  | 0, hu =>
    simp [encI] at hu; subst hu
    rw [show (0 + i * 1 + 0) = i by omega]
    have h := heap_new' W (.cells (l.map (Value.int .i64)).toArray 3)
    simp only [World.cell?, h]
    simp [hs]
  | j + 1, hu => simp [encI] at hu
theorem ck0 : ck 0 0 = 0 := by decide +kernel
theorem ckz (w : World) : Calls Tryz.prog 21 #[.agg #[.int .u32 0, .int .i64 0]] w fun e w' => e = .returned (.int .i64 0) ∧ Below w.heap.size w w' := by
  have := check_is 0 0 w (by omega) (by omega)
  rw [ck0] at this
  exact this
set_option maxHeartbeats 2000000 in
theorem may_a (w : World) : Calls Tryz.prog 8 #[.agg #[.int .u32 0, .int .i64 0, .int .u8 8, .int .i64 2147483647, .int .i64 2147483647, .int .i64 2147483647, .string ⟨#[97]⟩, .int .u32 0, .bool false]] w fun e w' => e = .returned (.bool true) ∧ Below w.heap.size w w' := by
  obtain ⟨W1, hW1⟩ : ∃ X, w.alloc (.cells #[.int .u32 0, .int .i64 0, .int .u8 8, .int .i64 2147483647, .int .i64 2147483647, .int .i64 2147483647, .string ⟨#[97]⟩, .int .u32 0, .bool false] 27) = X := ⟨_, rfl⟩
  have HB1 : Hid (Below w.heap.size w W1) := Lib.hid (by rw [← hW1]; exact (Below.refl _ _).alloc (Nat.le_refl _) _)
  have HX1 : Hid (W1.heap[w.heap.size]? = some (.cells #[.int .u32 0, .int .i64 0, .int .u8 8, .int .i64 2147483647, .int .i64 2147483647, .int .i64 2147483647, .string ⟨#[97]⟩, .int .u32 0, .bool false] 27 (0, 0))) := Lib.hid (by rw [← hW1]; exact heap_new' _ _)
  have HZ1 : Hid (w.heap.size < W1.heap.size) := Lib.hid (Array.getElem?_eq_some_iff.1 HX1.out).1
  have HCE : Hid (∀ W, Below W1.heap.size W1 W → W.cell? ⟨w.heap.size, 0, none⟩ = some (.int .u32 0) ∧ W.cell? ⟨w.heap.size, 1, none⟩ = some (.int .i64 0) ∧ W.cell? ⟨w.heap.size, 2, none⟩ = some (.int .u8 8) ∧ W.cell? ⟨w.heap.size, 3, none⟩ = some (.int .i64 2147483647) ∧ W.cell? ⟨w.heap.size, 4, none⟩ = some (.int .i64 2147483647) ∧ W.cell? ⟨w.heap.size, 5, none⟩ = some (.int .i64 2147483647) ∧ W.cell? ⟨w.heap.size, 6, none⟩ = some (.string ⟨#[97]⟩) ∧ W.cell? ⟨w.heap.size, 7, none⟩ = some (.int .u32 0) ∧ W.cell? ⟨w.heap.size, 8, none⟩ = some (.bool false)) := Lib.hid fun W hb => by
    have e := (hb.block w.heap.size HZ1.out).trans HX1.out
    refine ⟨?_, ?_, ?_, ?_, ?_, ?_, ?_, ?_, ?_⟩ <;> (simp only [World.cell?, e]; rfl)
  obtain ⟨x0, x1, x2, x3, x4, x5, x6, x7, x8⟩ := HCE.out W1 (Below.refl _ _)
  go_enter Tryz.func8, Tryz.ntmps8
  go_wp2_with fail
  go_at_call 21
  refine (ckz _).mono ?_
  rintro e w2 ⟨rfl, hb2⟩
  have HB2 := Lib.hid hb2
  clear hb2 x0 x1 x2 x3 x4 x5 x6 x7 x8
  obtain ⟨x0, x1, x2, x3, x4, x5, x6, x7, x8⟩ := HCE.out w2 HB2.out
  go_wp2_with fail
  go_at_call 22
  have hn2 := nums_is (0) [2147483647, 2147483647, 2147483647] _ _ (rdi w2 (n := 3) rfl (by simp))
  rw [show ([2147483647, 2147483647, 2147483647] : List Int).all (okN (0)) = true by decide] at hn2
  refine hn2.mono ?_
  rintro e w3 ⟨rfl, hb3⟩
  have HB3 := Lib.hid (Below.step (HB2.out.alloc HB2.out.size _) hb3)
  clear hb3 hn2 x0 x1 x2 x3 x4 x5 x6 x7 x8
  obtain ⟨x0, x1, x2, x3, x4, x5, x6, x7, x8⟩ := HCE.out w3 HB3.out
  go_wp2_with fail
  go_at_call 23
  refine (name_a _).mono ?_
  rintro e w4 ⟨rfl, hb4⟩
  have HB4 := Lib.hid (Below.step HB3.out hb4)
  clear hb4 x0 x1 x2 x3 x4 x5 x6 x7 x8
  obtain ⟨x0, x1, x2, x3, x4, x5, x6, x7, x8⟩ := HCE.out w4 HB4.out
  go_wp2
  go_ret
  exact ⟨rfl, HB1.out.trans (HB4.out.mono HB1.out.size)⟩
set_option maxHeartbeats 2000000 in
theorem may_b (w : World) : Calls Tryz.prog 8 #[.agg #[.int .u32 0, .int .i64 0, .int .u8 8, .int .i64 2147483647, .int .i64 2147483647, .int .i64 2147483648, .string ⟨#[97]⟩, .int .u32 0, .bool false]] w fun e w' => e = .returned (.bool false) ∧ Below w.heap.size w w' := by
  obtain ⟨W1, hW1⟩ : ∃ X, w.alloc (.cells #[.int .u32 0, .int .i64 0, .int .u8 8, .int .i64 2147483647, .int .i64 2147483647, .int .i64 2147483648, .string ⟨#[97]⟩, .int .u32 0, .bool false] 27) = X := ⟨_, rfl⟩
  have HB1 : Hid (Below w.heap.size w W1) := Lib.hid (by rw [← hW1]; exact (Below.refl _ _).alloc (Nat.le_refl _) _)
  have HX1 : Hid (W1.heap[w.heap.size]? = some (.cells #[.int .u32 0, .int .i64 0, .int .u8 8, .int .i64 2147483647, .int .i64 2147483647, .int .i64 2147483648, .string ⟨#[97]⟩, .int .u32 0, .bool false] 27 (0, 0))) := Lib.hid (by rw [← hW1]; exact heap_new' _ _)
  have HZ1 : Hid (w.heap.size < W1.heap.size) := Lib.hid (Array.getElem?_eq_some_iff.1 HX1.out).1
  have HCE : Hid (∀ W, Below W1.heap.size W1 W → W.cell? ⟨w.heap.size, 0, none⟩ = some (.int .u32 0) ∧ W.cell? ⟨w.heap.size, 1, none⟩ = some (.int .i64 0) ∧ W.cell? ⟨w.heap.size, 2, none⟩ = some (.int .u8 8) ∧ W.cell? ⟨w.heap.size, 3, none⟩ = some (.int .i64 2147483647) ∧ W.cell? ⟨w.heap.size, 4, none⟩ = some (.int .i64 2147483647) ∧ W.cell? ⟨w.heap.size, 5, none⟩ = some (.int .i64 2147483648) ∧ W.cell? ⟨w.heap.size, 6, none⟩ = some (.string ⟨#[97]⟩) ∧ W.cell? ⟨w.heap.size, 7, none⟩ = some (.int .u32 0) ∧ W.cell? ⟨w.heap.size, 8, none⟩ = some (.bool false)) := Lib.hid fun W hb => by
    have e := (hb.block w.heap.size HZ1.out).trans HX1.out
    refine ⟨?_, ?_, ?_, ?_, ?_, ?_, ?_, ?_, ?_⟩ <;> (simp only [World.cell?, e]; rfl)
  obtain ⟨x0, x1, x2, x3, x4, x5, x6, x7, x8⟩ := HCE.out W1 (Below.refl _ _)
  go_enter Tryz.func8, Tryz.ntmps8
  go_wp2_with fail
  go_at_call 21
  refine (ckz _).mono ?_
  rintro e w2 ⟨rfl, hb2⟩
  have HB2 := Lib.hid hb2
  clear hb2 x0 x1 x2 x3 x4 x5 x6 x7 x8
  obtain ⟨x0, x1, x2, x3, x4, x5, x6, x7, x8⟩ := HCE.out w2 HB2.out
  go_wp2_with fail
  go_at_call 22
  have hn2 := nums_is (0) [2147483647, 2147483647, 2147483648] _ _ (rdi w2 (n := 3) rfl (by simp))
  rw [show ([2147483647, 2147483647, 2147483648] : List Int).all (okN (0)) = false by decide] at hn2
  refine hn2.mono ?_
  rintro e w3 ⟨rfl, hb3⟩
  have HB3 := Lib.hid (Below.step (HB2.out.alloc HB2.out.size _) hb3)
  clear hb3 hn2 x0 x1 x2 x3 x4 x5 x6 x7 x8
  obtain ⟨x0, x1, x2, x3, x4, x5, x6, x7, x8⟩ := HCE.out w3 HB3.out
  go_wp2
  go_ret
  exact ⟨rfl, HB1.out.trans (HB3.out.mono HB1.out.size)⟩
set_option maxHeartbeats 2000000 in
theorem may_c (w : World) : Calls Tryz.prog 8 #[.agg #[.int .u32 0, .int .i64 0, .int .u8 9, .int .i64 0, .int .i64 0, .int .i64 0, .string ⟨#[]⟩, .int .u32 0, .bool false]] w fun e w' => e = .returned (.bool false) ∧ Below w.heap.size w w' := by
  obtain ⟨W1, hW1⟩ : ∃ X, w.alloc (.cells #[.int .u32 0, .int .i64 0, .int .u8 9, .int .i64 0, .int .i64 0, .int .i64 0, .string ⟨#[]⟩, .int .u32 0, .bool false] 27) = X := ⟨_, rfl⟩
  have HB1 : Hid (Below w.heap.size w W1) := Lib.hid (by rw [← hW1]; exact (Below.refl _ _).alloc (Nat.le_refl _) _)
  have HX1 : Hid (W1.heap[w.heap.size]? = some (.cells #[.int .u32 0, .int .i64 0, .int .u8 9, .int .i64 0, .int .i64 0, .int .i64 0, .string ⟨#[]⟩, .int .u32 0, .bool false] 27 (0, 0))) := Lib.hid (by rw [← hW1]; exact heap_new' _ _)
  have HZ1 : Hid (w.heap.size < W1.heap.size) := Lib.hid (Array.getElem?_eq_some_iff.1 HX1.out).1
  have HCE : Hid (∀ W, Below W1.heap.size W1 W → W.cell? ⟨w.heap.size, 0, none⟩ = some (.int .u32 0) ∧ W.cell? ⟨w.heap.size, 1, none⟩ = some (.int .i64 0) ∧ W.cell? ⟨w.heap.size, 2, none⟩ = some (.int .u8 9) ∧ W.cell? ⟨w.heap.size, 3, none⟩ = some (.int .i64 0) ∧ W.cell? ⟨w.heap.size, 4, none⟩ = some (.int .i64 0) ∧ W.cell? ⟨w.heap.size, 5, none⟩ = some (.int .i64 0) ∧ W.cell? ⟨w.heap.size, 6, none⟩ = some (.string ⟨#[]⟩) ∧ W.cell? ⟨w.heap.size, 7, none⟩ = some (.int .u32 0) ∧ W.cell? ⟨w.heap.size, 8, none⟩ = some (.bool false)) := Lib.hid fun W hb => by
    have e := (hb.block w.heap.size HZ1.out).trans HX1.out
    refine ⟨?_, ?_, ?_, ?_, ?_, ?_, ?_, ?_, ?_⟩ <;> (simp only [World.cell?, e]; rfl)
  obtain ⟨x0, x1, x2, x3, x4, x5, x6, x7, x8⟩ := HCE.out W1 (Below.refl _ _)
  go_enter Tryz.func8, Tryz.ntmps8
  go_wp2_with fail
  go_at_call 21
  refine (ckz _).mono ?_
  rintro e w2 ⟨rfl, hb2⟩
  have HB2 := Lib.hid hb2
  clear hb2 x0 x1 x2 x3 x4 x5 x6 x7 x8
  obtain ⟨x0, x1, x2, x3, x4, x5, x6, x7, x8⟩ := HCE.out w2 HB2.out
  go_wp2
  go_ret
  exact ⟨rfl, HB1.out.trans (HB2.out.mono HB1.out.size)⟩
set_option maxHeartbeats 2000000 in
theorem may_d (w : World) : Calls Tryz.prog 8 #[.agg #[.int .u32 0, .int .i64 0, .int .u8 1, .int .i64 0, .int .i64 0, .int .i64 0, .string ⟨#[49]⟩, .int .u32 0, .bool false]] w fun e w' => e = .returned (.bool false) ∧ Below w.heap.size w w' := by
  obtain ⟨W1, hW1⟩ : ∃ X, w.alloc (.cells #[.int .u32 0, .int .i64 0, .int .u8 1, .int .i64 0, .int .i64 0, .int .i64 0, .string ⟨#[49]⟩, .int .u32 0, .bool false] 27) = X := ⟨_, rfl⟩
  have HB1 : Hid (Below w.heap.size w W1) := Lib.hid (by rw [← hW1]; exact (Below.refl _ _).alloc (Nat.le_refl _) _)
  have HX1 : Hid (W1.heap[w.heap.size]? = some (.cells #[.int .u32 0, .int .i64 0, .int .u8 1, .int .i64 0, .int .i64 0, .int .i64 0, .string ⟨#[49]⟩, .int .u32 0, .bool false] 27 (0, 0))) := Lib.hid (by rw [← hW1]; exact heap_new' _ _)
  have HZ1 : Hid (w.heap.size < W1.heap.size) := Lib.hid (Array.getElem?_eq_some_iff.1 HX1.out).1
  have HCE : Hid (∀ W, Below W1.heap.size W1 W → W.cell? ⟨w.heap.size, 0, none⟩ = some (.int .u32 0) ∧ W.cell? ⟨w.heap.size, 1, none⟩ = some (.int .i64 0) ∧ W.cell? ⟨w.heap.size, 2, none⟩ = some (.int .u8 1) ∧ W.cell? ⟨w.heap.size, 3, none⟩ = some (.int .i64 0) ∧ W.cell? ⟨w.heap.size, 4, none⟩ = some (.int .i64 0) ∧ W.cell? ⟨w.heap.size, 5, none⟩ = some (.int .i64 0) ∧ W.cell? ⟨w.heap.size, 6, none⟩ = some (.string ⟨#[49]⟩) ∧ W.cell? ⟨w.heap.size, 7, none⟩ = some (.int .u32 0) ∧ W.cell? ⟨w.heap.size, 8, none⟩ = some (.bool false)) := Lib.hid fun W hb => by
    have e := (hb.block w.heap.size HZ1.out).trans HX1.out
    refine ⟨?_, ?_, ?_, ?_, ?_, ?_, ?_, ?_, ?_⟩ <;> (simp only [World.cell?, e]; rfl)
  obtain ⟨x0, x1, x2, x3, x4, x5, x6, x7, x8⟩ := HCE.out W1 (Below.refl _ _)
  go_enter Tryz.func8, Tryz.ntmps8
  go_wp2_with fail
  go_at_call 21
  refine (ckz _).mono ?_
  rintro e w2 ⟨rfl, hb2⟩
  have HB2 := Lib.hid hb2
  clear hb2 x0 x1 x2 x3 x4 x5 x6 x7 x8
  obtain ⟨x0, x1, x2, x3, x4, x5, x6, x7, x8⟩ := HCE.out w2 HB2.out
  go_wp2_with fail
  go_at_call 22
  have hn2 := nums_is (0) [0, 0, 0] _ _ (rdi w2 (n := 3) rfl (by simp))
  rw [show ([0, 0, 0] : List Int).all (okN (0)) = true by decide] at hn2
  refine hn2.mono ?_
  rintro e w3 ⟨rfl, hb3⟩
  have HB3 := Lib.hid (Below.step (HB2.out.alloc HB2.out.size _) hb3)
  clear hb3 hn2 x0 x1 x2 x3 x4 x5 x6 x7 x8
  obtain ⟨x0, x1, x2, x3, x4, x5, x6, x7, x8⟩ := HCE.out w3 HB3.out
  go_wp2_with fail
  go_at_call 23
  refine (name_1 _).mono ?_
  rintro e w4 ⟨rfl, hb4⟩
  have HB4 := Lib.hid (Below.step HB3.out hb4)
  clear hb4 x0 x1 x2 x3 x4 x5 x6 x7 x8
  obtain ⟨x0, x1, x2, x3, x4, x5, x6, x7, x8⟩ := HCE.out w4 HB4.out
  go_wp2
  go_ret
  exact ⟨rfl, HB1.out.trans (HB4.out.mono HB1.out.size)⟩
set_option maxHeartbeats 2000000 in
theorem amay_a (p : Option Addr) (n c : Nat) (w : World) : Calls Tryz.prog 13 #[.agg #[.int .u32 0, .int .i64 0, .int .u32 0, .int .i64 0, .int .i64 0, .slice p n c, .slice none 0 0, .int .u32 0, .int .u32 0, .bool false, .int .u32 0, .slice none 0 0, .int .i64 (-1)]] w fun e w' => e = .returned (.bool true) ∧ Below w.heap.size w w' := by
  obtain ⟨W1, hW1⟩ : ∃ X, w.alloc (.cells #[.int .u32 0, .int .i64 0, .int .u32 0, .int .i64 0, .int .i64 0, .slice p n c, .slice none 0 0, .int .u32 0, .int .u32 0, .bool false, .int .u32 0, .slice none 0 0, .int .i64 (-1)] 35) = X := ⟨_, rfl⟩
  have HB1 : Hid (Below w.heap.size w W1) := Lib.hid (by rw [← hW1]; exact (Below.refl _ _).alloc (Nat.le_refl _) _)
  have HX1 : Hid (W1.heap[w.heap.size]? = some (.cells #[.int .u32 0, .int .i64 0, .int .u32 0, .int .i64 0, .int .i64 0, .slice p n c, .slice none 0 0, .int .u32 0, .int .u32 0, .bool false, .int .u32 0, .slice none 0 0, .int .i64 (-1)] 35 (0, 0))) := Lib.hid (by rw [← hW1]; exact heap_new' _ _)
  have HZ1 : Hid (w.heap.size < W1.heap.size) := Lib.hid (Array.getElem?_eq_some_iff.1 HX1.out).1
  have HCE : Hid (∀ W, Below W1.heap.size W1 W → W.cell? ⟨w.heap.size, 0, none⟩ = some (.int .u32 0) ∧ W.cell? ⟨w.heap.size, 1, none⟩ = some (.int .i64 0) ∧ W.cell? ⟨w.heap.size, 2, none⟩ = some (.int .u32 0) ∧ W.cell? ⟨w.heap.size, 3, none⟩ = some (.int .i64 0) ∧ W.cell? ⟨w.heap.size, 4, none⟩ = some (.int .i64 0) ∧ W.cell? ⟨w.heap.size, 5, none⟩ = some (.slice p n c) ∧ W.cell? ⟨w.heap.size, 6, none⟩ = some (.slice none 0 0) ∧ W.cell? ⟨w.heap.size, 7, none⟩ = some (.int .u32 0) ∧ W.cell? ⟨w.heap.size, 8, none⟩ = some (.int .u32 0) ∧ W.cell? ⟨w.heap.size, 9, none⟩ = some (.bool false) ∧ W.cell? ⟨w.heap.size, 10, none⟩ = some (.int .u32 0) ∧ W.cell? ⟨w.heap.size, 11, none⟩ = some (.slice none 0 0) ∧ W.cell? ⟨w.heap.size, 12, none⟩ = some (.int .i64 (-1))) := Lib.hid fun W hb => by
    have e := (hb.block w.heap.size HZ1.out).trans HX1.out
    refine ⟨?_, ?_, ?_, ?_, ?_, ?_, ?_, ?_, ?_, ?_, ?_, ?_, ?_⟩ <;> (simp only [World.cell?, e]; rfl)
  obtain ⟨x0, x1, x2, x3, x4, x5, x6, x7, x8, x9, x10, x11, x12⟩ := HCE.out W1 (Below.refl _ _)
  go_enter Tryz.func13, Tryz.ntmps13
  go_wp2_with fail
  go_at_call 21
  refine (ckz _).mono ?_
  rintro e w2 ⟨rfl, hb2⟩
  have HB2 := Lib.hid hb2
  clear hb2 x0 x1 x2 x3 x4 x5 x6 x7 x8 x9 x10 x11 x12
  obtain ⟨x0, x1, x2, x3, x4, x5, x6, x7, x8, x9, x10, x11, x12⟩ := HCE.out w2 HB2.out
  go_wp2_with fail
  go_at_call 22
  have hn2 := nums_is (0) [0, 0] _ _ (rdi w2 (n := 2) rfl (by simp))
  rw [show ([0, 0] : List Int).all (okN (0)) = true by decide] at hn2
  refine hn2.mono ?_
  rintro e w3 ⟨rfl, hb3⟩
  have HB3 := Lib.hid (Below.step (HB2.out.alloc HB2.out.size _) hb3)
  clear hb3 hn2 x0 x1 x2 x3 x4 x5 x6 x7 x8 x9 x10 x11 x12
  obtain ⟨x0, x1, x2, x3, x4, x5, x6, x7, x8, x9, x10, x11, x12⟩ := HCE.out w3 HB3.out
  go_wp2_with fail
  go_at_call 22
  have hn3 := nums_is (-1) [-1] _ _ (rdi w3 (n := 1) rfl (by simp))
  rw [show ([-1] : List Int).all (okN (-1)) = true by decide] at hn3
  refine hn3.mono ?_
  rintro e w4 ⟨rfl, hb4⟩
  have HB4 := Lib.hid (Below.step (HB3.out.alloc HB3.out.size _) hb4)
  clear hb4 hn3 x0 x1 x2 x3 x4 x5 x6 x7 x8 x9 x10 x11 x12
  obtain ⟨x0, x1, x2, x3, x4, x5, x6, x7, x8, x9, x10, x11, x12⟩ := HCE.out w4 HB4.out
  go_wp2
  go_ret
  exact ⟨rfl, HB1.out.trans (HB4.out.mono HB1.out.size)⟩
set_option maxHeartbeats 2000000 in
theorem amay_b (w : World) : Calls Tryz.prog 13 #[.agg #[.int .u32 0, .int .i64 0, .int .u32 0, .int .i64 0, .int .i64 0, .slice none 0 0, .slice none 0 0, .int .u32 0, .int .u32 0, .bool false, .int .u32 0, .slice none 0 0, .int .i64 (-2)]] w fun e w' => e = .returned (.bool false) ∧ Below w.heap.size w w' := by
  obtain ⟨W1, hW1⟩ : ∃ X, w.alloc (.cells #[.int .u32 0, .int .i64 0, .int .u32 0, .int .i64 0, .int .i64 0, .slice none 0 0, .slice none 0 0, .int .u32 0, .int .u32 0, .bool false, .int .u32 0, .slice none 0 0, .int .i64 (-2)] 35) = X := ⟨_, rfl⟩
  have HB1 : Hid (Below w.heap.size w W1) := Lib.hid (by rw [← hW1]; exact (Below.refl _ _).alloc (Nat.le_refl _) _)
  have HX1 : Hid (W1.heap[w.heap.size]? = some (.cells #[.int .u32 0, .int .i64 0, .int .u32 0, .int .i64 0, .int .i64 0, .slice none 0 0, .slice none 0 0, .int .u32 0, .int .u32 0, .bool false, .int .u32 0, .slice none 0 0, .int .i64 (-2)] 35 (0, 0))) := Lib.hid (by rw [← hW1]; exact heap_new' _ _)
  have HZ1 : Hid (w.heap.size < W1.heap.size) := Lib.hid (Array.getElem?_eq_some_iff.1 HX1.out).1
  have HCE : Hid (∀ W, Below W1.heap.size W1 W → W.cell? ⟨w.heap.size, 0, none⟩ = some (.int .u32 0) ∧ W.cell? ⟨w.heap.size, 1, none⟩ = some (.int .i64 0) ∧ W.cell? ⟨w.heap.size, 2, none⟩ = some (.int .u32 0) ∧ W.cell? ⟨w.heap.size, 3, none⟩ = some (.int .i64 0) ∧ W.cell? ⟨w.heap.size, 4, none⟩ = some (.int .i64 0) ∧ W.cell? ⟨w.heap.size, 5, none⟩ = some (.slice none 0 0) ∧ W.cell? ⟨w.heap.size, 6, none⟩ = some (.slice none 0 0) ∧ W.cell? ⟨w.heap.size, 7, none⟩ = some (.int .u32 0) ∧ W.cell? ⟨w.heap.size, 8, none⟩ = some (.int .u32 0) ∧ W.cell? ⟨w.heap.size, 9, none⟩ = some (.bool false) ∧ W.cell? ⟨w.heap.size, 10, none⟩ = some (.int .u32 0) ∧ W.cell? ⟨w.heap.size, 11, none⟩ = some (.slice none 0 0) ∧ W.cell? ⟨w.heap.size, 12, none⟩ = some (.int .i64 (-2))) := Lib.hid fun W hb => by
    have e := (hb.block w.heap.size HZ1.out).trans HX1.out
    refine ⟨?_, ?_, ?_, ?_, ?_, ?_, ?_, ?_, ?_, ?_, ?_, ?_, ?_⟩ <;> (simp only [World.cell?, e]; rfl)
  obtain ⟨x0, x1, x2, x3, x4, x5, x6, x7, x8, x9, x10, x11, x12⟩ := HCE.out W1 (Below.refl _ _)
  go_enter Tryz.func13, Tryz.ntmps13
  go_wp2_with fail
  go_at_call 21
  refine (ckz _).mono ?_
  rintro e w2 ⟨rfl, hb2⟩
  have HB2 := Lib.hid hb2
  clear hb2 x0 x1 x2 x3 x4 x5 x6 x7 x8 x9 x10 x11 x12
  obtain ⟨x0, x1, x2, x3, x4, x5, x6, x7, x8, x9, x10, x11, x12⟩ := HCE.out w2 HB2.out
  go_wp2_with fail
  go_at_call 22
  have hn2 := nums_is (0) [0, 0] _ _ (rdi w2 (n := 2) rfl (by simp))
  rw [show ([0, 0] : List Int).all (okN (0)) = true by decide] at hn2
  refine hn2.mono ?_
  rintro e w3 ⟨rfl, hb3⟩
  have HB3 := Lib.hid (Below.step (HB2.out.alloc HB2.out.size _) hb3)
  clear hb3 hn2 x0 x1 x2 x3 x4 x5 x6 x7 x8 x9 x10 x11 x12
  obtain ⟨x0, x1, x2, x3, x4, x5, x6, x7, x8, x9, x10, x11, x12⟩ := HCE.out w3 HB3.out
  go_wp2_with fail
  go_at_call 22
  have hn3 := nums_is (-1) [-2] _ _ (rdi w3 (n := 1) rfl (by simp))
  rw [show ([-2] : List Int).all (okN (-1)) = false by decide] at hn3
  refine hn3.mono ?_
  rintro e w4 ⟨rfl, hb4⟩
  have HB4 := Lib.hid (Below.step (HB3.out.alloc HB3.out.size _) hb4)
  clear hb4 hn3 x0 x1 x2 x3 x4 x5 x6 x7 x8 x9 x10 x11 x12
  obtain ⟨x0, x1, x2, x3, x4, x5, x6, x7, x8, x9, x10, x11, x12⟩ := HCE.out w4 HB4.out
  go_wp2
  go_ret
  exact ⟨rfl, HB1.out.trans (HB4.out.mono HB1.out.size)⟩
end Go.Proofs.YtdladbdcpnkggaaGreatDoor
