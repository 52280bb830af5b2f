/- PolicyNames answers true: no name, a name that stands for nothing, a policy without clauses. No condition. -/
import Derived.Test.YtolnpggofocjkaaPnG
namespace Go.Proofs.Ytolnpggofocjkaa
open Go.RowKit
theorem RdK.one (w : World) (g : Nat) (h : w.heap[g]? = some (.cells #[.int .u32 1] 23 (0, 0))) : RdK encU 1 w (.slice (some ⟨g, 0, none⟩) 1 1) [1] :=
  ⟨some ⟨g, 0, none⟩, 1, rfl, Nat.le_refl _, by unfold maxLen; omega, fun _ => ⟨g, 0, rfl, (Array.getElem?_eq_some_iff.1 h).1, fun i s hs j u hu => by
    match i, hs with
    | 0, hs =>
      simp at hs; subst hs
      match j, hu with
      | 0, hu => simp [encU] at hu; subst hu; exact cell_heap h
      | j + 1, hu => simp [encU] at hu
    | i + 1, hs => simp at hs⟩⟩
set_option maxRecDepth 100000 in
set_option maxHeartbeats 4000000 in
theorem law_is (w : World) : Calls Try.prog 4 #[] w fun e w' => e = .returned (.bool true) ∧ Below w.heap.size w w' := by
  obtain ⟨A1, hA1⟩ : ∃ X, w.alloc (.cells #[.int .u32 1] 23) = X := ⟨_, rfl⟩
  have BWA1 : Hid (Below w.heap.size w A1) := Lib.hid (by rw [← hA1]; exact (Below.refl _ _).alloc (Nat.le_refl _) _)
  have PHA1 : Hid (A1.heap[w.heap.size]? = some (.cells #[.int .u32 1] 23 (0, 0))) := Lib.hid (heap_alc hA1)
  obtain ⟨A2, hA2⟩ : ∃ X, A1.alloc (.cells (subV 0 0 0 0 0 (.slice none 0 0) (.slice none 0 0) 0) 36) = X := ⟨_, rfl⟩
  obtain ⟨A3, hA3⟩ : ∃ X, ((((((((A2.setCell ⟨A1.heap.size, 0, none⟩ (.int .u32 0)).setCell ⟨A1.heap.size, 1, none⟩ (.int .i64 0)).setCell ⟨A1.heap.size, 2, none⟩ (.int .i64 5)).setCell ⟨A1.heap.size, 3, none⟩ (.int .i64 0)).setCell ⟨A1.heap.size, 4, none⟩ (.int .i64 0)).setCell ⟨A1.heap.size, 5, none⟩ (.slice (some ⟨w.heap.size, 0, none⟩) 1 1)).setCell ⟨A1.heap.size, 6, none⟩ (.slice none 0 0)).setCell ⟨A1.heap.size, 7, none⟩ (.int .u32 0)) = X := ⟨_, rfl⟩
  obtain ⟨SVA3, HbA3, zA3, HzA3⟩ := box8 hA2 hA3
  obtain ⟨zA3_0, zA3_1, zA3_2, zA3_3, zA3_4, zA3_5, zA3_6, zA3_7⟩ : A2.cell? ⟨A1.heap.size, 0, none⟩ = some (.int .u32 0) ∧ A2.cell? ⟨A1.heap.size, 1, none⟩ = some (.int .i64 0) ∧ A2.cell? ⟨A1.heap.size, 2, none⟩ = some (.int .i64 0) ∧ A2.cell? ⟨A1.heap.size, 3, none⟩ = some (.int .i64 0) ∧ A2.cell? ⟨A1.heap.size, 4, none⟩ = some (.int .i64 0) ∧ A2.cell? ⟨A1.heap.size, 5, none⟩ = some (.slice none 0 0) ∧ A2.cell? ⟨A1.heap.size, 6, none⟩ = some (.slice none 0 0) ∧ A2.cell? ⟨A1.heap.size, 7, none⟩ = some (.int .u32 0) := ⟨cell_heap HzA3.out, cell_heap HzA3.out, cell_heap HzA3.out, cell_heap HzA3.out, cell_heap HzA3.out, cell_heap HzA3.out, cell_heap HzA3.out, cell_heap HzA3.out⟩
  have fzA3 : ∀ o, A2.frozen? ⟨A1.heap.size, o, none⟩ = false := fun o => frozen_heap HzA3.out
  have PHA3 : Hid (A3.heap[w.heap.size]? = some (.cells #[.int .u32 1] 23 (0, 0))) := Lib.hid (carryH PHA1.out HbA3.out)
  have BWA3 : Hid (Below w.heap.size w A3) := Lib.hid (Below.step BWA1.out HbA3.out)
  have RP : Hid (RdK encU 1 A3 (.slice (some ⟨w.heap.size, 0, none⟩) 1 1) [1]) := Lib.hid (RdK.one A3 w.heap.size PHA3.out)
  obtain ⟨s3_0, s3_1, s3_2, s3_3, s3_4, s3_5, s3_6, s3_7⟩ : A3.cell? ⟨A1.heap.size, 0, none⟩ = some (.int .u32 0) ∧ A3.cell? ⟨A1.heap.size, 1, none⟩ = some (.int .i64 0) ∧ A3.cell? ⟨A1.heap.size, 2, none⟩ = some (.int .i64 5) ∧ A3.cell? ⟨A1.heap.size, 3, none⟩ = some (.int .i64 0) ∧ A3.cell? ⟨A1.heap.size, 4, none⟩ = some (.int .i64 0) ∧ A3.cell? ⟨A1.heap.size, 5, none⟩ = some (.slice (some ⟨w.heap.size, 0, none⟩) 1 1) ∧ A3.cell? ⟨A1.heap.size, 6, none⟩ = some (.slice none 0 0) ∧ A3.cell? ⟨A1.heap.size, 7, none⟩ = some (.int .u32 0) := ⟨cell_heap SVA3.out, cell_heap SVA3.out, cell_heap SVA3.out, cell_heap SVA3.out, cell_heap SVA3.out, cell_heap SVA3.out, cell_heap SVA3.out, cell_heap SVA3.out⟩
  have C1 := Lib.hid (apply_ok (.slice none 0 0) ⟨#[]⟩ ⟨#[]⟩ 0 0 5 0 0 0 (some ⟨w.heap.size, 0, none⟩) none 1 1 0 0 A3 (fun W _ => named_0 W) [1] [] RP.out (RdK.nil _) (by simp))
  go_enter Try.func4, Try.ntmps4
  go_wp2_with fail
  go_at_call 12
  (with_reducible refine C1.out.mono ?_)
  rintro e A4 ⟨va, vb, rfl, ho1, ho2, hbA4⟩
  obtain ⟨ap, ac, rfl⟩ := own_sl ho1
  obtain ⟨aq, ad, rfl⟩ := own_sl ho2
  simp only [List.length_cons, List.length_nil, Nat.zero_add] at ho1 ho2
  have HbA4 := Lib.hid hbA4
  clear hbA4
  have PHA4 : Hid (A4.heap[w.heap.size]? = some (.cells #[.int .u32 1] 23 (0, 0))) := Lib.hid (carryH PHA3.out HbA4.out)
  have SVA4 : Hid (A4.heap[A1.heap.size]? = some (.cells (subV 0 0 5 0 0 (.slice (some ⟨w.heap.size, 0, none⟩) 1 1) (.slice none 0 0) 0) 36 (0, 0))) := Lib.hid (carryH SVA3.out HbA4.out)
  have BWA4 : Hid (Below w.heap.size w A4) := Lib.hid (Below.step BWA3.out HbA4.out)
  have RAA4 : Hid (RdK encU 1 A4 (.slice ap 1 ac) [1]) := Lib.hid (RdK.of_own encU_len ho1)
  have RBA4 : Hid (RdK encU 1 A4 (.slice aq 0 ad) []) := Lib.hid (RdK.of_own encU_len ho2)
  clear ho1 ho2
  obtain ⟨A5, hA5⟩ : ∃ X, A4.alloc (.cells (subV 0 0 0 0 0 (.slice none 0 0) (.slice none 0 0) 0) 36) = X := ⟨_, rfl⟩
  obtain ⟨A6, hA6⟩ : ∃ X, ((((((((A5.setCell ⟨A4.heap.size, 0, none⟩ (.int .u32 0)).setCell ⟨A4.heap.size, 1, none⟩ (.int .i64 0)).setCell ⟨A4.heap.size, 2, none⟩ (.int .i64 5)).setCell ⟨A4.heap.size, 3, none⟩ (.int .i64 0)).setCell ⟨A4.heap.size, 4, none⟩ (.int .i64 0)).setCell ⟨A4.heap.size, 5, none⟩ (.slice ap 1 ac)).setCell ⟨A4.heap.size, 6, none⟩ (.slice aq 0 ad)).setCell ⟨A4.heap.size, 7, none⟩ (.int .u32 0)) = X := ⟨_, rfl⟩
  obtain ⟨AVA6, HbA6, zA6, HzA6⟩ := box8 hA5 hA6
  obtain ⟨zA6_0, zA6_1, zA6_2, zA6_3, zA6_4, zA6_5, zA6_6, zA6_7⟩ : A5.cell? ⟨A4.heap.size, 0, none⟩ = some (.int .u32 0) ∧ A5.cell? ⟨A4.heap.size, 1, none⟩ = some (.int .i64 0) ∧ A5.cell? ⟨A4.heap.size, 2, none⟩ = some (.int .i64 0) ∧ A5.cell? ⟨A4.heap.size, 3, none⟩ = some (.int .i64 0) ∧ A5.cell? ⟨A4.heap.size, 4, none⟩ = some (.int .i64 0) ∧ A5.cell? ⟨A4.heap.size, 5, none⟩ = some (.slice none 0 0) ∧ A5.cell? ⟨A4.heap.size, 6, none⟩ = some (.slice none 0 0) ∧ A5.cell? ⟨A4.heap.size, 7, none⟩ = some (.int .u32 0) := ⟨cell_heap HzA6.out, cell_heap HzA6.out, cell_heap HzA6.out, cell_heap HzA6.out, cell_heap HzA6.out, cell_heap HzA6.out, cell_heap HzA6.out, cell_heap HzA6.out⟩
  have fzA6 : ∀ o, A5.frozen? ⟨A4.heap.size, o, none⟩ = false := fun o => frozen_heap HzA6.out
  have PHA6 : Hid (A6.heap[w.heap.size]? = some (.cells #[.int .u32 1] 23 (0, 0))) := Lib.hid (carryH PHA4.out HbA6.out)
  have SVA6 : Hid (A6.heap[A1.heap.size]? = some (.cells (subV 0 0 5 0 0 (.slice (some ⟨w.heap.size, 0, none⟩) 1 1) (.slice none 0 0) 0) 36 (0, 0))) := Lib.hid (carryH SVA4.out HbA6.out)
  have RAA6 : Hid (RdK encU 1 A6 (.slice ap 1 ac) [1]) := Lib.hid (RAA4.out.below HbA6.out)
  have RBA6 : Hid (RdK encU 1 A6 (.slice aq 0 ad) []) := Lib.hid (RBA4.out.below HbA6.out)
  have BWA6 : Hid (Below w.heap.size w A6) := Lib.hid (Below.step BWA4.out HbA6.out)
  obtain ⟨s6_0, s6_1, s6_2, s6_3, s6_4, s6_5, s6_6, s6_7⟩ : A6.cell? ⟨A1.heap.size, 0, none⟩ = some (.int .u32 0) ∧ A6.cell? ⟨A1.heap.size, 1, none⟩ = some (.int .i64 0) ∧ A6.cell? ⟨A1.heap.size, 2, none⟩ = some (.int .i64 5) ∧ A6.cell? ⟨A1.heap.size, 3, none⟩ = some (.int .i64 0) ∧ A6.cell? ⟨A1.heap.size, 4, none⟩ = some (.int .i64 0) ∧ A6.cell? ⟨A1.heap.size, 5, none⟩ = some (.slice (some ⟨w.heap.size, 0, none⟩) 1 1) ∧ A6.cell? ⟨A1.heap.size, 6, none⟩ = some (.slice none 0 0) ∧ A6.cell? ⟨A1.heap.size, 7, none⟩ = some (.int .u32 0) := ⟨cell_heap SVA6.out, cell_heap SVA6.out, cell_heap SVA6.out, cell_heap SVA6.out, cell_heap SVA6.out, cell_heap SVA6.out, cell_heap SVA6.out, cell_heap SVA6.out⟩
  have RP6 : Hid (RdK encU 1 A6 (.slice (some ⟨w.heap.size, 0, none⟩) 1 1) [1]) := Lib.hid (RdK.one A6 w.heap.size PHA6.out)
  have C2 := Lib.hid (apply_none (.slice none 0 0) ⟨#[120]⟩ ⟨#[]⟩ 0 0 5 0 0 0 (some ⟨w.heap.size, 0, none⟩) none 1 1 0 0 A6 (fun W _ => named_x W))
  go_wp2_with fail
  go_at_call 12
  (with_reducible refine C2.out.mono ?_)
  rintro e A7 ⟨rfl, hbA7⟩
  have HbA7 := Lib.hid hbA7
  clear hbA7
  have PHA7 : Hid (A7.heap[w.heap.size]? = some (.cells #[.int .u32 1] 23 (0, 0))) := Lib.hid (carryH PHA6.out HbA7.out)
  have SVA7 : Hid (A7.heap[A1.heap.size]? = some (.cells (subV 0 0 5 0 0 (.slice (some ⟨w.heap.size, 0, none⟩) 1 1) (.slice none 0 0) 0) 36 (0, 0))) := Lib.hid (carryH SVA6.out HbA7.out)
  have AVA7 : Hid (A7.heap[A4.heap.size]? = some (.cells (subV 0 0 5 0 0 (.slice ap 1 ac) (.slice aq 0 ad) 0) 36 (0, 0))) := Lib.hid (carryH AVA6.out HbA7.out)
  have RAA7 : Hid (RdK encU 1 A7 (.slice ap 1 ac) [1]) := Lib.hid (RAA6.out.below HbA7.out)
  have RBA7 : Hid (RdK encU 1 A7 (.slice aq 0 ad) []) := Lib.hid (RBA6.out.below HbA7.out)
  have BWA7 : Hid (Below w.heap.size w A7) := Lib.hid (Below.step BWA6.out HbA7.out)
  obtain ⟨A8, hA8⟩ : ∃ X, A7.alloc (.cells (subV 0 0 0 0 0 (.slice none 0 0) (.slice none 0 0) 0) 36) = X := ⟨_, rfl⟩
  obtain ⟨A9, hA9⟩ : ∃ X, ((((((((A8.setCell ⟨A7.heap.size, 0, none⟩ (.int .u32 0)).setCell ⟨A7.heap.size, 1, none⟩ (.int .i64 0)).setCell ⟨A7.heap.size, 2, none⟩ (.int .i64 0)).setCell ⟨A7.heap.size, 3, none⟩ (.int .i64 0)).setCell ⟨A7.heap.size, 4, none⟩ (.int .i64 0)).setCell ⟨A7.heap.size, 5, none⟩ (.slice none 0 0)).setCell ⟨A7.heap.size, 6, none⟩ (.slice none 0 0)).setCell ⟨A7.heap.size, 7, none⟩ (.int .u32 0)) = X := ⟨_, rfl⟩
  obtain ⟨NVA9, HbA9, zA9, HzA9⟩ := box8 hA8 hA9
  obtain ⟨zA9_0, zA9_1, zA9_2, zA9_3, zA9_4, zA9_5, zA9_6, zA9_7⟩ : A8.cell? ⟨A7.heap.size, 0, none⟩ = some (.int .u32 0) ∧ A8.cell? ⟨A7.heap.size, 1, none⟩ = some (.int .i64 0) ∧ A8.cell? ⟨A7.heap.size, 2, none⟩ = some (.int .i64 0) ∧ A8.cell? ⟨A7.heap.size, 3, none⟩ = some (.int .i64 0) ∧ A8.cell? ⟨A7.heap.size, 4, none⟩ = some (.int .i64 0) ∧ A8.cell? ⟨A7.heap.size, 5, none⟩ = some (.slice none 0 0) ∧ A8.cell? ⟨A7.heap.size, 6, none⟩ = some (.slice none 0 0) ∧ A8.cell? ⟨A7.heap.size, 7, none⟩ = some (.int .u32 0) := ⟨cell_heap HzA9.out, cell_heap HzA9.out, cell_heap HzA9.out, cell_heap HzA9.out, cell_heap HzA9.out, cell_heap HzA9.out, cell_heap HzA9.out, cell_heap HzA9.out⟩
  have fzA9 : ∀ o, A8.frozen? ⟨A7.heap.size, o, none⟩ = false := fun o => frozen_heap HzA9.out
  have PHA9 : Hid (A9.heap[w.heap.size]? = some (.cells #[.int .u32 1] 23 (0, 0))) := Lib.hid (carryH PHA7.out HbA9.out)
  have SVA9 : Hid (A9.heap[A1.heap.size]? = some (.cells (subV 0 0 5 0 0 (.slice (some ⟨w.heap.size, 0, none⟩) 1 1) (.slice none 0 0) 0) 36 (0, 0))) := Lib.hid (carryH SVA7.out HbA9.out)
  have AVA9 : Hid (A9.heap[A4.heap.size]? = some (.cells (subV 0 0 5 0 0 (.slice ap 1 ac) (.slice aq 0 ad) 0) 36 (0, 0))) := Lib.hid (carryH AVA7.out HbA9.out)
  have RAA9 : Hid (RdK encU 1 A9 (.slice ap 1 ac) [1]) := Lib.hid (RAA7.out.below HbA9.out)
  have RBA9 : Hid (RdK encU 1 A9 (.slice aq 0 ad) []) := Lib.hid (RBA7.out.below HbA9.out)
  have BWA9 : Hid (Below w.heap.size w A9) := Lib.hid (Below.step BWA7.out HbA9.out)
  obtain ⟨A10, hA10⟩ : ∃ X, A9.alloc (.cells (polV ⟨#[120]⟩ true) 54) = X := ⟨_, rfl⟩
  have HbA10 : Hid (Below A9.heap.size A9 A10) := Lib.hid (by rw [← hA10]; exact (Below.refl _ _).alloc (Nat.le_refl _) _)
  have PHA10 : Hid (A10.heap[w.heap.size]? = some (.cells #[.int .u32 1] 23 (0, 0))) := Lib.hid (carryH PHA9.out HbA10.out)
  have SVA10 : Hid (A10.heap[A1.heap.size]? = some (.cells (subV 0 0 5 0 0 (.slice (some ⟨w.heap.size, 0, none⟩) 1 1) (.slice none 0 0) 0) 36 (0, 0))) := Lib.hid (carryH SVA9.out HbA10.out)
  have AVA10 : Hid (A10.heap[A4.heap.size]? = some (.cells (subV 0 0 5 0 0 (.slice ap 1 ac) (.slice aq 0 ad) 0) 36 (0, 0))) := Lib.hid (carryH AVA9.out HbA10.out)
  have NVA10 : Hid (A10.heap[A7.heap.size]? = some (.cells (subV 0 0 0 0 0 (.slice none 0 0) (.slice none 0 0) 0) 36 (0, 0))) := Lib.hid (carryH NVA9.out HbA10.out)
  have RAA10 : Hid (RdK encU 1 A10 (.slice ap 1 ac) [1]) := Lib.hid (RAA9.out.below HbA10.out)
  have RBA10 : Hid (RdK encU 1 A10 (.slice aq 0 ad) []) := Lib.hid (RBA9.out.below HbA10.out)
  have BWA10 : Hid (Below w.heap.size w A10) := Lib.hid (Below.step BWA9.out HbA10.out)
  have PVA10 : Hid (A10.heap[A9.heap.size]? = some (.cells (polV ⟨#[120]⟩ true) 54 (0, 0))) := Lib.hid (heap_alc hA10)
  obtain ⟨A11, hA11⟩ : ∃ X, A10.alloc (.cells (devV (.slice none 0 0)) 51) = X := ⟨_, rfl⟩
  obtain ⟨A12, hA12⟩ : ∃ X, ((((((((((((A11.setCell ⟨A10.heap.size, 0, none⟩ (.string ⟨#[]⟩)).setCell ⟨A10.heap.size, 1, none⟩ (.int .u8 0)).setCell ⟨A10.heap.size, 2, none⟩ (.slice none 0 0)).setCell ⟨A10.heap.size, 3, none⟩ (.slice none 0 0)).setCell ⟨A10.heap.size, 4, none⟩ (.slice none 0 0)).setCell ⟨A10.heap.size, 5, none⟩ (.slice none 0 0)).setCell ⟨A10.heap.size, 6, none⟩ (.slice none 0 0)).setCell ⟨A10.heap.size, 7, none⟩ (.slice none 0 0)).setCell ⟨A10.heap.size, 8, none⟩ (.slice none 0 0)).setCell ⟨A10.heap.size, 9, none⟩ (.slice (some ⟨A9.heap.size, 0, none⟩) 1 1)).setCell ⟨A10.heap.size, 10, none⟩ (.slice none 0 0)).setCell ⟨A10.heap.size, 11, none⟩ (.slice none 0 0)) = X := ⟨_, rfl⟩
  obtain ⟨DVA12, HbA12, zA12, HzA12⟩ := box12 hA11 hA12
  obtain ⟨z12_0, z12_1, z12_2, z12_3, z12_4, z12_5, z12_6, z12_7, z12_8, z12_9, z12_10, z12_11⟩ : A11.cell? ⟨A10.heap.size, 0, none⟩ = some (.string ⟨#[]⟩) ∧ A11.cell? ⟨A10.heap.size, 1, none⟩ = some (.int .u8 0) ∧ A11.cell? ⟨A10.heap.size, 2, none⟩ = some (.slice none 0 0) ∧ A11.cell? ⟨A10.heap.size, 3, none⟩ = some (.slice none 0 0) ∧ A11.cell? ⟨A10.heap.size, 4, none⟩ = some (.slice none 0 0) ∧ A11.cell? ⟨A10.heap.size, 5, none⟩ = some (.slice none 0 0) ∧ A11.cell? ⟨A10.heap.size, 6, none⟩ = some (.slice none 0 0) ∧ A11.cell? ⟨A10.heap.size, 7, none⟩ = some (.slice none 0 0) ∧ A11.cell? ⟨A10.heap.size, 8, none⟩ = some (.slice none 0 0) ∧ A11.cell? ⟨A10.heap.size, 9, none⟩ = some (.slice none 0 0) ∧ A11.cell? ⟨A10.heap.size, 10, none⟩ = some (.slice none 0 0) ∧ A11.cell? ⟨A10.heap.size, 11, none⟩ = some (.slice none 0 0) := ⟨cell_heap HzA12.out, cell_heap HzA12.out, cell_heap HzA12.out, cell_heap HzA12.out, cell_heap HzA12.out, cell_heap HzA12.out, cell_heap HzA12.out, cell_heap HzA12.out, cell_heap HzA12.out, cell_heap HzA12.out, cell_heap HzA12.out, cell_heap HzA12.out⟩
  have fzA12 : ∀ o, A11.frozen? ⟨A10.heap.size, o, none⟩ = false := fun o => frozen_heap HzA12.out
  have PHA12 : Hid (A12.heap[w.heap.size]? = some (.cells #[.int .u32 1] 23 (0, 0))) := Lib.hid (carryH PHA10.out HbA12.out)
  have SVA12 : Hid (A12.heap[A1.heap.size]? = some (.cells (subV 0 0 5 0 0 (.slice (some ⟨w.heap.size, 0, none⟩) 1 1) (.slice none 0 0) 0) 36 (0, 0))) := Lib.hid (carryH SVA10.out HbA12.out)
  have AVA12 : Hid (A12.heap[A4.heap.size]? = some (.cells (subV 0 0 5 0 0 (.slice ap 1 ac) (.slice aq 0 ad) 0) 36 (0, 0))) := Lib.hid (carryH AVA10.out HbA12.out)
  have NVA12 : Hid (A12.heap[A7.heap.size]? = some (.cells (subV 0 0 0 0 0 (.slice none 0 0) (.slice none 0 0) 0) 36 (0, 0))) := Lib.hid (carryH NVA10.out HbA12.out)
  have PVA12 : Hid (A12.heap[A9.heap.size]? = some (.cells (polV ⟨#[120]⟩ true) 54 (0, 0))) := Lib.hid (carryH PVA10.out HbA12.out)
  have RAA12 : Hid (RdK encU 1 A12 (.slice ap 1 ac) [1]) := Lib.hid (RAA10.out.below HbA12.out)
  have RBA12 : Hid (RdK encU 1 A12 (.slice aq 0 ad) []) := Lib.hid (RBA10.out.below HbA12.out)
  have BWA12 : Hid (Below w.heap.size w A12) := Lib.hid (Below.step BWA10.out HbA12.out)
  obtain ⟨d12_0, d12_1, d12_2, d12_3, d12_4, d12_5, d12_6, d12_7, d12_8, d12_9, d12_10, d12_11⟩ : A12.cell? ⟨A10.heap.size, 0, none⟩ = some (.string ⟨#[]⟩) ∧ A12.cell? ⟨A10.heap.size, 1, none⟩ = some (.int .u8 0) ∧ A12.cell? ⟨A10.heap.size, 2, none⟩ = some (.slice none 0 0) ∧ A12.cell? ⟨A10.heap.size, 3, none⟩ = some (.slice none 0 0) ∧ A12.cell? ⟨A10.heap.size, 4, none⟩ = some (.slice none 0 0) ∧ A12.cell? ⟨A10.heap.size, 5, none⟩ = some (.slice none 0 0) ∧ A12.cell? ⟨A10.heap.size, 6, none⟩ = some (.slice none 0 0) ∧ A12.cell? ⟨A10.heap.size, 7, none⟩ = some (.slice none 0 0) ∧ A12.cell? ⟨A10.heap.size, 8, none⟩ = some (.slice none 0 0) ∧ A12.cell? ⟨A10.heap.size, 9, none⟩ = some (.slice (some ⟨A9.heap.size, 0, none⟩) 1 1) ∧ A12.cell? ⟨A10.heap.size, 10, none⟩ = some (.slice none 0 0) ∧ A12.cell? ⟨A10.heap.size, 11, none⟩ = some (.slice none 0 0) := ⟨cell_heap DVA12.out, cell_heap DVA12.out, cell_heap DVA12.out, cell_heap DVA12.out, cell_heap DVA12.out, cell_heap DVA12.out, cell_heap DVA12.out, cell_heap DVA12.out, cell_heap DVA12.out, cell_heap DVA12.out, cell_heap DVA12.out, cell_heap DVA12.out⟩
  obtain ⟨s12_0, s12_1, s12_2, s12_3, s12_4, s12_5, s12_6, s12_7⟩ : A12.cell? ⟨A1.heap.size, 0, none⟩ = some (.int .u32 0) ∧ A12.cell? ⟨A1.heap.size, 1, none⟩ = some (.int .i64 0) ∧ A12.cell? ⟨A1.heap.size, 2, none⟩ = some (.int .i64 5) ∧ A12.cell? ⟨A1.heap.size, 3, none⟩ = some (.int .i64 0) ∧ A12.cell? ⟨A1.heap.size, 4, none⟩ = some (.int .i64 0) ∧ A12.cell? ⟨A1.heap.size, 5, none⟩ = some (.slice (some ⟨w.heap.size, 0, none⟩) 1 1) ∧ A12.cell? ⟨A1.heap.size, 6, none⟩ = some (.slice none 0 0) ∧ A12.cell? ⟨A1.heap.size, 7, none⟩ = some (.int .u32 0) := ⟨cell_heap SVA12.out, cell_heap SVA12.out, cell_heap SVA12.out, cell_heap SVA12.out, cell_heap SVA12.out, cell_heap SVA12.out, cell_heap SVA12.out, cell_heap SVA12.out⟩
  have RP12 : Hid (RdK encU 1 A12 (.slice (some ⟨w.heap.size, 0, none⟩) 1 1) [1]) := Lib.hid (RdK.one A12 w.heap.size PHA12.out)
  have C3 := Lib.hid (apply_ok (.slice (some ⟨A9.heap.size, 0, none⟩) 1 1) ⟨#[120]⟩ ⟨#[120]⟩ 0 0 5 0 0 0 (some ⟨w.heap.size, 0, none⟩) none 1 1 0 0 A12 (fun W hW => named_p A9.heap.size W (carryH PVA12.out hW)) [1] [] RP12.out (RdK.nil _) (by simp))
  go_wp2_with fail
  go_at_call 12
  (with_reducible refine C3.out.mono ?_)
  rintro e A13 ⟨vc, vd, rfl, ho3, ho4, hbA13⟩
  obtain ⟨bp, bc, rfl⟩ := own_sl ho3
  obtain ⟨bq, bd, rfl⟩ := own_sl ho4
  simp only [List.length_cons, List.length_nil, Nat.zero_add] at ho3 ho4
  have HbA13 := Lib.hid hbA13
  clear hbA13
  have PHA13 : Hid (A13.heap[w.heap.size]? = some (.cells #[.int .u32 1] 23 (0, 0))) := Lib.hid (carryH PHA12.out HbA13.out)
  have SVA13 : Hid (A13.heap[A1.heap.size]? = some (.cells (subV 0 0 5 0 0 (.slice (some ⟨w.heap.size, 0, none⟩) 1 1) (.slice none 0 0) 0) 36 (0, 0))) := Lib.hid (carryH SVA12.out HbA13.out)
  have AVA13 : Hid (A13.heap[A4.heap.size]? = some (.cells (subV 0 0 5 0 0 (.slice ap 1 ac) (.slice aq 0 ad) 0) 36 (0, 0))) := Lib.hid (carryH AVA12.out HbA13.out)
  have NVA13 : Hid (A13.heap[A7.heap.size]? = some (.cells (subV 0 0 0 0 0 (.slice none 0 0) (.slice none 0 0) 0) 36 (0, 0))) := Lib.hid (carryH NVA12.out HbA13.out)
  have PVA13 : Hid (A13.heap[A9.heap.size]? = some (.cells (polV ⟨#[120]⟩ true) 54 (0, 0))) := Lib.hid (carryH PVA12.out HbA13.out)
  have DVA13 : Hid (A13.heap[A10.heap.size]? = some (.cells (devV (.slice (some ⟨A9.heap.size, 0, none⟩) 1 1)) 51 (0, 0))) := Lib.hid (carryH DVA12.out HbA13.out)
  have RAA13 : Hid (RdK encU 1 A13 (.slice ap 1 ac) [1]) := Lib.hid (RAA12.out.below HbA13.out)
  have RBA13 : Hid (RdK encU 1 A13 (.slice aq 0 ad) []) := Lib.hid (RBA12.out.below HbA13.out)
  have BWA13 : Hid (Below w.heap.size w A13) := Lib.hid (Below.step BWA12.out HbA13.out)
  have RCA13 : Hid (RdK encU 1 A13 (.slice bp 1 bc) [1]) := Lib.hid (RdK.of_own encU_len ho3)
  have RDA13 : Hid (RdK encU 1 A13 (.slice bq 0 bd) []) := Lib.hid (RdK.of_own encU_len ho4)
  clear ho3 ho4
  obtain ⟨A14, hA14⟩ : ∃ X, A13.alloc (.cells (subV 0 0 0 0 0 (.slice none 0 0) (.slice none 0 0) 0) 36) = X := ⟨_, rfl⟩
  obtain ⟨A15, hA15⟩ : ∃ X, ((((((((A14.setCell ⟨A13.heap.size, 0, none⟩ (.int .u32 0)).setCell ⟨A13.heap.size, 1, none⟩ (.int .i64 0)).setCell ⟨A13.heap.size, 2, none⟩ (.int .i64 5)).setCell ⟨A13.heap.size, 3, none⟩ (.int .i64 0)).setCell ⟨A13.heap.size, 4, none⟩ (.int .i64 0)).setCell ⟨A13.heap.size, 5, none⟩ (.slice bp 1 bc)).setCell ⟨A13.heap.size, 6, none⟩ (.slice bq 0 bd)).setCell ⟨A13.heap.size, 7, none⟩ (.int .u32 0)) = X := ⟨_, rfl⟩
  obtain ⟨BVA15, HbA15, zA15, HzA15⟩ := box8 hA14 hA15
  obtain ⟨zA15_0, zA15_1, zA15_2, zA15_3, zA15_4, zA15_5, zA15_6, zA15_7⟩ : A14.cell? ⟨A13.heap.size, 0, none⟩ = some (.int .u32 0) ∧ A14.cell? ⟨A13.heap.size, 1, none⟩ = some (.int .i64 0) ∧ A14.cell? ⟨A13.heap.size, 2, none⟩ = some (.int .i64 0) ∧ A14.cell? ⟨A13.heap.size, 3, none⟩ = some (.int .i64 0) ∧ A14.cell? ⟨A13.heap.size, 4, none⟩ = some (.int .i64 0) ∧ A14.cell? ⟨A13.heap.size, 5, none⟩ = some (.slice none 0 0) ∧ A14.cell? ⟨A13.heap.size, 6, none⟩ = some (.slice none 0 0) ∧ A14.cell? ⟨A13.heap.size, 7, none⟩ = some (.int .u32 0) := ⟨cell_heap HzA15.out, cell_heap HzA15.out, cell_heap HzA15.out, cell_heap HzA15.out, cell_heap HzA15.out, cell_heap HzA15.out, cell_heap HzA15.out, cell_heap HzA15.out⟩
  have fzA15 : ∀ o, A14.frozen? ⟨A13.heap.size, o, none⟩ = false := fun o => frozen_heap HzA15.out
  have PHA15 : Hid (A15.heap[w.heap.size]? = some (.cells #[.int .u32 1] 23 (0, 0))) := Lib.hid (carryH PHA13.out HbA15.out)
  have SVA15 : Hid (A15.heap[A1.heap.size]? = some (.cells (subV 0 0 5 0 0 (.slice (some ⟨w.heap.size, 0, none⟩) 1 1) (.slice none 0 0) 0) 36 (0, 0))) := Lib.hid (carryH SVA13.out HbA15.out)
  have AVA15 : Hid (A15.heap[A4.heap.size]? = some (.cells (subV 0 0 5 0 0 (.slice ap 1 ac) (.slice aq 0 ad) 0) 36 (0, 0))) := Lib.hid (carryH AVA13.out HbA15.out)
  have NVA15 : Hid (A15.heap[A7.heap.size]? = some (.cells (subV 0 0 0 0 0 (.slice none 0 0) (.slice none 0 0) 0) 36 (0, 0))) := Lib.hid (carryH NVA13.out HbA15.out)
  have PVA15 : Hid (A15.heap[A9.heap.size]? = some (.cells (polV ⟨#[120]⟩ true) 54 (0, 0))) := Lib.hid (carryH PVA13.out HbA15.out)
  have DVA15 : Hid (A15.heap[A10.heap.size]? = some (.cells (devV (.slice (some ⟨A9.heap.size, 0, none⟩) 1 1)) 51 (0, 0))) := Lib.hid (carryH DVA13.out HbA15.out)
  have RAA15 : Hid (RdK encU 1 A15 (.slice ap 1 ac) [1]) := Lib.hid (RAA13.out.below HbA15.out)
  have RBA15 : Hid (RdK encU 1 A15 (.slice aq 0 ad) []) := Lib.hid (RBA13.out.below HbA15.out)
  have RCA15 : Hid (RdK encU 1 A15 (.slice bp 1 bc) [1]) := Lib.hid (RCA13.out.below HbA15.out)
  have RDA15 : Hid (RdK encU 1 A15 (.slice bq 0 bd) []) := Lib.hid (RDA13.out.below HbA15.out)
  have BWA15 : Hid (Below w.heap.size w A15) := Lib.hid (Below.step BWA13.out HbA15.out)
  obtain ⟨d15_0, d15_1, d15_2, d15_3, d15_4, d15_5, d15_6, d15_7, d15_8, d15_9, d15_10, d15_11⟩ : A15.cell? ⟨A10.heap.size, 0, none⟩ = some (.string ⟨#[]⟩) ∧ A15.cell? ⟨A10.heap.size, 1, none⟩ = some (.int .u8 0) ∧ A15.cell? ⟨A10.heap.size, 2, none⟩ = some (.slice none 0 0) ∧ A15.cell? ⟨A10.heap.size, 3, none⟩ = some (.slice none 0 0) ∧ A15.cell? ⟨A10.heap.size, 4, none⟩ = some (.slice none 0 0) ∧ A15.cell? ⟨A10.heap.size, 5, none⟩ = some (.slice none 0 0) ∧ A15.cell? ⟨A10.heap.size, 6, none⟩ = some (.slice none 0 0) ∧ A15.cell? ⟨A10.heap.size, 7, none⟩ = some (.slice none 0 0) ∧ A15.cell? ⟨A10.heap.size, 8, none⟩ = some (.slice none 0 0) ∧ A15.cell? ⟨A10.heap.size, 9, none⟩ = some (.slice (some ⟨A9.heap.size, 0, none⟩) 1 1) ∧ A15.cell? ⟨A10.heap.size, 10, none⟩ = some (.slice none 0 0) ∧ A15.cell? ⟨A10.heap.size, 11, none⟩ = some (.slice none 0 0) := ⟨cell_heap DVA15.out, cell_heap DVA15.out, cell_heap DVA15.out, cell_heap DVA15.out, cell_heap DVA15.out, cell_heap DVA15.out, cell_heap DVA15.out, cell_heap DVA15.out, cell_heap DVA15.out, cell_heap DVA15.out, cell_heap DVA15.out, cell_heap DVA15.out⟩
  obtain ⟨s15_0, s15_1, s15_2, s15_3, s15_4, s15_5, s15_6, s15_7⟩ : A15.cell? ⟨A1.heap.size, 0, none⟩ = some (.int .u32 0) ∧ A15.cell? ⟨A1.heap.size, 1, none⟩ = some (.int .i64 0) ∧ A15.cell? ⟨A1.heap.size, 2, none⟩ = some (.int .i64 5) ∧ A15.cell? ⟨A1.heap.size, 3, none⟩ = some (.int .i64 0) ∧ A15.cell? ⟨A1.heap.size, 4, none⟩ = some (.int .i64 0) ∧ A15.cell? ⟨A1.heap.size, 5, none⟩ = some (.slice (some ⟨w.heap.size, 0, none⟩) 1 1) ∧ A15.cell? ⟨A1.heap.size, 6, none⟩ = some (.slice none 0 0) ∧ A15.cell? ⟨A1.heap.size, 7, none⟩ = some (.int .u32 0) := ⟨cell_heap SVA15.out, cell_heap SVA15.out, cell_heap SVA15.out, cell_heap SVA15.out, cell_heap SVA15.out, cell_heap SVA15.out, cell_heap SVA15.out, cell_heap SVA15.out⟩
  have C4 := Lib.hid (decides_ok (.slice (some ⟨A9.heap.size, 0, none⟩) 1 1) ⟨#[120]⟩ ⟨#[120]⟩ 0 0 5 0 0 0 (some ⟨w.heap.size, 0, none⟩) none 1 1 0 0 A15 (fun W hW => named_p A9.heap.size W (carryH PVA15.out hW)))
  go_wp2_with fail
  go_at_call 13
  (with_reducible refine C4.out.mono ?_)
  rintro e A16 ⟨rfl, hbA16⟩
  have HbA16 := Lib.hid hbA16
  clear hbA16
  have PHA16 : Hid (A16.heap[w.heap.size]? = some (.cells #[.int .u32 1] 23 (0, 0))) := Lib.hid (carryH PHA15.out HbA16.out)
  have SVA16 : Hid (A16.heap[A1.heap.size]? = some (.cells (subV 0 0 5 0 0 (.slice (some ⟨w.heap.size, 0, none⟩) 1 1) (.slice none 0 0) 0) 36 (0, 0))) := Lib.hid (carryH SVA15.out HbA16.out)
  have AVA16 : Hid (A16.heap[A4.heap.size]? = some (.cells (subV 0 0 5 0 0 (.slice ap 1 ac) (.slice aq 0 ad) 0) 36 (0, 0))) := Lib.hid (carryH AVA15.out HbA16.out)
  have NVA16 : Hid (A16.heap[A7.heap.size]? = some (.cells (subV 0 0 0 0 0 (.slice none 0 0) (.slice none 0 0) 0) 36 (0, 0))) := Lib.hid (carryH NVA15.out HbA16.out)
  have PVA16 : Hid (A16.heap[A9.heap.size]? = some (.cells (polV ⟨#[120]⟩ true) 54 (0, 0))) := Lib.hid (carryH PVA15.out HbA16.out)
  have DVA16 : Hid (A16.heap[A10.heap.size]? = some (.cells (devV (.slice (some ⟨A9.heap.size, 0, none⟩) 1 1)) 51 (0, 0))) := Lib.hid (carryH DVA15.out HbA16.out)
  have BVA16 : Hid (A16.heap[A13.heap.size]? = some (.cells (subV 0 0 5 0 0 (.slice bp 1 bc) (.slice bq 0 bd) 0) 36 (0, 0))) := Lib.hid (carryH BVA15.out HbA16.out)
  have RAA16 : Hid (RdK encU 1 A16 (.slice ap 1 ac) [1]) := Lib.hid (RAA15.out.below HbA16.out)
  have RBA16 : Hid (RdK encU 1 A16 (.slice aq 0 ad) []) := Lib.hid (RBA15.out.below HbA16.out)
  have RCA16 : Hid (RdK encU 1 A16 (.slice bp 1 bc) [1]) := Lib.hid (RCA15.out.below HbA16.out)
  have RDA16 : Hid (RdK encU 1 A16 (.slice bq 0 bd) []) := Lib.hid (RDA15.out.below HbA16.out)
  have BWA16 : Hid (Below w.heap.size w A16) := Lib.hid (Below.step BWA15.out HbA16.out)
  have C5 := Lib.hid (all_none (.slice none 0 0) ⟨#[120]⟩ ⟨#[]⟩ A16 (fun W _ => named_x W) (.slice none 0 0))
  go_wp2_with fail
  go_at_call 14
  (with_reducible refine C5.out.mono ?_)
  rintro e A17 ⟨rfl, hbA17⟩
  have HbA17 := Lib.hid hbA17
  clear hbA17
  have PHA17 : Hid (A17.heap[w.heap.size]? = some (.cells #[.int .u32 1] 23 (0, 0))) := Lib.hid (carryH PHA16.out HbA17.out)
  have SVA17 : Hid (A17.heap[A1.heap.size]? = some (.cells (subV 0 0 5 0 0 (.slice (some ⟨w.heap.size, 0, none⟩) 1 1) (.slice none 0 0) 0) 36 (0, 0))) := Lib.hid (carryH SVA16.out HbA17.out)
  have AVA17 : Hid (A17.heap[A4.heap.size]? = some (.cells (subV 0 0 5 0 0 (.slice ap 1 ac) (.slice aq 0 ad) 0) 36 (0, 0))) := Lib.hid (carryH AVA16.out HbA17.out)
  have NVA17 : Hid (A17.heap[A7.heap.size]? = some (.cells (subV 0 0 0 0 0 (.slice none 0 0) (.slice none 0 0) 0) 36 (0, 0))) := Lib.hid (carryH NVA16.out HbA17.out)
  have PVA17 : Hid (A17.heap[A9.heap.size]? = some (.cells (polV ⟨#[120]⟩ true) 54 (0, 0))) := Lib.hid (carryH PVA16.out HbA17.out)
  have DVA17 : Hid (A17.heap[A10.heap.size]? = some (.cells (devV (.slice (some ⟨A9.heap.size, 0, none⟩) 1 1)) 51 (0, 0))) := Lib.hid (carryH DVA16.out HbA17.out)
  have BVA17 : Hid (A17.heap[A13.heap.size]? = some (.cells (subV 0 0 5 0 0 (.slice bp 1 bc) (.slice bq 0 bd) 0) 36 (0, 0))) := Lib.hid (carryH BVA16.out HbA17.out)
  have RAA17 : Hid (RdK encU 1 A17 (.slice ap 1 ac) [1]) := Lib.hid (RAA16.out.below HbA17.out)
  have RBA17 : Hid (RdK encU 1 A17 (.slice aq 0 ad) []) := Lib.hid (RBA16.out.below HbA17.out)
  have RCA17 : Hid (RdK encU 1 A17 (.slice bp 1 bc) [1]) := Lib.hid (RCA16.out.below HbA17.out)
  have RDA17 : Hid (RdK encU 1 A17 (.slice bq 0 bd) []) := Lib.hid (RDA16.out.below HbA17.out)
  have BWA17 : Hid (Below w.heap.size w A17) := Lib.hid (Below.step BWA16.out HbA17.out)
  obtain ⟨a17_0, a17_1, a17_2, a17_3, a17_4, a17_5, a17_6, a17_7⟩ : A17.cell? ⟨A4.heap.size, 0, none⟩ = some (.int .u32 0) ∧ A17.cell? ⟨A4.heap.size, 1, none⟩ = some (.int .i64 0) ∧ A17.cell? ⟨A4.heap.size, 2, none⟩ = some (.int .i64 5) ∧ A17.cell? ⟨A4.heap.size, 3, none⟩ = some (.int .i64 0) ∧ A17.cell? ⟨A4.heap.size, 4, none⟩ = some (.int .i64 0) ∧ A17.cell? ⟨A4.heap.size, 5, none⟩ = some (.slice ap 1 ac) ∧ A17.cell? ⟨A4.heap.size, 6, none⟩ = some (.slice aq 0 ad) ∧ A17.cell? ⟨A4.heap.size, 7, none⟩ = some (.int .u32 0) := ⟨cell_heap AVA17.out, cell_heap AVA17.out, cell_heap AVA17.out, cell_heap AVA17.out, cell_heap AVA17.out, cell_heap AVA17.out, cell_heap AVA17.out, cell_heap AVA17.out⟩
  obtain ⟨s17_0, s17_1, s17_2, s17_3, s17_4, s17_5, s17_6, s17_7⟩ : A17.cell? ⟨A1.heap.size, 0, none⟩ = some (.int .u32 0) ∧ A17.cell? ⟨A1.heap.size, 1, none⟩ = some (.int .i64 0) ∧ A17.cell? ⟨A1.heap.size, 2, none⟩ = some (.int .i64 5) ∧ A17.cell? ⟨A1.heap.size, 3, none⟩ = some (.int .i64 0) ∧ A17.cell? ⟨A1.heap.size, 4, none⟩ = some (.int .i64 0) ∧ A17.cell? ⟨A1.heap.size, 5, none⟩ = some (.slice (some ⟨w.heap.size, 0, none⟩) 1 1) ∧ A17.cell? ⟨A1.heap.size, 6, none⟩ = some (.slice none 0 0) ∧ A17.cell? ⟨A1.heap.size, 7, none⟩ = some (.int .u32 0) := ⟨cell_heap SVA17.out, cell_heap SVA17.out, cell_heap SVA17.out, cell_heap SVA17.out, cell_heap SVA17.out, cell_heap SVA17.out, cell_heap SVA17.out, cell_heap SVA17.out⟩
  have RP17 : Hid (RdK encU 1 A17 (.slice (some ⟨w.heap.size, 0, none⟩) 1 1) [1]) := Lib.hid (RdK.one A17 w.heap.size PHA17.out)
  have C6 := Lib.hid (same_is 0 0 5 0 0 0 (.slice ap 1 ac) (.slice aq 0 ad) (.slice (some ⟨w.heap.size, 0, none⟩) 1 1) (.slice none 0 0) [1] [] A17 RAA17.out RBA17.out RP17.out (RdK.nil _) (by simp) (by simp))
  go_wp2_with fail
  go_at_call 15
  (with_reducible refine C6.out.mono ?_)
  rintro e A18 ⟨rfl, hbA18⟩
  have HbA18 := Lib.hid hbA18
  clear hbA18
  have PHA18 : Hid (A18.heap[w.heap.size]? = some (.cells #[.int .u32 1] 23 (0, 0))) := Lib.hid (carryH PHA17.out HbA18.out)
  have SVA18 : Hid (A18.heap[A1.heap.size]? = some (.cells (subV 0 0 5 0 0 (.slice (some ⟨w.heap.size, 0, none⟩) 1 1) (.slice none 0 0) 0) 36 (0, 0))) := Lib.hid (carryH SVA17.out HbA18.out)
  have AVA18 : Hid (A18.heap[A4.heap.size]? = some (.cells (subV 0 0 5 0 0 (.slice ap 1 ac) (.slice aq 0 ad) 0) 36 (0, 0))) := Lib.hid (carryH AVA17.out HbA18.out)
  have NVA18 : Hid (A18.heap[A7.heap.size]? = some (.cells (subV 0 0 0 0 0 (.slice none 0 0) (.slice none 0 0) 0) 36 (0, 0))) := Lib.hid (carryH NVA17.out HbA18.out)
  have PVA18 : Hid (A18.heap[A9.heap.size]? = some (.cells (polV ⟨#[120]⟩ true) 54 (0, 0))) := Lib.hid (carryH PVA17.out HbA18.out)
  have DVA18 : Hid (A18.heap[A10.heap.size]? = some (.cells (devV (.slice (some ⟨A9.heap.size, 0, none⟩) 1 1)) 51 (0, 0))) := Lib.hid (carryH DVA17.out HbA18.out)
  have BVA18 : Hid (A18.heap[A13.heap.size]? = some (.cells (subV 0 0 5 0 0 (.slice bp 1 bc) (.slice bq 0 bd) 0) 36 (0, 0))) := Lib.hid (carryH BVA17.out HbA18.out)
  have RAA18 : Hid (RdK encU 1 A18 (.slice ap 1 ac) [1]) := Lib.hid (RAA17.out.below HbA18.out)
  have RBA18 : Hid (RdK encU 1 A18 (.slice aq 0 ad) []) := Lib.hid (RBA17.out.below HbA18.out)
  have RCA18 : Hid (RdK encU 1 A18 (.slice bp 1 bc) [1]) := Lib.hid (RCA17.out.below HbA18.out)
  have RDA18 : Hid (RdK encU 1 A18 (.slice bq 0 bd) []) := Lib.hid (RDA17.out.below HbA18.out)
  have BWA18 : Hid (Below w.heap.size w A18) := Lib.hid (Below.step BWA17.out HbA18.out)
  obtain ⟨b18_0, b18_1, b18_2, b18_3, b18_4, b18_5, b18_6, b18_7⟩ : A18.cell? ⟨A13.heap.size, 0, none⟩ = some (.int .u32 0) ∧ A18.cell? ⟨A13.heap.size, 1, none⟩ = some (.int .i64 0) ∧ A18.cell? ⟨A13.heap.size, 2, none⟩ = some (.int .i64 5) ∧ A18.cell? ⟨A13.heap.size, 3, none⟩ = some (.int .i64 0) ∧ A18.cell? ⟨A13.heap.size, 4, none⟩ = some (.int .i64 0) ∧ A18.cell? ⟨A13.heap.size, 5, none⟩ = some (.slice bp 1 bc) ∧ A18.cell? ⟨A13.heap.size, 6, none⟩ = some (.slice bq 0 bd) ∧ A18.cell? ⟨A13.heap.size, 7, none⟩ = some (.int .u32 0) := ⟨cell_heap BVA18.out, cell_heap BVA18.out, cell_heap BVA18.out, cell_heap BVA18.out, cell_heap BVA18.out, cell_heap BVA18.out, cell_heap BVA18.out, cell_heap BVA18.out⟩
  obtain ⟨s18_0, s18_1, s18_2, s18_3, s18_4, s18_5, s18_6, s18_7⟩ : A18.cell? ⟨A1.heap.size, 0, none⟩ = some (.int .u32 0) ∧ A18.cell? ⟨A1.heap.size, 1, none⟩ = some (.int .i64 0) ∧ A18.cell? ⟨A1.heap.size, 2, none⟩ = some (.int .i64 5) ∧ A18.cell? ⟨A1.heap.size, 3, none⟩ = some (.int .i64 0) ∧ A18.cell? ⟨A1.heap.size, 4, none⟩ = some (.int .i64 0) ∧ A18.cell? ⟨A1.heap.size, 5, none⟩ = some (.slice (some ⟨w.heap.size, 0, none⟩) 1 1) ∧ A18.cell? ⟨A1.heap.size, 6, none⟩ = some (.slice none 0 0) ∧ A18.cell? ⟨A1.heap.size, 7, none⟩ = some (.int .u32 0) := ⟨cell_heap SVA18.out, cell_heap SVA18.out, cell_heap SVA18.out, cell_heap SVA18.out, cell_heap SVA18.out, cell_heap SVA18.out, cell_heap SVA18.out, cell_heap SVA18.out⟩
  have RP18 : Hid (RdK encU 1 A18 (.slice (some ⟨w.heap.size, 0, none⟩) 1 1) [1]) := Lib.hid (RdK.one A18 w.heap.size PHA18.out)
  have C7 := Lib.hid (same_is 0 0 5 0 0 0 (.slice bp 1 bc) (.slice bq 0 bd) (.slice (some ⟨w.heap.size, 0, none⟩) 1 1) (.slice none 0 0) [1] [] A18 RCA18.out RDA18.out RP18.out (RdK.nil _) (by simp) (by simp))
  go_wp2_with fail
  go_at_call 15
  (with_reducible refine C7.out.mono ?_)
  rintro e A19 ⟨rfl, hbA19⟩
  have BW19 : Hid (Below w.heap.size w A19) := Lib.hid (Below.step BWA18.out hbA19)
  clear hbA19
  go_wp2
  go_ret
  exact ⟨rfl, BW19.out⟩
end Go.Proofs.Ytolnpggofocjkaa
