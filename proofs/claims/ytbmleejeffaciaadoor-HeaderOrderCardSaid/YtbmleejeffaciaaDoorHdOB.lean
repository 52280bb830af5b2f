/- How two headers stand to each other, and that a number's remainder is a bit's. Each under the conditions that it names. -/
import Derived.Test.YtbmleejeffaciaaDoorHdWk
import Derived.Test.YtbmleejeffaciaaDoorHdV
import Derived.Test.YtbmleejeffaciaaDoorHdW
import Derived.Test.YtbmleejeffaciaaDoorHdC
namespace Go.Proofs.YtbmleejeffaciaaDoor
open Go.RowKit
theorem wrap_104 (i : Int) : ∃ I : Nat, I < 104 ∧ wrap64 ((IntKind.u64.wrap i).tmod 104) = (I : Int) := by
  rw [IntKind.wrap_u64]
  have h0 : 0 ≤ i % 18446744073709551616 := Int.emod_nonneg _ (by omega)
  rw [Int.tmod_eq_emod_of_nonneg h0]
  refine ⟨(i % 18446744073709551616 % 104).toNat, by omega, ?_⟩
  have h1 : wrap64 (i % 18446744073709551616 % 104) = i % 18446744073709551616 % 104 := by unfold wrap64; omega
  rw [h1]; omega
/-- How two headers stand to each other. -/
theorem ways_of {s d p sp dp s' d' p' sp' dp' : Int} (h : Hdr s d p sp dp) (h' : Hdr s' d' p' sp' dp') : ∃ (m m' : Int) (sb : Bool), cmpH (byL s d p sp dp) (byL s' d' p' sp' dp') = m ∧ cmpH (byL s' d' p' sp' dp') (byL s d p sp dp) = m' ∧ decide ((s = s' ∧ d = d') ∧ p = p' ∧ sp = sp' ∧ dp = dp') = sb ∧
    ((m = -1 ∧ m' = 1 ∧ sb = false ∧ V (byL s d p sp dp) < V (byL s' d' p' sp' dp')) ∨ (m = 0 ∧ m' = 0 ∧ sb = true ∧ V (byL s d p sp dp) = V (byL s' d' p' sp' dp')) ∨ (m = 1 ∧ m' = -1 ∧ sb = false ∧ V (byL s' d' p' sp' dp') < V (byL s d p sp dp))) := by
  have hA := byL_13 h
  have hB := byL_13 h'
  have e1 := cmpV_V (hA.len.trans hB.len.symm) hA.byt hB.byt
  have e2 := cmpV_V (hB.len.trans hA.len.symm) hB.byt hA.byt
  refine ⟨_, _, _, rfl, rfl, rfl, ?_⟩
  change cmpH _ _ = _ at e1
  change cmpH _ _ = _ at e2
  have hne : V (byL s d p sp dp) ≠ V (byL s' d' p' sp' dp') → decide ((s = s' ∧ d = d') ∧ p = p' ∧ sp = sp' ∧ dp = dp') = false := fun hv => by
    simp only [decide_eq_false_iff_not]
    rintro ⟨⟨rfl, rfl⟩, rfl, rfl, rfl⟩
    exact hv rfl
  rcases Nat.lt_trichotomy (V (byL s d p sp dp)) (V (byL s' d' p' sp' dp')) with hv | hv | hv
  · refine .inl ⟨?_, ?_, hne (by omega), hv⟩
    · rw [e1, if_pos hv]
    · rw [e2, if_neg (by omega), if_pos hv]
  · refine .inr (.inl ⟨?_, ?_, ?_, hv⟩)
    · rw [e1, if_neg (by omega), if_neg (by omega)]
    · rw [e2, if_neg (by omega), if_neg (by omega)]
    · have hl := V_inj (hA.len.trans hB.len.symm) hA.byt hB.byt hv
      have h1 := of_byL h
      have h2 := of_byL h'
      rw [hl, h2] at h1
      simp only [Value.agg.injEq, Array.mk.injEq, List.cons.injEq, Value.int.injEq, true_and, and_true] at h1
      obtain ⟨rfl, rfl, rfl, rfl, rfl⟩ := h1
      simp
  · refine .inr (.inr ⟨?_, ?_, hne (by omega), hv⟩)
    · rw [e1, if_neg (by omega), if_pos hv]
    · rw [e2, if_pos hv]
theorem cmp_at {s d p sp dp s' d' p' sp' dp' v : Int} (h : Hdr s d p sp dp) (h' : Hdr s' d' p' sp' dp') (hv : cmpH (byL s d p sp dp) (byL s' d' p' sp' dp') = v) : Hid (∀ W, Calls Tryd.prog 16 #[.agg #[.int .u32 s, .int .u32 d, .int .u8 p, .int .u16 sp, .int .u16 dp], .agg #[.int .u32 s', .int .u32 d', .int .u8 p', .int .u16 sp', .int .u16 dp']] W fun e w' => e = .returned (.int .i64 v) ∧ Below W.heap.size W w') :=
  Lib.hid fun W => by rw [← hv]; exact cmp_is s d p sp dp s' d' p' sp' dp' W h h'
end Go.Proofs.YtbmleejeffaciaaDoor
