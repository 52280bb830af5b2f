/- What Or, And, Less and Not of package spans hand back: the set that is meant, in its form, in new memory. Under the conditions that they name. -/
import Derived.Test.YtelncpmphgndjaaDoorSpMerge2
namespace Go.Proofs.YtelncpmphgndjaaDoor
open Go.RowKit
theorem less_keep (p q : Bool) (W : World) : Calls Tryd.prog 45 #[.bool p, .bool q] W fun e w' => e = .returned (.bool ((fun p q => p && !q) p q)) ∧ W = w' := by
  cases p <;> cases q
  all_goals
    go_enter Tryd.func45, Tryd.ntmps45
    go_wp2
    go_ret
    exact ⟨rfl, rfl⟩
theorem less_is (l m : List (Nat × Nat)) (v u : Value) (w : World) (hr : Rd w v l) (hs : Rd w u m) (hll : l.length ≤ 200000000) (hlm : m.length ≤ 200000000) :
    Calls Tryd.prog 28 #[v, u] w (NewSet (fun x => (fun p q => p && !q) (has l x) (has m x)) w) := by
  have H := Lib.hid (merge_is 45 (fun p q => p && !q) less_keep (enters_of Tryd.func45 (by kernel_rfl) rfl) rfl l m v u w hr hs hll hlm)
  clear hr hs
  go_enter Tryd.func28, Tryd.ntmps28
  go_wp2_with fail
  go_at_call 44
  refine H.out.mono ?_
  rintro e w1 ⟨v1, rfl, ho, hb⟩
  go_wp2
  go_ret
  exact ⟨_, rfl, ho, hb⟩
theorem not_is (l : List (Nat × Nat)) (v : Value) (most : Nat) (w : World) (hr : Rd w v l) (hmt : most < top) (hll : l.length ≤ 200000000) :
    Calls Tryd.prog 15 #[v, .int .u32 most] w (NewSet (fun x => decide (x ≤ most) && !has l x) w) := by
  obtain ⟨mi, hmi⟩ : ∃ z : Int, z = (most : Int) := ⟨_, rfl⟩
  have hB : Below w.heap.size w (w.alloc (.cells #[.int .u32 0, .int .u32 mi] 32)) := (Below.refl _ _).alloc (Nat.le_refl _) _
  have hR : Rd (w.alloc (.cells #[.int .u32 0, .int .u32 mi] 32)) (.slice (some ⟨w.heap.size, 0, none⟩) 1 1) [(0, most)] := by
    refine ⟨fun s hs => by simp at hs; subst hs; exact ⟨by rw [top_def]; show 0 < _; omega, hmt⟩, .inr ⟨w.heap.size, 0, 1, rfl, Nat.le_refl _, by unfold maxLen; omega, by simp, fun i s hi => ?_⟩⟩
    rw [cell_of_heap (heap_new _ _), cell_of_heap (heap_new _ _)]
    match i, hi with
    | 0, hi => simp at hi; subst hi; exact ⟨rfl, by rw [hmi]; rfl⟩
    | i + 1, hi => simp at hi
  have h := less_is _ _ _ _ _ hR (hr.below hB) (by simp) hll
  have e : NewSet (fun x => (fun p q => p && !q) (has [(0, most)] x) (has l x)) = NewSet (fun x => decide (x ≤ most) && !has l x) := NewSet_congr fun x _ => by simp [has]
  rw [e] at h
  rw [← hmi]
  have H := Lib.hid h
  have HB := Lib.hid hB
  clear h hR hr hB hmi e
  go_enter Tryd.func15, Tryd.ntmps15
  go_wp2_with fail
  go_at_call 28
  refine H.out.mono ?_
  rintro e w1 ⟨v1, rfl, ho, hb⟩
  go_wp2
  go_ret
  exact ⟨_, rfl, ho.base (by simp), Below.step HB.out hb⟩
end Go.Proofs.YtelncpmphgndjaaDoor
