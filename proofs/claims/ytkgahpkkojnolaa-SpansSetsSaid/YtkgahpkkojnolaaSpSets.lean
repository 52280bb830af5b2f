/- What Or, And, Less and Not of package spans hand back: the set that is meant, in its form, in new memory. Under the conditions that they name. -/
import Derived.Test.YtkgahpkkojnolaaSpMerge2
namespace Go.Proofs.Ytkgahpkkojnolaa
open Go.RowKit
theorem or_keep (p q : Bool) (W : World) : Calls Try.prog 27 #[.bool p, .bool q] W fun e w' => e = .returned (.bool ((fun p q => p || q) p q)) ∧ W = w' := by
  cases p <;> cases q
  all_goals
    go_enter Try.func27, Try.ntmps27
    go_wp2
    go_ret
    exact ⟨rfl, rfl⟩
theorem or_is (l m : List (Nat × Nat)) (v u : Value) (w : World) (hr : Rd w v l) (hs : Rd w u m) (hll : l.length ≤ 200000000) (hlm : m.length ≤ 200000000) :
    Calls Try.prog 12 #[v, u] w (NewSet (fun x => (fun p q => p || q) (has l x) (has m x)) w) := by
  have H := Lib.hid (merge_is 27 (fun p q => p || q) or_keep (enters_of Try.func27 (by kernel_rfl) rfl) rfl l m v u w hr hs hll hlm)
  clear hr hs
  go_enter Try.func12, Try.ntmps12
  go_wp2_with fail
  go_at_call 26
  refine H.out.mono ?_
  rintro e w1 ⟨v1, rfl, ho, hb⟩
  go_wp2
  go_ret
  exact ⟨_, rfl, ho, hb⟩
theorem and_keep (p q : Bool) (W : World) : Calls Try.prog 28 #[.bool p, .bool q] W fun e w' => e = .returned (.bool ((fun p q => p && q) p q)) ∧ W = w' := by
  cases p <;> cases q
  all_goals
    go_enter Try.func28, Try.ntmps28
    go_wp2
    go_ret
    exact ⟨rfl, rfl⟩
theorem and_is (l m : List (Nat × Nat)) (v u : Value) (w : World) (hr : Rd w v l) (hs : Rd w u m) (hll : l.length ≤ 200000000) (hlm : m.length ≤ 200000000) :
    Calls Try.prog 13 #[v, u] w (NewSet (fun x => (fun p q => p && q) (has l x) (has m x)) w) := by
  have H := Lib.hid (merge_is 28 (fun p q => p && q) and_keep (enters_of Try.func28 (by kernel_rfl) rfl) rfl l m v u w hr hs hll hlm)
  clear hr hs
  go_enter Try.func13, Try.ntmps13
  go_wp2_with fail
  go_at_call 26
  refine H.out.mono ?_
  rintro e w1 ⟨v1, rfl, ho, hb⟩
  go_wp2
  go_ret
  exact ⟨_, rfl, ho, hb⟩
theorem less_keep (p q : Bool) (W : World) : Calls Try.prog 29 #[.bool p, .bool q] W fun e w' => e = .returned (.bool ((fun p q => p && !q) p q)) ∧ W = w' := by
  cases p <;> cases q
  all_goals
    go_enter Try.func29, Try.ntmps29
    go_wp2
    go_ret
    exact ⟨rfl, rfl⟩
theorem less_is (l m : List (Nat × Nat)) (v u : Value) (w : World) (hr : Rd w v l) (hs : Rd w u m) (hll : l.length ≤ 200000000) (hlm : m.length ≤ 200000000) :
    Calls Try.prog 14 #[v, u] w (NewSet (fun x => (fun p q => p && !q) (has l x) (has m x)) w) := by
  have H := Lib.hid (merge_is 29 (fun p q => p && !q) less_keep (enters_of Try.func29 (by kernel_rfl) rfl) rfl l m v u w hr hs hll hlm)
  clear hr hs
  go_enter Try.func14, Try.ntmps14
  go_wp2_with fail
  go_at_call 26
  refine H.out.mono ?_
  rintro e w1 ⟨v1, rfl, ho, hb⟩
  go_wp2
  go_ret
  exact ⟨_, rfl, ho, hb⟩
theorem not_is (l : List (Nat × Nat)) (v : Value) (most : Nat) (w : World) (hr : Rd w v l) (hmt : most < top) (hll : l.length ≤ 200000000) :
    Calls Try.prog 15 #[v, .int .u32 most] w (NewSet (fun x => decide (x ≤ most) && !has l x) w) := by
  obtain ⟨mi, hmi⟩ : ∃ z : Int, z = (most : Int) := ⟨_, rfl⟩
  have hB : Below w.heap.size w (w.alloc (.cells #[.int .u32 0, .int .u32 mi] 27)) := (Below.refl _ _).alloc (Nat.le_refl _) _
  have hR : Rd (w.alloc (.cells #[.int .u32 0, .int .u32 mi] 27)) (.slice (some ⟨w.heap.size, 0, none⟩) 1 1) [(0, most)] := by
    refine ⟨fun s hs => by simp at hs; subst hs; exact ⟨by rw [top_def]; show 0 < _; omega, hmt⟩, .inr ⟨w.heap.size, 0, 1, rfl, Nat.le_refl _, by unfold maxLen; omega, by simp, fun i s hi => ?_⟩⟩
    rw [cell_of_heap (heap_new _ _), cell_of_heap (heap_new _ _)]
    match i, hi with
    | 0, hi => simp at hi; subst hi; exact ⟨rfl, by rw [hmi]; rfl⟩
    | i + 1, hi => simp at hi
  have h := less_is _ _ _ _ _ hR (hr.below hB) (by simp) hll
  have e : NewSet (fun x => (fun p q => p && !q) (has [(0, most)] x) (has l x)) = NewSet (fun x => decide (x ≤ most) && !has l x) := NewSet_congr fun x _ => by simp [has]
  rw [e] at h
  rw [← hmi]
  have H := Lib.hid h
  have HB := Lib.hid hB
  clear h hR hr hB hmi e
  go_enter Try.func15, Try.ntmps15
  go_wp2_with fail
  go_at_call 14
  refine H.out.mono ?_
  rintro e w1 ⟨v1, rfl, ho, hb⟩
  go_wp2
  go_ret
  exact ⟨_, rfl, ho.base (by simp), Below.step HB.out hb⟩
end Go.Proofs.Ytkgahpkkojnolaa
