/- named and follow of package policy at what PolicyNames asks: no name, a name of nothing, a policy without clauses. Under the conditions that they name. -/
import Derived.Test.YtolnpggofocjkaaPnC
import Derived.Shelf.Abstract
import Derived.Shelf.Abstract
namespace Go.Proofs.Ytolnpggofocjkaa
open Go.RowKit
/-- A device's cells: nothing but policies. -/
abbrev devV (vp : Value) : Array Value := #[.string ⟨#[]⟩, .int .u8 0, .slice none 0 0, .slice none 0 0, .slice none 0 0, .slice none 0 0, .slice none 0 0, .slice none 0 0, .slice none 0 0, vp, .slice none 0 0, .slice none 0 0]
abbrev polV (n : ByteArray) (b : Bool) : Array Value := #[.string n, .slice none 0 0, .bool b]
theorem heap_alc {w W : World} {x : Obj} (h : w.alloc x = W) : W.heap[w.heap.size]? = some x := by rw [← h]; exact heap_newU _ _
theorem heap_old {w W : World} {x y : Obj} {g : Nat} (h : w.alloc x = W) (hg : w.heap[g]? = some y) : W.heap[g]? = some y := by
  rw [← h]; exact (((Below.refl w.heap.size w).alloc (Nat.le_refl _) x).block g (Array.getElem?_eq_some_iff.1 hg).1).trans hg
theorem heap_put3 {w : World} {g : Nat} {u0 u1 u2 : Value} {e : TypeId} {f : Nat × Nat} (h : w.heap[g]? = some (.cells #[u0, u1, u2] e f)) (v0 v1 v2 : Value) : (((w.setCell ⟨g, 0, none⟩ v0).setCell ⟨g, 1, none⟩ v1).setCell ⟨g, 2, none⟩ v2).heap[g]? = some (.cells #[v0, v1, v2] e f) := by
  simpa using heap_store (o := 2) (v := v2) (heap_store (o := 1) (v := v1) (heap_store (o := 0) (v := v0) h))
set_option maxRecDepth 100000 in
set_option maxHeartbeats 1000000 in
theorem named_0 (w : World) : Calls Try.prog 27 #[.agg (devV (.slice none 0 0)), .string ⟨#[]⟩] w fun e w' => e = .returned (.tuple #[.agg (polV ⟨#[]⟩ true), .int .i64 0]) ∧ Below w.heap.size w w' := by
  obtain ⟨W1, hW1⟩ : ∃ X, w.alloc (.cells (devV (.slice none 0 0)) 51) = X := ⟨_, rfl⟩
  obtain ⟨W2, hW2⟩ : ∃ X, W1.alloc (.cells #[.string ⟨#[]⟩] 9) = X := ⟨_, rfl⟩
  obtain ⟨W3, hW3⟩ : ∃ X, W2.alloc (.cells (polV ⟨#[]⟩ false) 54) = X := ⟨_, rfl⟩
  have z1 : W1.heap.size = w.heap.size + 1 := by rw [← hW1]; simp
  have z2 : W2.heap.size = w.heap.size + 2 := by rw [← hW2]; simp [z1]
  have z3 : W3.heap.size = w.heap.size + 3 := by rw [← hW3]; simp [z2]
  have HA : Hid (W3.heap[w.heap.size]? = some (.cells (devV (.slice none 0 0)) 51 (0, 0))) := Lib.hid (heap_old hW3 (heap_old hW2 (heap_alc hW1)))
  have HN : Hid (W3.heap[w.heap.size + 1]? = some (.cells #[.string ⟨#[]⟩] 9 (0, 0))) := Lib.hid (heap_old hW3 (by have := heap_alc hW2; rwa [z1] at this))
  have HP : Hid (W3.heap[w.heap.size + 2]? = some (.cells (polV ⟨#[]⟩ false) 54 (0, 0))) := Lib.hid (by have := heap_alc hW3; rwa [z2] at this)
  have B3 : Hid (Below w.heap.size w W3) := Lib.hid (by rw [← hW3, ← hW2, ← hW1]; exact (((Below.refl _ _).alloc (Nat.le_refl _) _).alloc (by simp) _).alloc (by simp; omega) _)
  have n0 : W3.cell? ⟨w.heap.size + 1, 0, none⟩ = some (.string ⟨#[]⟩) := cell_heap HN.out
  have a9 : W3.cell? ⟨w.heap.size, 9, none⟩ = some (.slice none 0 0) := cell_heap HA.out
  obtain ⟨p0, p1, p2⟩ : W3.cell? ⟨w.heap.size + 2, 0, none⟩ = some (.string ⟨#[]⟩) ∧ W3.cell? ⟨w.heap.size + 2, 1, none⟩ = some (.slice none 0 0) ∧ W3.cell? ⟨w.heap.size + 2, 2, none⟩ = some (.bool false) := ⟨cell_heap HP.out, cell_heap HP.out, cell_heap HP.out⟩
  have pz : ∀ o, W3.frozen? ⟨w.heap.size + 2, o, none⟩ = false := fun o => frozen_heap HP.out
  go_enter Try.func27, Try.ntmps27
  go_wp2_with fail
  have R4 : Hid ((((W3.setCell ⟨w.heap.size + 2, 0, none⟩ (.string ⟨#[]⟩)).setCell ⟨w.heap.size + 2, 1, none⟩ (.slice none 0 0)).setCell ⟨w.heap.size + 2, 2, none⟩ (.bool true)).heap[w.heap.size + 2]? = some (.cells #[(.string ⟨#[]⟩), (.slice none 0 0), (.bool true)] 54 (0, 0))) := Lib.hid (heap_put3 HP.out (.string ⟨#[]⟩) (.slice none 0 0) (.bool true))
  have B4 : Hid (Below w.heap.size w (((W3.setCell ⟨w.heap.size + 2, 0, none⟩ (.string ⟨#[]⟩)).setCell ⟨w.heap.size + 2, 1, none⟩ (.slice none 0 0)).setCell ⟨w.heap.size + 2, 2, none⟩ (.bool true))) := Lib.hid (Below.setCell (p := ⟨w.heap.size + 2, 2, none⟩) (Below.setCell (p := ⟨w.heap.size + 2, 1, none⟩) (Below.setCell (p := ⟨w.heap.size + 2, 0, none⟩) B3.out (by show _ ≤ w.heap.size + 2; omega) _) (by show _ ≤ w.heap.size + 2; omega) _) (by show _ ≤ w.heap.size + 2; omega) _)
  generalize ((W3.setCell ⟨w.heap.size + 2, 0, none⟩ (.string ⟨#[]⟩)).setCell ⟨w.heap.size + 2, 1, none⟩ (.slice none 0 0)).setCell ⟨w.heap.size + 2, 2, none⟩ (.bool true) = W9 at R4 B4 ⊢
  obtain ⟨d0, d1, d2⟩ : W9.cell? ⟨w.heap.size + 2, 0, none⟩ = some (.string ⟨#[]⟩) ∧ W9.cell? ⟨w.heap.size + 2, 1, none⟩ = some (.slice none 0 0) ∧ W9.cell? ⟨w.heap.size + 2, 2, none⟩ = some (.bool true) := ⟨cell_heap R4.out, cell_heap R4.out, cell_heap R4.out⟩
  refine bodyPost_ret (v := .tuple #[.agg #[(.string ⟨#[]⟩), (.slice none 0 0), (.bool true)], .int .i64 0]) (by simp [results, Try.results27, go_sem, d0, d1, d2]) rfl ?_
  exact ⟨rfl, B4.out⟩
theorem index_nil (f : Value) (w : World) : Calls Try.prog 57 #[.slice none 0 0, f] w fun e w' => e = .returned (.int .i64 (-1)) ∧ w' = w := by
  go_enter Try.func57, Try.ntmps57
  go_wp2
  refine wp_loop_rounds 1 ?_
  rw [rounds_succ]
  go_wp2
  go_ret
  exact ⟨rfl, rfl⟩
set_option maxRecDepth 100000 in
set_option maxHeartbeats 1000000 in
theorem named_x (w : World) : Calls Try.prog 27 #[.agg (devV (.slice none 0 0)), .string ⟨#[120]⟩] w fun e w' => e = .returned (.tuple #[.agg (polV ⟨#[]⟩ false), .int .i64 120]) ∧ Below w.heap.size w w' := by
  obtain ⟨W1, hW1⟩ : ∃ X, w.alloc (.cells (devV (.slice none 0 0)) 51) = X := ⟨_, rfl⟩
  obtain ⟨W2, hW2⟩ : ∃ X, W1.alloc (.cells #[.string ⟨#[120]⟩] 9) = X := ⟨_, rfl⟩
  obtain ⟨W3, hW3⟩ : ∃ X, W2.alloc (.cells (polV ⟨#[]⟩ false) 54) = X := ⟨_, rfl⟩
  have z1 : W1.heap.size = w.heap.size + 1 := by rw [← hW1]; simp
  have z2 : W2.heap.size = w.heap.size + 2 := by rw [← hW2]; simp [z1]
  have z3 : W3.heap.size = w.heap.size + 3 := by rw [← hW3]; simp [z2]
  have HA : Hid (W3.heap[w.heap.size]? = some (.cells (devV (.slice none 0 0)) 51 (0, 0))) := Lib.hid (heap_old hW3 (heap_old hW2 (heap_alc hW1)))
  have HN : Hid (W3.heap[w.heap.size + 1]? = some (.cells #[.string ⟨#[120]⟩] 9 (0, 0))) := Lib.hid (heap_old hW3 (by have := heap_alc hW2; rwa [z1] at this))
  have HP : Hid (W3.heap[w.heap.size + 2]? = some (.cells (polV ⟨#[]⟩ false) 54 (0, 0))) := Lib.hid (by have := heap_alc hW3; rwa [z2] at this)
  have B3 : Hid (Below w.heap.size w W3) := Lib.hid (by rw [← hW3, ← hW2, ← hW1]; exact (((Below.refl _ _).alloc (Nat.le_refl _) _).alloc (by simp) _).alloc (by simp; omega) _)
  have n0 : W3.cell? ⟨w.heap.size + 1, 0, none⟩ = some (.string ⟨#[120]⟩) := cell_heap HN.out
  have a9 : W3.cell? ⟨w.heap.size, 9, none⟩ = some (.slice none 0 0) := cell_heap HA.out
  obtain ⟨p0, p1, p2⟩ : W3.cell? ⟨w.heap.size + 2, 0, none⟩ = some (.string ⟨#[]⟩) ∧ W3.cell? ⟨w.heap.size + 2, 1, none⟩ = some (.slice none 0 0) ∧ W3.cell? ⟨w.heap.size + 2, 2, none⟩ = some (.bool false) := ⟨cell_heap HP.out, cell_heap HP.out, cell_heap HP.out⟩
  have pz : ∀ o, W3.frozen? ⟨w.heap.size + 2, o, none⟩ = false := fun o => frozen_heap HP.out
  have HI := Lib.hid (index_nil (.func (.func 58) #[] #[.pointer (some ⟨w.heap.size + 1, 0, none⟩)]) W3)
  go_enter Try.func27, Try.ntmps27
  go_wp2_with fail
  go_at_call 57
  (with_reducible refine HI.out.mono ?_)
  rintro e W4 ⟨rfl, rfl⟩
  go_wp2_with fail
  have R4 : Hid ((((W4.setCell ⟨w.heap.size + 2, 0, none⟩ (.string ⟨#[]⟩)).setCell ⟨w.heap.size + 2, 1, none⟩ (.slice none 0 0)).setCell ⟨w.heap.size + 2, 2, none⟩ (.bool false)).heap[w.heap.size + 2]? = some (.cells #[(.string ⟨#[]⟩), (.slice none 0 0), (.bool false)] 54 (0, 0))) := Lib.hid (heap_put3 HP.out (.string ⟨#[]⟩) (.slice none 0 0) (.bool false))
  have B4 : Hid (Below w.heap.size w (((W4.setCell ⟨w.heap.size + 2, 0, none⟩ (.string ⟨#[]⟩)).setCell ⟨w.heap.size + 2, 1, none⟩ (.slice none 0 0)).setCell ⟨w.heap.size + 2, 2, none⟩ (.bool false))) := Lib.hid (Below.setCell (p := ⟨w.heap.size + 2, 2, none⟩) (Below.setCell (p := ⟨w.heap.size + 2, 1, none⟩) (Below.setCell (p := ⟨w.heap.size + 2, 0, none⟩) B3.out (by show _ ≤ w.heap.size + 2; omega) _) (by show _ ≤ w.heap.size + 2; omega) _) (by show _ ≤ w.heap.size + 2; omega) _)
  generalize ((W4.setCell ⟨w.heap.size + 2, 0, none⟩ (.string ⟨#[]⟩)).setCell ⟨w.heap.size + 2, 1, none⟩ (.slice none 0 0)).setCell ⟨w.heap.size + 2, 2, none⟩ (.bool false) = W9 at R4 B4 ⊢
  obtain ⟨d0, d1, d2⟩ : W9.cell? ⟨w.heap.size + 2, 0, none⟩ = some (.string ⟨#[]⟩) ∧ W9.cell? ⟨w.heap.size + 2, 1, none⟩ = some (.slice none 0 0) ∧ W9.cell? ⟨w.heap.size + 2, 2, none⟩ = some (.bool false) := ⟨cell_heap R4.out, cell_heap R4.out, cell_heap R4.out⟩
  refine bodyPost_ret (v := .tuple #[.agg #[(.string ⟨#[]⟩), (.slice none 0 0), (.bool false)], .int .i64 120]) (by simp [results, Try.results27, go_sem, d0, d1, d2]) rfl ?_
  exact ⟨rfl, B4.out⟩
set_option maxRecDepth 100000 in
theorem index_one (g k : Nat) (w : World) (hg : w.heap[g]? = some (.cells (polV ⟨#[120]⟩ true) 54 (0, 0))) (hk : w.heap[k]? = some (.cells #[.string ⟨#[120]⟩] 9 (0, 0))) : Calls Try.prog 57 #[.slice (some ⟨g, 0, none⟩) 1 1, .func (.func 58) #[] #[.pointer (some ⟨k, 0, none⟩)]] w fun e w' => e = .returned (.int .i64 0) ∧ Below w.heap.size w w' := by
  have eg : ∀ args w, (callFunc 58 args).run Try.prog w = .ok (.enter 58 args) w := enters_of Try.func58 (by kernel_rfl) rfl
  obtain ⟨g0, g1, g2⟩ : w.cell? ⟨g, 0, none⟩ = some (.string ⟨#[120]⟩) ∧ w.cell? ⟨g, 1, none⟩ = some (.slice none 0 0) ∧ w.cell? ⟨g, 2, none⟩ = some (.bool true) := ⟨cell_heap hg, cell_heap hg, cell_heap hg⟩
  have hk0 : w.cell? ⟨k, 0, none⟩ = some (.string ⟨#[120]⟩) := cell_heap hk
  have hkl : k < w.heap.size := (Array.getElem?_eq_some_iff.1 hk).1
  have HC : Hid (Calls Try.prog 58 #[.agg (polV ⟨#[120]⟩ true), .pointer (some ⟨k, 0, none⟩)] w fun e w' => e = .returned (.bool true) ∧ Below w.heap.size w w') := Lib.hid (by
    obtain ⟨W1, hW1⟩ : ∃ X, w.alloc (.cells (polV ⟨#[120]⟩ true) 54) = X := ⟨_, rfl⟩
    have q0 : W1.cell? ⟨w.heap.size, 0, none⟩ = some (.string ⟨#[120]⟩) := cell_heap (heap_alc hW1)
    have q1 : W1.cell? ⟨k, 0, none⟩ = some (.string ⟨#[120]⟩) := cell_heap (heap_old hW1 hk)
    have B : Hid (Below w.heap.size w W1) := Lib.hid (by rw [← hW1]; exact (Below.refl _ _).alloc (Nat.le_refl _) _)
    go_enter Try.func58, Try.ntmps58
    go_wp2
    go_ret
    exact ⟨rfl, B.out⟩)
  go_enter Try.func57, Try.ntmps57
  go_wp2
  refine wp_loop_rounds 2 ?_
  rw [rounds_succ]
  go_wp2_with (go_at_fn 58; refine HC.out.mono ?_; rintro e w1 ⟨rfl, hb⟩)
  go_ret
  exact ⟨rfl, hb⟩
set_option maxRecDepth 100000 in
set_option maxHeartbeats 1000000 in
theorem named_p (g : Nat) (w : World) (hg : w.heap[g]? = some (.cells (polV ⟨#[120]⟩ true) 54 (0, 0))) : Calls Try.prog 27 #[.agg (devV (.slice (some ⟨g, 0, none⟩) 1 1)), .string ⟨#[120]⟩] w fun e w' => e = .returned (.tuple #[.agg (polV ⟨#[120]⟩ true), .int .i64 0]) ∧ Below w.heap.size w w' := by
  obtain ⟨W1, hW1⟩ : ∃ X, w.alloc (.cells (devV (.slice (some ⟨g, 0, none⟩) 1 1)) 51) = X := ⟨_, rfl⟩
  obtain ⟨W2, hW2⟩ : ∃ X, W1.alloc (.cells #[.string ⟨#[120]⟩] 9) = X := ⟨_, rfl⟩
  obtain ⟨W3, hW3⟩ : ∃ X, W2.alloc (.cells (polV ⟨#[]⟩ false) 54) = X := ⟨_, rfl⟩
  have z1 : W1.heap.size = w.heap.size + 1 := by rw [← hW1]; simp
  have z2 : W2.heap.size = w.heap.size + 2 := by rw [← hW2]; simp [z1]
  have z3 : W3.heap.size = w.heap.size + 3 := by rw [← hW3]; simp [z2]
  have HA : Hid (W3.heap[w.heap.size]? = some (.cells (devV (.slice (some ⟨g, 0, none⟩) 1 1)) 51 (0, 0))) := Lib.hid (heap_old hW3 (heap_old hW2 (heap_alc hW1)))
  have HN : Hid (W3.heap[w.heap.size + 1]? = some (.cells #[.string ⟨#[120]⟩] 9 (0, 0))) := Lib.hid (heap_old hW3 (by have := heap_alc hW2; rwa [z1] at this))
  have HP : Hid (W3.heap[w.heap.size + 2]? = some (.cells (polV ⟨#[]⟩ false) 54 (0, 0))) := Lib.hid (by have := heap_alc hW3; rwa [z2] at this)
  have B3 : Hid (Below w.heap.size w W3) := Lib.hid (by rw [← hW3, ← hW2, ← hW1]; exact (((Below.refl _ _).alloc (Nat.le_refl _) _).alloc (by simp) _).alloc (by simp; omega) _)
  have n0 : W3.cell? ⟨w.heap.size + 1, 0, none⟩ = some (.string ⟨#[120]⟩) := cell_heap HN.out
  have a9 : W3.cell? ⟨w.heap.size, 9, none⟩ = some (.slice (some ⟨g, 0, none⟩) 1 1) := cell_heap HA.out
  have HG : Hid (W3.heap[g]? = some (.cells (polV ⟨#[120]⟩ true) 54 (0, 0))) := Lib.hid (heap_old hW3 (heap_old hW2 (heap_old hW1 hg)))
  have HI := Lib.hid (index_one g (w.heap.size + 1) W3 HG.out HN.out)
  go_enter Try.func27, Try.ntmps27
  go_wp2_with fail
  go_at_call 57
  (with_reducible refine HI.out.mono ?_)
  rintro e W4 ⟨rfl, hb⟩
  have HA4 : Hid (W4.heap[w.heap.size]? = some (.cells (devV (.slice (some ⟨g, 0, none⟩) 1 1)) 51 (0, 0))) := Lib.hid ((hb.block _ (by omega)).trans HA.out)
  have HP4 : Hid (W4.heap[w.heap.size + 2]? = some (.cells (polV ⟨#[]⟩ false) 54 (0, 0))) := Lib.hid ((hb.block _ (by omega)).trans HP.out)
  have HG4 : Hid (W4.heap[g]? = some (.cells (polV ⟨#[120]⟩ true) 54 (0, 0))) := Lib.hid ((hb.block _ (Array.getElem?_eq_some_iff.1 HG.out).1).trans HG.out)
  have BB : Hid (Below w.heap.size w W4) := Lib.hid (B3.out.trans (hb.mono (by omega)))
  have b9 : W4.cell? ⟨w.heap.size, 9, none⟩ = some (.slice (some ⟨g, 0, none⟩) 1 1) := cell_heap HA4.out
  obtain ⟨g0, g1, g2⟩ : W4.cell? ⟨g, 0, none⟩ = some (.string ⟨#[120]⟩) ∧ W4.cell? ⟨g, 1, none⟩ = some (.slice none 0 0) ∧ W4.cell? ⟨g, 2, none⟩ = some (.bool true) := ⟨cell_heap HG4.out, cell_heap HG4.out, cell_heap HG4.out⟩
  obtain ⟨p0, p1, p2⟩ : W4.cell? ⟨w.heap.size + 2, 0, none⟩ = some (.string ⟨#[]⟩) ∧ W4.cell? ⟨w.heap.size + 2, 1, none⟩ = some (.slice none 0 0) ∧ W4.cell? ⟨w.heap.size + 2, 2, none⟩ = some (.bool false) := ⟨cell_heap HP4.out, cell_heap HP4.out, cell_heap HP4.out⟩
  have pz : ∀ o, W4.frozen? ⟨w.heap.size + 2, o, none⟩ = false := fun o => frozen_heap HP4.out
  clear hb
  go_wp2_with fail
  have R4 : Hid ((((W4.setCell ⟨w.heap.size + 2, 0, none⟩ (.string ⟨#[120]⟩)).setCell ⟨w.heap.size + 2, 1, none⟩ (.slice none 0 0)).setCell ⟨w.heap.size + 2, 2, none⟩ (.bool true)).heap[w.heap.size + 2]? = some (.cells #[(.string ⟨#[120]⟩), (.slice none 0 0), (.bool true)] 54 (0, 0))) := Lib.hid (heap_put3 HP4.out (.string ⟨#[120]⟩) (.slice none 0 0) (.bool true))
  have B4 : Hid (Below w.heap.size w (((W4.setCell ⟨w.heap.size + 2, 0, none⟩ (.string ⟨#[120]⟩)).setCell ⟨w.heap.size + 2, 1, none⟩ (.slice none 0 0)).setCell ⟨w.heap.size + 2, 2, none⟩ (.bool true))) := Lib.hid (Below.setCell (p := ⟨w.heap.size + 2, 2, none⟩) (Below.setCell (p := ⟨w.heap.size + 2, 1, none⟩) (Below.setCell (p := ⟨w.heap.size + 2, 0, none⟩) BB.out (by show _ ≤ w.heap.size + 2; omega) _) (by show _ ≤ w.heap.size + 2; omega) _) (by show _ ≤ w.heap.size + 2; omega) _)
  generalize ((W4.setCell ⟨w.heap.size + 2, 0, none⟩ (.string ⟨#[120]⟩)).setCell ⟨w.heap.size + 2, 1, none⟩ (.slice none 0 0)).setCell ⟨w.heap.size + 2, 2, none⟩ (.bool true) = W9 at R4 B4 ⊢
  obtain ⟨d0, d1, d2⟩ : W9.cell? ⟨w.heap.size + 2, 0, none⟩ = some (.string ⟨#[120]⟩) ∧ W9.cell? ⟨w.heap.size + 2, 1, none⟩ = some (.slice none 0 0) ∧ W9.cell? ⟨w.heap.size + 2, 2, none⟩ = some (.bool true) := ⟨cell_heap R4.out, cell_heap R4.out, cell_heap R4.out⟩
  refine bodyPost_ret (v := .tuple #[.agg #[(.string ⟨#[120]⟩), (.slice none 0 0), (.bool true)], .int .i64 0]) (by simp [results, Try.results27, go_sem, d0, d1, d2]) rfl ?_
  exact ⟨rfl, B4.out⟩
end Go.Proofs.Ytolnpggofocjkaa
