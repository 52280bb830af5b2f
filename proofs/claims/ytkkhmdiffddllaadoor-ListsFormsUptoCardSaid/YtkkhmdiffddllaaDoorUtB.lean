/- Entries of prefix lists: what fits, which one is the first, what is permitted; on both sides. Under the conditions that they name. -/
import Derived.Test.YtkkhmdiffddllaaDoorUtA
import Derived.Test.YtkkhmdiffddllaaDoorAddrW2
namespace Go.Proofs.YtkkhmdiffddllaaDoor
open Go.Shelf Go.RowKit Go.Lib
/-- The place of the first that is so. -/
def fstI {α : Type} (p : α → Bool) : List α → Option Nat
  | [] => none
  | x :: l => if p x then some 0 else (fstI p l).map (· + 1)
theorem fstI_hit {α : Type} {p : α → Bool} {l : List α} {k : Nat} {x : α} (hx : l[k]? = some x) (hp : p x = true) (h : ∀ (t : Nat) (y : α), t < k → l[t]? = some y → p y = false) : fstI p l = some k := by
  induction l generalizing k with
  | nil => simp at hx
  | cons z l ih =>
    cases k with
    | zero => simp at hx; subst hx; simp [fstI, hp]
    | succ k =>
      have h0 : p z = false := h 0 z (by omega) (by simp)
      rw [fstI, h0, ih (k := k) (by simpa using hx) (fun t y ht hy => h (t + 1) y (by omega) (by simpa using hy))]
      rfl
theorem fstI_none {α : Type} {p : α → Bool} {l : List α} (h : ∀ (t : Nat) (y : α), l[t]? = some y → p y = false) : fstI p l = none := by
  induction l with
  | nil => rfl
  | cons z l ih =>
    have h0 : p z = false := h 0 z (by simp)
    rw [fstI, h0, ih (fun t y hy => h (t + 1) y (by simpa using hy))]
    rfl
theorem fstI_some {α : Type} {p : α → Bool} {l : List α} {k : Nat} (h : fstI p l = some k) : ∃ x, l[k]? = some x ∧ p x = true := by
  induction l generalizing k with
  | nil => simp [fstI] at h
  | cons z l ih =>
    rw [fstI] at h
    by_cases hz : p z = true
    · rw [if_pos hz] at h; cases h; exact ⟨z, by simp, hz⟩
    · rw [if_neg hz] at h
      cases hf : fstI p l with
      | none => rw [hf] at h; cases h
      | some m =>
        rw [hf] at h
        simp at h
        subst h
        obtain ⟨x, h1, h2⟩ := ih hf
        exact ⟨x, by simpa using h1, h2⟩
/-- What is told of a first place: the place, and that there is one. -/
def outI : Option Nat → Int × Bool
  | some i => (i, true)
  | none => (0, false)
/-- .. and as the document's own functions tell it: -1, if there is none. -/
def outR : Option Nat → Int
  | some i => i
  | none => -1
structure EntD where
  perm : Bool
  a : Int
  b : Int
  ge : Int
  le : Int
abbrev encE (e : EntD) : List Value := [.bool e.perm, .int .u32 e.a, .int .i64 e.b, .int .i64 e.ge, .int .i64 e.le]
/-- Does an entry fit a prefix? -/
def fitE (x n : Int) (e : EntD) : Bool := wiB x n e.a e.b && (decide (e.ge ≤ n) && decide (n ≤ e.le))
theorem heap_alc {w W : World} {x : Obj} (h : w.alloc x = W) : W.heap[w.heap.size]? = some x := by rw [← h]; exact heap_newU _ _
theorem heap_old {w W : World} {x y : Obj} {g : Nat} (h : w.alloc x = W) (hg : w.heap[g]? = some y) : W.heap[g]? = some y := by
  rw [← h]; exact (((Below.refl w.heap.size w).alloc (Nat.le_refl _) x).block g (Array.getElem?_eq_some_iff.1 hg).1).trans hg
theorem carryH {A C : World} {g : Nat} {x : Obj} (h : A.heap[g]? = some x) (hb : Below A.heap.size A C) : C.heap[g]? = some x := (hb.block g (Array.getElem?_eq_some_iff.1 h).1).trans h
set_option maxRecDepth 100000 in
theorem fits_is (p : Bool) (a b ge le x n : Int) (w : World) (ha : 0 ≤ a ∧ a < 4294967296) (hx : 0 ≤ x ∧ x < 4294967296) : Calls Tryd.prog 38 #[.agg #[.bool p, .int .u32 a, .int .i64 b, .int .i64 ge, .int .i64 le], .agg #[.int .u32 x, .int .i64 n]] w fun e w' => e = .returned (.bool (fitE x n ⟨p, a, b, ge, le⟩)) ∧ Below w.heap.size w w' := by
  obtain ⟨W1, hW1⟩ : ∃ X, w.alloc (.cells #[.bool p, .int .u32 a, .int .i64 b, .int .i64 ge, .int .i64 le] 51) = X := ⟨_, rfl⟩
  obtain ⟨W2, hW2⟩ : ∃ X, W1.alloc (.cells #[.int .u32 x, .int .i64 n] 49) = X := ⟨_, rfl⟩
  have z1 : W1.heap.size = w.heap.size + 1 := by rw [← hW1]; simp
  have B2 : Hid (Below w.heap.size w W2) := Lib.hid (by rw [← hW2, ← hW1]; exact ((Below.refl _ _).alloc (Nat.le_refl _) _).alloc (by simp) _)
  have HA : Hid (W2.heap[w.heap.size]? = some (.cells #[.bool p, .int .u32 a, .int .i64 b, .int .i64 ge, .int .i64 le] 51 (0, 0))) := Lib.hid (heap_old hW2 (heap_alc hW1))
  have HB : Hid (W2.heap[w.heap.size + 1]? = some (.cells #[.int .u32 x, .int .i64 n] 49 (0, 0))) := Lib.hid (by have := heap_alc hW2; rwa [z1] at this)
  obtain ⟨a1, a2⟩ : W2.cell? ⟨w.heap.size, 1, none⟩ = some (.int .u32 a) ∧ W2.cell? ⟨w.heap.size, 2, none⟩ = some (.int .i64 b) := ⟨cell_heap HA.out, cell_heap HA.out⟩
  obtain ⟨b0, b1⟩ : W2.cell? ⟨w.heap.size + 1, 0, none⟩ = some (.int .u32 x) ∧ W2.cell? ⟨w.heap.size + 1, 1, none⟩ = some (.int .i64 n) := ⟨cell_heap HB.out, cell_heap HB.out⟩
  have HW := Lib.hid (within_is x n a b W2 hx.1 hx.2 ha.1 ha.2)
  obtain ⟨r, hr⟩ : ∃ r, fitE x n ⟨p, a, b, ge, le⟩ = r := ⟨_, rfl⟩
  have HRr : Hid ((wiB x n a b && (decide (ge ≤ n) && decide (n ≤ le))) = r) := Lib.hid hr
  rw [hr]
  clear hr ha hx
  go_enter Tryd.func38, Tryd.ntmps38
  go_wp2_with fail
  go_at_call 57
  (with_reducible refine HW.out.mono ?_)
  rintro e W3 ⟨rfl, hb3⟩
  have HA3 := Lib.hid (carryH HA.out hb3)
  have HB3 := Lib.hid (carryH HB.out hb3)
  have B3 : Hid (Below w.heap.size w W3) := Lib.hid (Below.step B2.out hb3)
  obtain ⟨a3, a4⟩ : W3.cell? ⟨w.heap.size, 3, none⟩ = some (.int .i64 ge) ∧ W3.cell? ⟨w.heap.size, 4, none⟩ = some (.int .i64 le) := ⟨cell_heap HA3.out, cell_heap HA3.out⟩
  have b3 : W3.cell? ⟨w.heap.size + 1, 1, none⟩ = some (.int .i64 n) := cell_heap HB3.out
  clear hb3
  cases hwi : wiB x n a b with
  | false =>
    rw [hwi] at HRr
    go_wp2
    go_ret
    exact ⟨by rw [← HRr.out]; rfl, B3.out⟩
  | true =>
    rw [hwi] at HRr
    by_cases h1 : ge ≤ n
    · by_cases h2 : n ≤ le
      · go_wp2
        go_ret
        exact ⟨by rw [← HRr.out, decide_eq_true h1, decide_eq_true h2]; rfl, B3.out⟩
      · go_wp2
        go_ret
        exact ⟨by rw [← HRr.out, decide_eq_true h1, decide_eq_false (by omega : ¬ n ≤ le)]; rfl, B3.out⟩
    · go_wp2
      go_ret
      exact ⟨by rw [← HRr.out, decide_eq_false (by omega : ¬ ge ≤ n)]; rfl, B3.out⟩
theorem clos_is (k : Nat) (e : EntD) (x n : Int) (w : World) (hk : w.heap[k]? = some (.cells #[.int .u32 x, .int .i64 n] 49 (0, 0))) (ha : 0 ≤ e.a ∧ e.a < 4294967296) (hx : 0 ≤ x ∧ x < 4294967296) : Calls Tryd.prog 37 #[.agg #[.bool e.perm, .int .u32 e.a, .int .i64 e.b, .int .i64 e.ge, .int .i64 e.le], .pointer (some ⟨k, 0, none⟩)] w fun e' w' => e' = .returned (.bool (fitE x n e)) ∧ Below w.heap.size w w' := by
  obtain ⟨p, a, b, ge, le⟩ := e
  obtain ⟨W1, hW1⟩ : ∃ X, w.alloc (.cells #[.bool p, .int .u32 a, .int .i64 b, .int .i64 ge, .int .i64 le] 51) = X := ⟨_, rfl⟩
  have B1 : Hid (Below w.heap.size w W1) := Lib.hid (by rw [← hW1]; exact (Below.refl _ _).alloc (Nat.le_refl _) _)
  have HA := heap_alc hW1
  have HK := heap_old hW1 hk
  obtain ⟨a0, a1, a2, a3, a4⟩ : W1.cell? ⟨w.heap.size, 0, none⟩ = some (.bool p) ∧ W1.cell? ⟨w.heap.size, 1, none⟩ = some (.int .u32 a) ∧ W1.cell? ⟨w.heap.size, 2, none⟩ = some (.int .i64 b) ∧ W1.cell? ⟨w.heap.size, 3, none⟩ = some (.int .i64 ge) ∧ W1.cell? ⟨w.heap.size, 4, none⟩ = some (.int .i64 le) := ⟨cell_heap HA, cell_heap HA, cell_heap HA, cell_heap HA, cell_heap HA⟩
  obtain ⟨k0, k1⟩ : W1.cell? ⟨k, 0, none⟩ = some (.int .u32 x) ∧ W1.cell? ⟨k, 1, none⟩ = some (.int .i64 n) := ⟨cell_heap HK, cell_heap HK⟩
  have HF := Lib.hid (fits_is p a b ge le x n W1 ha hx)
  clear HA HK hk ha hx
  go_enter Tryd.func37, Tryd.ntmps37
  go_wp2_with fail
  go_at_call 38
  (with_reducible refine HF.out.mono ?_)
  rintro e W3 ⟨rfl, hb3⟩
  have B3 : Hid (Below w.heap.size w W3) := Lib.hid (Below.step B1.out hb3)
  clear hb3
  go_wp2
  go_ret
  exact ⟨rfl, B3.out⟩
end Go.Proofs.YtkkhmdiffddllaaDoor
