/- Does a list of entries permit a prefix? On both sides. Under the conditions that they name. -/
import Derived.Test.YtkkhmdiffddllaaDoorUtC
namespace Go.Proofs.YtkkhmdiffddllaaDoor
open Go.Shelf Go.RowKit Go.Lib
/-- What the first that is so says; no, if none is. -/
def lets {α : Type} (p perm : α → Bool) (l : List α) : Bool :=
  match fstI p l with
  | some i => match l[i]? with
    | some x => perm x
    | none => false
  | none => false
set_option maxRecDepth 100000 in
set_option maxHeartbeats 1000000 in
theorem permits_is (nm : ByteArray) (v : Value) (es : List EntD) (x n : Int) (w : World) (hv : RdK encE 5 w v es) (ho : OkE es) (hx : 0 ≤ x ∧ x < 4294967296) (hl : es.length ≤ 35184372087808) : Calls Tryd.prog 27 #[.agg #[.string nm, v], .agg #[.int .u32 x, .int .i64 n]] w fun e w' =>
    e = .returned (.bool (lets (fitE x n) EntD.perm es)) ∧ Below w.heap.size w w' := by
  obtain ⟨vp, vc, hvv, g2, g3, h4⟩ := hv.sl
  obtain ⟨W1, hW1⟩ : ∃ X, w.alloc (.cells #[.string nm, v] 54) = X := ⟨_, rfl⟩
  have z1 : W1.heap.size = w.heap.size + 1 := by rw [← hW1]; simp
  obtain ⟨W2, hW2⟩ : ∃ X, W1.alloc (.cells #[.int .u32 x, .int .i64 n] 49) = X := ⟨_, rfl⟩
  have B2 : Hid (Below w.heap.size w W2) := Lib.hid (by rw [← hW2, ← hW1]; exact ((Below.refl _ _).alloc (Nat.le_refl _) _).alloc (by simp) _)
  have HA : Hid (W2.heap[w.heap.size]? = some (.cells #[.string nm, v] 54 (0, 0))) := Lib.hid (heap_old hW2 (heap_alc hW1))
  have HB : Hid (W2.heap[w.heap.size + 1]? = some (.cells #[.int .u32 x, .int .i64 n] 49 (0, 0))) := Lib.hid (by have := heap_alc hW2; rwa [z1] at this)
  have gs : w.heap.size + 1 < W2.heap.size := (Array.getElem?_eq_some_iff.1 HB.out).1
  have gt : w.heap.size < W2.heap.size := Nat.lt_of_succ_lt gs
  obtain ⟨b0, b1⟩ : W2.cell? ⟨w.heap.size + 1, 0, none⟩ = some (.int .u32 x) ∧ W2.cell? ⟨w.heap.size + 1, 1, none⟩ = some (.int .i64 n) := ⟨cell_heap HB.out, cell_heap HB.out⟩
  obtain ⟨a0, a1⟩ : W2.cell? ⟨w.heap.size, 0, none⟩ = some (.string nm) ∧ W2.cell? ⟨w.heap.size, 1, none⟩ = some v := ⟨cell_heap HA.out, cell_heap HA.out⟩
  have H4 := Lib.hid h4
  have C := Lib.hid (entry_is nm v es x n W2 (hv.below B2.out) ho hx hl)
  clear hv ho hx h4 g2 g3
  cases hf : fstI (fitE x n) es with
  | none =>
    have hr : lets (fitE x n) EntD.perm es = false := by simp [lets, hf]
    have C2 : Hid (Calls Tryd.prog 26 #[.agg #[.string nm, v], .agg #[.int .u32 x, .int .i64 n]] W2 fun e w' => e = .returned (.tuple #[.int .i64 0, .bool false]) ∧ Below W2.heap.size W2 w') := Lib.hid (by have c := C.out; rw [hf] at c; exact c)
    rw [hr]
    clear C hf hr
    subst hvv
    go_enter Tryd.func27, Tryd.ntmps27
    go_wp2_with fail
    go_at_call 26
    (with_reducible refine C2.out.mono ?_)
    rintro e W3 ⟨rfl, hb3⟩
    have B3 : Hid (Below w.heap.size w W3) := Lib.hid (Below.step B2.out hb3)
    have HA3 := Lib.hid (carryH HA.out hb3)
    have a3 : W3.cell? ⟨w.heap.size, 1, none⟩ = some (.slice vp es.length vc) := cell_heap HA3.out
    clear hb3
    go_wp2
    go_ret
    exact ⟨rfl, B3.out⟩
  | some k =>
    obtain ⟨y, hy, _⟩ := fstI_some hf
    have hr : lets (fitE x n) EntD.perm es = y.perm := by simp [lets, hf, hy]
    obtain ⟨b, o, rfl, hbs, hc⟩ := H4.out k y hy
    have HC := Lib.hid hc
    have hk := (List.getElem?_eq_some_iff.1 hy).1
    have hkz : (k : Int) < (es.length : Int) := by omega
    have hkn : ¬ (k : Int) < 0 := by omega
    have hkp : (0 : Int) ≤ (k : Int) := by omega
    clear hc hy
    have C2 : Hid (Calls Tryd.prog 26 #[.agg #[.string nm, v], .agg #[.int .u32 x, .int .i64 n]] W2 fun e w' => e = .returned (.tuple #[.int .i64 ((k : Nat) : Int), .bool true]) ∧ Below W2.heap.size W2 w') := Lib.hid (by have c := C.out; rw [hf] at c; exact c)
    rw [hr]
    clear C hf hr
    subst hvv
    go_enter Tryd.func27, Tryd.ntmps27
    go_wp2_with fail
    go_at_call 26
    (with_reducible refine C2.out.mono ?_)
    rintro e W3 ⟨rfl, hb3⟩
    have B3 : Hid (Below w.heap.size w W3) := Lib.hid (Below.step B2.out hb3)
    have HA3 := Lib.hid (carryH HA.out hb3)
    have a3 : W3.cell? ⟨w.heap.size, 1, none⟩ = some (.slice (some ⟨b, o, none⟩) es.length vc) := cell_heap HA3.out
    clear hb3
    have c0 : W3.cell? ⟨b, o + k * 5, none⟩ = some (.bool y.perm) := HC.out W3 B3.out 0 _ rfl
    go_wp2
    go_ret
    exact ⟨rfl, B3.out⟩
end Go.Proofs.YtkkhmdiffddllaaDoor
