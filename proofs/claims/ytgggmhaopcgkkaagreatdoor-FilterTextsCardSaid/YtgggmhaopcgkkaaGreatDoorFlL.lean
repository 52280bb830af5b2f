/- The law FilterDecides: it answers true; what was there stands. No condition but that what is handed in is of its kind. -/
import Derived.Test.YtgggmhaopcgkkaaGreatDoorFlQ
import Derived.Deep.RegionHeld3
import Derived.Deep.DeepCutAuto
import Derived.BigQuiet
import Derived.Laws.Rows
import Derived.Deep.AppendLies
namespace Go.Proofs.YtgggmhaopcgkkaaGreatDoor
open Go.RowKit
theorem encR_len (r : RuleD) : (encR r).length = 10 := rfl
theorem encR_one (r : RuleD) : ∀ u ∈ encR r, u.oneCell' = true := by
  intro u hu
  simp only [encR, List.mem_cons, List.not_mem_nil, or_false] at hu
  rcases hu with rfl | rfl | rfl | rfl | rfl | rfl | rfl | rfl | rfl | rfl <;> rfl
theorem infoR : (Tryz.prog.info? 29).map (fun i => (i.zero, i.size, i.bytes)) = some (some (.agg #[.bool false, .int .i64 0, .int .u32 0, .int .i64 0, .int .u32 0, .int .i64 0, .int .u32 0, .int .u32 0, .int .u32 0, .int .u32 0]), 10, 64) := by kernel_rfl
theorem RdR.take {w : World} {p : Option Addr} {n c m : Nat} {l : List RuleD} (h : RdR w (.slice p n c) l) (hm : m ≤ n) : RdR w (.slice p m c) (l.take m) := ⟨h.rd.take hm, fun r hr => h.ok r (List.mem_of_mem_take hr)⟩
theorem ownBlock_len (p : Option Addr) (a b c : Nat) : (Value.slice p a c).ownBlock = (Value.slice p b c).ownBlock := by cases p <;> rfl
theorem ownsRow_of {w w' : World} {b : Nat} {e : TypeId} {k : Nat} {v : Value} {n : Nat} {xs : List Value} (h : w.ownsRow b e k v n xs) (hk : ∀ g, v.ownBlock = some g → b ≤ g → g < w.heap.size → w'.heap[g]? = w.heap[g]?) : w'.ownsRow b e k v n xs := by
  have hlt := h.lt
  refine ⟨h.1, ?_⟩
  rcases h.2 with hn | ⟨g, cap, cur, rfl, hg, hh, rest⟩
  · exact .inl hn
  · have := hlt g rfl
    exact .inr ⟨g, cap, cur, rfl, hg, by rw [hk g rfl this.1 this.2]; exact hh, rest⟩
theorem heap_setCell {w : World} {g o : Nat} {cur : Array Value} {e : TypeId} {f : Nat × Nat} (v : Value) (h : w.heap[g]? = some (.cells cur e f)) : (w.setCell ⟨g, o, none⟩ v).heap[g]? = some (.cells (cur.setIfInBounds o v) e f) := by
  unfold World.setCell
  simp [Array.getElem?_modify, h]
theorem own_at0 {W : World} {x : Obj} {n : Nat} (h : W.heap.size = n) : (W.alloc x).drew.heap[n]? = some x := by rw [← h]; exact heap_new _ _
theorem own_at1 {W : World} {x y : Obj} {n : Nat} (h : W.heap.size = n) : ((W.alloc x).alloc y).drew.heap[n]? = some x := by
  rw [← h]; exact (heap_alloc _ (by simp)).trans (heap_new _ _)
theorem own_at2 {W : World} {x y : Obj} {n : Nat} (h : W.heap.size = n) : ((W.alloc y).alloc x).drew.heap[n + 1]? = some x := by
  have e : ((W.alloc y).alloc x).heap[W.heap.size + 1]? = some x := by simpa using heap_new (W.alloc y) x
  rw [← h]
  exact e
theorem close_a {W1 w9 : World} {nm : ByteArray} {p9 : Option Addr} {c9 : Nat} {l : List RuleD} (hB : Below W1.heap.size W1 w9) (ho : w9.ownsRow W1.heap.size 29 10 (.slice p9 l.length c9) l.length (flatK encR l)) (hok : ∀ r ∈ l, r.ok) :
    ∃ g v9, Value.pointer (some ⟨w9.heap.size, 0, none⟩) = .pointer (some ⟨g, 0, none⟩) ∧ (w9.alloc (.cells #[.string nm, .slice p9 l.length c9] 39)).heap[g]? = some (.cells #[.string nm, v9] 39 (0, 0)) ∧ RdR (w9.alloc (.cells #[.string nm, .slice p9 l.length c9] 39)) v9 l ∧ Below W1.heap.size W1 (w9.alloc (.cells #[.string nm, .slice p9 l.length c9] 39)) :=
  ⟨_, _, rfl, heap_new _ _, ⟨(RdK.of_own encR_len ho).below ((Below.refl _ _).alloc (Nat.le_refl _) _), hok⟩, hB.alloc hB.size _⟩
theorem close_b {W1 w9 : World} {nm : ByteArray} {p9 : Option Addr} {c9 g : Nat} {l : List RuleD} (hB : Below W1.heap.size W1 w9) (ho : w9.ownsRow W1.heap.size 29 10 (.slice p9 l.length c9) l.length (flatK encR l)) (hok : ∀ r ∈ l, r.ok)
    (hx : w9.heap[g]? = some (.cells #[.string ⟨#[]⟩, .slice none 0 0] 39 (0, 0))) (hg : W1.heap.size ≤ g) (hne : ∀ x, (Value.slice p9 l.length c9).ownBlock = some x → x ≠ g) :
    ∃ g' v9, Value.pointer (some ⟨g, 0, none⟩) = .pointer (some ⟨g', 0, none⟩) ∧ ((w9.setCell ⟨g, 0, none⟩ (.string nm)).setCell ⟨g, 1, none⟩ (.slice p9 l.length c9)).heap[g']? = some (.cells #[.string nm, v9] 39 (0, 0)) ∧ RdR ((w9.setCell ⟨g, 0, none⟩ (.string nm)).setCell ⟨g, 1, none⟩ (.slice p9 l.length c9)) v9 l ∧ Below W1.heap.size W1 ((w9.setCell ⟨g, 0, none⟩ (.string nm)).setCell ⟨g, 1, none⟩ (.slice p9 l.length c9)) := by
  refine ⟨_, _, rfl, heap_setCell _ (heap_setCell _ hx), ⟨RdK.of_own encR_len (ownsRow_of ho fun x h1 _ _ => ?_), hok⟩, (hB.setCell (p := ⟨g, 0, none⟩) hg _).setCell (p := ⟨g, 1, none⟩) hg _⟩
  rw [Below.heap_setCell _ _ _ _ (hne x h1), Below.heap_setCell _ _ _ _ (hne x h1)]
theorem cell_far2 {W : World} {b o g i j : Nat} {v x y : Value} (h : W.cell? ⟨b, o, none⟩ = some v) (hne : b ≠ g) : ((W.setCell ⟨g, i, none⟩ x).setCell ⟨g, j, none⟩ y).cell? ⟨b, o, none⟩ = some v := by
  rw [← h]
  have e1 := Below.heap_setCell W ⟨g, i, none⟩ x b hne
  have e2 := Below.heap_setCell (W.setCell ⟨g, i, none⟩ x) ⟨g, j, none⟩ y b hne
  simp only [World.cell?, e2, e1]
theorem own_slice {w : World} {b : Nat} {e : TypeId} {k : Nat} {v : Value} {n : Nat} {xs : List Value} (h : w.ownsRow b e k v n xs) : ∃ p c, v = .slice p n c := by
  rcases h.2 with ⟨rfl, rfl⟩ | ⟨g, cap, cur, rfl, _⟩
  · exact ⟨_, _, rfl⟩
  · exact ⟨_, _, rfl⟩
theorem grown_all {W1 W w9 : World} {g : Nat} {v : Value} (hb : Below W1.heap.size W1 W) (h : W.grownBy w9 v.ownBlock) (hv : v.ownBlock = some g) (hg : W1.heap.size ≤ g) : (∀ b o, b < W.heap.size → b ≠ g → w9.cell? ⟨b, o, none⟩ = W.cell? ⟨b, o, none⟩) ∧ (∀ b o, b < W.heap.size → b ≠ g → w9.frozen? ⟨b, o, none⟩ = W.frozen? ⟨b, o, none⟩) ∧ (∀ b o, b < W1.heap.size → w9.cell? ⟨b, o, none⟩ = W1.cell? ⟨b, o, none⟩) ∧ (∀ b, b < W.heap.size → b ≠ g → w9.heap[b]? = W.heap[b]?) ∧ W.heap.size ≤ w9.heap.size ∧ Below W1.heap.size W1 w9 := by
  rw [hv] at h
  have h1 : ∀ b o, b < W.heap.size → b ≠ g → w9.cell? ⟨b, o, none⟩ = W.cell? ⟨b, o, none⟩ := fun b o h1 h2 => by
    have := h.block b h1 (fun e => h2 (Option.some.inj e))
    simp only [World.cell?, this]
  refine ⟨h1, fun b o h1 h2 => ?_, fun b o h2 => ?_, fun b h1 h2 => h.block b h1 (fun e => h2 (Option.some.inj e)), h.size, ?_⟩
  · have := h.block b h1 (fun e => h2 (Option.some.inj e))
    simp only [World.frozen?, this]
  · exact (h1 b o (by have := hb.size; omega) (by omega)).trans (hb.cell (p := ⟨b, o, none⟩) h2)
  · refine hb.trans ⟨h.os, h.tape, h.output, ?_, fun b hlt => ?_⟩
    · have := h.size; have := hb.size; omega
    · exact h.block b (by have := hb.size; omega) (fun e => by have := Option.some.inj e; omega)
end Go.Proofs.YtgggmhaopcgkkaaGreatDoor
