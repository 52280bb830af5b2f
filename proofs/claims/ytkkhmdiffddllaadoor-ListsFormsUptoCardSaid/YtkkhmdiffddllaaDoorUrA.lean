/- Slices of uint32 as lists of numbers: reading, and a copy into a row of one's own. Under the conditions that it names; nothing here speaks of the program. -/
import Derived.Test.YtkkhmdiffddllaaDoorFlW
import Derived.Laws.CopyOwn
import Derived.Laws.CopyRow
import Derived.Laws.IdiomCopy
import Derived.Laws.MakeOwn
import Derived.Deep.RegionLaw
import Derived.Lib.Hide
namespace Go.Proofs.YtkkhmdiffddllaaDoor
open Go.RowKit
def encU (x : Int) : List Value := [.int .u32 x]
theorem encU_len (x : Int) : (encU x).length = 1 := rfl
theorem encU_one : ∀ x, ∀ u ∈ encU x, u.oneCell' = true := fun x u hu => by
  have := List.mem_singleton.1 hu
  subst this; rfl
theorem flatU (l : List Int) : flatK encU l = l.map (Value.int .u32) := by
  induction l with
  | nil => rfl
  | cons x l ih => show encU x ++ flatK encU l = _; rw [ih]; rfl
theorem rdu_at {w : World} {b o n c : Nat} {l : List Int} (h : RdK encU 1 w (.slice (some ⟨b, o, none⟩) n c) l) {i : Nat} {x : Int} (hx : l[i]? = some x) : w.cell? ⟨b, o + i, none⟩ = some (.int .u32 x) := by
  obtain ⟨p, c', e, h2, h3, h4⟩ := h
  simp only [Value.slice.injEq] at e
  obtain ⟨rfl, rfl, rfl⟩ := e
  obtain ⟨b', o', e, h5, h6⟩ := h4 (by have := (List.getElem?_eq_some_iff.1 hx).1; omega)
  simp only [Option.some.injEq, Addr.mk.injEq] at e
  obtain ⟨rfl, rfl, _⟩ := e
  have := h6 i x hx 0 _ (by rfl : (encU x)[0]? = some (.int .u32 x))
  simpa using this
theorem own_sl {w : World} {B n k : Nat} {e : TypeId} {v : Value} {xs : List Value} (h : w.ownsRow B e k v n xs) : ∃ p c, v = .slice p n c := by
  rcases h.2 with ⟨rfl, hx⟩ | ⟨g, cap, cur, rfl, _⟩
  · exact ⟨none, 0, by rw [hx]⟩
  · exact ⟨_, _, rfl⟩
theorem own_blw {w W : World} {B n k : Nat} {e : TypeId} {v : Value} {xs : List Value} (h : w.ownsRow B e k v n xs) (hb : Below w.heap.size w W) : W.ownsRow B e k v n xs := by
  rcases h.2 with ⟨rfl, hx⟩ | ⟨g, cap, cur, rfl, h1, h2, h3⟩
  · exact ⟨h.1, .inl ⟨rfl, hx⟩⟩
  · exact ⟨h.1, .inr ⟨g, cap, cur, rfl, h1, (hb.block g (Array.getElem?_eq_some_iff.1 h2).1).trans h2, h3⟩⟩
theorem own_lower {w : World} {B B' n k : Nat} {e : TypeId} {v : Value} {xs : List Value} (h : w.ownsRow B e k v n xs) (hB : B' ≤ B) : w.ownsRow B' e k v n xs := by
  rcases h.2 with ⟨rfl, hx⟩ | ⟨g, cap, cur, rfl, h1, h3⟩
  · exact ⟨h.1, .inl ⟨rfl, hx⟩⟩
  · exact ⟨h.1, .inr ⟨g, cap, cur, rfl, by omega, h3⟩⟩
theorem own_setO {w : World} {B n k b o : Nat} {e : TypeId} {v u : Value} {xs : List Value} (h : w.ownsRow B e k v n xs) (hb : b < B) : (w.setCell ⟨b, o, none⟩ u).ownsRow B e k v n xs := by
  rcases h.2 with ⟨rfl, hx⟩ | ⟨g, cap, cur, rfl, h1, h2, h3⟩
  · exact ⟨h.1, .inl ⟨rfl, hx⟩⟩
  · refine ⟨h.1, .inr ⟨g, cap, cur, rfl, h1, ?_, h3⟩⟩
    rw [← h2]; unfold World.setCell
    simp [Array.getElem?_modify]
    intro e'; omega
theorem heap_newU (w : World) (x : Obj) : (w.alloc x).heap[w.heap.size]? = some x := by
  show (w.heap.push x)[w.heap.size]? = some x
  simp
theorem makeU {P : Program} {t e : TypeId} (ht : P.underlying t = some (.slice e)) (hi : (P.info? e).map (fun i => (i.zero, i.size, i.bytes)) = some (some (.int .u32 0), 1, 4)) (n c : Nat) (hn : n ≤ c) (hc : c ≤ 1099511627776) :
    ∃ C : Array Value, Hid (C.size = c) ∧ Hid (C.toList = List.replicate c (.int .u32 0)) ∧ ∀ w : World, (Instr.makeSlice t (.int .i64 n) (.int .i64 c)).run P w = .ok (.slice (some ⟨w.heap.size, 0, none⟩) n c) (w.alloc (.cells C e)) := by
  obtain ⟨i0, hi0, hy0, hy1, hy2⟩ := info_parts hi
  refine ⟨madeCells (Value.int .u32 0).cells (c * 1), Lib.hid (by rw [size_madeCells]; omega), Lib.hid (by rw [Nat.mul_one]; exact toList_madeCells_one _ _), fun w => ?_⟩
  have := run_make (P := P) w t e i0 (.int .u32 0) ht hi0 hy0 .i64 .i64 n c (by omega) (by omega) (by rw [hy2]; omega) (by omega)
  rw [hy1] at this
  simpa using this
theorem cell_heap {w : World} {g o : Nat} {cur : Array Value} {e : TypeId} {f : Nat × Nat} (h : w.heap[g]? = some (.cells cur e f)) : w.cell? ⟨g, o, none⟩ = cur[o]? := by
  simp [World.cell?, h]
theorem frozen_heap {w : World} {g o : Nat} {cur : Array Value} {e : TypeId} (h : w.heap[g]? = some (.cells cur e (0, 0))) : w.frozen? ⟨g, o, none⟩ = false := by
  simp [World.frozen?, h]
theorem heap_store {w : World} {g o : Nat} {v : Value} {cur : Array Value} {e : TypeId} {f : Nat × Nat} (h : w.heap[g]? = some (.cells cur e f)) : (w.setCell ⟨g, o, none⟩ v).heap[g]? = some (.cells (cur.setIfInBounds o v) e f) := by
  unfold World.setCell
  simp [Array.getElem?_modify, h]
theorem heap_setOther {w : World} {g b o : Nat} {v : Value} (h : b ≠ g) : (w.setCell ⟨b, o, none⟩ v).heap[g]? = w.heap[g]? := by
  unfold World.setCell
  simp [Array.getElem?_modify, h]
theorem heap_put8 {w : World} {g : Nat} {u0 u1 u2 u3 u4 u5 u6 u7 : Value} {e : TypeId} {f : Nat × Nat} (h : w.heap[g]? = some (.cells #[u0, u1, u2, u3, u4, u5, u6, u7] e f)) (v0 v1 v2 v3 v4 v5 v6 v7 : Value) : ((((((((w.setCell ⟨g, 0, none⟩ v0).setCell ⟨g, 1, none⟩ v1).setCell ⟨g, 2, none⟩ v2).setCell ⟨g, 3, none⟩ v3).setCell ⟨g, 4, none⟩ v4).setCell ⟨g, 5, none⟩ v5).setCell ⟨g, 6, none⟩ v6).setCell ⟨g, 7, none⟩ v7).heap[g]? = some (.cells #[v0, v1, v2, v3, v4, v5, v6, v7] e f) := by
  simpa using (heap_store (o := 7) (v := v7) (heap_store (o := 6) (v := v6) (heap_store (o := 5) (v := v5) (heap_store (o := 4) (v := v4) (heap_store (o := 3) (v := v3) (heap_store (o := 2) (v := v2) (heap_store (o := 1) (v := v1) (heap_store (o := 0) (v := v0) h))))))))
theorem own_put8 {w : World} {B n k g : Nat} {e : TypeId} {v : Value} {xs : List Value} (h : w.ownsRow B e k v n xs) (hb : g < B) (v0 v1 v2 v3 v4 v5 v6 v7 : Value) : ((((((((w.setCell ⟨g, 0, none⟩ v0).setCell ⟨g, 1, none⟩ v1).setCell ⟨g, 2, none⟩ v2).setCell ⟨g, 3, none⟩ v3).setCell ⟨g, 4, none⟩ v4).setCell ⟨g, 5, none⟩ v5).setCell ⟨g, 6, none⟩ v6).setCell ⟨g, 7, none⟩ v7).ownsRow B e k v n xs := (own_setO (own_setO (own_setO (own_setO (own_setO (own_setO (own_setO (own_setO h hb) hb) hb) hb) hb) hb) hb) hb)
theorem blw_put8 {w W : World} {B g : Nat} (h : Below B w W) (hb : B ≤ g) (v0 v1 v2 v3 v4 v5 v6 v7 : Value) : Below B w ((((((((W.setCell ⟨g, 0, none⟩ v0).setCell ⟨g, 1, none⟩ v1).setCell ⟨g, 2, none⟩ v2).setCell ⟨g, 3, none⟩ v3).setCell ⟨g, 4, none⟩ v4).setCell ⟨g, 5, none⟩ v5).setCell ⟨g, 6, none⟩ v6).setCell ⟨g, 7, none⟩ v7) := (Below.setCell (p := ⟨g, 7, none⟩) (Below.setCell (p := ⟨g, 6, none⟩) (Below.setCell (p := ⟨g, 5, none⟩) (Below.setCell (p := ⟨g, 4, none⟩) (Below.setCell (p := ⟨g, 3, none⟩) (Below.setCell (p := ⟨g, 2, none⟩) (Below.setCell (p := ⟨g, 1, none⟩) (Below.setCell (p := ⟨g, 0, none⟩) h hb _) hb _) hb _) hb _) hb _) hb _) hb _) hb _)
/-- copy of a list onto the beginning of a row. -/
theorem copyU {P : Program} {W : World} {dT ty e : TypeId} (hu : P.underlying dT = some (.slice e)) (hs : (P.info? e).map (·.size) = some 1) {g n c : Nat} {p : Option Addr} {cs : Nat} {C : Array Value} {l : List Int}
    (hg : W.heap[g]? = some (.cells C e (0, 0))) (hr : RdK encU 1 W (.slice p l.length cs) l) (hn : l.length ≤ n) (hC : l.length ≤ C.size) :
    ∃ W2, (Builtin.copy_ #[dT, dT] ty #[.slice (some ⟨g, 0, none⟩) n c, .slice p l.length cs]).run P W = .ok (.int .i64 (l.length : Int)) W2 ∧ Hid (W2.heap[g]? = some (.cells (splice C.toList 0 (flatK encU l)).toArray e (0, 0))) ∧ Hid (W.grownBy W2 (some g)) := by
  have hfl : (flatK encU l).length = l.length := by rw [flatK_length encU_len, Nat.mul_one]
  by_cases h0 : l.length = 0
  · refine ⟨W, ?_, Lib.hid ?_, Lib.hid (World.grownBy.refl _ _)⟩
    · have := run_copy_none (P := P) W dT dT ty e (some ⟨g, 0, none⟩) p n c l.length cs hu hs (by rw [h0]; simp)
      rw [this, h0]; rfl
    · obtain rfl := List.eq_nil_of_length_eq_zero h0
      simpa [splice, flatK] using hg
  · obtain ⟨p', c', e1, h2, h3, h4⟩ := hr
    simp only [Value.slice.injEq] at e1
    obtain ⟨rfl, _, rfl⟩ := e1
    obtain ⟨b, o, rfl, h5, h6⟩ := h4 (by omega)
    have := run_copy_row (P := P) W dT dT ty e g 0 n c ⟨b, o, none⟩ l.length cs C e (flatK encU l) hu hs hg (by rw [hfl]; exact (Nat.min_eq_left hn).symm) (flatK_cell encU_len (by decide) h6) (by omega) (fun v hv => by rw [flatU] at hv; obtain ⟨x, _, rfl⟩ := List.mem_map.1 hv; rfl)
    refine ⟨W.setRow g (C.toList.take 0 ++ flatK encU l ++ C.toList.drop (0 + (flatK encU l).length)).toArray, by rw [this, hfl]; rfl, Lib.hid ?_, Lib.hid ⟨rfl, rfl, rfl, by simp [World.setRow], fun k hk hne => setRow_other W g k _ (fun e => hne (by rw [e]))⟩⟩
    have h := setRow_heap W g C (C.toList.take 0 ++ flatK encU l ++ C.toList.drop (0 + (flatK encU l).length)).toArray e _ hg
    simpa [splice] using h
/-- A row that is wholly written over reads as what was written. -/
theorem own_copied {w : World} {base g n c : Nat} {t : TypeId} {L cs : List Value} (hg : w.heap[g]? = some (.cells (splice L 0 cs).toArray t (0, 0))) (hb : base ≤ g) (hL : L.length = c) (hn : cs.length = n) (hc : n ≤ c) (hm : c ≤ maxLen) :
    w.ownsRow base t 1 (.slice (some ⟨g, 0, none⟩) n c) n cs := by
  refine ⟨by omega, .inr ⟨g, c, _, rfl, hb, hg, hc, hm, ?_, ?_⟩⟩
  · simp [splice]; omega
  · simp [splice, ← hn]
end Go.Proofs.YtkkhmdiffddllaaDoor
