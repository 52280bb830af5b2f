/- What stays while a round of SpansSets writes into its own rows, and what the five sets are. Under the conditions that they name. -/
import Derived.Test.YtkgahpkkojnolaaSpSA
import Derived.Test.YtkgahpkkojnolaaSpSets
import Derived.Deep.AppendLies
namespace Go.Proofs.Ytkgahpkkojnolaa
open Go.RowKit
/-- The five sets. -/
def TT (l m : List (Nat × Nat)) (most : Nat) : Nat → Nat → Bool
  | 0 => has l
  | 1 => fun x => has l x || has m x
  | 2 => fun x => has l x && has m x
  | 3 => fun x => has l x && !has m x
  | _ => fun x => decide (x ≤ most) && !has l x
theorem TT_len (l m : List (Nat × Nat)) (most : Nat) (hmt : most < top) (hl : Small l) (hm : Small m) (h1 : l.length ≤ 200) (h2 : m.length ≤ 200) (i : Nat) : (Cn (TT l m most i)).length ≤ 1000 := by
  match i with
  | 0 => have := CnHas_length hl.two; show (Cn (has l)).length ≤ 1000; omega
  | 1 => have := Cn_length2 (p := TT l m most 1) (fun p q => p || q) rfl (fun x => rfl) hl.two hm.two; omega
  | 2 => have := Cn_length2 (p := TT l m most 2) (fun p q => p && q) rfl (fun x => rfl) hl.two hm.two; omega
  | 3 => have := Cn_length2 (p := TT l m most 3) (fun p q => p && !q) rfl (fun x => rfl) hl.two hm.two; omega
  | i + 4 =>
    have := Cn_length2 (p := TT l m most (i + 4)) (a := [(0, most)]) (fun p q => p && !q) rfl (fun x => by simp [TT, has]) (by simpa using hmt) hl.two
    simp only [List.length_singleton] at this
    omega
/-- The front of a row. -/
theorem rd_front {w : World} {B g cap n : Nat} {l : List (Nat × Nat)} {ys : List Value} (h : w.ownsRow B 27 2 (.slice (some ⟨g, 0, none⟩) n cap) n (flatS l ++ ys)) (hs : Small l) (hn : l.length ≤ n) (hlt : g < w.heap.size) : Rd w (.slice (some ⟨g, 0, none⟩) l.length cap) l := by
  have hcap : n ≤ cap ∧ cap ≤ maxLen := by
    rcases h.2 with ⟨h', _⟩ | ⟨g', cap', cur, h', _, _, h2, h3, _⟩
    · simp at h'
    · simp only [Value.slice.injEq, Option.some.injEq, Addr.mk.injEq, and_true, true_and] at h'
      omega
  refine ⟨hs, .inr ⟨g, 0, cap, rfl, by omega, hcap.2, hlt, fun i s hi => ?_⟩⟩
  have hil := (List.getElem?_eq_some_iff.1 hi).1
  obtain ⟨f1, f2⟩ := flatS_at hi
  rw [h.cellAt _ (by omega), h.cellAt _ (by omega), List.getElem?_append_left (by rw [flatS_length]; omega), List.getElem?_append_left (by rw [flatS_length]; omega)]
  rw [show 0 + i * 2 = 2 * i by omega]
  exact ⟨f1, f2⟩
theorem own_spans {W : World} {B n k : Nat} {e : TypeId} {v : Value} {xs : List Value} (h : W.ownsRow B e k v n xs) : ∃ p c, v = .slice p n c := by
  rcases h.2 with ⟨rfl, rfl⟩ | ⟨g, cap, cur, rfl, hg, hh, _⟩
  · exact ⟨_, _, rfl⟩
  · exact ⟨_, _, rfl⟩
theorem own_cap {w : World} {B g cap n k : Nat} {e : TypeId} {xs : List Value} (h : w.ownsRow B e k (.slice (some ⟨g, 0, none⟩) n cap) n xs) : n ≤ cap ∧ cap ≤ maxLen ∧ B ≤ g ∧ g < w.heap.size := by
  have hl := h.lt g rfl
  rcases h.2 with ⟨h', _⟩ | ⟨g', cap', cur, h', _, _, h2, h3, _⟩
  · simp at h'
  · simp only [Value.slice.injEq, Option.some.injEq, Addr.mk.injEq, and_true, true_and] at h'
    omega
theorem five_at {α : Type} {a b c d e v : α} {i : Nat} (h : [a, b, c, d, e][i]? = some v) : (i = 0 ∧ v = a) ∨ (i = 1 ∧ v = b) ∨ (i = 2 ∧ v = c) ∨ (i = 3 ∧ v = d) ∨ (i = 4 ∧ v = e) := by
  match i, h with
  | 0, h => exact .inl ⟨rfl, by simpa using h.symm⟩
  | 1, h => exact .inr (.inl ⟨rfl, by simpa using h.symm⟩)
  | 2, h => exact .inr (.inr (.inl ⟨rfl, by simpa using h.symm⟩))
  | 3, h => exact .inr (.inr (.inr (.inl ⟨rfl, by simpa using h.symm⟩)))
  | 4, h => exact .inr (.inr (.inr (.inr ⟨rfl, by simpa using h.symm⟩)))
  | i + 5, h => simp at h
/-- five_rd: five lists that read. -/
theorem five_rd {W : World} {T : Nat → List (Nat × Nat)} {a b c d e : Value} (h0 : Rd W a (T 0)) (h1 : Rd W b (T 1)) (h2 : Rd W c (T 2)) (h3 : Rd W d (T 3)) (h4 : Rd W e (T 4)) : ∀ (i : Nat) (v : Value), [a, b, c, d, e][i]? = some v → Rd W v (T i) := by
  intro i v h
  rcases five_at h with ⟨rfl, rfl⟩ | ⟨rfl, rfl⟩ | ⟨rfl, rfl⟩ | ⟨rfl, rfl⟩ | ⟨rfl, rfl⟩ <;> assumption
theorem five_all {P : Nat → Value → Prop} {a b c d e : Value} (h0 : P 0 a) (h1 : P 1 b) (h2 : P 2 c) (h3 : P 3 d) (h4 : P 4 e) : ∀ (i : Nat) (v : Value), [a, b, c, d, e][i]? = some v → P i v := by
  intro i v h
  rcases five_at h with ⟨rfl, rfl⟩ | ⟨rfl, rfl⟩ | ⟨rfl, rfl⟩ | ⟨rfl, rfl⟩ | ⟨rfl, rfl⟩ <;> assumption
theorem five_apart {a b c d e : Value} {s0 s1 s2 s3 s4 s5 : Nat} (h0 : ∀ x, a.ownBlock = some x → s0 ≤ x ∧ x < s1) (h1 : ∀ x, b.ownBlock = some x → s1 ≤ x ∧ x < s2) (h2 : ∀ x, c.ownBlock = some x → s2 ≤ x ∧ x < s3) (h3 : ∀ x, d.ownBlock = some x → s3 ≤ x ∧ x < s4) (h4 : ∀ x, e.ownBlock = some x → s4 ≤ x ∧ x < s5)
    (l1 : s0 ≤ s1) (l2 : s1 ≤ s2) (l3 : s2 ≤ s3) (l4 : s3 ≤ s4) (l5 : s4 ≤ s5) : (∀ (j k : Nat) (v u : Value) (x : Nat), j ≠ k → [a, b, c, d, e][j]? = some v → [a, b, c, d, e][k]? = some u → v.ownBlock = some x → u.ownBlock ≠ some x) ∧ (∀ (j : Nat) (v : Value) (x : Nat), [a, b, c, d, e][j]? = some v → v.ownBlock = some x → s0 ≤ x ∧ x < s5) := by
  refine ⟨?_, ?_⟩
  · intro j k v u x hjk hj hk hv hu
    rcases five_at hj with ⟨rfl, rfl⟩ | ⟨rfl, rfl⟩ | ⟨rfl, rfl⟩ | ⟨rfl, rfl⟩ | ⟨rfl, rfl⟩ <;> rcases five_at hk with ⟨rfl, rfl⟩ | ⟨rfl, rfl⟩ | ⟨rfl, rfl⟩ | ⟨rfl, rfl⟩ | ⟨rfl, rfl⟩ <;> first
      | exact hjk rfl
      | (have q0 := fun y hy => h0 y hy; have q1 := fun y hy => h1 y hy; have q2 := fun y hy => h2 y hy; have q3 := fun y hy => h3 y hy; have q4 := fun y hy => h4 y hy
         first
           | (have a1 := q0 x hv; have a2 := q1 x hu; omega) | (have a1 := q0 x hv; have a2 := q2 x hu; omega) | (have a1 := q0 x hv; have a2 := q3 x hu; omega) | (have a1 := q0 x hv; have a2 := q4 x hu; omega)
           | (have a1 := q1 x hv; have a2 := q0 x hu; omega) | (have a1 := q1 x hv; have a2 := q2 x hu; omega) | (have a1 := q1 x hv; have a2 := q3 x hu; omega) | (have a1 := q1 x hv; have a2 := q4 x hu; omega)
           | (have a1 := q2 x hv; have a2 := q0 x hu; omega) | (have a1 := q2 x hv; have a2 := q1 x hu; omega) | (have a1 := q2 x hv; have a2 := q3 x hu; omega) | (have a1 := q2 x hv; have a2 := q4 x hu; omega)
           | (have a1 := q3 x hv; have a2 := q0 x hu; omega) | (have a1 := q3 x hv; have a2 := q1 x hu; omega) | (have a1 := q3 x hv; have a2 := q2 x hu; omega) | (have a1 := q3 x hv; have a2 := q4 x hu; omega)
           | (have a1 := q4 x hv; have a2 := q0 x hu; omega) | (have a1 := q4 x hv; have a2 := q1 x hu; omega) | (have a1 := q4 x hv; have a2 := q2 x hu; omega) | (have a1 := q4 x hv; have a2 := q3 x hu; omega))
  · intro j v x hj hv
    rcases five_at hj with ⟨rfl, rfl⟩ | ⟨rfl, rfl⟩ | ⟨rfl, rfl⟩ | ⟨rfl, rfl⟩ | ⟨rfl, rfl⟩
    · have := h0 x hv; omega
    · have := h1 x hv; omega
    · have := h2 x hv; omega
    · have := h3 x hv; omega
    · have := h4 x hv; omega
theorem rd_form {w : World} {v : Value} {l : List (Nat × Nat)} (h : Rd w v l) : ∃ p c, v = .slice p l.length c := by
  obtain ⟨p, c, rfl, _⟩ := h.sl
  exact ⟨p, c, rfl⟩
theorem infoSl : (Try.prog.info? 22).map (fun i => (i.zero, i.size, i.bytes)) = some (some (.slice none 0 0), 1, 24) := by kernel_rfl
/-- What stays in a round: G: the sets that were got, in the block gg; all but the one at i. -/
structure Stay (wk Wg : World) (s0 gg : Nat) (G : List Value) (i : Nat) (cur : Array Value) (wr : World) : Prop where
  below : Below s0 wk wr
  size : Wg.heap.size ≤ wr.heap.size
  got : wr.heap[gg]? = some (.cells cur 22 (0, 0))
  oth : ∀ j v b, i ≤ j → G[j]? = some v → v.ownBlock = some b → wr.heap[b]? = Wg.heap[b]?
section
variable {wk Wg wr w' : World} {s0 gg i : Nat} {G : List Value} {cur : Array Value}
/-- A block that may be written. -/
def Free (s0 gg : Nat) (G : List Value) (i : Nat) (b : Nat) : Prop := s0 ≤ b ∧ b ≠ gg ∧ ∀ (j : Nat) (v : Value), i ≤ j → G[j]? = some v → v.ownBlock ≠ some b
theorem Stay.set (h : Stay wk Wg s0 gg G i cur wr) {b k : Nat} (u : Value) (hb : Free s0 gg G i b) : Stay wk Wg s0 gg G i cur (wr.setCell ⟨b, k, none⟩ u) :=
  ⟨h.below.setCell (p := ⟨b, k, none⟩) hb.1 u, by simpa using h.size, (Below.heap_setCell wr ⟨b, k, none⟩ u gg (by simp; exact fun e => hb.2.1 e.symm)).trans h.got,
   fun j v c hj hv hc => (Below.heap_setCell wr ⟨b, k, none⟩ u c (by simp; intro e; exact hb.2.2 j v hj hv (by rw [hc, e]))).trans (h.oth j v c hj hv hc)⟩
theorem Stay.step (h : Stay wk Wg s0 gg G i cur wr) (hb : Below wr.heap.size wr w') (hgg : gg < Wg.heap.size) (hs : s0 ≤ Wg.heap.size) (hG : ∀ (j : Nat) (v : Value) (b : Nat), G[j]? = some v → v.ownBlock = some b → b < gg) : Stay wk Wg s0 gg G i cur w' :=
  ⟨h.below.trans (hb.mono (by have := h.size; omega)), by have := h.size; have := hb.size; omega, (hb.block gg (by have := h.size; omega)).trans h.got,
   fun j v c hj hv hc => (hb.block c (by have := hG j v c hv hc; have := h.size; omega)).trans (h.oth j v c hj hv hc)⟩
theorem Stay.grown (h : Stay wk Wg s0 gg G i cur wr) {row : Option Nat} (hg : wr.grownBy w' row) (hgg : gg < Wg.heap.size) (hs : s0 ≤ Wg.heap.size) (hG : ∀ (j : Nat) (v : Value) (b : Nat), G[j]? = some v → v.ownBlock = some b → b < gg)
    (hr : ∀ b, row = some b → Free s0 gg G i b) : Stay wk Wg s0 gg G i cur w' :=
  ⟨h.below.grown hg (by have := h.size; omega) (fun k hk => (hr k hk).1), by have := h.size; have := hg.size; omega,
   (hg.block gg (by have := h.size; omega) (fun e => (hr gg e.symm).2.1 rfl)).trans h.got,
   fun j v c hj hv hc => (hg.block c (by have := hG j v c hv hc; have := h.size; omega) (fun e => (hr c e.symm).2.2 j v hj hv hc)).trans (h.oth j v c hj hv hc)⟩
theorem Stay.put (h : Stay wk Wg s0 gg G i cur wr) (k : Nat) (u : Value) (hgs : s0 ≤ gg) (hG : ∀ (j : Nat) (v : Value) (b : Nat), G[j]? = some v → v.ownBlock = some b → b < gg) : Stay wk Wg s0 gg G i (cur.setIfInBounds k u) (wr.setCell ⟨gg, k, none⟩ u) :=
  ⟨h.below.setCell (p := ⟨gg, k, none⟩) hgs u, by simpa using h.size, by simp [World.setCell, Array.getElem?_modify, h.got],
   fun j v c hj hv hc => (Below.heap_setCell wr ⟨gg, k, none⟩ u c (by have := hG j v c hv hc; simp; omega)).trans (h.oth j v c hj hv hc)⟩
theorem Stay.next (h : Stay wk Wg s0 gg G i cur wr) : Stay wk Wg s0 gg G (i + 1) cur wr :=
  ⟨h.below, h.size, h.got, fun j v c hj => h.oth j v c (by omega)⟩
end
end Go.Proofs.Ytkgahpkkojnolaa
