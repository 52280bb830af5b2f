/- How lines lie in memory: a row of lines, and for each a row of its words. No condition but those named. -/
import Derived.Test.YthkiojedkafdhaaLnC
namespace Go.Proofs.Ythkiojedkafdhaa
open Go.RowKit
/-- A line's cells. -/
def lnC (x : Ln × Value) : List Value := [.int .i64 x.1.2.1, x.2]
def LinesAt (W : World) (B : Nat) (lt wt : TypeId) (v : Value) (L : List (Ln × Value)) : Prop :=
  W.ownsRow B lt 2 v L.length (L.flatMap lnC) ∧ ∀ x ∈ L, W.ownsRow B wt 3 x.2 x.1.2.2.length (x.1.2.2.flatMap (wdC x.1.1)) ∧ ∀ g, x.2.ownBlock = some g → v.ownBlock ≠ some g
theorem LinesAt.nil (W : World) (B : Nat) (lt wt : TypeId) : LinesAt W B lt wt (.slice none 0 0) [] := ⟨World.ownsRow_nil _ _ _ _, fun _ h => by cases h⟩
theorem LinesAt.on {W W' : World} {B : Nat} {lt wt : TypeId} {v : Value} {L : List (Ln × Value)} (h : LinesAt W B lt wt v L) (hk : ∀ x, B ≤ x → x < W.heap.size → W'.heap[x]? = W.heap[x]?) : LinesAt W' B lt wt v L :=
  ⟨ownsRow_of h.1 (fun x _ hx hl => hk x hx hl), fun y hy => ⟨ownsRow_of (h.2 y hy).1 (fun x _ hx hl => hk x hx hl), (h.2 y hy).2⟩⟩
theorem LinesAt.base {W : World} {B B' : Nat} {lt wt : TypeId} {v : Value} {L : List (Ln × Value)} (h : LinesAt W B lt wt v L) (hb : B' ≤ B) : LinesAt W B' lt wt v L :=
  ⟨ownsRow_base h.1 hb, fun y hy => ⟨ownsRow_base (h.2 y hy).1 hb, (h.2 y hy).2⟩⟩
/-- One line more. w: ahead of what made its words; w4: behind that; w9: behind the append. -/
theorem LinesAt.push {w w4 w5 w9 : World} {B g9 cap9 n : Nat} {lt wt : TypeId} {s wv : Value} {L : List (Ln × Value)} {num : Int} {ws : List (List UInt8 × Int)} (h : LinesAt w B lt wt s L)
    (hk4 : ∀ x, B ≤ x → x < w.heap.size → w4.heap[x]? = w.heap[x]?) (hs4 : w.heap.size ≤ w4.heap.size) (hBw : B ≤ w.heap.size) (hw : w4.ownsRow w.heap.size wt 3 wv ws.length (ws.flatMap (wdC num)))
    (hk5 : ∀ x, x < w4.heap.size → w5.heap[x]? = w4.heap[x]?) (hs5 : w4.heap.size ≤ w5.heap.size) (hgr : w5.grownBy w9 s.ownBlock)
    (hown : w9.ownsRow B lt 2 (.slice (some ⟨g9, 0, none⟩) (L.length + 1) cap9) (L.length + 1) (L.flatMap lnC ++ [.int .i64 n, wv])) (hor : s.ownBlock = some g9 ∨ g9 = w5.heap.size) :
    LinesAt w9 B lt wt (.slice (some ⟨g9, 0, none⟩) (L.length + 1) cap9) (L ++ [((num, n, ws), wv)]) := by
  refine ⟨?_, ?_⟩
  · rw [List.length_append, List.flatMap_append]
    simpa [lnC] using hown
  · intro x hx
    rcases List.mem_append.1 hx with hx | hx
    · obtain ⟨h1, h2⟩ := h.2 x hx
      refine ⟨ownsRow_of h1 (fun y hy hyb hyl => ?_), fun g hg => ?_⟩
      · exact (hgr.block y (by omega) (fun e => h2 y hy e.symm)).trans ((hk5 y (by omega)).trans (hk4 y hyb hyl))
      · intro e
        have e2 : g9 = g := by simpa [Value.ownBlock] using e
        rcases hor with ho | ho
        · exact h2 g hg (by rw [ho, e2])
        · have := (h1.lt g hg).2
          omega
    · simp only [List.mem_singleton] at hx
      subst hx
      refine ⟨ownsRow_base (ownsRow_of hw (fun y hy hyb hyl => ?_)) hBw, fun g hg => ?_⟩
      · exact (hgr.block y (by omega) (fun e => by have := (h.1.lt y e.symm).2; omega)).trans (hk5 y hyl)
      · intro e
        have e2 : g9 = g := by simpa [Value.ownBlock] using e
        have h3 := hw.lt g hg
        rcases hor with ho | ho
        · have := (h.1.lt g9 ho).2
          omega
        · omega
/-- What Lines hands back. -/
def LinPost (lt wt : TypeId) (l : List UInt8) (w : World) (e : Ending) (w' : World) : Prop := Below w.heap.size w w' ∧
  ((∃ u v E : Int, E ≠ 0 ∧ ChkV l = .tuple #[.agg #[.int .i64 u, .int .i64 v], .int .i64 E] ∧ e = .returned (.tuple #[.slice none 0 0, .agg #[.int .i64 u, .int .i64 v], .int .i64 E])) ∨
   (∃ (s : Value) (L : List (Ln × Value)), ChkV l = .tuple #[.agg #[.int .i64 0, .int .i64 0], .int .i64 0] ∧ e = .returned (.tuple #[s, .agg #[.int .i64 0, .int .i64 0], .int .i64 0]) ∧ L.map Prod.fst = lnk l 1 ∧ LinesAt w' w.heap.size lt wt s L))
end Go.Proofs.Ythkiojedkafdhaa
