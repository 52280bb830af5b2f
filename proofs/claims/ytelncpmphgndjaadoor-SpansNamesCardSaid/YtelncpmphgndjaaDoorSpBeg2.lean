/- What begins of package spans hands back: the numbers at which pieces begin, rising, in new memory. Under the conditions that it names. -/
import Derived.Test.YtelncpmphgndjaaDoorSpBeg
import Derived.Test.YtelncpmphgndjaaDoorSpMerge2
namespace Go.Proofs.YtelncpmphgndjaaDoor
open Go.RowKit
theorem beg_sweep (w2 : World) (g0 most : Nat) (A B : List Nat) (v1 v2 : Value) (b1 b2 : Nat) (hb0 : w2.heap[g0]? = some (.cells #[.int .u32 most] 30 (0, 0))) (hmt : most < top) (h1 : OwnN 35 .u64 b1 w2 v1 A) (h2 : OwnN 35 .u64 b2 w2 v2 B)
    (hA : A.Pairwise (· < ·)) (hB : B.Pairwise (· < ·)) (hAt : ∀ c ∈ A, c ≤ top) (hBt : ∀ c ∈ B, c ≤ top) (hAl : A.length ≤ 400000000) (hBl : B.length ≤ 400000000) :
    Calls Tryd.prog 42 #[v1, v2, .func (.func 43) #[] #[.pointer (some ⟨g0, 0, none⟩), .pointer (some ⟨w2.heap.size, 0, none⟩)]] (w2.alloc (.cells #[.slice none 0 0] 49))
      fun e w' => e = .returned (.tuple #[]) ∧ ∃ D mv, D.Pairwise (· < ·) ∧ (∀ c, c ∈ D ↔ (c ∈ A ∨ c ∈ B) ∧ c ≤ most) ∧ D.length ≤ A.length + B.length ∧ OwnN 35 .u64 (w2.heap.size + 1) w' mv D ∧ w'.cell? ⟨w2.heap.size, 0, none⟩ = some mv ∧ Below w2.heap.size w2 w' := by
  have hg0 := heap_lt hb0
  have hold : ∀ (W : World), (∀ g, g < (w2.alloc (.cells #[.slice none 0 0] 49)).heap.size → g ≠ w2.heap.size → W.heap[g]? = (w2.alloc (.cells #[.slice none 0 0] 49)).heap[g]?) → ∀ g, g < w2.heap.size → W.heap[g]? = w2.heap[g]? := fun W h g hg => (h g (by simp; omega) (by omega)).trans (heap_alloc _ hg)
  have hask : Asks 43 #[.pointer (some ⟨g0, 0, none⟩), .pointer (some ⟨w2.heap.size, 0, none⟩)] A B v1 v2
      (fun i j y W => ∃ D mv, BJ g0 w2.heap.size most A B w2 (w2.alloc (.cells #[.slice none 0 0] 49)) i j y D mv W) := by
    refine ⟨?_, ?_, ?_⟩
    · rintro i j y W ⟨D, mv, hj⟩
      exact ⟨h1.rdn fun g _ hg => hold W hj.old g hg, h2.rdn fun g _ hg => hold W hj.old g hg⟩
    · rintro i j y W n ⟨D, mv, hj⟩
      exact ⟨D, mv, hj.rising, hj.mem, hj.len, hj.own, hj.b0, hj.b1, hj.old, hj.os, hj.tape, hj.output, hj.size⟩
    · rintro i j y c i' j' W ⟨D, mv, hj⟩ hsp hnx
      have hc := (hnx.split hA hB hsp).2.2.1
      have := hsp.ia
      have := hsp.jb
      exact beg_ask g0 w2.heap.size most A B hA hB w2 _ (by simp; omega) (by simp) (by omega) hmt i j y c i' j' D mv W hj hsp hnx (hc.elim (hAt c) (hBt c)) (by omega) _ _
  have hJ0 : ∃ D mv, BJ g0 w2.heap.size most A B w2 (w2.alloc (.cells #[.slice none 0 0] 49)) 0 0 0 D mv (w2.alloc (.cells #[.slice none 0 0] 49)) :=
    ⟨[], .slice none 0 0, List.Pairwise.nil, by simp, Nat.le_refl _, World.ownsRow_nil _ _ _ _, (heap_alloc _ hg0).trans hb0, heap_new _ _, fun _ _ _ => rfl, rfl, rfl, rfl, Nat.le_refl _⟩
  refine (sweep_is 43 _ (enters_of Tryd.func43 (by kernel_rfl) rfl) A B v1 v2 _ hask hA hB hAt hBt (by omega) (by omega) _ hJ0).mono ?_
  rintro e w' ⟨he, y, hsp, D, mv, hj⟩
  refine ⟨he, D, mv, hj.rising, fun c => ?_, hj.len, ?_, cell_of_heap hj.b1, ⟨hj.os, hj.tape, hj.output, ?_, fun g hg => hold w' hj.old g hg⟩⟩
  · have := hj.mem c
    rw [List.take_length, List.take_length] at this
    exact this
  · have := hj.own
    simpa using this
  · have := hj.size
    simp at this; omega
/-- The numbers at which pieces begin. -/
structure Beg (most : Nat) (ls : List (List (Nat × Nat))) (R : List Nat) : Prop where
  rising : R.Pairwise (· < ·)
  mem : ∀ c, c ∈ R ↔ c = 0 ∨ (c ≤ most ∧ ∃ l ∈ ls, c ∈ cutsOf (Cn (has l)))
  len : R.length + 1 ≤ 2 * max ls.length 1 + 2 * ls.flatten.length
theorem Beg.none (most : Nat) : Beg most [] [0] := ⟨by simp, by simp, by simp⟩
theorem Beg.one {most : Nat} {l : List (Nat × Nat)} {D : List Nat} (hl : Small l) (h1 : D.Pairwise (· < ·)) (h2 : ∀ c, c ∈ D ↔ (c ∈ [0] ∨ c ∈ cutsOf (Cn (has l))) ∧ c ≤ most) (h3 : D.length ≤ 1 + (cutsOf (Cn (has l))).length) : Beg most [l] D := by
  refine ⟨h1, fun c => ?_, ?_⟩
  · rw [h2]
    simp
    constructor
    · rintro ⟨h | h, h'⟩
      · exact .inl h
      · exact .inr ⟨h', h⟩
    · rintro (rfl | ⟨h, h'⟩)
      · exact ⟨.inl rfl, Nat.zero_le _⟩
      · exact ⟨.inr h', h⟩
  · have := CnHas_length hl.two
    rw [cutsOf_length] at h3
    simp; omega
theorem Beg.two {most : Nat} {l m : List (List (Nat × Nat))} {A B D : List Nat} (hl : l ≠ []) (hm : m ≠ []) (hA : Beg most l A) (hB : Beg most m B) (h1 : D.Pairwise (· < ·)) (h2 : ∀ c, c ∈ D ↔ (c ∈ A ∨ c ∈ B) ∧ c ≤ most) (h3 : D.length ≤ A.length + B.length) : Beg most (l ++ m) D := by
  refine ⟨h1, fun c => ?_, ?_⟩
  · rw [h2, hA.mem, hB.mem]
    constructor
    · rintro ⟨(h | ⟨h, k, hk, hc⟩) | (h | ⟨h, k, hk, hc⟩), h'⟩
      · exact .inl h
      · exact .inr ⟨h, k, by simp [hk], hc⟩
      · exact .inl h
      · exact .inr ⟨h, k, by simp [hk], hc⟩
    · rintro (rfl | ⟨h, k, hk, hc⟩)
      · exact ⟨.inl (.inl rfl), Nat.zero_le _⟩
      · rcases List.mem_append.1 hk with hk | hk
        · exact ⟨.inl (.inr ⟨h, k, hk, hc⟩), h⟩
        · exact ⟨.inr (.inr ⟨h, k, hk, hc⟩), h⟩
  · have := hA.len
    have := hB.len
    have := List.length_pos_iff.2 hl
    have := List.length_pos_iff.2 hm
    simp only [List.length_append, List.flatten_append]
    omega
theorem Beg.le {most : Nat} {ls : List (List (Nat × Nat))} {R : List Nat} (h : Beg most ls R) : ∀ c ∈ R, c ≤ most := by
  intro c hc
  rcases (h.mem c).1 hc with rfl | ⟨h, _⟩
  · exact Nat.zero_le _
  · exact h
/-- What begins hands back. -/
def BegPost (most : Nat) (ls : List (List (Nat × Nat))) (w : World) (e : Ending) (w' : World) : Prop := ∃ v R, e = .returned v ∧ Beg most ls R ∧ OwnN 35 .u64 w.heap.size w' v R ∧ Below w.heap.size w w'
end Go.Proofs.YtelncpmphgndjaaDoor
