/- A block of cells known whole: what it holds behind a store, and a row of spans in it. No condition; nothing here speaks of the program. -/
import Derived.Test.YtbplkeopdfciiaaDoorSpKit
import Derived.Test.YtbplkeopdfciiaaDoorProg
namespace Go.Proofs.YtbplkeopdfciiaaDoor
open Go.RowKit
theorem cell_of_heap {w : World} {g o : Nat} {cur : Array Value} {e : TypeId} {f : Nat × Nat} (h : w.heap[g]? = some (.cells cur e f)) : w.cell? ⟨g, o, none⟩ = cur[o]? := by
  simp [World.cell?, h]
theorem frozen_of_heap {w : World} {g o : Nat} {cur : Array Value} {e : TypeId} (h : w.heap[g]? = some (.cells cur e (0, 0))) : w.frozen? ⟨g, o, none⟩ = false := by
  simp [World.frozen?, h]
theorem heap_setCell {w : World} {g o : Nat} {cur : Array Value} {e : TypeId} {f : Nat × Nat} (v : Value) (h : w.heap[g]? = some (.cells cur e f)) : (w.setCell ⟨g, o, none⟩ v).heap[g]? = some (.cells (cur.setIfInBounds o v) e f) := by
  unfold World.setCell
  simp [Array.getElem?_modify, h]
theorem heap_setCell_ne {w : World} {g b o : Nat} (v : Value) (h : b ≠ g) : (w.setCell ⟨b, o, none⟩ v).heap[g]? = w.heap[g]? := by
  unfold World.setCell
  simp [Array.getElem?_modify, h]
theorem heap_alloc {w : World} {g : Nat} (x : Obj) (h : g < w.heap.size) : (w.alloc x).heap[g]? = w.heap[g]? := by
  have := (Below.refl w.heap.size w).alloc (Nat.le_refl _) x
  exact this.block g h
theorem heap_new (w : World) (x : Obj) : (w.alloc x).heap[w.heap.size]? = some x := by
  unfold World.alloc
  exact Array.getElem?_push_size
/-- A row of which the first cells are F's, and those from i on still L's. -/
def Row (w : World) (g cap : Nat) (F L : List (Nat × Nat)) (i : Nat) : Prop :=
  ∃ cur, w.heap[g]? = some (.cells cur 33 (0, 0)) ∧ cur.size = cap * 2 ∧
    (∀ k s, F[k]? = some s → cur[k * 2]? = some (.int .u32 s.1) ∧ cur[k * 2 + 1]? = some (.int .u32 s.2)) ∧
    (∀ k s, i ≤ k → L[k]? = some s → cur[k * 2]? = some (.int .u32 s.1) ∧ cur[k * 2 + 1]? = some (.int .u32 s.2))
theorem Row.later {w : World} {g cap : Nat} {F L : List (Nat × Nat)} {i j : Nat} (h : Row w g cap F L i) (hj : i ≤ j) : Row w g cap F L j := by
  obtain ⟨cur, h1, h2, h3, h4⟩ := h
  exact ⟨cur, h1, h2, h3, fun k s hk => h4 k s (by omega)⟩
theorem Row.of {w w' : World} {g cap : Nat} {F L : List (Nat × Nat)} {i : Nat} (h : Row w g cap F L i) (e : w'.heap[g]? = w.heap[g]?) : Row w' g cap F L i := by
  obtain ⟨cur, h1, h2⟩ := h
  exact ⟨cur, e.trans h1, h2⟩
theorem Row.lt {w : World} {g cap : Nat} {F L : List (Nat × Nat)} {i : Nat} (h : Row w g cap F L i) : g < w.heap.size := by
  obtain ⟨cur, h1, _⟩ := h
  exact (Array.getElem?_eq_some_iff.1 h1).1
theorem Row.below {w w' : World} {g cap : Nat} {F L : List (Nat × Nat)} {i : Nat} (h : Row w g cap F L i) (hb : Below w.heap.size w w') : Row w' g cap F L i := h.of (hb.block g h.lt)
theorem Row.cellF {w : World} {g cap : Nat} {F L : List (Nat × Nat)} {i k : Nat} {s : Nat × Nat} (h : Row w g cap F L i) (hk : F[k]? = some s) : w.cell? ⟨g, k * 2, none⟩ = some (.int .u32 s.1) ∧ w.cell? ⟨g, k * 2 + 1, none⟩ = some (.int .u32 s.2) := by
  obtain ⟨cur, h1, h2, h3, h4⟩ := h
  rw [cell_of_heap h1, cell_of_heap h1]
  exact h3 k s hk
theorem Row.cellL {w : World} {g cap : Nat} {F L : List (Nat × Nat)} {i k : Nat} {s : Nat × Nat} (h : Row w g cap F L i) (hi : i ≤ k) (hk : L[k]? = some s) : w.cell? ⟨g, k * 2, none⟩ = some (.int .u32 s.1) ∧ w.cell? ⟨g, k * 2 + 1, none⟩ = some (.int .u32 s.2) := by
  obtain ⟨cur, h1, h2, h3, h4⟩ := h
  rw [cell_of_heap h1, cell_of_heap h1]
  exact h4 k s hi hk
theorem Row.free {w : World} {g cap : Nat} {F L : List (Nat × Nat)} {i : Nat} (h : Row w g cap F L i) (o : Nat) : w.frozen? ⟨g, o, none⟩ = false := by
  obtain ⟨cur, h1, _⟩ := h
  exact frozen_of_heap h1
theorem Row.there {w : World} {g cap : Nat} {F L : List (Nat × Nat)} {i : Nat} (h : Row w g cap F L i) {o : Nat} (ho : o < cap * 2) : (w.cell? ⟨g, o, none⟩).isSome = true := by
  obtain ⟨cur, h1, h2, _⟩ := h
  rw [cell_of_heap h1, Array.getElem?_eq_getElem (by omega)]
  rfl
theorem Row.flat {w : World} {g cap : Nat} {F L : List (Nat × Nat)} {i : Nat} (h : Row w g cap F L i) : ∃ cur, w.heap[g]? = some (.cells cur 33 (0, 0)) ∧ cur.size = cap * 2 ∧ cur.toList.take (F.length * 2) = flatS F := by
  obtain ⟨cur, h1, h2, h3, h4⟩ := h
  refine ⟨cur, h1, h2, ?_⟩
  apply List.ext_getElem?
  intro j
  rw [List.getElem?_take]
  by_cases hj : j < F.length * 2
  · rw [if_pos hj, Array.getElem?_toList]
    have hk : F[j / 2]? = some (F[j / 2]'(by omega)) := List.getElem?_eq_getElem (by omega)
    obtain ⟨c1, c2⟩ := h3 _ _ hk
    obtain ⟨d1, d2⟩ := flatS_at hk
    rcases Nat.mod_two_eq_zero_or_one j with e | e
    · have e1 : j / 2 * 2 = j := by omega
      have e2 : 2 * (j / 2) = j := by omega
      rw [e1] at c1; rw [e2] at d1
      rw [c1, d1]
    · have e1 : j / 2 * 2 + 1 = j := by omega
      have e2 : 2 * (j / 2) + 1 = j := by omega
      rw [e1] at c2; rw [e2] at d2
      rw [c2, d2]
  · rw [if_neg hj, List.getElem?_eq_none (by rw [flatS_length]; omega)]
theorem Row.own {w : World} {b g cap n : Nat} {F L : List (Nat × Nat)} {i : Nat} (h : Row w g cap F L i) (hF : Small F) (hb : b ≤ g) (hn : n = F.length) (hle : F.length ≤ cap) (hcap : cap ≤ maxLen) : Own b w (.slice (some ⟨g, 0, none⟩) n cap) F := by
  subst hn
  obtain ⟨cur, h1, h2, h3⟩ := h.flat
  exact ⟨hF, by rw [flatS_length]; omega, .inr ⟨g, cap, cur, rfl, hb, h1, hle, hcap, h2, h3⟩⟩
theorem Row.olds {w : World} {g cap : Nat} {F L : List (Nat × Nat)} {i : Nat} (h : Row w g cap F L i) : ∀ j u, (flatS F)[j]? = some u → w.cell? ⟨g, 0 + j, none⟩ = some u := by
  intro j u hj
  obtain ⟨cur, h1, h2, h3⟩ := h.flat
  rw [← h3, List.getElem?_take] at hj
  split at hj
  · rw [cell_of_heap h1, Nat.zero_add, ← Array.getElem?_toList]
    exact hj
  · cases hj
theorem Own.row {w : World} {b : Nat} {v : Value} {l : List (Nat × Nat)} (h : Own b w v l) : (v = .slice none 0 0 ∧ l = []) ∨ ∃ g cap, v = .slice (some ⟨g, 0, none⟩) l.length cap ∧ b ≤ g ∧ l.length ≤ cap ∧ cap ≤ maxLen ∧ Row w g cap [] l 0 ∧ g < w.heap.size := by
  have hown := h.2
  rcases h.2.2 with ⟨rfl, hx⟩ | ⟨g, cap, cur, rfl, hg, hh, hle, hm, hsz, hc⟩
  · exact .inl ⟨rfl, List.eq_nil_of_length_eq_zero hx⟩
  · refine .inr ⟨g, cap, rfl, hg, hle, hm, ⟨cur, hh, hsz, fun k s hk => by simp at hk, fun k s _ hk => ?_⟩, (hown.lt g rfl).2⟩
    have h1 := hown.cells (g := g) rfl (2 * k) _ (flatS_at hk).1
    have h2 := hown.cells (g := g) rfl (2 * k + 1) _ (flatS_at hk).2
    rw [addr_add, cell_of_heap hh] at h1 h2
    rw [show k * 2 = 2 * k from by omega]
    exact ⟨h1, h2⟩
theorem Row.all {w : World} {g cap : Nat} {l : List (Nat × Nat)} (h : Row w g cap [] l 0) : Row w g cap l [] 0 := by
  obtain ⟨cur, h1, h2, _, h4⟩ := h
  exact ⟨cur, h1, h2, fun k s hk => h4 k s (Nat.zero_le _) hk, fun k s _ hk => by simp at hk⟩
/-- A span more at the end of what is kept. -/
theorem Row.push {w : World} {g cap : Nat} {F L : List (Nat × Nat)} {i n : Nat} {lo hi : Int} {s : Nat × Nat} (h : Row w g cap F L i) (hn : n = F.length) (hi' : n < i) (hc : n < cap) (h1 : lo = s.1) (h2 : hi = s.2) :
    Row ((w.setCell ⟨g, n * 2, none⟩ (.int .u32 lo)).setCell ⟨g, n * 2 + 1, none⟩ (.int .u32 hi)) g cap (F ++ [s]) L i := by
  subst hn h1 h2
  obtain ⟨cur, e, hs, hF, hL⟩ := h
  refine ⟨_, heap_setCell _ (heap_setCell _ e), by simp [hs], fun k t hk => ?_, fun k t hk ht => ?_⟩
  · rw [List.getElem?_append] at hk
    by_cases hlt : k < F.length
    · rw [if_pos hlt] at hk
      have := hF k t hk
      simp only [Array.getElem?_setIfInBounds]
      repeat rw [if_neg (by omega)]
      exact this
    · rw [if_neg hlt] at hk
      have : k = F.length := by
        have := (List.getElem?_eq_some_iff.1 hk).1
        simp at this; omega
      subst this
      simp at hk
      subst hk
      simp only [Array.getElem?_setIfInBounds, Array.size_setIfInBounds]
      constructor
      · rw [if_neg (by omega), if_pos trivial, if_pos (by omega)]
      · rw [if_pos trivial, if_pos (by omega)]
  · have := hL k t hk ht
    simp only [Array.getElem?_setIfInBounds]
    repeat rw [if_neg (by omega)]
    exact this
/-- The last span's end is raised. -/
theorem Row.raise {w : World} {g cap : Nat} {F L : List (Nat × Nat)} {i n : Nat} {t : Nat × Nat} {hi : Int} {m : Nat} (h : Row w g cap (F ++ [t]) L i) (hn : n = F.length) (hi' : n < i) (h2 : hi = m) (hc : n < cap) :
    Row (w.setCell ⟨g, n * 2 + 1, none⟩ (.int .u32 hi)) g cap (F ++ [(t.1, m)]) L i := by
  subst hn h2
  obtain ⟨cur, e, hs, hF, hL⟩ := h
  refine ⟨_, heap_setCell _ e, by simp [hs], fun k u hk => ?_, fun k u hk hu => ?_⟩
  · by_cases hlt : k < F.length
    · have := hF k u (by rw [List.getElem?_append_left hlt] at hk ⊢; exact hk)
      simp only [Array.getElem?_setIfInBounds]
      repeat rw [if_neg (by omega)]
      exact this
    · have : k = F.length := by
        have := (List.getElem?_eq_some_iff.1 hk).1
        simp at this; omega
      subst this
      simp at hk
      subst hk
      have := (hF F.length t (by simp)).1
      simp only [Array.getElem?_setIfInBounds]
      constructor
      · rw [if_neg (by omega)]; exact this
      · rw [if_pos trivial, if_pos (by omega)]
  · have := hL k u hk hu
    simp only [Array.getElem?_setIfInBounds]
    repeat rw [if_neg (by omega)]
    exact this
theorem cell_two_new (w : World) (x y : Value) (t : TypeId) : ∀ j u, [x, y][j]? = some u → (w.alloc (.cells #[x, y] t)).cell? ((⟨w.heap.size, 0, none⟩ : Addr).add j) = some u := by
  intro j u h
  match j, h with
  | 0, h => simp at h; subst h; simp [Addr.add]
  | 1, h => simp at h; subst h; simp [Addr.add]
  | j + 2, h => simp at h
theorem infoS : (Tryd.prog.info? 33).map (fun i => (i.zero, i.size, i.bytes)) = some (some (.agg #[.int .u32 0, .int .u32 0]), 2, 8) := by kernel_rfl
end Go.Proofs.YtbplkeopdfciiaaDoor
