/- What lies in memory while Parse of package spans reads a text: its boxes, its list, what a round may change. No condition. -/
import Derived.Test.YtbplkeopdfciiaaDoorSqI
import Derived.Test.YtbplkeopdfciiaaDoorSqS
import Derived.StillTailTactics
namespace Go.Proofs.YtbplkeopdfciiaaDoor
open Go.RowKit Go.Shelf
theorem Own.same {b : Nat} {w w' : World} {v : Value} {l : List (Nat × Nat)} (h : Own b w v l) (hk : ∀ (g : Nat) (cs : Array Value) (e : TypeId), b ≤ g → w.heap[g]? = some (.cells cs e (0, 0)) → w'.heap[g]? = w.heap[g]?) : Own b w' v l := by
  refine ⟨h.1, ?_⟩
  have hx := h.2
  refine ⟨hx.1, ?_⟩
  rcases hx.2 with hn | ⟨g, cap, cur, rfl, hg, hh, rest⟩
  · exact .inl hn
  · exact .inr ⟨g, cap, cur, rfl, hg, (hk g _ _ hg hh).trans hh, rest⟩
theorem Own.down {b b' : Nat} {w : World} {v : Value} {l : List (Nat × Nat)} (h : Own b w v l) (hb : b' ≤ b) : Own b' w v l := by
  refine ⟨h.1, h.2.1, ?_⟩
  rcases h.2.2 with hn | ⟨g, cap, cur, rfl, hg, rest⟩
  · exact .inl hn
  · exact .inr ⟨g, cap, cur, rfl, by omega, rest⟩
/-- The boxes of Parse: both results, the list. -/
structure PBx (B : Nat) (v0 : Value) (k : Int) (v : Value) (W : World) : Prop where
  b0 : W.heap[B]? = some (.cells #[v0] 22 (0, 0))
  b1 : W.heap[B + 1]? = some (.cells #[.int .i64 k] 25 (0, 0))
  b2 : W.heap[B + 2]? = some (.cells #[v] 22 (0, 0))
theorem PBx.same {B : Nat} {v0 v : Value} {k : Int} {W W' : World} (h : PBx B v0 k v W) (hk : ∀ g : Nat, g < B + 3 → g < W.heap.size → W'.heap[g]? = W.heap[g]?) : PBx B v0 k v W' :=
  ⟨(hk _ (by omega) (Array.getElem?_eq_some_iff.1 h.b0).1).trans h.b0, (hk _ (by omega) (Array.getElem?_eq_some_iff.1 h.b1).1).trans h.b1, (hk _ (by omega) (Array.getElem?_eq_some_iff.1 h.b2).1).trans h.b2⟩
theorem PBx.put {B : Nat} {v0 v : Value} {k : Int} {W : World} (h : PBx B v0 k v W) (u : Value) : PBx B v0 k u (W.setCell ⟨B + 2, 0, none⟩ u) :=
  ⟨(heap_setCell_ne _ (by omega)).trans h.b0, (heap_setCell_ne _ (by omega)).trans h.b1, by rw [heap_setCell _ h.b2]; rfl⟩
theorem PBx.out {B : Nat} {v0 v : Value} {k : Int} {W : World} (h : PBx B v0 k v W) (u : Value) (m : Int) : PBx B u m v ((W.setCell ⟨B, 0, none⟩ u).setCell ⟨B + 1, 0, none⟩ (.int .i64 m)) :=
  ⟨(heap_setCell_ne _ (by omega)).trans (by rw [heap_setCell _ h.b0]; rfl), by rw [heap_setCell _ ((heap_setCell_ne _ (by omega)).trans h.b1)]; rfl, (heap_setCell_ne _ (by omega)).trans ((heap_setCell_ne _ (by omega)).trans h.b2)⟩
/-- What a round does: the iterator's cells and whatever is no cells stay. -/
structure Rn (B : Nat) (W W' : World) : Prop where
  ko : KeepsOthers W W'
  kp : Kp3 (B + 4) (B + 3) (B + 5) W W'
  bl : Below B W W'
theorem Rn.refl (B : Nat) (W : World) : Rn B W W := ⟨.refl W, ⟨rfl, rfl, rfl⟩, .refl _ _⟩
theorem Rn.trans {B : Nat} {W X Y : World} (h : Rn B W X) (k : Rn B X Y) : Rn B W Y := ⟨h.ko.trans k.ko, kp3_t h.kp k.kp, h.bl.trans k.bl⟩
theorem Rn.below {B : Nat} {X Y : World} (h : Below X.heap.size X Y) (hs : B + 6 ≤ X.heap.size) : Rn B X Y :=
  ⟨⟨h.size, fun k o hk _ => (h.block k (Array.getElem?_eq_some_iff.1 hk).1).trans hk⟩, ⟨h.block _ (by omega), h.block _ (by omega), h.block _ (by omega)⟩, h.mono (by omega)⟩
theorem Rn.set {B : Nat} (X : World) {b : Nat} (v : Value) (hB : B ≤ b) (h3 : b < B + 3 ∨ B + 6 ≤ b) : Rn B X (X.setCell ⟨b, 0, none⟩ v) :=
  ⟨.setCell _ _ _, ⟨heap_setCell_ne _ (by omega), heap_setCell_ne _ (by omega), heap_setCell_ne _ (by omega)⟩, (Below.refl _ _).setCell (p := ⟨b, 0, none⟩) hB _⟩
theorem Rn.drew {B : Nat} (X : World) : Rn B X X.drew := ⟨.drew _, ⟨rfl, rfl, rfl⟩, (Below.refl _ _).drew⟩
/-- An append to the list. -/
theorem Rn.app {B : Nat} {X Y : World} {v : Value} {l : List (Nat × Nat)} (ho : Own (B + 6) X v l) (hg : X.grownBy Y v.ownBlock) (hs : B + 6 ≤ X.heap.size) : Rn B X Y := by
  have hb : ∀ k, v.ownBlock = some k → B + 6 ≤ k := fun k e => (ho.2.lt k e).1
  refine ⟨KeepsOthers.of_grownBy hg (fun j o e hj => ?_), ⟨?_, ?_, ?_⟩, (Below.refl B X).grown hg (by omega) (fun k e => by have := hb k e; omega)⟩
  · rcases ho.2.2 with ⟨rfl, _⟩ | ⟨g, cap, cur, rfl, _, hh, _⟩
    · cases e
    · have e2 : g = j := by simpa [Value.ownBlock] using e
      subst e2
      rw [hh] at hj
      cases hj
      rfl
  all_goals exact hg.block _ (by omega) (fun e => by have := hb _ e.symm; omega)
theorem goP_length : ∀ (ps : List (List UInt8)) (acc M : List (Nat × Nat)), goP acc ps = some M → M.length = acc.length + ps.length
  | [], acc, M, h => by simp only [goP, Option.some.injEq] at h; subst h; simp
  | p :: ps, acc, M, h => by
    simp only [goP] at h
    cases hs : rdS p with
    | none => rw [stepP_none hs] at h; cases h
    | some s =>
      cases hk : okN acc s with
      | false => rw [stepP_bad hs hk] at h; cases h
      | true =>
        rw [stepP_ok hs hk] at h
        have := goP_length ps _ M h
        simp at this ⊢
        omega
theorem goP_snoc {ps : List (List UInt8)} {p : List UInt8} {M : List (Nat × Nat)} (h : goP [] ps = some M) : goP [] (ps ++ [p]) = stepP M p := by
  rw [goP_append, h]
  simp only [Option.bind_some, goP]
  cases stepP M p <;> rfl
theorem part_len : ∀ (l : List UInt8) (p : List UInt8), p ∈ parts l → p.length ≤ l.length
  | [], p, h => by simp [parts] at h; subst h; simp
  | b :: l, p, h => by
    rw [parts_cons] at h
    split at h
    · rcases List.mem_cons.1 h with rfl | h
      · simp
      · have := part_len l p h; simp; omega
    · cases hp : parts l with
      | nil => exact absurd hp (parts_ne l)
      | cons q qs =>
        rw [hp] at h
        simp only [addH] at h
        rcases List.mem_cons.1 h with rfl | h
        · have := part_len l q (by rw [hp]; simp); simp; omega
        · have := part_len l p (by rw [hp]; exact List.mem_cons_of_mem _ h); simp; omega
def tkP (x : List UInt8) : List UInt8 := x.take longP
theorem tk_parts {l : List UInt8} (hl : l.length ≤ longP) : (parts l).map tkP = parts l := by
  refine (List.map_congr_left (g := id) fun p hp => ?_).trans (List.map_id _)
  exact List.take_of_length_le (Nat.le_trans (part_len l p hp) hl)
/-- Where a part was refused, so is the text. -/
theorem goP_stop {l : List UInt8} {pre : List (List UInt8)} (hl : l.length ≤ longP) (hp : pre <+: parts l) (h : goP [] (pre.map tkP) = none) : goP [] (parts l) = none := by
  obtain ⟨q, hq⟩ := hp
  rw [← tk_parts hl, ← hq, List.map_append, goP_append, h]
  rfl
theorem still_skip {P : Program} {ops : Array Oper} {w : World} {Q : Act → Prop} {a : Act} {o : Oper} {rest : List Oper} (hw : Region.wanted o (yielded ops a.tmps) = false) (h : wpStill P ops w Q rest (a.put o.dst undef)) : wpStill P ops w Q (o :: rest) a := by
  unfold wpStill
  rw [hw]
  exact h
theorem still_take {P : Program} {ops : Array Oper} {w : World} {Q : Act → Prop} {a : Act} {o : Oper} {rest : List Oper} (hw : Region.wanted o (yielded ops a.tmps) = true) (h : o.still P a w (wpStill P ops w Q rest)) : wpStill P ops w Q (o :: rest) a := by
  unfold wpStill
  rw [hw]
  exact h
theorem still_take' {P : Program} {ops : Array Oper} {w : World} {Q : Act → Prop} {a : Act} {o : Oper} {rest : List Oper} (hw : Region.wanted o (yielded ops a.tmps) = true) (h : ∀ K : Act → Prop, (∀ a, wpStill P ops w Q rest a → K a) → o.still P a w K) : wpStill P ops w Q (o :: rest) a :=
  still_take hw (h _ fun _ h => h)
theorem ownsRow_succ' {w : World} {b : Nat} {t : TypeId} {k : Nat} {v : Value} {n : Nat} {xs : List Value} (h : w.ownsRow b t k v (n + 1) xs) : ∃ g cap, v = .slice (some ⟨g, 0, none⟩) (n + 1) cap := by
  rcases h.2 with ⟨_, hx⟩ | ⟨g, cap, cur, rfl, _⟩
  · omega
  · exact ⟨g, cap, rfl⟩
theorem own_push {w : World} {b : Nat} {v : Value} {M : List (Nat × Nat)} {t : Nat × Nat} {x y : Int} (hs : Small M) (ht : t.1 < top ∧ t.2 < top) (h1 : x = t.1) (h2 : y = t.2) (h : w.ownsRow b 33 2 v (M.length + 1) (flatS M ++ [.int .u32 x, .int .u32 y])) : Own b w v (M ++ [t]) := by
  refine ⟨fun s hm => ?_, ?_⟩
  · rcases List.mem_append.1 hm with hm | hm
    · exact hs s hm
    · simp at hm; subst hm; exact ht
  · rw [flatS_append, List.length_append]
    rw [h1, h2] at h
    exact h
/-- What Parse hands back. -/
def ParsePost (o : Option (List (Nat × Nat))) (w : World) (e : Ending) (w' : World) : Prop :=
  ∃ (v : Value) (k : Int), e = .returned (.tuple #[v, .int .i64 k]) ∧ k = (if o.isSome = true then 0 else 4) ∧ Own w.heap.size w' v (o.getD []) ∧ (o = none → v = .slice none 0 0) ∧ Below w.heap.size w w'
end Go.Proofs.YtbplkeopdfciiaaDoor
