/- Rows of one's own with a place that is written over, and what the law of prefix lists keeps in memory. Under the conditions that they name. -/
import Derived.Test.YtkkhmdiffddllaaDoorUtF
import Derived.Test.YtkkhmdiffddllaaDoorOwnRow
namespace Go.Proofs.YtkkhmdiffddllaaDoor
open Go.Shelf Go.RowKit Go.Lib
theorem flatK_set {α : Type} {enc : α → List Value} {k : Nat} (hk : ∀ s, (enc s).length = k) {j : Nat} {u : Value} {x s : α} (hj : j < k) (hx : enc x = (enc s).set j u) :
    ∀ {l : List α} {i : Nat}, l[i]? = some s → flatK enc (l.set i x) = (flatK enc l).set (i * k + j) u
  | [], i, h => by simp at h
  | t :: l, 0, h => by
    simp at h; subst h
    show enc x ++ flatK enc l = (enc t ++ flatK enc l).set (0 * k + j) u
    rw [hx, Nat.zero_mul, Nat.zero_add, List.set_append_left _ _ (by rw [hk]; exact hj)]
  | t :: l, i + 1, h => by
    have ih := flatK_set (l := l) (i := i) hk hj hx (by simpa using h)
    show enc t ++ flatK enc (l.set i x) = (enc t ++ flatK enc l).set ((i + 1) * k + j) u
    rw [ih, List.set_append_right _ _ (by rw [hk, Nat.succ_mul]; omega), hk, show (i + 1) * k + j - k = i * k + j by rw [Nat.succ_mul]; omega]
/-- A row of one's own whose block lies between two places. -/
structure OwnR {α : Type} (enc : α → List Value) (k : Nat) (T : TypeId) (lo hi : Nat) (W : World) (v : Value) (l : List α) : Prop where
  own : W.ownsRow lo T k v l.length (flatK enc l)
  top : ∀ g, v.ownBlock = some g → g < hi
section
variable {α : Type} {enc : α → List Value} {k lo hi : Nat} {T : TypeId} {W W' : World} {v : Value} {l : List α}
theorem OwnR.below (h : OwnR enc k T lo hi W v l) (hb : Below W.heap.size W W') : OwnR enc k T lo hi W' v l := ⟨ownsRow_of h.own fun g _ _ hg => hb.block g hg, h.top⟩
theorem OwnR.other (h : OwnR enc k T lo hi W v l) {g o : Nat} {u : Value} (hg : g < lo ∨ hi ≤ g) : OwnR enc k T lo hi (W.setCell ⟨g, o, none⟩ u) v l :=
  ⟨ownsRow_of h.own fun x hx h1 _ => heap_setOther (by have := h.top x hx; omega), h.top⟩
theorem OwnR.rd (hk : ∀ s, (enc s).length = k) (h : OwnR enc k T lo hi W v l) : RdK enc k W v l := RdK.of_own hk h.own
theorem OwnR.at_ (hk : ∀ s, (enc s).length = k) (h : OwnR enc k T lo hi W v l) {i : Nat} {s : α} (hs : l[i]? = some s) : ∃ g c, v = .slice (some ⟨g, 0, none⟩) l.length c ∧ lo ≤ g ∧ g < hi ∧ (∀ o, W.frozen? ⟨g, o, none⟩ = false) ∧
    (∀ j u, (enc s)[j]? = some u → W.cell? ⟨g, i * k + j, none⟩ = some u) ∧ ∀ j u x, j < k → enc x = (enc s).set j u → OwnR enc k T lo hi (W.setCell ⟨g, i * k + j, none⟩ u) v (l.set i x) := by
  rcases h.own.2 with ⟨_, hx⟩ | ⟨g, cap, cur, rfl, hg, hb, hle, hm, hsz, hc⟩
  · have := (List.getElem?_eq_some_iff.1 hs).1; omega
  · refine ⟨g, cap, rfl, hg, h.top g rfl, fun o => frozen_heap hb, fun j u hu => ?_, fun j u x hj hx => ⟨?_, h.top⟩⟩
    · have hj : j < k := by rw [← hk s]; exact (List.getElem?_eq_some_iff.1 hu).1
      have := h.own.cells (g := g) rfl (i * k + j) u (by rw [flatK_at hk hs hj]; exact hu)
      rw [addr_off, Nat.zero_add] at this
      exact this
    · have e := flatK_set hk hj hx hs
      refine ⟨by rw [flatK_length hk], .inr ⟨g, cap, cur.setIfInBounds (i * k + j) u, by simp, hg, heap_store hb, by simpa using hle, hm, by simpa using hsz, ?_⟩⟩
      rw [e, ← hc]
      simp only [Array.toList_setIfInBounds, List.length_set]
      have hi2 := (List.getElem?_eq_some_iff.1 hs).1
      have : i * k + j < l.length * k := by
        have := Nat.mul_le_mul_right k (show i + 1 ≤ l.length by omega)
        rw [Nat.succ_mul] at this; omega
      rw [List.take_set]
end
theorem OkE.set {es : List EntD} (h : OkE es) (i : Nat) (e : EntD) (he : 0 ≤ e.a ∧ e.a < 4294967296) : OkE (es.set i e) := fun x hx => by
  rcases List.mem_or_eq_of_mem_set hx with h1 | rfl
  · exact h x h1
  · exact he
theorem OkM.set {w : World} {ms : List MemD} (h : OkM w ms) (i : Nat) {m : MemD} (hm : ms[i]? = some m) (b : Bool) : OkM w (ms.set i { m with perm := b }) := fun x hx => by
  rcases List.mem_or_eq_of_mem_set hx with h1 | rfl
  · exact h x h1
  · exact h m (List.mem_of_getElem? hm)
/-- What the law keeps: the prefix, the two lists of its own with their rows, the communities of its own. -/
structure St (B ga gb : Nat) (x n : Int) (vE vM vU : Value) (cs : List Int) (es : List EntD) (ms : List MemD) (W : World) : Prop where
  hp : W.heap[B]? = some (.cells #[.int .u32 x, .int .i64 n] 49 (0, 0))
  ha : W.heap[ga]? = some (.cells #[.string ⟨#[97]⟩, vE] 54 (0, 0))
  hb : W.heap[gb]? = some (.cells #[.string ⟨#[98]⟩, vM] 35 (0, 0))
  e : OwnR encE 5 51 (B + 1) ga W vE es
  m : OwnR encM 2 56 (ga + 1) gb W vM ms
  u : OwnR encU 1 23 (gb + 1) W.heap.size W vU cs
  top : gb < W.heap.size
  l1 : B < ga
  l2 : ga < gb
theorem OwnR.mono {α : Type} {enc : α → List Value} {k lo hi hi' : Nat} {T : TypeId} {W : World} {v : Value} {l : List α} (h : OwnR enc k T lo hi W v l) (hh : hi ≤ hi') : OwnR enc k T lo hi' W v l := ⟨h.own, fun g hg => Nat.lt_of_lt_of_le (h.top g hg) hh⟩
section
variable {B ga gb : Nat} {x n : Int} {vE vM vU : Value} {cs : List Int} {es : List EntD} {ms : List MemD} {W W' : World}
theorem St.below (h : St B ga gb x n vE vM vU cs es ms W) (hb : Below W.heap.size W W') : St B ga gb x n vE vM vU cs es ms W' :=
  ⟨carryH h.hp hb, carryH h.ha hb, carryH h.hb hb, h.e.below hb, h.m.below hb, (h.u.below hb).mono hb.size, Nat.lt_of_lt_of_le h.top hb.size, h.l1, h.l2⟩
theorem St.setE (h : St B ga gb x n vE vM vU cs es ms W) {g o : Nat} {u : Value} {es' : List EntD} (h1 : B + 1 ≤ g) (h2 : g < ga) (he : OwnR encE 5 51 (B + 1) ga (W.setCell ⟨g, o, none⟩ u) vE es') : St B ga gb x n vE vM vU cs es' ms (W.setCell ⟨g, o, none⟩ u) :=
  ⟨(heap_setOther (by omega)).trans h.hp, (heap_setOther (by omega)).trans h.ha, (heap_setOther (by have := h.l2; omega)).trans h.hb, he, h.m.other (.inl (by omega)), (h.u.other (.inl (by have := h.l2; omega))).mono (by simp [World.setCell]), by simpa [World.setCell] using h.top, h.l1, h.l2⟩
theorem St.setM (h : St B ga gb x n vE vM vU cs es ms W) {g o : Nat} {u : Value} {ms' : List MemD} (h1 : ga + 1 ≤ g) (h2 : g < gb) (he : OwnR encM 2 56 (ga + 1) gb (W.setCell ⟨g, o, none⟩ u) vM ms') : St B ga gb x n vE vM vU cs es ms' (W.setCell ⟨g, o, none⟩ u) :=
  ⟨(heap_setOther (by have := h.l1; omega)).trans h.hp, (heap_setOther (by omega)).trans h.ha, (heap_setOther (by omega)).trans h.hb, h.e.other (.inr (by omega)), he, (h.u.other (.inl (by omega))).mono (by simp [World.setCell]), by simpa [World.setCell] using h.top, h.l1, h.l2⟩
end
end Go.Proofs.YtkkhmdiffddllaaDoor
