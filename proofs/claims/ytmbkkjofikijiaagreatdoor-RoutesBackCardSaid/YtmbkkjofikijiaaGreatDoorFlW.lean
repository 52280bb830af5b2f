/- Slices whose elements take k cells each: how one reads as a list, what stays of it, and append of a whole one onto a row of one's own. Under the conditions that they name; nothing here speaks of the program. -/
import Derived.Test.YtmbkkjofikijiaaGreatDoorKit
import Derived.Maps.AppendAt
import Derived.Laws.OwnMore
import Derived.Laws.AppendOwn
namespace Go.Proofs.YtmbkkjofikijiaaGreatDoor
open Go.RowKit
theorem addr_off (g o k : Nat) : (⟨g, o, none⟩ : Addr).add k = ⟨g, o + k, none⟩ := by
  unfold Addr.add
  split <;> simp_all
section
variable {α : Type} {enc : α → List Value} {k : Nat}
/-- A slice that reads as this list; an element takes k cells. -/
def RdK {α : Type} (enc : α → List Value) (k : Nat) (w : World) (v : Value) (l : List α) : Prop :=
  ∃ p c, v = .slice p l.length c ∧ l.length ≤ c ∧ c ≤ maxLen ∧ (0 < l.length → ∃ b o, p = some ⟨b, o, none⟩ ∧ b < w.heap.size ∧ ∀ i s, l[i]? = some s → ∀ j u, (enc s)[j]? = some u → w.cell? ⟨b, o + i * k + j, none⟩ = some u)
theorem RdK.below {w w' : World} {v : Value} {l : List α} (h : RdK enc k w v l) (hb : Below w.heap.size w w') : RdK enc k w' v l := by
  obtain ⟨p, c, h1, h2, h3, h4⟩ := h
  refine ⟨p, c, h1, h2, h3, fun h0 => ?_⟩
  obtain ⟨b, o, e, h5, h6⟩ := h4 h0
  exact ⟨b, o, e, by have := hb.size; omega, fun i s hs j u hu => (hb.cell (p := ⟨b, _, none⟩) h5).trans (h6 i s hs j u hu)⟩
/-- The slice's value, and its cells where there are any, in whatever world that left them alone. -/
theorem RdK.sl {w : World} {v : Value} {l : List α} (h : RdK enc k w v l) : ∃ p c, v = .slice p l.length c ∧ l.length ≤ c ∧ c ≤ maxLen ∧ ∀ i s, l[i]? = some s → ∃ b o, p = some ⟨b, o, none⟩ ∧ b < w.heap.size ∧
    ∀ w', Below w.heap.size w w' → ∀ j u, (enc s)[j]? = some u → w'.cell? ⟨b, o + i * k + j, none⟩ = some u := by
  obtain ⟨p, c, h1, h2, h3, h4⟩ := h
  refine ⟨p, c, h1, h2, h3, fun i s hs => ?_⟩
  obtain ⟨b, o, e, h5, h6⟩ := h4 (by have := (List.getElem?_eq_some_iff.1 hs).1; omega)
  exact ⟨b, o, e, h5, fun w' hb j u hu => (hb.cell (p := ⟨b, _, none⟩) h5).trans (h6 i s hs j u hu)⟩
/-- An empty slice of one's own that is not nil. -/
theorem own_empty {w : World} {b g k : Nat} {e : TypeId} (h : w.heap[g]? = some (.cells #[] e (0, 0))) (hb : b ≤ g) : w.ownsRow b e k (.slice (some ⟨g, 0, none⟩) 0 0) 0 [] :=
  ⟨by simp, .inr ⟨g, 0, #[], rfl, hb, h, Nat.le_refl _, Nat.zero_le _, by simp, by simp⟩⟩
theorem RdK.nil (w : World) : RdK enc k w (.slice none 0 0) [] := ⟨none, 0, rfl, Nat.le_refl _, Nat.zero_le _, fun h => absurd h (Nat.lt_irrefl _)⟩
theorem RdK.take {w : World} {p : Option Addr} {n c m : Nat} {l : List α} (h : RdK enc k w (.slice p n c) l) (hm : m ≤ n) : RdK enc k w (.slice p m c) (l.take m) := by
  obtain ⟨p', c', e, h2, h3, h4⟩ := h
  simp only [Value.slice.injEq] at e
  obtain ⟨rfl, rfl, rfl⟩ := e
  refine ⟨p, c, by rw [List.length_take, Nat.min_eq_left hm], by rw [List.length_take]; omega, h3, fun h0 => ?_⟩
  rw [List.length_take] at h0
  obtain ⟨b, o, e, h5, h6⟩ := h4 (by omega)
  refine ⟨b, o, e, h5, fun i s hs => h6 i s ?_⟩
  rw [List.getElem?_take] at hs
  split at hs
  · exact hs
  · cases hs
/-- All cells, one behind the other. -/
def flatK (enc : α → List Value) (l : List α) : List Value := l.flatMap enc
theorem flatK_length (hk : ∀ s, (enc s).length = k) (l : List α) : (flatK enc l).length = l.length * k := by
  induction l with
  | nil => simp [flatK]
  | cons s l ih => simp only [flatK, List.flatMap_cons, List.length_append, hk, List.length_cons] at *; rw [ih, Nat.succ_mul]; omega
theorem flatK_at (hk : ∀ s, (enc s).length = k) {l : List α} {i : Nat} {s : α} (h : l[i]? = some s) {j : Nat} (hj : j < k) : (flatK enc l)[i * k + j]? = (enc s)[j]? := by
  induction l generalizing i with
  | nil => simp at h
  | cons t l ih =>
    cases i with
    | zero =>
      simp at h; subst h
      have e : flatK enc (t :: l) = enc t ++ flatK enc l := rfl
      rw [e, Nat.zero_mul, Nat.zero_add, List.getElem?_append_left (by rw [hk]; exact hj)]
    | succ i =>
      have := ih (i := i) (by simpa using h)
      have e : flatK enc (t :: l) = enc t ++ flatK enc l := rfl
      rw [e, Nat.succ_mul, List.getElem?_append_right (by rw [hk]; omega), hk, show i * k + k + j - k = i * k + j by omega]
      exact this
theorem flatK_cell (hk : ∀ s, (enc s).length = k) (h0 : 0 < k) {w : World} {b o : Nat} {l : List α} (h : ∀ i s, l[i]? = some s → ∀ j u, (enc s)[j]? = some u → w.cell? ⟨b, o + i * k + j, none⟩ = some u) :
    ∀ j u, (flatK enc l)[j]? = some u → w.cell? ((⟨b, o, none⟩ : Addr).add j) = some u := by
  intro j u hu
  rw [addr_off b o j]
  have hj : j < (flatK enc l).length := (List.getElem?_eq_some_iff.1 hu).1
  rw [flatK_length hk] at hj
  have hd : j / k < l.length := (Nat.div_lt_iff_lt_mul h0).2 hj
  have hm := Nat.mod_lt j h0
  have e : j / k * k + j % k = j := by rw [Nat.mul_comm]; exact Nat.div_add_mod j k
  have hx : l[j / k]? = some l[j / k] := List.getElem?_eq_getElem hd
  have := flatK_at hk hx hm
  rw [e, hu] at this
  have h2 := h _ _ hx _ _ this.symm
  rw [Nat.add_assoc, e] at h2
  exact h2
/-- A row of one's own reads. -/
theorem RdK.of_own (hk : ∀ s, (enc s).length = k) {w : World} {b : Nat} {e : TypeId} {v : Value} {l : List α} (h : w.ownsRow b e k v l.length (flatK enc l)) : RdK enc k w v l := by
  rcases h.2 with ⟨rfl, hx⟩ | ⟨g, cap, cur, rfl, hg, hh, hle, hm, hsz, hc⟩
  · obtain rfl := List.eq_nil_of_length_eq_zero hx
    exact RdK.nil w
  · refine ⟨_, cap, rfl, hle, hm, fun _ => ⟨g, 0, rfl, (h.lt g rfl).2, fun i s hs j u hu => ?_⟩⟩
    have hj : j < k := by rw [← hk s]; exact (List.getElem?_eq_some_iff.1 hu).1
    have := h.cells (g := g) rfl (i * k + j) u (by rw [flatK_at hk hs hj]; exact hu)
    rw [addr_off] at this
    rw [Nat.add_assoc]; exact this
theorem run_append_zero {P : Program} {w : World} (base : Nat) (t ty e : TypeId) (i : TypeInfo) (size : Nat) (ht : P.underlying t = some (.slice e)) (hi : P.info? e = some i)
    (v : Value) (n : Nat) (xs : List Value) (hown : w.ownsRow base e size v n xs) (p : Option Addr) (c : Nat) :
    (Builtin.append_ #[t, t] ty #[v, .slice p 0 c]).run P w = .ok v w := by
  rcases hown.2 with ⟨rfl, rfl⟩ | ⟨g, cap, cur, rfl, _, _, hnc, _⟩
  · cases p <;> simp [Builtin.append_, run_underlying ht, sizeOf, typeInfo, hi, Builtin.lenOf, Builtin.firstCells, loadCells, loadCellsFrom]
  · cases p <;> simp [Builtin.append_, run_underlying ht, sizeOf, typeInfo, hi, Builtin.lenOf, Builtin.firstCells, hnc, storeCells, loadCells, loadCellsFrom]
theorem run_append_rdk {P : Program} (hk : ∀ s, (enc s).length = k) (h0 : 0 < k) (h1c : ∀ s, ∀ u ∈ enc s, u.oneCell' = true) {w : World} (t ty e : TypeId)
    (z : Value) (bytes : Nat) (ht : P.underlying t = some (.slice e)) (hz : z.cells.size = k) (hi : (P.info? e).map (fun i => (i.zero, i.size, i.bytes)) = some (some z, k, bytes))
    (base : Nat) (v : Value) (n : Nat) (xs : List Value) (hown : w.ownsRow base e k v n xs)
    (y : Value) (l : List α) (hr : RdK enc k w y l) (hn : n + l.length ≤ maxLen) (hby : (n + l.length) * bytes ≤ 140737488355328) (hbase : base ≤ w.heap.size) :
    ∃ v' w', (Builtin.append_ #[t, t] ty #[v, y]).run P w = .ok v' w' ∧ w'.ownsRow base e k v' (n + l.length) (xs ++ flatK enc l) ∧ w.grownBy w' v.ownBlock ∧ (v'.ownBlock = v.ownBlock ∨ v'.ownBlock = some w.heap.size) := by
  obtain ⟨i0, hi0, hz0, hz1, hz2⟩ := info_parts hi
  obtain ⟨p, c, rfl, h2, h3, h4⟩ := hr
  by_cases hl : 0 < l.length
  · obtain ⟨b, oo, rfl, h5, h6⟩ := h4 hl
    obtain ⟨v', w', e1, e2, e3, _, e5⟩ := run_append_own_at w base t ty e i0 _ k bytes ht hi0 hz0 hz1 hz2 hz h0 v n xs hown ⟨b, oo, none⟩ l.length c (flatK enc l) (flatK_length hk l) (flatK_cell hk h0 h6)
      (fun u hu => by obtain ⟨s, _, hs⟩ := List.mem_flatMap.1 hu; exact h1c s u hs) hn hby hbase
    exact ⟨v', w', e1, e2, e3, e5⟩
  · have e : l.length = 0 := by omega
    obtain rfl := List.eq_nil_of_length_eq_zero e
    exact ⟨v, w, run_append_zero base _ _ _ i0 k ht hi0 v n xs hown p c, by simpa [flatK] using hown, ⟨rfl, rfl, rfl, Nat.le_refl _, fun _ _ _ => rfl⟩, .inl rfl⟩
/-- A whole list more. -/
theorem wpList_append_rdk {P : Program} (hk : ∀ s, (enc s).length = k) (h0 : 0 < k) (h1c : ∀ s, ∀ u ∈ enc s, u.oneCell' = true) {w : World} {ops : Array Oper} {rest : List Oper} {o : Oper} {a : Act} {Q : Exit → Act → World → Prop} (hgd : o.guard = none) (s x : Operand) (t e : TypeId)
    (ho : o.op = .call { callee := .builtin .append, args := #[s, x], argTypes := #[t, t] })
    (z : Value) (bytes : Nat) (ht : P.underlying t = some (.slice e)) (hz : z.cells.size = k) (hi : (P.info? e).map (fun i => (i.zero, i.size, i.bytes)) = some (some z, k, bytes))
    (base : Nat) (v : Value) (n : Nat) (xs : List Value) (hs : a.eval s = v) (hown : w.ownsRow base e k v n xs)
    (y : Value) (l : List α) (hx : a.eval x = y) (hr : RdK enc k w y l) (hn : n + l.length ≤ maxLen) (hby : (n + l.length) * bytes ≤ 140737488355328) (hbase : base ≤ w.heap.size)
    (h : ∀ v' w', w'.ownsRow base e k v' (n + l.length) (xs ++ flatK enc l) → w.grownBy w' v.ownBlock → (v'.ownBlock = v.ownBlock ∨ v'.ownBlock = some w.heap.size) → wpList P ops Q rest (a.put o.dst v') w') :
    wpList P ops Q (o :: rest) a w := by
  refine wpList_plain hgd fun K hK => ?_
  obtain ⟨v', w', hr1, h2, h3, h5⟩ := run_append_rdk hk h0 h1c t o.type e z bytes ht hz hi base v n xs hown y l hr hn hby hbase
  unfold Oper.wp execOp
  simp only [ho, resolve, invoke, builtin, Sem.run_bind, Sem.run_pure, Result.andThen_ok, List.map_toArray, List.map_cons, List.map_nil, hs, hx, hr1]
  exact hK _ _ (h v' w' h2 h3 h5)
/-- A whole list more, at a step of a region that draws its order. -/
theorem step_append_rdk {P : Program} (hk : ∀ s, (enc s).length = k) (h0 : 0 < k) (h1c : ∀ s, ∀ u ∈ enc s, u.oneCell' = true) {w : World} {ops : Array Oper} {o : Oper} {a : Act} {K : Act → World → Prop} {Q : Exit → Act → World → Prop} {E : Prop} (hgd : o.guard = none) (s x : Operand) (t e : TypeId)
    (ho : o.op = .call { callee := .builtin .append, args := #[s, x], argTypes := #[t, t] })
    (z : Value) (bytes : Nat) (ht : P.underlying t = some (.slice e)) (hz : z.cells.size = k) (hi : (P.info? e).map (fun i => (i.zero, i.size, i.bytes)) = some (some z, k, bytes))
    (base : Nat) (v : Value) (n : Nat) (xs : List Value) (hs : a.eval s = v) (hown : w.ownsRow base e k v n xs)
    (y : Value) (l : List α) (hx : a.eval x = y) (hr : RdK enc k w y l) (hn : n + l.length ≤ maxLen) (hby : (n + l.length) * bytes ≤ 140737488355328) (hbase : base ≤ w.heap.size)
    (h : ∀ v' w', w'.ownsRow base e k v' (n + l.length) (xs ++ flatK enc l) → w.grownBy w' v.ownBlock → (v'.ownBlock = v.ownBlock ∨ v'.ownBlock = some w.heap.size) → K (a.put o.dst v') w') :
    if Region.wanted o (yielded ops a.tmps) = true then Oper.wp P o a w K Q else E := by
  have hw : Region.wanted o (yielded ops a.tmps) = true := by simp [Region.wanted, hgd]
  rw [if_pos hw]
  obtain ⟨v', w', hr1, h2, h3, h5⟩ := run_append_rdk hk h0 h1c t o.type e z bytes ht hz hi base v n xs hown y l hr hn hby hbase
  unfold Oper.wp execOp
  simp only [ho, resolve, invoke, builtin, Sem.run_bind, Sem.run_pure, Result.andThen_ok, List.map_toArray, List.map_cons, List.map_nil, hs, hx, hr1]
  exact h v' w' h2 h3 h5
end
end Go.Proofs.YtmbkkjofikijiaaGreatDoor
