/- append of a whole list of spans onto a row of one's own. Under the conditions that they name. -/
import Derived.Test.YtnlmploeildapaaSpForm
import Derived.Maps.AppendAt
import Derived.Laws.OwnMore
namespace Go.Proofs.Ytnlmploeildapaa
open Go.RowKit
theorem run_append_zero {P : Program} {w : World} (base : Nat) (t ty e : TypeId) (i : TypeInfo) (size : Nat) (ht : P.underlying t = some (.slice e)) (hi : P.info? e = some i)
    (v : Value) (n : Nat) (xs : List Value) (hown : w.ownsRow base e size v n xs) (p : Option Addr) (c : Nat) :
    (Builtin.append_ #[t, t] ty #[v, .slice p 0 c]).run P w = .ok v w := by
  rcases hown.2 with ⟨rfl, rfl⟩ | ⟨g, cap, cur, rfl, _, _, hnc, _⟩
  · cases p <;> simp [Builtin.append_, run_underlying ht, sizeOf, typeInfo, hi, Builtin.lenOf, Builtin.firstCells, loadCells, loadCellsFrom]
  · cases p <;> simp [Builtin.append_, run_underlying ht, sizeOf, typeInfo, hi, Builtin.lenOf, Builtin.firstCells, hnc, storeCells, loadCells, loadCellsFrom]
theorem addr_off (g o k : Nat) : (⟨g, o, none⟩ : Addr).add k = ⟨g, o + k, none⟩ := by
  unfold Addr.add
  split <;> simp_all
theorem flatS_cell {w : World} {b o : Nat} {l : List (Nat × Nat)} (h4 : ∀ i s, l[i]? = some s → w.cell? ⟨b, o + i * 2, none⟩ = some (.int .u32 s.1) ∧ w.cell? ⟨b, o + i * 2 + 1, none⟩ = some (.int .u32 s.2)) :
    ∀ j u, (flatS l)[j]? = some u → w.cell? ((⟨b, o, none⟩ : Addr).add j) = some u := by
  intro j u hu
  rw [addr_off b o j]
  have hj : j < (flatS l).length := (List.getElem?_eq_some_iff.1 hu).1
  rw [flatS_length] at hj
  obtain ⟨s, hs⟩ : ∃ s, l[j / 2]? = some s := ⟨_, List.getElem?_eq_getElem (by omega)⟩
  obtain ⟨f1, f2⟩ := flatS_at hs
  obtain ⟨c1, c2⟩ := h4 _ s hs
  rcases Nat.mod_two_eq_zero_or_one j with h | h
  · rw [show o + j = o + j / 2 * 2 by omega, c1, ← f1, show 2 * (j / 2) = j by omega, hu]
  · rw [show o + j = o + j / 2 * 2 + 1 by omega, c2, ← f2, show 2 * (j / 2) + 1 = j by omega, hu]
theorem flatS_one (l : List (Nat × Nat)) : ∀ u ∈ flatS l, u.oneCell' = true := by
  intro u hu
  unfold flatS at hu
  rw [List.mem_flatMap] at hu
  obtain ⟨s, _, h⟩ := hu
  simp [encS] at h
  rcases h with rfl | rfl <;> rfl
/-- A list of spans more. -/
theorem wpList_append_rd {w : World} {ops : Array Oper} {rest : List Oper} {o : Oper} {a : Act} {Q : Exit → Act → World → Prop} (hgd : o.guard = none) (s x : Operand)
    (ho : o.op = .call { callee := .builtin .append, args := #[s, x], argTypes := #[22, 22] })
    (base : Nat) (v : Value) (n : Nat) (xs : List Value) (hs : a.eval s = v) (hown : w.ownsRow base 30 2 v n xs)
    (y : Value) (l : List (Nat × Nat)) (hx : a.eval x = y) (hr : Rd w y l) (hn : n ≤ 1000000) (hl : l.length ≤ 1000000) (hbase : base ≤ w.heap.size)
    (h : ∀ v' w', w'.ownsRow base 30 2 v' (n + l.length) (xs ++ flatS l) → w.grownBy w' v.ownBlock → (v'.ownBlock = v.ownBlock ∨ v'.ownBlock = some w.heap.size) → wpList Try.prog ops Q rest (a.put o.dst v') w') :
    wpList Try.prog ops Q (o :: rest) a w := by
  obtain ⟨i0, hi0, hz0, hz1, hz2⟩ := info_parts infoS
  refine wpList_plain hgd fun K hK => ?_
  have key : ∃ v' w', (Builtin.append_ #[22, 22] o.type #[v, y]).run Try.prog w = .ok v' w' ∧ w'.ownsRow base 30 2 v' (n + l.length) (xs ++ flatS l) ∧ w.grownBy w' v.ownBlock ∧ (v'.ownBlock = v.ownBlock ∨ v'.ownBlock = some w.heap.size) := by
    rcases hr.2 with ⟨p, c, rfl, _, rfl⟩ | ⟨b, oo, cap, rfl, h1, h2, h3, h4⟩
    · refine ⟨v, w, run_append_zero base _ _ _ i0 2 Try.underlying22 hi0 v n xs hown p c, by simpa [flatS] using hown, ⟨rfl, rfl, rfl, Nat.le_refl _, fun _ _ _ => rfl⟩, .inl rfl⟩
    · obtain ⟨v', w', e1, e2, e3, _, e5⟩ := run_append_own_at w base 22 o.type 30 i0 _ 2 8 Try.underlying22 hi0 hz0 hz1 hz2 rfl (by decide) v n xs hown ⟨b, oo, none⟩ l.length cap (flatS l) (by rw [flatS_length, Nat.mul_comm]) (flatS_cell h4) (flatS_one l) (by unfold maxLen; omega) (by omega) hbase
      exact ⟨v', w', e1, e2, e3, e5⟩
  obtain ⟨v', w', hr1, h2, h3, h5⟩ := key
  unfold Oper.wp execOp
  simp only [ho, resolve, invoke, builtin, Sem.run_bind, Sem.run_pure, Result.andThen_ok, List.map_toArray, List.map_cons, List.map_nil, hs, hx, hr1]
  exact hK _ _ (h v' w' h2 h3 h5)
end Go.Proofs.Ytnlmploeildapaa
