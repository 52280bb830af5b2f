/- Maps whose keys are prefixes: what is taken out. No condition but that the keys are prefixes, each there once. -/
import Derived.Test.YtodfimnmbfdicaaTpD
namespace Go.Proofs.Ytodfimnmbfdicaa
open Go.RowKit Go.Shelf
/-- A list without a key. -/
def delL {V : Type} (k : Int × Int) : List ((Int × Int) × V) → List ((Int × Int) × V)
  | [] => []
  | x :: L => if x.1 = k then L else x :: delL k L
/-- Each key stands there once. -/
def Uniq {V : Type} : List ((Int × Int) × V) → Prop
  | [] => True
  | x :: L => getL x.1 L = none ∧ Uniq L
section
variable {V : Type} {R : Value → V → Prop}
theorem getL_delL (k x : Int × Int) : ∀ {L : List ((Int × Int) × V)}, Uniq L → getL x (delL k L) = if k = x then none else getL x L
  | [], _ => by simp [delL, getL]
  | y :: L, h => by
    unfold delL
    split
    · rename_i hk
      by_cases hx : k = x
      · rw [if_pos hx, ← hx, ← hk]; exact h.1
      · rw [if_neg hx]
        conv => rhs; unfold getL
        rw [if_neg (fun e => hx (hk.symm.trans e))]
    · rename_i hk
      conv => lhs; unfold getL
      rw [getL_delL k x h.2]
      by_cases hx : k = x
      · rw [if_pos hx, if_pos hx, if_neg (fun e => hk (e.trans hx.symm))]
      · rw [if_neg hx, if_neg hx]
        conv => rhs; unfold getL
theorem uniq_put (k : Int × Int) (v : V) : ∀ {L : List ((Int × Int) × V)}, Uniq L → Uniq (putL k v L)
  | [], _ => ⟨rfl, trivial⟩
  | y :: L, h => by
    unfold putL
    split
    · rename_i hk
      exact ⟨by rw [← hk]; exact h.1, h.2⟩
    · rename_i hk
      exact ⟨by rw [getL_putL, if_neg (fun e => hk e.symm)]; exact h.1, uniq_put k v h.2⟩
theorem uniq_del (k : Int × Int) : ∀ {L : List ((Int × Int) × V)}, Uniq L → Uniq (delL k L)
  | [], _ => trivial
  | y :: L, h => by
    unfold delL
    split
    · exact h.2
    · refine ⟨?_, uniq_del k h.2⟩
      rw [getL_delL k y.1 h.2]
      split
      · rfl
      · exact h.1
theorem delL_len (k : Int × Int) : ∀ {L : List ((Int × Int) × V)} {v : V}, getL k L = some v → (delL k L).length + 1 = L.length
  | [], _, h => by cases h
  | y :: L, v, h => by
    unfold getL at h
    unfold delL
    split at h
    · rename_i hk; rw [if_pos hk]; rfl
    · rename_i hk
      rw [if_neg hk, List.length_cons, List.length_cons, delL_len k h]
theorem Ents.erase {es : List MapEntry} {L : List ((Int × Int) × V)} (hE : Ents R es L) {k : Int × Int} : ∀ {j : Nat} {e : MapEntry}, es[j]? = some e → e.key = kv k → (∀ i e', i < j → es[i]? = some e' → e'.key ≠ kv k) → Ents R (es.eraseIdx j) (delL k L) := by
  induction hE with
  | nil => intro j e h; simp at h
  | @cons e0 x es L h1 h2 h3 ih =>
    intro j e hj hk hl
    cases j with
    | zero =>
      simp only [List.getElem?_cons_zero, Option.some.injEq] at hj
      subst hj
      have hx : x.1 = k := by
        rw [h1] at hk
        simp only [kv, Value.agg.injEq, Array.mk.injEq, List.cons.injEq, Value.int.injEq, and_true, true_and] at hk
        exact Prod.ext hk.1 hk.2
      unfold delL
      rw [if_pos hx]
      exact h3
    | succ j =>
      have h0 := hl 0 e0 (by omega) rfl
      have hx : ¬ x.1 = k := fun e => h0 (by rw [h1, e])
      unfold delL
      rw [if_neg hx]
      exact .cons h1 h2 (ih (by simpa using hj) hk fun i e' hi he => hl (i + 1) e' (by omega) (by simpa using he))
theorem del_run {tm te ty : TypeId} (ht : Try.prog.underlying tm = some (.map 34 te)) {w : World} {r : Nat} {L : List ((Int × Int) × V)} (h : MapAt R w r L) (k : Int × Int) (v : V) (hg : getL k L = some v) :
    ∃ o, (Builtin.delete_ #[tm, 34] ty #[.map (some r), kv k]).run Try.prog w = .ok (.tuple #[]) (w.putObj r o) ∧ o.isCells = false ∧ MapAt R (w.putObj r o) r (delL k L) := by
  have hlt := h.lt
  obtain ⟨⟨es, c, h1, h2⟩⟩ := h
  have e1 := MapKept.run_getObj_map (P := Try.prog) h1
  have e2 := fun o => MapKept.run_setObj_map (P := Try.prog) o h1
  have hput : ∀ o, (w.putObj r o).heap[r]? = some o := fun o => by
    simp only [World.putObj]
    rw [Array.getElem?_setIfInBounds, if_pos rfl, if_pos hlt]
  rcases find_is k w h2 with ⟨_, h4⟩ | ⟨j, e, v0, h3, h4, h5, h6, h7, h8⟩
  · rw [hg] at h4; cases h4
  · refine ⟨.map (es.eraseIdxIfInBounds j) c, ?_, rfl, ⟨⟨_, _, hput _, ?_⟩⟩⟩
    · unfold Builtin.delete_
      simp [run_underlying ht, e1, key_ok, h3, e2, go_sem, World.putObj]
    · have hj : j < es.size := by
        have := (List.getElem?_eq_some_iff.1 h4).1
        simpa using this
      have : (es.eraseIdxIfInBounds j).toList = es.toList.eraseIdx j := by
        unfold Array.eraseIdxIfInBounds
        rw [dif_pos hj, Array.toList_eraseIdx]
      rw [this]
      exact h2.erase h4 h5 h8
end
end Go.Proofs.Ytodfimnmbfdicaa
