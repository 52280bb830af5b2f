/- Maps whose keys are prefixes: what is stored, found and counted. No condition but that the keys are prefixes. -/
import Derived.Test.YtodfimnmbfdicaaTpB
import Derived.MapKept
import Derived.RangeFuncOwn
import Derived.RangeFuncOwn
import Derived.StillTailTactics
namespace Go.Proofs.Ytodfimnmbfdicaa
open Go.RowKit Go.Shelf
/-- A prefix as a value. -/
abbrev kv (x : Int × Int) : Value := .agg #[.int .u32 x.1, .int .i64 x.2]
/-- The entries of a map, held against a list. -/
inductive Ents {V : Type} (R : Value → V → Prop) : List MapEntry → List ((Int × Int) × V) → Prop where
  | nil : Ents R [] []
  | cons {e : MapEntry} {x : (Int × Int) × V} {es : List MapEntry} {L : List ((Int × Int) × V)} : e.key = kv x.1 → R e.val x.2 → Ents R es L → Ents R (e :: es) (x :: L)
/-- A list with a key's value put in. -/
def putL {V : Type} (k : Int × Int) (v : V) : List ((Int × Int) × V) → List ((Int × Int) × V)
  | [] => [(k, v)]
  | x :: L => if x.1 = k then (k, v) :: L else x :: putL k v L
def getL {V : Type} (k : Int × Int) : List ((Int × Int) × V) → Option V
  | [] => none
  | x :: L => if x.1 = k then some x.2 else getL k L
section
variable {V : Type} {R : Value → V → Prop}
theorem Ents.imp {R' : Value → V → Prop} (h : ∀ y v, R y v → R' y v) {es : List MapEntry} {L : List ((Int × Int) × V)} (hE : Ents R es L) : Ents R' es L := by
  induction hE with
  | nil => exact .nil
  | cons h1 h2 _ ih => exact .cons h1 (h _ _ h2) ih
theorem Ents.length {es : List MapEntry} {L : List ((Int × Int) × V)} (hE : Ents R es L) : es.length = L.length := by
  induction hE with
  | nil => rfl
  | cons _ _ _ ih => simp [ih]
theorem Ents.push {es : List MapEntry} {L : List ((Int × Int) × V)} (hE : Ents R es L) {k : Int × Int} {v : V} {y : Value} {n : Nat} (hv : R y v) (hn : getL k L = none) : Ents R (es ++ [{ key := kv k, val := y, born := n }]) (putL k v L) := by
  induction hE with
  | nil => exact .cons rfl hv .nil
  | @cons e x es L h1 h2 _ ih =>
    unfold getL at hn
    unfold putL
    split at hn
    · cases hn
    · rename_i hne
      rw [if_neg hne]
      exact .cons h1 h2 (ih hn)
theorem Ents.set {es : List MapEntry} {L : List ((Int × Int) × V)} (hE : Ents R es L) {k : Int × Int} {v : V} {y : Value} : ∀ {j : Nat} {e : MapEntry}, R y v → es[j]? = some e → e.key = kv k → (∀ i e', i < j → es[i]? = some e' → e'.key ≠ kv k) → Ents R (es.modify j fun e => { e with key := kv k, val := y }) (putL k v L) := by
  induction hE with
  | nil => intro j e _ h; simp at h
  | @cons e0 x es L h1 h2 h3 ih =>
    intro j e hv hj hk hl
    cases j with
    | zero =>
      simp only [List.getElem?_cons_zero, Option.some.injEq] at hj
      subst hj
      have hx : x.1 = k := by
        rw [h1] at hk
        simp only [kv, Value.agg.injEq, Array.mk.injEq, List.cons.injEq, Value.int.injEq, and_true, true_and] at hk
        exact Prod.ext hk.1 hk.2
      unfold putL
      rw [if_pos hx]
      exact .cons rfl hv h3
    | succ j =>
      have h0 := hl 0 e0 (by omega) rfl
      have hx : ¬ x.1 = k := fun e => h0 (by rw [h1, e])
      unfold putL
      rw [if_neg hx]
      refine .cons h1 h2 (ih hv (by simpa using hj) hk fun i e' hi he => hl (i + 1) e' (by omega) (by simpa using he))
theorem mem_putL {k : Int × Int} {v : V} {L : List ((Int × Int) × V)} : (putL k v L).length = if (getL k L).isSome then L.length else L.length + 1 := by
  induction L with
  | nil => rfl
  | cons x L ih =>
    unfold putL getL
    split
    · simp
    · simp only [List.length_cons, ih]
      split <;> rfl
theorem getL_putL (k x : Int × Int) (v : V) : ∀ L : List ((Int × Int) × V), getL x (putL k v L) = if k = x then some v else getL x L
  | [] => by
    simp only [putL, getL]
  | y :: L => by
    unfold putL
    split
    · rename_i h
      simp only [getL]
      by_cases hk : k = x
      · simp [hk]
      · rw [if_neg hk, if_neg hk, if_neg (by rw [h]; exact hk)]
    · rename_i h
      simp only [getL]
      rw [getL_putL k x v L]
      by_cases hy : y.1 = x
      · by_cases hk : k = x
        · exact absurd (hy.trans hk.symm) h
        · rw [if_pos hy, if_neg hk, if_pos hy]
      · rw [if_neg hy, if_neg hy]
end
theorem equalP (x y : Int × Int) (w : World) : (Op.equal 34 (kv x) (kv y)).run Try.prog w = .ok (decide (x = y)) w := by
  obtain ⟨a, n⟩ := x
  obtain ⟨b, m⟩ := y
  show (Op.equalIn (9999 + 1) 34 (.agg #[.int .u32 a, .int .i64 n]) (.agg #[.int .u32 b, .int .i64 m])).run Try.prog w = _
  by_cases h1 : a = b <;> by_cases h2 : n = m <;> simp [h1, h2, go_sem]
theorem key_ok (em : Bool) (x : Int × Int) (w : World) : (Instr.checkKey em 10000 34 (kv x)).run Try.prog w = .ok () w := by cases em <;> kernel_rfl
theorem stays_ok (x : Int × Int) (w : World) : (Instr.keyThatStays (kv x) (kv x)).run Try.prog w = .ok (kv x) w := by
  simp [Instr.keyThatStays, Instr.sameBits, go_sem]
section
variable {V : Type} {R : Value → V → Prop}
theorem asking_is (k : Int × Int) (w : World) {es : List MapEntry} {L : List ((Int × Int) × V)} (hE : Ents R es L) : ∀ i, ((Instr.findAsking 34 (kv k) es i).run Try.prog w = .ok none w ∧ getL k L = none) ∨
    (∃ j e v, (Instr.findAsking 34 (kv k) es i).run Try.prog w = .ok (some (i + j, e.val)) w ∧ es[j]? = some e ∧ e.key = kv k ∧ getL k L = some v ∧ R e.val v ∧ ∀ i' e', i' < j → es[i']? = some e' → e'.key ≠ kv k) := by
  induction hE with
  | nil => intro i; exact .inl ⟨rfl, rfl⟩
  | @cons e x es L h1 h2 _ ih =>
    intro i
    have he := equalP k x.1 w
    rw [← h1] at he
    by_cases hx : k = x.1
    · refine .inr ⟨0, e, x.2, ?_, rfl, by rw [h1, hx], by simp [getL, hx], h2, fun i' e' h => by omega⟩
      have hd : decide (k = x.1) = true := by simpa using hx
      rw [hd] at he
      unfold Instr.findAsking
      simp [Sem.run_bind, he, Result.andThen, go_sem]
    · have hne : ¬ x.1 = k := fun e => hx e.symm
      have hrun : (Instr.findAsking 34 (kv k) (e :: es) i).run Try.prog w = (Instr.findAsking 34 (kv k) es (i + 1)).run Try.prog w := by
        conv => lhs; unfold Instr.findAsking
        simp [Sem.run_bind, he, hx, Result.andThen, go_sem]
      rcases ih (i + 1) with ⟨h3, h4⟩ | ⟨j, e', v, h3, h4, h5, h6, h7, h8⟩
      · exact .inl ⟨hrun.trans h3, by simp [getL, hne, h4]⟩
      · refine .inr ⟨j + 1, e', v, by rw [hrun, h3, show i + 1 + j = i + (j + 1) by omega], by simpa using h4, h5, by simp [getL, hne, h6], h7, fun i' e'' hi he => ?_⟩
        cases i' with
        | zero =>
          simp only [List.getElem?_cons_zero, Option.some.injEq] at he
          subst he
          rw [h1]
          intro e
          apply hne
          simp only [kv, Value.agg.injEq, Array.mk.injEq, List.cons.injEq, Value.int.injEq, and_true, true_and] at e
          exact Prod.ext e.1 e.2
        | succ i' => exact h8 i' e'' (by omega) (by simpa using he)
theorem now_none (k y : Value) (es : List MapEntry) : Instr.findNow (.struct (Try.prog.fieldsOf 34)) k es 0 = if es = [] then some none else none := by
  cases es with
  | nil => rfl
  | cons e es => simp [Instr.findNow, Instr.sameNow]
theorem find_is (k : Int × Int) (w : World) {es : List MapEntry} {L : List ((Int × Int) × V)} (hE : Ents R es L) : ((Instr.findKey 34 (kv k) es).run Try.prog w = .ok none w ∧ getL k L = none) ∨
    (∃ j e v, (Instr.findKey 34 (kv k) es).run Try.prog w = .ok (some (j, e.val)) w ∧ es[j]? = some e ∧ e.key = kv k ∧ getL k L = some v ∧ R e.val v ∧ ∀ i' e', i' < j → es[i']? = some e' → e'.key ≠ kv k) := by
  have hu : Try.prog.underlying 34 = some (.struct (Try.prog.fieldsOf 34)) := by kernel_rfl
  have hr : (Instr.findKey 34 (kv k) es).run Try.prog w = (Instr.findAsking 34 (kv k) es 0).run Try.prog w := by
    unfold Instr.findKey
    simp only [Sem.run_bind, run_underlying hu, Result.andThen, now_none (kv k) (kv k)]
    cases es with
    | nil => rfl
    | cons e es => rfl
  rcases asking_is k w hE 0 with ⟨h1, h2⟩ | ⟨j, e, v, h1, h2⟩
  · exact .inl ⟨hr.trans h1, h2⟩
  · exact .inr ⟨j, e, v, by rw [hr, h1, Nat.zero_add], h2⟩
end
/-- A map whose entries are those of a list, held against it by R. -/
structure MapAt {V : Type} (R : Value → V → Prop) (w : World) (r : Nat) (L : List ((Int × Int) × V)) : Prop where
  ents : ∃ es clock, w.heap[r]? = some (.map es clock) ∧ Ents R es.toList L
section
variable {V : Type} {R : Value → V → Prop}
theorem MapAt.lt {w : World} {r : Nat} {L : List ((Int × Int) × V)} (h : MapAt R w r L) : r < w.heap.size := by
  obtain ⟨⟨es, c, h1, _⟩⟩ := h
  exact blk_lt h1
theorem MapAt.keep {R' : Value → V → Prop} {w w' : World} {r : Nat} {L : List ((Int × Int) × V)} (h : MapAt R w r L) (hr : w'.heap[r]? = w.heap[r]?) (hR : ∀ y v, R y v → R' y v) : MapAt R' w' r L := by
  obtain ⟨⟨es, c, h1, h2⟩⟩ := h
  exact ⟨⟨es, c, hr.trans h1, h2.imp hR⟩⟩
theorem put_run {tm te : TypeId} (ht : Try.prog.underlying tm = some (.map 34 te)) {w : World} {r : Nat} {L : List ((Int × Int) × V)} (h : MapAt R w r L) (k : Int × Int) (v : V) (y : Value) (hv : R y v) :
    ∃ o, (Instr.mapUpdate tm (.map (some r)) (kv k) y).run Try.prog w = .ok () (w.putObj r o) ∧ o.isCells = false ∧ MapAt R (w.putObj r o) r (putL k v L) := by
  have hlt := h.lt
  obtain ⟨⟨es, c, h1, h2⟩⟩ := h
  have e1 := MapKept.run_getObj_map (P := Try.prog) h1
  have e2 := fun o => MapKept.run_setObj_map (P := Try.prog) o h1
  have hput : ∀ o, (w.putObj r o).heap[r]? = some o := fun o => by
    simp only [World.putObj]
    rw [Array.getElem?_setIfInBounds, if_pos rfl, if_pos hlt]
  rcases find_is k w h2 with ⟨h3, h4⟩ | ⟨j, e, v0, h3, h4, h5, h6, h7, h8⟩
  · refine ⟨.map (es.push { key := kv k, val := y, born := c }) (c + 1), ?_, rfl, ⟨⟨_, _, hput _, ?_⟩⟩⟩
    · unfold Instr.mapUpdate
      simp [run_underlying ht, e1, e2, key_ok, h3, go_sem, World.putObj]
    · have := h2.push (n := c) hv h4
      simpa using this
  · refine ⟨.map (es.modify j fun e => { e with key := kv k, val := y }) c, ?_, rfl, ⟨⟨_, _, hput _, ?_⟩⟩⟩
    · unfold Instr.mapUpdate
      have hj : es[j]? = some e := by simpa using h4
      have hs : (((es[j]?).map (·.key)).getD (kv k)) = kv k := by rw [hj]; exact h5
      simp [run_underlying ht, e1, e2, key_ok, h3, hj, h5, stays_ok, go_sem, World.putObj]
    · have := h2.set hv h4 h5 h8
      simpa using this
theorem look_run {tm te : TypeId} (ht : Try.prog.underlying tm = some (.map 34 te)) {w : World} {r : Nat} {L : List ((Int × Int) × V)} (h : MapAt R w r L) (k : Int × Int) (z : Value) (hz : (zeroValue te).run Try.prog w = .ok z w) :
    (getL k L = none ∧ (Instr.lookup tm (.map (some r)) (kv k) true).run Try.prog w = .ok (.tuple #[z, .bool false]) w) ∨ (∃ v y, getL k L = some v ∧ R y v ∧ (Instr.lookup tm (.map (some r)) (kv k) true).run Try.prog w = .ok (.tuple #[y, .bool true]) w) := by
  obtain ⟨⟨es, c, h1, h2⟩⟩ := h
  have e1 := MapKept.run_getObj_map (P := Try.prog) h1
  rcases find_is k w h2 with ⟨h3, h4⟩ | ⟨j, e, v0, h3, h4, h5, h6, h7, h8⟩
  · refine .inl ⟨h4, ?_⟩
    unfold Instr.lookup
    simp [run_underlying ht, e1, key_ok, h3, hz, go_sem]
  · refine .inr ⟨v0, e.val, h6, h7, ?_⟩
    unfold Instr.lookup
    simp [run_underlying ht, e1, key_ok, h3, go_sem]
end
end Go.Proofs.Ytodfimnmbfdicaa
