/- Trees of prefixes in a world's memory: nodes that never change. No condition. -/
import Derived.Test.YtodfimnmbfdicaaTpA
import Derived.Deep.RegionWith
import Derived.Deep.RegionHeld3
import Derived.Deep.DeepCutAuto
import Derived.Laws.Rows
namespace Go.Proofs.Ytodfimnmbfdicaa
open Go.RowKit Go.Shelf
/-- A value's block, one of P, or none. -/
def VlAt {V : Type} (TV : TypeId) (enc : V → Array Value) (P : Nat → Prop) (w : World) (p : Option Addr) : Option V → Prop
  | none => p = none
  | some v => ∃ g, p = some ⟨g, 0, none⟩ ∧ P g ∧ w.heap[g]? = some (.cells (enc v) TV (0, 0))
/-- A tree whose nodes' blocks have the type TN, all blocks of P. -/
def TrAt {V : Type} (TN TV : TypeId) (enc : V → Array Value) (P : Nat → Prop) (w : World) (p : Option Addr) : Tr V → Prop
  | .nil => p = none
  | .node a n u l r => ∃ g pv pl pr, p = some ⟨g, 0, none⟩ ∧ P g ∧ w.heap[g]? = some (.cells #[.int .u32 a, .int .i64 n, .pointer pv, .pointer pl, .pointer pr] TN (0, 0)) ∧ VlAt TV enc P w pv u ∧ TrAt TN TV enc P w pl l ∧ TrAt TN TV enc P w pr r
section
variable {V : Type} {TN TV : TypeId} {enc : V → Array Value} {P Q : Nat → Prop}
theorem blk_lt {w : World} {g : Nat} {o : Obj} (h : w.heap[g]? = some o) : g < w.heap.size := (Array.getElem?_eq_some_iff.1 h).1
theorem VlAt.keep {w w' : World} {p : Option Addr} {u : Option V} (hk : ∀ x, x < w.heap.size → P x → Q x ∧ w'.heap[x]? = w.heap[x]?) (h : VlAt TV enc P w p u) : VlAt TV enc Q w' p u := by
  cases u with
  | none => exact h
  | some v =>
    obtain ⟨g, h1, h2, h3⟩ := h
    have := hk g (blk_lt h3) h2
    exact ⟨g, h1, this.1, this.2.trans h3⟩
theorem TrAt.keep {w w' : World} (hk : ∀ x, x < w.heap.size → P x → Q x ∧ w'.heap[x]? = w.heap[x]?) : ∀ {t : Tr V} {p : Option Addr}, TrAt TN TV enc P w p t → TrAt TN TV enc Q w' p t
  | .nil, _, h => h
  | .node _ _ _ _ _, _, ⟨g, pv, pl, pr, h1, h2, h3, h4, h5, h6⟩ => ⟨g, pv, pl, pr, h1, (hk g (blk_lt h3) h2).1, (hk g (blk_lt h3) h2).2.trans h3, h4.keep hk, TrAt.keep hk h5, TrAt.keep hk h6⟩
theorem VlAt.on {w w' : World} {p : Option Addr} {u : Option V} (hb : Below w.heap.size w w') (h : VlAt TV enc P w p u) : VlAt TV enc P w' p u := h.keep fun x hx hp => ⟨hp, hb.block x hx⟩
theorem TrAt.on {w w' : World} (hb : Below w.heap.size w w') {t : Tr V} {p : Option Addr} (h : TrAt TN TV enc P w p t) : TrAt TN TV enc P w' p t := h.keep fun x hx hp => ⟨hp, hb.block x hx⟩
theorem TrAt.mono (hPQ : ∀ x, P x → Q x) {w : World} {t : Tr V} {p : Option Addr} (h : TrAt TN TV enc P w p t) : TrAt TN TV enc Q w p t := h.keep fun x _ hp => ⟨hPQ x hp, rfl⟩
theorem VlAt.mono (hPQ : ∀ x, P x → Q x) {w : World} {u : Option V} {p : Option Addr} (h : VlAt TV enc P w p u) : VlAt TV enc Q w p u := h.keep fun x _ hp => ⟨hPQ x hp, rfl⟩
end
/-- The blocks of P, and all that are new behind w. -/
abbrev Wid (P : Nat → Prop) (w : World) (x : Nat) : Prop := P x ∨ w.heap.size ≤ x
theorem eqlP (a n b m : Int) (w : World) : (binOp .eql 34 (.agg #[.int .u32 a, .int .i64 n]) (.agg #[.int .u32 b, .int .i64 m])).run Try.prog w = .ok (.bool (decide (a = b ∧ n = m))) w := by
  by_cases h1 : a = b <;> by_cases h2 : n = m <;> simp [h1, h2, go_sem]
theorem eqPR : Try.prog.eqGuardType Try.prog.depth 34 = false := by kernel_rfl
theorem guardP (op : BinOp) (a b : Operand) (x y : Array Value) (w : World) : (eqGuard op 34 a b (.agg x) (.agg y)).run Try.prog w = .ok () w :=
  run_eqGuard_agg _ _ _ _ _ _ _ eqPR
theorem neqP (a n b m : Int) (w : World) : (binOp .neq 34 (.agg #[.int .u32 a, .int .i64 n]) (.agg #[.int .u32 b, .int .i64 m])).run Try.prog w = .ok (.bool (!decide (a = b ∧ n = m))) w := by
  by_cases h1 : a = b <;> by_cases h2 : n = m <;> simp [h1, h2, go_sem]
/-- A row that stands in a world: its cells. -/
theorem row_cell {w : World} {g : Nat} {cs : Array Value} {t : TypeId} (h : w.heap[g]? = some (.cells cs t (0, 0))) (o : Nat) : w.cell? ⟨g, o, none⟩ = cs[o]? := cell_of_row _ _ _ _ _ _ h
theorem Below.step' {g : Nat} {W X w5 : World} (hb : Below X.heap.size X w5) (hg : g < X.heap.size) (hX : Below g W X := by first | exact Below.refl _ _ | exact (Below.refl _ _).drew | exact ((Below.refl _ _).drew).drew) : Below g W w5 := hX.trans (hb.mono (by omega))
theorem fresh9 {wc W9 : World} {k : Nat} {cs : Array Value} {T : TypeId} (h : (wc.alloc (.cells cs T)).drewN k = W9) : W9.heap[wc.heap.size]? = some (.cells cs T (0, 0)) ∧ Below wc.heap.size wc W9 ∧ W9.heap.size = wc.heap.size + 1 := by
  subst h
  exact ⟨heap_alloc_new wc _, Below.draws ((Below.refl _ _).alloc (Nat.le_refl _) _) k, by simp [World.drewN]⟩
theorem set1 {W W' : World} {g i : Nat} {cs : Array Value} {T : TypeId} {v : Value} (h : W.heap[g]? = some (.cells cs T (0, 0))) (e : W.setCell ⟨g, i, none⟩ v = W') :
    W'.heap[g]? = some (.cells (cs.setIfInBounds i v) T (0, 0)) ∧ (∀ x, x ≠ g → W'.heap[x]? = W.heap[x]?) ∧ W'.heap.size = W.heap.size ∧ Below g W W' := by
  subst e
  exact ⟨heap_setCell_same _ _ i _ _ _ h, fun x hx => Below.heap_setCell _ _ _ _ hx, by simp [World.setCell], (Below.refl _ _).setCell (p := ⟨g, i, none⟩) (Nat.le_refl _) _⟩
theorem copy5 {W W' : World} {g : Nat} {x0 x1 x2 x3 x4 y0 y1 y2 y3 y4 : Value} {T : TypeId} (h : W.heap[g]? = some (.cells #[x0, x1, x2, x3, x4] T (0, 0)))
    (e : ((((W.setCell ⟨g, 0, none⟩ y0).setCell ⟨g, 1, none⟩ y1).setCell ⟨g, 2, none⟩ y2).setCell ⟨g, 3, none⟩ y3).setCell ⟨g, 4, none⟩ y4 = W') :
    W'.heap[g]? = some (.cells #[y0, y1, y2, y3, y4] T (0, 0)) ∧ (∀ x, x ≠ g → W'.heap[x]? = W.heap[x]?) ∧ W'.heap.size = W.heap.size ∧ Below g W W' := by
  obtain ⟨r0, o0, s0, b0⟩ := set1 (v := y0) (i := 0) h rfl
  obtain ⟨r1, o1, s1, b1⟩ := set1 (v := y1) (i := 1) r0 rfl
  obtain ⟨r2, o2, s2, b2⟩ := set1 (v := y2) (i := 2) r1 rfl
  obtain ⟨r3, o3, s3, b3⟩ := set1 (v := y3) (i := 3) r2 rfl
  obtain ⟨r4, o4, s4, b4⟩ := set1 (v := y4) (i := 4) r3 e
  exact ⟨r4, fun x hx => (o4 x hx).trans ((o3 x hx).trans ((o2 x hx).trans ((o1 x hx).trans (o0 x hx)))), by omega, (((b0.trans b1).trans b2).trans b3).trans b4⟩
end Go.Proofs.Ytodfimnmbfdicaa
