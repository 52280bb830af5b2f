/- A range over a function whose iterator keeps where it stands in a cell of its own, older than the loop: what holds between two rounds must bear that this cell changes. Nothing here speaks of the program. -/
import Derived.RangeFuncFrom
import Derived.RangeFuncNested
import Derived.RangeFuncCalls
namespace Go.Proofs.YtbplkeopdfciiaaDoor
open Go Go.RowKit
variable {F : Fence} {n : Nat} {P : Program}
/-- A word about a world bears that block c changes. -/
def Bears {β : Type} (c : Nat) (J : β → World → Prop) : Prop := ∀ s A B, J s A → A.grownBy B (some c) → J s B
/-- What an iterator does that writes into block c. -/
def SeqC {α : Type} (F : Fence) (n : Nat) (P : Program) (g : Nat) (lb : Array Value) (encs : α → Array Value) (Kp : World → World → Prop) (S Sp : List α → Prop) (N c : Nat) (w : World) : Prop :=
  ∀ (l : Nat) (J Jx : List α → World → Prop) (W : World), Below w.heap.size w W → AbidesFrom W.heap.size J → AbidesFrom W.heap.size Jx → Bears c J → Bears c Jx →
    (∀ pre x W1, J pre W1 → pre.length < N → YieldAt F (n - 1) P l (encs x) W1 fun e W' => (e = .returned (.bool true) ∧ J (pre ++ [x]) W' ∧ Kp W1 W') ∨ (e = .returned (.bool false) ∧ Jx (pre ++ [x]) W')) →
    J [] W → CallsIn F n P g (#[.func (.yield l) #[] #[]] ++ lb) W fun e W' => (∃ v, e = .returned v) ∧ ((∃ xs, S xs ∧ J xs W') ∨ (∃ pre, Sp pre ∧ Jx pre W'))
/-- The two blocks that the loop lays for itself. -/
structure Book (r : Loop) (d : Nat) (W : World) : Prop where
  at1 : W.heap[d + 1]? = some (.loop r)
  at0 : W.heap[d]? = some (.deferred (some []))
theorem Book.grown {r : Loop} {d : Nat} {A B : World} {row : Option Nat} (h : Book r d A) (hg : A.grownBy B row) (hr : ∀ k, row = some k → k ≠ d ∧ k ≠ d + 1) : Book r d B :=
  ⟨(hg.block _ (Array.getElem?_eq_some_iff.1 h.at1).1 (fun e => (hr _ e.symm).2 rfl)).trans h.at1, (hg.block _ (Array.getElem?_eq_some_iff.1 h.at0).1 (fun e => (hr _ e.symm).1 rfl)).trans h.at0⟩
theorem Book.put {r r' : Loop} {d : Nat} {A : World} (h : Book r d A) : Book r' d (A.putObj (d + 1) (.loop r')) :=
  ⟨World.putObj_heap_same (Array.getElem?_eq_some_iff.1 h.at1).1, (World.putObj_heap_other (by omega)).trans h.at0⟩
theorem Book.kept {r : Loop} {d : Nat} {A B : World} (h : Book r d A) (hk : KeepsOthers A B) : Book r d B := ⟨hk.same _ _ h.at1 rfl, hk.same _ _ h.at0 rfl⟩
theorem Book.start (r : Loop) (w : World) : Book r w.heap.size ((w.alloc (.deferred (some []))).alloc (.loop r)) :=
  ⟨by have := World.alloc_heap_new (w.alloc (.deferred (some []))) (.loop r); rwa [World.size_alloc] at this,
   (Below.heap_alloc _ _ _ (by simp)).trans (World.alloc_heap_new w _)⟩
theorem range_cell {α : Type} {g : Operand} {ps : Array Tmp} {assign body : Code} {Q : Exit → Act → World → Prop} {a : Act} {w : World}
    (hro : F.round = none) (h1 : 1 ≤ n) {gf : Nat} {lb : Array Value} (hg : a.eval g = .func (.func gf) #[] lb) (hFg : F.fn gf) (eg : ∀ args w, (callFunc gf args).run P w = .ok (.enter gf args) w)
    {encs : α → Array Value} {Kp : World → World → Prop} {S Sp : List α → Prop} {N c : Nat} {w0 : World} (hseq : SeqC F (n - 1) P gf lb encs Kp S Sp N c w0) (hc : c < w.heap.size)
    (hKt : ∀ {A B C : World}, Kp A B → Kp B C → Kp A C) (hKb : ∀ (W : World) (l : Nat) (o o' : Obj), w.heap.size ≤ l → W.heap[l]? = some o → o.isCells = false → o.isWalk = false → Kp W (W.putObj l o'))
    (hb0 : Below w0.heap.size w0 w) (hps : ∀ x, (encs x).size = ps.size)
    (I : List α → World → Prop) (Ix : Code → List α → World → Prop) (hI : OwnFrom w.heap.size I) (hIx : ∀ k, OwnFrom w.heap.size (Ix k)) (hIc : Bears c I) (hIxc : ∀ k, Bears c (Ix k)) (h0 : I [] w) (a₁ : α → Act)
    (hassign : ∀ (l : Nat) (x : α) (W : World) (K : Act → World → Prop), K (a₁ x) W →
      assign.wpIn (F.inRound l) (n - 1 - 1) P (Exit.then K (fun _ _ _ => False)) { tmps := (ps.zip (encs x)).foldl (fun t (p, v) => t.setIfInBounds p v) a.tmps, defers := [] } W)
    (hbody : ∀ (l : Nat) (pre : List α) (x : α) (W : World), I pre W → pre.length < N → body.wpIn (F.inRound l) (n - 1 - 1) P (ownPostK Kp I Ix (pre ++ [x]) W) (a₁ x) W)
    (hdone : ∀ (D : Nat) (xs : List α) (W : World), w.heap.size ≤ D → S xs → I xs W → W.heap[D]? = some (.deferred (some [])) → Q .normal { a with defers := { target := .collected D, args := #[] } :: a.defers } W)
    (hstop : ∀ (D : Nat) (k : Code) (pre : List α) (W : World), w.heap.size ≤ D → Sp pre → Ix k pre W → W.heap[D]? = some (.deferred (some [])) → k.wpIn F n P Q { a with defers := { target := .collected D, args := #[] } :: a.defers } W) :
    (Code.rangeFunc g ps assign body).wpIn F n P Q a w := by
  refine wpIn_rangeFunc (fun fn hfn => ?_)
  rw [hro]
  obtain ⟨R, hR⟩ : ∃ R : LoopState → Option Code → Loop, R = fun st pe => { state := st, pending := pe, fn, tmps := a.tmps, params := ps, assign, body, defers := w.heap.size } := ⟨_, rfl⟩
  obtain ⟨W1, hW1⟩ : ∃ X, (w.alloc (.deferred (some []))).alloc (.loop (R .ready none)) = X := ⟨_, rfl⟩
  have hB1 : Book (R .ready none) w.heap.size W1 := hW1 ▸ Book.start _ _
  have hz1 : W1.heap.size = w.heap.size + 2 := by rw [← hW1]; simp
  have hi1 : I [] W1 := by rw [← hW1]; exact hI.alloc _ (hI.alloc _ h0)
  have hb1 : Below w0.heap.size w0 W1 := by
    have := hb0.size
    rw [← hW1]
    exact (hb0.alloc (by omega) _).alloc (by simp; omega) _
  refine ⟨w.heap.size + 1, [{ target := .collected w.heap.size, args := #[] }], W1, { target := .fn (.func gf) lb, args := #[.func (.yield (w.heap.size + 1)) #[] #[]] }, W1, gf, #[.func (.yield (w.heap.size + 1)) #[] #[]] ++ lb, W1, ?_, ?_, ?_, ?_, fun _ => h1, ?_⟩
  · rw [← hW1, hR]; exact run_enterLoop_outer _ _ _ _ _
  · simp only [resolve, hg]; simp [go_sem]
  · intro f' hf'; simp [Target.leads] at hf'; subst hf'; exact hFg
  · simp [invoke, go_sem, eg]
  have far : ∀ {A : World} {row : Option Nat}, (∀ r, row = some r → W1.heap.size ≤ r ∧ ∃ o : Obj, A.heap[r]? = some o ∧ o.isWalk = true) → ∀ k, row = some k → k ≠ w.heap.size ∧ k ≠ w.heap.size + 1 := fun h k e => by
    have := (h k e).1; omega
  have near : ∀ k, some c = some k → k ≠ w.heap.size ∧ k ≠ w.heap.size + 1 := fun k e => by
    have : c = k := Option.some.inj e
    omega
  have own : ∀ {A : World} {row : Option Nat}, (∀ r, row = some r → W1.heap.size ≤ r ∧ ∃ o : Obj, A.heap[r]? = some o ∧ o.isWalk = true) → ∀ r, row = some r → w.heap.size ≤ r ∧ ∃ o : Obj, A.heap[r]? = some o ∧ o.isCells = false := fun h r e => by
    obtain ⟨h1, o, h2, h3⟩ := h r e
    exact ⟨by omega, o, h2, Obj.not_cells_of_walk h3⟩
  refine (hseq (w.heap.size + 1) (fun pre W => I pre W ∧ Book (R .ready none) w.heap.size W) (fun pre W => ∃ k, Ix k pre W ∧ Book (R .done (some k)) w.heap.size W) W1 hb1
    (fun s A B row hs hg' hr => ⟨hI s A B row hs.1 hg' (own hr), hs.2.grown hg' (far hr)⟩)
    (fun s A B row hs hg' hr => by obtain ⟨k, h2, h3⟩ := hs; exact ⟨k, hIx k s A B row h2 hg' (own hr), h3.grown hg' (far hr)⟩)
    (fun s A B hs hg' => ⟨hIc s A B hs.1 hg', hs.2.grown hg' near⟩)
    (fun s A B hs hg' => by obtain ⟨k, h2, h3⟩ := hs; exact ⟨k, hIxc k s A B h2 hg', h3.grown hg' near⟩)
    ?_ ⟨hi1, hB1⟩).mono ?_
  · rintro pre x W ⟨hi, hB⟩ hlen
    have hy := run_yield (P := P) (args := encs x) hB.at1 (by rw [hR]; exact hps x)
    rw [hR] at hy
    refine ⟨fn, _, assign, body, hy, roundIn_of_wpIn hfn (hassign _ x W _ ⟨_, run_beginRound hB.at1 (by rw [hR]), ?_⟩)⟩
    obtain ⟨rb, hrb⟩ : ∃ r, r = ({ R .ready none with state := .busy } : Loop) := ⟨_, rfl⟩
    rw [← hrb]
    have hB2 : Book rb w.heap.size (W.putObj (w.heap.size + 1) (.loop rb)) := hB.put
    have hK2 : Kp W (W.putObj (w.heap.size + 1) (.loop rb)) := hKb _ _ _ _ (by omega) hB.at1 rfl rfl
    refine wpIn_mono (hbody _ pre x _ (hI.putObj _ hi (by omega) hB.at1 rfl) hlen) ?_
    have fin : ∀ (jump : Option Code) (W3 : World), KeepsOthers (W.putObj (w.heap.size + 1) (.loop rb)) W3 →
        (Instr.endRound (w.heap.size + 1) jump).run P W3 = .ok (.bool jump.isNone) (W3.putObj (w.heap.size + 1) (.loop (R (if jump.isNone then .ready else .done) jump))) ∧ Book rb w.heap.size W3 ∧
        Book (R (if jump.isNone then .ready else .done) jump) w.heap.size (W3.putObj (w.heap.size + 1) (.loop (R (if jump.isNone then .ready else .done) jump))) := fun jump W3 hk3 => by
      have h3 := hB2.kept hk3
      refine ⟨?_, h3, h3.put⟩
      have := run_endRound (P := P) jump h3.at1
      rw [this, hrb, hR]
    rintro e a3 W3 hp
    cases e with
    | normal =>
      obtain ⟨hk3, hkp3, hi3⟩ := hp
      obtain ⟨hr, h3, h4⟩ := fin none W3 hk3
      exact ⟨_, _, hr, .inl ⟨rfl, ⟨hI.putObj _ hi3 (by omega) h3.at1 rfl, h4⟩, hKt (hKt hK2 hkp3) (hKb _ _ _ _ (by omega) h3.at1 rfl rfl)⟩⟩
    | ret =>
      obtain ⟨hk3, hi3⟩ := hp
      obtain ⟨hr, h3, h4⟩ := fin (some .ret) W3 hk3
      exact ⟨_, _, hr, .inr ⟨rfl, .ret, (hIx _).putObj _ hi3 (by omega) h3.at1 rfl, h4⟩⟩
    | exit id =>
      obtain ⟨hk3, hi3⟩ := hp
      obtain ⟨hr, h3, h4⟩ := fin (some (.exit id)) W3 hk3
      exact ⟨_, _, hr, .inr ⟨rfl, .exit id, (hIx _).putObj _ hi3 (by omega) h3.at1 rfl, h4⟩⟩
    | goto t =>
      obtain ⟨hk3, hi3⟩ := hp
      obtain ⟨hr, h3, h4⟩ := fin (some (.goto t)) W3 hk3
      exact ⟨_, _, hr, .inr ⟨rfl, .goto t, (hIx _).putObj _ hi3 (by omega) h3.at1 rfl, h4⟩⟩
    | panic ch => exact hp.elim
    | outgrown => exact hp.elim
  · rintro e W2 ⟨⟨v, rfl⟩, (⟨xs, hS, hi, hB⟩ | ⟨pre, hSp, k, hi, hB⟩)⟩
    · have hr := run_endLoop (P := P) hB.at1 (by rw [hR]; simp)
      rw [hR] at hr
      refine ⟨none, _, hr, hdone _ xs _ (Nat.le_refl _) hS (hI.putObj _ hi (by omega) hB.at1 rfl) ((World.putObj_heap_other (by omega)).trans hB.at0)⟩
    · have hr := run_endLoop (P := P) hB.at1 (by rw [hR]; simp)
      rw [hR] at hr
      refine ⟨some k, _, hr, hstop _ k pre _ (Nat.le_refl _) hSp ((hIx k).putObj _ hi (by omega) hB.at1 rfl) ((World.putObj_heap_other (by omega)).trans hB.at0)⟩
end Go.Proofs.YtbplkeopdfciiaaDoor
