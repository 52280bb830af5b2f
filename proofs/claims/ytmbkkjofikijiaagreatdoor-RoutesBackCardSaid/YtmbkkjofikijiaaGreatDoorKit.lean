/- Small laws for walks: worlds that only grow, a region of reads and of calls that lay new memory walked once in the order of its text, equations of results. No condition; nothing here speaks of the program. -/
import Derived.WalkKit
import Derived.WalkSpells
import Derived.WalkLawsBesides
import Derived.Deep.QuietTactic
import Derived.BigQuiet
import Derived.StillTailTactics
import Derived.Handy
import Derived.Lib.Hide
import Derived.ChangeSame
namespace Go.Proofs.YtmbkkjofikijiaaGreatDoor
open Go.RowKit
theorem ret_int {k : IntKind} {a b : Int} (h : a = b) : Ending.returned (.int k a) = .returned (.int k b) := by rw [h]
theorem ret_int2 {k l : IntKind} {a b c d : Int} (h : a = b) (h2 : c = d) : Ending.returned (.tuple #[.int k a, .int l c]) = .returned (.tuple #[.int k b, .int l d]) := by rw [h, h2]
theorem ret_int3 {k l m : IntKind} {a b c d x y : Int} (h : a = b) (h2 : c = d) (h3 : x = y) : Ending.returned (.tuple #[.int k a, .int l c, .int m x]) = .returned (.tuple #[.int k b, .int l d, .int m y]) := by rw [h, h2, h3]
theorem ret_bool {a b : Bool} (h : a = b) : Ending.returned (.bool a) = .returned (.bool b) := by rw [h]
theorem bcell {W w1 : World} (hb : Below W.heap.size W w1) : (∀ b o, b < W.heap.size → w1.cell? ⟨b, o, none⟩ = W.cell? ⟨b, o, none⟩) ∧ (∀ b o, b < W.heap.size → w1.frozen? ⟨b, o, none⟩ = W.frozen? ⟨b, o, none⟩) :=
  ⟨fun b o h => hb.cell (p := ⟨b, o, none⟩) h, fun b o h => hb.frozen (p := ⟨b, o, none⟩) h⟩
/-- One more call behind what stands. -/
theorem Below.step {a W w1 : World} (h : Below a.heap.size a W) (hb : Below W.heap.size W w1) : Below a.heap.size a w1 := h.trans (hb.mono h.size)
theorem Below.draws {B : Nat} {a w : World} (h : Below B a w) (n : Nat) : Below B a (w.drewN n) := ⟨h.os, h.tape, h.output, h.size, h.block⟩
/-- A world that stands behind W: what W had is as it was. -/
structure Grows (W : World) where
  val : World
  below : Below W.heap.size W val
instance growsNonempty (W : World) : Nonempty (Grows W) := ⟨⟨W, Below.refl _ _⟩⟩
theorem wp_region_grows {P : Program} {id : Nat} {Q : Exit → Act → World → Prop} {a : Act} {w : World} {l : List Oper} (hm : P.follows .mixedOrders = true) (hB : Region.lexB .any l.toArray = true)
    (h : wpQuiet P l.toArray (fun w' => ∃ x : Grows w, w' = x.val) (fun a' => ∀ w', (∃ x : Grows w, w' = x.val) → Q .normal a' w') l a) : (Code.region id l.toArray true).wp P Q a w :=
  wp_region_quiet (C := fun w' => ∃ x : Grows w, w' = x.val) hm hB ⟨⟨_, (Below.refl _ _).drew⟩, rfl⟩ (by simpa using h)
theorem grows_fact {P : Program} {ops : Array Oper} {Q : Act → Prop} {a : Act} {W : World} {l : List Oper} (b o : Nat) (v : Value) (h : W.cell? ⟨b, o, none⟩ = some v) (hb : b < W.heap.size)
    (k : (∀ x : Grows W, x.val.cell? ⟨b, o, none⟩ = some v) → wpQuiet P ops (fun w' => ∃ x : Grows W, w' = x.val) Q l a) : wpQuiet P ops (fun w' => ∃ x : Grows W, w' = x.val) Q l a :=
  k fun x => (x.below.cell (p := ⟨b, o, none⟩) hb).trans h
theorem Calls.grows_of {P : Program} {f : FuncId} {args : Array Value} {W : World} {x : Grows W} {v : Value}
    (h : Calls P f args x.val fun e w' => e = .returned v ∧ Below x.val.heap.size x.val w') : Calls P f args x.val fun e w'' => e = .returned v ∧ ∃ y : Grows W, w'' = y.val :=
  h.mono fun _ w' ⟨he, hb⟩ => ⟨he, ⟨w', Below.step x.below hb⟩, rfl⟩
theorem Calls.grows_same {P : Program} {f : FuncId} {args : Array Value} {W : World} {x : Grows W} {v : Value}
    (h : Calls P f args x.val fun e w' => e = .returned v ∧ x.val = w') : Calls P f args x.val fun e w'' => e = .returned v ∧ ∃ y : Grows W, w'' = y.val :=
  h.mono fun _ _ ⟨he, hb⟩ => ⟨he, x, hb.symm⟩
theorem set_same (c : Array Value) (o : Nat) (v : Value) (h : c[o]? = some v) : c.setIfInBounds o v = c := by
  apply Array.ext_getElem?
  intro i
  rw [Array.getElem?_setIfInBounds]
  by_cases e : o = i
  · subst e
    rw [if_pos rfl, h]
    split
    · rfl
    · rename_i h2; rw [Array.getElem?_eq_none (by omega)] at h; exact h
  · rw [if_neg e]
theorem setCell_same {w : World} {b o : Nat} {v : Value} (h : w.cell? ⟨b, o, none⟩ = some v) : w.setCell ⟨b, o, none⟩ v = w := by
  unfold World.cell? at h
  unfold World.setCell
  have e : w.heap.modify b (fun | .cells c elem frozen => .cells (if (none : Option Nat).isSome then c else c.setIfInBounds o v) elem frozen | x => x) = w.heap := by
    apply Array.ext_getElem?
    intro i
    rw [Array.getElem?_modify]
    by_cases e : b = i
    · subst e
      split at h
      · rename_i c el f hh
        simp only [Option.isSome_none, Bool.false_eq_true, if_false] at h
        rw [hh]
        simp [set_same c o v h]
      · simp at h
    · rw [if_neg e]
  exact congrArg (fun h => { w with heap := h }) e
/-- A cell of the call's own that is stored to what it holds already. -/
theorem grows_store {P : Program} {ops : Array Oper} {Q : Act → Prop} {a : Act} {W : World} {l : List Oper} (b o : Nat) (v : Value) (h : W.cell? ⟨b, o, none⟩ = some v) (hf : W.frozen? ⟨b, o, none⟩ = false) (hb : b < W.heap.size)
    (k : (∀ x : Grows W, x.val.cell? ⟨b, o, none⟩ = some v) → (∀ x : Grows W, x.val.frozen? ⟨b, o, none⟩ = false) → (∀ x : Grows W, x.val.setCell ⟨b, o, none⟩ v = x.val) → wpQuiet P ops (fun w' => ∃ x : Grows W, w' = x.val) Q l a) : wpQuiet P ops (fun w' => ∃ x : Grows W, w' = x.val) Q l a :=
  k (fun x => (x.below.cell (p := ⟨b, o, none⟩) hb).trans h) (fun x => (x.below.frozen (p := ⟨b, o, none⟩) hb).trans hf) (fun x => setCell_same ((x.below.cell (p := ⟨b, o, none⟩) hb).trans h))
section
variable {H : Type} {enc : TypeId × Value → H} {P : Program}
open Go.WideShapes Go.ChangeShapes
/-- A law's last step: what stood before the call stands, new blocks may have come. -/
theorem post_grown {f : Func} {s : ChangeSpec} {apart fresh handsOn again : Bool} {W W' : World} {args : Array Value} {v : Value} {ds gs : List (DataW H)} {met pa pv : List MemPlace}
    (whole : DataW.Whole enc P f.params.toList s.vars apart W args.toList ds gs met) (grown : Below W.heap.size W W') (split : met = pa ++ pv)
    (out : ∀ (b : Nat) (sp : Nat → Bool) (hd : Bool), DataW.TrodAll enc P W' b sp hd f.resultTypes.toList (v.resultList f.resultTypes.size) (s.fn H (ds ++ gs)).results [])
    (ins : ∀ sp : Nat → Bool, (∀ p ∈ met, sp p.block = true) → DataW.TrodAll enc P W' 0 sp true f.params.toList args.toList (s.fn H (ds ++ gs)).args pa)
    (vars : ∀ sp : Nat → Bool, (∀ p ∈ met, sp p.block = true) → DataW.TrodVars enc P W' sp s.vars (s.fn H (ds ++ gs)).vars pv)
    (wide : ∀ (j : Nat) (t : TypeId) (r : Value), f.resultTypes[j]? = some t → (v.resultList f.resultTypes.size)[j]? = some r → Value.okWide P W' .any 0 t r) :
    s.post enc P f apart fresh handsOn again W args v W' := by
  have lt : ∀ p ∈ met, p.block < W.heap.size := fun p hp => whole.lt p hp
  have old : ∀ p ∈ met, (fun b => decide (b < W.heap.size)) p.block = true := fun p hp => by simpa using lt p hp
  have any : ∀ p ∈ met, (fun _ : Nat => true) p.block = true := fun _ _ => rfl
  refine ⟨ds, gs, met, [], pa, pv, whole, out _ _ _, ins _ old, vars _ old, World.keptBut_mono (fun p hp => ⟨hp, ?_⟩) (grown.frame (· ∈ met)), fun _ => ?_⟩
  · rw [split, List.mem_append] at hp
    exact .inr hp
  obtain ⟨_, _, _, _, _, nf, nd⟩ := whole
  refine ⟨wide, _, _, ([] ++ pa) ++ pv, ⟨[] ++ pa, pv, trodAll_append (ins _ any) (out _ _ _), vars _ any, rfl, fun b off hp => ?_, fun ha => ?_⟩, fun p hp _ => ?_⟩
  · have hm : MemPlace.cell b off ∈ met := by rw [split]; simpa using hp
    rw [grown.frozen (lt _ hm)]
    exact nf b off hm
  · have h := nd ha
    rw [split] at h
    simpa using h
  · rw [split]
    simpa using hp
end
end Go.Proofs.YtmbkkjofikijiaaGreatDoor
