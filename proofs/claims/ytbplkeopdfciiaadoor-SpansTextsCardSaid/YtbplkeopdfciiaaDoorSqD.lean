/- A region that draws its order and calls functions that lay new memory, in a round of a loop over a function: walked once, in the order of its text. Under the conditions that it names. -/
import Derived.Test.YtbplkeopdfciiaaDoorSpRd
import Derived.Test.YtbplkeopdfciiaaDoorKit
namespace Go.Proofs.YtbplkeopdfciiaaDoor
open Go Go.RowKit
section
variable {P : Program} {ops : Array Oper} {md : Region.Mode} {C : World → Prop} {m t : Nat}
theorem wpInR_of_quiet {o : Oper} (hd : ∀ c, o.op ≠ .defer c) {a : Act} {w : World} {K : Act → Prop} {K' : Act → World → Prop} {Q' : Exit → Act → World → Prop} (hw : C w) (h : ∀ a w', C w' → K a → K' a w') (hh : o.quiet P a C K) : o.wpIn (Fence.wide.inRound t) m P a w K' Q' := by
  obtain ⟨v, hv, hn⟩ := hh
  have hv := hv w hw
  unfold Oper.quietAt at hv
  refine ⟨fun _ _ => trivial, ?_⟩
  rw [Oper.semAt_eq _ _ _ hd]
  generalize (execOp a.eval o).run P w = r at *
  cases r with
  | ok n w' =>
    cases n <;> simp only [Oper.quietUpon] at hv <;> simp only [Oper.uponIn]
    case enter f args =>
      obtain ⟨rfl, hc⟩ := hv
      exact ⟨(fun e => by cases e), (callsIn_wide.2 (hc.mono fun e w'' ⟨he, hC⟩ => by subst he; exact h _ _ hC hn)).inRound t⟩
    all_goals (obtain ⟨rfl, rfl⟩ := hv; exact h _ _ hw hn)
  | halt x w' => simp only [Oper.quietUpon] at hv
theorem wpOpInR_of_qOp (hd : ∀ (i : Nat) o, ops[i]? = some o → ∀ c, o.op ≠ .defer c) {i : Nat} {a : Act} {w : World} {K : Act → Prop} {K' : Act → World → Prop} {Q' : Exit → Act → World → Prop} (hw : C w) (h : ∀ a w', C w' → K a → K' a w') (hh : qOp P ops C i K a) : wpOpIn (Fence.wide.inRound t) m P ops Q' i K' a w := by
  unfold qOp at hh
  unfold wpOpIn
  split
  · rename_i ho; simp only [ho] at hh; exact h _ _ hw hh
  · rename_i o ho
    simp only [ho] at hh
    split
    · rename_i hg; simp only [hg, if_true] at hh; exact wpInR_of_quiet (hd _ _ ho) hw h hh
    · rename_i hg; simp only [hg] at hh; exact ⟨fun _ _ => trivial, h _ _ hw hh⟩
theorem wpAnyInR_of_quiet (hd : ∀ (i : Nat) o, ops[i]? = some o → ∀ c, o.op ≠ .defer c) {Q : Act → Prop} {Q' : Exit → Act → World → Prop} (hQ : ∀ a w, C w → Q a → Q' .normal a w) :
    ∀ (f : Nat) (listed : Array Bool) (a : Act) (w : World), C w → wpAnyQ P md ops C Q f listed a → wpAnyIn (Fence.wide.inRound t) m P md ops Q' f listed a w
  | 0, _, _, _, hw, h => ⟨h.1, hQ _ _ hw h.2⟩
  | f + 1, listed, a, w, hw, h => ⟨fun h0 => hQ _ _ hw (h.1 h0), fun i hi => wpOpInR_of_qOp hd hw (fun a' w' hw' h' => wpAnyInR_of_quiet hd hQ f _ a' w' hw' h') (h.2 i hi)⟩
theorem wpInR_region_grows {id : Nat} {Q : Exit → Act → World → Prop} {a : Act} {w : World} {l : List Oper} (hd : ∀ (i : Nat) o, l.toArray[i]? = some o → ∀ c, o.op ≠ .defer c) (hm : P.follows .mixedOrders = true) (hB : Region.lexB .any l.toArray = true)
    (h : wpQuiet P l.toArray (fun w' => ∃ x : Grows w, w' = x.val) (fun a' => ∀ w', (∃ x : Grows w, w' = x.val) → Q .normal a' w') l a) : (Code.region id l.toArray true).wpIn (Fence.wide.inRound t) m P Q a w := by
  simp only [Region.lexB, Bool.and_eq_true] at hB
  refine wpIn_region_any hm ?_
  refine wpAnyInR_of_quiet (C := fun w' => ∃ x : Grows w, w' = x.val) hd (Q := fun a' => ∀ w', (∃ x : Grows w, w' = x.val) → Q .normal a' w') (fun _ w' hw' h => h w' hw') _ _ _ _ ⟨⟨_, (Below.refl _ _).drew⟩, rfl⟩ ?_
  have := wpAnyQ_lex (C := fun w' => ∃ x : Grows w, w' = x.val) (md := .any) hB.1 l 0 (Array.replicate l.toArray.size false) a (by simp) (by simpa using hB.2) h
  simpa using this
end
end Go.Proofs.YtbplkeopdfciiaaDoor
