/- How what was handed in reads again behind a call that left it alone. No condition. -/
import Derived.Test.YtmbkkjofikijiaaGreatDoorRows
import Derived.Test.YtmbkkjofikijiaaGreatDoorKit
import Derived.ProofKit
import Derived.ReadAgain
import Derived.Lib.SmallJoins
namespace Go.Proofs.YtmbkkjofikijiaaGreatDoor
open Go.ChangeShapes Go.WideShapes Go.ChangeAt Go.RowKit Go.Joins Go.Deep
theorem Tryz.own : ownKnob Tryz.prog.godebug = none := by kernel_rfl
theorem Tryz.kids : Kids Tryz.prog (· < Tryz.prog.types.size) := kids_rows (by kernel_rfl) (by kernel_rfl)
theorem Tryz.full : ∀ t e, t < Tryz.prog.types.size → Tryz.prog.underlying t = some (.slice e) → 0 < Tryz.prog.cellsOf e := slices_full_of Tryz.prog (by kernel_rfl)
theorem u32_wf {n : Int} (h : (Lit.int .u32 n).wf = true) : 0 ≤ n ∧ n < 4294967296 := by
  have h1 : IntKind.u32.min = 0 := rfl
  have h2 : IntKind.u32.max = 4294967295 := rfl
  simp only [Lit.wf, Bool.and_eq_true, decide_eq_true_eq] at h
  omega
section
variable {H : Type} {enc : TypeId × Value → H} {w w' : World} {base : Nat} {spare : Nat → Bool} {held : Bool}
theorem same_place (hb : Below w.heap.size w w') {p : MemPlace} (hp : p.block < w.heap.size) : w.sameAt w' p := by
  cases p with
  | cell b off => exact hb.cell (p := ⟨b, off, none⟩) hp
  | map b => exact hb.block b hp
/-- What was read reads again. -/
theorem again : ∀ {ts : List TypeId} {vs : List Value} {ds : List (DataW H)} {ps : List MemPlace}, Below w.heap.size w w' → (∀ t ∈ ts, t < Tryz.prog.types.size) → (∀ p ∈ ps, p.block < w.heap.size) →
    DataW.TrodAll enc Tryz.prog w base (fun _ => true) true ts vs ds ps → (∀ p ∈ ps, spare p.block = true) → DataW.TrodAll enc Tryz.prog w' base spare true ts vs ds ps := by
  intro ts vs ds ps hb hT hlt h hs
  refine DataW.TrodAll.respare Tryz.kids Tryz.full hT ?_ hs
  clear hs hT
  induction ts generalizing vs ds ps with
  | nil =>
    cases vs <;> cases ds <;> exact h
  | cons t ts ih =>
    cases vs with
    | nil => cases ds <;> exact h
    | cons v vs =>
      cases ds with
      | nil => exact h
      | cons d ds =>
        obtain ⟨p, q, ⟨n, h1⟩, h2, e⟩ := h
        subst e
        exact ⟨p, q, ⟨n, DataW.trod_carry n _ _ _ h1 fun x hx => same_place hb (hlt x (List.mem_append_left _ hx))⟩, ih (fun x hx => hlt x (List.mem_append_right _ hx)) h2, rfl⟩
end
end Go.Proofs.YtmbkkjofikijiaaGreatDoor
