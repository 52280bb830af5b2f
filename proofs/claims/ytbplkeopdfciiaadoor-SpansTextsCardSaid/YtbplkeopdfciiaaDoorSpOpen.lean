/- How a slice of spans that is handed in reads, and how what was handed in reads again behind a call that left it alone. No condition. -/
import Derived.Test.YtbplkeopdfciiaaDoorRows
import Derived.Test.YtbplkeopdfciiaaDoorSpCuts
import Derived.ProofKit
import Derived.ReadAgain
import Derived.Deep.SlicePairs
import Derived.Lib.SmallJoins
namespace Go.Proofs.YtbplkeopdfciiaaDoor
open Go.ChangeShapes Go.WideShapes Go.ChangeAt Go.RowKit Go.Joins Go.Deep
theorem Tryd.own : ownKnob Tryd.prog.godebug = none := by kernel_rfl
theorem Tryd.kids : Kids Tryd.prog (· < Tryd.prog.types.size) := kids_rows (by kernel_rfl) (by kernel_rfl)
theorem Tryd.full : ∀ t e, t < Tryd.prog.types.size → Tryd.prog.underlying t = some (.slice e) → 0 < Tryd.prog.cellsOf e := slices_full_of Tryd.prog (by kernel_rfl)
theorem u32_wf {n : Int} (h : (Lit.int .u32 n).wf = true) : 0 ≤ n ∧ n < 4294967296 := by
  have h1 : IntKind.u32.min = 0 := rfl
  have h2 : IntKind.u32.max = 4294967295 := rfl
  simp only [Lit.wf, Bool.and_eq_true, decide_eq_true_eq] at h
  omega
section
variable {H : Type} {enc : TypeId × Value → H} {w w' : World} {base : Nat} {spare : Nat → Bool} {held : Bool}
theorem rd_of {fuel : Nat} {v : Value} {x : DataW H × List MemPlace} (h : DataW.trod enc Tryd.prog w base spare held fuel 22 [v] = some x) : ∃ l, Rd w v l := by
  rcases open_slice_pairs Tryd.underlying22 (by rw [Tryd.underlying33]) (by kernel_rfl) rfl rfl (by kernel_rfl) (by kernel_rfl) h with ⟨hc, _⟩ | ⟨a, len, cap, m, n, V0, V1, D0, D1, P0, P1, hc, hb, hl, hm, hmm, _, hx⟩
  · simp at hc; subst hc
    exact ⟨[], Rd.nil w⟩
  · simp at hc; subst hc
    have hlm : len ≤ m := by rw [hmm]; split <;> omega
    by_cases h0 : len = 0
    · subst h0
      exact ⟨[], fun _ h => (by cases h), .inl ⟨some a, cap, rfl, hm, rfl⟩⟩
    have hsp : a.spot = none := by
      have := World.cell?_spot (hx 0 (by omega)).1
      unfold Addr.add at this
      split at this
      · exact this
      · simp at *
    obtain ⟨b, o, sp⟩ := a
    simp only at hsp
    subst hsp
    have hnum : ∀ i, i < m → ∃ s : Nat × Nat, s.1 < top ∧ s.2 < top ∧ V0 i = .int .u32 s.1 ∧ V1 i = .int .u32 s.2 := by
      intro i hi
      obtain ⟨_, _, h3, h4⟩ := hx i hi
      obtain ⟨p, e1, _, w1⟩ := DataW.trod_int Tryd.underlying31 h3
      obtain ⟨q, e2, _, w2⟩ := DataW.trod_int Tryd.underlying31 h4
      simp at e1 e2
      have r1 := u32_wf w1
      have r2 := u32_wf w2
      exact ⟨(p.toNat, q.toNat), by rw [top_def]; omega, by rw [top_def]; omega, by rw [e1]; congr 1; omega, by rw [e2]; congr 1; omega⟩
    obtain ⟨S, hS⟩ := Classical.axiomOfChoice (r := fun (i : Nat) (s : Nat × Nat) => i < m → s.1 < top ∧ s.2 < top ∧ V0 i = .int .u32 s.1 ∧ V1 i = .int .u32 s.2) (fun i => by
      by_cases hi : i < m
      · obtain ⟨s, hs⟩ := hnum i hi
        exact ⟨s, fun _ => hs⟩
      · exact ⟨(0, 0), fun h => absurd h hi⟩)
    refine ⟨(List.range len).map S, fun s hs => ?_, .inr ⟨b, o, cap, by simp, by simpa using hl, hm, ?_, fun i s hi => ?_⟩⟩
    · obtain ⟨i, hi, rfl⟩ := List.mem_map.1 hs
      have := hS i (by have := List.mem_range.1 hi; omega)
      exact ⟨this.1, this.2.1⟩
    · have := World.block_lt_of_cell? w _ (hx 0 (by omega)).1
      rw [addr_addr] at this
      exact this
    · rw [List.getElem?_map] at hi
      cases hr : (List.range len)[i]? with
      | none => rw [hr] at hi; simp at hi
      | some j =>
        rw [hr] at hi
        have hij := (List.getElem?_eq_some_iff.1 hr).2
        have hil := (List.getElem?_eq_some_iff.1 hr).1
        simp at hij hil hi
        subst hij hi
        obtain ⟨h1, h2, _, _⟩ := hx i (by omega)
        obtain ⟨_, _, h5, h6⟩ := hS i (by omega)
        rw [addr_addr, h5] at h1
        rw [addr_addr, h6] at h2
        exact ⟨h1, by rw [Nat.add_assoc]; exact h2⟩
theorem same_place (hb : Below w.heap.size w w') {p : MemPlace} (hp : p.block < w.heap.size) : w.sameAt w' p := by
  cases p with
  | cell b off => exact hb.cell (p := ⟨b, off, none⟩) hp
  | map b => exact hb.block b hp
/-- What was read reads again. -/
theorem again : ∀ {ts : List TypeId} {vs : List Value} {ds : List (DataW H)} {ps : List MemPlace}, Below w.heap.size w w' → (∀ t ∈ ts, t < Tryd.prog.types.size) → (∀ p ∈ ps, p.block < w.heap.size) →
    DataW.TrodAll enc Tryd.prog w base (fun _ => true) true ts vs ds ps → (∀ p ∈ ps, spare p.block = true) → DataW.TrodAll enc Tryd.prog w' base spare true ts vs ds ps := by
  intro ts vs ds ps hb hT hlt h hs
  refine DataW.TrodAll.respare Tryd.kids Tryd.full hT ?_ hs
  clear hs hT
  induction ts generalizing vs ds ps with
  | nil =>
    cases vs <;> cases ds <;> exact h
  | cons t ts ih =>
    cases vs with
    | nil => cases ds <;> exact h
    | cons v vs =>
      cases ds with
      | nil => exact h
      | cons d ds =>
        obtain ⟨p, q, ⟨n, h1⟩, h2, e⟩ := h
        subst e
        exact ⟨p, q, ⟨n, DataW.trod_carry n _ _ _ h1 fun x hx => same_place hb (hlt x (List.mem_append_left _ hx))⟩, ih (fun x hx => hlt x (List.mem_append_right _ hx)) h2, rfl⟩
end
end Go.Proofs.YtbplkeopdfciiaaDoor
