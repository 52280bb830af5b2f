/- How a slice of sets that is handed in reads. No condition. -/
import Derived.Test.YtdjlbenjbhkfiaaSpOpen
namespace Go.Proofs.Ytdjlbenjbhkfiaa
open Go.ChangeShapes Go.WideShapes Go.ChangeAt Go.RowKit Go.Joins Go.Deep
section
variable {H : Type} {enc : TypeId × Value → H} {w w' : World} {base : Nat} {spare : Nat → Bool} {held : Bool}
theorem rds_of {fuel : Nat} {v : Value} {x : DataW H × List MemPlace} (h : DataW.trod enc Try.prog w base spare held fuel 31 [v] = some x) : ∃ l, RdS w v l := by
  rcases open_slice1 Try.underlying31 (by kernel_rfl) h with ⟨hc, _⟩ | ⟨a, len, cap, m, n, V, D, Pl, hc, hb, hl, hm, hmm, _, hx⟩
  · simp at hc; subst hc
    exact ⟨[], none, 0, rfl, Nat.le_refl _, Nat.zero_le _, fun i l hi => by simp at hi⟩
  · simp at hc; subst hc
    have hlm : len ≤ m := by rw [hmm]; split <;> omega
    have hnum : ∀ i, i < m → ∃ l, Rd w (V i) l := fun i hi => rd_of (hx i hi).2
    obtain ⟨S, hS⟩ := choose_lt hnum
    by_cases h0 : len = 0
    · subst h0
      exact ⟨[], some a, cap, rfl, hl, hm, fun i l hi => by simp at hi⟩
    have hsp : a.spot = none := World.cell?_spot (hx 0 (by omega)).1 |> fun this => by
      unfold Addr.add at this
      split at this
      · exact this
      · simp at *
    obtain ⟨b, o, sp⟩ := a
    simp only at hsp
    subst hsp
    have hbs : b < w.heap.size := by
      have := World.block_lt_of_cell? w _ (hx 0 (by omega)).1
      rw [addr_addr] at this
      exact this
    refine ⟨(List.range len).map S, some ⟨b, o, none⟩, cap, by simp, by simpa using hl, hm, fun i s hi => ?_⟩
    rw [List.getElem?_map] at hi
    cases hr : (List.range len)[i]? with
    | none => rw [hr] at hi; simp at hi
    | some j =>
      rw [hr] at hi
      have hij := (List.getElem?_eq_some_iff.1 hr).2
      have hil := (List.getElem?_eq_some_iff.1 hr).1
      simp at hij hil hi
      subst hij hi
      have h1 := (hx i (by omega)).1
      rw [addr_addr] at h1
      exact ⟨b, o, V i, rfl, hbs, h1, hS i (by omega)⟩
end
end Go.Proofs.Ytdjlbenjbhkfiaa
