/- How slices of prefixes that are handed in read. No condition. -/
import Derived.Test.YtodfimnmbfdicaaOpn
import Derived.Test.YtodfimnmbfdicaaTpF
import Derived.Deep.Slices
namespace Go.Proofs.Ytodfimnmbfdicaa
open Go.ChangeShapes Go.WideShapes Go.ChangeAt Go.RowKit Go.Joins Go.Deep
section
variable {H : Type} {enc : TypeId × Value → H} {P : Program} {w w' : World} {base : Nat} {spare : Nat → Bool} {held : Bool}
/-- A slice whose elements read by a law of their own. -/
theorem rdk_of {α : Type} [Inhabited α] {ec : α → List Value} {k : Nat} {ok : α → Prop} {t e : TypeId} (ht : P.underlying t = some (.slice e)) (hce : P.cellsOf e = k) (h0 : 0 < k)
    (hel : ∀ n cs y, DataW.trod enc P w base spare held n e cs = some y → ∃ s, ec s = cs ∧ ok s) {fuel : Nat} {v : Value} {x : DataW H × List MemPlace} (h : DataW.trod enc P w base spare held fuel t [v] = some x) : ∃ l, RdK ec k w v l ∧ ∀ s ∈ l, ok s := by
  rcases open_slice ht h with ⟨hc, _⟩ | ⟨a, len, cap, m, n, D, Pl, hc, hb, hl, hm, hmm, _, hx⟩
  · simp at hc; subst hc
    exact ⟨[], RdK.nil w, fun s hs => by cases hs⟩
  · simp at hc; subst hc
    have hlm : len ≤ m := by rw [hmm]; split <;> omega
    by_cases hz : len = 0
    · subst hz
      exact ⟨[], ⟨some a, cap, rfl, hl, hm, fun h => absurd h (Nat.lt_irrefl _)⟩, fun s hs => by cases hs⟩
    have hnum : ∀ i, i < m → ∃ s, ok s ∧ ∀ j u, (ec s)[j]? = some u → w.cell? (a.add (i * k + j)) = some u := by
      intro i hi
      obtain ⟨cs, h1, h2⟩ := hx i hi
      obtain ⟨s, hs, hok⟩ := hel _ _ _ h2
      rw [hce] at h1
      obtain ⟨_, hlen, hcell⟩ := World.cells?_some h1
      refine ⟨s, hok, fun j u hu => ?_⟩
      rw [hs] at hu
      have := hcell j (by rw [← hlen]; exact (List.getElem?_eq_some_iff.1 hu).1)
      rw [add_add] at this
      rw [this]; exact hu
    obtain ⟨S, hS⟩ := choose_lt hnum
    obtain ⟨cs0, h10, _⟩ := hx 0 (by omega)
    rw [hce] at h10
    obtain ⟨_, hlen0, hcell0⟩ := World.cells?_some h10
    have hc0 : w.cell? (a.add (0 * k)) = some (cs0[0]'(by omega)) := by
      have := hcell0 0 h0
      rw [add_add] at this
      rw [List.getElem?_eq_getElem (by omega)] at this
      exact this
    have hsp : a.spot = none := by
      have := World.cell?_spot hc0
      unfold Addr.add at this
      split at this
      · exact this
      · simp at *
    obtain ⟨b, o, sp⟩ := a
    simp only at hsp
    subst hsp
    have hbs : b < w.heap.size := by
      have := World.block_lt_of_cell? w _ hc0
      rw [addr_off] at this
      exact this
    refine ⟨(List.range len).map S, ⟨some ⟨b, o, none⟩, cap, by simp, by simpa using hl, hm, fun _ => ⟨b, o, rfl, hbs, fun i s hi j u hu => ?_⟩⟩, fun s hs => ?_⟩
    · rw [List.getElem?_map] at hi
      cases hr : (List.range len)[i]? with
      | none => rw [hr] at hi; simp at hi
      | some j' =>
        rw [hr] at hi
        have hij := (List.getElem?_eq_some_iff.1 hr).2
        have hil := (List.getElem?_eq_some_iff.1 hr).1
        simp at hij hil hi
        subst hij hi
        have := (hS i (by omega)).2 j u hu
        rw [addr_off, ← Nat.add_assoc] at this
        exact this
    · obtain ⟨i, hi, rfl⟩ := List.mem_map.1 hs
      exact (hS i (by have := List.mem_range.1 hi; omega)).1
end
theorem cI1 : Try.prog.cellsOf 3 = 1 := by kernel_rfl
theorem cP2 : Try.prog.cellsOf 34 = 2 := by kernel_rfl
theorem cA1 : Try.prog.cellsOf 32 = 1 := by kernel_rfl
section
variable {H : Type} {enc : TypeId × Value → H} {w w' : World} {base : Nat} {spare : Nat → Bool} {held : Bool}
set_option maxRecDepth 100000 in
theorem pfx_of (n : Nat) (cs : List Value) (y : DataW H × List MemPlace) (h : DataW.trod enc Try.prog w base spare held n 34 cs = some y) : ∃ x : Int × Int, encP x = cs ∧ (0 ≤ x.1 ∧ x.1 < 4294967296) := by
  obtain ⟨xs, m, _, _, hlen, hxl, hf⟩ := DataW.trod_struct Try.underlying34 h
  rw [cP2] at hlen
  match cs, hlen, xs, hxl with
  | [c0, c1], _, [y0, y1], _ =>
    have g0 : DataW.trod enc Try.prog w base spare held m 32 [c0] = some y0 := by simpa [cA1, cI1] using hf 0 _ rfl
    have g1 : DataW.trod enc Try.prog w base spare held m 3 [c1] = some y1 := by simpa [cA1, cI1] using hf 1 _ rfl
    obtain ⟨a, e0, _, w0⟩ := DataW.trod_int Try.underlying32 g0
    obtain ⟨b, e1, _, _⟩ := DataW.trod_int Try.underlying3 g1
    simp at e0 e1
    subst e0 e1
    exact ⟨(a, b), rfl, u32_wf w0⟩
instance instPf : Inhabited (Int × Int) := ⟨(0, 0)⟩
theorem pfs_of {fuel : Nat} {v : Value} {x : DataW H × List MemPlace} (h : DataW.trod enc Try.prog w base spare held fuel 48 [v] = some x) : ∃ l, RdK encP 2 w v l ∧ ∀ x ∈ l, 0 ≤ x.1 ∧ x.1 < 4294967296 :=
  rdk_of (ok := fun x : Int × Int => 0 ≤ x.1 ∧ x.1 < 4294967296) Try.underlying48 cP2 (by decide) pfx_of h
end
end Go.Proofs.Ytodfimnmbfdicaa
