/- How slices of routes that are handed in read. No condition. -/
import Derived.Test.YtgpoeeccgpjnlaaGreatDoorOpn
import Derived.Test.YtgpoeeccgpjnlaaGreatDoorRsI
import Derived.Deep.Slices
namespace Go.Proofs.YtgpoeeccgpjnlaaGreatDoor
open Go.ChangeShapes Go.WideShapes Go.ChangeAt Go.RowKit Go.Joins Go.Deep
section
variable {H : Type} {enc : TypeId × Value → H} {P : Program} {w w' : World} {base : Nat} {spare : Nat → Bool} {held : Bool}
/-- A slice whose elements read by a law of their own. -/
theorem rdk_of {α : Type} [Inhabited α] {ec : α → List Value} {k : Nat} {ok : α → Prop} {t e : TypeId} (ht : P.underlying t = some (.slice e)) (hce : P.cellsOf e = k) (h0 : 0 < k)
    (hel : ∀ n cs y, DataW.trod enc P w base spare held n e cs = some y → ∃ s, ec s = cs ∧ ok s) {fuel : Nat} {v : Value} {x : DataW H × List MemPlace} (h : DataW.trod enc P w base spare held fuel t [v] = some x) : ∃ l, RdK ec k w v l ∧ ∀ s ∈ l, ok s := by
  rcases open_slice ht h with ⟨hc, _⟩ | ⟨a, len, cap, m, n, D, Pl, hc, hb, hl, hm, hmm, _, hx⟩
  · simp at hc; subst hc
    exact ⟨[], RdK.nil w, fun s hs => by cases hs⟩
  · simp at hc; subst hc
    have hlm : len ≤ m := by rw [hmm]; split <;> omega
    by_cases hz : len = 0
    · subst hz
      exact ⟨[], ⟨some a, cap, rfl, hl, hm, fun h => absurd h (Nat.lt_irrefl _)⟩, fun s hs => by cases hs⟩
    have hnum : ∀ i, i < m → ∃ s, ok s ∧ ∀ j u, (ec s)[j]? = some u → w.cell? (a.add (i * k + j)) = some u := by
      intro i hi
      obtain ⟨cs, h1, h2⟩ := hx i hi
      obtain ⟨s, hs, hok⟩ := hel _ _ _ h2
      rw [hce] at h1
      obtain ⟨_, hlen, hcell⟩ := World.cells?_some h1
      refine ⟨s, hok, fun j u hu => ?_⟩
      rw [hs] at hu
      have := hcell j (by rw [← hlen]; exact (List.getElem?_eq_some_iff.1 hu).1)
      rw [add_add] at this
      rw [this]; exact hu
    obtain ⟨S, hS⟩ := choose_lt hnum
    obtain ⟨cs0, h10, _⟩ := hx 0 (by omega)
    rw [hce] at h10
    obtain ⟨_, hlen0, hcell0⟩ := World.cells?_some h10
    have hc0 : w.cell? (a.add (0 * k)) = some (cs0[0]'(by omega)) := by
      have := hcell0 0 h0
      rw [add_add] at this
      rw [List.getElem?_eq_getElem (by omega)] at this
      exact this
    have hsp : a.spot = none := by
      have := World.cell?_spot hc0
      unfold Addr.add at this
      split at this
      · exact this
      · simp at *
    obtain ⟨b, o, sp⟩ := a
    simp only at hsp
    subst hsp
    have hbs : b < w.heap.size := by
      have := World.block_lt_of_cell? w _ hc0
      rw [addr_off] at this
      exact this
    refine ⟨(List.range len).map S, ⟨some ⟨b, o, none⟩, cap, by simp, by simpa using hl, hm, fun _ => ⟨b, o, rfl, hbs, fun i s hi j u hu => ?_⟩⟩, fun s hs => ?_⟩
    · rw [List.getElem?_map] at hi
      cases hr : (List.range len)[i]? with
      | none => rw [hr] at hi; simp at hi
      | some j' =>
        rw [hr] at hi
        have hij := (List.getElem?_eq_some_iff.1 hr).2
        have hil := (List.getElem?_eq_some_iff.1 hr).1
        simp at hij hil hi
        subst hij hi
        have := (hS i (by omega)).2 j u hu
        rw [addr_off, ← Nat.add_assoc] at this
        exact this
    · obtain ⟨i, hi, rfl⟩ := List.mem_map.1 hs
      exact (hS i (by have := List.mem_range.1 hi; omega)).1
end
theorem cB1 : Tryz.prog.cellsOf 4 = 1 := by kernel_rfl
theorem cI1 : Tryz.prog.cellsOf 3 = 1 := by kernel_rfl
theorem cP2 : Tryz.prog.cellsOf 25 = 2 := by kernel_rfl
theorem cA1 : Tryz.prog.cellsOf 23 = 1 := by kernel_rfl
theorem c81 : Tryz.prog.cellsOf 5 = 1 := by kernel_rfl
theorem cT1 : Tryz.prog.cellsOf 9 = 1 := by kernel_rfl
theorem cRt9 : Tryz.prog.cellsOf 27 = 9 := by kernel_rfl
section
variable {H : Type} {enc : TypeId × Value → H} {w w' : World} {base : Nat} {spare : Nat → Bool} {held : Bool}
theorem pfx_of {n : Nat} {c0 c1 : Value} {y : DataW H × List MemPlace} (h : DataW.trod enc Tryz.prog w base spare held n 25 [c0, c1] = some y) : ∃ a b : Int, c0 = .int .u32 a ∧ c1 = .int .i64 b := by
  obtain ⟨xs, m, _, _, hlen, hxl, hf⟩ := DataW.trod_struct Tryz.underlying25 h
  match xs, hxl with
  | [y0, y1], _ =>
    have g0 : DataW.trod enc Tryz.prog w base spare held m 23 [c0] = some y0 := by simpa [cA1, cI1] using hf 0 _ rfl
    have g1 : DataW.trod enc Tryz.prog w base spare held m 3 [c1] = some y1 := by simpa [cA1, cI1] using hf 1 _ rfl
    obtain ⟨a, e0, _, w0⟩ := DataW.trod_int Tryz.underlying23 g0
    obtain ⟨b, e1, _, _⟩ := DataW.trod_int Tryz.underlying3 g1
    simp at e0 e1
    exact ⟨a, b, e0, e1⟩
set_option maxRecDepth 100000 in
theorem rt_of (n : Nat) (cs : List Value) (y : DataW H × List MemPlace) (h : DataW.trod enc Tryz.prog w base spare held n 27 cs = some y) : ∃ r : RtD, encRt r = cs ∧ True := by
  obtain ⟨xs, m, _, _, hlen, hxl, hf⟩ := DataW.trod_struct Tryz.underlying27 h
  rw [cRt9] at hlen
  match cs, hlen, xs, hxl with
  | [c0, c1, c2, c3, c4, c5, c6, c7, c8], _, [y0, y1, y2, y3, y4, y5, y6, y7], _ =>
    have g0 : DataW.trod enc Tryz.prog w base spare held m 25 [c0, c1] = some y0 := by simpa [cP2] using hf 0 _ rfl
    have g1 : DataW.trod enc Tryz.prog w base spare held m 5 [c2] = some y1 := by simpa [c81] using hf 1 _ rfl
    have g2 : DataW.trod enc Tryz.prog w base spare held m 3 [c3] = some y2 := by simpa [cI1] using hf 2 _ rfl
    have g3 : DataW.trod enc Tryz.prog w base spare held m 3 [c4] = some y3 := by simpa [cI1] using hf 3 _ rfl
    have g4 : DataW.trod enc Tryz.prog w base spare held m 3 [c5] = some y4 := by simpa [cI1] using hf 4 _ rfl
    have g5 : DataW.trod enc Tryz.prog w base spare held m 9 [c6] = some y5 := by simpa [cT1] using hf 5 _ rfl
    have g6 : DataW.trod enc Tryz.prog w base spare held m 23 [c7] = some y6 := by simpa [cA1] using hf 6 _ rfl
    have g7 : DataW.trod enc Tryz.prog w base spare held m 4 [c8] = some y7 := by simpa [cB1] using hf 7 _ rfl
    obtain ⟨a, b, rfl, rfl⟩ := pfx_of g0
    obtain ⟨fr, e1, _, _⟩ := DataW.trod_int Tryz.underlying5 g1
    obtain ⟨di, e2, _, _⟩ := DataW.trod_int Tryz.underlying3 g2
    obtain ⟨me, e3, _, _⟩ := DataW.trod_int Tryz.underlying3 g3
    obtain ⟨ta, e4, _, _⟩ := DataW.trod_int Tryz.underlying3 g4
    obtain ⟨nm, e5, _, _⟩ := DataW.trod_string Tryz.underlying9 g5
    obtain ⟨ho, e6, _, _⟩ := DataW.trod_int Tryz.underlying23 g6
    obtain ⟨dc, e7, _⟩ := DataW.trod_bool Tryz.underlying4 g7
    simp at e1 e2 e3 e4 e5 e6 e7
    subst e1 e2 e3 e4 e5 e6 e7
    exact ⟨⟨a, b, fr, di, me, ta, nm, ho, dc⟩, rfl, trivial⟩
theorem rts_of {fuel : Nat} {v : Value} {x : DataW H × List MemPlace} (h : DataW.trod enc Tryz.prog w base spare held fuel 28 [v] = some x) : ∃ l, RdK encRt 9 w v l := by
  obtain ⟨l, h1, _⟩ := rdk_of Tryz.underlying28 cRt9 (by decide) rt_of h
  exact ⟨l, h1⟩
end
end Go.Proofs.YtgpoeeccgpjnlaaGreatDoor
