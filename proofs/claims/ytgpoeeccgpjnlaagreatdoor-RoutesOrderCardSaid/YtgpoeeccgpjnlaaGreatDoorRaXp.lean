/- How routes and adverts that are handed in read. No condition. -/
import Derived.Test.YtgpoeeccgpjnlaaGreatDoorRsP
import Derived.Test.YtgpoeeccgpjnlaaGreatDoorRaA
namespace Go.Proofs.YtgpoeeccgpjnlaaGreatDoor
open Go.ChangeShapes Go.WideShapes Go.ChangeAt Go.RowKit Go.Joins Go.Deep
theorem cU1 : Tryz.prog.cellsOf 22 = 1 := by kernel_rfl
theorem cL1 : Tryz.prog.cellsOf 29 = 1 := by kernel_rfl
theorem cM1 : Tryz.prog.cellsOf 30 = 1 := by kernel_rfl
theorem cAd : Tryz.prog.cellsOf 32 = 13 := by kernel_rfl
section
variable {H : Type} {enc : TypeId × Value → H} {w w' : World} {base : Nat} {spare : Nat → Bool} {held : Bool}
theorem num_of (n : Nat) (cs : List Value) (y : DataW H × List MemPlace) (h : DataW.trod enc Tryz.prog w base spare held n 22 cs = some y) : ∃ x : Int, encU x = cs ∧ True := by
  obtain ⟨x, e, _, _⟩ := DataW.trod_int Tryz.underlying22 h
  exact ⟨x, e.symm, trivial⟩
theorem num_ofA (n : Nat) (cs : List Value) (y : DataW H × List MemPlace) (h : DataW.trod enc Tryz.prog w base spare held n 23 cs = some y) : ∃ x : Int, encU x = cs ∧ True := by
  obtain ⟨x, e, _, _⟩ := DataW.trod_int Tryz.underlying23 h
  exact ⟨x, e.symm, trivial⟩
set_option maxRecDepth 100000 in
theorem ad_of (n : Nat) (cs : List Value) (y : DataW H × List MemPlace) (h : DataW.trod enc Tryz.prog w base spare held n 32 cs = some y) : ∃ r : AdD, encAd r = cs ∧ RdA w r := by
  obtain ⟨xs, m, _, _, hlen, hxl, hf⟩ := DataW.trod_struct Tryz.underlying32 h
  rw [cAd] at hlen
  match cs, hlen, xs, hxl with
  | [c0, c1, c2, c3, c4, c5, c6, c7, c8, c9, c10, c11, c12], _, [y0, y1, y2, y3, y4, y5, y6, y7, y8, y9, y10, y11], _ =>
    have g0 : DataW.trod enc Tryz.prog w base spare held m 25 [c0, c1] = some y0 := by simpa [cP2] using hf 0 _ rfl
    have g1 : DataW.trod enc Tryz.prog w base spare held m 23 [c2] = some y1 := by simpa [cA1] using hf 1 _ rfl
    have g2 : DataW.trod enc Tryz.prog w base spare held m 3 [c3] = some y2 := by simpa [cI1] using hf 2 _ rfl
    have g3 : DataW.trod enc Tryz.prog w base spare held m 3 [c4] = some y3 := by simpa [cI1] using hf 3 _ rfl
    have g4 : DataW.trod enc Tryz.prog w base spare held m 29 [c5] = some y4 := by simpa [cL1] using hf 4 _ rfl
    have g5 : DataW.trod enc Tryz.prog w base spare held m 29 [c6] = some y5 := by simpa [cL1] using hf 5 _ rfl
    have g6 : DataW.trod enc Tryz.prog w base spare held m 23 [c7] = some y6 := by simpa [cA1] using hf 6 _ rfl
    have g7 : DataW.trod enc Tryz.prog w base spare held m 23 [c8] = some y7 := by simpa [cA1] using hf 7 _ rfl
    have g8 : DataW.trod enc Tryz.prog w base spare held m 4 [c9] = some y8 := by simpa [cB1] using hf 8 _ rfl
    have g9 : DataW.trod enc Tryz.prog w base spare held m 23 [c10] = some y9 := by simpa [cA1] using hf 9 _ rfl
    have g10 : DataW.trod enc Tryz.prog w base spare held m 30 [c11] = some y10 := by simpa [cM1] using hf 10 _ rfl
    have g11 : DataW.trod enc Tryz.prog w base spare held m 3 [c12] = some y11 := by simpa [cI1] using hf 11 _ rfl
    obtain ⟨a, b, rfl, rfl⟩ := pfx_of g0
    obtain ⟨ho, e1, _, _⟩ := DataW.trod_int Tryz.underlying23 g1
    obtain ⟨pf, e2, _, _⟩ := DataW.trod_int Tryz.underlying3 g2
    obtain ⟨me, e3, _, _⟩ := DataW.trod_int Tryz.underlying3 g3
    obtain ⟨pa, r4, _⟩ := rdk_of (ec := encU) Tryz.underlying29 cU1 (by decide) num_of g4
    obtain ⟨co, r5, _⟩ := rdk_of (ec := encU) Tryz.underlying29 cU1 (by decide) num_of g5
    obtain ⟨pe, e6, _, _⟩ := DataW.trod_int Tryz.underlying23 g6
    obtain ⟨pi, e7, _, _⟩ := DataW.trod_int Tryz.underlying23 g7
    obtain ⟨ex, e8, _⟩ := DataW.trod_bool Tryz.underlying4 g8
    obtain ⟨og, e9, _, _⟩ := DataW.trod_int Tryz.underlying23 g9
    obtain ⟨cl, r10, _⟩ := rdk_of (ec := encU) Tryz.underlying30 cA1 (by decide) num_ofA g10
    obtain ⟨se, e11, _, _⟩ := DataW.trod_int Tryz.underlying3 g11
    simp at e1 e2 e3 e6 e7 e8 e9 e11
    subst e1 e2 e3 e6 e7 e8 e9 e11
    exact ⟨⟨a, b, ho, pf, me, pa, c5, co, c6, pe, pi, ex, og, cl, c11, se⟩, rfl, r4, r5, r10⟩
set_option maxRecDepth 100000 in
theorem rt_arg {v : Value} {d : DataW H} {p : List MemPlace} {r : Reach} {b0 : Nat} (hv : Value.okWide Tryz.prog w r b0 27 v) (h : DataW.Trod enc Tryz.prog w base spare held 27 v d p) : ∃ r : RtD, v = .agg (encRt r).toArray := by
  obtain ⟨⟨cs⟩, rfl, _⟩ := okWide_struct Tryz.underlying27 hv
  obtain ⟨n, hn⟩ := h
  obtain ⟨r, hc, _⟩ := rt_of n _ _ hn
  have hc : encRt r = cs := hc
  subst hc
  exact ⟨r, rfl⟩
set_option maxRecDepth 100000 in
theorem ad_arg {v : Value} {d : DataW H} {p : List MemPlace} {r : Reach} {b0 : Nat} (hv : Value.okWide Tryz.prog w r b0 32 v) (h : DataW.Trod enc Tryz.prog w base spare held 32 v d p) : ∃ r : AdD, v = .agg (encAd r).toArray ∧ RdA w r := by
  obtain ⟨⟨cs⟩, rfl, _⟩ := okWide_struct Tryz.underlying32 hv
  obtain ⟨n, hn⟩ := h
  obtain ⟨r, hc, hr⟩ := ad_of n _ _ hn
  have hc : encAd r = cs := hc
  subst hc
  exact ⟨r, rfl, hr⟩
end
end Go.Proofs.YtgpoeeccgpjnlaaGreatDoor
