/- A rule that is handed in: its ten numbers, with their ranges. No condition but those named. -/
import Derived.Test.YtgggmhaopcgkkaaGreatDoorFlO
import Derived.Test.YtgggmhaopcgkkaaGreatDoorFbM
namespace Go.Proofs.YtgggmhaopcgkkaaGreatDoor
open Go.ChangeShapes Go.WideShapes Go.ChangeAt Go.RowKit Go.Joins Go.Deep
set_option maxRecDepth 20000
section
variable {H : Type} {enc : TypeId × Value → H} {P : Program} {w w' : World} {base : Nat} {spare : Nat → Bool} {held : Bool}
theorem spn_ofp {n : Nat} {c0 c1 : Value} {y : DataW H × List MemPlace} (h : DataW.trod enc Tryz.prog w base spare held n 27 [c0, c1] = some y) : ∃ a b : Int, c0 = .int .u32 a ∧ c1 = .int .u32 b ∧ 0 ≤ a ∧ a < 4294967296 ∧ 0 ≤ b ∧ b < 4294967296 := by
  obtain ⟨xs, m, _, _, hlen, hxl, hf⟩ := DataW.trod_struct Tryz.underlying27 h
  match xs, hxl with
  | [y0, y1], _ =>
    have g0 : DataW.trod enc Tryz.prog w base spare held m 22 [c0] = some y0 := by simpa [c32] using hf 0 _ rfl
    have g1 : DataW.trod enc Tryz.prog w base spare held m 22 [c1] = some y1 := by simpa [c32] using hf 1 _ rfl
    obtain ⟨a, e0, _, w0⟩ := DataW.trod_int Tryz.underlying22 g0
    obtain ⟨b, e1, _, w1⟩ := DataW.trod_int Tryz.underlying22 g1
    simp at e0 e1
    have h0 := u32_wf w0; have h1 := u32_wf w1
    exact ⟨a, b, e0, e1, h0.1, h0.2, h1.1, h1.2⟩
theorem rule_ofp (n : Nat) (cs : List Value) (y : DataW H × List MemPlace) (h : DataW.trod enc Tryz.prog w base spare held n 29 cs = some y) : ∃ r : RuleD, encR r = cs ∧ r.ok ∧ PortsOk r := by
  obtain ⟨xs, m, _, _, hlen, hxl, hf⟩ := DataW.trod_struct Tryz.underlying29 h
  rw [cR] at hlen
  match cs, hlen, xs, hxl with
  | [c0, c1, c2, c3, c4, c5, c6, c7, c8, c9], _, [y0, y1, y2, y3, y4, y5], _ =>
    have g0 : DataW.trod enc Tryz.prog w base spare held m 4 [c0] = some y0 := by simpa [cB] using hf 0 _ rfl
    have g1 : DataW.trod enc Tryz.prog w base spare held m 3 [c1] = some y1 := by simpa [cI] using hf 1 _ rfl
    have g2 : DataW.trod enc Tryz.prog w base spare held m 25 [c2, c3] = some y2 := by simpa [cP] using hf 2 _ rfl
    have g3 : DataW.trod enc Tryz.prog w base spare held m 25 [c4, c5] = some y3 := by simpa [cP] using hf 3 _ rfl
    have g4 : DataW.trod enc Tryz.prog w base spare held m 27 [c6, c7] = some y4 := by simpa [cS] using hf 4 _ rfl
    have g5 : DataW.trod enc Tryz.prog w base spare held m 27 [c8, c9] = some y5 := by simpa [cS] using hf 5 _ rfl
    obtain ⟨b0, e0, _⟩ := DataW.trod_bool Tryz.underlying4 g0
    obtain ⟨b1, e1, _, _⟩ := DataW.trod_int Tryz.underlying3 g1
    obtain ⟨s0, s1, rfl, rfl, w0, w1⟩ := pfx_of g2
    obtain ⟨d0, d1, rfl, rfl, w2, w3⟩ := pfx_of g3
    obtain ⟨p0, p1, rfl, rfl, m0, m1, m2, m3⟩ := spn_ofp g4
    obtain ⟨q0, q1, rfl, rfl, n0, n1, n2, n3⟩ := spn_ofp g5
    simp at e0 e1
    subst e0 e1
    exact ⟨⟨b0, b1, s0, s1, d0, d1, p0, p1, q0, q1⟩, rfl, ⟨w0, w1, w2, w3⟩, ⟨m0, m1, m2, m3, n0, n1, n2, n3⟩⟩
theorem rule_argp {v : Value} {d : DataW H} {p : List MemPlace} {r : Reach} {b0 : Nat} (hv : Value.okWide Tryz.prog w r b0 29 v) (h : DataW.Trod enc Tryz.prog w base spare held 29 v d p) : ∃ r : RuleD, v = vR r ∧ r.ok ∧ PortsOk r := by
  obtain ⟨⟨cs⟩, rfl, _⟩ := okWide_struct Tryz.underlying29 hv
  obtain ⟨n, hn⟩ := h
  obtain ⟨r, hr, hok, hpt⟩ := rule_ofp n _ _ hn
  exact ⟨r, by unfold vR; rw [hr]; rfl, hok, hpt⟩
end
end Go.Proofs.YtgggmhaopcgkkaaGreatDoor
