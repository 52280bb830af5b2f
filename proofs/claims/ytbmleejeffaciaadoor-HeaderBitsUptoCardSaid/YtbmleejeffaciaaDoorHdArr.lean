/- An array of thirteen bytes, opened and shut. No condition but those named. -/
import Derived.Test.YtbmleejeffaciaaDoorLaidH
import Derived.Test.YtbmleejeffaciaaDoorHdW0
namespace Go.Proofs.YtbmleejeffaciaaDoor
open Go.ChangeShapes Go.WideShapes Go.ChangeAt Go.RowKit Go.Joins Go.Deep
section
variable {H : Type} {enc : TypeId × Value → H} {w : World} {base : Nat} {sp : Nat → Bool} {held : Bool}
theorem cells13 : Tryd.prog.cellsOf 39 = 13 := by kernel_rfl
/-- A byte as data. -/
def u8D (H : Type) (x : Int) : DataW H := .lit (.int .u8 x)
set_option maxRecDepth 100000 in
theorem open_arr {r : Reach} {b0 : Nat} {v : Value} {d : DataW H} {p : List MemPlace} (hv : Value.okWide Tryd.prog w r b0 39 v) (h : DataW.Trod enc Tryd.prog w base sp held 39 v d p) :
    ∃ l : List Int, B13 l ∧ v = .agg (l.map u8V).toArray ∧ d = .agg (l.map (u8D H)) ∧ p = [] := by
  obtain ⟨cs, rfl, hsz, _⟩ : ∃ cs, v = .agg cs ∧ cs.size = Tryd.prog.cellsOf 39 ∧ Row.okWide Tryd.prog w r b0 39 cs := by
    simpa [Value.okWide, Tryd.underlying39] using hv
  obtain ⟨l⟩ := cs
  match l, hsz.trans cells13 with
  | [c0, c1, c2, c3, c4, c5, c6, c7, c8, c9, c10, c11, c12], _ =>
    obtain ⟨fuel, hf⟩ := h
    obtain ⟨ys, n, _, hx, _, hlen, hg⟩ := DataW.trod_array Tryd.underlying39 hf
    match ys, hlen with
    | [y0, y1, y2, y3, y4, y5, y6, y7, y8, y9, y10, y11, y12], _ =>
      have h0 : DataW.trod enc Tryd.prog w base sp held n 5 [c0] = some y0 := by simpa [Value.cells, cells8] using hg 0 (by omega)
      have h1 : DataW.trod enc Tryd.prog w base sp held n 5 [c1] = some y1 := by simpa [Value.cells, cells8] using hg 1 (by omega)
      have h2 : DataW.trod enc Tryd.prog w base sp held n 5 [c2] = some y2 := by simpa [Value.cells, cells8] using hg 2 (by omega)
      have h3 : DataW.trod enc Tryd.prog w base sp held n 5 [c3] = some y3 := by simpa [Value.cells, cells8] using hg 3 (by omega)
      have h4 : DataW.trod enc Tryd.prog w base sp held n 5 [c4] = some y4 := by simpa [Value.cells, cells8] using hg 4 (by omega)
      have h5 : DataW.trod enc Tryd.prog w base sp held n 5 [c5] = some y5 := by simpa [Value.cells, cells8] using hg 5 (by omega)
      have h6 : DataW.trod enc Tryd.prog w base sp held n 5 [c6] = some y6 := by simpa [Value.cells, cells8] using hg 6 (by omega)
      have h7 : DataW.trod enc Tryd.prog w base sp held n 5 [c7] = some y7 := by simpa [Value.cells, cells8] using hg 7 (by omega)
      have h8 : DataW.trod enc Tryd.prog w base sp held n 5 [c8] = some y8 := by simpa [Value.cells, cells8] using hg 8 (by omega)
      have h9 : DataW.trod enc Tryd.prog w base sp held n 5 [c9] = some y9 := by simpa [Value.cells, cells8] using hg 9 (by omega)
      have h10 : DataW.trod enc Tryd.prog w base sp held n 5 [c10] = some y10 := by simpa [Value.cells, cells8] using hg 10 (by omega)
      have h11 : DataW.trod enc Tryd.prog w base sp held n 5 [c11] = some y11 := by simpa [Value.cells, cells8] using hg 11 (by omega)
      have h12 : DataW.trod enc Tryd.prog w base sp held n 5 [c12] = some y12 := by simpa [Value.cells, cells8] using hg 12 (by omega)
      obtain ⟨x0, g0, rfl, w0⟩ := DataW.trod_int Tryd.underlying5 h0
      obtain ⟨x1, g1, rfl, w1⟩ := DataW.trod_int Tryd.underlying5 h1
      obtain ⟨x2, g2, rfl, w2⟩ := DataW.trod_int Tryd.underlying5 h2
      obtain ⟨x3, g3, rfl, w3⟩ := DataW.trod_int Tryd.underlying5 h3
      obtain ⟨x4, g4, rfl, w4⟩ := DataW.trod_int Tryd.underlying5 h4
      obtain ⟨x5, g5, rfl, w5⟩ := DataW.trod_int Tryd.underlying5 h5
      obtain ⟨x6, g6, rfl, w6⟩ := DataW.trod_int Tryd.underlying5 h6
      obtain ⟨x7, g7, rfl, w7⟩ := DataW.trod_int Tryd.underlying5 h7
      obtain ⟨x8, g8, rfl, w8⟩ := DataW.trod_int Tryd.underlying5 h8
      obtain ⟨x9, g9, rfl, w9⟩ := DataW.trod_int Tryd.underlying5 h9
      obtain ⟨x10, g10, rfl, w10⟩ := DataW.trod_int Tryd.underlying5 h10
      obtain ⟨x11, g11, rfl, w11⟩ := DataW.trod_int Tryd.underlying5 h11
      obtain ⟨x12, g12, rfl, w12⟩ := DataW.trod_int Tryd.underlying5 h12
      simp at g0 g1 g2 g3 g4 g5 g6 g7 g8 g9 g10 g11 g12
      subst g0 g1 g2 g3 g4 g5 g6 g7 g8 g9 g10 g11 g12
      simp only [Prod.mk.injEq] at hx
      have b0 := bounds_u8 w0
      have b1 := bounds_u8 w1
      have b2 := bounds_u8 w2
      have b3 := bounds_u8 w3
      have b4 := bounds_u8 w4
      have b5 := bounds_u8 w5
      have b6 := bounds_u8 w6
      have b7 := bounds_u8 w7
      have b8 := bounds_u8 w8
      have b9 := bounds_u8 w9
      have b10 := bounds_u8 w10
      have b11 := bounds_u8 w11
      have b12 := bounds_u8 w12
      refine ⟨[x0, x1, x2, x3, x4, x5, x6, x7, x8, x9, x10, x11, x12], ⟨rfl, fun x hm => ?_, fun x hm => ?_⟩, rfl, by simpa [u8D] using hx.1, by simpa using hx.2⟩
      all_goals
        simp only [List.mem_cons, List.not_mem_nil, or_false] at hm
        rcases hm with rfl | rfl | rfl | rfl | rfl | rfl | rfl | rfl | rfl | rfl | rfl | rfl | rfl <;> omega
theorem u8_wf {x : Int} (h0 : 0 ≤ x) (h1 : x < 256) : (Lit.int .u8 x).wf = true := by
  simp [Lit.wf, IntKind.min, IntKind.max, IntKind.signed, IntKind.bits]
  omega
set_option maxRecDepth 100000 in
theorem shut_arr {l : List Int} (hl : B13 l) : DataW.Trod enc Tryd.prog w base sp held 39 (.agg (l.map u8V).toArray) (.agg (l.map (u8D H))) [] := by
  obtain ⟨hl, h0, h1⟩ := hl
  match l, hl, h0, h1 with
  | [x0, x1, x2, x3, x4, x5, x6, x7, x8, x9, x10, x11, x12], _, h0, h1 =>
    have w0 := u8_wf (h0 x0 (by simp)) (h1 x0 (by simp))
    have w1 := u8_wf (h0 x1 (by simp)) (h1 x1 (by simp))
    have w2 := u8_wf (h0 x2 (by simp)) (h1 x2 (by simp))
    have w3 := u8_wf (h0 x3 (by simp)) (h1 x3 (by simp))
    have w4 := u8_wf (h0 x4 (by simp)) (h1 x4 (by simp))
    have w5 := u8_wf (h0 x5 (by simp)) (h1 x5 (by simp))
    have w6 := u8_wf (h0 x6 (by simp)) (h1 x6 (by simp))
    have w7 := u8_wf (h0 x7 (by simp)) (h1 x7 (by simp))
    have w8 := u8_wf (h0 x8 (by simp)) (h1 x8 (by simp))
    have w9 := u8_wf (h0 x9 (by simp)) (h1 x9 (by simp))
    have w10 := u8_wf (h0 x10 (by simp)) (h1 x10 (by simp))
    have w11 := u8_wf (h0 x11 (by simp)) (h1 x11 (by simp))
    have w12 := u8_wf (h0 x12 (by simp)) (h1 x12 (by simp))
    clear h0 h1
    exact ⟨2, by simp [DataW.trod, Value.cells, u8V, u8D, Tryd.underlying39, Tryd.underlying5, cells13, cells8, w0, w1, w2, w3, w4, w5, w6, w7, w8, w9, w10, w11, w12, show List.range 13 = [0, 1, 2, 3, 4, 5, 6, 7, 8, 9, 10, 11, 12] from rfl]⟩
end
end Go.Proofs.YtbmleejeffaciaaDoor
