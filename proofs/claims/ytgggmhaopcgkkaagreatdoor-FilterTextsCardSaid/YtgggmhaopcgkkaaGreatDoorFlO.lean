/- How a filter, a rule, and slices of rules and of headers that are handed in read. No condition. -/
import Derived.Test.YtgggmhaopcgkkaaGreatDoorOpn
import Derived.Test.YtgggmhaopcgkkaaGreatDoorFlC
import Derived.Deep.Slices
namespace Go.Proofs.YtgggmhaopcgkkaaGreatDoor
open Go.ChangeShapes Go.WideShapes Go.ChangeAt Go.RowKit Go.Joins Go.Deep
set_option maxRecDepth 20000
theorem u16_wf {n : Int} (h : (Lit.int .u16 n).wf = true) : 0 ≤ n ∧ n < 65536 := by
  have h1 : IntKind.u16.min = 0 := rfl
  have h2 : IntKind.u16.max = 65535 := rfl
  simp only [Lit.wf, Bool.and_eq_true, decide_eq_true_eq] at h
  omega
theorem u8_wf {n : Int} (h : (Lit.int .u8 n).wf = true) : 0 ≤ n ∧ n < 256 := by
  have h1 : IntKind.u8.min = 0 := rfl
  have h2 : IntKind.u8.max = 255 := rfl
  simp only [Lit.wf, Bool.and_eq_true, decide_eq_true_eq] at h
  omega
section
variable {H : Type} {enc : TypeId × Value → H} {P : Program} {w w' : World} {base : Nat} {spare : Nat → Bool} {held : Bool}
/-- A slice whose elements read by a law of their own. -/
theorem rdk_of {α : Type} [Inhabited α] {ec : α → List Value} {k : Nat} {ok : α → Prop} {t e : TypeId} (ht : P.underlying t = some (.slice e)) (hce : P.cellsOf e = k) (h0 : 0 < k)
    (hel : ∀ n cs y, DataW.trod enc P w base spare held n e cs = some y → ∃ s, ec s = cs ∧ ok s) {fuel : Nat} {v : Value} {x : DataW H × List MemPlace} (h : DataW.trod enc P w base spare held fuel t [v] = some x) : ∃ l, RdK ec k w v l ∧ ∀ s ∈ l, ok s := by
  rcases open_slice ht h with ⟨hc, _⟩ | ⟨a, len, cap, m, n, D, Pl, hc, hb, hl, hm, hmm, _, hx⟩
  · simp at hc; subst hc
    exact ⟨[], RdK.nil w, fun s hs => by cases hs⟩
  · simp at hc; subst hc
    have hlm : len ≤ m := by rw [hmm]; split <;> omega
    by_cases hz : len = 0
    · subst hz
      exact ⟨[], ⟨some a, cap, rfl, hl, hm, fun h => absurd h (Nat.lt_irrefl _)⟩, fun s hs => by cases hs⟩
    have hnum : ∀ i, i < m → ∃ s, ok s ∧ ∀ j u, (ec s)[j]? = some u → w.cell? (a.add (i * k + j)) = some u := by
      intro i hi
      obtain ⟨cs, h1, h2⟩ := hx i hi
      obtain ⟨s, hs, hok⟩ := hel _ _ _ h2
      rw [hce] at h1
      obtain ⟨_, hlen, hcell⟩ := World.cells?_some h1
      refine ⟨s, hok, fun j u hu => ?_⟩
      rw [hs] at hu
      have := hcell j (by rw [← hlen]; exact (List.getElem?_eq_some_iff.1 hu).1)
      rw [add_add] at this
      rw [this]; exact hu
    obtain ⟨S, hS⟩ := choose_lt hnum
    obtain ⟨cs0, h10, _⟩ := hx 0 (by omega)
    rw [hce] at h10
    obtain ⟨_, hlen0, hcell0⟩ := World.cells?_some h10
    have hc0 : w.cell? (a.add (0 * k)) = some (cs0[0]'(by omega)) := by
      have := hcell0 0 h0
      rw [add_add] at this
      rw [List.getElem?_eq_getElem (by omega)] at this
      exact this
    have hsp : a.spot = none := by
      have := World.cell?_spot hc0
      unfold Addr.add at this
      split at this
      · exact this
      · simp at *
    obtain ⟨b, o, sp⟩ := a
    simp only at hsp
    subst hsp
    have hbs : b < w.heap.size := by
      have := World.block_lt_of_cell? w _ hc0
      rw [addr_off] at this
      exact this
    refine ⟨(List.range len).map S, ⟨some ⟨b, o, none⟩, cap, by simp, by simpa using hl, hm, fun _ => ⟨b, o, rfl, hbs, fun i s hi j u hu => ?_⟩⟩, fun s hs => ?_⟩
    · rw [List.getElem?_map] at hi
      cases hr : (List.range len)[i]? with
      | none => rw [hr] at hi; simp at hi
      | some j' =>
        rw [hr] at hi
        have hij := (List.getElem?_eq_some_iff.1 hr).2
        have hil := (List.getElem?_eq_some_iff.1 hr).1
        simp at hij hil hi
        subst hij hi
        have := (hS i (by omega)).2 j u hu
        rw [addr_off, ← Nat.add_assoc] at this
        exact this
    · obtain ⟨i, hi, rfl⟩ := List.mem_map.1 hs
      exact (hS i (by have := List.mem_range.1 hi; omega)).1
end
instance instR : Inhabited RuleD := ⟨⟨false, 0, 0, 0, 0, 0, 0, 0, 0, 0⟩⟩
instance instH : Inhabited HdrD := ⟨⟨0, 0, 0, 0, 0⟩⟩
theorem cB : Tryz.prog.cellsOf 4 = 1 := by kernel_rfl
theorem cI : Tryz.prog.cellsOf 3 = 1 := by kernel_rfl
theorem cP : Tryz.prog.cellsOf 25 = 2 := by kernel_rfl
theorem cS : Tryz.prog.cellsOf 27 = 2 := by kernel_rfl
theorem cA : Tryz.prog.cellsOf 23 = 1 := by kernel_rfl
theorem c32 : Tryz.prog.cellsOf 22 = 1 := by kernel_rfl
theorem c16 : Tryz.prog.cellsOf 46 = 1 := by kernel_rfl
theorem c8 : Tryz.prog.cellsOf 5 = 1 := by kernel_rfl
theorem cR : Tryz.prog.cellsOf 29 = 10 := by kernel_rfl
theorem cH : Tryz.prog.cellsOf 48 = 5 := by kernel_rfl
theorem cT : Tryz.prog.cellsOf 9 = 1 := by kernel_rfl
theorem cRS : Tryz.prog.cellsOf 37 = 1 := by kernel_rfl
theorem cF : Tryz.prog.cellsOf 39 = 2 := by kernel_rfl
section
variable {H : Type} {enc : TypeId × Value → H} {w w' : World} {base : Nat} {spare : Nat → Bool} {held : Bool}
theorem pfx_of {n : Nat} {c0 c1 : Value} {y : DataW H × List MemPlace} (h : DataW.trod enc Tryz.prog w base spare held n 25 [c0, c1] = some y) : ∃ a b : Int, c0 = .int .u32 a ∧ c1 = .int .i64 b ∧ 0 ≤ a ∧ a < 4294967296 := by
  obtain ⟨xs, m, _, _, hlen, hxl, hf⟩ := DataW.trod_struct Tryz.underlying25 h
  match xs, hxl with
  | [y0, y1], _ =>
    have g0 : DataW.trod enc Tryz.prog w base spare held m 23 [c0] = some y0 := by simpa [cA, cI] using hf 0 _ rfl
    have g1 : DataW.trod enc Tryz.prog w base spare held m 3 [c1] = some y1 := by simpa [cA, cI] using hf 1 _ rfl
    obtain ⟨a, e0, _, w0⟩ := DataW.trod_int Tryz.underlying23 g0
    obtain ⟨b, e1, _, _⟩ := DataW.trod_int Tryz.underlying3 g1
    simp at e0 e1
    have := u32_wf w0
    exact ⟨a, b, e0, e1, this.1, this.2⟩
theorem spn_of {n : Nat} {c0 c1 : Value} {y : DataW H × List MemPlace} (h : DataW.trod enc Tryz.prog w base spare held n 27 [c0, c1] = some y) : ∃ a b : Int, c0 = .int .u32 a ∧ c1 = .int .u32 b := by
  obtain ⟨xs, m, _, _, hlen, hxl, hf⟩ := DataW.trod_struct Tryz.underlying27 h
  match xs, hxl with
  | [y0, y1], _ =>
    have g0 : DataW.trod enc Tryz.prog w base spare held m 22 [c0] = some y0 := by simpa [c32] using hf 0 _ rfl
    have g1 : DataW.trod enc Tryz.prog w base spare held m 22 [c1] = some y1 := by simpa [c32] using hf 1 _ rfl
    obtain ⟨a, e0, _, _⟩ := DataW.trod_int Tryz.underlying22 g0
    obtain ⟨b, e1, _, _⟩ := DataW.trod_int Tryz.underlying22 g1
    simp at e0 e1
    exact ⟨a, b, e0, e1⟩
theorem rule_of (n : Nat) (cs : List Value) (y : DataW H × List MemPlace) (h : DataW.trod enc Tryz.prog w base spare held n 29 cs = some y) : ∃ r : RuleD, encR r = cs ∧ r.ok := by
  obtain ⟨xs, m, _, _, hlen, hxl, hf⟩ := DataW.trod_struct Tryz.underlying29 h
  rw [cR] at hlen
  match cs, hlen, xs, hxl with
  | [c0, c1, c2, c3, c4, c5, c6, c7, c8, c9], _, [y0, y1, y2, y3, y4, y5], _ =>
    have g0 : DataW.trod enc Tryz.prog w base spare held m 4 [c0] = some y0 := by simpa [cB] using hf 0 _ rfl
    have g1 : DataW.trod enc Tryz.prog w base spare held m 3 [c1] = some y1 := by simpa [cI] using hf 1 _ rfl
    have g2 : DataW.trod enc Tryz.prog w base spare held m 25 [c2, c3] = some y2 := by simpa [cP] using hf 2 _ rfl
    have g3 : DataW.trod enc Tryz.prog w base spare held m 25 [c4, c5] = some y3 := by simpa [cP] using hf 3 _ rfl
    have g4 : DataW.trod enc Tryz.prog w base spare held m 27 [c6, c7] = some y4 := by simpa [cS] using hf 4 _ rfl
    have g5 : DataW.trod enc Tryz.prog w base spare held m 27 [c8, c9] = some y5 := by simpa [cS] using hf 5 _ rfl
    obtain ⟨b0, e0, _⟩ := DataW.trod_bool Tryz.underlying4 g0
    obtain ⟨b1, e1, _, _⟩ := DataW.trod_int Tryz.underlying3 g1
    obtain ⟨s0, s1, rfl, rfl, w0, w1⟩ := pfx_of g2
    obtain ⟨d0, d1, rfl, rfl, w2, w3⟩ := pfx_of g3
    obtain ⟨p0, p1, rfl, rfl⟩ := spn_of g4
    obtain ⟨q0, q1, rfl, rfl⟩ := spn_of g5
    simp at e0 e1
    subst e0 e1
    exact ⟨⟨b0, b1, s0, s1, d0, d1, p0, p1, q0, q1⟩, rfl, w0, w1, w2, w3⟩
theorem hdr_of (n : Nat) (cs : List Value) (y : DataW H × List MemPlace) (h : DataW.trod enc Tryz.prog w base spare held n 48 cs = some y) : ∃ r : HdrD, encH r = cs ∧ r.ok := by
  obtain ⟨xs, m, _, _, hlen, hxl, hf⟩ := DataW.trod_struct Tryz.underlying48 h
  rw [cH] at hlen
  match cs, hlen, xs, hxl with
  | [c0, c1, c2, c3, c4], _, [y0, y1, y2, y3, y4], _ =>
    have g0 : DataW.trod enc Tryz.prog w base spare held m 23 [c0] = some y0 := by simpa [cA] using hf 0 _ rfl
    have g1 : DataW.trod enc Tryz.prog w base spare held m 23 [c1] = some y1 := by simpa [cA] using hf 1 _ rfl
    have g2 : DataW.trod enc Tryz.prog w base spare held m 5 [c2] = some y2 := by simpa [c8] using hf 2 _ rfl
    have g3 : DataW.trod enc Tryz.prog w base spare held m 46 [c3] = some y3 := by simpa [c16] using hf 3 _ rfl
    have g4 : DataW.trod enc Tryz.prog w base spare held m 46 [c4] = some y4 := by simpa [c16] using hf 4 _ rfl
    obtain ⟨x0, e0, _, w0⟩ := DataW.trod_int Tryz.underlying23 g0
    obtain ⟨x1, e1, _, w1⟩ := DataW.trod_int Tryz.underlying23 g1
    obtain ⟨x2, e2, _, w2⟩ := DataW.trod_int Tryz.underlying5 g2
    obtain ⟨x3, e3, _, w3⟩ := DataW.trod_int Tryz.underlying46 g3
    obtain ⟨x4, e4, _, w4⟩ := DataW.trod_int Tryz.underlying46 g4
    simp at e0 e1 e2 e3 e4
    subst e0 e1 e2 e3 e4
    have a0 := u32_wf w0; have a1 := u32_wf w1; have a2 := u8_wf w2; have a3 := u16_wf w3; have a4 := u16_wf w4
    exact ⟨⟨x0, x1, x2, x3, x4⟩, rfl, a0.1, a0.2, a1.1, a1.2, a2.1, a2.2, a3.1, a3.2, a4.1, a4.2⟩
theorem rules_of {fuel : Nat} {v : Value} {x : DataW H × List MemPlace} (h : DataW.trod enc Tryz.prog w base spare held fuel 37 [v] = some x) : ∃ l, RdR w v l := by
  obtain ⟨l, h1, h2⟩ := rdk_of Tryz.underlying37 cR (by decide) rule_of h
  exact ⟨l, h1, h2⟩
theorem filter_of (n : Nat) (cs : List Value) (y : DataW H × List MemPlace) (h : DataW.trod enc Tryz.prog w base spare held n 39 cs = some y) : ∃ (nm : ByteArray) (v : Value) (l : List RuleD), cs = [.string nm, v] ∧ RdR w v l := by
  obtain ⟨xs, m, _, _, hlen, hxl, hf⟩ := DataW.trod_struct Tryz.underlying39 h
  rw [cF] at hlen
  match cs, hlen, xs, hxl with
  | [c0, c1], _, [y0, y1], _ =>
    have g0 : DataW.trod enc Tryz.prog w base spare held m 9 [c0] = some y0 := by simpa [cT, cRS] using hf 0 _ rfl
    have g1 : DataW.trod enc Tryz.prog w base spare held m 37 [c1] = some y1 := by simpa [cT, cRS] using hf 1 _ rfl
    obtain ⟨s, e0, _, _⟩ := DataW.trod_string Tryz.underlying9 g0
    simp at e0
    subst e0
    obtain ⟨l, hl⟩ := rules_of g1
    exact ⟨s, c1, l, rfl, hl⟩
/-- Arguments that are structs. -/
theorem rule_arg {v : Value} {d : DataW H} {p : List MemPlace} {r : Reach} {b0 : Nat} (hv : Value.okWide Tryz.prog w r b0 29 v) (h : DataW.Trod enc Tryz.prog w base spare held 29 v d p) : ∃ r : RuleD, v = vR r ∧ r.ok := by
  obtain ⟨⟨cs⟩, rfl, _⟩ := okWide_struct Tryz.underlying29 hv
  obtain ⟨n, hn⟩ := h
  obtain ⟨r, hr, hok⟩ := rule_of n _ _ hn
  exact ⟨r, by unfold vR; rw [hr]; rfl, hok⟩
theorem hdr_arg {v : Value} {d : DataW H} {p : List MemPlace} {r : Reach} {b0 : Nat} (hv : Value.okWide Tryz.prog w r b0 48 v) (h : DataW.Trod enc Tryz.prog w base spare held 48 v d p) : ∃ r : HdrD, v = vH r ∧ r.ok := by
  obtain ⟨⟨cs⟩, rfl, _⟩ := okWide_struct Tryz.underlying48 hv
  obtain ⟨n, hn⟩ := h
  obtain ⟨r, hr, hok⟩ := hdr_of n _ _ hn
  exact ⟨r, by unfold vH; rw [hr]; rfl, hok⟩
theorem filter_arg {v : Value} {d : DataW H} {p : List MemPlace} {r : Reach} {b0 : Nat} (hv : Value.okWide Tryz.prog w r b0 39 v) (h : DataW.Trod enc Tryz.prog w base spare held 39 v d p) : ∃ (nm : ByteArray) (u : Value) (l : List RuleD), v = .agg #[.string nm, u] ∧ RdR w u l := by
  obtain ⟨⟨cs⟩, rfl, _⟩ := okWide_struct Tryz.underlying39 hv
  obtain ⟨n, hn⟩ := h
  obtain ⟨nm, u, l, hc, hl⟩ := filter_of n _ _ hn
  have hc : cs = [.string nm, u] := hc
  subst hc
  exact ⟨nm, u, l, rfl, hl⟩
end
end Go.Proofs.YtgggmhaopcgkkaaGreatDoor
