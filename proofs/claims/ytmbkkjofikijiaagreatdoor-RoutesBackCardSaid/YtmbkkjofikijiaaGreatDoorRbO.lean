/- How routes and adverts that are handed in read, and that an advert's lists fit in the reach. No condition but the reach. -/
import Derived.Test.YtmbkkjofikijiaaGreatDoorOpn
import Derived.Test.YtmbkkjofikijiaaGreatDoorRbY
import Derived.Deep.Slices
import Derived.SizedLaws
namespace Go.Proofs.YtmbkkjofikijiaaGreatDoor
open Go.ChangeShapes Go.WideShapes Go.ChangeAt Go.RowKit Go.Joins Go.Deep
set_option maxRecDepth 20000
theorem weightsAll_mem {H : Type} {P : Program} {e : TypeId} : ∀ {l : List (DataW H)} {d : DataW H}, d ∈ l → ∀ n ∈ d.weights P e, n ∈ DataW.weightsAll P e l
  | x :: l, d, hd, n, hn => by
    simp only [DataW.weightsAll, List.mem_append]
    rcases List.mem_cons.1 hd with rfl | h
    · exact .inl hn
    · exact .inr (weightsAll_mem h n hn)
  | [], d, hd, _, _ => by cases hd
section
variable {H : Type} {enc : TypeId × Value → H} {P : Program} {w w' : World} {base : Nat} {spare : Nat → Bool} {held : Bool}
theorem rdk_ofW {α : Type} [Inhabited α] {ec : α → List Value} {k : Nat} {ok : α → Prop} {t e : TypeId} (ht : P.underlying t = some (.slice e)) (hce : P.cellsOf e = k) (h0 : 0 < k)
    (hel : ∀ n cs y, DataW.trod enc P w base spare held n e cs = some y → (∀ n ∈ y.1.weights P e, n ≤ reachBytes) → ∃ s, ec s = cs ∧ ok s) {fuel : Nat} {v : Value} {x : DataW H × List MemPlace} (h : DataW.trod enc P w base spare held fuel t [v] = some x)
    (hw : ∀ n ∈ x.1.weights P t, n ≤ reachBytes) : ∃ l, RdK ec k w v l ∧ (∀ s ∈ l, ok s) ∧ l.length * P.bytesOf e ≤ reachBytes := by
  rcases open_slice ht h with ⟨hc, _⟩ | ⟨a, len, cap, m, n, D, Pl, hc, hb, hl, hm, hmm, rfl, hx⟩
  · simp at hc; subst hc
    exact ⟨[], RdK.nil w, (fun s hs => by cases hs), by simp⟩
  · simp at hc; subst hc
    have hlm : len ≤ m := by rw [hmm]; split <;> omega
    have hby : len * P.bytesOf e ≤ reachBytes := by
      have := hw ((((List.range len).map D).length + ((List.range (m - len)).map fun j => D (len + j)).length) * P.bytesOf e) (by simp [DataW.weights, ht])
      refine Nat.le_trans (Nat.mul_le_mul_right _ ?_) this
      simp
    have hwt : ∀ i, i < len → ∀ n ∈ (D i).weights P e, n ≤ reachBytes := fun i hi n hn => hw n (by
      simp only [DataW.weights, ht]
      refine List.mem_cons_of_mem _ (List.mem_append_left _ ?_)
      exact weightsAll_mem (List.mem_map.2 ⟨i, List.mem_range.2 hi, rfl⟩) n hn)
    by_cases hz : len = 0
    · subst hz
      exact ⟨[], ⟨some a, cap, rfl, hl, hm, fun h => absurd h (Nat.lt_irrefl _)⟩, (fun s hs => by cases hs), by simp⟩
    have hnum : ∀ i, i < len → ∃ s, ok s ∧ ∀ j u, (ec s)[j]? = some u → w.cell? (a.add (i * k + j)) = some u := by
      intro i hi
      obtain ⟨cs, h1, h2⟩ := hx i (by omega)
      obtain ⟨s, hs, hok⟩ := hel _ _ _ h2 (hwt i hi)
      rw [hce] at h1
      obtain ⟨_, hlen, hcell⟩ := World.cells?_some h1
      refine ⟨s, hok, fun j u hu => ?_⟩
      rw [hs] at hu
      have := hcell j (by rw [← hlen]; exact (List.getElem?_eq_some_iff.1 hu).1)
      rw [add_add] at this
      rw [this]; exact hu
    obtain ⟨S, hS⟩ := choose_lt hnum
    obtain ⟨cs0, h10, _⟩ := hx 0 (by omega)
    rw [hce] at h10
    obtain ⟨_, hlen0, hcell0⟩ := World.cells?_some h10
    have hc0 : w.cell? (a.add (0 * k)) = some (cs0[0]'(by omega)) := by
      have := hcell0 0 h0
      rw [add_add] at this
      rw [List.getElem?_eq_getElem (by omega)] at this
      exact this
    have hsp : a.spot = none := by
      have := World.cell?_spot hc0
      unfold Addr.add at this
      split at this
      · exact this
      · simp at *
    obtain ⟨b, o, sp⟩ := a
    simp only at hsp
    subst hsp
    have hbs : b < w.heap.size := by
      have := World.block_lt_of_cell? w _ hc0
      rw [addr_off] at this
      exact this
    refine ⟨(List.range len).map S, ⟨some ⟨b, o, none⟩, cap, by simp, by simpa using hl, hm, fun _ => ⟨b, o, rfl, hbs, fun i s hi j u hu => ?_⟩⟩, (fun s hs => ?_), by simpa using hby⟩
    · rw [List.getElem?_map] at hi
      cases hr : (List.range len)[i]? with
      | none => rw [hr] at hi; simp at hi
      | some j' =>
        rw [hr] at hi
        have hij := (List.getElem?_eq_some_iff.1 hr).2
        have hil := (List.getElem?_eq_some_iff.1 hr).1
        simp at hij hil hi
        subst hij hi
        have := (hS i (by omega)).2 j u hu
        rw [addr_off, ← Nat.add_assoc] at this
        exact this
    · obtain ⟨i, hi, rfl⟩ := List.mem_map.1 hs
      exact (hS i (by have := List.mem_range.1 hi; omega)).1
end
section
variable {H : Type} {enc : TypeId × Value → H} {w w' : World} {base : Nat} {spare : Nat → Bool} {held : Bool}
theorem cA9 : Tryz.prog.cellsOf 23 = 1 := by kernel_rfl
theorem cI9 : Tryz.prog.cellsOf 3 = 1 := by kernel_rfl
theorem cB9 : Tryz.prog.cellsOf 4 = 1 := by kernel_rfl
theorem c89 : Tryz.prog.cellsOf 5 = 1 := by kernel_rfl
theorem cT9 : Tryz.prog.cellsOf 9 = 1 := by kernel_rfl
theorem cP9 : Tryz.prog.cellsOf 25 = 2 := by kernel_rfl
theorem cR9 : Tryz.prog.cellsOf 27 = 9 := by kernel_rfl
theorem cU9 : Tryz.prog.cellsOf 22 = 1 := by kernel_rfl
theorem cL9 : Tryz.prog.cellsOf 28 = 1 := by kernel_rfl
theorem cM9 : Tryz.prog.cellsOf 29 = 1 := by kernel_rfl
theorem cV9 : Tryz.prog.cellsOf 31 = 13 := by kernel_rfl
theorem bU9 : Tryz.prog.bytesOf 22 = 4 := by kernel_rfl
theorem bA9 : Tryz.prog.bytesOf 23 = 4 := by kernel_rfl
theorem pfx_ofB {n : Nat} {c0 c1 : Value} {y : DataW H × List MemPlace} (h : DataW.trod enc Tryz.prog w base spare held n 25 [c0, c1] = some y) : ∃ a b : Int, c0 = .int .u32 a ∧ c1 = .int .i64 b ∧ 0 ≤ a ∧ a < 4294967296 := by
  obtain ⟨xs, m, _, _, hlen, hxl, hf⟩ := DataW.trod_struct Tryz.underlying25 h
  match xs, hxl with
  | [y0, y1], _ =>
    have g0 : DataW.trod enc Tryz.prog w base spare held m 23 [c0] = some y0 := by simpa [cA9, cI9] using hf 0 _ rfl
    have g1 : DataW.trod enc Tryz.prog w base spare held m 3 [c1] = some y1 := by simpa [cA9, cI9] using hf 1 _ rfl
    obtain ⟨a, e0, _, w0⟩ := DataW.trod_int Tryz.underlying23 g0
    obtain ⟨b, e1, _, _⟩ := DataW.trod_int Tryz.underlying3 g1
    simp at e0 e1
    have := u32_wf w0
    exact ⟨a, b, e0, e1, this.1, this.2⟩
theorem u8_wf {n : Int} (h : (Lit.int .u8 n).wf = true) : 0 ≤ n := by
  have h1 : IntKind.u8.min = 0 := rfl
  simp only [Lit.wf, Bool.and_eq_true, decide_eq_true_eq] at h
  omega
theorem num_ofB (n : Nat) (cs : List Value) (y : DataW H × List MemPlace) (h : DataW.trod enc Tryz.prog w base spare held n 22 cs = some y) (_ : ∀ n ∈ y.1.weights Tryz.prog 22, n ≤ reachBytes) : ∃ x : Int, encU x = cs ∧ (0 ≤ x ∧ x < 4294967296) := by
  obtain ⟨x, e, _, w0⟩ := DataW.trod_int Tryz.underlying22 h
  subst e
  exact ⟨x, rfl, u32_wf w0⟩
theorem num_ofBA (n : Nat) (cs : List Value) (y : DataW H × List MemPlace) (h : DataW.trod enc Tryz.prog w base spare held n 23 cs = some y) (_ : ∀ n ∈ y.1.weights Tryz.prog 23, n ≤ reachBytes) : ∃ x : Int, encU x = cs ∧ (0 ≤ x ∧ x < 4294967296) := by
  obtain ⟨x, e, _, w0⟩ := DataW.trod_int Tryz.underlying23 h
  subst e
  exact ⟨x, rfl, u32_wf w0⟩
/-- What is known of a route that is handed in. -/
def RtOk (q : RtD) : Prop := (0 ≤ q.a ∧ q.a < 4294967296) ∧ 0 ≤ q.fr ∧ (0 ≤ q.ho ∧ q.ho < 4294967296) ∧ q.nm.size ≤ 9223372036854775807
set_option maxRecDepth 100000 in
theorem rt_ofB (n : Nat) (cs : List Value) (y : DataW H × List MemPlace) (h : DataW.trod enc Tryz.prog w base spare held n 27 cs = some y) : ∃ r : RtD, encRt r = cs ∧ RtOk r := by
  obtain ⟨xs, m, _, _, hlen, hxl, hf⟩ := DataW.trod_struct Tryz.underlying27 h
  rw [cR9] at hlen
  match cs, hlen, xs, hxl with
  | [c0, c1, c2, c3, c4, c5, c6, c7, c8], _, [y0, y1, y2, y3, y4, y5, y6, y7], _ =>
    have g0 : DataW.trod enc Tryz.prog w base spare held m 25 [c0, c1] = some y0 := by simpa [cP9] using hf 0 _ rfl
    have g1 : DataW.trod enc Tryz.prog w base spare held m 5 [c2] = some y1 := by simpa [c89] using hf 1 _ rfl
    have g2 : DataW.trod enc Tryz.prog w base spare held m 3 [c3] = some y2 := by simpa [cI9] using hf 2 _ rfl
    have g3 : DataW.trod enc Tryz.prog w base spare held m 3 [c4] = some y3 := by simpa [cI9] using hf 3 _ rfl
    have g4 : DataW.trod enc Tryz.prog w base spare held m 3 [c5] = some y4 := by simpa [cI9] using hf 4 _ rfl
    have g5 : DataW.trod enc Tryz.prog w base spare held m 9 [c6] = some y5 := by simpa [cT9] using hf 5 _ rfl
    have g6 : DataW.trod enc Tryz.prog w base spare held m 23 [c7] = some y6 := by simpa [cA9] using hf 6 _ rfl
    have g7 : DataW.trod enc Tryz.prog w base spare held m 4 [c8] = some y7 := by simpa [cB9] using hf 7 _ rfl
    obtain ⟨a, b, rfl, rfl, a0, a1⟩ := pfx_ofB g0
    obtain ⟨fr, e1, _, w1⟩ := DataW.trod_int Tryz.underlying5 g1
    obtain ⟨di, e2, _, w2⟩ := DataW.trod_int Tryz.underlying3 g2
    obtain ⟨me, e3, _, w3⟩ := DataW.trod_int Tryz.underlying3 g3
    obtain ⟨ta, e4, _, w4⟩ := DataW.trod_int Tryz.underlying3 g4
    obtain ⟨nm, e5, _, hsz⟩ := DataW.trod_string Tryz.underlying9 g5
    obtain ⟨ho, e6, _, w6⟩ := DataW.trod_int Tryz.underlying23 g6
    obtain ⟨dc, e7, _⟩ := DataW.trod_bool Tryz.underlying4 g7
    simp at e1 e2 e3 e4 e5 e6 e7
    subst e1 e2 e3 e4 e5 e6 e7
    exact ⟨⟨a, b, fr, di, me, ta, nm, ho, dc⟩, rfl, ⟨a0, a1⟩, u8_wf w1, u32_wf w6, hsz⟩
theorem rt_argB {v : Value} {d : DataW H} {p : List MemPlace} {r : Reach} {b0 : Nat} (hv : Value.okWide Tryz.prog w r b0 27 v) (h : DataW.Trod enc Tryz.prog w base spare held 27 v d p) : ∃ r : RtD, v = .agg (encRt r).toArray ∧ RtOk r := by
  obtain ⟨⟨cs⟩, rfl, _⟩ := okWide_struct Tryz.underlying27 hv
  obtain ⟨n, hn⟩ := h
  obtain ⟨r, hc, hr⟩ := rt_ofB n _ _ hn
  have hc : encRt r = cs := hc
  subst hc
  exact ⟨r, rfl, hr⟩
/-- What is known of an advert that is handed in. -/
def AdArg (w : World) (v : Value) : Prop := ∃ (a b ho pf me : Int) (p1 : Option Addr) (c1 : Nat) (p2 : Option Addr) (c2 : Nat) (pa co : List Int) (pe pi : Int) (ex : Bool) (og : Int) (p3 : Option Addr) (c3 : Nat) (cl : List Int) (se : Int),
  v = .agg #[.int .u32 a, .int .i64 b, .int .u32 ho, .int .i64 pf, .int .i64 me, .slice p1 pa.length c1, .slice p2 co.length c2, .int .u32 pe, .int .u32 pi, .bool ex, .int .u32 og, .slice p3 cl.length c3, .int .i64 se] ∧ AvR ⟨a, b, ho, pf, me, pa, co, pe, pi, ex, og, cl, se⟩ ∧
  RdK encU 1 w (.slice p1 pa.length c1) pa ∧ RdK encU 1 w (.slice p2 co.length c2) co ∧ RdK encU 1 w (.slice p3 cl.length c3) cl ∧ pa.length ≤ 35184372087808 ∧ co.length ≤ 35184372087808 ∧ cl.length ≤ 35184372087808
set_option maxRecDepth 100000 in
theorem ad_argB {v : Value} {d : DataW H} {p : List MemPlace} {r : Reach} {b0 : Nat} (hv : Value.okWide Tryz.prog w r b0 31 v) (h : DataW.Trod enc Tryz.prog w base spare held 31 v d p) (hw : ∀ n ∈ d.weights Tryz.prog 31, n ≤ reachBytes) : AdArg w v := by
  obtain ⟨⟨cs⟩, rfl, _⟩ := okWide_struct Tryz.underlying31 hv
  obtain ⟨n, hn⟩ := h
  have hn2 : DataW.trod enc Tryz.prog w base spare held n 31 cs = some (d, p) := hn
  obtain ⟨xs, m, e, hy, hlen, hxl, hf⟩ := DataW.trod_struct Tryz.underlying31 hn2
  rw [cV9] at hlen
  match cs, hlen, xs, hxl with
  | [c0, c1, c2, c3, c4, c5, c6, c7, c8, c9, c10, c11, c12], _, [y0, y1, y2, y3, y4, y5, y6, y7, y8, y9, y10, y11], _ =>
    have g0 : DataW.trod enc Tryz.prog w base spare held m 25 [c0, c1] = some y0 := by simpa [cP9] using hf 0 _ rfl
    have g1 : DataW.trod enc Tryz.prog w base spare held m 23 [c2] = some y1 := by simpa [cA9] using hf 1 _ rfl
    have g2 : DataW.trod enc Tryz.prog w base spare held m 3 [c3] = some y2 := by simpa [cI9] using hf 2 _ rfl
    have g3 : DataW.trod enc Tryz.prog w base spare held m 3 [c4] = some y3 := by simpa [cI9] using hf 3 _ rfl
    have g4 : DataW.trod enc Tryz.prog w base spare held m 28 [c5] = some y4 := by simpa [cL9] using hf 4 _ rfl
    have g5 : DataW.trod enc Tryz.prog w base spare held m 28 [c6] = some y5 := by simpa [cL9] using hf 5 _ rfl
    have g6 : DataW.trod enc Tryz.prog w base spare held m 23 [c7] = some y6 := by simpa [cA9] using hf 6 _ rfl
    have g7 : DataW.trod enc Tryz.prog w base spare held m 23 [c8] = some y7 := by simpa [cA9] using hf 7 _ rfl
    have g8 : DataW.trod enc Tryz.prog w base spare held m 4 [c9] = some y8 := by simpa [cB9] using hf 8 _ rfl
    have g9 : DataW.trod enc Tryz.prog w base spare held m 23 [c10] = some y9 := by simpa [cA9] using hf 9 _ rfl
    have g10 : DataW.trod enc Tryz.prog w base spare held m 29 [c11] = some y10 := by simpa [cM9] using hf 10 _ rfl
    have g11 : DataW.trod enc Tryz.prog w base spare held m 3 [c12] = some y11 := by simpa [cI9] using hf 11 _ rfl
    obtain ⟨a, b, rfl, rfl, a0, a1⟩ := pfx_ofB g0
    obtain ⟨ho, e1, _, w1⟩ := DataW.trod_int Tryz.underlying23 g1
    obtain ⟨pf, e2, _, w2⟩ := DataW.trod_int Tryz.underlying3 g2
    obtain ⟨me, e3, _, w3⟩ := DataW.trod_int Tryz.underlying3 g3
    have hw4 : ∀ n ∈ y4.1.weights Tryz.prog 28, n ≤ reachBytes := fun n hn => hw n (by
      rw [show d = _ from congrArg Prod.fst hy]
      simp only [DataW.weights, Tryz.underlying31]
      exact DataW.weights_mem_each (j := 4) rfl rfl n hn)
    obtain ⟨pa, r4, o4, z4⟩ := rdk_ofW (ok := fun x : Int => 0 ≤ x ∧ x < 4294967296) (ec := encU) Tryz.underlying28 cU9 (by decide) num_ofB g4 hw4
    rw [bU9] at z4
    have hz4 : pa.length ≤ 35184372087808 := by
      have : reachBytes = 140737488351232 := rfl
      omega
    obtain ⟨p1, k1, rfl, _⟩ := r4.sl
    have hw5 : ∀ n ∈ y5.1.weights Tryz.prog 28, n ≤ reachBytes := fun n hn => hw n (by
      rw [show d = _ from congrArg Prod.fst hy]
      simp only [DataW.weights, Tryz.underlying31]
      exact DataW.weights_mem_each (j := 5) rfl rfl n hn)
    obtain ⟨co, r5, o5, z5⟩ := rdk_ofW (ok := fun x : Int => 0 ≤ x ∧ x < 4294967296) (ec := encU) Tryz.underlying28 cU9 (by decide) num_ofB g5 hw5
    rw [bU9] at z5
    have hz5 : co.length ≤ 35184372087808 := by
      have : reachBytes = 140737488351232 := rfl
      omega
    obtain ⟨p2, k2, rfl, _⟩ := r5.sl
    obtain ⟨pe, e6, _, w6⟩ := DataW.trod_int Tryz.underlying23 g6
    obtain ⟨pi, e7, _, w7⟩ := DataW.trod_int Tryz.underlying23 g7
    obtain ⟨ex, e8, _⟩ := DataW.trod_bool Tryz.underlying4 g8
    obtain ⟨og, e9, _, w9⟩ := DataW.trod_int Tryz.underlying23 g9
    have hw10 : ∀ n ∈ y10.1.weights Tryz.prog 29, n ≤ reachBytes := fun n hn => hw n (by
      rw [show d = _ from congrArg Prod.fst hy]
      simp only [DataW.weights, Tryz.underlying31]
      exact DataW.weights_mem_each (j := 10) rfl rfl n hn)
    obtain ⟨cl, r10, o10, z10⟩ := rdk_ofW (ok := fun x : Int => 0 ≤ x ∧ x < 4294967296) (ec := encU) Tryz.underlying29 cA9 (by decide) num_ofBA g10 hw10
    rw [bA9] at z10
    have hz10 : cl.length ≤ 35184372087808 := by
      have : reachBytes = 140737488351232 := rfl
      omega
    obtain ⟨p3, k3, rfl, _⟩ := r10.sl
    obtain ⟨se, e11, _, w11⟩ := DataW.trod_int Tryz.underlying3 g11
    simp at e1 e2 e3 e6 e7 e8 e9 e11
    subst e1 e2 e3 e6 e7 e8 e9 e11
    exact ⟨a, b, ho, pf, me, p1, k1, p2, k2, pa, co, pe, pi, ex, og, p3, k3, cl, se, rfl, ⟨⟨a0, a1⟩, u32_wf w1, u32_wf w6, u32_wf w7, u32_wf w9, o4, o5, o10⟩, r4, r5, r10, hz4, hz5, hz10⟩
end
end Go.Proofs.YtmbkkjofikijiaaGreatDoor
