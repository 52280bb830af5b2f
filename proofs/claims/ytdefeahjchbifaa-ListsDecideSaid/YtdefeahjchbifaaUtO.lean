/- How entries, members and communities that are handed in read, and that their lists fit in the reach. No condition but the reach. -/
import Derived.Test.YtdefeahjchbifaaOpn
import Derived.Test.YtdefeahjchbifaaUtH
import Derived.Deep.Slices
import Derived.SizedLaws
namespace Go.Proofs.Ytdefeahjchbifaa
open Go.ChangeShapes Go.WideShapes Go.ChangeAt Go.RowKit Go.Joins Go.Deep
set_option maxRecDepth 20000
theorem weightsAll_mem {H : Type} {P : Program} {e : TypeId} : ∀ {l : List (DataW H)} {d : DataW H}, d ∈ l → ∀ n ∈ d.weights P e, n ∈ DataW.weightsAll P e l
  | x :: l, d, hd, n, hn => by
    simp only [DataW.weightsAll, List.mem_append]
    rcases List.mem_cons.1 hd with rfl | h
    · exact .inl hn
    · exact .inr (weightsAll_mem h n hn)
  | [], d, hd, _, _ => by cases hd
section
variable {H : Type} {enc : TypeId × Value → H} {P : Program} {w w' : World} {base : Nat} {spare : Nat → Bool} {held : Bool}
theorem rdk_ofW {α : Type} [Inhabited α] {ec : α → List Value} {k : Nat} {ok : α → Prop} {t e : TypeId} (ht : P.underlying t = some (.slice e)) (hce : P.cellsOf e = k) (h0 : 0 < k)
    (hel : ∀ n cs y, DataW.trod enc P w base spare held n e cs = some y → (∀ n ∈ y.1.weights P e, n ≤ reachBytes) → ∃ s, ec s = cs ∧ ok s) {fuel : Nat} {v : Value} {x : DataW H × List MemPlace} (h : DataW.trod enc P w base spare held fuel t [v] = some x)
    (hw : ∀ n ∈ x.1.weights P t, n ≤ reachBytes) : ∃ l, RdK ec k w v l ∧ (∀ s ∈ l, ok s) ∧ l.length * P.bytesOf e ≤ reachBytes := by
  rcases open_slice ht h with ⟨hc, _⟩ | ⟨a, len, cap, m, n, D, Pl, hc, hb, hl, hm, hmm, rfl, hx⟩
  · simp at hc; subst hc
    exact ⟨[], RdK.nil w, (fun s hs => by cases hs), by simp⟩
  · simp at hc; subst hc
    have hlm : len ≤ m := by rw [hmm]; split <;> omega
    have hby : len * P.bytesOf e ≤ reachBytes := by
      have := hw ((((List.range len).map D).length + ((List.range (m - len)).map fun j => D (len + j)).length) * P.bytesOf e) (by simp [DataW.weights, ht])
      refine Nat.le_trans (Nat.mul_le_mul_right _ ?_) this
      simp
    have hwt : ∀ i, i < len → ∀ n ∈ (D i).weights P e, n ≤ reachBytes := fun i hi n hn => hw n (by
      simp only [DataW.weights, ht]
      refine List.mem_cons_of_mem _ (List.mem_append_left _ ?_)
      exact weightsAll_mem (List.mem_map.2 ⟨i, List.mem_range.2 hi, rfl⟩) n hn)
    by_cases hz : len = 0
    · subst hz
      exact ⟨[], ⟨some a, cap, rfl, hl, hm, fun h => absurd h (Nat.lt_irrefl _)⟩, (fun s hs => by cases hs), by simp⟩
    have hnum : ∀ i, i < len → ∃ s, ok s ∧ ∀ j u, (ec s)[j]? = some u → w.cell? (a.add (i * k + j)) = some u := by
      intro i hi
      obtain ⟨cs, h1, h2⟩ := hx i (by omega)
      obtain ⟨s, hs, hok⟩ := hel _ _ _ h2 (hwt i hi)
      rw [hce] at h1
      obtain ⟨_, hlen, hcell⟩ := World.cells?_some h1
      refine ⟨s, hok, fun j u hu => ?_⟩
      rw [hs] at hu
      have := hcell j (by rw [← hlen]; exact (List.getElem?_eq_some_iff.1 hu).1)
      rw [add_add] at this
      rw [this]; exact hu
    obtain ⟨S, hS⟩ := choose_lt hnum
    obtain ⟨cs0, h10, _⟩ := hx 0 (by omega)
    rw [hce] at h10
    obtain ⟨_, hlen0, hcell0⟩ := World.cells?_some h10
    have hc0 : w.cell? (a.add (0 * k)) = some (cs0[0]'(by omega)) := by
      have := hcell0 0 h0
      rw [add_add] at this
      rw [List.getElem?_eq_getElem (by omega)] at this
      exact this
    have hsp : a.spot = none := by
      have := World.cell?_spot hc0
      unfold Addr.add at this
      split at this
      · exact this
      · simp at *
    obtain ⟨b, o, sp⟩ := a
    simp only at hsp
    subst hsp
    have hbs : b < w.heap.size := by
      have := World.block_lt_of_cell? w _ hc0
      rw [addr_off] at this
      exact this
    refine ⟨(List.range len).map S, ⟨some ⟨b, o, none⟩, cap, by simp, by simpa using hl, hm, fun _ => ⟨b, o, rfl, hbs, fun i s hi j u hu => ?_⟩⟩, (fun s hs => ?_), by simpa using hby⟩
    · rw [List.getElem?_map] at hi
      cases hr : (List.range len)[i]? with
      | none => rw [hr] at hi; simp at hi
      | some j' =>
        rw [hr] at hi
        have hij := (List.getElem?_eq_some_iff.1 hr).2
        have hil := (List.getElem?_eq_some_iff.1 hr).1
        simp at hij hil hi
        subst hij hi
        have := (hS i (by omega)).2 j u hu
        rw [addr_off, ← Nat.add_assoc] at this
        exact this
    · obtain ⟨i, hi, rfl⟩ := List.mem_map.1 hs
      exact (hS i (by have := List.mem_range.1 hi; omega)).1
end
variable {H : Type} {enc : TypeId × Value → H} {w w' : World} {base : Nat} {spare : Nat → Bool} {held : Bool}
theorem trodAll_five {P : Program} {t0 t1 t2 t3 t4 : TypeId} {args : Array Value} {ds : List (DataW H)} {ps : List MemPlace} (h : DataW.TrodAll enc P w base spare held [t0, t1, t2, t3, t4] args.toList ds ps) :
    ∃ v0 v1 v2 v3 v4 d0 d1 d2 d3 d4 p0 p1 p2 p3 p4, args = #[v0, v1, v2, v3, v4] ∧ ds = [d0, d1, d2, d3, d4] ∧ ps = p0 ++ p1 ++ p2 ++ p3 ++ p4 ∧ DataW.Trod enc P w base spare held t0 v0 d0 p0 ∧ DataW.Trod enc P w base spare held t1 v1 d1 p1 ∧ DataW.Trod enc P w base spare held t2 v2 d2 p2 ∧ DataW.Trod enc P w base spare held t3 v3 d3 p3 ∧ DataW.Trod enc P w base spare held t4 v4 d4 p4 := by
  obtain ⟨v0, vs0, d0, ds0, p0, q0, ha, rfl, rfl, h0, r0⟩ := trodAll_cons h
  obtain ⟨v1, vs1, d1, ds1, p1, q1, rfl, rfl, rfl, h1, r1⟩ := trodAll_cons r0
  obtain ⟨v2, vs2, d2, ds2, p2, q2, rfl, rfl, rfl, h2, r2⟩ := trodAll_cons r1
  obtain ⟨v3, vs3, d3, ds3, p3, q3, rfl, rfl, rfl, h3, r3⟩ := trodAll_cons r2
  obtain ⟨v4, vs4, d4, ds4, p4, q4, rfl, rfl, rfl, h4, r4⟩ := trodAll_cons r3
  obtain ⟨rfl, rfl, rfl⟩ := trodAll_nil r4
  exact ⟨v0, v1, v2, v3, v4, d0, d1, d2, d3, d4, p0, p1, p2, p3, p4, by cases args; simp_all, rfl, by simp, h0, h1, h2, h3, h4⟩
instance instEnt : Inhabited EntD := ⟨⟨false, 0, 0, 0, 0⟩⟩
instance instMem : Inhabited MemD := ⟨⟨false, none, 0, []⟩⟩
theorem cB : Try.prog.cellsOf 4 = 1 := by kernel_rfl
theorem cI : Try.prog.cellsOf 3 = 1 := by kernel_rfl
theorem cP : Try.prog.cellsOf 26 = 2 := by kernel_rfl
theorem cA : Try.prog.cellsOf 24 = 1 := by kernel_rfl
theorem c32 : Try.prog.cellsOf 23 = 1 := by kernel_rfl
theorem cUS : Try.prog.cellsOf 28 = 1 := by kernel_rfl
theorem cEn : Try.prog.cellsOf 44 = 5 := by kernel_rfl
theorem cMe : Try.prog.cellsOf 46 = 2 := by kernel_rfl
theorem bEn : Try.prog.bytesOf 44 = 40 := by kernel_rfl
theorem bMe : Try.prog.bytesOf 46 = 32 := by kernel_rfl
theorem b32 : Try.prog.bytesOf 23 = 4 := by kernel_rfl
theorem pfx_of {n : Nat} {c0 c1 : Value} {y : DataW H × List MemPlace} (h : DataW.trod enc Try.prog w base spare held n 26 [c0, c1] = some y) : ∃ a b : Int, c0 = .int .u32 a ∧ c1 = .int .i64 b ∧ 0 ≤ a ∧ a < 4294967296 := by
  obtain ⟨xs, m, _, _, hlen, hxl, hf⟩ := DataW.trod_struct Try.underlying26 h
  match xs, hxl with
  | [y0, y1], _ =>
    have g0 : DataW.trod enc Try.prog w base spare held m 24 [c0] = some y0 := by simpa [cA, cI] using hf 0 _ rfl
    have g1 : DataW.trod enc Try.prog w base spare held m 3 [c1] = some y1 := by simpa [cA, cI] using hf 1 _ rfl
    obtain ⟨a, e0, _, w0⟩ := DataW.trod_int Try.underlying24 g0
    obtain ⟨b, e1, _, _⟩ := DataW.trod_int Try.underlying3 g1
    simp at e0 e1
    have := u32_wf w0
    exact ⟨a, b, e0, e1, this.1, this.2⟩
theorem ent_of (n : Nat) (cs : List Value) (y : DataW H × List MemPlace) (h : DataW.trod enc Try.prog w base spare held n 44 cs = some y) (_ : ∀ n ∈ y.1.weights Try.prog 44, n ≤ reachBytes) : ∃ e : EntD, encE e = cs ∧ (0 ≤ e.a ∧ e.a < 4294967296) := by
  obtain ⟨xs, m, _, _, hlen, hxl, hf⟩ := DataW.trod_struct Try.underlying44 h
  rw [cEn] at hlen
  match cs, hlen, xs, hxl with
  | [c0, c1, c2, c3, c4], _, [y0, y1, y2, y3], _ =>
    have g0 : DataW.trod enc Try.prog w base spare held m 4 [c0] = some y0 := by simpa [cB, cP, cI] using hf 0 _ rfl
    have g1 : DataW.trod enc Try.prog w base spare held m 26 [c1, c2] = some y1 := by simpa [cB, cP, cI] using hf 1 _ rfl
    have g2 : DataW.trod enc Try.prog w base spare held m 3 [c3] = some y2 := by simpa [cB, cP, cI] using hf 2 _ rfl
    have g3 : DataW.trod enc Try.prog w base spare held m 3 [c4] = some y3 := by simpa [cB, cP, cI] using hf 3 _ rfl
    obtain ⟨b0, e0, _⟩ := DataW.trod_bool Try.underlying4 g0
    obtain ⟨a, b, e1, e2, h1, h2⟩ := pfx_of g1
    obtain ⟨x3, e3, _, _⟩ := DataW.trod_int Try.underlying3 g2
    obtain ⟨x4, e4, _, _⟩ := DataW.trod_int Try.underlying3 g3
    simp at e0 e3 e4
    subst e0 e1 e2 e3 e4
    exact ⟨⟨b0, a, b, x3, x4⟩, rfl, h1, h2⟩
theorem num_of (n : Nat) (cs : List Value) (y : DataW H × List MemPlace) (h : DataW.trod enc Try.prog w base spare held n 23 cs = some y) (_ : ∀ n ∈ y.1.weights Try.prog 23, n ≤ reachBytes) : ∃ x : Int, encU x = cs ∧ (0 ≤ x ∧ x < 4294967296) := by
  obtain ⟨x, e, _, w0⟩ := DataW.trod_int Try.underlying23 h
  subst e
  exact ⟨x, rfl, u32_wf w0⟩
theorem nums_of {fuel : Nat} {v : Value} {x : DataW H × List MemPlace} (h : DataW.trod enc Try.prog w base spare held fuel 28 [v] = some x) (hw : ∀ n ∈ x.1.weights Try.prog 28, n ≤ reachBytes) : ∃ l, RdK encU 1 w v l ∧ (∀ x ∈ l, 0 ≤ x ∧ x < 4294967296) ∧ l.length * 4 ≤ 140737488351232 := by
  obtain ⟨l, h1, h2, h3⟩ := rdk_ofW (ok := fun x : Int => 0 ≤ x ∧ x < 4294967296) Try.underlying28 c32 (by decide) num_of h hw
  rw [b32] at h3
  exact ⟨l, h1, h2, h3⟩
theorem ents_of {fuel : Nat} {v : Value} {x : DataW H × List MemPlace} (h : DataW.trod enc Try.prog w base spare held fuel 22 [v] = some x) (hw : ∀ n ∈ x.1.weights Try.prog 22, n ≤ reachBytes) : ∃ l, RdK encE 5 w v l ∧ OkE l ∧ l.length * 40 ≤ 140737488351232 := by
  obtain ⟨l, h1, h2, h3⟩ := rdk_ofW (ok := fun e : EntD => 0 ≤ e.a ∧ e.a < 4294967296) Try.underlying22 cEn (by decide) ent_of h hw
  rw [bEn] at h3
  exact ⟨l, h1, h2, h3⟩
theorem mem_of (n : Nat) (cs : List Value) (y : DataW H × List MemPlace) (h : DataW.trod enc Try.prog w base spare held n 46 cs = some y) (hw : ∀ n ∈ y.1.weights Try.prog 46, n ≤ reachBytes) : ∃ m : MemD, encM m = cs ∧ (RdK encU 1 w (.slice m.p m.all.length m.c) m.all ∧ m.all.length ≤ 35184372087808) := by
  obtain ⟨xs, m, e, hy, hlen, hxl, hf⟩ := DataW.trod_struct Try.underlying46 h
  rw [cMe] at hlen
  match cs, hlen, xs, hxl with
  | [c0, c1], _, [y0, y1], _ =>
    have g0 : DataW.trod enc Try.prog w base spare held m 4 [c0] = some y0 := by simpa [cB, cUS] using hf 0 _ rfl
    have g1 : DataW.trod enc Try.prog w base spare held m 28 [c1] = some y1 := by simpa [cB, cUS] using hf 1 _ rfl
    obtain ⟨b0, e0, _⟩ := DataW.trod_bool Try.underlying4 g0
    simp at e0
    subst e0
    have hw1 : ∀ n ∈ y1.1.weights Try.prog 28, n ≤ reachBytes := fun n hn => hw n (by
      rw [hy]
      simp only [DataW.weights, Try.underlying46, List.map_cons, List.map_nil, DataW.weightsEach, List.append_nil]
      exact List.mem_append_right _ hn)
    obtain ⟨l, h1, _, h3⟩ := nums_of g1 hw1
    obtain ⟨p, c, rfl, _⟩ := h1.sl
    exact ⟨⟨b0, p, c, l⟩, rfl, h1, by show l.length ≤ _; omega⟩
theorem mems_of {fuel : Nat} {v : Value} {x : DataW H × List MemPlace} (h : DataW.trod enc Try.prog w base spare held fuel 27 [v] = some x) (hw : ∀ n ∈ x.1.weights Try.prog 27, n ≤ reachBytes) : ∃ l, RdK encM 2 w v l ∧ OkM w l ∧ l.length * 32 ≤ 140737488351232 := by
  obtain ⟨l, h1, h2, h3⟩ := rdk_ofW (ok := fun m : MemD => RdK encU 1 w (.slice m.p m.all.length m.c) m.all ∧ m.all.length ≤ 35184372087808) Try.underlying27 cMe (by decide) mem_of h hw
  rw [bMe] at h3
  exact ⟨l, h1, h2, h3⟩
theorem pre_arg {v : Value} {d : DataW H} {p : List MemPlace} {r : Reach} {b0 : Nat} (hv : Value.okWide Try.prog w r b0 26 v) (h : DataW.Trod enc Try.prog w base spare held 26 v d p) : ∃ x n : Int, v = .agg #[.int .u32 x, .int .i64 n] ∧ (0 ≤ x ∧ x < 4294967296) := by
  obtain ⟨⟨cs⟩, rfl, _⟩ := okWide_struct Try.underlying26 hv
  obtain ⟨n, hn⟩ := h
  obtain ⟨xs, m, _, _, hlen, _, _⟩ := DataW.trod_struct Try.underlying26 hn
  rw [cP] at hlen
  have hc : ∃ c0 c1, cs = [c0, c1] := by
    match cs, hlen with
    | [c0, c1], _ => exact ⟨c0, c1, rfl⟩
  obtain ⟨c0, c1, rfl⟩ := hc
  obtain ⟨a, b, rfl, rfl, h1, h2⟩ := pfx_of hn
  exact ⟨a, b, rfl, h1, h2⟩
end Go.Proofs.Ytdefeahjchbifaa
