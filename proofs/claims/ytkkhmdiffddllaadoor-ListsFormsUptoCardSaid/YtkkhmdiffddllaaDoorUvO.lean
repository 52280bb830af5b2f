/- How entries, members and communities that are handed in read where what is read is of small bulk; what the listed variables hold. No other condition. -/
import Derived.Test.YtkkhmdiffddllaaDoorOpn
import Derived.Test.YtkkhmdiffddllaaDoorTie
import Derived.Test.YtkkhmdiffddllaaDoorUvD
import Derived.Deep.Slices
import Derived.LaidMore
import Derived.LaidLaws
import Derived.OpenShut
import Derived.Stop.Joined
import Derived.MakeChecks
import Derived.Lib.LaidTab
import Derived.Lib.SmallJoins
namespace Go.Proofs.YtkkhmdiffddllaaDoor
open Go.ChangeShapes Go.WideShapes Go.ChangeAt Go.RowKit Go.Joins Go.Deep
set_option maxRecDepth 20000
/-- A table that stands anywhere on the list. -/
theorem tab_in {P : Program} {W : World} {name : String} {k : IntKind} {zs : List Int} {g : Nat} {t e : TypeId} {n : Nat}
    (hg : P.globalNamed name = some g) (hty : (P.globals[g]?).map (·.type) = some t) (ht : P.underlying t = some (.array n e)) (he : P.underlying e = some (.int k)) (hce : P.cellsOf e = 1) (hct : P.cellsOf t = n) :
    ∀ (l : List (String × DataW Unit)) (ps : List MemPlace), DataW.LaidVars P W l ps → (name, Lib.tabData k zs) ∈ l → Lib.TabIs P W name k zs := by
  intro l
  induction l with
  | nil => intro _ _ h; simp at h
  | cons x r ih =>
    obtain ⟨nm, d⟩ := x
    rintro ps ⟨g', t', cs, fuel, p, q, hg', ht', hvar, hd, hrest, _⟩ hm
    rcases List.mem_cons.1 hm with h | h
    · obtain ⟨rfl, rfl⟩ := Prod.mk.inj h
      obtain rfl := Option.some.inj (hg.symm.trans hg')
      obtain rfl := Option.some.inj (hty.symm.trans ht')
      unfold Lib.TabIs
      rw [hvar, ← Lib.cells_of_tab ht he hce hct hd]
    · exact ih q hrest h
/-- A variable of an interface type that stands anywhere on the list holds something. -/
theorem err_in {P : Program} {W : World} {name nm : String} {d0 : DataW Unit} {g : Nat} {t : TypeId} {ms : Array (String × TypeId)}
    (hg : P.globalNamed name = some g) (hty : (P.globals[g]?).map (·.type) = some t) (ht : P.underlying t = some (.interface ms)) :
    ∀ (l : List (String × DataW Unit)) (ps : List MemPlace), DataW.LaidVars P W l ps → (name, .iface nm d0) ∈ l → ∃ te pe, W.cell? ⟨g, 0, none⟩ = some (.iface te pe) := by
  intro l
  induction l with
  | nil => intro _ _ h; simp at h
  | cons x r ih =>
    obtain ⟨nm', d⟩ := x
    rintro ps ⟨g', t', cs, fuel, p, q, hg', ht', hvar, hd, hrest, _⟩ hm
    rcases List.mem_cons.1 hm with h | h
    · obtain ⟨rfl, rfl⟩ := Prod.mk.inj h
      obtain rfl := Option.some.inj (hg.symm.trans hg')
      obtain rfl := Option.some.inj (hty.symm.trans ht')
      obtain ⟨f', u, v, hcs, _⟩ := iface_of_trod ht hd
      obtain ⟨cs⟩ := cs
      simp only at hcs
      subst hcs
      exact ⟨u, v, by simpa using World.var?_cell hg hvar 0⟩
    · exact ih q hrest h
theorem t10 : (Tryd.prog.globals[3]?).map (·.type) = some 123 := by kernel_rfl
theorem d10 : (Rows.laid_internal_strconv_uint64pow10 : DataW Unit) = Lib.tabData .u64 Lib.pow10Tab := by rfl
theorem tab10_of_laid {W : World} {l : List (String × DataW Unit)} (hp : (l.all fun x => x.2.handleName?.isNone) = true) (hm : ("internal/strconv.uint64pow10", Rows.laid_internal_strconv_uint64pow10) ∈ l) (h : laidMetH Tryd.prog l W) : Tab10 W := by
  rw [MakeChecks.laidMetH_plain _ _ _ hp] at h
  obtain ⟨ps, hl, _⟩ := h
  rw [d10] at hm
  exact tab_in g10 t10 Tryd.underlying123 Tryd.underlying65 (by kernel_rfl) (by kernel_rfl) l ps hl hm
theorem gES : Tryd.prog.globalNamed "strconv.ErrSyntax" = some 1 := by kernel_rfl
theorem gER : Tryd.prog.globalNamed "strconv.ErrRange" = some 2 := by kernel_rfl
theorem tES : (Tryd.prog.globals[1]?).map (·.type) = some 67 := by kernel_rfl
theorem tER : (Tryd.prog.globals[2]?).map (·.type) = some 67 := by kernel_rfl
theorem errv_of_laid {W : World} {l : List (String × DataW Unit)} (hp : (l.all fun x => x.2.handleName?.isNone) = true) (hs : ("strconv.ErrSyntax", Rows.laid_strconv_ErrSyntax) ∈ l) (hr : ("strconv.ErrRange", Rows.laid_strconv_ErrRange) ∈ l) (h : laidMetH Tryd.prog l W) : ErrV W := by
  rw [MakeChecks.laidMetH_plain _ _ _ hp] at h
  obtain ⟨ps, hl, _⟩ := h
  exact ⟨err_in gES tES Tryd.underlying67 l ps hl hs, err_in gER tER Tryd.underlying67 l ps hl hr⟩
theorem bulk_one {H : Type} (d : DataW H) : 1 ≤ Rows.uptoBulk d := by
  cases d with
  | lit l => cases l <;> simp [Rows.uptoBulk]
  | _ => simp [Rows.uptoBulk]
theorem part_le {H : Type} {d : DataW H} {l : List (DataW H)} (h : d ∈ l) : Rows.uptoBulk d ≤ Rows.uptoBulkAll l := by
  induction l with
  | nil => cases h
  | cons x r ih =>
    simp only [Rows.uptoBulkAll]
    rcases List.mem_cons.1 h with rfl | e
    · omega
    · have := ih e; omega
theorem length_le {H : Type} (l : List (DataW H)) : l.length ≤ Rows.uptoBulkAll l := by
  induction l with
  | nil => simp [Rows.uptoBulkAll]
  | cons x r ih => have := bulk_one x; simp only [Rows.uptoBulkAll, List.length_cons]; omega
theorem slice_elems {H : Type} (es sp : List (DataW H)) : Rows.uptoBulkAll es + 1 ≤ Rows.uptoBulk (.slice es sp) := by
  simp only [Rows.uptoBulk]; omega
section
variable {H : Type} {enc : TypeId × Value → H} {P : Program} {w w' : World} {base : Nat} {spare : Nat → Bool} {held : Bool}
theorem rdk_ofB {N : Nat} {α : Type} [Inhabited α] {ec : α → List Value} {k : Nat} {ok : α → Prop} {t e : TypeId} (ht : P.underlying t = some (.slice e)) (hce : P.cellsOf e = k) (h0 : 0 < k)
    (hel : ∀ n cs y, DataW.trod enc P w base spare held n e cs = some y → Rows.uptoBulk y.1 ≤ N → ∃ s, ec s = cs ∧ ok s) {fuel : Nat} {v : Value} {x : DataW H × List MemPlace} (h : DataW.trod enc P w base spare held fuel t [v] = some x)
    (hw : Rows.uptoBulk x.1 ≤ N) : ∃ l, RdK ec k w v l ∧ (∀ s ∈ l, ok s) ∧ l.length ≤ N := by
  rcases open_slice ht h with ⟨hc, _⟩ | ⟨a, len, cap, m, n, D, Pl, hc, hb, hl, hm, hmm, rfl, hx⟩
  · simp at hc; subst hc
    exact ⟨[], RdK.nil w, (fun s hs => by cases hs), Nat.zero_le _⟩
  · simp at hc; subst hc
    have hlm : len ≤ m := by rw [hmm]; split <;> omega
    have hb1 := slice_elems ((List.range len).map D) ((List.range (m - len)).map fun j => D (len + j))
    have hby : len ≤ N := by have h1 := length_le ((List.range len).map D); simp at h1; simp only at hw; omega
    have hwt : ∀ i, i < len → Rows.uptoBulk (D i) ≤ N := fun i hi => by
      have h2 : D i ∈ (List.range len).map D := List.mem_map.2 ⟨i, List.mem_range.2 hi, rfl⟩
      have h3 := part_le h2
      simp only at hw; omega
    by_cases hz : len = 0
    · subst hz
      exact ⟨[], ⟨some a, cap, rfl, hl, hm, fun h => absurd h (Nat.lt_irrefl _)⟩, (fun s hs => by cases hs), Nat.zero_le _⟩
    have hnum : ∀ i, i < len → ∃ s, ok s ∧ ∀ j u, (ec s)[j]? = some u → w.cell? (a.add (i * k + j)) = some u := by
      intro i hi
      obtain ⟨cs, h1, h2⟩ := hx i (by omega)
      obtain ⟨s, hs, hok⟩ := hel _ _ _ h2 (hwt i hi)
      rw [hce] at h1
      obtain ⟨_, hlen, hcell⟩ := World.cells?_some h1
      refine ⟨s, hok, fun j u hu => ?_⟩
      rw [hs] at hu
      have := hcell j (by rw [← hlen]; exact (List.getElem?_eq_some_iff.1 hu).1)
      rw [add_add] at this
      rw [this]; exact hu
    obtain ⟨S, hS⟩ := choose_lt hnum
    obtain ⟨cs0, h10, _⟩ := hx 0 (by omega)
    rw [hce] at h10
    obtain ⟨_, hlen0, hcell0⟩ := World.cells?_some h10
    have hc0 : w.cell? (a.add (0 * k)) = some (cs0[0]'(by omega)) := by
      have := hcell0 0 h0
      rw [add_add] at this
      rw [List.getElem?_eq_getElem (by omega)] at this
      exact this
    have hsp : a.spot = none := by
      have := World.cell?_spot hc0
      unfold Addr.add at this
      split at this
      · exact this
      · simp at *
    obtain ⟨b, o, sp⟩ := a
    simp only at hsp
    subst hsp
    have hbs : b < w.heap.size := by
      have := World.block_lt_of_cell? w _ hc0
      rw [addr_off] at this
      exact this
    refine ⟨(List.range len).map S, ⟨some ⟨b, o, none⟩, cap, by simp, by simpa using hl, hm, fun _ => ⟨b, o, rfl, hbs, fun i s hi j u hu => ?_⟩⟩, (fun s hs => ?_), by simpa using hby⟩
    · rw [List.getElem?_map] at hi
      cases hr : (List.range len)[i]? with
      | none => rw [hr] at hi; simp at hi
      | some j' =>
        rw [hr] at hi
        have hij := (List.getElem?_eq_some_iff.1 hr).2
        have hil := (List.getElem?_eq_some_iff.1 hr).1
        simp at hij hil hi
        subst hij hi
        have := (hS i (by omega)).2 j u hu
        rw [addr_off, ← Nat.add_assoc] at this
        exact this
    · obtain ⟨i, hi, rfl⟩ := List.mem_map.1 hs
      exact (hS i (by have := List.mem_range.1 hi; omega)).1
end
variable {H : Type} {enc : TypeId × Value → H} {w w' : World} {base : Nat} {spare : Nat → Bool} {held : Bool}
theorem trodAll_six {P : Program} {t0 t1 t2 t3 t4 t5 : TypeId} {args : Array Value} {ds : List (DataW H)} {ps : List MemPlace} (h : DataW.TrodAll enc P w base spare held [t0, t1, t2, t3, t4, t5] args.toList ds ps) :
    ∃ v0 v1 v2 v3 v4 v5 d0 d1 d2 d3 d4 d5 p0 p1 p2 p3 p4 p5, args = #[v0, v1, v2, v3, v4, v5] ∧ ds = [d0, d1, d2, d3, d4, d5] ∧ ps = p0 ++ p1 ++ p2 ++ p3 ++ p4 ++ p5 ∧ DataW.Trod enc P w base spare held t0 v0 d0 p0 ∧ DataW.Trod enc P w base spare held t1 v1 d1 p1 ∧ DataW.Trod enc P w base spare held t2 v2 d2 p2 ∧ DataW.Trod enc P w base spare held t3 v3 d3 p3 ∧ DataW.Trod enc P w base spare held t4 v4 d4 p4 ∧ DataW.Trod enc P w base spare held t5 v5 d5 p5 := by
  obtain ⟨v0, vs0, d0, ds0, p0, q0, ha, rfl, rfl, h0, r0⟩ := trodAll_cons h
  obtain ⟨v1, vs1, d1, ds1, p1, q1, rfl, rfl, rfl, h1, r1⟩ := trodAll_cons r0
  obtain ⟨v2, vs2, d2, ds2, p2, q2, rfl, rfl, rfl, h2, r2⟩ := trodAll_cons r1
  obtain ⟨v3, vs3, d3, ds3, p3, q3, rfl, rfl, rfl, h3, r3⟩ := trodAll_cons r2
  obtain ⟨v4, vs4, d4, ds4, p4, q4, rfl, rfl, rfl, h4, r4⟩ := trodAll_cons r3
  obtain ⟨v5, vs5, d5, ds5, p5, q5, rfl, rfl, rfl, h5, r5⟩ := trodAll_cons r4
  obtain ⟨rfl, rfl, rfl⟩ := trodAll_nil r5
  exact ⟨v0, v1, v2, v3, v4, v5, d0, d1, d2, d3, d4, d5, p0, p1, p2, p3, p4, p5, by cases args; simp_all, rfl, by simp, h0, h1, h2, h3, h4, h5⟩
instance instEnt : Inhabited EntD := ⟨⟨false, 0, 0, 0, 0⟩⟩
instance instMem : Inhabited MemD := ⟨⟨false, none, 0, []⟩⟩
theorem cB : Tryd.prog.cellsOf 4 = 1 := by kernel_rfl
theorem cI : Tryd.prog.cellsOf 3 = 1 := by kernel_rfl
theorem cP : Tryd.prog.cellsOf 49 = 2 := by kernel_rfl
theorem cA : Tryd.prog.cellsOf 47 = 1 := by kernel_rfl
theorem c32 : Tryd.prog.cellsOf 23 = 1 := by kernel_rfl
theorem cUS : Tryd.prog.cellsOf 22 = 1 := by kernel_rfl
theorem cEn : Tryd.prog.cellsOf 51 = 5 := by kernel_rfl
theorem cMe : Tryd.prog.cellsOf 56 = 2 := by kernel_rfl
theorem pfx_of {n : Nat} {c0 c1 : Value} {y : DataW H × List MemPlace} (h : DataW.trod enc Tryd.prog w base spare held n 49 [c0, c1] = some y) : ∃ a b : Int, c0 = .int .u32 a ∧ c1 = .int .i64 b ∧ 0 ≤ a ∧ a < 4294967296 := by
  obtain ⟨xs, m, _, _, hlen, hxl, hf⟩ := DataW.trod_struct Tryd.underlying49 h
  match xs, hxl with
  | [y0, y1], _ =>
    have g0 : DataW.trod enc Tryd.prog w base spare held m 47 [c0] = some y0 := by simpa [cA, cI] using hf 0 _ rfl
    have g1 : DataW.trod enc Tryd.prog w base spare held m 3 [c1] = some y1 := by simpa [cA, cI] using hf 1 _ rfl
    obtain ⟨a, e0, _, w0⟩ := DataW.trod_int Tryd.underlying47 g0
    obtain ⟨b, e1, _, _⟩ := DataW.trod_int Tryd.underlying3 g1
    simp at e0 e1
    have := u32_wf w0
    exact ⟨a, b, e0, e1, this.1, this.2⟩
theorem ent_of (n : Nat) (cs : List Value) (y : DataW H × List MemPlace) (h : DataW.trod enc Tryd.prog w base spare held n 51 cs = some y) (_ : Rows.uptoBulk y.1 ≤ 1048576) : ∃ e : EntD, encE e = cs ∧ (0 ≤ e.a ∧ e.a < 4294967296) := by
  obtain ⟨xs, m, _, _, hlen, hxl, hf⟩ := DataW.trod_struct Tryd.underlying51 h
  rw [cEn] at hlen
  match cs, hlen, xs, hxl with
  | [c0, c1, c2, c3, c4], _, [y0, y1, y2, y3], _ =>
    have g0 : DataW.trod enc Tryd.prog w base spare held m 4 [c0] = some y0 := by simpa [cB, cP, cI] using hf 0 _ rfl
    have g1 : DataW.trod enc Tryd.prog w base spare held m 49 [c1, c2] = some y1 := by simpa [cB, cP, cI] using hf 1 _ rfl
    have g2 : DataW.trod enc Tryd.prog w base spare held m 3 [c3] = some y2 := by simpa [cB, cP, cI] using hf 2 _ rfl
    have g3 : DataW.trod enc Tryd.prog w base spare held m 3 [c4] = some y3 := by simpa [cB, cP, cI] using hf 3 _ rfl
    obtain ⟨b0, e0, _⟩ := DataW.trod_bool Tryd.underlying4 g0
    obtain ⟨a, b, e1, e2, h1, h2⟩ := pfx_of g1
    obtain ⟨x3, e3, _, _⟩ := DataW.trod_int Tryd.underlying3 g2
    obtain ⟨x4, e4, _, _⟩ := DataW.trod_int Tryd.underlying3 g3
    simp at e0 e3 e4
    subst e0 e1 e2 e3 e4
    exact ⟨⟨b0, a, b, x3, x4⟩, rfl, h1, h2⟩
theorem num_of (n : Nat) (cs : List Value) (y : DataW H × List MemPlace) (h : DataW.trod enc Tryd.prog w base spare held n 23 cs = some y) (_ : Rows.uptoBulk y.1 ≤ 1048576) : ∃ x : Int, encU x = cs ∧ (0 ≤ x ∧ x < 4294967296) := by
  obtain ⟨x, e, _, w0⟩ := DataW.trod_int Tryd.underlying23 h
  subst e
  exact ⟨x, rfl, u32_wf w0⟩
theorem nums_of {fuel : Nat} {v : Value} {x : DataW H × List MemPlace} (h : DataW.trod enc Tryd.prog w base spare held fuel 22 [v] = some x) (hw : Rows.uptoBulk x.1 ≤ 1048576) : ∃ l, RdK encU 1 w v l ∧ (∀ x ∈ l, 0 ≤ x ∧ x < 4294967296) ∧ l.length ≤ 1048576 := by
  obtain ⟨l, h1, h2, h3⟩ := rdk_ofB (ok := fun x : Int => 0 ≤ x ∧ x < 4294967296) Tryd.underlying22 c32 (by decide) num_of h hw
  exact ⟨l, h1, h2, h3⟩
theorem ents_of {fuel : Nat} {v : Value} {x : DataW H × List MemPlace} (h : DataW.trod enc Tryd.prog w base spare held fuel 52 [v] = some x) (hw : Rows.uptoBulk x.1 ≤ 1048576) : ∃ l, RdK encE 5 w v l ∧ OkE l ∧ l.length ≤ 1048576 := by
  obtain ⟨l, h1, h2, h3⟩ := rdk_ofB (ok := fun e : EntD => 0 ≤ e.a ∧ e.a < 4294967296) Tryd.underlying52 cEn (by decide) ent_of h hw
  exact ⟨l, h1, h2, h3⟩
theorem mem_of (n : Nat) (cs : List Value) (y : DataW H × List MemPlace) (h : DataW.trod enc Tryd.prog w base spare held n 56 cs = some y) (hw : Rows.uptoBulk y.1 ≤ 1048576) : ∃ m : MemD, encM m = cs ∧ (RdK encU 1 w (.slice m.p m.all.length m.c) m.all ∧ m.all.length ≤ 35184372087808) := by
  obtain ⟨xs, m, e, hy, hlen, hxl, hf⟩ := DataW.trod_struct Tryd.underlying56 h
  rw [cMe] at hlen
  match cs, hlen, xs, hxl with
  | [c0, c1], _, [y0, y1], _ =>
    have g0 : DataW.trod enc Tryd.prog w base spare held m 4 [c0] = some y0 := by simpa [cB, cUS] using hf 0 _ rfl
    have g1 : DataW.trod enc Tryd.prog w base spare held m 22 [c1] = some y1 := by simpa [cB, cUS] using hf 1 _ rfl
    obtain ⟨b0, e0, _⟩ := DataW.trod_bool Tryd.underlying4 g0
    simp at e0
    subst e0
    have hw1 : Rows.uptoBulk y1.1 ≤ 1048576 := by
      rw [hy] at hw
      simp only [Rows.uptoBulk, List.map_cons, List.map_nil, Rows.uptoBulkAll] at hw
      omega
    obtain ⟨l, h1, _, h3⟩ := nums_of g1 hw1
    obtain ⟨p, c, rfl, _⟩ := h1.sl
    exact ⟨⟨b0, p, c, l⟩, rfl, h1, by show l.length ≤ _; exact Nat.le_trans h3 (by decide)⟩
theorem mems_of {fuel : Nat} {v : Value} {x : DataW H × List MemPlace} (h : DataW.trod enc Tryd.prog w base spare held fuel 32 [v] = some x) (hw : Rows.uptoBulk x.1 ≤ 1048576) : ∃ l, RdK encM 2 w v l ∧ OkM w l ∧ l.length ≤ 1048576 := by
  obtain ⟨l, h1, h2, h3⟩ := rdk_ofB (ok := fun m : MemD => RdK encU 1 w (.slice m.p m.all.length m.c) m.all ∧ m.all.length ≤ 35184372087808) Tryd.underlying32 cMe (by decide) mem_of h hw
  exact ⟨l, h1, h2, h3⟩
theorem pre_arg {v : Value} {d : DataW H} {p : List MemPlace} {r : Reach} {b0 : Nat} (hv : Value.okWide Tryd.prog w r b0 49 v) (h : DataW.Trod enc Tryd.prog w base spare held 49 v d p) : ∃ x n : Int, v = .agg #[.int .u32 x, .int .i64 n] ∧ (0 ≤ x ∧ x < 4294967296) := by
  obtain ⟨⟨cs⟩, rfl, _⟩ := okWide_struct Tryd.underlying49 hv
  obtain ⟨n, hn⟩ := h
  obtain ⟨xs, m, _, _, hlen, _, _⟩ := DataW.trod_struct Tryd.underlying49 hn
  rw [cP] at hlen
  have hc : ∃ c0 c1, cs = [c0, c1] := by
    match cs, hlen with
    | [c0, c1], _ => exact ⟨c0, c1, rfl⟩
  obtain ⟨c0, c1, rfl⟩ := hc
  obtain ⟨a, b, rfl, rfl, h1, h2⟩ := pfx_of hn
  exact ⟨a, b, rfl, h1, h2⟩
end Go.Proofs.YtkkhmdiffddllaaDoor
