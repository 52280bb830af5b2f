/- What the listed package-level variables hold, read off the row's condition: the tables of powers of ten and the two errors of package strconv; a header opened and shut. No other condition. -/
import Derived.Test.YtbmleejeffaciaaDoorRows
import Derived.Test.YtbmleejeffaciaaDoorTie
import Derived.Test.YtbmleejeffaciaaDoorHdP
import Derived.ProofKit
import Derived.LaidMore
import Derived.LaidLaws
import Derived.OpenShut
import Derived.Stop.Joined
import Derived.MakeChecks
import Derived.Lib.LaidTab
import Derived.Lib.SmallJoins
namespace Go.Proofs.YtbmleejeffaciaaDoor
open Go.ChangeShapes Go.WideShapes Go.ChangeAt Go.RowKit Go.Joins Go.Deep
theorem own : ownKnob Tryd.prog.godebug = none := by kernel_rfl
theorem cellsHd : Tryd.prog.cellsOf 27 = 5 := by kernel_rfl
theorem cellsAd : Tryd.prog.cellsOf 24 = 1 := by kernel_rfl
theorem cells8 : Tryd.prog.cellsOf 5 = 1 := by kernel_rfl
theorem cells16 : Tryd.prog.cellsOf 25 = 1 := by kernel_rfl
/-- A table that stands anywhere on the list. -/
theorem tab_in {P : Program} {W : World} {name : String} {k : IntKind} {zs : List Int} {g : Nat} {t e : TypeId} {n : Nat}
    (hg : P.globalNamed name = some g) (hty : (P.globals[g]?).map (·.type) = some t) (ht : P.underlying t = some (.array n e)) (he : P.underlying e = some (.int k)) (hce : P.cellsOf e = 1) (hct : P.cellsOf t = n) :
    ∀ (l : List (String × DataW Unit)) (ps : List MemPlace), DataW.LaidVars P W l ps → (name, Lib.tabData k zs) ∈ l → Lib.TabIs P W name k zs := by
  intro l
  induction l with
  | nil => intro _ _ h; simp at h
  | cons x r ih =>
    obtain ⟨nm, d⟩ := x
    rintro ps ⟨g', t', cs, fuel, p, q, hg', ht', hvar, hd, hrest, _⟩ hm
    rcases List.mem_cons.1 hm with h | h
    · obtain ⟨rfl, rfl⟩ := Prod.mk.inj h
      obtain rfl := Option.some.inj (hg.symm.trans hg')
      obtain rfl := Option.some.inj (hty.symm.trans ht')
      unfold Lib.TabIs
      rw [hvar, ← Lib.cells_of_tab ht he hce hct hd]
    · exact ih q hrest h
/-- A variable of an interface type that stands anywhere on the list holds something. -/
theorem err_in {P : Program} {W : World} {name nm : String} {d0 : DataW Unit} {g : Nat} {t : TypeId} {ms : Array (String × TypeId)}
    (hg : P.globalNamed name = some g) (hty : (P.globals[g]?).map (·.type) = some t) (ht : P.underlying t = some (.interface ms)) :
    ∀ (l : List (String × DataW Unit)) (ps : List MemPlace), DataW.LaidVars P W l ps → (name, .iface nm d0) ∈ l → ∃ te pe, W.cell? ⟨g, 0, none⟩ = some (.iface te pe) := by
  intro l
  induction l with
  | nil => intro _ _ h; simp at h
  | cons x r ih =>
    obtain ⟨nm', d⟩ := x
    rintro ps ⟨g', t', cs, fuel, p, q, hg', ht', hvar, hd, hrest, _⟩ hm
    rcases List.mem_cons.1 hm with h | h
    · obtain ⟨rfl, rfl⟩ := Prod.mk.inj h
      obtain rfl := Option.some.inj (hg.symm.trans hg')
      obtain rfl := Option.some.inj (hty.symm.trans ht')
      obtain ⟨f', u, v, hcs, _⟩ := iface_of_trod ht hd
      obtain ⟨cs⟩ := cs
      simp only at hcs
      subst hcs
      exact ⟨u, v, by simpa using World.var?_cell hg hvar 0⟩
    · exact ih q hrest h
theorem t10 : (Tryd.prog.globals[3]?).map (·.type) = some 105 := by kernel_rfl
theorem d10 : (Rows.laid_internal_strconv_uint64pow10 : DataW Unit) = Lib.tabData .u64 Lib.pow10Tab := by rfl
theorem tab10_of_laid {W : World} {l : List (String × DataW Unit)} (hp : (l.all fun x => x.2.handleName?.isNone) = true) (hm : ("internal/strconv.uint64pow10", Rows.laid_internal_strconv_uint64pow10) ∈ l) (h : laidMetH Tryd.prog l W) : Tab10 W := by
  rw [MakeChecks.laidMetH_plain _ _ _ hp] at h
  obtain ⟨ps, hl, _⟩ := h
  rw [d10] at hm
  exact tab_in g10 t10 Tryd.underlying105 Tryd.underlying53 (by kernel_rfl) (by kernel_rfl) l ps hl hm
theorem gES : Tryd.prog.globalNamed "strconv.ErrSyntax" = some 1 := by kernel_rfl
theorem gER : Tryd.prog.globalNamed "strconv.ErrRange" = some 2 := by kernel_rfl
theorem tES : (Tryd.prog.globals[1]?).map (·.type) = some 71 := by kernel_rfl
theorem tER : (Tryd.prog.globals[2]?).map (·.type) = some 71 := by kernel_rfl
theorem errv_of_laid {W : World} {l : List (String × DataW Unit)} (hp : (l.all fun x => x.2.handleName?.isNone) = true) (hs : ("strconv.ErrSyntax", Rows.laid_strconv_ErrSyntax) ∈ l) (hr : ("strconv.ErrRange", Rows.laid_strconv_ErrRange) ∈ l) (h : laidMetH Tryd.prog l W) : ErrV W := by
  rw [MakeChecks.laidMetH_plain _ _ _ hp] at h
  obtain ⟨ps, hl, _⟩ := h
  exact ⟨err_in gES tES Tryd.underlying71 l ps hl hs, err_in gER tER Tryd.underlying71 l ps hl hr⟩
section
variable {H : Type} {enc : TypeId × Value → H} {P : Program} {w : World} {base : Nat} {sp : Nat → Bool} {held : Bool}
theorem trodAll_none {vs : List Value} {ds : List (DataW H)} {ps : List MemPlace} (h : DataW.TrodAll enc P w base sp held [] vs ds ps) : vs = [] ∧ ds = [] ∧ ps = [] := by
  cases vs <;> cases ds <;> simp [DataW.TrodAll] at h
  exact ⟨rfl, rfl, h⟩
theorem trodAll_nil_mk : DataW.TrodAll enc P w base sp held [] [] [] [] := by simp [DataW.TrodAll]
set_option maxRecDepth 100000 in
/-- A header, opened. -/
theorem open_hdr {r : Reach} {b0 : Nat} {v : Value} {d : DataW H} {p : List MemPlace} (hv : Value.okWide Tryd.prog w r b0 27 v) (h : DataW.Trod enc Tryd.prog w base sp held 27 v d p) :
    ∃ x0 x1 x2 x3 x4 : Int, v = .agg #[.int .u32 x0, .int .u32 x1, .int .u8 x2, .int .u16 x3, .int .u16 x4] ∧ d = .agg [.lit (.int .u32 x0), .lit (.int .u32 x1), .lit (.int .u8 x2), .lit (.int .u16 x3), .lit (.int .u16 x4)] ∧ p = [] ∧
      (Lit.int .u32 x0).wf = true ∧ (Lit.int .u32 x1).wf = true ∧ (Lit.int .u8 x2).wf = true ∧ (Lit.int .u16 x3).wf = true ∧ (Lit.int .u16 x4).wf = true := by
  obtain ⟨⟨l⟩, rfl, hsz⟩ := okWide_struct Tryd.underlying27 hv
  match l, hsz.trans cellsHd with
  | [c0, c1, c2, c3, c4], _ =>
    obtain ⟨fuel, hf⟩ := h
    obtain ⟨xs, n, _, hx, _, hlen, hg⟩ := DataW.trod_struct Tryd.underlying27 hf
    match xs, hlen with
    | [y0, y1, y2, y3, y4], _ =>
      have h0 : DataW.trod enc Tryd.prog w base sp held n 24 [c0] = some y0 := by simpa [Value.cells, cellsAd, cells8, cells16] using hg 0 _ rfl
      have h1 : DataW.trod enc Tryd.prog w base sp held n 24 [c1] = some y1 := by simpa [Value.cells, cellsAd, cells8, cells16] using hg 1 _ rfl
      have h2 : DataW.trod enc Tryd.prog w base sp held n 5 [c2] = some y2 := by simpa [Value.cells, cellsAd, cells8, cells16] using hg 2 _ rfl
      have h3 : DataW.trod enc Tryd.prog w base sp held n 25 [c3] = some y3 := by simpa [Value.cells, cellsAd, cells8, cells16] using hg 3 _ rfl
      have h4 : DataW.trod enc Tryd.prog w base sp held n 25 [c4] = some y4 := by simpa [Value.cells, cellsAd, cells8, cells16] using hg 4 _ rfl
      obtain ⟨x0, g0, rfl, w0⟩ := DataW.trod_int Tryd.underlying24 h0
      obtain ⟨x1, g1, rfl, w1⟩ := DataW.trod_int Tryd.underlying24 h1
      obtain ⟨x2, g2, rfl, w2⟩ := DataW.trod_int Tryd.underlying5 h2
      obtain ⟨x3, g3, rfl, w3⟩ := DataW.trod_int Tryd.underlying25 h3
      obtain ⟨x4, g4, rfl, w4⟩ := DataW.trod_int Tryd.underlying25 h4
      simp at g0 g1 g2 g3 g4
      subst g0 g1 g2 g3 g4
      simp only [Prod.mk.injEq] at hx
      exact ⟨x0, x1, x2, x3, x4, rfl, by simpa using hx.1, by simpa using hx.2, w0, w1, w2, w3, w4⟩
theorem shut_hdr {x0 x1 x2 x3 x4 : Int} (w0 : (Lit.int .u32 x0).wf = true) (w1 : (Lit.int .u32 x1).wf = true) (w2 : (Lit.int .u8 x2).wf = true) (w3 : (Lit.int .u16 x3).wf = true) (w4 : (Lit.int .u16 x4).wf = true) :
    DataW.Trod enc Tryd.prog w base sp held 27 (.agg #[.int .u32 x0, .int .u32 x1, .int .u8 x2, .int .u16 x3, .int .u16 x4]) (.agg [.lit (.int .u32 x0), .lit (.int .u32 x1), .lit (.int .u8 x2), .lit (.int .u16 x3), .lit (.int .u16 x4)]) [] := by
  have := trod_struct_mk (enc := enc) (w := w) (base := base) (spare := sp) (held := held) (n := 1) (cs := [.int .u32 x0, .int .u32 x1, .int .u8 x2, .int .u16 x3, .int .u16 x4])
    (xs := [(.lit (.int .u32 x0), []), (.lit (.int .u32 x1), []), (.lit (.int .u8 x2), []), (.lit (.int .u16 x3), []), (.lit (.int .u16 x4), [])]) Tryd.underlying27 (by rw [cellsHd]; rfl)
    (by simp [cellsAd, cells8, cells16, DataW.trod, Tryd.underlying24, Tryd.underlying5, Tryd.underlying25, w0, w1, w2, w3, w4])
  exact ⟨2, by simpa [Value.cells] using this⟩
end
end Go.Proofs.YtbmleejeffaciaaDoor
