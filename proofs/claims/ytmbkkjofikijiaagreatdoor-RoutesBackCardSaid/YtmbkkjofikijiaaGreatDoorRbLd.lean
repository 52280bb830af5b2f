/- What the listed table of package internal/strconv and the words of package routes hold, read off the row's condition. No other condition. -/
import Derived.Test.YtmbkkjofikijiaaGreatDoorRows
import Derived.Test.YtmbkkjofikijiaaGreatDoorTie
import Derived.Test.YtmbkkjofikijiaaGreatDoorRbV
import Derived.ProofKit
import Derived.LaidMore
import Derived.LaidLaws
import Derived.OpenShut
import Derived.Stop.Joined
import Derived.MakeChecks
import Derived.Lib.LaidTab
import Derived.Lib.SmallJoins
namespace Go.Proofs.YtmbkkjofikijiaaGreatDoor
open Go.ChangeShapes Go.WideShapes Go.ChangeAt Go.RowKit Go.Joins Go.Deep
theorem own : ownKnob Tryz.prog.godebug = none := by kernel_rfl
/-- A table that stands anywhere on the list. -/
theorem tab_in {P : Program} {W : World} {name : String} {k : IntKind} {zs : List Int} {g : Nat} {t e : TypeId} {n : Nat}
    (hg : P.globalNamed name = some g) (hty : (P.globals[g]?).map (·.type) = some t) (ht : P.underlying t = some (.array n e)) (he : P.underlying e = some (.int k)) (hce : P.cellsOf e = 1) (hct : P.cellsOf t = n) :
    ∀ (l : List (String × DataW Unit)) (ps : List MemPlace), DataW.LaidVars P W l ps → (name, Lib.tabData k zs) ∈ l → Lib.TabIs P W name k zs := by
  intro l
  induction l with
  | nil => intro _ _ h; simp at h
  | cons x r ih =>
    obtain ⟨nm, d⟩ := x
    rintro ps ⟨g', t', cs, fuel, p, q, hg', ht', hvar, hd, hrest, _⟩ hm
    rcases List.mem_cons.1 hm with h | h
    · obtain ⟨rfl, rfl⟩ := Prod.mk.inj h
      obtain rfl := Option.some.inj (hg.symm.trans hg')
      obtain rfl := Option.some.inj (hty.symm.trans ht')
      unfold Lib.TabIs
      rw [hvar, ← Lib.cells_of_tab ht he hce hct hd]
    · exact ih q hrest h
theorem t10 : (Tryz.prog.globals[1]?).map (·.type) = some 226 := by kernel_rfl
theorem d10 : (Rows.laid_internal_strconv_uint64pow10 : DataW Unit) = Lib.tabData .u64 Lib.pow10Tab := by rfl
theorem tab10_of_laid {W : World} {l : List (String × DataW Unit)} (hp : (l.all fun x => x.2.handleName?.isNone) = true) (hm : ("internal/strconv.uint64pow10", Rows.laid_internal_strconv_uint64pow10) ∈ l) (h : laidMetH Tryz.prog l W) : Tab10 W := by
  rw [MakeChecks.laidMetH_plain _ _ _ hp] at h
  obtain ⟨ps, hl, _⟩ := h
  rw [d10] at hm
  exact tab_in g10 t10 Tryz.underlying226 Tryz.underlying112 (by kernel_rfl) (by kernel_rfl) l ps hl hm
/-- An array of strings that reads as these strings holds them, cell for cell. -/
theorem cells_of_words {H : Type} {enc : TypeId × Value → H} {P : Program} {w : World} {base : Nat} {sp : Nat → Bool} {held : Bool} {fuel : Nat} {t e : TypeId} {n : Nat} {cs : List Value} {ds : List (DataW H)} {p : List MemPlace}
    (ht : P.underlying t = some (.array n e)) (he : P.underlying e = some .string) (hce : P.cellsOf e = 1)
    (h : DataW.trod enc P w base sp held fuel t cs = some (.agg ds, p)) (i : Nat) (s : List UInt8) (hi : i < n) (hs : ds[i]? = some (.lit (.string s))) : cs[i]? = some (.string ⟨s.toArray⟩) := by
  cases fuel with
  | zero => simp [DataW.trod] at h
  | succ fuel =>
    simp only [DataW.trod, ht, hce, Nat.mul_one] at h
    split at h
    · obtain ⟨xs, hm, hx⟩ := Option.map_eq_some_iff.1 h
      have hxs : xs.map (·.1) = ds := by
        have := congrArg Prod.fst hx
        simpa using this
      obtain ⟨b, hb, hf⟩ := Lib.mapM_at hm i i (by simp [hi])
      obtain ⟨z, hc, rfl, _⟩ := DataW.trod_string he hf
      have h1 : cs[i]? = some (.string z) := by
        have := congrArg (·[0]?) hc
        simpa [List.getElem?_take, List.getElem?_drop] using this
      have h2 : (xs.map (·.1))[i]? = some (DataW.lit (.string z.data.toList) : DataW H) := by simp [hb]
      rw [hxs, hs] at h2
      simp only [Option.some.injEq, DataW.lit.injEq, Lit.string.injEq] at h2
      rw [h1, h2]
    · cases h
/-- A variable that stands anywhere on the list. -/
theorem laid_in {P : Program} {W : World} {name : String} {d : DataW Unit} {g : Nat} {t : TypeId}
    (hg : P.globalNamed name = some g) (hty : (P.globals[g]?).map (·.type) = some t) :
    ∀ (l : List (String × DataW Unit)) (ps : List MemPlace), DataW.LaidVars P W l ps → (name, d) ∈ l → ∃ (cs : Array Value) (fuel : Nat) (p : List MemPlace), W.var? P name = some cs ∧ DataW.trod (fun _ => ()) P W 0 (fun _ => true) false fuel t cs.toList = some (d, p) := by
  intro l
  induction l with
  | nil => intro _ _ h; simp at h
  | cons x r ih =>
    obtain ⟨nm, d'⟩ := x
    rintro ps ⟨g', t', cs, fuel, p, q, hg', ht', hvar, hd, hrest, _⟩ hm
    rcases List.mem_cons.1 hm with h | h
    · obtain ⟨rfl, rfl⟩ := Prod.mk.inj h
      obtain rfl := Option.some.inj (hg.symm.trans hg')
      obtain rfl := Option.some.inj (hty.symm.trans ht')
      exact ⟨cs, fuel, p, hvar, hd⟩
    · exact ih q hrest h
theorem gS : Tryz.prog.globalNamed "waymark/routes.sources" = some 0 := by kernel_rfl
theorem tS : (Tryz.prog.globals[0]?).map (·.type) = some 62 := by kernel_rfl
theorem src_of_laid {W : World} {l : List (String × DataW Unit)} (hp : (l.all fun x => x.2.handleName?.isNone) = true) (hm : ("waymark/routes.sources", Rows.laid_waymark_routes_sources) ∈ l) (h : laidMetH Tryz.prog l W) : Src9 W := by
  rw [MakeChecks.laidMetH_plain _ _ _ hp] at h
  obtain ⟨ps, hl, _⟩ := h
  obtain ⟨cs, fuel, p, hv, hd⟩ := laid_in gS tS l ps hl hm
  have h0 := cells_of_words Tryz.underlying62 Tryz.underlying9 (by kernel_rfl) hd 0 [] (by decide) rfl
  have h1 := cells_of_words Tryz.underlying62 Tryz.underlying9 (by kernel_rfl) hd 1 [99, 111, 110, 110, 101, 99, 116, 101, 100] (by decide) rfl
  have h2 := cells_of_words Tryz.underlying62 Tryz.underlying9 (by kernel_rfl) hd 2 [119, 114, 105, 116, 116, 101, 110] (by decide) rfl
  have h3 := cells_of_words Tryz.underlying62 Tryz.underlying9 (by kernel_rfl) hd 3 [105, 110, 116, 114, 97] (by decide) rfl
  have h4 := cells_of_words Tryz.underlying62 Tryz.underlying9 (by kernel_rfl) hd 4 [105, 110, 116, 101, 114] (by decide) rfl
  have h5 := cells_of_words Tryz.underlying62 Tryz.underlying9 (by kernel_rfl) hd 5 [101, 120, 116, 101, 114, 110, 97, 108, 49] (by decide) rfl
  have h6 := cells_of_words Tryz.underlying62 Tryz.underlying9 (by kernel_rfl) hd 6 [101, 120, 116, 101, 114, 110, 97, 108, 50] (by decide) rfl
  have h7 := cells_of_words Tryz.underlying62 Tryz.underlying9 (by kernel_rfl) hd 7 [101, 98, 103, 112] (by decide) rfl
  have h8 := cells_of_words Tryz.underlying62 Tryz.underlying9 (by kernel_rfl) hd 8 [105, 98, 103, 112] (by decide) rfl
  have c0 : W.cell? ⟨0, 0, none⟩ = some (.string ⟨#[]⟩) := by
    have := World.var?_cell gS hv 0
    rw [this]
    simpa using h0
  have c1 : W.cell? ⟨0, 1, none⟩ = some (.string ⟨#[99, 111, 110, 110, 101, 99, 116, 101, 100]⟩) := by
    have := World.var?_cell gS hv 1
    rw [this]
    simpa using h1
  have c2 : W.cell? ⟨0, 2, none⟩ = some (.string ⟨#[119, 114, 105, 116, 116, 101, 110]⟩) := by
    have := World.var?_cell gS hv 2
    rw [this]
    simpa using h2
  have c3 : W.cell? ⟨0, 3, none⟩ = some (.string ⟨#[105, 110, 116, 114, 97]⟩) := by
    have := World.var?_cell gS hv 3
    rw [this]
    simpa using h3
  have c4 : W.cell? ⟨0, 4, none⟩ = some (.string ⟨#[105, 110, 116, 101, 114]⟩) := by
    have := World.var?_cell gS hv 4
    rw [this]
    simpa using h4
  have c5 : W.cell? ⟨0, 5, none⟩ = some (.string ⟨#[101, 120, 116, 101, 114, 110, 97, 108, 49]⟩) := by
    have := World.var?_cell gS hv 5
    rw [this]
    simpa using h5
  have c6 : W.cell? ⟨0, 6, none⟩ = some (.string ⟨#[101, 120, 116, 101, 114, 110, 97, 108, 50]⟩) := by
    have := World.var?_cell gS hv 6
    rw [this]
    simpa using h6
  have c7 : W.cell? ⟨0, 7, none⟩ = some (.string ⟨#[101, 98, 103, 112]⟩) := by
    have := World.var?_cell gS hv 7
    rw [this]
    simpa using h7
  have c8 : W.cell? ⟨0, 8, none⟩ = some (.string ⟨#[105, 98, 103, 112]⟩) := by
    have := World.var?_cell gS hv 8
    rw [this]
    simpa using h8
  refine ⟨⟨c0, c1, c2, c3, c4, c5, c6, c7, c8⟩, ?_⟩
  refine Nat.lt_of_not_le fun hge => ?_
  have e : W.heap[0]? = none := Array.getElem?_eq_none hge
  simp [World.cell?, e] at c8
theorem err_in {P : Program} {W : World} {name nm : String} {d0 : DataW Unit} {g : Nat} {t : TypeId} {ms : Array (String × TypeId)}
    (hg : P.globalNamed name = some g) (hty : (P.globals[g]?).map (·.type) = some t) (ht : P.underlying t = some (.interface ms)) :
    ∀ (l : List (String × DataW Unit)) (ps : List MemPlace), DataW.LaidVars P W l ps → (name, .iface nm d0) ∈ l → ∃ te pe, W.cell? ⟨g, 0, none⟩ = some (.iface te pe) := by
  intro l
  induction l with
  | nil => intro _ _ h; simp at h
  | cons x r ih =>
    obtain ⟨nm', d⟩ := x
    rintro ps ⟨g', t', cs, fuel, p, q, hg', ht', hvar, hd, hrest, _⟩ hm
    rcases List.mem_cons.1 hm with h | h
    · obtain ⟨rfl, rfl⟩ := Prod.mk.inj h
      obtain rfl := Option.some.inj (hg.symm.trans hg')
      obtain rfl := Option.some.inj (hty.symm.trans ht')
      obtain ⟨f', u, v, hcs, _⟩ := iface_of_trod ht hd
      obtain ⟨cs⟩ := cs
      simp only at hcs
      subst hcs
      exact ⟨u, v, by simpa using World.var?_cell hg hvar 0⟩
    · exact ih q hrest h
theorem gES : Tryz.prog.globalNamed "strconv.ErrSyntax" = some 3 := by kernel_rfl
theorem gER : Tryz.prog.globalNamed "strconv.ErrRange" = some 4 := by kernel_rfl
theorem tES : (Tryz.prog.globals[3]?).map (·.type) = some 151 := by kernel_rfl
theorem tER : (Tryz.prog.globals[4]?).map (·.type) = some 151 := by kernel_rfl
theorem errv_of_laid {W : World} {l : List (String × DataW Unit)} (hp : (l.all fun x => x.2.handleName?.isNone) = true) (hs : ("strconv.ErrSyntax", Rows.laid_strconv_ErrSyntax) ∈ l) (hr : ("strconv.ErrRange", Rows.laid_strconv_ErrRange) ∈ l) (h : laidMetH Tryz.prog l W) : ErrV W := by
  rw [MakeChecks.laidMetH_plain _ _ _ hp] at h
  obtain ⟨ps, hl, _⟩ := h
  exact ⟨err_in gES tES Tryz.underlying151 l ps hl hs, err_in gER tER Tryz.underlying151 l ps hl hr⟩
section
variable {H : Type} {enc : TypeId × Value → H} {P : Program} {w : World} {base : Nat} {sp : Nat → Bool} {held : Bool}
theorem trodAll_none {vs : List Value} {ds : List (DataW H)} {ps : List MemPlace} (h : DataW.TrodAll enc P w base sp held [] vs ds ps) : vs = [] ∧ ds = [] ∧ ps = [] := by
  cases vs <;> cases ds <;> simp [DataW.TrodAll] at h
  exact ⟨rfl, rfl, h⟩
theorem trodAll_nil_mk : DataW.TrodAll enc P w base sp held [] [] [] [] := by simp [DataW.TrodAll]
end
end Go.Proofs.YtmbkkjofikijiaaGreatDoor
