/- What the listed table of package internal/strconv holds, read off the row's condition. No other condition. -/
import Derived.Test.YtdjjogcagolcjaaDoorLaid
import Derived.Test.YtdjjogcagolcjaaDoorText
namespace Go.Proofs.YtdjjogcagolcjaaDoor
open Go.ChangeShapes Go.WideShapes Go.ChangeAt Go.RowKit
theorem t10 : (Tryd.prog.globals[2]?).map (·.type) = some 90 := by kernel_rfl
theorem d10 : (Rows.laid_internal_strconv_uint64pow10 : DataW Unit) = Lib.tabData .u64 Lib.pow10Tab := by rfl
theorem tab10_of_laid {W : World} {l : List (String × DataW Unit)} (hp : (l.all fun x => x.2.handleName?.isNone) = true) (hm : ("internal/strconv.uint64pow10", Rows.laid_internal_strconv_uint64pow10) ∈ l) (h : laidMetH Tryd.prog l W) : Tab10 W := by
  rw [MakeChecks.laidMetH_plain _ _ _ hp] at h
  obtain ⟨ps, hl, _⟩ := h
  rw [d10] at hm
  exact tab_in g10 t10 Tryd.underlying90 Tryd.underlying71 (by kernel_rfl) (by kernel_rfl) l ps hl hm
section
variable {H : Type} {enc : TypeId × Value → H} {P : Program} {w : World} {base : Nat} {sp : Nat → Bool} {held : Bool}
theorem trodAll_none {vs : List Value} {ds : List (DataW H)} {ps : List MemPlace} (h : DataW.TrodAll enc P w base sp held [] vs ds ps) : vs = [] ∧ ds = [] ∧ ps = [] := by
  cases vs <;> cases ds <;> simp [DataW.TrodAll] at h
  exact ⟨rfl, rfl, h⟩
theorem trodAll_nil_mk : DataW.TrodAll enc P w base sp held [] [] [] [] := by simp [DataW.TrodAll]
end
end Go.Proofs.YtdjjogcagolcjaaDoor
