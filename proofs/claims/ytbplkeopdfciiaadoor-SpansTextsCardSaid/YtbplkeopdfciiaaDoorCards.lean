/-
  DERIVED. GIVEN WITH THE SEED: THE CARDS: each row of YtbplkeopdfciiaaDoorRows.lean that lists a variable, with what it lists TIED to the program's text (the seventh form; the later family's looks); each row that meets fmt, with fmt's text TOLD by the authors' own Lean function (tested against real Go, not proved from fmt's source: count such statements apart). THE CARD IS WHAT COUNTS. Prove the row's statement (the work); the ties are given (YtbplkeopdfciiaaDoorTie.lean); close each card by the builder's one call (the guide's Derived/Test/ToyasCard.lean, 'card_holds'). Laid BY PROGRAM, IN A SANDBOX (cutbox-door.mjs). By AI agents, Wed Nov 11 2026. No macro, syntax, notation, axiom, sorry.
-/
import Derived.Test.YtbplkeopdfciiaaDoorRows
import GoSem.ClaimSeven
namespace Go.Proofs.YtbplkeopdfciiaaDoor
namespace Rows

/-- THE TIED CARD OF 'waymarklaw02.SpansTexts'. -/
def spansTextsCard : Claim7 := { stood := { row := spansTextsRow, standIns := [], harness := (true, "d4022cd474af6fcde7c0e98483ddbc0972dba01624622b6dd458b1f4fba25b93"), looks := false }, kinds := [], alts := [], laidByText := true, laidKinds := [.data, .data, .data, .data, .pinned], laidTests := true, laidLooks := .later }
def SpansTextsCardSaid : Prop := Claim7.holds Tryd.pinned (.plain (OpenSpec.ofChange spansTextsSpec)) spansTextsCard

/-- THE TIED CARD OF 'waymarklaw02.SpansBack'. -/
def spansBackCard : Claim7 := { stood := { row := spansBackRow, standIns := [], harness := (true, "d4022cd474af6fcde7c0e98483ddbc0972dba01624622b6dd458b1f4fba25b93"), looks := false }, kinds := [], alts := [], laidByText := true, laidKinds := [.data, .data, .data, .data, .pinned], laidTests := true, laidLooks := .later }
def SpansBackCardSaid : Prop := Claim7.holds Tryd.pinned (.plain (OpenSpec.ofChange spansBackSpec)) spansBackCard

/-- THE SECOND FORM's CARD OF 'waymarklaw02.SpansTexts'. -/
def spansTextsUptoCard : Claim7 := { stood := { row := spansTextsUptoRow, standIns := [], harness := (true, "d4022cd474af6fcde7c0e98483ddbc0972dba01624622b6dd458b1f4fba25b93"), looks := false }, kinds := [], alts := [], laidByText := true, laidKinds := [.data, .data, .data, .data, .pinned], laidTests := true, laidLooks := .later }
def SpansTextsUptoCardSaid : Prop := Claim7.holds Tryd.pinned (.plain (OpenSpec.upto spansTextsSpec)) spansTextsUptoCard

/-- THE SECOND FORM's CARD OF 'waymarklaw02.SpansBack'. -/
def spansBackUptoCard : Claim7 := { stood := { row := spansBackUptoRow, standIns := [], harness := (true, "d4022cd474af6fcde7c0e98483ddbc0972dba01624622b6dd458b1f4fba25b93"), looks := false }, kinds := [], alts := [], laidByText := true, laidKinds := [.data, .data, .data, .data, .pinned], laidTests := true, laidLooks := .later }
def SpansBackUptoCardSaid : Prop := Claim7.holds Tryd.pinned (.plain (OpenSpec.upto spansBackSpec)) spansBackUptoCard
end Rows
end Go.Proofs.YtbplkeopdfciiaaDoor
