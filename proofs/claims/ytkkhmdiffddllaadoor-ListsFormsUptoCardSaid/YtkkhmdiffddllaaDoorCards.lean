/-
  DERIVED. GIVEN WITH THE SEED: THE CARDS: each row of YtkkhmdiffddllaaDoorRows.lean that lists a variable, with what it lists TIED to the program's text (the seventh form; the later family's looks); each row that meets fmt, with fmt's text TOLD by the authors' own Lean function (tested against real Go, not proved from fmt's source: count such statements apart). THE CARD IS WHAT COUNTS. Prove the row's statement (the work); the ties are given (YtkkhmdiffddllaaDoorTie.lean); close each card by the builder's one call (the guide's Derived/Test/ToyasCard.lean, 'card_holds'). Laid BY PROGRAM, IN A SANDBOX (cutbox-door.mjs). By AI agents, Wed Nov 11 2026. No macro, syntax, notation, axiom, sorry.
-/
import Derived.Test.YtkkhmdiffddllaaDoorRows
import GoSem.ClaimSeven
namespace Go.Proofs.YtkkhmdiffddllaaDoor
namespace Rows

/-- THE TIED CARD OF 'waymarklaw09.ListsForms'. -/
def listsFormsCard : Claim7 := { stood := { row := listsFormsRow, standIns := [], harness := (true, "b5535bd7b922862e8c23f127aa2ddaad988d091a9661ef3db26e2f52fdd4127a"), looks := true }, kinds := [], alts := [], laidByText := true, laidKinds := [.data, .data, .data, .sentinel, .sentinel], laidTests := true, laidLooks := .later }
def ListsFormsCardSaid : Prop := Claim7.holds Tryd.pinned (.plain (OpenSpec.ofChange listsFormsSpec)) listsFormsCard

/-- THE TIED CARD OF 'waymarklaw09.ListsInForm'. -/
def listsInFormCard : Claim7 := { stood := { row := listsInFormRow, standIns := [], harness := (true, "b5535bd7b922862e8c23f127aa2ddaad988d091a9661ef3db26e2f52fdd4127a"), looks := true }, kinds := [], alts := [], laidByText := true, laidKinds := [.data, .data, .data, .sentinel, .sentinel], laidTests := true, laidLooks := .later }
def ListsInFormCardSaid : Prop := Claim7.holds Tryd.pinned (.plain (OpenSpec.ofChange listsInFormSpec)) listsInFormCard

/-- THE SECOND FORM's CARD OF 'waymarklaw09.ListsForms'. -/
def listsFormsUptoCard : Claim7 := { stood := { row := listsFormsUptoRow, standIns := [], harness := (true, "b5535bd7b922862e8c23f127aa2ddaad988d091a9661ef3db26e2f52fdd4127a"), looks := true }, kinds := [], alts := [], laidByText := true, laidKinds := [.data, .data, .data, .sentinel, .sentinel], laidTests := true, laidLooks := .later }
def ListsFormsUptoCardSaid : Prop := Claim7.holds Tryd.pinned (.plain (OpenSpec.upto listsFormsSpec)) listsFormsUptoCard

/-- THE SECOND FORM's CARD OF 'waymarklaw09.ListsInForm'. -/
def listsInFormUptoCard : Claim7 := { stood := { row := listsInFormUptoRow, standIns := [], harness := (true, "b5535bd7b922862e8c23f127aa2ddaad988d091a9661ef3db26e2f52fdd4127a"), looks := true }, kinds := [], alts := [], laidByText := true, laidKinds := [.data, .data, .data, .sentinel, .sentinel], laidTests := true, laidLooks := .later }
def ListsInFormUptoCardSaid : Prop := Claim7.holds Tryd.pinned (.plain (OpenSpec.upto listsInFormSpec)) listsInFormUptoCard
end Rows
end Go.Proofs.YtkkhmdiffddllaaDoor
