/-
  DERIVED. GIVEN WITH THE SEED: THE CARDS: each row of YtdefeahjchbifaaDoorRows.lean that lists a variable, with what it lists TIED to the program's text (the seventh form; the later family's looks); each row that meets fmt, with fmt's text TOLD by the authors' own Lean function (tested against real Go, not proved from fmt's source: count such statements apart). THE CARD IS WHAT COUNTS. Prove the row's statement (the work); the ties are given (YtdefeahjchbifaaDoorTie.lean); close each card by the builder's one call (the guide's Derived/Test/ToyasCard.lean, 'card_holds'). Laid BY PROGRAM, IN A SANDBOX (cutbox-door.mjs). By AI agents, Wed Nov 11 2026. No macro, syntax, notation, axiom, sorry.
-/
import Derived.Test.YtdefeahjchbifaaDoorRows
import GoSem.ClaimSeven
namespace Go.Proofs.YtdefeahjchbifaaDoor
namespace Rows

/-- THE TIED CARD OF 'waymarklaw09.ListsForms'. -/
def listsFormsCard : Claim7 := { stood := { row := listsFormsRow, standIns := [], harness := (true, "e0784e54f2558732635c842c38f194f8799acba6c89ac3018d3dac8077471abe"), looks := true }, kinds := [], alts := [], laidByText := true, laidKinds := [.data, .data, .data, .sentinel, .sentinel], laidTests := true, laidLooks := .later }
def ListsFormsCardSaid : Prop := Claim7.holds Tryd.pinned (.plain (OpenSpec.ofChange listsFormsSpec)) listsFormsCard

/-- THE TIED CARD OF 'waymarklaw09.ListsFirst'. -/
def listsFirstCard : Claim7 := { stood := { row := listsFirstRow, standIns := [], harness := (true, "e0784e54f2558732635c842c38f194f8799acba6c89ac3018d3dac8077471abe"), looks := true }, kinds := [], alts := [], laidByText := true, laidKinds := [.data, .data, .data, .sentinel, .sentinel], laidTests := true, laidLooks := .later }
def ListsFirstCardSaid : Prop := Claim7.holds Tryd.pinned (.plain (OpenSpec.ofChange listsFirstSpec)) listsFirstCard

/-- THE TIED CARD OF 'waymarklaw09.ListsInForm'. -/
def listsInFormCard : Claim7 := { stood := { row := listsInFormRow, standIns := [], harness := (true, "e0784e54f2558732635c842c38f194f8799acba6c89ac3018d3dac8077471abe"), looks := true }, kinds := [], alts := [], laidByText := true, laidKinds := [.data, .data, .data, .sentinel, .sentinel], laidTests := true, laidLooks := .later }
def ListsInFormCardSaid : Prop := Claim7.holds Tryd.pinned (.plain (OpenSpec.ofChange listsInFormSpec)) listsInFormCard

/-- THE SECOND FORM's CARD OF 'waymarklaw09.ListsForms'. -/
def listsFormsUptoCard : Claim7 := { stood := { row := listsFormsUptoRow, standIns := [], harness := (true, "e0784e54f2558732635c842c38f194f8799acba6c89ac3018d3dac8077471abe"), looks := true }, kinds := [], alts := [], laidByText := true, laidKinds := [.data, .data, .data, .sentinel, .sentinel], laidTests := true, laidLooks := .later }
def ListsFormsUptoCardSaid : Prop := Claim7.holds Tryd.pinned (.plain (OpenSpec.upto listsFormsSpec)) listsFormsUptoCard

/-- THE SECOND FORM's CARD OF 'waymarklaw09.ListsFirst'. -/
def listsFirstUptoCard : Claim7 := { stood := { row := listsFirstUptoRow, standIns := [], harness := (true, "e0784e54f2558732635c842c38f194f8799acba6c89ac3018d3dac8077471abe"), looks := true }, kinds := [], alts := [], laidByText := true, laidKinds := [.data, .data, .data, .sentinel, .sentinel], laidTests := true, laidLooks := .later }
def ListsFirstUptoCardSaid : Prop := Claim7.holds Tryd.pinned (.plain (OpenSpec.upto listsFirstSpec)) listsFirstUptoCard

/-- THE SECOND FORM's CARD OF 'waymarklaw09.ListsInForm'. -/
def listsInFormUptoCard : Claim7 := { stood := { row := listsInFormUptoRow, standIns := [], harness := (true, "e0784e54f2558732635c842c38f194f8799acba6c89ac3018d3dac8077471abe"), looks := true }, kinds := [], alts := [], laidByText := true, laidKinds := [.data, .data, .data, .sentinel, .sentinel], laidTests := true, laidLooks := .later }
def ListsInFormUptoCardSaid : Prop := Claim7.holds Tryd.pinned (.plain (OpenSpec.upto listsInFormSpec)) listsInFormUptoCard
end Rows
end Go.Proofs.YtdefeahjchbifaaDoor
