/-
  DERIVED. GIVEN WITH THE SEED: THE CARDS: each row of YtmbkkjofikijiaaGreatDoorRows.lean that lists a variable, with what it lists TIED to the program's text (the seventh form; the later family's looks); each row that meets fmt, with fmt's text TOLD by the authors' own Lean function (tested against real Go, not proved from fmt's source: count such statements apart). THE CARD IS WHAT COUNTS. Prove the row's statement (the work); the ties are given (YtmbkkjofikijiaaGreatDoorTie.lean); close each card by the builder's one call (the guide's Derived/Test/ToyasCard.lean, 'card_holds'). Laid BY PROGRAM, IN A SANDBOX (cutbox-door.mjs). By AI agents, Wed Nov 11 2026. No macro, syntax, notation, axiom, sorry.
-/
import Derived.Test.YtmbkkjofikijiaaGreatDoorRows
import GoSem.ClaimSeven
namespace Go.Proofs.YtmbkkjofikijiaaGreatDoor
namespace Rows

/-- THE TIED CARD OF 'waymarklaw08.RoutesTexts'. -/
def routesTextsCard : Claim7 := { stood := { row := routesTextsRow, standIns := [], harness := (true, "3496e4391a33a5f1cadb0d9afa4e237776c8c0851adbdaee986fa17fc9e3507c"), looks := true }, kinds := [], alts := [], laidByText := true, laidKinds := [.data, .data, .data, .data, .sentinel, .sentinel, .data, .pinned], laidTests := true, laidLooks := .later }
def RoutesTextsCardSaid : Prop := Claim7.holds Tryz.pinned (.plain (OpenSpec.ofChange routesTextsSpec)) routesTextsCard

/-- THE TIED CARD OF 'waymarklaw08.RoutesBack'. -/
def routesBackCard : Claim7 := { stood := { row := routesBackRow, standIns := [], harness := (true, "3496e4391a33a5f1cadb0d9afa4e237776c8c0851adbdaee986fa17fc9e3507c"), looks := true }, kinds := [], alts := [], laidByText := true, laidKinds := [.data, .data, .data, .data, .sentinel, .sentinel, .data, .pinned], laidTests := true, laidLooks := .later }
def RoutesBackCardSaid : Prop := Claim7.holds Tryz.pinned (.plain (OpenSpec.ofChange routesBackSpec)) routesBackCard

/-- THE TIED CARD OF 'waymarklaw14.TreeNames'. -/
def treeNamesCard : Claim7 := { stood := { row := treeNamesRow, standIns := [], harness := (true, "3496e4391a33a5f1cadb0d9afa4e237776c8c0851adbdaee986fa17fc9e3507c"), looks := true }, kinds := [], alts := [], laidByText := true, laidKinds := [.data, .data, .data], laidTests := true, laidLooks := .later }
def TreeNamesCardSaid : Prop := Claim7.holds Tryz.pinned (.plain (OpenSpec.ofChange treeNamesSpec)) treeNamesCard

/-- THE SECOND FORM's CARD OF 'waymarklaw08.RoutesTexts'. -/
def routesTextsUptoCard : Claim7 := { stood := { row := routesTextsUptoRow, standIns := [], harness := (true, "3496e4391a33a5f1cadb0d9afa4e237776c8c0851adbdaee986fa17fc9e3507c"), looks := true }, kinds := [], alts := [], laidByText := true, laidKinds := [.data, .data, .data, .data, .sentinel, .sentinel, .data, .pinned], laidTests := true, laidLooks := .later }
def RoutesTextsUptoCardSaid : Prop := Claim7.holds Tryz.pinned (.plain (OpenSpec.upto routesTextsSpec)) routesTextsUptoCard

/-- THE SECOND FORM's CARD OF 'waymarklaw08.RoutesBack'. -/
def routesBackUptoCard : Claim7 := { stood := { row := routesBackUptoRow, standIns := [], harness := (true, "3496e4391a33a5f1cadb0d9afa4e237776c8c0851adbdaee986fa17fc9e3507c"), looks := true }, kinds := [], alts := [], laidByText := true, laidKinds := [.data, .data, .data, .data, .sentinel, .sentinel, .data, .pinned], laidTests := true, laidLooks := .later }
def RoutesBackUptoCardSaid : Prop := Claim7.holds Tryz.pinned (.plain (OpenSpec.upto routesBackSpec)) routesBackUptoCard

/-- THE SECOND FORM's CARD OF 'waymarklaw14.TreeNames'. -/
def treeNamesUptoCard : Claim7 := { stood := { row := treeNamesUptoRow, standIns := [], harness := (true, "3496e4391a33a5f1cadb0d9afa4e237776c8c0851adbdaee986fa17fc9e3507c"), looks := true }, kinds := [], alts := [], laidByText := true, laidKinds := [.data, .data, .data], laidTests := true, laidLooks := .later }
def TreeNamesUptoCardSaid : Prop := Claim7.holds Tryz.pinned (.plain (OpenSpec.upto treeNamesSpec)) treeNamesUptoCard
end Rows
end Go.Proofs.YtmbkkjofikijiaaGreatDoor
