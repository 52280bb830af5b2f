/-
  DERIVED. GIVEN WITH THE SEED: THE CARDS: each row of YtdladbdcpnkggaaGreatDoorRows.lean that lists a variable, with what it lists TIED to the program's text (the seventh form; the later family's looks); each row that meets fmt, with fmt's text TOLD by the authors' own Lean function (tested against real Go, not proved from fmt's source: count such statements apart). THE CARD IS WHAT COUNTS. Prove the row's statement (the work); the ties are given (YtdladbdcpnkggaaGreatDoorTie.lean); close each card by the builder's one call (the guide's Derived/Test/ToyasCard.lean, 'card_holds'). Laid BY PROGRAM, IN A SANDBOX (cutbox-door.mjs). By AI agents, Wed Nov 11 2026. No macro, syntax, notation, axiom, sorry.
-/
import Derived.Test.YtdladbdcpnkggaaGreatDoorRows
import GoSem.ClaimSeven
namespace Go.Proofs.YtdladbdcpnkggaaGreatDoor
namespace Rows

/-- THE TIED CARD OF 'waymarklaw08.RoutesNames'. -/
def routesNamesCard : Claim7 := { stood := { row := routesNamesRow, standIns := [], harness := (true, "9628e87e927df0fc43350c371e3e214ba97d7035520727eb4d842f0a8b251752"), looks := false }, kinds := [], alts := [], laidByText := true, laidKinds := [.data, .data, .data, .data, .data, .pinned], laidTests := true, laidLooks := .later }
def RoutesNamesCardSaid : Prop := Claim7.holds Tryz.pinned (.plain (OpenSpec.ofChange routesNamesSpec)) routesNamesCard

/-- THE SECOND FORM's CARD OF 'waymarklaw08.RoutesNames'. -/
def routesNamesUptoCard : Claim7 := { stood := { row := routesNamesUptoRow, standIns := [], harness := (true, "9628e87e927df0fc43350c371e3e214ba97d7035520727eb4d842f0a8b251752"), looks := false }, kinds := [], alts := [], laidByText := true, laidKinds := [.data, .data, .data, .data, .data, .pinned], laidTests := true, laidLooks := .later }
def RoutesNamesUptoCardSaid : Prop := Claim7.holds Tryz.pinned (.plain (OpenSpec.upto routesNamesSpec)) routesNamesUptoCard
end Rows
end Go.Proofs.YtdladbdcpnkggaaGreatDoor
