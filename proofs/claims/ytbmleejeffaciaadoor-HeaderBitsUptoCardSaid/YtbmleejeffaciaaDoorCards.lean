/-
  DERIVED. GIVEN WITH THE SEED: THE CARDS: each row of YtbmleejeffaciaaDoorRows.lean that lists a variable, with what it lists TIED to the program's text (the seventh form; the later family's looks); each row that meets fmt, with fmt's text TOLD by the authors' own Lean function (tested against real Go, not proved from fmt's source: count such statements apart). THE CARD IS WHAT COUNTS. Prove the row's statement (the work); the ties are given (YtbmleejeffaciaaDoorTie.lean); close each card by the builder's one call (the guide's Derived/Test/ToyasCard.lean, 'card_holds'). Laid BY PROGRAM, IN A SANDBOX (cutbox-door.mjs). By AI agents, Wed Nov 11 2026. No macro, syntax, notation, axiom, sorry.
-/
import Derived.Test.YtbmleejeffaciaaDoorRows
import GoSem.ClaimSeven
namespace Go.Proofs.YtbmleejeffaciaaDoor
namespace Rows

/-- THE TIED CARD OF 'waymarklaw03.HeaderNames'. -/
def headerNamesCard : Claim7 := { stood := { row := headerNamesRow, standIns := [], harness := (true, "5748a994682993c256abe781b46e954d00b3640fd8575faf2c4639b515088803"), looks := true }, kinds := [], alts := [], laidByText := true, laidKinds := [.data, .data, .data, .sentinel, .sentinel], laidTests := true, laidLooks := .later }
def HeaderNamesCardSaid : Prop := Claim7.holds Tryd.pinned (.plain (OpenSpec.ofChange headerNamesSpec)) headerNamesCard

/-- THE TIED CARD OF 'waymarklaw03.HeaderBits'. -/
def headerBitsCard : Claim7 := { stood := { row := headerBitsRow, standIns := [], harness := (true, "5748a994682993c256abe781b46e954d00b3640fd8575faf2c4639b515088803"), looks := true }, kinds := [], alts := [], laidByText := true, laidKinds := [.data, .data, .data, .sentinel, .sentinel], laidTests := true, laidLooks := .later }
def HeaderBitsCardSaid : Prop := Claim7.holds Tryd.pinned (.plain (OpenSpec.ofChange headerBitsSpec)) headerBitsCard

/-- THE TIED CARD OF 'waymarklaw03.HeaderBack'. -/
def headerBackCard : Claim7 := { stood := { row := headerBackRow, standIns := [], harness := (true, "5748a994682993c256abe781b46e954d00b3640fd8575faf2c4639b515088803"), looks := true }, kinds := [], alts := [], laidByText := true, laidKinds := [.data, .data, .data, .sentinel, .sentinel], laidTests := true, laidLooks := .later }
def HeaderBackCardSaid : Prop := Claim7.holds Tryd.pinned (.plain (OpenSpec.ofChange headerBackSpec)) headerBackCard

/-- THE TIED CARD OF 'waymarklaw03.HeaderOrder'. -/
def headerOrderCard : Claim7 := { stood := { row := headerOrderRow, standIns := [], harness := (true, "5748a994682993c256abe781b46e954d00b3640fd8575faf2c4639b515088803"), looks := true }, kinds := [], alts := [], laidByText := true, laidKinds := [.data, .data, .data, .sentinel, .sentinel], laidTests := true, laidLooks := .later }
def HeaderOrderCardSaid : Prop := Claim7.holds Tryd.pinned (.plain (OpenSpec.ofChange headerOrderSpec)) headerOrderCard

/-- THE SECOND FORM's CARD OF 'waymarklaw03.HeaderNames'. -/
def headerNamesUptoCard : Claim7 := { stood := { row := headerNamesUptoRow, standIns := [], harness := (true, "5748a994682993c256abe781b46e954d00b3640fd8575faf2c4639b515088803"), looks := true }, kinds := [], alts := [], laidByText := true, laidKinds := [.data, .data, .data, .sentinel, .sentinel], laidTests := true, laidLooks := .later }
def HeaderNamesUptoCardSaid : Prop := Claim7.holds Tryd.pinned (.plain (OpenSpec.upto headerNamesSpec)) headerNamesUptoCard

/-- THE SECOND FORM's CARD OF 'waymarklaw03.HeaderBits'. -/
def headerBitsUptoCard : Claim7 := { stood := { row := headerBitsUptoRow, standIns := [], harness := (true, "5748a994682993c256abe781b46e954d00b3640fd8575faf2c4639b515088803"), looks := true }, kinds := [], alts := [], laidByText := true, laidKinds := [.data, .data, .data, .sentinel, .sentinel], laidTests := true, laidLooks := .later }
def HeaderBitsUptoCardSaid : Prop := Claim7.holds Tryd.pinned (.plain (OpenSpec.upto headerBitsSpec)) headerBitsUptoCard

/-- THE SECOND FORM's CARD OF 'waymarklaw03.HeaderBack'. -/
def headerBackUptoCard : Claim7 := { stood := { row := headerBackUptoRow, standIns := [], harness := (true, "5748a994682993c256abe781b46e954d00b3640fd8575faf2c4639b515088803"), looks := true }, kinds := [], alts := [], laidByText := true, laidKinds := [.data, .data, .data, .sentinel, .sentinel], laidTests := true, laidLooks := .later }
def HeaderBackUptoCardSaid : Prop := Claim7.holds Tryd.pinned (.plain (OpenSpec.upto headerBackSpec)) headerBackUptoCard

/-- THE SECOND FORM's CARD OF 'waymarklaw03.HeaderOrder'. -/
def headerOrderUptoCard : Claim7 := { stood := { row := headerOrderUptoRow, standIns := [], harness := (true, "5748a994682993c256abe781b46e954d00b3640fd8575faf2c4639b515088803"), looks := true }, kinds := [], alts := [], laidByText := true, laidKinds := [.data, .data, .data, .sentinel, .sentinel], laidTests := true, laidLooks := .later }
def HeaderOrderUptoCardSaid : Prop := Claim7.holds Tryd.pinned (.plain (OpenSpec.upto headerOrderSpec)) headerOrderUptoCard
end Rows
end Go.Proofs.YtbmleejeffaciaaDoor
