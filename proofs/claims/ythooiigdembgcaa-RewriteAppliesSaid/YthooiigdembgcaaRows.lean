/-
  No cell of these rows narrows 'for every input' (looked for: loops, veiled, ifaces, maps, wideKeys, modest, calm, conditions, laid).
  DERIVED. THE GIVEN ROWS OF THIS SEAT. 2 by the template 'for every input the law returns true; each argument reads behind the call as it read before'; 0 by the template 'total and deterministic' (their statements: YthooiigdembgcaaTotals.lean).
  GIVEN WITH THE SEED: the statements are not yours to turn. If you find one false, say at which input.
  Laid BY PROGRAM, IN A SANDBOX (cutbox-rows.mjs): the forced cells as the released guide's own fill.sh prints them over the translation 9395fc1046362afc… (all of the seat's roots in one cut). By AI agents, Wed Nov 11 2026. No macro, syntax, notation, axiom, sorry.
-/
import Derived.Test.YthooiigdembgcaaChecked
import GoSem.Claim
import GoSem.ClaimJoined
import GoSem.ClaimMapViews
import Derived.JoinedTies
import Derived.KernelRfl
namespace Go.Proofs.Ythooiigdembgcaa
/- THE CELL 'sum', in the pinned program and in every row, IS THE sha256 OF THE DUMP (.gsa) THAT YthooiigdembgcaaProg.lean LOADS. Nothing in Lean hashes anything: it is a label: what it is worth is what the hold of that sum in a sandbox is worth. -/
noncomputable def Try.pinned : Pinned := { name := "ythooiigdembgcaa", sum := "9395fc1046362afc6283f2b3126537dc98b94e0fab601a2d25d901b8b6784166", checked := Try.checked }
namespace Rows
def none {H : Type} : Left H := { results := [], args := [] }

/-- 'waymarklaw10.FilterDecides': WHATEVER THE INPUT: true; the input reads as it did. -/
def filterDecidesSpec : ChangeSpec := { name := "filterDecides", fn := fun _ => fun
  | [d1, d2, d3] => { results := [.lit (.bool true)], args := [d1, d2, d3] }
  | _ => none }
def filterDecidesRow : OpenClaim := { program := "ythooiigdembgcaa", sum := "9395fc1046362afc6283f2b3126537dc98b94e0fab601a2d25d901b8b6784166", func := "waymark/waymarklaw10.FilterDecides", spec := "filterDecides", apart := false }
def FilterDecidesSaid : Prop := filterDecidesRow.holds Try.pinned (OpenSpec.ofChange filterDecidesSpec)

/-- ITS FALSE NEIGHBOUR: 'it returns false'. Refute it at one input. -/
def filterDecidesWrong : ChangeSpec := { name := "filterDecides", fn := fun _ => fun
  | [d1, d2, d3] => { results := [.lit (.bool false)], args := [d1, d2, d3] }
  | _ => none }
def FilterDecidesWrongFalsely : Prop := filterDecidesRow.holds Try.pinned (OpenSpec.ofChange filterDecidesWrong)

/-- 'waymarklaw11.RewriteApplies': WHATEVER THE INPUT: true; the input reads as it did. -/
def rewriteAppliesSpec : ChangeSpec := { name := "rewriteApplies", fn := fun _ => fun
  | [d1, d2, d3, d4, d5] => { results := [.lit (.bool true)], args := [d1, d2, d3, d4, d5] }
  | _ => none }
def rewriteAppliesRow : OpenClaim := { program := "ythooiigdembgcaa", sum := "9395fc1046362afc6283f2b3126537dc98b94e0fab601a2d25d901b8b6784166", func := "waymark/waymarklaw11.RewriteApplies", spec := "rewriteApplies", unfollowed := true, recurses := true, apart := false }
def RewriteAppliesSaid : Prop := rewriteAppliesRow.holds Try.pinned (OpenSpec.ofChange rewriteAppliesSpec)

/-- ITS FALSE NEIGHBOUR: 'it returns false'. Refute it at one input. -/
def rewriteAppliesWrong : ChangeSpec := { name := "rewriteApplies", fn := fun _ => fun
  | [d1, d2, d3, d4, d5] => { results := [.lit (.bool false)], args := [d1, d2, d3, d4, d5] }
  | _ => none }
def RewriteAppliesWrongFalsely : Prop := rewriteAppliesRow.holds Try.pinned (OpenSpec.ofChange rewriteAppliesWrong)

/- THE SECOND FORM. 'bulk': how many values and letters a reading holds, each counted each time it is reached (what is shared counts as often as it is met; a slice's spare places count too). A statement '..UptoSaid' is the law's where the arguments, and the package variables that the reading takes, are together of bulk at most 1048576: NARROWER than '..Said'. Prove '..Said' where nothing that the law and all that it calls make is longer than what came in: it says more and counts as full. Else prove '..UptoSaid'. A law counts once. -/
mutual
def uptoBulk {H : Type} : DataW H → Nat
  | .lit (.string bytes) => bytes.length + 1
  | .lit _ => 1
  | .nil => 1
  | .ptr d => uptoBulk d + 1
  | .slice elems spare => uptoBulkAll elems + uptoBulkAll spare + 1
  | .agg parts => uptoBulkAll parts + 1
  | .iface _ d => uptoBulk d + 1
  | .map entries => uptoBulkEntries entries + 1
  | .held _ => 1
def uptoBulkAll {H : Type} : List (DataW H) → Nat
  | [] => 0
  | d :: r => uptoBulk d + uptoBulkAll r
def uptoBulkEntries {H : Type} : List (Lit × DataW H) → Nat
  | [] => 0
  | x :: r => uptoBulkEntry x + uptoBulkEntries r
def uptoBulkEntry {H : Type} : Lit × DataW H → Nat
  | (.string bytes, d) => bytes.length + uptoBulk d + 1
  | (_, d) => uptoBulk d + 1
 end
def uptoSmall : (H : Type) → List (DataW H) → Bool := fun _ ds => decide (uptoBulkAll ds ≤ 1048576)
def OpenSpec.upto (s : _root_.Go.ChangeSpec) : _root_.Go.OpenSpec := { _root_.Go.OpenSpec.ofChange s with cond := some uptoSmall }

/-- 'waymarklaw10.FilterDecides', WHERE WHAT IT READS IS OF BULK AT MOST 1048576: true; the input reads as it did. -/
def filterDecidesUptoRow : OpenClaim := { program := "ythooiigdembgcaa", sum := "9395fc1046362afc6283f2b3126537dc98b94e0fab601a2d25d901b8b6784166", func := "waymark/waymarklaw10.FilterDecides", spec := "filterDecides", apart := false, narrowed := true }
def FilterDecidesUptoSaid : Prop := filterDecidesUptoRow.holds Try.pinned (OpenSpec.upto filterDecidesSpec)

/-- 'waymarklaw11.RewriteApplies', WHERE WHAT IT READS IS OF BULK AT MOST 1048576: true; the input reads as it did. -/
def rewriteAppliesUptoRow : OpenClaim := { program := "ythooiigdembgcaa", sum := "9395fc1046362afc6283f2b3126537dc98b94e0fab601a2d25d901b8b6784166", func := "waymark/waymarklaw11.RewriteApplies", spec := "rewriteApplies", unfollowed := true, recurses := true, apart := false, narrowed := true }
def RewriteAppliesUptoSaid : Prop := rewriteAppliesUptoRow.holds Try.pinned (OpenSpec.upto rewriteAppliesSpec)

end Rows
end Go.Proofs.Ythooiigdembgcaa
