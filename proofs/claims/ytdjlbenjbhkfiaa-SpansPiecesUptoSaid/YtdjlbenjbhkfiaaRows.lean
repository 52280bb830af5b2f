/-
  No cell of these rows narrows 'for every input' (looked for: loops, veiled, ifaces, maps, wideKeys, modest, calm, conditions, laid).
  DERIVED. THE GIVEN ROWS OF THIS SEAT. 6 by the template 'for every input the law returns true; each argument reads behind the call as it read before'; 0 by the template 'total and deterministic' (their statements: YtdjlbenjbhkfiaaTotals.lean).
  GIVEN WITH THE SEED: the statements are not yours to turn. If you find one false, say at which input.
  Laid BY PROGRAM, IN A SANDBOX (cutbox-rows.mjs): the forced cells as the released guide's own fill.sh prints them over the translation 15fc120a9f4255d0… (all of the seat's roots in one cut). By AI agents, Wed Nov 11 2026. No macro, syntax, notation, axiom, sorry.
-/
import Derived.Test.YtdjlbenjbhkfiaaChecked
import GoSem.Claim
import GoSem.ClaimJoined
import GoSem.ClaimMapViews
import Derived.JoinedTies
import Derived.KernelRfl
namespace Go.Proofs.Ytdjlbenjbhkfiaa
/- THE CELL 'sum', in the pinned program and in every row, IS THE sha256 OF THE DUMP (.gsa) THAT YtdjlbenjbhkfiaaProg.lean LOADS. Nothing in Lean hashes anything: it is a label: what it is worth is what the hold of that sum in a sandbox is worth. -/
noncomputable def Try.pinned : Pinned := { name := "ytdjlbenjbhkfiaa", sum := "15fc120a9f4255d044585dced5a5d8b29ad58b5fd6d4ec2cd3da781fc5ab6052", checked := Try.checked }
namespace Rows
def none {H : Type} : Left H := { results := [], args := [] }

/-- 'waymarklaw02.SpansSets': WHATEVER THE INPUT: true; the input reads as it did. -/
def spansSetsSpec : ChangeSpec := { name := "spansSets", fn := fun _ => fun
  | [d1, d2, d3, d4] => { results := [.lit (.bool true)], args := [d1, d2, d3, d4] }
  | _ => none }
def spansSetsRow : OpenClaim := { program := "ytdjlbenjbhkfiaa", sum := "15fc120a9f4255d044585dced5a5d8b29ad58b5fd6d4ec2cd3da781fc5ab6052", func := "waymark/waymarklaw02.SpansSets", spec := "spansSets", unfollowed := true, recurses := true, apart := false }
def SpansSetsSaid : Prop := spansSetsRow.holds Try.pinned (OpenSpec.ofChange spansSetsSpec)

/-- ITS FALSE NEIGHBOUR: 'it returns false'. Refute it at one input. -/
def spansSetsWrong : ChangeSpec := { name := "spansSets", fn := fun _ => fun
  | [d1, d2, d3, d4] => { results := [.lit (.bool false)], args := [d1, d2, d3, d4] }
  | _ => none }
def SpansSetsWrongFalsely : Prop := spansSetsRow.holds Try.pinned (OpenSpec.ofChange spansSetsWrong)

/-- 'waymarklaw02.SpansAsks': WHATEVER THE INPUT: true; the input reads as it did. -/
def spansAsksSpec : ChangeSpec := { name := "spansAsks", fn := fun _ => fun
  | [d1, d2] => { results := [.lit (.bool true)], args := [d1, d2] }
  | _ => none }
def spansAsksRow : OpenClaim := { program := "ytdjlbenjbhkfiaa", sum := "15fc120a9f4255d044585dced5a5d8b29ad58b5fd6d4ec2cd3da781fc5ab6052", func := "waymark/waymarklaw02.SpansAsks", spec := "spansAsks", unfollowed := true, recurses := true, apart := false }
def SpansAsksSaid : Prop := spansAsksRow.holds Try.pinned (OpenSpec.ofChange spansAsksSpec)

/-- ITS FALSE NEIGHBOUR: 'it returns false'. Refute it at one input. -/
def spansAsksWrong : ChangeSpec := { name := "spansAsks", fn := fun _ => fun
  | [d1, d2] => { results := [.lit (.bool false)], args := [d1, d2] }
  | _ => none }
def SpansAsksWrongFalsely : Prop := spansAsksRow.holds Try.pinned (OpenSpec.ofChange spansAsksWrong)

/-- 'waymarklaw02.SpansEach': WHATEVER THE INPUT: true; the input reads as it did. -/
def spansEachSpec : ChangeSpec := { name := "spansEach", fn := fun _ => fun
  | [d1, d2] => { results := [.lit (.bool true)], args := [d1, d2] }
  | _ => none }
def spansEachRow : OpenClaim := { program := "ytdjlbenjbhkfiaa", sum := "15fc120a9f4255d044585dced5a5d8b29ad58b5fd6d4ec2cd3da781fc5ab6052", func := "waymark/waymarklaw02.SpansEach", spec := "spansEach", unfollowed := true, recurses := true, apart := false }
def SpansEachSaid : Prop := spansEachRow.holds Try.pinned (OpenSpec.ofChange spansEachSpec)

/-- ITS FALSE NEIGHBOUR: 'it returns false'. Refute it at one input. -/
def spansEachWrong : ChangeSpec := { name := "spansEach", fn := fun _ => fun
  | [d1, d2] => { results := [.lit (.bool false)], args := [d1, d2] }
  | _ => none }
def SpansEachWrongFalsely : Prop := spansEachRow.holds Try.pinned (OpenSpec.ofChange spansEachWrong)

/-- 'waymarklaw02.SpansPieces': WHATEVER THE INPUT: true; the input reads as it did. -/
def spansPiecesSpec : ChangeSpec := { name := "spansPieces", fn := fun _ => fun
  | [d1, d2] => { results := [.lit (.bool true)], args := [d1, d2] }
  | _ => none }
def spansPiecesRow : OpenClaim := { program := "ytdjlbenjbhkfiaa", sum := "15fc120a9f4255d044585dced5a5d8b29ad58b5fd6d4ec2cd3da781fc5ab6052", func := "waymark/waymarklaw02.SpansPieces", spec := "spansPieces", unfollowed := true, recurses := true, apart := false }
def SpansPiecesSaid : Prop := spansPiecesRow.holds Try.pinned (OpenSpec.ofChange spansPiecesSpec)

/-- ITS FALSE NEIGHBOUR: 'it returns false'. Refute it at one input. -/
def spansPiecesWrong : ChangeSpec := { name := "spansPieces", fn := fun _ => fun
  | [d1, d2] => { results := [.lit (.bool false)], args := [d1, d2] }
  | _ => none }
def SpansPiecesWrongFalsely : Prop := spansPiecesRow.holds Try.pinned (OpenSpec.ofChange spansPiecesWrong)

/-- 'waymarklaw02.SpansTruths': WHATEVER THE INPUT: true; the input reads as it did. -/
def spansTruthsSpec : ChangeSpec := { name := "spansTruths", fn := fun _ => fun
  | [d1, d2, d3, d4] => { results := [.lit (.bool true)], args := [d1, d2, d3, d4] }
  | _ => none }
def spansTruthsRow : OpenClaim := { program := "ytdjlbenjbhkfiaa", sum := "15fc120a9f4255d044585dced5a5d8b29ad58b5fd6d4ec2cd3da781fc5ab6052", func := "waymark/waymarklaw02.SpansTruths", spec := "spansTruths", unfollowed := true, recurses := true, apart := false }
def SpansTruthsSaid : Prop := spansTruthsRow.holds Try.pinned (OpenSpec.ofChange spansTruthsSpec)

/-- ITS FALSE NEIGHBOUR: 'it returns false'. Refute it at one input. -/
def spansTruthsWrong : ChangeSpec := { name := "spansTruths", fn := fun _ => fun
  | [d1, d2, d3, d4] => { results := [.lit (.bool false)], args := [d1, d2, d3, d4] }
  | _ => none }
def SpansTruthsWrongFalsely : Prop := spansTruthsRow.holds Try.pinned (OpenSpec.ofChange spansTruthsWrong)

/-- 'waymarklaw02.SpansCut': WHATEVER THE INPUT: true; the input reads as it did. -/
def spansCutSpec : ChangeSpec := { name := "spansCut", fn := fun _ => fun
  | [d1, d2, d3] => { results := [.lit (.bool true)], args := [d1, d2, d3] }
  | _ => none }
def spansCutRow : OpenClaim := { program := "ytdjlbenjbhkfiaa", sum := "15fc120a9f4255d044585dced5a5d8b29ad58b5fd6d4ec2cd3da781fc5ab6052", func := "waymark/waymarklaw02.SpansCut", spec := "spansCut", unfollowed := true, recurses := true, apart := false }
def SpansCutSaid : Prop := spansCutRow.holds Try.pinned (OpenSpec.ofChange spansCutSpec)

/-- ITS FALSE NEIGHBOUR: 'it returns false'. Refute it at one input. -/
def spansCutWrong : ChangeSpec := { name := "spansCut", fn := fun _ => fun
  | [d1, d2, d3] => { results := [.lit (.bool false)], args := [d1, d2, d3] }
  | _ => none }
def SpansCutWrongFalsely : Prop := spansCutRow.holds Try.pinned (OpenSpec.ofChange spansCutWrong)

/- THE SECOND FORM. 'bulk': how many values and letters a reading holds, each counted each time it is reached (what is shared counts as often as it is met; a slice's spare places count too). A statement '..UptoSaid' is the law's where the arguments, and the package variables that the reading takes, are together of bulk at most 1048576: NARROWER than '..Said'. Prove '..Said' where nothing that the law and all that it calls make is longer than what came in: it says more and counts as full. Else prove '..UptoSaid'. A law counts once. -/
mutual
def uptoBulk {H : Type} : DataW H → Nat
  | .lit (.string bytes) => bytes.length + 1
  | .lit _ => 1
  | .nil => 1
  | .ptr d => uptoBulk d + 1
  | .slice elems spare => uptoBulkAll elems + uptoBulkAll spare + 1
  | .agg parts => uptoBulkAll parts + 1
  | .iface _ d => uptoBulk d + 1
  | .map entries => uptoBulkEntries entries + 1
  | .held _ => 1
def uptoBulkAll {H : Type} : List (DataW H) → Nat
  | [] => 0
  | d :: r => uptoBulk d + uptoBulkAll r
def uptoBulkEntries {H : Type} : List (Lit × DataW H) → Nat
  | [] => 0
  | x :: r => uptoBulkEntry x + uptoBulkEntries r
def uptoBulkEntry {H : Type} : Lit × DataW H → Nat
  | (.string bytes, d) => bytes.length + uptoBulk d + 1
  | (_, d) => uptoBulk d + 1
 end
def uptoSmall : (H : Type) → List (DataW H) → Bool := fun _ ds => decide (uptoBulkAll ds ≤ 1048576)
def OpenSpec.upto (s : _root_.Go.ChangeSpec) : _root_.Go.OpenSpec := { _root_.Go.OpenSpec.ofChange s with cond := some uptoSmall }

/-- 'waymarklaw02.SpansSets', WHERE WHAT IT READS IS OF BULK AT MOST 1048576: true; the input reads as it did. -/
def spansSetsUptoRow : OpenClaim := { program := "ytdjlbenjbhkfiaa", sum := "15fc120a9f4255d044585dced5a5d8b29ad58b5fd6d4ec2cd3da781fc5ab6052", func := "waymark/waymarklaw02.SpansSets", spec := "spansSets", unfollowed := true, recurses := true, apart := false, narrowed := true }
def SpansSetsUptoSaid : Prop := spansSetsUptoRow.holds Try.pinned (OpenSpec.upto spansSetsSpec)

/-- 'waymarklaw02.SpansAsks', WHERE WHAT IT READS IS OF BULK AT MOST 1048576: true; the input reads as it did. -/
def spansAsksUptoRow : OpenClaim := { program := "ytdjlbenjbhkfiaa", sum := "15fc120a9f4255d044585dced5a5d8b29ad58b5fd6d4ec2cd3da781fc5ab6052", func := "waymark/waymarklaw02.SpansAsks", spec := "spansAsks", unfollowed := true, recurses := true, apart := false, narrowed := true }
def SpansAsksUptoSaid : Prop := spansAsksUptoRow.holds Try.pinned (OpenSpec.upto spansAsksSpec)

/-- 'waymarklaw02.SpansEach', WHERE WHAT IT READS IS OF BULK AT MOST 1048576: true; the input reads as it did. -/
def spansEachUptoRow : OpenClaim := { program := "ytdjlbenjbhkfiaa", sum := "15fc120a9f4255d044585dced5a5d8b29ad58b5fd6d4ec2cd3da781fc5ab6052", func := "waymark/waymarklaw02.SpansEach", spec := "spansEach", unfollowed := true, recurses := true, apart := false, narrowed := true }
def SpansEachUptoSaid : Prop := spansEachUptoRow.holds Try.pinned (OpenSpec.upto spansEachSpec)

/-- 'waymarklaw02.SpansPieces', WHERE WHAT IT READS IS OF BULK AT MOST 1048576: true; the input reads as it did. -/
def spansPiecesUptoRow : OpenClaim := { program := "ytdjlbenjbhkfiaa", sum := "15fc120a9f4255d044585dced5a5d8b29ad58b5fd6d4ec2cd3da781fc5ab6052", func := "waymark/waymarklaw02.SpansPieces", spec := "spansPieces", unfollowed := true, recurses := true, apart := false, narrowed := true }
def SpansPiecesUptoSaid : Prop := spansPiecesUptoRow.holds Try.pinned (OpenSpec.upto spansPiecesSpec)

/-- 'waymarklaw02.SpansTruths', WHERE WHAT IT READS IS OF BULK AT MOST 1048576: true; the input reads as it did. -/
def spansTruthsUptoRow : OpenClaim := { program := "ytdjlbenjbhkfiaa", sum := "15fc120a9f4255d044585dced5a5d8b29ad58b5fd6d4ec2cd3da781fc5ab6052", func := "waymark/waymarklaw02.SpansTruths", spec := "spansTruths", unfollowed := true, recurses := true, apart := false, narrowed := true }
def SpansTruthsUptoSaid : Prop := spansTruthsUptoRow.holds Try.pinned (OpenSpec.upto spansTruthsSpec)

/-- 'waymarklaw02.SpansCut', WHERE WHAT IT READS IS OF BULK AT MOST 1048576: true; the input reads as it did. -/
def spansCutUptoRow : OpenClaim := { program := "ytdjlbenjbhkfiaa", sum := "15fc120a9f4255d044585dced5a5d8b29ad58b5fd6d4ec2cd3da781fc5ab6052", func := "waymark/waymarklaw02.SpansCut", spec := "spansCut", unfollowed := true, recurses := true, apart := false, narrowed := true }
def SpansCutUptoSaid : Prop := spansCutUptoRow.holds Try.pinned (OpenSpec.upto spansCutSpec)

end Rows
end Go.Proofs.Ytdjlbenjbhkfiaa
