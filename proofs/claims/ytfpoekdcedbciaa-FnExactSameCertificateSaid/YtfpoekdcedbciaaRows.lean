/-
  No cell of these rows narrows 'for every input' (looked for: loops, veiled, ifaces, maps, wideKeys, modest, calm, conditions, laid).
  DERIVED. THE GIVEN ROWS OF THIS SEAT. 8 by the template 'for every input the law returns true; each argument reads behind the call as it read before'; 0 by the template 'total and deterministic' (their statements: YtfpoekdcedbciaaTotals.lean).
  GIVEN WITH THE SEED: the statements are not yours to turn. If you find one false, say at which input.
  Laid BY PROGRAM, IN A SANDBOX (cutbox-rows.mjs): the forced cells as the released guide's own fill.sh prints them over the translation bba3a9ad0fa456ba… (all of the seat's roots in one cut). By AI agents, Wed Nov 11 2026. No macro, syntax, notation, axiom, sorry.
-/
import Derived.Test.YtfpoekdcedbciaaChecked
import GoSem.Claim
import GoSem.ClaimJoined
import GoSem.ClaimMapViews
import Derived.JoinedTies
import Derived.KernelRfl
namespace Go.Proofs.Ytfpoekdcedbciaa
/- THE CELL 'sum', in the pinned program and in every row, IS THE sha256 OF THE DUMP (.gsa) THAT YtfpoekdcedbciaaProg.lean LOADS. Nothing in Lean hashes anything: it is a label: what it is worth is what the hold of that sum in a sandbox is worth. -/
noncomputable def Try.pinned : Pinned := { name := "ytfpoekdcedbciaa", sum := "bba3a9ad0fa456bae8ae56720e73a0fa322762dae0b22b708540a42db9df1f1c", checked := Try.checked }
namespace Rows
def none {H : Type} : Left H := { results := [], args := [] }

/-- 'laws.FnExactValidStatement': WHATEVER THE INPUT: true; the input reads as it did. -/
def fnExactValidStatementSpec : ChangeSpec := { name := "fnExactValidStatement", fn := fun _ => fun
  | [d] => { results := [.lit (.bool true)], args := [d] }
  | _ => none }
def fnExactValidStatementRow : OpenClaim := { program := "ytfpoekdcedbciaa", sum := "bba3a9ad0fa456bae8ae56720e73a0fa322762dae0b22b708540a42db9df1f1c", func := "loop.example/g01169/laws.FnExactValidStatement", spec := "fnExactValidStatement", unfollowed := true, recurses := true, plainKeys := false, apart := false }
def FnExactValidStatementSaid : Prop := fnExactValidStatementRow.holds Try.pinned (OpenSpec.ofChange fnExactValidStatementSpec)

/-- ITS FALSE NEIGHBOUR: 'it returns false'. Refute it at one input. -/
def fnExactValidStatementWrong : ChangeSpec := { name := "fnExactValidStatement", fn := fun _ => fun
  | [d] => { results := [.lit (.bool false)], args := [d] }
  | _ => none }
def FnExactValidStatementWrongFalsely : Prop := fnExactValidStatementRow.holds Try.pinned (OpenSpec.ofChange fnExactValidStatementWrong)

/-- 'laws.FnExactSameStatement': WHATEVER THE INPUT: true; the input reads as it did. -/
def fnExactSameStatementSpec : ChangeSpec := { name := "fnExactSameStatement", fn := fun _ => fun
  | [d1, d2] => { results := [.lit (.bool true)], args := [d1, d2] }
  | _ => none }
def fnExactSameStatementRow : OpenClaim := { program := "ytfpoekdcedbciaa", sum := "bba3a9ad0fa456bae8ae56720e73a0fa322762dae0b22b708540a42db9df1f1c", func := "loop.example/g01169/laws.FnExactSameStatement", spec := "fnExactSameStatement", plainKeys := false, apart := false }
def FnExactSameStatementSaid : Prop := fnExactSameStatementRow.holds Try.pinned (OpenSpec.ofChange fnExactSameStatementSpec)

/-- ITS FALSE NEIGHBOUR: 'it returns false'. Refute it at one input. -/
def fnExactSameStatementWrong : ChangeSpec := { name := "fnExactSameStatement", fn := fun _ => fun
  | [d1, d2] => { results := [.lit (.bool false)], args := [d1, d2] }
  | _ => none }
def FnExactSameStatementWrongFalsely : Prop := fnExactSameStatementRow.holds Try.pinned (OpenSpec.ofChange fnExactSameStatementWrong)

/-- 'laws.FnExactValidBlock': WHATEVER THE INPUT: true; the input reads as it did. -/
def fnExactValidBlockSpec : ChangeSpec := { name := "fnExactValidBlock", fn := fun _ => fun
  | [d] => { results := [.lit (.bool true)], args := [d] }
  | _ => none }
def fnExactValidBlockRow : OpenClaim := { program := "ytfpoekdcedbciaa", sum := "bba3a9ad0fa456bae8ae56720e73a0fa322762dae0b22b708540a42db9df1f1c", func := "loop.example/g01169/laws.FnExactValidBlock", spec := "fnExactValidBlock", unfollowed := true, recurses := true, plainKeys := false, apart := false }
def FnExactValidBlockSaid : Prop := fnExactValidBlockRow.holds Try.pinned (OpenSpec.ofChange fnExactValidBlockSpec)

/-- ITS FALSE NEIGHBOUR: 'it returns false'. Refute it at one input. -/
def fnExactValidBlockWrong : ChangeSpec := { name := "fnExactValidBlock", fn := fun _ => fun
  | [d] => { results := [.lit (.bool false)], args := [d] }
  | _ => none }
def FnExactValidBlockWrongFalsely : Prop := fnExactValidBlockRow.holds Try.pinned (OpenSpec.ofChange fnExactValidBlockWrong)

/-- 'laws.FnExactSameCertificate': WHATEVER THE INPUT: true; the input reads as it did. -/
def fnExactSameCertificateSpec : ChangeSpec := { name := "fnExactSameCertificate", fn := fun _ => fun
  | [d1, d2] => { results := [.lit (.bool true)], args := [d1, d2] }
  | _ => none }
def fnExactSameCertificateRow : OpenClaim := { program := "ytfpoekdcedbciaa", sum := "bba3a9ad0fa456bae8ae56720e73a0fa322762dae0b22b708540a42db9df1f1c", func := "loop.example/g01169/laws.FnExactSameCertificate", spec := "fnExactSameCertificate", unfollowed := true, recurses := true, plainKeys := false, apart := false }
def FnExactSameCertificateSaid : Prop := fnExactSameCertificateRow.holds Try.pinned (OpenSpec.ofChange fnExactSameCertificateSpec)

/-- ITS FALSE NEIGHBOUR: 'it returns false'. Refute it at one input. -/
def fnExactSameCertificateWrong : ChangeSpec := { name := "fnExactSameCertificate", fn := fun _ => fun
  | [d1, d2] => { results := [.lit (.bool false)], args := [d1, d2] }
  | _ => none }
def FnExactSameCertificateWrongFalsely : Prop := fnExactSameCertificateRow.holds Try.pinned (OpenSpec.ofChange fnExactSameCertificateWrong)

/-- 'laws.FnExactLeastValue': WHATEVER THE INPUT: true; the input reads as it did. -/
def fnExactLeastValueSpec : ChangeSpec := { name := "fnExactLeastValue", fn := fun _ => fun
  | [d1, d2] => { results := [.lit (.bool true)], args := [d1, d2] }
  | _ => none }
def fnExactLeastValueRow : OpenClaim := { program := "ytfpoekdcedbciaa", sum := "bba3a9ad0fa456bae8ae56720e73a0fa322762dae0b22b708540a42db9df1f1c", func := "loop.example/g01169/laws.FnExactLeastValue", spec := "fnExactLeastValue", unfollowed := true, recurses := true, plainKeys := false, apart := false }
def FnExactLeastValueSaid : Prop := fnExactLeastValueRow.holds Try.pinned (OpenSpec.ofChange fnExactLeastValueSpec)

/-- ITS FALSE NEIGHBOUR: 'it returns false'. Refute it at one input. -/
def fnExactLeastValueWrong : ChangeSpec := { name := "fnExactLeastValue", fn := fun _ => fun
  | [d1, d2] => { results := [.lit (.bool false)], args := [d1, d2] }
  | _ => none }
def FnExactLeastValueWrongFalsely : Prop := fnExactLeastValueRow.holds Try.pinned (OpenSpec.ofChange fnExactLeastValueWrong)

/-- 'laws.FnExactAllOnes': WHATEVER THE INPUT: true; the input reads as it did. -/
def fnExactAllOnesSpec : ChangeSpec := { name := "fnExactAllOnes", fn := fun _ => fun
  | [d1, d2] => { results := [.lit (.bool true)], args := [d1, d2] }
  | _ => none }
def fnExactAllOnesRow : OpenClaim := { program := "ytfpoekdcedbciaa", sum := "bba3a9ad0fa456bae8ae56720e73a0fa322762dae0b22b708540a42db9df1f1c", func := "loop.example/g01169/laws.FnExactAllOnes", spec := "fnExactAllOnes", unfollowed := true, recurses := true, plainKeys := false, apart := false }
def FnExactAllOnesSaid : Prop := fnExactAllOnesRow.holds Try.pinned (OpenSpec.ofChange fnExactAllOnesSpec)

/-- ITS FALSE NEIGHBOUR: 'it returns false'. Refute it at one input. -/
def fnExactAllOnesWrong : ChangeSpec := { name := "fnExactAllOnes", fn := fun _ => fun
  | [d1, d2] => { results := [.lit (.bool false)], args := [d1, d2] }
  | _ => none }
def FnExactAllOnesWrongFalsely : Prop := fnExactAllOnesRow.holds Try.pinned (OpenSpec.ofChange fnExactAllOnesWrong)

/-- 'laws.FnExactScaleSum': WHATEVER THE INPUT: true; the input reads as it did. -/
def fnExactScaleSumSpec : ChangeSpec := { name := "fnExactScaleSum", fn := fun _ => fun
  | [d1, d2] => { results := [.lit (.bool true)], args := [d1, d2] }
  | _ => none }
def fnExactScaleSumRow : OpenClaim := { program := "ytfpoekdcedbciaa", sum := "bba3a9ad0fa456bae8ae56720e73a0fa322762dae0b22b708540a42db9df1f1c", func := "loop.example/g01169/laws.FnExactScaleSum", spec := "fnExactScaleSum", unfollowed := true, recurses := true, plainKeys := false, apart := false }
def FnExactScaleSumSaid : Prop := fnExactScaleSumRow.holds Try.pinned (OpenSpec.ofChange fnExactScaleSumSpec)

/-- ITS FALSE NEIGHBOUR: 'it returns false'. Refute it at one input. -/
def fnExactScaleSumWrong : ChangeSpec := { name := "fnExactScaleSum", fn := fun _ => fun
  | [d1, d2] => { results := [.lit (.bool false)], args := [d1, d2] }
  | _ => none }
def FnExactScaleSumWrongFalsely : Prop := fnExactScaleSumRow.holds Try.pinned (OpenSpec.ofChange fnExactScaleSumWrong)

/-- 'laws.FnExactBlockOfSquares': WHATEVER THE INPUT: true; the input reads as it did. -/
def fnExactBlockOfSquaresSpec : ChangeSpec := { name := "fnExactBlockOfSquares", fn := fun _ => fun
  | [d1, d2, d3] => { results := [.lit (.bool true)], args := [d1, d2, d3] }
  | _ => none }
def fnExactBlockOfSquaresRow : OpenClaim := { program := "ytfpoekdcedbciaa", sum := "bba3a9ad0fa456bae8ae56720e73a0fa322762dae0b22b708540a42db9df1f1c", func := "loop.example/g01169/laws.FnExactBlockOfSquares", spec := "fnExactBlockOfSquares", unfollowed := true, recurses := true, plainKeys := false, apart := false }
def FnExactBlockOfSquaresSaid : Prop := fnExactBlockOfSquaresRow.holds Try.pinned (OpenSpec.ofChange fnExactBlockOfSquaresSpec)

/-- ITS FALSE NEIGHBOUR: 'it returns false'. Refute it at one input. -/
def fnExactBlockOfSquaresWrong : ChangeSpec := { name := "fnExactBlockOfSquares", fn := fun _ => fun
  | [d1, d2, d3] => { results := [.lit (.bool false)], args := [d1, d2, d3] }
  | _ => none }
def FnExactBlockOfSquaresWrongFalsely : Prop := fnExactBlockOfSquaresRow.holds Try.pinned (OpenSpec.ofChange fnExactBlockOfSquaresWrong)

/- THE SECOND FORM. 'bulk': how many values and letters a reading holds, each counted each time it is reached (what is shared counts as often as it is met; a slice's spare places count too). A statement '..UptoSaid' is the law's where the arguments, and the package variables that the reading takes, are together of bulk at most 1048576: NARROWER than '..Said'. Prove '..Said' where nothing that the law and all that it calls make is longer than what came in: it says more and counts as full. Else prove '..UptoSaid'. A law counts once. -/
mutual
def uptoBulk {H : Type} : DataW H → Nat
  | .lit (.string bytes) => bytes.length + 1
  | .lit _ => 1
  | .nil => 1
  | .ptr d => uptoBulk d + 1
  | .slice elems spare => uptoBulkAll elems + uptoBulkAll spare + 1
  | .agg parts => uptoBulkAll parts + 1
  | .iface _ d => uptoBulk d + 1
  | .map entries => uptoBulkEntries entries + 1
  | .held _ => 1
def uptoBulkAll {H : Type} : List (DataW H) → Nat
  | [] => 0
  | d :: r => uptoBulk d + uptoBulkAll r
def uptoBulkEntries {H : Type} : List (Lit × DataW H) → Nat
  | [] => 0
  | x :: r => uptoBulkEntry x + uptoBulkEntries r
def uptoBulkEntry {H : Type} : Lit × DataW H → Nat
  | (.string bytes, d) => bytes.length + uptoBulk d + 1
  | (_, d) => uptoBulk d + 1
 end
def uptoSmall : (H : Type) → List (DataW H) → Bool := fun _ ds => decide (uptoBulkAll ds ≤ 1048576)
def OpenSpec.upto (s : _root_.Go.ChangeSpec) : _root_.Go.OpenSpec := { _root_.Go.OpenSpec.ofChange s with cond := some uptoSmall }

/-- 'laws.FnExactValidStatement', WHERE WHAT IT READS IS OF BULK AT MOST 1048576: true; the input reads as it did. -/
def fnExactValidStatementUptoRow : OpenClaim := { program := "ytfpoekdcedbciaa", sum := "bba3a9ad0fa456bae8ae56720e73a0fa322762dae0b22b708540a42db9df1f1c", func := "loop.example/g01169/laws.FnExactValidStatement", spec := "fnExactValidStatement", unfollowed := true, recurses := true, plainKeys := false, apart := false, narrowed := true }
def FnExactValidStatementUptoSaid : Prop := fnExactValidStatementUptoRow.holds Try.pinned (OpenSpec.upto fnExactValidStatementSpec)

/-- 'laws.FnExactSameStatement', WHERE WHAT IT READS IS OF BULK AT MOST 1048576: true; the input reads as it did. -/
def fnExactSameStatementUptoRow : OpenClaim := { program := "ytfpoekdcedbciaa", sum := "bba3a9ad0fa456bae8ae56720e73a0fa322762dae0b22b708540a42db9df1f1c", func := "loop.example/g01169/laws.FnExactSameStatement", spec := "fnExactSameStatement", plainKeys := false, apart := false, narrowed := true }
def FnExactSameStatementUptoSaid : Prop := fnExactSameStatementUptoRow.holds Try.pinned (OpenSpec.upto fnExactSameStatementSpec)

/-- 'laws.FnExactValidBlock', WHERE WHAT IT READS IS OF BULK AT MOST 1048576: true; the input reads as it did. -/
def fnExactValidBlockUptoRow : OpenClaim := { program := "ytfpoekdcedbciaa", sum := "bba3a9ad0fa456bae8ae56720e73a0fa322762dae0b22b708540a42db9df1f1c", func := "loop.example/g01169/laws.FnExactValidBlock", spec := "fnExactValidBlock", unfollowed := true, recurses := true, plainKeys := false, apart := false, narrowed := true }
def FnExactValidBlockUptoSaid : Prop := fnExactValidBlockUptoRow.holds Try.pinned (OpenSpec.upto fnExactValidBlockSpec)

/-- 'laws.FnExactSameCertificate', WHERE WHAT IT READS IS OF BULK AT MOST 1048576: true; the input reads as it did. -/
def fnExactSameCertificateUptoRow : OpenClaim := { program := "ytfpoekdcedbciaa", sum := "bba3a9ad0fa456bae8ae56720e73a0fa322762dae0b22b708540a42db9df1f1c", func := "loop.example/g01169/laws.FnExactSameCertificate", spec := "fnExactSameCertificate", unfollowed := true, recurses := true, plainKeys := false, apart := false, narrowed := true }
def FnExactSameCertificateUptoSaid : Prop := fnExactSameCertificateUptoRow.holds Try.pinned (OpenSpec.upto fnExactSameCertificateSpec)

/-- 'laws.FnExactLeastValue', WHERE WHAT IT READS IS OF BULK AT MOST 1048576: true; the input reads as it did. -/
def fnExactLeastValueUptoRow : OpenClaim := { program := "ytfpoekdcedbciaa", sum := "bba3a9ad0fa456bae8ae56720e73a0fa322762dae0b22b708540a42db9df1f1c", func := "loop.example/g01169/laws.FnExactLeastValue", spec := "fnExactLeastValue", unfollowed := true, recurses := true, plainKeys := false, apart := false, narrowed := true }
def FnExactLeastValueUptoSaid : Prop := fnExactLeastValueUptoRow.holds Try.pinned (OpenSpec.upto fnExactLeastValueSpec)

/-- 'laws.FnExactAllOnes', WHERE WHAT IT READS IS OF BULK AT MOST 1048576: true; the input reads as it did. -/
def fnExactAllOnesUptoRow : OpenClaim := { program := "ytfpoekdcedbciaa", sum := "bba3a9ad0fa456bae8ae56720e73a0fa322762dae0b22b708540a42db9df1f1c", func := "loop.example/g01169/laws.FnExactAllOnes", spec := "fnExactAllOnes", unfollowed := true, recurses := true, plainKeys := false, apart := false, narrowed := true }
def FnExactAllOnesUptoSaid : Prop := fnExactAllOnesUptoRow.holds Try.pinned (OpenSpec.upto fnExactAllOnesSpec)

/-- 'laws.FnExactScaleSum', WHERE WHAT IT READS IS OF BULK AT MOST 1048576: true; the input reads as it did. -/
def fnExactScaleSumUptoRow : OpenClaim := { program := "ytfpoekdcedbciaa", sum := "bba3a9ad0fa456bae8ae56720e73a0fa322762dae0b22b708540a42db9df1f1c", func := "loop.example/g01169/laws.FnExactScaleSum", spec := "fnExactScaleSum", unfollowed := true, recurses := true, plainKeys := false, apart := false, narrowed := true }
def FnExactScaleSumUptoSaid : Prop := fnExactScaleSumUptoRow.holds Try.pinned (OpenSpec.upto fnExactScaleSumSpec)

/-- 'laws.FnExactBlockOfSquares', WHERE WHAT IT READS IS OF BULK AT MOST 1048576: true; the input reads as it did. -/
def fnExactBlockOfSquaresUptoRow : OpenClaim := { program := "ytfpoekdcedbciaa", sum := "bba3a9ad0fa456bae8ae56720e73a0fa322762dae0b22b708540a42db9df1f1c", func := "loop.example/g01169/laws.FnExactBlockOfSquares", spec := "fnExactBlockOfSquares", unfollowed := true, recurses := true, plainKeys := false, apart := false, narrowed := true }
def FnExactBlockOfSquaresUptoSaid : Prop := fnExactBlockOfSquaresUptoRow.holds Try.pinned (OpenSpec.upto fnExactBlockOfSquaresSpec)

end Rows
end Go.Proofs.Ytfpoekdcedbciaa
