/-
  No cell of these rows narrows 'for every input' (looked for: loops, veiled, ifaces, maps, wideKeys, modest, calm, conditions, laid).
  DERIVED. THE GIVEN ROWS OF THIS SEAT. 10 by the template 'for every input the law returns true; each argument reads behind the call as it read before'; 0 by the template 'total and deterministic' (their statements: YtfnjgdocmfmfgaaTotals.lean).
  GIVEN WITH THE SEED: the statements are not yours to turn. If you find one false, say at which input.
  Laid BY PROGRAM, IN A SANDBOX (cutbox-rows.mjs): the forced cells as the released guide's own fill.sh prints them over the translation d104b0a66117f119… (all of the seat's roots in one cut). By AI agents, Wed Nov 11 2026. No macro, syntax, notation, axiom, sorry.
-/
import Derived.Test.YtfnjgdocmfmfgaaChecked
import GoSem.Claim
import GoSem.ClaimJoined
import GoSem.ClaimMapViews
import Derived.JoinedTies
import Derived.KernelRfl
namespace Go.Proofs.Ytfnjgdocmfmfgaa
/- THE CELL 'sum', in the pinned program and in every row, IS THE sha256 OF THE DUMP (.gsa) THAT YtfnjgdocmfmfgaaProg.lean LOADS. Nothing in Lean hashes anything: it is a label: what it is worth is what the hold of that sum in a sandbox is worth. -/
noncomputable def Try.pinned : Pinned := { name := "ytfnjgdocmfmfgaa", sum := "d104b0a66117f1198e5e28ec0c0bb4dc82cd63e14c591ed3103908b357f89051", checked := Try.checked }
namespace Rows
def none {H : Type} : Left H := { results := [], args := [] }

/-- 'laws.FnExactValidPattern': WHATEVER THE INPUT: true; the input reads as it did. -/
def fnExactValidPatternSpec : ChangeSpec := { name := "fnExactValidPattern", fn := fun _ => fun
  | [d] => { results := [.lit (.bool true)], args := [d] }
  | _ => none }
def fnExactValidPatternRow : OpenClaim := { program := "ytfnjgdocmfmfgaa", sum := "d104b0a66117f1198e5e28ec0c0bb4dc82cd63e14c591ed3103908b357f89051", func := "loop.example/g01169/laws.FnExactValidPattern", spec := "fnExactValidPattern", unfollowed := true, recurses := true, apart := false }
def FnExactValidPatternSaid : Prop := fnExactValidPatternRow.holds Try.pinned (OpenSpec.ofChange fnExactValidPatternSpec)

/-- ITS FALSE NEIGHBOUR: 'it returns false'. Refute it at one input. -/
def fnExactValidPatternWrong : ChangeSpec := { name := "fnExactValidPattern", fn := fun _ => fun
  | [d] => { results := [.lit (.bool false)], args := [d] }
  | _ => none }
def FnExactValidPatternWrongFalsely : Prop := fnExactValidPatternRow.holds Try.pinned (OpenSpec.ofChange fnExactValidPatternWrong)

/-- 'laws.FnExactSamePattern': WHATEVER THE INPUT: true; the input reads as it did. -/
def fnExactSamePatternSpec : ChangeSpec := { name := "fnExactSamePattern", fn := fun _ => fun
  | [d1, d2] => { results := [.lit (.bool true)], args := [d1, d2] }
  | _ => none }
def fnExactSamePatternRow : OpenClaim := { program := "ytfnjgdocmfmfgaa", sum := "d104b0a66117f1198e5e28ec0c0bb4dc82cd63e14c591ed3103908b357f89051", func := "loop.example/g01169/laws.FnExactSamePattern", spec := "fnExactSamePattern", apart := false }
def FnExactSamePatternSaid : Prop := fnExactSamePatternRow.holds Try.pinned (OpenSpec.ofChange fnExactSamePatternSpec)

/-- ITS FALSE NEIGHBOUR: 'it returns false'. Refute it at one input. -/
def fnExactSamePatternWrong : ChangeSpec := { name := "fnExactSamePattern", fn := fun _ => fun
  | [d1, d2] => { results := [.lit (.bool false)], args := [d1, d2] }
  | _ => none }
def FnExactSamePatternWrongFalsely : Prop := fnExactSamePatternRow.holds Try.pinned (OpenSpec.ofChange fnExactSamePatternWrong)

/-- 'laws.FnExactEvenPattern': WHATEVER THE INPUT: true; the input reads as it did. -/
def fnExactEvenPatternSpec : ChangeSpec := { name := "fnExactEvenPattern", fn := fun _ => fun
  | [d1, d2] => { results := [.lit (.bool true)], args := [d1, d2] }
  | _ => none }
def fnExactEvenPatternRow : OpenClaim := { program := "ytfnjgdocmfmfgaa", sum := "d104b0a66117f1198e5e28ec0c0bb4dc82cd63e14c591ed3103908b357f89051", func := "loop.example/g01169/laws.FnExactEvenPattern", spec := "fnExactEvenPattern", apart := false }
def FnExactEvenPatternSaid : Prop := fnExactEvenPatternRow.holds Try.pinned (OpenSpec.ofChange fnExactEvenPatternSpec)

/-- ITS FALSE NEIGHBOUR: 'it returns false'. Refute it at one input. -/
def fnExactEvenPatternWrong : ChangeSpec := { name := "fnExactEvenPattern", fn := fun _ => fun
  | [d1, d2] => { results := [.lit (.bool false)], args := [d1, d2] }
  | _ => none }
def FnExactEvenPatternWrongFalsely : Prop := fnExactEvenPatternRow.holds Try.pinned (OpenSpec.ofChange fnExactEvenPatternWrong)

/-- 'laws.FnExactPartsPattern': WHATEVER THE INPUT: true; the input reads as it did. -/
def fnExactPartsPatternSpec : ChangeSpec := { name := "fnExactPartsPattern", fn := fun _ => fun
  | [d] => { results := [.lit (.bool true)], args := [d] }
  | _ => none }
def fnExactPartsPatternRow : OpenClaim := { program := "ytfnjgdocmfmfgaa", sum := "d104b0a66117f1198e5e28ec0c0bb4dc82cd63e14c591ed3103908b357f89051", func := "loop.example/g01169/laws.FnExactPartsPattern", spec := "fnExactPartsPattern", apart := false }
def FnExactPartsPatternSaid : Prop := fnExactPartsPatternRow.holds Try.pinned (OpenSpec.ofChange fnExactPartsPatternSpec)

/-- ITS FALSE NEIGHBOUR: 'it returns false'. Refute it at one input. -/
def fnExactPartsPatternWrong : ChangeSpec := { name := "fnExactPartsPattern", fn := fun _ => fun
  | [d] => { results := [.lit (.bool false)], args := [d] }
  | _ => none }
def FnExactPartsPatternWrongFalsely : Prop := fnExactPartsPatternRow.holds Try.pinned (OpenSpec.ofChange fnExactPartsPatternWrong)

/-- 'laws.FnExactOppositePattern': WHATEVER THE INPUT: true; the input reads as it did. -/
def fnExactOppositePatternSpec : ChangeSpec := { name := "fnExactOppositePattern", fn := fun _ => fun
  | [d] => { results := [.lit (.bool true)], args := [d] }
  | _ => none }
def fnExactOppositePatternRow : OpenClaim := { program := "ytfnjgdocmfmfgaa", sum := "d104b0a66117f1198e5e28ec0c0bb4dc82cd63e14c591ed3103908b357f89051", func := "loop.example/g01169/laws.FnExactOppositePattern", spec := "fnExactOppositePattern", unfollowed := true, recurses := true, apart := false }
def FnExactOppositePatternSaid : Prop := fnExactOppositePatternRow.holds Try.pinned (OpenSpec.ofChange fnExactOppositePatternSpec)

/-- ITS FALSE NEIGHBOUR: 'it returns false'. Refute it at one input. -/
def fnExactOppositePatternWrong : ChangeSpec := { name := "fnExactOppositePattern", fn := fun _ => fun
  | [d] => { results := [.lit (.bool false)], args := [d] }
  | _ => none }
def FnExactOppositePatternWrongFalsely : Prop := fnExactOppositePatternRow.holds Try.pinned (OpenSpec.ofChange fnExactOppositePatternWrong)

/-- 'laws.FnExactBlowUp': WHATEVER THE INPUT: true; the input reads as it did. -/
def fnExactBlowUpSpec : ChangeSpec := { name := "fnExactBlowUp", fn := fun _ => fun
  | [d1, d2] => { results := [.lit (.bool true)], args := [d1, d2] }
  | _ => none }
def fnExactBlowUpRow : OpenClaim := { program := "ytfnjgdocmfmfgaa", sum := "d104b0a66117f1198e5e28ec0c0bb4dc82cd63e14c591ed3103908b357f89051", func := "loop.example/g01169/laws.FnExactBlowUp", spec := "fnExactBlowUp", unfollowed := true, recurses := true, apart := false }
def FnExactBlowUpSaid : Prop := fnExactBlowUpRow.holds Try.pinned (OpenSpec.ofChange fnExactBlowUpSpec)

/-- ITS FALSE NEIGHBOUR: 'it returns false'. Refute it at one input. -/
def fnExactBlowUpWrong : ChangeSpec := { name := "fnExactBlowUp", fn := fun _ => fun
  | [d1, d2] => { results := [.lit (.bool false)], args := [d1, d2] }
  | _ => none }
def FnExactBlowUpWrongFalsely : Prop := fnExactBlowUpRow.holds Try.pinned (OpenSpec.ofChange fnExactBlowUpWrong)

/-- 'laws.FnExactIsPatternFree': WHATEVER THE INPUT: true; the input reads as it did. -/
def fnExactIsPatternFreeSpec : ChangeSpec := { name := "fnExactIsPatternFree", fn := fun _ => fun
  | [d1, d2] => { results := [.lit (.bool true)], args := [d1, d2] }
  | _ => none }
def fnExactIsPatternFreeRow : OpenClaim := { program := "ytfnjgdocmfmfgaa", sum := "d104b0a66117f1198e5e28ec0c0bb4dc82cd63e14c591ed3103908b357f89051", func := "loop.example/g01169/laws.FnExactIsPatternFree", spec := "fnExactIsPatternFree", unfollowed := true, recurses := true, apart := false }
def FnExactIsPatternFreeSaid : Prop := fnExactIsPatternFreeRow.holds Try.pinned (OpenSpec.ofChange fnExactIsPatternFreeSpec)

/-- ITS FALSE NEIGHBOUR: 'it returns false'. Refute it at one input. -/
def fnExactIsPatternFreeWrong : ChangeSpec := { name := "fnExactIsPatternFree", fn := fun _ => fun
  | [d1, d2] => { results := [.lit (.bool false)], args := [d1, d2] }
  | _ => none }
def FnExactIsPatternFreeWrongFalsely : Prop := fnExactIsPatternFreeRow.holds Try.pinned (OpenSpec.ofChange fnExactIsPatternFreeWrong)

/-- 'laws.FnExactFirstMapOf': WHATEVER THE INPUT: true; the input reads as it did. -/
def fnExactFirstMapOfSpec : ChangeSpec := { name := "fnExactFirstMapOf", fn := fun _ => fun
  | [d1, d2] => { results := [.lit (.bool true)], args := [d1, d2] }
  | _ => none }
def fnExactFirstMapOfRow : OpenClaim := { program := "ytfnjgdocmfmfgaa", sum := "d104b0a66117f1198e5e28ec0c0bb4dc82cd63e14c591ed3103908b357f89051", func := "loop.example/g01169/laws.FnExactFirstMapOf", spec := "fnExactFirstMapOf", unfollowed := true, recurses := true, apart := false }
def FnExactFirstMapOfSaid : Prop := fnExactFirstMapOfRow.holds Try.pinned (OpenSpec.ofChange fnExactFirstMapOfSpec)

/-- ITS FALSE NEIGHBOUR: 'it returns false'. Refute it at one input. -/
def fnExactFirstMapOfWrong : ChangeSpec := { name := "fnExactFirstMapOf", fn := fun _ => fun
  | [d1, d2] => { results := [.lit (.bool false)], args := [d1, d2] }
  | _ => none }
def FnExactFirstMapOfWrongFalsely : Prop := fnExactFirstMapOfRow.holds Try.pinned (OpenSpec.ofChange fnExactFirstMapOfWrong)

/-- 'laws.FnExactChanceIn': WHATEVER THE INPUT: true; the input reads as it did. -/
def fnExactChanceInSpec : ChangeSpec := { name := "fnExactChanceIn", fn := fun _ => fun
  | [d1, d2] => { results := [.lit (.bool true)], args := [d1, d2] }
  | _ => none }
def fnExactChanceInRow : OpenClaim := { program := "ytfnjgdocmfmfgaa", sum := "d104b0a66117f1198e5e28ec0c0bb4dc82cd63e14c591ed3103908b357f89051", func := "loop.example/g01169/laws.FnExactChanceIn", spec := "fnExactChanceIn", unfollowed := true, recurses := true, apart := false }
def FnExactChanceInSaid : Prop := fnExactChanceInRow.holds Try.pinned (OpenSpec.ofChange fnExactChanceInSpec)

/-- ITS FALSE NEIGHBOUR: 'it returns false'. Refute it at one input. -/
def fnExactChanceInWrong : ChangeSpec := { name := "fnExactChanceIn", fn := fun _ => fun
  | [d1, d2] => { results := [.lit (.bool false)], args := [d1, d2] }
  | _ => none }
def FnExactChanceInWrongFalsely : Prop := fnExactChanceInRow.holds Try.pinned (OpenSpec.ofChange fnExactChanceInWrong)

/-- 'laws.FnExactDensityIn': WHATEVER THE INPUT: true; the input reads as it did. -/
def fnExactDensityInSpec : ChangeSpec := { name := "fnExactDensityIn", fn := fun _ => fun
  | [d1, d2] => { results := [.lit (.bool true)], args := [d1, d2] }
  | _ => none }
def fnExactDensityInRow : OpenClaim := { program := "ytfnjgdocmfmfgaa", sum := "d104b0a66117f1198e5e28ec0c0bb4dc82cd63e14c591ed3103908b357f89051", func := "loop.example/g01169/laws.FnExactDensityIn", spec := "fnExactDensityIn", unfollowed := true, recurses := true, apart := false }
def FnExactDensityInSaid : Prop := fnExactDensityInRow.holds Try.pinned (OpenSpec.ofChange fnExactDensityInSpec)

/-- ITS FALSE NEIGHBOUR: 'it returns false'. Refute it at one input. -/
def fnExactDensityInWrong : ChangeSpec := { name := "fnExactDensityIn", fn := fun _ => fun
  | [d1, d2] => { results := [.lit (.bool false)], args := [d1, d2] }
  | _ => none }
def FnExactDensityInWrongFalsely : Prop := fnExactDensityInRow.holds Try.pinned (OpenSpec.ofChange fnExactDensityInWrong)

/- THE SECOND FORM. 'bulk': how many values and letters a reading holds, each counted each time it is reached (what is shared counts as often as it is met; a slice's spare places count too). A statement '..UptoSaid' is the law's where the arguments, and the package variables that the reading takes, are together of bulk at most 1048576: NARROWER than '..Said'. Prove '..Said' where nothing that the law and all that it calls make is longer than what came in: it says more and counts as full. Else prove '..UptoSaid'. A law counts once. -/
mutual
def uptoBulk {H : Type} : DataW H → Nat
  | .lit (.string bytes) => bytes.length + 1
  | .lit _ => 1
  | .nil => 1
  | .ptr d => uptoBulk d + 1
  | .slice elems spare => uptoBulkAll elems + uptoBulkAll spare + 1
  | .agg parts => uptoBulkAll parts + 1
  | .iface _ d => uptoBulk d + 1
  | .map entries => uptoBulkEntries entries + 1
  | .held _ => 1
def uptoBulkAll {H : Type} : List (DataW H) → Nat
  | [] => 0
  | d :: r => uptoBulk d + uptoBulkAll r
def uptoBulkEntries {H : Type} : List (Lit × DataW H) → Nat
  | [] => 0
  | x :: r => uptoBulkEntry x + uptoBulkEntries r
def uptoBulkEntry {H : Type} : Lit × DataW H → Nat
  | (.string bytes, d) => bytes.length + uptoBulk d + 1
  | (_, d) => uptoBulk d + 1
 end
def uptoSmall : (H : Type) → List (DataW H) → Bool := fun _ ds => decide (uptoBulkAll ds ≤ 1048576)
def OpenSpec.upto (s : _root_.Go.ChangeSpec) : _root_.Go.OpenSpec := { _root_.Go.OpenSpec.ofChange s with cond := some uptoSmall }

/-- 'laws.FnExactValidPattern', WHERE WHAT IT READS IS OF BULK AT MOST 1048576: true; the input reads as it did. -/
def fnExactValidPatternUptoRow : OpenClaim := { program := "ytfnjgdocmfmfgaa", sum := "d104b0a66117f1198e5e28ec0c0bb4dc82cd63e14c591ed3103908b357f89051", func := "loop.example/g01169/laws.FnExactValidPattern", spec := "fnExactValidPattern", unfollowed := true, recurses := true, apart := false, narrowed := true }
def FnExactValidPatternUptoSaid : Prop := fnExactValidPatternUptoRow.holds Try.pinned (OpenSpec.upto fnExactValidPatternSpec)

/-- 'laws.FnExactSamePattern', WHERE WHAT IT READS IS OF BULK AT MOST 1048576: true; the input reads as it did. -/
def fnExactSamePatternUptoRow : OpenClaim := { program := "ytfnjgdocmfmfgaa", sum := "d104b0a66117f1198e5e28ec0c0bb4dc82cd63e14c591ed3103908b357f89051", func := "loop.example/g01169/laws.FnExactSamePattern", spec := "fnExactSamePattern", apart := false, narrowed := true }
def FnExactSamePatternUptoSaid : Prop := fnExactSamePatternUptoRow.holds Try.pinned (OpenSpec.upto fnExactSamePatternSpec)

/-- 'laws.FnExactEvenPattern', WHERE WHAT IT READS IS OF BULK AT MOST 1048576: true; the input reads as it did. -/
def fnExactEvenPatternUptoRow : OpenClaim := { program := "ytfnjgdocmfmfgaa", sum := "d104b0a66117f1198e5e28ec0c0bb4dc82cd63e14c591ed3103908b357f89051", func := "loop.example/g01169/laws.FnExactEvenPattern", spec := "fnExactEvenPattern", apart := false, narrowed := true }
def FnExactEvenPatternUptoSaid : Prop := fnExactEvenPatternUptoRow.holds Try.pinned (OpenSpec.upto fnExactEvenPatternSpec)

/-- 'laws.FnExactPartsPattern', WHERE WHAT IT READS IS OF BULK AT MOST 1048576: true; the input reads as it did. -/
def fnExactPartsPatternUptoRow : OpenClaim := { program := "ytfnjgdocmfmfgaa", sum := "d104b0a66117f1198e5e28ec0c0bb4dc82cd63e14c591ed3103908b357f89051", func := "loop.example/g01169/laws.FnExactPartsPattern", spec := "fnExactPartsPattern", apart := false, narrowed := true }
def FnExactPartsPatternUptoSaid : Prop := fnExactPartsPatternUptoRow.holds Try.pinned (OpenSpec.upto fnExactPartsPatternSpec)

/-- 'laws.FnExactOppositePattern', WHERE WHAT IT READS IS OF BULK AT MOST 1048576: true; the input reads as it did. -/
def fnExactOppositePatternUptoRow : OpenClaim := { program := "ytfnjgdocmfmfgaa", sum := "d104b0a66117f1198e5e28ec0c0bb4dc82cd63e14c591ed3103908b357f89051", func := "loop.example/g01169/laws.FnExactOppositePattern", spec := "fnExactOppositePattern", unfollowed := true, recurses := true, apart := false, narrowed := true }
def FnExactOppositePatternUptoSaid : Prop := fnExactOppositePatternUptoRow.holds Try.pinned (OpenSpec.upto fnExactOppositePatternSpec)

/-- 'laws.FnExactBlowUp', WHERE WHAT IT READS IS OF BULK AT MOST 1048576: true; the input reads as it did. -/
def fnExactBlowUpUptoRow : OpenClaim := { program := "ytfnjgdocmfmfgaa", sum := "d104b0a66117f1198e5e28ec0c0bb4dc82cd63e14c591ed3103908b357f89051", func := "loop.example/g01169/laws.FnExactBlowUp", spec := "fnExactBlowUp", unfollowed := true, recurses := true, apart := false, narrowed := true }
def FnExactBlowUpUptoSaid : Prop := fnExactBlowUpUptoRow.holds Try.pinned (OpenSpec.upto fnExactBlowUpSpec)

/-- 'laws.FnExactIsPatternFree', WHERE WHAT IT READS IS OF BULK AT MOST 1048576: true; the input reads as it did. -/
def fnExactIsPatternFreeUptoRow : OpenClaim := { program := "ytfnjgdocmfmfgaa", sum := "d104b0a66117f1198e5e28ec0c0bb4dc82cd63e14c591ed3103908b357f89051", func := "loop.example/g01169/laws.FnExactIsPatternFree", spec := "fnExactIsPatternFree", unfollowed := true, recurses := true, apart := false, narrowed := true }
def FnExactIsPatternFreeUptoSaid : Prop := fnExactIsPatternFreeUptoRow.holds Try.pinned (OpenSpec.upto fnExactIsPatternFreeSpec)

/-- 'laws.FnExactFirstMapOf', WHERE WHAT IT READS IS OF BULK AT MOST 1048576: true; the input reads as it did. -/
def fnExactFirstMapOfUptoRow : OpenClaim := { program := "ytfnjgdocmfmfgaa", sum := "d104b0a66117f1198e5e28ec0c0bb4dc82cd63e14c591ed3103908b357f89051", func := "loop.example/g01169/laws.FnExactFirstMapOf", spec := "fnExactFirstMapOf", unfollowed := true, recurses := true, apart := false, narrowed := true }
def FnExactFirstMapOfUptoSaid : Prop := fnExactFirstMapOfUptoRow.holds Try.pinned (OpenSpec.upto fnExactFirstMapOfSpec)

/-- 'laws.FnExactChanceIn', WHERE WHAT IT READS IS OF BULK AT MOST 1048576: true; the input reads as it did. -/
def fnExactChanceInUptoRow : OpenClaim := { program := "ytfnjgdocmfmfgaa", sum := "d104b0a66117f1198e5e28ec0c0bb4dc82cd63e14c591ed3103908b357f89051", func := "loop.example/g01169/laws.FnExactChanceIn", spec := "fnExactChanceIn", unfollowed := true, recurses := true, apart := false, narrowed := true }
def FnExactChanceInUptoSaid : Prop := fnExactChanceInUptoRow.holds Try.pinned (OpenSpec.upto fnExactChanceInSpec)

/-- 'laws.FnExactDensityIn', WHERE WHAT IT READS IS OF BULK AT MOST 1048576: true; the input reads as it did. -/
def fnExactDensityInUptoRow : OpenClaim := { program := "ytfnjgdocmfmfgaa", sum := "d104b0a66117f1198e5e28ec0c0bb4dc82cd63e14c591ed3103908b357f89051", func := "loop.example/g01169/laws.FnExactDensityIn", spec := "fnExactDensityIn", unfollowed := true, recurses := true, apart := false, narrowed := true }
def FnExactDensityInUptoSaid : Prop := fnExactDensityInUptoRow.holds Try.pinned (OpenSpec.upto fnExactDensityInSpec)

end Rows
end Go.Proofs.Ytfnjgdocmfmfgaa
