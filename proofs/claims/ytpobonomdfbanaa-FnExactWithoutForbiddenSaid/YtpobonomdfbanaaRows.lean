/-
  No cell of these rows narrows 'for every input' (looked for: loops, veiled, ifaces, maps, wideKeys, modest, calm, conditions, laid).
  DERIVED. THE GIVEN ROWS OF THIS SEAT. 10 by the template 'for every input the law returns true; each argument reads behind the call as it read before'; 0 by the template 'total and deterministic' (their statements: YtpobonomdfbanaaTotals.lean).
  GIVEN WITH THE SEED: the statements are not yours to turn. If you find one false, say at which input.
  Laid BY PROGRAM, IN A SANDBOX (cutbox-rows.mjs): the forced cells as the released guide's own fill.sh prints them over the translation b75435de6bd21841… (all of the seat's roots in one cut). By AI agents, Wed Nov 11 2026. No macro, syntax, notation, axiom, sorry.
-/
import Derived.Test.YtpobonomdfbanaaChecked
import GoSem.Claim
import GoSem.ClaimJoined
import GoSem.ClaimMapViews
import Derived.JoinedTies
import Derived.KernelRfl
namespace Go.Proofs.Ytpobonomdfbanaa
/- THE CELL 'sum', in the pinned program and in every row, IS THE sha256 OF THE DUMP (.gsa) THAT YtpobonomdfbanaaProg.lean LOADS. Nothing in Lean hashes anything: it is a label: what it is worth is what the hold of that sum in a sandbox is worth. -/
noncomputable def Try.pinned : Pinned := { name := "ytpobonomdfbanaa", sum := "b75435de6bd21841a68c442af27a2e7fe1034af373a1e2231020c7b5e6e40b8c", checked := Try.checked }
namespace Rows
def none {H : Type} : Left H := { results := [], args := [] }

/-- 'laws.FnExactExtensionsOf': WHATEVER THE INPUT: true; the input reads as it did. -/
def fnExactExtensionsOfSpec : ChangeSpec := { name := "fnExactExtensionsOf", fn := fun _ => fun
  | [d1, d2] => { results := [.lit (.bool true)], args := [d1, d2] }
  | _ => none }
def fnExactExtensionsOfRow : OpenClaim := { program := "ytpobonomdfbanaa", sum := "b75435de6bd21841a68c442af27a2e7fe1034af373a1e2231020c7b5e6e40b8c", func := "loop.example/g01169/laws.FnExactExtensionsOf", spec := "fnExactExtensionsOf", unfollowed := true, recurses := true, plainKeys := false, apart := false }
def FnExactExtensionsOfSaid : Prop := fnExactExtensionsOfRow.holds Try.pinned (OpenSpec.ofChange fnExactExtensionsOfSpec)

/-- ITS FALSE NEIGHBOUR: 'it returns false'. Refute it at one input. -/
def fnExactExtensionsOfWrong : ChangeSpec := { name := "fnExactExtensionsOf", fn := fun _ => fun
  | [d1, d2] => { results := [.lit (.bool false)], args := [d1, d2] }
  | _ => none }
def FnExactExtensionsOfWrongFalsely : Prop := fnExactExtensionsOfRow.holds Try.pinned (OpenSpec.ofChange fnExactExtensionsOfWrong)

/-- 'laws.FnExactValidSum': WHATEVER THE INPUT: true; the input reads as it did. -/
def fnExactValidSumSpec : ChangeSpec := { name := "fnExactValidSum", fn := fun _ => fun
  | [d] => { results := [.lit (.bool true)], args := [d] }
  | _ => none }
def fnExactValidSumRow : OpenClaim := { program := "ytpobonomdfbanaa", sum := "b75435de6bd21841a68c442af27a2e7fe1034af373a1e2231020c7b5e6e40b8c", func := "loop.example/g01169/laws.FnExactValidSum", spec := "fnExactValidSum", unfollowed := true, recurses := true, plainKeys := false, apart := false }
def FnExactValidSumSaid : Prop := fnExactValidSumRow.holds Try.pinned (OpenSpec.ofChange fnExactValidSumSpec)

/-- ITS FALSE NEIGHBOUR: 'it returns false'. Refute it at one input. -/
def fnExactValidSumWrong : ChangeSpec := { name := "fnExactValidSum", fn := fun _ => fun
  | [d] => { results := [.lit (.bool false)], args := [d] }
  | _ => none }
def FnExactValidSumWrongFalsely : Prop := fnExactValidSumRow.holds Try.pinned (OpenSpec.ofChange fnExactValidSumWrong)

/-- 'laws.FnExactSameSum': WHATEVER THE INPUT: true; the input reads as it did. -/
def fnExactSameSumSpec : ChangeSpec := { name := "fnExactSameSum", fn := fun _ => fun
  | [d1, d2] => { results := [.lit (.bool true)], args := [d1, d2] }
  | _ => none }
def fnExactSameSumRow : OpenClaim := { program := "ytpobonomdfbanaa", sum := "b75435de6bd21841a68c442af27a2e7fe1034af373a1e2231020c7b5e6e40b8c", func := "loop.example/g01169/laws.FnExactSameSum", spec := "fnExactSameSum", plainKeys := false, apart := false }
def FnExactSameSumSaid : Prop := fnExactSameSumRow.holds Try.pinned (OpenSpec.ofChange fnExactSameSumSpec)

/-- ITS FALSE NEIGHBOUR: 'it returns false'. Refute it at one input. -/
def fnExactSameSumWrong : ChangeSpec := { name := "fnExactSameSum", fn := fun _ => fun
  | [d1, d2] => { results := [.lit (.bool false)], args := [d1, d2] }
  | _ => none }
def FnExactSameSumWrongFalsely : Prop := fnExactSameSumRow.holds Try.pinned (OpenSpec.ofChange fnExactSameSumWrong)

/-- 'laws.FnExactZeroSum': WHATEVER THE INPUT: true; the input reads as it did. -/
def fnExactZeroSumSpec : ChangeSpec := { name := "fnExactZeroSum", fn := fun _ => fun
  | [d1, d2] => { results := [.lit (.bool true)], args := [d1, d2] }
  | _ => none }
def fnExactZeroSumRow : OpenClaim := { program := "ytpobonomdfbanaa", sum := "b75435de6bd21841a68c442af27a2e7fe1034af373a1e2231020c7b5e6e40b8c", func := "loop.example/g01169/laws.FnExactZeroSum", spec := "fnExactZeroSum", plainKeys := false, apart := false }
def FnExactZeroSumSaid : Prop := fnExactZeroSumRow.holds Try.pinned (OpenSpec.ofChange fnExactZeroSumSpec)

/-- ITS FALSE NEIGHBOUR: 'it returns false'. Refute it at one input. -/
def fnExactZeroSumWrong : ChangeSpec := { name := "fnExactZeroSum", fn := fun _ => fun
  | [d1, d2] => { results := [.lit (.bool false)], args := [d1, d2] }
  | _ => none }
def FnExactZeroSumWrongFalsely : Prop := fnExactZeroSumRow.holds Try.pinned (OpenSpec.ofChange fnExactZeroSumWrong)

/-- 'laws.FnExactSumOfFlag': WHATEVER THE INPUT: true; the input reads as it did. -/
def fnExactSumOfFlagSpec : ChangeSpec := { name := "fnExactSumOfFlag", fn := fun _ => fun
  | [d] => { results := [.lit (.bool true)], args := [d] }
  | _ => none }
def fnExactSumOfFlagRow : OpenClaim := { program := "ytpobonomdfbanaa", sum := "b75435de6bd21841a68c442af27a2e7fe1034af373a1e2231020c7b5e6e40b8c", func := "loop.example/g01169/laws.FnExactSumOfFlag", spec := "fnExactSumOfFlag", unfollowed := true, recurses := true, plainKeys := false, apart := false }
def FnExactSumOfFlagSaid : Prop := fnExactSumOfFlagRow.holds Try.pinned (OpenSpec.ofChange fnExactSumOfFlagSpec)

/-- ITS FALSE NEIGHBOUR: 'it returns false'. Refute it at one input. -/
def fnExactSumOfFlagWrong : ChangeSpec := { name := "fnExactSumOfFlag", fn := fun _ => fun
  | [d] => { results := [.lit (.bool false)], args := [d] }
  | _ => none }
def FnExactSumOfFlagWrongFalsely : Prop := fnExactSumOfFlagRow.holds Try.pinned (OpenSpec.ofChange fnExactSumOfFlagWrong)

/-- 'laws.FnExactCoefficientOf': WHATEVER THE INPUT: true; the input reads as it did. -/
def fnExactCoefficientOfSpec : ChangeSpec := { name := "fnExactCoefficientOf", fn := fun _ => fun
  | [d1, d2] => { results := [.lit (.bool true)], args := [d1, d2] }
  | _ => none }
def fnExactCoefficientOfRow : OpenClaim := { program := "ytpobonomdfbanaa", sum := "b75435de6bd21841a68c442af27a2e7fe1034af373a1e2231020c7b5e6e40b8c", func := "loop.example/g01169/laws.FnExactCoefficientOf", spec := "fnExactCoefficientOf", unfollowed := true, recurses := true, plainKeys := false, apart := false }
def FnExactCoefficientOfSaid : Prop := fnExactCoefficientOfRow.holds Try.pinned (OpenSpec.ofChange fnExactCoefficientOfSpec)

/-- ITS FALSE NEIGHBOUR: 'it returns false'. Refute it at one input. -/
def fnExactCoefficientOfWrong : ChangeSpec := { name := "fnExactCoefficientOf", fn := fun _ => fun
  | [d1, d2] => { results := [.lit (.bool false)], args := [d1, d2] }
  | _ => none }
def FnExactCoefficientOfWrongFalsely : Prop := fnExactCoefficientOfRow.holds Try.pinned (OpenSpec.ofChange fnExactCoefficientOfWrong)

/-- 'laws.FnExactWithoutForbidden': WHATEVER THE INPUT: true; the input reads as it did. -/
def fnExactWithoutForbiddenSpec : ChangeSpec := { name := "fnExactWithoutForbidden", fn := fun _ => fun
  | [d1, d2] => { results := [.lit (.bool true)], args := [d1, d2] }
  | _ => none }
def fnExactWithoutForbiddenRow : OpenClaim := { program := "ytpobonomdfbanaa", sum := "b75435de6bd21841a68c442af27a2e7fe1034af373a1e2231020c7b5e6e40b8c", func := "loop.example/g01169/laws.FnExactWithoutForbidden", spec := "fnExactWithoutForbidden", unfollowed := true, recurses := true, plainKeys := false, apart := false }
def FnExactWithoutForbiddenSaid : Prop := fnExactWithoutForbiddenRow.holds Try.pinned (OpenSpec.ofChange fnExactWithoutForbiddenSpec)

/-- ITS FALSE NEIGHBOUR: 'it returns false'. Refute it at one input. -/
def fnExactWithoutForbiddenWrong : ChangeSpec := { name := "fnExactWithoutForbidden", fn := fun _ => fun
  | [d1, d2] => { results := [.lit (.bool false)], args := [d1, d2] }
  | _ => none }
def FnExactWithoutForbiddenWrongFalsely : Prop := fnExactWithoutForbiddenRow.holds Try.pinned (OpenSpec.ofChange fnExactWithoutForbiddenWrong)

/-- 'laws.FnExactLeastValue': WHATEVER THE INPUT: true; the input reads as it did. -/
def fnExactLeastValueSpec : ChangeSpec := { name := "fnExactLeastValue", fn := fun _ => fun
  | [d1, d2] => { results := [.lit (.bool true)], args := [d1, d2] }
  | _ => none }
def fnExactLeastValueRow : OpenClaim := { program := "ytpobonomdfbanaa", sum := "b75435de6bd21841a68c442af27a2e7fe1034af373a1e2231020c7b5e6e40b8c", func := "loop.example/g01169/laws.FnExactLeastValue", spec := "fnExactLeastValue", unfollowed := true, recurses := true, plainKeys := false, apart := false }
def FnExactLeastValueSaid : Prop := fnExactLeastValueRow.holds Try.pinned (OpenSpec.ofChange fnExactLeastValueSpec)

/-- ITS FALSE NEIGHBOUR: 'it returns false'. Refute it at one input. -/
def fnExactLeastValueWrong : ChangeSpec := { name := "fnExactLeastValue", fn := fun _ => fun
  | [d1, d2] => { results := [.lit (.bool false)], args := [d1, d2] }
  | _ => none }
def FnExactLeastValueWrongFalsely : Prop := fnExactLeastValueRow.holds Try.pinned (OpenSpec.ofChange fnExactLeastValueWrong)

/-- 'laws.FnExactAllOnes': WHATEVER THE INPUT: true; the input reads as it did. -/
def fnExactAllOnesSpec : ChangeSpec := { name := "fnExactAllOnes", fn := fun _ => fun
  | [d1, d2] => { results := [.lit (.bool true)], args := [d1, d2] }
  | _ => none }
def fnExactAllOnesRow : OpenClaim := { program := "ytpobonomdfbanaa", sum := "b75435de6bd21841a68c442af27a2e7fe1034af373a1e2231020c7b5e6e40b8c", func := "loop.example/g01169/laws.FnExactAllOnes", spec := "fnExactAllOnes", unfollowed := true, recurses := true, plainKeys := false, apart := false }
def FnExactAllOnesSaid : Prop := fnExactAllOnesRow.holds Try.pinned (OpenSpec.ofChange fnExactAllOnesSpec)

/-- ITS FALSE NEIGHBOUR: 'it returns false'. Refute it at one input. -/
def fnExactAllOnesWrong : ChangeSpec := { name := "fnExactAllOnes", fn := fun _ => fun
  | [d1, d2] => { results := [.lit (.bool false)], args := [d1, d2] }
  | _ => none }
def FnExactAllOnesWrongFalsely : Prop := fnExactAllOnesRow.holds Try.pinned (OpenSpec.ofChange fnExactAllOnesWrong)

/-- 'laws.FnExactScaleSum': WHATEVER THE INPUT: true; the input reads as it did. -/
def fnExactScaleSumSpec : ChangeSpec := { name := "fnExactScaleSum", fn := fun _ => fun
  | [d1, d2] => { results := [.lit (.bool true)], args := [d1, d2] }
  | _ => none }
def fnExactScaleSumRow : OpenClaim := { program := "ytpobonomdfbanaa", sum := "b75435de6bd21841a68c442af27a2e7fe1034af373a1e2231020c7b5e6e40b8c", func := "loop.example/g01169/laws.FnExactScaleSum", spec := "fnExactScaleSum", unfollowed := true, recurses := true, plainKeys := false, apart := false }
def FnExactScaleSumSaid : Prop := fnExactScaleSumRow.holds Try.pinned (OpenSpec.ofChange fnExactScaleSumSpec)

/-- ITS FALSE NEIGHBOUR: 'it returns false'. Refute it at one input. -/
def fnExactScaleSumWrong : ChangeSpec := { name := "fnExactScaleSum", fn := fun _ => fun
  | [d1, d2] => { results := [.lit (.bool false)], args := [d1, d2] }
  | _ => none }
def FnExactScaleSumWrongFalsely : Prop := fnExactScaleSumRow.holds Try.pinned (OpenSpec.ofChange fnExactScaleSumWrong)

/- THE SECOND FORM. 'bulk': how many values and letters a reading holds, each counted each time it is reached (what is shared counts as often as it is met; a slice's spare places count too). A statement '..UptoSaid' is the law's where the arguments, and the package variables that the reading takes, are together of bulk at most 1048576: NARROWER than '..Said'. Prove '..Said' where nothing that the law and all that it calls make is longer than what came in: it says more and counts as full. Else prove '..UptoSaid'. A law counts once. -/
mutual
def uptoBulk {H : Type} : DataW H → Nat
  | .lit (.string bytes) => bytes.length + 1
  | .lit _ => 1
  | .nil => 1
  | .ptr d => uptoBulk d + 1
  | .slice elems spare => uptoBulkAll elems + uptoBulkAll spare + 1
  | .agg parts => uptoBulkAll parts + 1
  | .iface _ d => uptoBulk d + 1
  | .map entries => uptoBulkEntries entries + 1
  | .held _ => 1
def uptoBulkAll {H : Type} : List (DataW H) → Nat
  | [] => 0
  | d :: r => uptoBulk d + uptoBulkAll r
def uptoBulkEntries {H : Type} : List (Lit × DataW H) → Nat
  | [] => 0
  | x :: r => uptoBulkEntry x + uptoBulkEntries r
def uptoBulkEntry {H : Type} : Lit × DataW H → Nat
  | (.string bytes, d) => bytes.length + uptoBulk d + 1
  | (_, d) => uptoBulk d + 1
 end
def uptoSmall : (H : Type) → List (DataW H) → Bool := fun _ ds => decide (uptoBulkAll ds ≤ 1048576)
def OpenSpec.upto (s : _root_.Go.ChangeSpec) : _root_.Go.OpenSpec := { _root_.Go.OpenSpec.ofChange s with cond := some uptoSmall }

/-- 'laws.FnExactExtensionsOf', WHERE WHAT IT READS IS OF BULK AT MOST 1048576: true; the input reads as it did. -/
def fnExactExtensionsOfUptoRow : OpenClaim := { program := "ytpobonomdfbanaa", sum := "b75435de6bd21841a68c442af27a2e7fe1034af373a1e2231020c7b5e6e40b8c", func := "loop.example/g01169/laws.FnExactExtensionsOf", spec := "fnExactExtensionsOf", unfollowed := true, recurses := true, plainKeys := false, apart := false, narrowed := true }
def FnExactExtensionsOfUptoSaid : Prop := fnExactExtensionsOfUptoRow.holds Try.pinned (OpenSpec.upto fnExactExtensionsOfSpec)

/-- 'laws.FnExactValidSum', WHERE WHAT IT READS IS OF BULK AT MOST 1048576: true; the input reads as it did. -/
def fnExactValidSumUptoRow : OpenClaim := { program := "ytpobonomdfbanaa", sum := "b75435de6bd21841a68c442af27a2e7fe1034af373a1e2231020c7b5e6e40b8c", func := "loop.example/g01169/laws.FnExactValidSum", spec := "fnExactValidSum", unfollowed := true, recurses := true, plainKeys := false, apart := false, narrowed := true }
def FnExactValidSumUptoSaid : Prop := fnExactValidSumUptoRow.holds Try.pinned (OpenSpec.upto fnExactValidSumSpec)

/-- 'laws.FnExactSameSum', WHERE WHAT IT READS IS OF BULK AT MOST 1048576: true; the input reads as it did. -/
def fnExactSameSumUptoRow : OpenClaim := { program := "ytpobonomdfbanaa", sum := "b75435de6bd21841a68c442af27a2e7fe1034af373a1e2231020c7b5e6e40b8c", func := "loop.example/g01169/laws.FnExactSameSum", spec := "fnExactSameSum", plainKeys := false, apart := false, narrowed := true }
def FnExactSameSumUptoSaid : Prop := fnExactSameSumUptoRow.holds Try.pinned (OpenSpec.upto fnExactSameSumSpec)

/-- 'laws.FnExactZeroSum', WHERE WHAT IT READS IS OF BULK AT MOST 1048576: true; the input reads as it did. -/
def fnExactZeroSumUptoRow : OpenClaim := { program := "ytpobonomdfbanaa", sum := "b75435de6bd21841a68c442af27a2e7fe1034af373a1e2231020c7b5e6e40b8c", func := "loop.example/g01169/laws.FnExactZeroSum", spec := "fnExactZeroSum", plainKeys := false, apart := false, narrowed := true }
def FnExactZeroSumUptoSaid : Prop := fnExactZeroSumUptoRow.holds Try.pinned (OpenSpec.upto fnExactZeroSumSpec)

/-- 'laws.FnExactSumOfFlag', WHERE WHAT IT READS IS OF BULK AT MOST 1048576: true; the input reads as it did. -/
def fnExactSumOfFlagUptoRow : OpenClaim := { program := "ytpobonomdfbanaa", sum := "b75435de6bd21841a68c442af27a2e7fe1034af373a1e2231020c7b5e6e40b8c", func := "loop.example/g01169/laws.FnExactSumOfFlag", spec := "fnExactSumOfFlag", unfollowed := true, recurses := true, plainKeys := false, apart := false, narrowed := true }
def FnExactSumOfFlagUptoSaid : Prop := fnExactSumOfFlagUptoRow.holds Try.pinned (OpenSpec.upto fnExactSumOfFlagSpec)

/-- 'laws.FnExactCoefficientOf', WHERE WHAT IT READS IS OF BULK AT MOST 1048576: true; the input reads as it did. -/
def fnExactCoefficientOfUptoRow : OpenClaim := { program := "ytpobonomdfbanaa", sum := "b75435de6bd21841a68c442af27a2e7fe1034af373a1e2231020c7b5e6e40b8c", func := "loop.example/g01169/laws.FnExactCoefficientOf", spec := "fnExactCoefficientOf", unfollowed := true, recurses := true, plainKeys := false, apart := false, narrowed := true }
def FnExactCoefficientOfUptoSaid : Prop := fnExactCoefficientOfUptoRow.holds Try.pinned (OpenSpec.upto fnExactCoefficientOfSpec)

/-- 'laws.FnExactWithoutForbidden', WHERE WHAT IT READS IS OF BULK AT MOST 1048576: true; the input reads as it did. -/
def fnExactWithoutForbiddenUptoRow : OpenClaim := { program := "ytpobonomdfbanaa", sum := "b75435de6bd21841a68c442af27a2e7fe1034af373a1e2231020c7b5e6e40b8c", func := "loop.example/g01169/laws.FnExactWithoutForbidden", spec := "fnExactWithoutForbidden", unfollowed := true, recurses := true, plainKeys := false, apart := false, narrowed := true }
def FnExactWithoutForbiddenUptoSaid : Prop := fnExactWithoutForbiddenUptoRow.holds Try.pinned (OpenSpec.upto fnExactWithoutForbiddenSpec)

/-- 'laws.FnExactLeastValue', WHERE WHAT IT READS IS OF BULK AT MOST 1048576: true; the input reads as it did. -/
def fnExactLeastValueUptoRow : OpenClaim := { program := "ytpobonomdfbanaa", sum := "b75435de6bd21841a68c442af27a2e7fe1034af373a1e2231020c7b5e6e40b8c", func := "loop.example/g01169/laws.FnExactLeastValue", spec := "fnExactLeastValue", unfollowed := true, recurses := true, plainKeys := false, apart := false, narrowed := true }
def FnExactLeastValueUptoSaid : Prop := fnExactLeastValueUptoRow.holds Try.pinned (OpenSpec.upto fnExactLeastValueSpec)

/-- 'laws.FnExactAllOnes', WHERE WHAT IT READS IS OF BULK AT MOST 1048576: true; the input reads as it did. -/
def fnExactAllOnesUptoRow : OpenClaim := { program := "ytpobonomdfbanaa", sum := "b75435de6bd21841a68c442af27a2e7fe1034af373a1e2231020c7b5e6e40b8c", func := "loop.example/g01169/laws.FnExactAllOnes", spec := "fnExactAllOnes", unfollowed := true, recurses := true, plainKeys := false, apart := false, narrowed := true }
def FnExactAllOnesUptoSaid : Prop := fnExactAllOnesUptoRow.holds Try.pinned (OpenSpec.upto fnExactAllOnesSpec)

/-- 'laws.FnExactScaleSum', WHERE WHAT IT READS IS OF BULK AT MOST 1048576: true; the input reads as it did. -/
def fnExactScaleSumUptoRow : OpenClaim := { program := "ytpobonomdfbanaa", sum := "b75435de6bd21841a68c442af27a2e7fe1034af373a1e2231020c7b5e6e40b8c", func := "loop.example/g01169/laws.FnExactScaleSum", spec := "fnExactScaleSum", unfollowed := true, recurses := true, plainKeys := false, apart := false, narrowed := true }
def FnExactScaleSumUptoSaid : Prop := fnExactScaleSumUptoRow.holds Try.pinned (OpenSpec.upto fnExactScaleSumSpec)

end Rows
end Go.Proofs.Ytpobonomdfbanaa
