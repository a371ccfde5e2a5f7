/-
  No cell of these rows narrows 'for every input' (looked for: loops, veiled, ifaces, maps, wideKeys, modest, calm, conditions, laid).
  DERIVED. THE GIVEN ROWS OF THIS SEAT. 10 by the template 'for every input the law returns true; each argument reads behind the call as it read before'; 0 by the template 'total and deterministic' (their statements: YtoiepgdjknpjiabTotals.lean).
  GIVEN WITH THE SEED: the statements are not yours to turn. If you find one false, say at which input.
  Laid BY PROGRAM, IN A SANDBOX (cutbox-rows.mjs): the forced cells as the released guide's own fill.sh prints them over the translation 33ac42a638058788… (all of the seat's roots in one cut). By AI agents, Wed Nov 11 2026. No macro, syntax, notation, axiom, sorry.
-/
import Derived.Test.YtoiepgdjknpjiabChecked
import GoSem.Claim
import GoSem.ClaimJoined
import GoSem.ClaimMapViews
import Derived.JoinedTies
import Derived.KernelRfl
namespace Go.Proofs.Ytoiepgdjknpjiab
/- THE CELL 'sum', in the pinned program and in every row, IS THE sha256 OF THE DUMP (.gsa) THAT YtoiepgdjknpjiabProg.lean LOADS. Nothing in Lean hashes anything: it is a label: what it is worth is what the hold of that sum in a sandbox is worth. -/
noncomputable def Try.pinned : Pinned := { name := "ytoiepgdjknpjiab", sum := "33ac42a638058788a1ed295a081695b5712c2c8c66bef0a1fb2357141ec38c5e", checked := Try.checked }
namespace Rows
def none {H : Type} : Left H := { results := [], args := [] }

/-- 'laws.FnExactPairsOf': WHATEVER THE INPUT: true; the input reads as it did. -/
def fnExactPairsOfSpec : ChangeSpec := { name := "fnExactPairsOf", fn := fun _ => fun
  | [d] => { results := [.lit (.bool true)], args := [d] }
  | _ => none }
def fnExactPairsOfRow : OpenClaim := { program := "ytoiepgdjknpjiab", sum := "33ac42a638058788a1ed295a081695b5712c2c8c66bef0a1fb2357141ec38c5e", func := "loop.example/g01169/laws.FnExactPairsOf", spec := "fnExactPairsOf", unfollowed := true, recurses := true, apart := false }
def FnExactPairsOfSaid : Prop := fnExactPairsOfRow.holds Try.pinned (OpenSpec.ofChange fnExactPairsOfSpec)

/-- ITS FALSE NEIGHBOUR: 'it returns false'. Refute it at one input. -/
def fnExactPairsOfWrong : ChangeSpec := { name := "fnExactPairsOf", fn := fun _ => fun
  | [d] => { results := [.lit (.bool false)], args := [d] }
  | _ => none }
def FnExactPairsOfWrongFalsely : Prop := fnExactPairsOfRow.holds Try.pinned (OpenSpec.ofChange fnExactPairsOfWrong)

/-- 'laws.FnExactCompleteGraph': WHATEVER THE INPUT: true; the input reads as it did. -/
def fnExactCompleteGraphSpec : ChangeSpec := { name := "fnExactCompleteGraph", fn := fun _ => fun
  | [d] => { results := [.lit (.bool true)], args := [d] }
  | _ => none }
def fnExactCompleteGraphRow : OpenClaim := { program := "ytoiepgdjknpjiab", sum := "33ac42a638058788a1ed295a081695b5712c2c8c66bef0a1fb2357141ec38c5e", func := "loop.example/g01169/laws.FnExactCompleteGraph", spec := "fnExactCompleteGraph", apart := false }
def FnExactCompleteGraphSaid : Prop := fnExactCompleteGraphRow.holds Try.pinned (OpenSpec.ofChange fnExactCompleteGraphSpec)

/-- ITS FALSE NEIGHBOUR: 'it returns false'. Refute it at one input. -/
def fnExactCompleteGraphWrong : ChangeSpec := { name := "fnExactCompleteGraph", fn := fun _ => fun
  | [d] => { results := [.lit (.bool false)], args := [d] }
  | _ => none }
def FnExactCompleteGraphWrongFalsely : Prop := fnExactCompleteGraphRow.holds Try.pinned (OpenSpec.ofChange fnExactCompleteGraphWrong)

/-- 'laws.FnExactCycleGraph': WHATEVER THE INPUT: true; the input reads as it did. -/
def fnExactCycleGraphSpec : ChangeSpec := { name := "fnExactCycleGraph", fn := fun _ => fun
  | [d] => { results := [.lit (.bool true)], args := [d] }
  | _ => none }
def fnExactCycleGraphRow : OpenClaim := { program := "ytoiepgdjknpjiab", sum := "33ac42a638058788a1ed295a081695b5712c2c8c66bef0a1fb2357141ec38c5e", func := "loop.example/g01169/laws.FnExactCycleGraph", spec := "fnExactCycleGraph", recurses := true, apart := false }
def FnExactCycleGraphSaid : Prop := fnExactCycleGraphRow.holds Try.pinned (OpenSpec.ofChange fnExactCycleGraphSpec)

/-- ITS FALSE NEIGHBOUR: 'it returns false'. Refute it at one input. -/
def fnExactCycleGraphWrong : ChangeSpec := { name := "fnExactCycleGraph", fn := fun _ => fun
  | [d] => { results := [.lit (.bool false)], args := [d] }
  | _ => none }
def FnExactCycleGraphWrongFalsely : Prop := fnExactCycleGraphRow.holds Try.pinned (OpenSpec.ofChange fnExactCycleGraphWrong)

/-- 'laws.FnExactPathGraph': WHATEVER THE INPUT: true; the input reads as it did. -/
def fnExactPathGraphSpec : ChangeSpec := { name := "fnExactPathGraph", fn := fun _ => fun
  | [d] => { results := [.lit (.bool true)], args := [d] }
  | _ => none }
def fnExactPathGraphRow : OpenClaim := { program := "ytoiepgdjknpjiab", sum := "33ac42a638058788a1ed295a081695b5712c2c8c66bef0a1fb2357141ec38c5e", func := "loop.example/g01169/laws.FnExactPathGraph", spec := "fnExactPathGraph", recurses := true, apart := false }
def FnExactPathGraphSaid : Prop := fnExactPathGraphRow.holds Try.pinned (OpenSpec.ofChange fnExactPathGraphSpec)

/-- ITS FALSE NEIGHBOUR: 'it returns false'. Refute it at one input. -/
def fnExactPathGraphWrong : ChangeSpec := { name := "fnExactPathGraph", fn := fun _ => fun
  | [d] => { results := [.lit (.bool false)], args := [d] }
  | _ => none }
def FnExactPathGraphWrongFalsely : Prop := fnExactPathGraphRow.holds Try.pinned (OpenSpec.ofChange fnExactPathGraphWrong)

/-- 'laws.FnExactStarGraph': WHATEVER THE INPUT: true; the input reads as it did. -/
def fnExactStarGraphSpec : ChangeSpec := { name := "fnExactStarGraph", fn := fun _ => fun
  | [d] => { results := [.lit (.bool true)], args := [d] }
  | _ => none }
def fnExactStarGraphRow : OpenClaim := { program := "ytoiepgdjknpjiab", sum := "33ac42a638058788a1ed295a081695b5712c2c8c66bef0a1fb2357141ec38c5e", func := "loop.example/g01169/laws.FnExactStarGraph", spec := "fnExactStarGraph", recurses := true, apart := false }
def FnExactStarGraphSaid : Prop := fnExactStarGraphRow.holds Try.pinned (OpenSpec.ofChange fnExactStarGraphSpec)

/-- ITS FALSE NEIGHBOUR: 'it returns false'. Refute it at one input. -/
def fnExactStarGraphWrong : ChangeSpec := { name := "fnExactStarGraph", fn := fun _ => fun
  | [d] => { results := [.lit (.bool false)], args := [d] }
  | _ => none }
def FnExactStarGraphWrongFalsely : Prop := fnExactStarGraphRow.holds Try.pinned (OpenSpec.ofChange fnExactStarGraphWrong)

/-- 'laws.FnExactOppositeGraph': WHATEVER THE INPUT: true; the input reads as it did. -/
def fnExactOppositeGraphSpec : ChangeSpec := { name := "fnExactOppositeGraph", fn := fun _ => fun
  | [d] => { results := [.lit (.bool true)], args := [d] }
  | _ => none }
def fnExactOppositeGraphRow : OpenClaim := { program := "ytoiepgdjknpjiab", sum := "33ac42a638058788a1ed295a081695b5712c2c8c66bef0a1fb2357141ec38c5e", func := "loop.example/g01169/laws.FnExactOppositeGraph", spec := "fnExactOppositeGraph", unfollowed := true, recurses := true, apart := false }
def FnExactOppositeGraphSaid : Prop := fnExactOppositeGraphRow.holds Try.pinned (OpenSpec.ofChange fnExactOppositeGraphSpec)

/-- ITS FALSE NEIGHBOUR: 'it returns false'. Refute it at one input. -/
def fnExactOppositeGraphWrong : ChangeSpec := { name := "fnExactOppositeGraph", fn := fun _ => fun
  | [d] => { results := [.lit (.bool false)], args := [d] }
  | _ => none }
def FnExactOppositeGraphWrongFalsely : Prop := fnExactOppositeGraphRow.holds Try.pinned (OpenSpec.ofChange fnExactOppositeGraphWrong)

/-- 'laws.FnExactDegreesOf': WHATEVER THE INPUT: true; the input reads as it did. -/
def fnExactDegreesOfSpec : ChangeSpec := { name := "fnExactDegreesOf", fn := fun _ => fun
  | [d] => { results := [.lit (.bool true)], args := [d] }
  | _ => none }
def fnExactDegreesOfRow : OpenClaim := { program := "ytoiepgdjknpjiab", sum := "33ac42a638058788a1ed295a081695b5712c2c8c66bef0a1fb2357141ec38c5e", func := "loop.example/g01169/laws.FnExactDegreesOf", spec := "fnExactDegreesOf", unfollowed := true, recurses := true, apart := false }
def FnExactDegreesOfSaid : Prop := fnExactDegreesOfRow.holds Try.pinned (OpenSpec.ofChange fnExactDegreesOfSpec)

/-- ITS FALSE NEIGHBOUR: 'it returns false'. Refute it at one input. -/
def fnExactDegreesOfWrong : ChangeSpec := { name := "fnExactDegreesOf", fn := fun _ => fun
  | [d] => { results := [.lit (.bool false)], args := [d] }
  | _ => none }
def FnExactDegreesOfWrongFalsely : Prop := fnExactDegreesOfRow.holds Try.pinned (OpenSpec.ofChange fnExactDegreesOfWrong)

/-- 'laws.FnExactRenameGraph': WHATEVER THE INPUT: true; the input reads as it did. -/
def fnExactRenameGraphSpec : ChangeSpec := { name := "fnExactRenameGraph", fn := fun _ => fun
  | [d1, d2] => { results := [.lit (.bool true)], args := [d1, d2] }
  | _ => none }
def fnExactRenameGraphRow : OpenClaim := { program := "ytoiepgdjknpjiab", sum := "33ac42a638058788a1ed295a081695b5712c2c8c66bef0a1fb2357141ec38c5e", func := "loop.example/g01169/laws.FnExactRenameGraph", spec := "fnExactRenameGraph", recurses := true, apart := false }
def FnExactRenameGraphSaid : Prop := fnExactRenameGraphRow.holds Try.pinned (OpenSpec.ofChange fnExactRenameGraphSpec)

/-- ITS FALSE NEIGHBOUR: 'it returns false'. Refute it at one input. -/
def fnExactRenameGraphWrong : ChangeSpec := { name := "fnExactRenameGraph", fn := fun _ => fun
  | [d1, d2] => { results := [.lit (.bool false)], args := [d1, d2] }
  | _ => none }
def FnExactRenameGraphWrongFalsely : Prop := fnExactRenameGraphRow.holds Try.pinned (OpenSpec.ofChange fnExactRenameGraphWrong)

/-- 'laws.FnExactInducedOn': WHATEVER THE INPUT: true; the input reads as it did. -/
def fnExactInducedOnSpec : ChangeSpec := { name := "fnExactInducedOn", fn := fun _ => fun
  | [d1, d2] => { results := [.lit (.bool true)], args := [d1, d2] }
  | _ => none }
def fnExactInducedOnRow : OpenClaim := { program := "ytoiepgdjknpjiab", sum := "33ac42a638058788a1ed295a081695b5712c2c8c66bef0a1fb2357141ec38c5e", func := "loop.example/g01169/laws.FnExactInducedOn", spec := "fnExactInducedOn", recurses := true, apart := false }
def FnExactInducedOnSaid : Prop := fnExactInducedOnRow.holds Try.pinned (OpenSpec.ofChange fnExactInducedOnSpec)

/-- ITS FALSE NEIGHBOUR: 'it returns false'. Refute it at one input. -/
def fnExactInducedOnWrong : ChangeSpec := { name := "fnExactInducedOn", fn := fun _ => fun
  | [d1, d2] => { results := [.lit (.bool false)], args := [d1, d2] }
  | _ => none }
def FnExactInducedOnWrongFalsely : Prop := fnExactInducedOnRow.holds Try.pinned (OpenSpec.ofChange fnExactInducedOnWrong)

/-- 'laws.FnExactLeastGraph': WHATEVER THE INPUT: true; the input reads as it did. -/
def fnExactLeastGraphSpec : ChangeSpec := { name := "fnExactLeastGraph", fn := fun _ => fun
  | [d] => { results := [.lit (.bool true)], args := [d] }
  | _ => none }
def fnExactLeastGraphRow : OpenClaim := { program := "ytoiepgdjknpjiab", sum := "33ac42a638058788a1ed295a081695b5712c2c8c66bef0a1fb2357141ec38c5e", func := "loop.example/g01169/laws.FnExactLeastGraph", spec := "fnExactLeastGraph", unfollowed := true, recurses := true, apart := false }
def FnExactLeastGraphSaid : Prop := fnExactLeastGraphRow.holds Try.pinned (OpenSpec.ofChange fnExactLeastGraphSpec)

/-- ITS FALSE NEIGHBOUR: 'it returns false'. Refute it at one input. -/
def fnExactLeastGraphWrong : ChangeSpec := { name := "fnExactLeastGraph", fn := fun _ => fun
  | [d] => { results := [.lit (.bool false)], args := [d] }
  | _ => none }
def FnExactLeastGraphWrongFalsely : Prop := fnExactLeastGraphRow.holds Try.pinned (OpenSpec.ofChange fnExactLeastGraphWrong)

/- THE SECOND FORM. 'bulk': how many values and letters a reading holds, each counted each time it is reached (what is shared counts as often as it is met; a slice's spare places count too). A statement '..UptoSaid' is the law's where the arguments, and the package variables that the reading takes, are together of bulk at most 1048576: NARROWER than '..Said'. Prove '..Said' where nothing that the law and all that it calls make is longer than what came in: it says more and counts as full. Else prove '..UptoSaid'. A law counts once. -/
mutual
def uptoBulk {H : Type} : DataW H → Nat
  | .lit (.string bytes) => bytes.length + 1
  | .lit _ => 1
  | .nil => 1
  | .ptr d => uptoBulk d + 1
  | .slice elems spare => uptoBulkAll elems + uptoBulkAll spare + 1
  | .agg parts => uptoBulkAll parts + 1
  | .iface _ d => uptoBulk d + 1
  | .map entries => uptoBulkEntries entries + 1
  | .held _ => 1
def uptoBulkAll {H : Type} : List (DataW H) → Nat
  | [] => 0
  | d :: r => uptoBulk d + uptoBulkAll r
def uptoBulkEntries {H : Type} : List (Lit × DataW H) → Nat
  | [] => 0
  | x :: r => uptoBulkEntry x + uptoBulkEntries r
def uptoBulkEntry {H : Type} : Lit × DataW H → Nat
  | (.string bytes, d) => bytes.length + uptoBulk d + 1
  | (_, d) => uptoBulk d + 1
 end
def uptoSmall : (H : Type) → List (DataW H) → Bool := fun _ ds => decide (uptoBulkAll ds ≤ 1048576)
def OpenSpec.upto (s : _root_.Go.ChangeSpec) : _root_.Go.OpenSpec := { _root_.Go.OpenSpec.ofChange s with cond := some uptoSmall }

/-- 'laws.FnExactPairsOf', WHERE WHAT IT READS IS OF BULK AT MOST 1048576: true; the input reads as it did. -/
def fnExactPairsOfUptoRow : OpenClaim := { program := "ytoiepgdjknpjiab", sum := "33ac42a638058788a1ed295a081695b5712c2c8c66bef0a1fb2357141ec38c5e", func := "loop.example/g01169/laws.FnExactPairsOf", spec := "fnExactPairsOf", unfollowed := true, recurses := true, apart := false, narrowed := true }
def FnExactPairsOfUptoSaid : Prop := fnExactPairsOfUptoRow.holds Try.pinned (OpenSpec.upto fnExactPairsOfSpec)

/-- 'laws.FnExactCompleteGraph', WHERE WHAT IT READS IS OF BULK AT MOST 1048576: true; the input reads as it did. -/
def fnExactCompleteGraphUptoRow : OpenClaim := { program := "ytoiepgdjknpjiab", sum := "33ac42a638058788a1ed295a081695b5712c2c8c66bef0a1fb2357141ec38c5e", func := "loop.example/g01169/laws.FnExactCompleteGraph", spec := "fnExactCompleteGraph", apart := false, narrowed := true }
def FnExactCompleteGraphUptoSaid : Prop := fnExactCompleteGraphUptoRow.holds Try.pinned (OpenSpec.upto fnExactCompleteGraphSpec)

/-- 'laws.FnExactCycleGraph', WHERE WHAT IT READS IS OF BULK AT MOST 1048576: true; the input reads as it did. -/
def fnExactCycleGraphUptoRow : OpenClaim := { program := "ytoiepgdjknpjiab", sum := "33ac42a638058788a1ed295a081695b5712c2c8c66bef0a1fb2357141ec38c5e", func := "loop.example/g01169/laws.FnExactCycleGraph", spec := "fnExactCycleGraph", recurses := true, apart := false, narrowed := true }
def FnExactCycleGraphUptoSaid : Prop := fnExactCycleGraphUptoRow.holds Try.pinned (OpenSpec.upto fnExactCycleGraphSpec)

/-- 'laws.FnExactPathGraph', WHERE WHAT IT READS IS OF BULK AT MOST 1048576: true; the input reads as it did. -/
def fnExactPathGraphUptoRow : OpenClaim := { program := "ytoiepgdjknpjiab", sum := "33ac42a638058788a1ed295a081695b5712c2c8c66bef0a1fb2357141ec38c5e", func := "loop.example/g01169/laws.FnExactPathGraph", spec := "fnExactPathGraph", recurses := true, apart := false, narrowed := true }
def FnExactPathGraphUptoSaid : Prop := fnExactPathGraphUptoRow.holds Try.pinned (OpenSpec.upto fnExactPathGraphSpec)

/-- 'laws.FnExactStarGraph', WHERE WHAT IT READS IS OF BULK AT MOST 1048576: true; the input reads as it did. -/
def fnExactStarGraphUptoRow : OpenClaim := { program := "ytoiepgdjknpjiab", sum := "33ac42a638058788a1ed295a081695b5712c2c8c66bef0a1fb2357141ec38c5e", func := "loop.example/g01169/laws.FnExactStarGraph", spec := "fnExactStarGraph", recurses := true, apart := false, narrowed := true }
def FnExactStarGraphUptoSaid : Prop := fnExactStarGraphUptoRow.holds Try.pinned (OpenSpec.upto fnExactStarGraphSpec)

/-- 'laws.FnExactOppositeGraph', WHERE WHAT IT READS IS OF BULK AT MOST 1048576: true; the input reads as it did. -/
def fnExactOppositeGraphUptoRow : OpenClaim := { program := "ytoiepgdjknpjiab", sum := "33ac42a638058788a1ed295a081695b5712c2c8c66bef0a1fb2357141ec38c5e", func := "loop.example/g01169/laws.FnExactOppositeGraph", spec := "fnExactOppositeGraph", unfollowed := true, recurses := true, apart := false, narrowed := true }
def FnExactOppositeGraphUptoSaid : Prop := fnExactOppositeGraphUptoRow.holds Try.pinned (OpenSpec.upto fnExactOppositeGraphSpec)

/-- 'laws.FnExactDegreesOf', WHERE WHAT IT READS IS OF BULK AT MOST 1048576: true; the input reads as it did. -/
def fnExactDegreesOfUptoRow : OpenClaim := { program := "ytoiepgdjknpjiab", sum := "33ac42a638058788a1ed295a081695b5712c2c8c66bef0a1fb2357141ec38c5e", func := "loop.example/g01169/laws.FnExactDegreesOf", spec := "fnExactDegreesOf", unfollowed := true, recurses := true, apart := false, narrowed := true }
def FnExactDegreesOfUptoSaid : Prop := fnExactDegreesOfUptoRow.holds Try.pinned (OpenSpec.upto fnExactDegreesOfSpec)

/-- 'laws.FnExactRenameGraph', WHERE WHAT IT READS IS OF BULK AT MOST 1048576: true; the input reads as it did. -/
def fnExactRenameGraphUptoRow : OpenClaim := { program := "ytoiepgdjknpjiab", sum := "33ac42a638058788a1ed295a081695b5712c2c8c66bef0a1fb2357141ec38c5e", func := "loop.example/g01169/laws.FnExactRenameGraph", spec := "fnExactRenameGraph", recurses := true, apart := false, narrowed := true }
def FnExactRenameGraphUptoSaid : Prop := fnExactRenameGraphUptoRow.holds Try.pinned (OpenSpec.upto fnExactRenameGraphSpec)

/-- 'laws.FnExactInducedOn', WHERE WHAT IT READS IS OF BULK AT MOST 1048576: true; the input reads as it did. -/
def fnExactInducedOnUptoRow : OpenClaim := { program := "ytoiepgdjknpjiab", sum := "33ac42a638058788a1ed295a081695b5712c2c8c66bef0a1fb2357141ec38c5e", func := "loop.example/g01169/laws.FnExactInducedOn", spec := "fnExactInducedOn", recurses := true, apart := false, narrowed := true }
def FnExactInducedOnUptoSaid : Prop := fnExactInducedOnUptoRow.holds Try.pinned (OpenSpec.upto fnExactInducedOnSpec)

/-- 'laws.FnExactLeastGraph', WHERE WHAT IT READS IS OF BULK AT MOST 1048576: true; the input reads as it did. -/
def fnExactLeastGraphUptoRow : OpenClaim := { program := "ytoiepgdjknpjiab", sum := "33ac42a638058788a1ed295a081695b5712c2c8c66bef0a1fb2357141ec38c5e", func := "loop.example/g01169/laws.FnExactLeastGraph", spec := "fnExactLeastGraph", unfollowed := true, recurses := true, apart := false, narrowed := true }
def FnExactLeastGraphUptoSaid : Prop := fnExactLeastGraphUptoRow.holds Try.pinned (OpenSpec.upto fnExactLeastGraphSpec)

end Rows
end Go.Proofs.Ytoiepgdjknpjiab
