/-
  No cell of these rows narrows 'for every input' (looked for: loops, veiled, ifaces, maps, wideKeys, modest, calm, conditions, laid).
  DERIVED. THE GIVEN ROWS OF THIS SEAT. 5 by the template 'for every input the law returns true; each argument reads behind the call as it read before'; 0 by the template 'total and deterministic' (their statements: YtmbjhncgdmbpaabTotals.lean).
  GIVEN WITH THE SEED: the statements are not yours to turn. If you find one false, say at which input.
  Laid BY PROGRAM, IN A SANDBOX (cutbox-rows.mjs): the forced cells as the released guide's own fill.sh prints them over the translation e0b4ad314cdce0b8… (all of the seat's roots in one cut). By AI agents, Wed Nov 11 2026. No macro, syntax, notation, axiom, sorry.
-/
import Derived.Test.YtmbjhncgdmbpaabChecked
import GoSem.Claim
import GoSem.ClaimJoined
import GoSem.ClaimMapViews
import Derived.JoinedTies
import Derived.KernelRfl
namespace Go.Proofs.Ytmbjhncgdmbpaab
/- THE CELL 'sum', in the pinned program and in every row, IS THE sha256 OF THE DUMP (.gsa) THAT YtmbjhncgdmbpaabProg.lean LOADS. Nothing in Lean hashes anything: it is a label: what it is worth is what the hold of that sum in a sandbox is worth. -/
noncomputable def Try.pinned : Pinned := { name := "ytmbjhncgdmbpaab", sum := "e0b4ad314cdce0b80424683a08c099106180cc28c3254643ada742ca5285bd86", checked := Try.checked }
namespace Rows
def none {H : Type} : Left H := { results := [], args := [] }

/-- 'laws.FnExactAllTypes': WHATEVER THE INPUT: true; the input reads as it did. -/
def fnExactAllTypesSpec : ChangeSpec := { name := "fnExactAllTypes", fn := fun _ => fun
  | [d1, d2] => { results := [.lit (.bool true)], args := [d1, d2] }
  | _ => none }
def fnExactAllTypesRow : OpenClaim := { program := "ytmbjhncgdmbpaab", sum := "e0b4ad314cdce0b80424683a08c099106180cc28c3254643ada742ca5285bd86", func := "loop.example/g01169/laws.FnExactAllTypes", spec := "fnExactAllTypes", unfollowed := true, recurses := true, plainKeys := false, apart := false }
def FnExactAllTypesSaid : Prop := fnExactAllTypesRow.holds Try.pinned (OpenSpec.ofChange fnExactAllTypesSpec)

/-- ITS FALSE NEIGHBOUR: 'it returns false'. Refute it at one input. -/
def fnExactAllTypesWrong : ChangeSpec := { name := "fnExactAllTypes", fn := fun _ => fun
  | [d1, d2] => { results := [.lit (.bool false)], args := [d1, d2] }
  | _ => none }
def FnExactAllTypesWrongFalsely : Prop := fnExactAllTypesRow.holds Try.pinned (OpenSpec.ofChange fnExactAllTypesWrong)

/-- 'laws.FnExactAllFlags': WHATEVER THE INPUT: true; the input reads as it did. -/
def fnExactAllFlagsSpec : ChangeSpec := { name := "fnExactAllFlags", fn := fun _ => fun
  | [d1, d2, d3] => { results := [.lit (.bool true)], args := [d1, d2, d3] }
  | _ => none }
def fnExactAllFlagsRow : OpenClaim := { program := "ytmbjhncgdmbpaab", sum := "e0b4ad314cdce0b80424683a08c099106180cc28c3254643ada742ca5285bd86", func := "loop.example/g01169/laws.FnExactAllFlags", spec := "fnExactAllFlags", unfollowed := true, recurses := true, plainKeys := false, apart := false }
def FnExactAllFlagsSaid : Prop := fnExactAllFlagsRow.holds Try.pinned (OpenSpec.ofChange fnExactAllFlagsSpec)

/-- ITS FALSE NEIGHBOUR: 'it returns false'. Refute it at one input. -/
def fnExactAllFlagsWrong : ChangeSpec := { name := "fnExactAllFlags", fn := fun _ => fun
  | [d1, d2, d3] => { results := [.lit (.bool false)], args := [d1, d2, d3] }
  | _ => none }
def FnExactAllFlagsWrongFalsely : Prop := fnExactAllFlagsRow.holds Try.pinned (OpenSpec.ofChange fnExactAllFlagsWrong)

/-- 'laws.FnExactIndexOfFlag': WHATEVER THE INPUT: true; the input reads as it did. -/
def fnExactIndexOfFlagSpec : ChangeSpec := { name := "fnExactIndexOfFlag", fn := fun _ => fun
  | [d1, d2] => { results := [.lit (.bool true)], args := [d1, d2] }
  | _ => none }
def fnExactIndexOfFlagRow : OpenClaim := { program := "ytmbjhncgdmbpaab", sum := "e0b4ad314cdce0b80424683a08c099106180cc28c3254643ada742ca5285bd86", func := "loop.example/g01169/laws.FnExactIndexOfFlag", spec := "fnExactIndexOfFlag", unfollowed := true, recurses := true, plainKeys := false, apart := false }
def FnExactIndexOfFlagSaid : Prop := fnExactIndexOfFlagRow.holds Try.pinned (OpenSpec.ofChange fnExactIndexOfFlagSpec)

/-- ITS FALSE NEIGHBOUR: 'it returns false'. Refute it at one input. -/
def fnExactIndexOfFlagWrong : ChangeSpec := { name := "fnExactIndexOfFlag", fn := fun _ => fun
  | [d1, d2] => { results := [.lit (.bool false)], args := [d1, d2] }
  | _ => none }
def FnExactIndexOfFlagWrongFalsely : Prop := fnExactIndexOfFlagRow.holds Try.pinned (OpenSpec.ofChange fnExactIndexOfFlagWrong)

/-- 'laws.FnExactCountLabelings': WHATEVER THE INPUT: true; the input reads as it did. -/
def fnExactCountLabelingsSpec : ChangeSpec := { name := "fnExactCountLabelings", fn := fun _ => fun
  | [d] => { results := [.lit (.bool true)], args := [d] }
  | _ => none }
def fnExactCountLabelingsRow : OpenClaim := { program := "ytmbjhncgdmbpaab", sum := "e0b4ad314cdce0b80424683a08c099106180cc28c3254643ada742ca5285bd86", func := "loop.example/g01169/laws.FnExactCountLabelings", spec := "fnExactCountLabelings", unfollowed := true, recurses := true, plainKeys := false, apart := false }
def FnExactCountLabelingsSaid : Prop := fnExactCountLabelingsRow.holds Try.pinned (OpenSpec.ofChange fnExactCountLabelingsSpec)

/-- ITS FALSE NEIGHBOUR: 'it returns false'. Refute it at one input. -/
def fnExactCountLabelingsWrong : ChangeSpec := { name := "fnExactCountLabelings", fn := fun _ => fun
  | [d] => { results := [.lit (.bool false)], args := [d] }
  | _ => none }
def FnExactCountLabelingsWrongFalsely : Prop := fnExactCountLabelingsRow.holds Try.pinned (OpenSpec.ofChange fnExactCountLabelingsWrong)

/-- 'laws.FnExactExtensionsOf': WHATEVER THE INPUT: true; the input reads as it did. -/
def fnExactExtensionsOfSpec : ChangeSpec := { name := "fnExactExtensionsOf", fn := fun _ => fun
  | [d1, d2] => { results := [.lit (.bool true)], args := [d1, d2] }
  | _ => none }
def fnExactExtensionsOfRow : OpenClaim := { program := "ytmbjhncgdmbpaab", sum := "e0b4ad314cdce0b80424683a08c099106180cc28c3254643ada742ca5285bd86", func := "loop.example/g01169/laws.FnExactExtensionsOf", spec := "fnExactExtensionsOf", unfollowed := true, recurses := true, plainKeys := false, apart := false }
def FnExactExtensionsOfSaid : Prop := fnExactExtensionsOfRow.holds Try.pinned (OpenSpec.ofChange fnExactExtensionsOfSpec)

/-- ITS FALSE NEIGHBOUR: 'it returns false'. Refute it at one input. -/
def fnExactExtensionsOfWrong : ChangeSpec := { name := "fnExactExtensionsOf", fn := fun _ => fun
  | [d1, d2] => { results := [.lit (.bool false)], args := [d1, d2] }
  | _ => none }
def FnExactExtensionsOfWrongFalsely : Prop := fnExactExtensionsOfRow.holds Try.pinned (OpenSpec.ofChange fnExactExtensionsOfWrong)

/- THE SECOND FORM. 'bulk': how many values and letters a reading holds, each counted each time it is reached (what is shared counts as often as it is met; a slice's spare places count too). A statement '..UptoSaid' is the law's where the arguments, and the package variables that the reading takes, are together of bulk at most 1048576: NARROWER than '..Said'. Prove '..Said' where nothing that the law and all that it calls make is longer than what came in: it says more and counts as full. Else prove '..UptoSaid'. A law counts once. -/
mutual
def uptoBulk {H : Type} : DataW H → Nat
  | .lit (.string bytes) => bytes.length + 1
  | .lit _ => 1
  | .nil => 1
  | .ptr d => uptoBulk d + 1
  | .slice elems spare => uptoBulkAll elems + uptoBulkAll spare + 1
  | .agg parts => uptoBulkAll parts + 1
  | .iface _ d => uptoBulk d + 1
  | .map entries => uptoBulkEntries entries + 1
  | .held _ => 1
def uptoBulkAll {H : Type} : List (DataW H) → Nat
  | [] => 0
  | d :: r => uptoBulk d + uptoBulkAll r
def uptoBulkEntries {H : Type} : List (Lit × DataW H) → Nat
  | [] => 0
  | x :: r => uptoBulkEntry x + uptoBulkEntries r
def uptoBulkEntry {H : Type} : Lit × DataW H → Nat
  | (.string bytes, d) => bytes.length + uptoBulk d + 1
  | (_, d) => uptoBulk d + 1
 end
def uptoSmall : (H : Type) → List (DataW H) → Bool := fun _ ds => decide (uptoBulkAll ds ≤ 1048576)
def OpenSpec.upto (s : _root_.Go.ChangeSpec) : _root_.Go.OpenSpec := { _root_.Go.OpenSpec.ofChange s with cond := some uptoSmall }

/-- 'laws.FnExactAllTypes', WHERE WHAT IT READS IS OF BULK AT MOST 1048576: true; the input reads as it did. -/
def fnExactAllTypesUptoRow : OpenClaim := { program := "ytmbjhncgdmbpaab", sum := "e0b4ad314cdce0b80424683a08c099106180cc28c3254643ada742ca5285bd86", func := "loop.example/g01169/laws.FnExactAllTypes", spec := "fnExactAllTypes", unfollowed := true, recurses := true, plainKeys := false, apart := false, narrowed := true }
def FnExactAllTypesUptoSaid : Prop := fnExactAllTypesUptoRow.holds Try.pinned (OpenSpec.upto fnExactAllTypesSpec)

/-- 'laws.FnExactAllFlags', WHERE WHAT IT READS IS OF BULK AT MOST 1048576: true; the input reads as it did. -/
def fnExactAllFlagsUptoRow : OpenClaim := { program := "ytmbjhncgdmbpaab", sum := "e0b4ad314cdce0b80424683a08c099106180cc28c3254643ada742ca5285bd86", func := "loop.example/g01169/laws.FnExactAllFlags", spec := "fnExactAllFlags", unfollowed := true, recurses := true, plainKeys := false, apart := false, narrowed := true }
def FnExactAllFlagsUptoSaid : Prop := fnExactAllFlagsUptoRow.holds Try.pinned (OpenSpec.upto fnExactAllFlagsSpec)

/-- 'laws.FnExactIndexOfFlag', WHERE WHAT IT READS IS OF BULK AT MOST 1048576: true; the input reads as it did. -/
def fnExactIndexOfFlagUptoRow : OpenClaim := { program := "ytmbjhncgdmbpaab", sum := "e0b4ad314cdce0b80424683a08c099106180cc28c3254643ada742ca5285bd86", func := "loop.example/g01169/laws.FnExactIndexOfFlag", spec := "fnExactIndexOfFlag", unfollowed := true, recurses := true, plainKeys := false, apart := false, narrowed := true }
def FnExactIndexOfFlagUptoSaid : Prop := fnExactIndexOfFlagUptoRow.holds Try.pinned (OpenSpec.upto fnExactIndexOfFlagSpec)

/-- 'laws.FnExactCountLabelings', WHERE WHAT IT READS IS OF BULK AT MOST 1048576: true; the input reads as it did. -/
def fnExactCountLabelingsUptoRow : OpenClaim := { program := "ytmbjhncgdmbpaab", sum := "e0b4ad314cdce0b80424683a08c099106180cc28c3254643ada742ca5285bd86", func := "loop.example/g01169/laws.FnExactCountLabelings", spec := "fnExactCountLabelings", unfollowed := true, recurses := true, plainKeys := false, apart := false, narrowed := true }
def FnExactCountLabelingsUptoSaid : Prop := fnExactCountLabelingsUptoRow.holds Try.pinned (OpenSpec.upto fnExactCountLabelingsSpec)

/-- 'laws.FnExactExtensionsOf', WHERE WHAT IT READS IS OF BULK AT MOST 1048576: true; the input reads as it did. -/
def fnExactExtensionsOfUptoRow : OpenClaim := { program := "ytmbjhncgdmbpaab", sum := "e0b4ad314cdce0b80424683a08c099106180cc28c3254643ada742ca5285bd86", func := "loop.example/g01169/laws.FnExactExtensionsOf", spec := "fnExactExtensionsOf", unfollowed := true, recurses := true, plainKeys := false, apart := false, narrowed := true }
def FnExactExtensionsOfUptoSaid : Prop := fnExactExtensionsOfUptoRow.holds Try.pinned (OpenSpec.upto fnExactExtensionsOfSpec)

end Rows
end Go.Proofs.Ytmbjhncgdmbpaab
