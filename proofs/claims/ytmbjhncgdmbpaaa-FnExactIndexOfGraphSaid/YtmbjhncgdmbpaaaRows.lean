/-
  No cell of these rows narrows 'for every input' (looked for: loops, veiled, ifaces, maps, wideKeys, modest, calm, conditions, laid).
  DERIVED. THE GIVEN ROWS OF THIS SEAT. 5 by the template 'for every input the law returns true; each argument reads behind the call as it read before'; 0 by the template 'total and deterministic' (their statements: YtmbjhncgdmbpaaaTotals.lean).
  GIVEN WITH THE SEED: the statements are not yours to turn. If you find one false, say at which input.
  Laid BY PROGRAM, IN A SANDBOX (cutbox-rows.mjs): the forced cells as the released guide's own fill.sh prints them over the translation 069a3ac77db9b3d9… (all of the seat's roots in one cut). By AI agents, Wed Nov 11 2026. No macro, syntax, notation, axiom, sorry.
-/
import Derived.Test.YtmbjhncgdmbpaaaChecked
import GoSem.Claim
import GoSem.ClaimJoined
import GoSem.ClaimMapViews
import Derived.JoinedTies
import Derived.KernelRfl
namespace Go.Proofs.Ytmbjhncgdmbpaaa
/- THE CELL 'sum', in the pinned program and in every row, IS THE sha256 OF THE DUMP (.gsa) THAT YtmbjhncgdmbpaaaProg.lean LOADS. Nothing in Lean hashes anything: it is a label: what it is worth is what the hold of that sum in a sandbox is worth. -/
noncomputable def Try.pinned : Pinned := { name := "ytmbjhncgdmbpaaa", sum := "069a3ac77db9b3d90caba474032246d48560f50656c6325d7d43d13b343ae685", checked := Try.checked }
namespace Rows
def none {H : Type} : Left H := { results := [], args := [] }

/-- 'laws.FnExactFreeGraphs': WHATEVER THE INPUT: true; the input reads as it did. -/
def fnExactFreeGraphsSpec : ChangeSpec := { name := "fnExactFreeGraphs", fn := fun _ => fun
  | [d1, d2] => { results := [.lit (.bool true)], args := [d1, d2] }
  | _ => none }
def fnExactFreeGraphsRow : OpenClaim := { program := "ytmbjhncgdmbpaaa", sum := "069a3ac77db9b3d90caba474032246d48560f50656c6325d7d43d13b343ae685", func := "loop.example/g01169/laws.FnExactFreeGraphs", spec := "fnExactFreeGraphs", unfollowed := true, recurses := true, plainKeys := false, apart := false }
def FnExactFreeGraphsSaid : Prop := fnExactFreeGraphsRow.holds Try.pinned (OpenSpec.ofChange fnExactFreeGraphsSpec)

/-- ITS FALSE NEIGHBOUR: 'it returns false'. Refute it at one input. -/
def fnExactFreeGraphsWrong : ChangeSpec := { name := "fnExactFreeGraphs", fn := fun _ => fun
  | [d1, d2] => { results := [.lit (.bool false)], args := [d1, d2] }
  | _ => none }
def FnExactFreeGraphsWrongFalsely : Prop := fnExactFreeGraphsRow.holds Try.pinned (OpenSpec.ofChange fnExactFreeGraphsWrong)

/-- 'laws.FnExactIndexOfGraph': WHATEVER THE INPUT: true; the input reads as it did. -/
def fnExactIndexOfGraphSpec : ChangeSpec := { name := "fnExactIndexOfGraph", fn := fun _ => fun
  | [d] => { results := [.lit (.bool true)], args := [d] }
  | _ => none }
def fnExactIndexOfGraphRow : OpenClaim := { program := "ytmbjhncgdmbpaaa", sum := "069a3ac77db9b3d90caba474032246d48560f50656c6325d7d43d13b343ae685", func := "loop.example/g01169/laws.FnExactIndexOfGraph", spec := "fnExactIndexOfGraph", unfollowed := true, recurses := true, plainKeys := false, apart := false }
def FnExactIndexOfGraphSaid : Prop := fnExactIndexOfGraphRow.holds Try.pinned (OpenSpec.ofChange fnExactIndexOfGraphSpec)

/-- ITS FALSE NEIGHBOUR: 'it returns false'. Refute it at one input. -/
def fnExactIndexOfGraphWrong : ChangeSpec := { name := "fnExactIndexOfGraph", fn := fun _ => fun
  | [d] => { results := [.lit (.bool false)], args := [d] }
  | _ => none }
def FnExactIndexOfGraphWrongFalsely : Prop := fnExactIndexOfGraphRow.holds Try.pinned (OpenSpec.ofChange fnExactIndexOfGraphWrong)

/-- 'laws.FnExactAllGraphs': WHATEVER THE INPUT: true; the input reads as it did. -/
def fnExactAllGraphsSpec : ChangeSpec := { name := "fnExactAllGraphs", fn := fun _ => fun
  | [d] => { results := [.lit (.bool true)], args := [d] }
  | _ => none }
def fnExactAllGraphsRow : OpenClaim := { program := "ytmbjhncgdmbpaaa", sum := "069a3ac77db9b3d90caba474032246d48560f50656c6325d7d43d13b343ae685", func := "loop.example/g01169/laws.FnExactAllGraphs", spec := "fnExactAllGraphs", unfollowed := true, recurses := true, plainKeys := false, apart := false }
def FnExactAllGraphsSaid : Prop := fnExactAllGraphsRow.holds Try.pinned (OpenSpec.ofChange fnExactAllGraphsSpec)

/-- ITS FALSE NEIGHBOUR: 'it returns false'. Refute it at one input. -/
def fnExactAllGraphsWrong : ChangeSpec := { name := "fnExactAllGraphs", fn := fun _ => fun
  | [d] => { results := [.lit (.bool false)], args := [d] }
  | _ => none }
def FnExactAllGraphsWrongFalsely : Prop := fnExactAllGraphsRow.holds Try.pinned (OpenSpec.ofChange fnExactAllGraphsWrong)

/-- 'laws.FnLeast': WHATEVER THE INPUT: true; the input reads as it did. -/
def fnLeastSpec : ChangeSpec := { name := "fnLeast", fn := fun _ => fun
  | [d1, d2] => { results := [.lit (.bool true)], args := [d1, d2] }
  | _ => none }
def fnLeastRow : OpenClaim := { program := "ytmbjhncgdmbpaaa", sum := "069a3ac77db9b3d90caba474032246d48560f50656c6325d7d43d13b343ae685", func := "loop.example/g01169/laws.FnLeast", spec := "fnLeast", unfollowed := true, recurses := true, plainKeys := false, apart := false }
def FnLeastSaid : Prop := fnLeastRow.holds Try.pinned (OpenSpec.ofChange fnLeastSpec)

/-- ITS FALSE NEIGHBOUR: 'it returns false'. Refute it at one input. -/
def fnLeastWrong : ChangeSpec := { name := "fnLeast", fn := fun _ => fun
  | [d1, d2] => { results := [.lit (.bool false)], args := [d1, d2] }
  | _ => none }
def FnLeastWrongFalsely : Prop := fnLeastRow.holds Try.pinned (OpenSpec.ofChange fnLeastWrong)

/-- 'laws.FnFree': WHATEVER THE INPUT: true; the input reads as it did. -/
def fnFreeSpec : ChangeSpec := { name := "fnFree", fn := fun _ => fun
  | [d1, d2] => { results := [.lit (.bool true)], args := [d1, d2] }
  | _ => none }
def fnFreeRow : OpenClaim := { program := "ytmbjhncgdmbpaaa", sum := "069a3ac77db9b3d90caba474032246d48560f50656c6325d7d43d13b343ae685", func := "loop.example/g01169/laws.FnFree", spec := "fnFree", unfollowed := true, recurses := true, plainKeys := false, apart := false }
def FnFreeSaid : Prop := fnFreeRow.holds Try.pinned (OpenSpec.ofChange fnFreeSpec)

/-- ITS FALSE NEIGHBOUR: 'it returns false'. Refute it at one input. -/
def fnFreeWrong : ChangeSpec := { name := "fnFree", fn := fun _ => fun
  | [d1, d2] => { results := [.lit (.bool false)], args := [d1, d2] }
  | _ => none }
def FnFreeWrongFalsely : Prop := fnFreeRow.holds Try.pinned (OpenSpec.ofChange fnFreeWrong)

/- THE SECOND FORM. 'bulk': how many values and letters a reading holds, each counted each time it is reached (what is shared counts as often as it is met; a slice's spare places count too). A statement '..UptoSaid' is the law's where the arguments, and the package variables that the reading takes, are together of bulk at most 1048576: NARROWER than '..Said'. Prove '..Said' where nothing that the law and all that it calls make is longer than what came in: it says more and counts as full. Else prove '..UptoSaid'. A law counts once. -/
mutual
def uptoBulk {H : Type} : DataW H → Nat
  | .lit (.string bytes) => bytes.length + 1
  | .lit _ => 1
  | .nil => 1
  | .ptr d => uptoBulk d + 1
  | .slice elems spare => uptoBulkAll elems + uptoBulkAll spare + 1
  | .agg parts => uptoBulkAll parts + 1
  | .iface _ d => uptoBulk d + 1
  | .map entries => uptoBulkEntries entries + 1
  | .held _ => 1
def uptoBulkAll {H : Type} : List (DataW H) → Nat
  | [] => 0
  | d :: r => uptoBulk d + uptoBulkAll r
def uptoBulkEntries {H : Type} : List (Lit × DataW H) → Nat
  | [] => 0
  | x :: r => uptoBulkEntry x + uptoBulkEntries r
def uptoBulkEntry {H : Type} : Lit × DataW H → Nat
  | (.string bytes, d) => bytes.length + uptoBulk d + 1
  | (_, d) => uptoBulk d + 1
 end
def uptoSmall : (H : Type) → List (DataW H) → Bool := fun _ ds => decide (uptoBulkAll ds ≤ 1048576)
def OpenSpec.upto (s : _root_.Go.ChangeSpec) : _root_.Go.OpenSpec := { _root_.Go.OpenSpec.ofChange s with cond := some uptoSmall }

/-- 'laws.FnExactFreeGraphs', WHERE WHAT IT READS IS OF BULK AT MOST 1048576: true; the input reads as it did. -/
def fnExactFreeGraphsUptoRow : OpenClaim := { program := "ytmbjhncgdmbpaaa", sum := "069a3ac77db9b3d90caba474032246d48560f50656c6325d7d43d13b343ae685", func := "loop.example/g01169/laws.FnExactFreeGraphs", spec := "fnExactFreeGraphs", unfollowed := true, recurses := true, plainKeys := false, apart := false, narrowed := true }
def FnExactFreeGraphsUptoSaid : Prop := fnExactFreeGraphsUptoRow.holds Try.pinned (OpenSpec.upto fnExactFreeGraphsSpec)

/-- 'laws.FnExactIndexOfGraph', WHERE WHAT IT READS IS OF BULK AT MOST 1048576: true; the input reads as it did. -/
def fnExactIndexOfGraphUptoRow : OpenClaim := { program := "ytmbjhncgdmbpaaa", sum := "069a3ac77db9b3d90caba474032246d48560f50656c6325d7d43d13b343ae685", func := "loop.example/g01169/laws.FnExactIndexOfGraph", spec := "fnExactIndexOfGraph", unfollowed := true, recurses := true, plainKeys := false, apart := false, narrowed := true }
def FnExactIndexOfGraphUptoSaid : Prop := fnExactIndexOfGraphUptoRow.holds Try.pinned (OpenSpec.upto fnExactIndexOfGraphSpec)

/-- 'laws.FnExactAllGraphs', WHERE WHAT IT READS IS OF BULK AT MOST 1048576: true; the input reads as it did. -/
def fnExactAllGraphsUptoRow : OpenClaim := { program := "ytmbjhncgdmbpaaa", sum := "069a3ac77db9b3d90caba474032246d48560f50656c6325d7d43d13b343ae685", func := "loop.example/g01169/laws.FnExactAllGraphs", spec := "fnExactAllGraphs", unfollowed := true, recurses := true, plainKeys := false, apart := false, narrowed := true }
def FnExactAllGraphsUptoSaid : Prop := fnExactAllGraphsUptoRow.holds Try.pinned (OpenSpec.upto fnExactAllGraphsSpec)

/-- 'laws.FnLeast', WHERE WHAT IT READS IS OF BULK AT MOST 1048576: true; the input reads as it did. -/
def fnLeastUptoRow : OpenClaim := { program := "ytmbjhncgdmbpaaa", sum := "069a3ac77db9b3d90caba474032246d48560f50656c6325d7d43d13b343ae685", func := "loop.example/g01169/laws.FnLeast", spec := "fnLeast", unfollowed := true, recurses := true, plainKeys := false, apart := false, narrowed := true }
def FnLeastUptoSaid : Prop := fnLeastUptoRow.holds Try.pinned (OpenSpec.upto fnLeastSpec)

/-- 'laws.FnFree', WHERE WHAT IT READS IS OF BULK AT MOST 1048576: true; the input reads as it did. -/
def fnFreeUptoRow : OpenClaim := { program := "ytmbjhncgdmbpaaa", sum := "069a3ac77db9b3d90caba474032246d48560f50656c6325d7d43d13b343ae685", func := "loop.example/g01169/laws.FnFree", spec := "fnFree", unfollowed := true, recurses := true, plainKeys := false, apart := false, narrowed := true }
def FnFreeUptoSaid : Prop := fnFreeUptoRow.holds Try.pinned (OpenSpec.upto fnFreeSpec)

end Rows
end Go.Proofs.Ytmbjhncgdmbpaaa
