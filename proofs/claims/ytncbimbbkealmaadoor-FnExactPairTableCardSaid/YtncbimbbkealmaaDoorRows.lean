/-
  NARROWER THAN 'FOR EVERY INPUT', by the rows' own cells (each row's printed sentence says how): FnExactJointDensity: laid · FnExactAverageFactor: laid · FnExactAverageDensity: laid · FnExactPairTable: laid · FnExactFarthestFlags: laid.
  DERIVED. THE GIVEN ROWS OF THIS SEAT. 5 by the template 'for every input the law returns true; each argument reads behind the call as it read before'; 0 by the template 'total and deterministic' (their statements: YtncbimbbkealmaaDoorTotals.lean).
  GIVEN WITH THE SEED: the statements are not yours to turn. If you find one false, say at which input.
  Laid BY PROGRAM, IN A SANDBOX (cutbox-rows.mjs): the forced cells as the released guide's own fill.sh prints them over the translation 90ebcaaefd498f4e… (all of the seat's roots in one cut). By AI agents, Wed Nov 11 2026. No macro, syntax, notation, axiom, sorry.
-/
import Derived.Test.YtncbimbbkealmaaDoorChecked
import GoSem.Claim
import GoSem.ClaimJoined
import GoSem.ClaimMapViews
import Derived.JoinedTies
import Derived.KernelRfl
namespace Go.Proofs.YtncbimbbkealmaaDoor
/- THE CELL 'sum', in the pinned program and in every row, IS THE sha256 OF THE DUMP (.gsa) THAT YtncbimbbkealmaaDoorProg.lean LOADS. Nothing in Lean hashes anything: it is a label: what it is worth is what the hold of that sum in a sandbox is worth. -/
noncomputable def Tryd.pinned : Pinned := { name := "ytncbimbbkealmaadoor", sum := "90ebcaaefd498f4e30b79479ed0ecff4d7d4a1da630a387ce674b00cd3101720", checked := Tryd.checked }
namespace Rows
def none {H : Type} : Left H := { results := [], args := [] }

/- WHAT THE LISTED PACKAGE-LEVEL VARIABLES READ AS WHEN THE CALL BEGINS. Each datum BY PROGRAM (the guide's laid-datum.mjs) off the statement by which the dump's own 'gosem.cut.vars' lays the variable. In a bare row this is a premise. The card (YtncbimbbkealmaaDoorCards.lean) ties it to the program's text. -/
def laid_math_bits_deBruijn32tab {H : Type} : DataW H := .agg [.lit (.int .u8 0), .lit (.int .u8 1), .lit (.int .u8 28), .lit (.int .u8 2), .lit (.int .u8 29), .lit (.int .u8 14), .lit (.int .u8 24), .lit (.int .u8 3), .lit (.int .u8 30), .lit (.int .u8 22), .lit (.int .u8 20), .lit (.int .u8 15), .lit (.int .u8 25), .lit (.int .u8 17), .lit (.int .u8 4), .lit (.int .u8 8), .lit (.int .u8 31), .lit (.int .u8 27), .lit (.int .u8 13), .lit (.int .u8 23), .lit (.int .u8 21), .lit (.int .u8 19), .lit (.int .u8 16), .lit (.int .u8 7), .lit (.int .u8 26), .lit (.int .u8 12), .lit (.int .u8 18), .lit (.int .u8 6), .lit (.int .u8 11), .lit (.int .u8 5), .lit (.int .u8 10), .lit (.int .u8 9)]

/-- 'laws.FnExactJointDensity': WHATEVER THE INPUT: true; the input reads as it did. -/
def fnExactJointDensitySpec : ChangeSpec := { name := "fnExactJointDensity", fn := fun _ => fun
  | [d1, d2, d3] => { results := [.lit (.bool true)], args := [d1, d2, d3] }
  | _ => none }
def fnExactJointDensityRow : OpenClaim := { program := "ytncbimbbkealmaadoor", sum := "90ebcaaefd498f4e30b79479ed0ecff4d7d4a1da630a387ce674b00cd3101720", func := "loop.example/g01169/laws.FnExactJointDensity", spec := "fnExactJointDensity", unfollowed := true, recurses := true, named := ["math/bits.deBruijn32tab"], plainKeys := false, apart := false, laid := [("math/bits.deBruijn32tab", laid_math_bits_deBruijn32tab)] }
def FnExactJointDensitySaid : Prop := fnExactJointDensityRow.holds Tryd.pinned (OpenSpec.ofChange fnExactJointDensitySpec)

/-- ITS FALSE NEIGHBOUR: 'it returns false'. Refute it at one input. -/
def fnExactJointDensityWrong : ChangeSpec := { name := "fnExactJointDensity", fn := fun _ => fun
  | [d1, d2, d3] => { results := [.lit (.bool false)], args := [d1, d2, d3] }
  | _ => none }
def FnExactJointDensityWrongFalsely : Prop := fnExactJointDensityRow.holds Tryd.pinned (OpenSpec.ofChange fnExactJointDensityWrong)

/-- 'laws.FnExactAverageFactor': WHATEVER THE INPUT: true; the input reads as it did. -/
def fnExactAverageFactorSpec : ChangeSpec := { name := "fnExactAverageFactor", fn := fun _ => fun
  | [d] => { results := [.lit (.bool true)], args := [d] }
  | _ => none }
def fnExactAverageFactorRow : OpenClaim := { program := "ytncbimbbkealmaadoor", sum := "90ebcaaefd498f4e30b79479ed0ecff4d7d4a1da630a387ce674b00cd3101720", func := "loop.example/g01169/laws.FnExactAverageFactor", spec := "fnExactAverageFactor", unfollowed := true, recurses := true, named := ["math/bits.deBruijn32tab"], plainKeys := false, apart := false, laid := [("math/bits.deBruijn32tab", laid_math_bits_deBruijn32tab)] }
def FnExactAverageFactorSaid : Prop := fnExactAverageFactorRow.holds Tryd.pinned (OpenSpec.ofChange fnExactAverageFactorSpec)

/-- ITS FALSE NEIGHBOUR: 'it returns false'. Refute it at one input. -/
def fnExactAverageFactorWrong : ChangeSpec := { name := "fnExactAverageFactor", fn := fun _ => fun
  | [d] => { results := [.lit (.bool false)], args := [d] }
  | _ => none }
def FnExactAverageFactorWrongFalsely : Prop := fnExactAverageFactorRow.holds Tryd.pinned (OpenSpec.ofChange fnExactAverageFactorWrong)

/-- 'laws.FnExactAverageDensity': WHATEVER THE INPUT: true; the input reads as it did. -/
def fnExactAverageDensitySpec : ChangeSpec := { name := "fnExactAverageDensity", fn := fun _ => fun
  | [d1, d2] => { results := [.lit (.bool true)], args := [d1, d2] }
  | _ => none }
def fnExactAverageDensityRow : OpenClaim := { program := "ytncbimbbkealmaadoor", sum := "90ebcaaefd498f4e30b79479ed0ecff4d7d4a1da630a387ce674b00cd3101720", func := "loop.example/g01169/laws.FnExactAverageDensity", spec := "fnExactAverageDensity", unfollowed := true, recurses := true, named := ["math/bits.deBruijn32tab"], plainKeys := false, apart := false, laid := [("math/bits.deBruijn32tab", laid_math_bits_deBruijn32tab)] }
def FnExactAverageDensitySaid : Prop := fnExactAverageDensityRow.holds Tryd.pinned (OpenSpec.ofChange fnExactAverageDensitySpec)

/-- ITS FALSE NEIGHBOUR: 'it returns false'. Refute it at one input. -/
def fnExactAverageDensityWrong : ChangeSpec := { name := "fnExactAverageDensity", fn := fun _ => fun
  | [d1, d2] => { results := [.lit (.bool false)], args := [d1, d2] }
  | _ => none }
def FnExactAverageDensityWrongFalsely : Prop := fnExactAverageDensityRow.holds Tryd.pinned (OpenSpec.ofChange fnExactAverageDensityWrong)

/-- 'laws.FnExactPairTable': WHATEVER THE INPUT: true; the input reads as it did. -/
def fnExactPairTableSpec : ChangeSpec := { name := "fnExactPairTable", fn := fun _ => fun
  | [d1, d2] => { results := [.lit (.bool true)], args := [d1, d2] }
  | _ => none }
def fnExactPairTableRow : OpenClaim := { program := "ytncbimbbkealmaadoor", sum := "90ebcaaefd498f4e30b79479ed0ecff4d7d4a1da630a387ce674b00cd3101720", func := "loop.example/g01169/laws.FnExactPairTable", spec := "fnExactPairTable", unfollowed := true, recurses := true, named := ["math/bits.deBruijn32tab"], plainKeys := false, apart := false, laid := [("math/bits.deBruijn32tab", laid_math_bits_deBruijn32tab)] }
def FnExactPairTableSaid : Prop := fnExactPairTableRow.holds Tryd.pinned (OpenSpec.ofChange fnExactPairTableSpec)

/-- ITS FALSE NEIGHBOUR: 'it returns false'. Refute it at one input. -/
def fnExactPairTableWrong : ChangeSpec := { name := "fnExactPairTable", fn := fun _ => fun
  | [d1, d2] => { results := [.lit (.bool false)], args := [d1, d2] }
  | _ => none }
def FnExactPairTableWrongFalsely : Prop := fnExactPairTableRow.holds Tryd.pinned (OpenSpec.ofChange fnExactPairTableWrong)

/-- 'laws.FnExactFarthestFlags': WHATEVER THE INPUT: true; the input reads as it did. -/
def fnExactFarthestFlagsSpec : ChangeSpec := { name := "fnExactFarthestFlags", fn := fun _ => fun
  | [d1, d2] => { results := [.lit (.bool true)], args := [d1, d2] }
  | _ => none }
def fnExactFarthestFlagsRow : OpenClaim := { program := "ytncbimbbkealmaadoor", sum := "90ebcaaefd498f4e30b79479ed0ecff4d7d4a1da630a387ce674b00cd3101720", func := "loop.example/g01169/laws.FnExactFarthestFlags", spec := "fnExactFarthestFlags", unfollowed := true, recurses := true, named := ["math/bits.deBruijn32tab"], plainKeys := false, apart := false, laid := [("math/bits.deBruijn32tab", laid_math_bits_deBruijn32tab)] }
def FnExactFarthestFlagsSaid : Prop := fnExactFarthestFlagsRow.holds Tryd.pinned (OpenSpec.ofChange fnExactFarthestFlagsSpec)

/-- ITS FALSE NEIGHBOUR: 'it returns false'. Refute it at one input. -/
def fnExactFarthestFlagsWrong : ChangeSpec := { name := "fnExactFarthestFlags", fn := fun _ => fun
  | [d1, d2] => { results := [.lit (.bool false)], args := [d1, d2] }
  | _ => none }
def FnExactFarthestFlagsWrongFalsely : Prop := fnExactFarthestFlagsRow.holds Tryd.pinned (OpenSpec.ofChange fnExactFarthestFlagsWrong)

/- THE SECOND FORM. 'bulk': how many values and letters a reading holds, each counted each time it is reached (what is shared counts as often as it is met; a slice's spare places count too). A statement '..UptoSaid' is the law's where the arguments, and the package variables that the reading takes, are together of bulk at most 1048576: NARROWER than '..Said'. Prove '..Said' where nothing that the law and all that it calls make is longer than what came in: it says more and counts as full. Else prove '..UptoSaid'. A law counts once. -/
mutual
def uptoBulk {H : Type} : DataW H → Nat
  | .lit (.string bytes) => bytes.length + 1
  | .lit _ => 1
  | .nil => 1
  | .ptr d => uptoBulk d + 1
  | .slice elems spare => uptoBulkAll elems + uptoBulkAll spare + 1
  | .agg parts => uptoBulkAll parts + 1
  | .iface _ d => uptoBulk d + 1
  | .map entries => uptoBulkEntries entries + 1
  | .held _ => 1
def uptoBulkAll {H : Type} : List (DataW H) → Nat
  | [] => 0
  | d :: r => uptoBulk d + uptoBulkAll r
def uptoBulkEntries {H : Type} : List (Lit × DataW H) → Nat
  | [] => 0
  | x :: r => uptoBulkEntry x + uptoBulkEntries r
def uptoBulkEntry {H : Type} : Lit × DataW H → Nat
  | (.string bytes, d) => bytes.length + uptoBulk d + 1
  | (_, d) => uptoBulk d + 1
 end
def uptoSmall : (H : Type) → List (DataW H) → Bool := fun _ ds => decide (uptoBulkAll ds ≤ 1048576)
def OpenSpec.upto (s : _root_.Go.ChangeSpec) : _root_.Go.OpenSpec := { _root_.Go.OpenSpec.ofChange s with cond := some uptoSmall }

/-- 'laws.FnExactJointDensity', WHERE WHAT IT READS IS OF BULK AT MOST 1048576: true; the input reads as it did. -/
def fnExactJointDensityUptoRow : OpenClaim := { program := "ytncbimbbkealmaadoor", sum := "90ebcaaefd498f4e30b79479ed0ecff4d7d4a1da630a387ce674b00cd3101720", func := "loop.example/g01169/laws.FnExactJointDensity", spec := "fnExactJointDensity", unfollowed := true, recurses := true, named := ["math/bits.deBruijn32tab"], plainKeys := false, apart := false, laid := [("math/bits.deBruijn32tab", laid_math_bits_deBruijn32tab)], narrowed := true }
def FnExactJointDensityUptoSaid : Prop := fnExactJointDensityUptoRow.holds Tryd.pinned (OpenSpec.upto fnExactJointDensitySpec)

/-- 'laws.FnExactAverageFactor', WHERE WHAT IT READS IS OF BULK AT MOST 1048576: true; the input reads as it did. -/
def fnExactAverageFactorUptoRow : OpenClaim := { program := "ytncbimbbkealmaadoor", sum := "90ebcaaefd498f4e30b79479ed0ecff4d7d4a1da630a387ce674b00cd3101720", func := "loop.example/g01169/laws.FnExactAverageFactor", spec := "fnExactAverageFactor", unfollowed := true, recurses := true, named := ["math/bits.deBruijn32tab"], plainKeys := false, apart := false, laid := [("math/bits.deBruijn32tab", laid_math_bits_deBruijn32tab)], narrowed := true }
def FnExactAverageFactorUptoSaid : Prop := fnExactAverageFactorUptoRow.holds Tryd.pinned (OpenSpec.upto fnExactAverageFactorSpec)

/-- 'laws.FnExactAverageDensity', WHERE WHAT IT READS IS OF BULK AT MOST 1048576: true; the input reads as it did. -/
def fnExactAverageDensityUptoRow : OpenClaim := { program := "ytncbimbbkealmaadoor", sum := "90ebcaaefd498f4e30b79479ed0ecff4d7d4a1da630a387ce674b00cd3101720", func := "loop.example/g01169/laws.FnExactAverageDensity", spec := "fnExactAverageDensity", unfollowed := true, recurses := true, named := ["math/bits.deBruijn32tab"], plainKeys := false, apart := false, laid := [("math/bits.deBruijn32tab", laid_math_bits_deBruijn32tab)], narrowed := true }
def FnExactAverageDensityUptoSaid : Prop := fnExactAverageDensityUptoRow.holds Tryd.pinned (OpenSpec.upto fnExactAverageDensitySpec)

/-- 'laws.FnExactPairTable', WHERE WHAT IT READS IS OF BULK AT MOST 1048576: true; the input reads as it did. -/
def fnExactPairTableUptoRow : OpenClaim := { program := "ytncbimbbkealmaadoor", sum := "90ebcaaefd498f4e30b79479ed0ecff4d7d4a1da630a387ce674b00cd3101720", func := "loop.example/g01169/laws.FnExactPairTable", spec := "fnExactPairTable", unfollowed := true, recurses := true, named := ["math/bits.deBruijn32tab"], plainKeys := false, apart := false, laid := [("math/bits.deBruijn32tab", laid_math_bits_deBruijn32tab)], narrowed := true }
def FnExactPairTableUptoSaid : Prop := fnExactPairTableUptoRow.holds Tryd.pinned (OpenSpec.upto fnExactPairTableSpec)

/-- 'laws.FnExactFarthestFlags', WHERE WHAT IT READS IS OF BULK AT MOST 1048576: true; the input reads as it did. -/
def fnExactFarthestFlagsUptoRow : OpenClaim := { program := "ytncbimbbkealmaadoor", sum := "90ebcaaefd498f4e30b79479ed0ecff4d7d4a1da630a387ce674b00cd3101720", func := "loop.example/g01169/laws.FnExactFarthestFlags", spec := "fnExactFarthestFlags", unfollowed := true, recurses := true, named := ["math/bits.deBruijn32tab"], plainKeys := false, apart := false, laid := [("math/bits.deBruijn32tab", laid_math_bits_deBruijn32tab)], narrowed := true }
def FnExactFarthestFlagsUptoSaid : Prop := fnExactFarthestFlagsUptoRow.holds Tryd.pinned (OpenSpec.upto fnExactFarthestFlagsSpec)

end Rows
end Go.Proofs.YtncbimbbkealmaaDoor
