/-
  NARROWER THAN 'FOR EVERY INPUT', by the rows' own cells (each row's printed sentence says how): FnExactCountCopies: laid · FnExactCountFlag: laid · FnExactFlagDensity: laid · FnExactJointDensity: laid · FnExactAverageFactor: laid · FnExactGraphDensity: laid · FnExactFlagDensities: laid · FnExactThroughSize: laid · FnExactGraphDensities: laid · FnExactAverageDensity: laid.
  DERIVED. THE GIVEN ROWS OF THIS SEAT. 10 by the template 'for every input the law returns true; each argument reads behind the call as it read before'; 0 by the template 'total and deterministic' (their statements: YtepbekhlpbnpkaaDoorTotals.lean).
  GIVEN WITH THE SEED: the statements are not yours to turn. If you find one false, say at which input.
  Laid BY PROGRAM, IN A SANDBOX (cutbox-rows.mjs): the forced cells as the released guide's own fill.sh prints them over the translation 0dd2ad13a9e86ef0… (all of the seat's roots in one cut). By AI agents, Wed Nov 11 2026. No macro, syntax, notation, axiom, sorry.
-/
import Derived.Test.YtepbekhlpbnpkaaDoorChecked
import GoSem.Claim
import GoSem.ClaimJoined
import GoSem.ClaimMapViews
import Derived.JoinedTies
import Derived.KernelRfl
namespace Go.Proofs.YtepbekhlpbnpkaaDoor
/- THE CELL 'sum', in the pinned program and in every row, IS THE sha256 OF THE DUMP (.gsa) THAT YtepbekhlpbnpkaaDoorProg.lean LOADS. Nothing in Lean hashes anything: it is a label: what it is worth is what the hold of that sum in a sandbox is worth. -/
noncomputable def Tryd.pinned : Pinned := { name := "ytepbekhlpbnpkaadoor", sum := "0dd2ad13a9e86ef091677c54372b3543006da0aff693ba3c576b0ca3adc09931", checked := Tryd.checked }
namespace Rows
def none {H : Type} : Left H := { results := [], args := [] }

/- WHAT THE LISTED PACKAGE-LEVEL VARIABLES READ AS WHEN THE CALL BEGINS. Each datum BY PROGRAM (the guide's laid-datum.mjs) off the statement by which the dump's own 'gosem.cut.vars' lays the variable. In a bare row this is a premise. The card (YtepbekhlpbnpkaaDoorCards.lean) ties it to the program's text. -/
def laid_math_bits_deBruijn32tab {H : Type} : DataW H := .agg [.lit (.int .u8 0), .lit (.int .u8 1), .lit (.int .u8 28), .lit (.int .u8 2), .lit (.int .u8 29), .lit (.int .u8 14), .lit (.int .u8 24), .lit (.int .u8 3), .lit (.int .u8 30), .lit (.int .u8 22), .lit (.int .u8 20), .lit (.int .u8 15), .lit (.int .u8 25), .lit (.int .u8 17), .lit (.int .u8 4), .lit (.int .u8 8), .lit (.int .u8 31), .lit (.int .u8 27), .lit (.int .u8 13), .lit (.int .u8 23), .lit (.int .u8 21), .lit (.int .u8 19), .lit (.int .u8 16), .lit (.int .u8 7), .lit (.int .u8 26), .lit (.int .u8 12), .lit (.int .u8 18), .lit (.int .u8 6), .lit (.int .u8 11), .lit (.int .u8 5), .lit (.int .u8 10), .lit (.int .u8 9)]

/-- 'laws.FnExactCountCopies': WHATEVER THE INPUT: true; the input reads as it did. -/
def fnExactCountCopiesSpec : ChangeSpec := { name := "fnExactCountCopies", fn := fun _ => fun
  | [d1, d2] => { results := [.lit (.bool true)], args := [d1, d2] }
  | _ => none }
def fnExactCountCopiesRow : OpenClaim := { program := "ytepbekhlpbnpkaadoor", sum := "0dd2ad13a9e86ef091677c54372b3543006da0aff693ba3c576b0ca3adc09931", func := "loop.example/g01169/laws.FnExactCountCopies", spec := "fnExactCountCopies", unfollowed := true, recurses := true, named := ["math/bits.deBruijn32tab"], plainKeys := false, apart := false, laid := [("math/bits.deBruijn32tab", laid_math_bits_deBruijn32tab)] }
def FnExactCountCopiesSaid : Prop := fnExactCountCopiesRow.holds Tryd.pinned (OpenSpec.ofChange fnExactCountCopiesSpec)

/-- ITS FALSE NEIGHBOUR: 'it returns false'. Refute it at one input. -/
def fnExactCountCopiesWrong : ChangeSpec := { name := "fnExactCountCopies", fn := fun _ => fun
  | [d1, d2] => { results := [.lit (.bool false)], args := [d1, d2] }
  | _ => none }
def FnExactCountCopiesWrongFalsely : Prop := fnExactCountCopiesRow.holds Tryd.pinned (OpenSpec.ofChange fnExactCountCopiesWrong)

/-- 'laws.FnExactCountFlag': WHATEVER THE INPUT: true; the input reads as it did. -/
def fnExactCountFlagSpec : ChangeSpec := { name := "fnExactCountFlag", fn := fun _ => fun
  | [d1, d2] => { results := [.lit (.bool true)], args := [d1, d2] }
  | _ => none }
def fnExactCountFlagRow : OpenClaim := { program := "ytepbekhlpbnpkaadoor", sum := "0dd2ad13a9e86ef091677c54372b3543006da0aff693ba3c576b0ca3adc09931", func := "loop.example/g01169/laws.FnExactCountFlag", spec := "fnExactCountFlag", unfollowed := true, recurses := true, named := ["math/bits.deBruijn32tab"], plainKeys := false, apart := false, laid := [("math/bits.deBruijn32tab", laid_math_bits_deBruijn32tab)] }
def FnExactCountFlagSaid : Prop := fnExactCountFlagRow.holds Tryd.pinned (OpenSpec.ofChange fnExactCountFlagSpec)

/-- ITS FALSE NEIGHBOUR: 'it returns false'. Refute it at one input. -/
def fnExactCountFlagWrong : ChangeSpec := { name := "fnExactCountFlag", fn := fun _ => fun
  | [d1, d2] => { results := [.lit (.bool false)], args := [d1, d2] }
  | _ => none }
def FnExactCountFlagWrongFalsely : Prop := fnExactCountFlagRow.holds Tryd.pinned (OpenSpec.ofChange fnExactCountFlagWrong)

/-- 'laws.FnExactFlagDensity': WHATEVER THE INPUT: true; the input reads as it did. -/
def fnExactFlagDensitySpec : ChangeSpec := { name := "fnExactFlagDensity", fn := fun _ => fun
  | [d1, d2] => { results := [.lit (.bool true)], args := [d1, d2] }
  | _ => none }
def fnExactFlagDensityRow : OpenClaim := { program := "ytepbekhlpbnpkaadoor", sum := "0dd2ad13a9e86ef091677c54372b3543006da0aff693ba3c576b0ca3adc09931", func := "loop.example/g01169/laws.FnExactFlagDensity", spec := "fnExactFlagDensity", unfollowed := true, recurses := true, named := ["math/bits.deBruijn32tab"], plainKeys := false, apart := false, laid := [("math/bits.deBruijn32tab", laid_math_bits_deBruijn32tab)] }
def FnExactFlagDensitySaid : Prop := fnExactFlagDensityRow.holds Tryd.pinned (OpenSpec.ofChange fnExactFlagDensitySpec)

/-- ITS FALSE NEIGHBOUR: 'it returns false'. Refute it at one input. -/
def fnExactFlagDensityWrong : ChangeSpec := { name := "fnExactFlagDensity", fn := fun _ => fun
  | [d1, d2] => { results := [.lit (.bool false)], args := [d1, d2] }
  | _ => none }
def FnExactFlagDensityWrongFalsely : Prop := fnExactFlagDensityRow.holds Tryd.pinned (OpenSpec.ofChange fnExactFlagDensityWrong)

/-- 'laws.FnExactJointDensity': WHATEVER THE INPUT: true; the input reads as it did. -/
def fnExactJointDensitySpec : ChangeSpec := { name := "fnExactJointDensity", fn := fun _ => fun
  | [d1, d2, d3] => { results := [.lit (.bool true)], args := [d1, d2, d3] }
  | _ => none }
def fnExactJointDensityRow : OpenClaim := { program := "ytepbekhlpbnpkaadoor", sum := "0dd2ad13a9e86ef091677c54372b3543006da0aff693ba3c576b0ca3adc09931", func := "loop.example/g01169/laws.FnExactJointDensity", spec := "fnExactJointDensity", unfollowed := true, recurses := true, named := ["math/bits.deBruijn32tab"], plainKeys := false, apart := false, laid := [("math/bits.deBruijn32tab", laid_math_bits_deBruijn32tab)] }
def FnExactJointDensitySaid : Prop := fnExactJointDensityRow.holds Tryd.pinned (OpenSpec.ofChange fnExactJointDensitySpec)

/-- ITS FALSE NEIGHBOUR: 'it returns false'. Refute it at one input. -/
def fnExactJointDensityWrong : ChangeSpec := { name := "fnExactJointDensity", fn := fun _ => fun
  | [d1, d2, d3] => { results := [.lit (.bool false)], args := [d1, d2, d3] }
  | _ => none }
def FnExactJointDensityWrongFalsely : Prop := fnExactJointDensityRow.holds Tryd.pinned (OpenSpec.ofChange fnExactJointDensityWrong)

/-- 'laws.FnExactAverageFactor': WHATEVER THE INPUT: true; the input reads as it did. -/
def fnExactAverageFactorSpec : ChangeSpec := { name := "fnExactAverageFactor", fn := fun _ => fun
  | [d] => { results := [.lit (.bool true)], args := [d] }
  | _ => none }
def fnExactAverageFactorRow : OpenClaim := { program := "ytepbekhlpbnpkaadoor", sum := "0dd2ad13a9e86ef091677c54372b3543006da0aff693ba3c576b0ca3adc09931", func := "loop.example/g01169/laws.FnExactAverageFactor", spec := "fnExactAverageFactor", unfollowed := true, recurses := true, named := ["math/bits.deBruijn32tab"], plainKeys := false, apart := false, laid := [("math/bits.deBruijn32tab", laid_math_bits_deBruijn32tab)] }
def FnExactAverageFactorSaid : Prop := fnExactAverageFactorRow.holds Tryd.pinned (OpenSpec.ofChange fnExactAverageFactorSpec)

/-- ITS FALSE NEIGHBOUR: 'it returns false'. Refute it at one input. -/
def fnExactAverageFactorWrong : ChangeSpec := { name := "fnExactAverageFactor", fn := fun _ => fun
  | [d] => { results := [.lit (.bool false)], args := [d] }
  | _ => none }
def FnExactAverageFactorWrongFalsely : Prop := fnExactAverageFactorRow.holds Tryd.pinned (OpenSpec.ofChange fnExactAverageFactorWrong)

/-- 'laws.FnExactGraphDensity': WHATEVER THE INPUT: true; the input reads as it did. -/
def fnExactGraphDensitySpec : ChangeSpec := { name := "fnExactGraphDensity", fn := fun _ => fun
  | [d1, d2] => { results := [.lit (.bool true)], args := [d1, d2] }
  | _ => none }
def fnExactGraphDensityRow : OpenClaim := { program := "ytepbekhlpbnpkaadoor", sum := "0dd2ad13a9e86ef091677c54372b3543006da0aff693ba3c576b0ca3adc09931", func := "loop.example/g01169/laws.FnExactGraphDensity", spec := "fnExactGraphDensity", unfollowed := true, recurses := true, named := ["math/bits.deBruijn32tab"], plainKeys := false, apart := false, laid := [("math/bits.deBruijn32tab", laid_math_bits_deBruijn32tab)] }
def FnExactGraphDensitySaid : Prop := fnExactGraphDensityRow.holds Tryd.pinned (OpenSpec.ofChange fnExactGraphDensitySpec)

/-- ITS FALSE NEIGHBOUR: 'it returns false'. Refute it at one input. -/
def fnExactGraphDensityWrong : ChangeSpec := { name := "fnExactGraphDensity", fn := fun _ => fun
  | [d1, d2] => { results := [.lit (.bool false)], args := [d1, d2] }
  | _ => none }
def FnExactGraphDensityWrongFalsely : Prop := fnExactGraphDensityRow.holds Tryd.pinned (OpenSpec.ofChange fnExactGraphDensityWrong)

/-- 'laws.FnExactFlagDensities': WHATEVER THE INPUT: true; the input reads as it did. -/
def fnExactFlagDensitiesSpec : ChangeSpec := { name := "fnExactFlagDensities", fn := fun _ => fun
  | [d1, d2] => { results := [.lit (.bool true)], args := [d1, d2] }
  | _ => none }
def fnExactFlagDensitiesRow : OpenClaim := { program := "ytepbekhlpbnpkaadoor", sum := "0dd2ad13a9e86ef091677c54372b3543006da0aff693ba3c576b0ca3adc09931", func := "loop.example/g01169/laws.FnExactFlagDensities", spec := "fnExactFlagDensities", unfollowed := true, recurses := true, named := ["math/bits.deBruijn32tab"], plainKeys := false, apart := false, laid := [("math/bits.deBruijn32tab", laid_math_bits_deBruijn32tab)] }
def FnExactFlagDensitiesSaid : Prop := fnExactFlagDensitiesRow.holds Tryd.pinned (OpenSpec.ofChange fnExactFlagDensitiesSpec)

/-- ITS FALSE NEIGHBOUR: 'it returns false'. Refute it at one input. -/
def fnExactFlagDensitiesWrong : ChangeSpec := { name := "fnExactFlagDensities", fn := fun _ => fun
  | [d1, d2] => { results := [.lit (.bool false)], args := [d1, d2] }
  | _ => none }
def FnExactFlagDensitiesWrongFalsely : Prop := fnExactFlagDensitiesRow.holds Tryd.pinned (OpenSpec.ofChange fnExactFlagDensitiesWrong)

/-- 'laws.FnExactThroughSize': WHATEVER THE INPUT: true; the input reads as it did. -/
def fnExactThroughSizeSpec : ChangeSpec := { name := "fnExactThroughSize", fn := fun _ => fun
  | [d1, d2, d3] => { results := [.lit (.bool true)], args := [d1, d2, d3] }
  | _ => none }
def fnExactThroughSizeRow : OpenClaim := { program := "ytepbekhlpbnpkaadoor", sum := "0dd2ad13a9e86ef091677c54372b3543006da0aff693ba3c576b0ca3adc09931", func := "loop.example/g01169/laws.FnExactThroughSize", spec := "fnExactThroughSize", unfollowed := true, recurses := true, named := ["math/bits.deBruijn32tab"], plainKeys := false, apart := false, laid := [("math/bits.deBruijn32tab", laid_math_bits_deBruijn32tab)] }
def FnExactThroughSizeSaid : Prop := fnExactThroughSizeRow.holds Tryd.pinned (OpenSpec.ofChange fnExactThroughSizeSpec)

/-- ITS FALSE NEIGHBOUR: 'it returns false'. Refute it at one input. -/
def fnExactThroughSizeWrong : ChangeSpec := { name := "fnExactThroughSize", fn := fun _ => fun
  | [d1, d2, d3] => { results := [.lit (.bool false)], args := [d1, d2, d3] }
  | _ => none }
def FnExactThroughSizeWrongFalsely : Prop := fnExactThroughSizeRow.holds Tryd.pinned (OpenSpec.ofChange fnExactThroughSizeWrong)

/-- 'laws.FnExactGraphDensities': WHATEVER THE INPUT: true; the input reads as it did. -/
def fnExactGraphDensitiesSpec : ChangeSpec := { name := "fnExactGraphDensities", fn := fun _ => fun
  | [d1, d2] => { results := [.lit (.bool true)], args := [d1, d2] }
  | _ => none }
def fnExactGraphDensitiesRow : OpenClaim := { program := "ytepbekhlpbnpkaadoor", sum := "0dd2ad13a9e86ef091677c54372b3543006da0aff693ba3c576b0ca3adc09931", func := "loop.example/g01169/laws.FnExactGraphDensities", spec := "fnExactGraphDensities", unfollowed := true, recurses := true, named := ["math/bits.deBruijn32tab"], plainKeys := false, apart := false, laid := [("math/bits.deBruijn32tab", laid_math_bits_deBruijn32tab)] }
def FnExactGraphDensitiesSaid : Prop := fnExactGraphDensitiesRow.holds Tryd.pinned (OpenSpec.ofChange fnExactGraphDensitiesSpec)

/-- ITS FALSE NEIGHBOUR: 'it returns false'. Refute it at one input. -/
def fnExactGraphDensitiesWrong : ChangeSpec := { name := "fnExactGraphDensities", fn := fun _ => fun
  | [d1, d2] => { results := [.lit (.bool false)], args := [d1, d2] }
  | _ => none }
def FnExactGraphDensitiesWrongFalsely : Prop := fnExactGraphDensitiesRow.holds Tryd.pinned (OpenSpec.ofChange fnExactGraphDensitiesWrong)

/-- 'laws.FnExactAverageDensity': WHATEVER THE INPUT: true; the input reads as it did. -/
def fnExactAverageDensitySpec : ChangeSpec := { name := "fnExactAverageDensity", fn := fun _ => fun
  | [d1, d2] => { results := [.lit (.bool true)], args := [d1, d2] }
  | _ => none }
def fnExactAverageDensityRow : OpenClaim := { program := "ytepbekhlpbnpkaadoor", sum := "0dd2ad13a9e86ef091677c54372b3543006da0aff693ba3c576b0ca3adc09931", func := "loop.example/g01169/laws.FnExactAverageDensity", spec := "fnExactAverageDensity", unfollowed := true, recurses := true, named := ["math/bits.deBruijn32tab"], plainKeys := false, apart := false, laid := [("math/bits.deBruijn32tab", laid_math_bits_deBruijn32tab)] }
def FnExactAverageDensitySaid : Prop := fnExactAverageDensityRow.holds Tryd.pinned (OpenSpec.ofChange fnExactAverageDensitySpec)

/-- ITS FALSE NEIGHBOUR: 'it returns false'. Refute it at one input. -/
def fnExactAverageDensityWrong : ChangeSpec := { name := "fnExactAverageDensity", fn := fun _ => fun
  | [d1, d2] => { results := [.lit (.bool false)], args := [d1, d2] }
  | _ => none }
def FnExactAverageDensityWrongFalsely : Prop := fnExactAverageDensityRow.holds Tryd.pinned (OpenSpec.ofChange fnExactAverageDensityWrong)

/- THE SECOND FORM. 'bulk': how many values and letters a reading holds, each counted each time it is reached (what is shared counts as often as it is met; a slice's spare places count too). A statement '..UptoSaid' is the law's where the arguments, and the package variables that the reading takes, are together of bulk at most 1048576: NARROWER than '..Said'. Prove '..Said' where nothing that the law and all that it calls make is longer than what came in: it says more and counts as full. Else prove '..UptoSaid'. A law counts once. -/
mutual
def uptoBulk {H : Type} : DataW H → Nat
  | .lit (.string bytes) => bytes.length + 1
  | .lit _ => 1
  | .nil => 1
  | .ptr d => uptoBulk d + 1
  | .slice elems spare => uptoBulkAll elems + uptoBulkAll spare + 1
  | .agg parts => uptoBulkAll parts + 1
  | .iface _ d => uptoBulk d + 1
  | .map entries => uptoBulkEntries entries + 1
  | .held _ => 1
def uptoBulkAll {H : Type} : List (DataW H) → Nat
  | [] => 0
  | d :: r => uptoBulk d + uptoBulkAll r
def uptoBulkEntries {H : Type} : List (Lit × DataW H) → Nat
  | [] => 0
  | x :: r => uptoBulkEntry x + uptoBulkEntries r
def uptoBulkEntry {H : Type} : Lit × DataW H → Nat
  | (.string bytes, d) => bytes.length + uptoBulk d + 1
  | (_, d) => uptoBulk d + 1
 end
def uptoSmall : (H : Type) → List (DataW H) → Bool := fun _ ds => decide (uptoBulkAll ds ≤ 1048576)
def OpenSpec.upto (s : _root_.Go.ChangeSpec) : _root_.Go.OpenSpec := { _root_.Go.OpenSpec.ofChange s with cond := some uptoSmall }

/-- 'laws.FnExactCountCopies', WHERE WHAT IT READS IS OF BULK AT MOST 1048576: true; the input reads as it did. -/
def fnExactCountCopiesUptoRow : OpenClaim := { program := "ytepbekhlpbnpkaadoor", sum := "0dd2ad13a9e86ef091677c54372b3543006da0aff693ba3c576b0ca3adc09931", func := "loop.example/g01169/laws.FnExactCountCopies", spec := "fnExactCountCopies", unfollowed := true, recurses := true, named := ["math/bits.deBruijn32tab"], plainKeys := false, apart := false, laid := [("math/bits.deBruijn32tab", laid_math_bits_deBruijn32tab)], narrowed := true }
def FnExactCountCopiesUptoSaid : Prop := fnExactCountCopiesUptoRow.holds Tryd.pinned (OpenSpec.upto fnExactCountCopiesSpec)

/-- 'laws.FnExactCountFlag', WHERE WHAT IT READS IS OF BULK AT MOST 1048576: true; the input reads as it did. -/
def fnExactCountFlagUptoRow : OpenClaim := { program := "ytepbekhlpbnpkaadoor", sum := "0dd2ad13a9e86ef091677c54372b3543006da0aff693ba3c576b0ca3adc09931", func := "loop.example/g01169/laws.FnExactCountFlag", spec := "fnExactCountFlag", unfollowed := true, recurses := true, named := ["math/bits.deBruijn32tab"], plainKeys := false, apart := false, laid := [("math/bits.deBruijn32tab", laid_math_bits_deBruijn32tab)], narrowed := true }
def FnExactCountFlagUptoSaid : Prop := fnExactCountFlagUptoRow.holds Tryd.pinned (OpenSpec.upto fnExactCountFlagSpec)

/-- 'laws.FnExactFlagDensity', WHERE WHAT IT READS IS OF BULK AT MOST 1048576: true; the input reads as it did. -/
def fnExactFlagDensityUptoRow : OpenClaim := { program := "ytepbekhlpbnpkaadoor", sum := "0dd2ad13a9e86ef091677c54372b3543006da0aff693ba3c576b0ca3adc09931", func := "loop.example/g01169/laws.FnExactFlagDensity", spec := "fnExactFlagDensity", unfollowed := true, recurses := true, named := ["math/bits.deBruijn32tab"], plainKeys := false, apart := false, laid := [("math/bits.deBruijn32tab", laid_math_bits_deBruijn32tab)], narrowed := true }
def FnExactFlagDensityUptoSaid : Prop := fnExactFlagDensityUptoRow.holds Tryd.pinned (OpenSpec.upto fnExactFlagDensitySpec)

/-- 'laws.FnExactJointDensity', WHERE WHAT IT READS IS OF BULK AT MOST 1048576: true; the input reads as it did. -/
def fnExactJointDensityUptoRow : OpenClaim := { program := "ytepbekhlpbnpkaadoor", sum := "0dd2ad13a9e86ef091677c54372b3543006da0aff693ba3c576b0ca3adc09931", func := "loop.example/g01169/laws.FnExactJointDensity", spec := "fnExactJointDensity", unfollowed := true, recurses := true, named := ["math/bits.deBruijn32tab"], plainKeys := false, apart := false, laid := [("math/bits.deBruijn32tab", laid_math_bits_deBruijn32tab)], narrowed := true }
def FnExactJointDensityUptoSaid : Prop := fnExactJointDensityUptoRow.holds Tryd.pinned (OpenSpec.upto fnExactJointDensitySpec)

/-- 'laws.FnExactAverageFactor', WHERE WHAT IT READS IS OF BULK AT MOST 1048576: true; the input reads as it did. -/
def fnExactAverageFactorUptoRow : OpenClaim := { program := "ytepbekhlpbnpkaadoor", sum := "0dd2ad13a9e86ef091677c54372b3543006da0aff693ba3c576b0ca3adc09931", func := "loop.example/g01169/laws.FnExactAverageFactor", spec := "fnExactAverageFactor", unfollowed := true, recurses := true, named := ["math/bits.deBruijn32tab"], plainKeys := false, apart := false, laid := [("math/bits.deBruijn32tab", laid_math_bits_deBruijn32tab)], narrowed := true }
def FnExactAverageFactorUptoSaid : Prop := fnExactAverageFactorUptoRow.holds Tryd.pinned (OpenSpec.upto fnExactAverageFactorSpec)

/-- 'laws.FnExactGraphDensity', WHERE WHAT IT READS IS OF BULK AT MOST 1048576: true; the input reads as it did. -/
def fnExactGraphDensityUptoRow : OpenClaim := { program := "ytepbekhlpbnpkaadoor", sum := "0dd2ad13a9e86ef091677c54372b3543006da0aff693ba3c576b0ca3adc09931", func := "loop.example/g01169/laws.FnExactGraphDensity", spec := "fnExactGraphDensity", unfollowed := true, recurses := true, named := ["math/bits.deBruijn32tab"], plainKeys := false, apart := false, laid := [("math/bits.deBruijn32tab", laid_math_bits_deBruijn32tab)], narrowed := true }
def FnExactGraphDensityUptoSaid : Prop := fnExactGraphDensityUptoRow.holds Tryd.pinned (OpenSpec.upto fnExactGraphDensitySpec)

/-- 'laws.FnExactFlagDensities', WHERE WHAT IT READS IS OF BULK AT MOST 1048576: true; the input reads as it did. -/
def fnExactFlagDensitiesUptoRow : OpenClaim := { program := "ytepbekhlpbnpkaadoor", sum := "0dd2ad13a9e86ef091677c54372b3543006da0aff693ba3c576b0ca3adc09931", func := "loop.example/g01169/laws.FnExactFlagDensities", spec := "fnExactFlagDensities", unfollowed := true, recurses := true, named := ["math/bits.deBruijn32tab"], plainKeys := false, apart := false, laid := [("math/bits.deBruijn32tab", laid_math_bits_deBruijn32tab)], narrowed := true }
def FnExactFlagDensitiesUptoSaid : Prop := fnExactFlagDensitiesUptoRow.holds Tryd.pinned (OpenSpec.upto fnExactFlagDensitiesSpec)

/-- 'laws.FnExactThroughSize', WHERE WHAT IT READS IS OF BULK AT MOST 1048576: true; the input reads as it did. -/
def fnExactThroughSizeUptoRow : OpenClaim := { program := "ytepbekhlpbnpkaadoor", sum := "0dd2ad13a9e86ef091677c54372b3543006da0aff693ba3c576b0ca3adc09931", func := "loop.example/g01169/laws.FnExactThroughSize", spec := "fnExactThroughSize", unfollowed := true, recurses := true, named := ["math/bits.deBruijn32tab"], plainKeys := false, apart := false, laid := [("math/bits.deBruijn32tab", laid_math_bits_deBruijn32tab)], narrowed := true }
def FnExactThroughSizeUptoSaid : Prop := fnExactThroughSizeUptoRow.holds Tryd.pinned (OpenSpec.upto fnExactThroughSizeSpec)

/-- 'laws.FnExactGraphDensities', WHERE WHAT IT READS IS OF BULK AT MOST 1048576: true; the input reads as it did. -/
def fnExactGraphDensitiesUptoRow : OpenClaim := { program := "ytepbekhlpbnpkaadoor", sum := "0dd2ad13a9e86ef091677c54372b3543006da0aff693ba3c576b0ca3adc09931", func := "loop.example/g01169/laws.FnExactGraphDensities", spec := "fnExactGraphDensities", unfollowed := true, recurses := true, named := ["math/bits.deBruijn32tab"], plainKeys := false, apart := false, laid := [("math/bits.deBruijn32tab", laid_math_bits_deBruijn32tab)], narrowed := true }
def FnExactGraphDensitiesUptoSaid : Prop := fnExactGraphDensitiesUptoRow.holds Tryd.pinned (OpenSpec.upto fnExactGraphDensitiesSpec)

/-- 'laws.FnExactAverageDensity', WHERE WHAT IT READS IS OF BULK AT MOST 1048576: true; the input reads as it did. -/
def fnExactAverageDensityUptoRow : OpenClaim := { program := "ytepbekhlpbnpkaadoor", sum := "0dd2ad13a9e86ef091677c54372b3543006da0aff693ba3c576b0ca3adc09931", func := "loop.example/g01169/laws.FnExactAverageDensity", spec := "fnExactAverageDensity", unfollowed := true, recurses := true, named := ["math/bits.deBruijn32tab"], plainKeys := false, apart := false, laid := [("math/bits.deBruijn32tab", laid_math_bits_deBruijn32tab)], narrowed := true }
def FnExactAverageDensityUptoSaid : Prop := fnExactAverageDensityUptoRow.holds Tryd.pinned (OpenSpec.upto fnExactAverageDensitySpec)

end Rows
end Go.Proofs.YtepbekhlpbnpkaaDoor
