/-
  No cell of these rows narrows 'for every input' (looked for: loops, veiled, ifaces, maps, wideKeys, modest, calm, conditions, laid).
  DERIVED. THE GIVEN ROWS OF THIS SEAT. 11 by the template 'for every input the law returns true; each argument reads behind the call as it read before'; 0 by the template 'total and deterministic' (their statements: YtdibcchhamapjaaTotals.lean).
  GIVEN WITH THE SEED: the statements are not yours to turn. If you find one false, say at which input.
  Laid BY PROGRAM, IN A SANDBOX (cutbox-rows.mjs): the forced cells as the released guide's own fill.sh prints them over the translation 4cbcfa151539e726… (all of the seat's roots in one cut). By AI agents, Wed Nov 11 2026. No macro, syntax, notation, axiom, sorry.
-/
import Derived.Test.YtdibcchhamapjaaChecked
import GoSem.Claim
import GoSem.ClaimJoined
import GoSem.ClaimMapViews
import Derived.JoinedTies
import Derived.KernelRfl
namespace Go.Proofs.Ytdibcchhamapjaa
/- THE CELL 'sum', in the pinned program and in every row, IS THE sha256 OF THE DUMP (.gsa) THAT YtdibcchhamapjaaProg.lean LOADS. Nothing in Lean hashes anything: it is a label: what it is worth is what the hold of that sum in a sandbox is worth. -/
noncomputable def Try.pinned : Pinned := { name := "ytdibcchhamapjaa", sum := "4cbcfa151539e726645bef66facbdd70b8926575168316ea594a0008ca4a3a79", checked := Try.checked }
namespace Rows
def none {H : Type} : Left H := { results := [], args := [] }

/-- 'laws.FnExactValidFlag': WHATEVER THE INPUT: true; the input reads as it did. -/
def fnExactValidFlagSpec : ChangeSpec := { name := "fnExactValidFlag", fn := fun _ => fun
  | [d] => { results := [.lit (.bool true)], args := [d] }
  | _ => none }
def fnExactValidFlagRow : OpenClaim := { program := "ytdibcchhamapjaa", sum := "4cbcfa151539e726645bef66facbdd70b8926575168316ea594a0008ca4a3a79", func := "loop.example/g01169/laws.FnExactValidFlag", spec := "fnExactValidFlag", apart := false }
def FnExactValidFlagSaid : Prop := fnExactValidFlagRow.holds Try.pinned (OpenSpec.ofChange fnExactValidFlagSpec)

/-- ITS FALSE NEIGHBOUR: 'it returns false'. Refute it at one input. -/
def fnExactValidFlagWrong : ChangeSpec := { name := "fnExactValidFlag", fn := fun _ => fun
  | [d] => { results := [.lit (.bool false)], args := [d] }
  | _ => none }
def FnExactValidFlagWrongFalsely : Prop := fnExactValidFlagRow.holds Try.pinned (OpenSpec.ofChange fnExactValidFlagWrong)

/-- 'laws.FnExactTypeOf': WHATEVER THE INPUT: true; the input reads as it did. -/
def fnExactTypeOfSpec : ChangeSpec := { name := "fnExactTypeOf", fn := fun _ => fun
  | [d] => { results := [.lit (.bool true)], args := [d] }
  | _ => none }
def fnExactTypeOfRow : OpenClaim := { program := "ytdibcchhamapjaa", sum := "4cbcfa151539e726645bef66facbdd70b8926575168316ea594a0008ca4a3a79", func := "loop.example/g01169/laws.FnExactTypeOf", spec := "fnExactTypeOf", recurses := true, apart := false }
def FnExactTypeOfSaid : Prop := fnExactTypeOfRow.holds Try.pinned (OpenSpec.ofChange fnExactTypeOfSpec)

/-- ITS FALSE NEIGHBOUR: 'it returns false'. Refute it at one input. -/
def fnExactTypeOfWrong : ChangeSpec := { name := "fnExactTypeOf", fn := fun _ => fun
  | [d] => { results := [.lit (.bool false)], args := [d] }
  | _ => none }
def FnExactTypeOfWrongFalsely : Prop := fnExactTypeOfRow.holds Try.pinned (OpenSpec.ofChange fnExactTypeOfWrong)

/-- 'laws.FnExactSizeOf': WHATEVER THE INPUT: true; the input reads as it did. -/
def fnExactSizeOfSpec : ChangeSpec := { name := "fnExactSizeOf", fn := fun _ => fun
  | [d] => { results := [.lit (.bool true)], args := [d] }
  | _ => none }
def fnExactSizeOfRow : OpenClaim := { program := "ytdibcchhamapjaa", sum := "4cbcfa151539e726645bef66facbdd70b8926575168316ea594a0008ca4a3a79", func := "loop.example/g01169/laws.FnExactSizeOf", spec := "fnExactSizeOf", apart := false }
def FnExactSizeOfSaid : Prop := fnExactSizeOfRow.holds Try.pinned (OpenSpec.ofChange fnExactSizeOfSpec)

/-- ITS FALSE NEIGHBOUR: 'it returns false'. Refute it at one input. -/
def fnExactSizeOfWrong : ChangeSpec := { name := "fnExactSizeOf", fn := fun _ => fun
  | [d] => { results := [.lit (.bool false)], args := [d] }
  | _ => none }
def FnExactSizeOfWrongFalsely : Prop := fnExactSizeOfRow.holds Try.pinned (OpenSpec.ofChange fnExactSizeOfWrong)

/-- 'laws.FnExactPlainFlag': WHATEVER THE INPUT: true; the input reads as it did. -/
def fnExactPlainFlagSpec : ChangeSpec := { name := "fnExactPlainFlag", fn := fun _ => fun
  | [d] => { results := [.lit (.bool true)], args := [d] }
  | _ => none }
def fnExactPlainFlagRow : OpenClaim := { program := "ytdibcchhamapjaa", sum := "4cbcfa151539e726645bef66facbdd70b8926575168316ea594a0008ca4a3a79", func := "loop.example/g01169/laws.FnExactPlainFlag", spec := "fnExactPlainFlag", apart := false }
def FnExactPlainFlagSaid : Prop := fnExactPlainFlagRow.holds Try.pinned (OpenSpec.ofChange fnExactPlainFlagSpec)

/-- ITS FALSE NEIGHBOUR: 'it returns false'. Refute it at one input. -/
def fnExactPlainFlagWrong : ChangeSpec := { name := "fnExactPlainFlag", fn := fun _ => fun
  | [d] => { results := [.lit (.bool false)], args := [d] }
  | _ => none }
def FnExactPlainFlagWrongFalsely : Prop := fnExactPlainFlagRow.holds Try.pinned (OpenSpec.ofChange fnExactPlainFlagWrong)

/-- 'laws.FnExactFlagOf': WHATEVER THE INPUT: true; the input reads as it did. -/
def fnExactFlagOfSpec : ChangeSpec := { name := "fnExactFlagOf", fn := fun _ => fun
  | [d1, d2] => { results := [.lit (.bool true)], args := [d1, d2] }
  | _ => none }
def fnExactFlagOfRow : OpenClaim := { program := "ytdibcchhamapjaa", sum := "4cbcfa151539e726645bef66facbdd70b8926575168316ea594a0008ca4a3a79", func := "loop.example/g01169/laws.FnExactFlagOf", spec := "fnExactFlagOf", recurses := true, apart := false }
def FnExactFlagOfSaid : Prop := fnExactFlagOfRow.holds Try.pinned (OpenSpec.ofChange fnExactFlagOfSpec)

/-- ITS FALSE NEIGHBOUR: 'it returns false'. Refute it at one input. -/
def fnExactFlagOfWrong : ChangeSpec := { name := "fnExactFlagOf", fn := fun _ => fun
  | [d1, d2] => { results := [.lit (.bool false)], args := [d1, d2] }
  | _ => none }
def FnExactFlagOfWrongFalsely : Prop := fnExactFlagOfRow.holds Try.pinned (OpenSpec.ofChange fnExactFlagOfWrong)

/-- 'laws.FnExactLeastFlag': WHATEVER THE INPUT: true; the input reads as it did. -/
def fnExactLeastFlagSpec : ChangeSpec := { name := "fnExactLeastFlag", fn := fun _ => fun
  | [d] => { results := [.lit (.bool true)], args := [d] }
  | _ => none }
def fnExactLeastFlagRow : OpenClaim := { program := "ytdibcchhamapjaa", sum := "4cbcfa151539e726645bef66facbdd70b8926575168316ea594a0008ca4a3a79", func := "loop.example/g01169/laws.FnExactLeastFlag", spec := "fnExactLeastFlag", unfollowed := true, recurses := true, apart := false }
def FnExactLeastFlagSaid : Prop := fnExactLeastFlagRow.holds Try.pinned (OpenSpec.ofChange fnExactLeastFlagSpec)

/-- ITS FALSE NEIGHBOUR: 'it returns false'. Refute it at one input. -/
def fnExactLeastFlagWrong : ChangeSpec := { name := "fnExactLeastFlag", fn := fun _ => fun
  | [d] => { results := [.lit (.bool false)], args := [d] }
  | _ => none }
def FnExactLeastFlagWrongFalsely : Prop := fnExactLeastFlagRow.holds Try.pinned (OpenSpec.ofChange fnExactLeastFlagWrong)

/-- 'laws.FnExactAreAlikeFlags': WHATEVER THE INPUT: true; the input reads as it did. -/
def fnExactAreAlikeFlagsSpec : ChangeSpec := { name := "fnExactAreAlikeFlags", fn := fun _ => fun
  | [d1, d2] => { results := [.lit (.bool true)], args := [d1, d2] }
  | _ => none }
def fnExactAreAlikeFlagsRow : OpenClaim := { program := "ytdibcchhamapjaa", sum := "4cbcfa151539e726645bef66facbdd70b8926575168316ea594a0008ca4a3a79", func := "loop.example/g01169/laws.FnExactAreAlikeFlags", spec := "fnExactAreAlikeFlags", unfollowed := true, recurses := true, apart := false }
def FnExactAreAlikeFlagsSaid : Prop := fnExactAreAlikeFlagsRow.holds Try.pinned (OpenSpec.ofChange fnExactAreAlikeFlagsSpec)

/-- ITS FALSE NEIGHBOUR: 'it returns false'. Refute it at one input. -/
def fnExactAreAlikeFlagsWrong : ChangeSpec := { name := "fnExactAreAlikeFlags", fn := fun _ => fun
  | [d1, d2] => { results := [.lit (.bool false)], args := [d1, d2] }
  | _ => none }
def FnExactAreAlikeFlagsWrongFalsely : Prop := fnExactAreAlikeFlagsRow.holds Try.pinned (OpenSpec.ofChange fnExactAreAlikeFlagsWrong)

/-- 'laws.FnExactCountSelfFlag': WHATEVER THE INPUT: true; the input reads as it did. -/
def fnExactCountSelfFlagSpec : ChangeSpec := { name := "fnExactCountSelfFlag", fn := fun _ => fun
  | [d] => { results := [.lit (.bool true)], args := [d] }
  | _ => none }
def fnExactCountSelfFlagRow : OpenClaim := { program := "ytdibcchhamapjaa", sum := "4cbcfa151539e726645bef66facbdd70b8926575168316ea594a0008ca4a3a79", func := "loop.example/g01169/laws.FnExactCountSelfFlag", spec := "fnExactCountSelfFlag", unfollowed := true, recurses := true, apart := false }
def FnExactCountSelfFlagSaid : Prop := fnExactCountSelfFlagRow.holds Try.pinned (OpenSpec.ofChange fnExactCountSelfFlagSpec)

/-- ITS FALSE NEIGHBOUR: 'it returns false'. Refute it at one input. -/
def fnExactCountSelfFlagWrong : ChangeSpec := { name := "fnExactCountSelfFlag", fn := fun _ => fun
  | [d] => { results := [.lit (.bool false)], args := [d] }
  | _ => none }
def FnExactCountSelfFlagWrongFalsely : Prop := fnExactCountSelfFlagRow.holds Try.pinned (OpenSpec.ofChange fnExactCountSelfFlagWrong)

/-- 'laws.FnExactTurnLabels': WHATEVER THE INPUT: true; the input reads as it did. -/
def fnExactTurnLabelsSpec : ChangeSpec := { name := "fnExactTurnLabels", fn := fun _ => fun
  | [d1, d2] => { results := [.lit (.bool true)], args := [d1, d2] }
  | _ => none }
def fnExactTurnLabelsRow : OpenClaim := { program := "ytdibcchhamapjaa", sum := "4cbcfa151539e726645bef66facbdd70b8926575168316ea594a0008ca4a3a79", func := "loop.example/g01169/laws.FnExactTurnLabels", spec := "fnExactTurnLabels", unfollowed := true, recurses := true, apart := false }
def FnExactTurnLabelsSaid : Prop := fnExactTurnLabelsRow.holds Try.pinned (OpenSpec.ofChange fnExactTurnLabelsSpec)

/-- ITS FALSE NEIGHBOUR: 'it returns false'. Refute it at one input. -/
def fnExactTurnLabelsWrong : ChangeSpec := { name := "fnExactTurnLabels", fn := fun _ => fun
  | [d1, d2] => { results := [.lit (.bool false)], args := [d1, d2] }
  | _ => none }
def FnExactTurnLabelsWrongFalsely : Prop := fnExactTurnLabelsRow.holds Try.pinned (OpenSpec.ofChange fnExactTurnLabelsWrong)

/-- 'laws.FnExactForgetLabels': WHATEVER THE INPUT: true; the input reads as it did. -/
def fnExactForgetLabelsSpec : ChangeSpec := { name := "fnExactForgetLabels", fn := fun _ => fun
  | [d1, d2] => { results := [.lit (.bool true)], args := [d1, d2] }
  | _ => none }
def fnExactForgetLabelsRow : OpenClaim := { program := "ytdibcchhamapjaa", sum := "4cbcfa151539e726645bef66facbdd70b8926575168316ea594a0008ca4a3a79", func := "loop.example/g01169/laws.FnExactForgetLabels", spec := "fnExactForgetLabels", unfollowed := true, recurses := true, apart := false }
def FnExactForgetLabelsSaid : Prop := fnExactForgetLabelsRow.holds Try.pinned (OpenSpec.ofChange fnExactForgetLabelsSpec)

/-- ITS FALSE NEIGHBOUR: 'it returns false'. Refute it at one input. -/
def fnExactForgetLabelsWrong : ChangeSpec := { name := "fnExactForgetLabels", fn := fun _ => fun
  | [d1, d2] => { results := [.lit (.bool false)], args := [d1, d2] }
  | _ => none }
def FnExactForgetLabelsWrongFalsely : Prop := fnExactForgetLabelsRow.holds Try.pinned (OpenSpec.ofChange fnExactForgetLabelsWrong)

/-- 'laws.FnExactPartOfFlag': WHATEVER THE INPUT: true; the input reads as it did. -/
def fnExactPartOfFlagSpec : ChangeSpec := { name := "fnExactPartOfFlag", fn := fun _ => fun
  | [d1, d2] => { results := [.lit (.bool true)], args := [d1, d2] }
  | _ => none }
def fnExactPartOfFlagRow : OpenClaim := { program := "ytdibcchhamapjaa", sum := "4cbcfa151539e726645bef66facbdd70b8926575168316ea594a0008ca4a3a79", func := "loop.example/g01169/laws.FnExactPartOfFlag", spec := "fnExactPartOfFlag", unfollowed := true, recurses := true, apart := false }
def FnExactPartOfFlagSaid : Prop := fnExactPartOfFlagRow.holds Try.pinned (OpenSpec.ofChange fnExactPartOfFlagSpec)

/-- ITS FALSE NEIGHBOUR: 'it returns false'. Refute it at one input. -/
def fnExactPartOfFlagWrong : ChangeSpec := { name := "fnExactPartOfFlag", fn := fun _ => fun
  | [d1, d2] => { results := [.lit (.bool false)], args := [d1, d2] }
  | _ => none }
def FnExactPartOfFlagWrongFalsely : Prop := fnExactPartOfFlagRow.holds Try.pinned (OpenSpec.ofChange fnExactPartOfFlagWrong)

/- THE SECOND FORM. 'bulk': how many values and letters a reading holds, each counted each time it is reached (what is shared counts as often as it is met; a slice's spare places count too). A statement '..UptoSaid' is the law's where the arguments, and the package variables that the reading takes, are together of bulk at most 1048576: NARROWER than '..Said'. Prove '..Said' where nothing that the law and all that it calls make is longer than what came in: it says more and counts as full. Else prove '..UptoSaid'. A law counts once. -/
mutual
def uptoBulk {H : Type} : DataW H → Nat
  | .lit (.string bytes) => bytes.length + 1
  | .lit _ => 1
  | .nil => 1
  | .ptr d => uptoBulk d + 1
  | .slice elems spare => uptoBulkAll elems + uptoBulkAll spare + 1
  | .agg parts => uptoBulkAll parts + 1
  | .iface _ d => uptoBulk d + 1
  | .map entries => uptoBulkEntries entries + 1
  | .held _ => 1
def uptoBulkAll {H : Type} : List (DataW H) → Nat
  | [] => 0
  | d :: r => uptoBulk d + uptoBulkAll r
def uptoBulkEntries {H : Type} : List (Lit × DataW H) → Nat
  | [] => 0
  | x :: r => uptoBulkEntry x + uptoBulkEntries r
def uptoBulkEntry {H : Type} : Lit × DataW H → Nat
  | (.string bytes, d) => bytes.length + uptoBulk d + 1
  | (_, d) => uptoBulk d + 1
 end
def uptoSmall : (H : Type) → List (DataW H) → Bool := fun _ ds => decide (uptoBulkAll ds ≤ 1048576)
def OpenSpec.upto (s : _root_.Go.ChangeSpec) : _root_.Go.OpenSpec := { _root_.Go.OpenSpec.ofChange s with cond := some uptoSmall }

/-- 'laws.FnExactValidFlag', WHERE WHAT IT READS IS OF BULK AT MOST 1048576: true; the input reads as it did. -/
def fnExactValidFlagUptoRow : OpenClaim := { program := "ytdibcchhamapjaa", sum := "4cbcfa151539e726645bef66facbdd70b8926575168316ea594a0008ca4a3a79", func := "loop.example/g01169/laws.FnExactValidFlag", spec := "fnExactValidFlag", apart := false, narrowed := true }
def FnExactValidFlagUptoSaid : Prop := fnExactValidFlagUptoRow.holds Try.pinned (OpenSpec.upto fnExactValidFlagSpec)

/-- 'laws.FnExactTypeOf', WHERE WHAT IT READS IS OF BULK AT MOST 1048576: true; the input reads as it did. -/
def fnExactTypeOfUptoRow : OpenClaim := { program := "ytdibcchhamapjaa", sum := "4cbcfa151539e726645bef66facbdd70b8926575168316ea594a0008ca4a3a79", func := "loop.example/g01169/laws.FnExactTypeOf", spec := "fnExactTypeOf", recurses := true, apart := false, narrowed := true }
def FnExactTypeOfUptoSaid : Prop := fnExactTypeOfUptoRow.holds Try.pinned (OpenSpec.upto fnExactTypeOfSpec)

/-- 'laws.FnExactSizeOf', WHERE WHAT IT READS IS OF BULK AT MOST 1048576: true; the input reads as it did. -/
def fnExactSizeOfUptoRow : OpenClaim := { program := "ytdibcchhamapjaa", sum := "4cbcfa151539e726645bef66facbdd70b8926575168316ea594a0008ca4a3a79", func := "loop.example/g01169/laws.FnExactSizeOf", spec := "fnExactSizeOf", apart := false, narrowed := true }
def FnExactSizeOfUptoSaid : Prop := fnExactSizeOfUptoRow.holds Try.pinned (OpenSpec.upto fnExactSizeOfSpec)

/-- 'laws.FnExactPlainFlag', WHERE WHAT IT READS IS OF BULK AT MOST 1048576: true; the input reads as it did. -/
def fnExactPlainFlagUptoRow : OpenClaim := { program := "ytdibcchhamapjaa", sum := "4cbcfa151539e726645bef66facbdd70b8926575168316ea594a0008ca4a3a79", func := "loop.example/g01169/laws.FnExactPlainFlag", spec := "fnExactPlainFlag", apart := false, narrowed := true }
def FnExactPlainFlagUptoSaid : Prop := fnExactPlainFlagUptoRow.holds Try.pinned (OpenSpec.upto fnExactPlainFlagSpec)

/-- 'laws.FnExactFlagOf', WHERE WHAT IT READS IS OF BULK AT MOST 1048576: true; the input reads as it did. -/
def fnExactFlagOfUptoRow : OpenClaim := { program := "ytdibcchhamapjaa", sum := "4cbcfa151539e726645bef66facbdd70b8926575168316ea594a0008ca4a3a79", func := "loop.example/g01169/laws.FnExactFlagOf", spec := "fnExactFlagOf", recurses := true, apart := false, narrowed := true }
def FnExactFlagOfUptoSaid : Prop := fnExactFlagOfUptoRow.holds Try.pinned (OpenSpec.upto fnExactFlagOfSpec)

/-- 'laws.FnExactLeastFlag', WHERE WHAT IT READS IS OF BULK AT MOST 1048576: true; the input reads as it did. -/
def fnExactLeastFlagUptoRow : OpenClaim := { program := "ytdibcchhamapjaa", sum := "4cbcfa151539e726645bef66facbdd70b8926575168316ea594a0008ca4a3a79", func := "loop.example/g01169/laws.FnExactLeastFlag", spec := "fnExactLeastFlag", unfollowed := true, recurses := true, apart := false, narrowed := true }
def FnExactLeastFlagUptoSaid : Prop := fnExactLeastFlagUptoRow.holds Try.pinned (OpenSpec.upto fnExactLeastFlagSpec)

/-- 'laws.FnExactAreAlikeFlags', WHERE WHAT IT READS IS OF BULK AT MOST 1048576: true; the input reads as it did. -/
def fnExactAreAlikeFlagsUptoRow : OpenClaim := { program := "ytdibcchhamapjaa", sum := "4cbcfa151539e726645bef66facbdd70b8926575168316ea594a0008ca4a3a79", func := "loop.example/g01169/laws.FnExactAreAlikeFlags", spec := "fnExactAreAlikeFlags", unfollowed := true, recurses := true, apart := false, narrowed := true }
def FnExactAreAlikeFlagsUptoSaid : Prop := fnExactAreAlikeFlagsUptoRow.holds Try.pinned (OpenSpec.upto fnExactAreAlikeFlagsSpec)

/-- 'laws.FnExactCountSelfFlag', WHERE WHAT IT READS IS OF BULK AT MOST 1048576: true; the input reads as it did. -/
def fnExactCountSelfFlagUptoRow : OpenClaim := { program := "ytdibcchhamapjaa", sum := "4cbcfa151539e726645bef66facbdd70b8926575168316ea594a0008ca4a3a79", func := "loop.example/g01169/laws.FnExactCountSelfFlag", spec := "fnExactCountSelfFlag", unfollowed := true, recurses := true, apart := false, narrowed := true }
def FnExactCountSelfFlagUptoSaid : Prop := fnExactCountSelfFlagUptoRow.holds Try.pinned (OpenSpec.upto fnExactCountSelfFlagSpec)

/-- 'laws.FnExactTurnLabels', WHERE WHAT IT READS IS OF BULK AT MOST 1048576: true; the input reads as it did. -/
def fnExactTurnLabelsUptoRow : OpenClaim := { program := "ytdibcchhamapjaa", sum := "4cbcfa151539e726645bef66facbdd70b8926575168316ea594a0008ca4a3a79", func := "loop.example/g01169/laws.FnExactTurnLabels", spec := "fnExactTurnLabels", unfollowed := true, recurses := true, apart := false, narrowed := true }
def FnExactTurnLabelsUptoSaid : Prop := fnExactTurnLabelsUptoRow.holds Try.pinned (OpenSpec.upto fnExactTurnLabelsSpec)

/-- 'laws.FnExactForgetLabels', WHERE WHAT IT READS IS OF BULK AT MOST 1048576: true; the input reads as it did. -/
def fnExactForgetLabelsUptoRow : OpenClaim := { program := "ytdibcchhamapjaa", sum := "4cbcfa151539e726645bef66facbdd70b8926575168316ea594a0008ca4a3a79", func := "loop.example/g01169/laws.FnExactForgetLabels", spec := "fnExactForgetLabels", unfollowed := true, recurses := true, apart := false, narrowed := true }
def FnExactForgetLabelsUptoSaid : Prop := fnExactForgetLabelsUptoRow.holds Try.pinned (OpenSpec.upto fnExactForgetLabelsSpec)

/-- 'laws.FnExactPartOfFlag', WHERE WHAT IT READS IS OF BULK AT MOST 1048576: true; the input reads as it did. -/
def fnExactPartOfFlagUptoRow : OpenClaim := { program := "ytdibcchhamapjaa", sum := "4cbcfa151539e726645bef66facbdd70b8926575168316ea594a0008ca4a3a79", func := "loop.example/g01169/laws.FnExactPartOfFlag", spec := "fnExactPartOfFlag", unfollowed := true, recurses := true, apart := false, narrowed := true }
def FnExactPartOfFlagUptoSaid : Prop := fnExactPartOfFlagUptoRow.holds Try.pinned (OpenSpec.upto fnExactPartOfFlagSpec)

end Rows
end Go.Proofs.Ytdibcchhamapjaa
