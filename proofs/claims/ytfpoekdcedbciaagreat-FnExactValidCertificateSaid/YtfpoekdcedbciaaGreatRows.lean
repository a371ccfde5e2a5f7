/-
  No cell of these rows narrows 'for every input' (looked for: loops, veiled, ifaces, maps, wideKeys, modest, calm, conditions, laid).
  DERIVED. THE GIVEN ROWS OF THIS SEAT. 2 by the template 'for every input the law returns true; each argument reads behind the call as it read before'; 0 by the template 'total and deterministic' (their statements: YtfpoekdcedbciaaGreatTotals.lean).
  GIVEN WITH THE SEED: the statements are not yours to turn. If you find one false, say at which input.
  Laid BY PROGRAM, IN A SANDBOX (cutbox-rows.mjs): the forced cells as the released guide's own fill.sh prints them over the translation 3a8541123050e82e… (all of the seat's roots in one cut). By AI agents, Wed Nov 11 2026. No macro, syntax, notation, axiom, sorry.
-/
import Derived.Test.YtfpoekdcedbciaaGreatChecked
import GoSem.Claim
import GoSem.ClaimJoined
import GoSem.ClaimMapViews
import Derived.JoinedTies
import Derived.KernelRfl
namespace Go.Proofs.YtfpoekdcedbciaaGreat
/- THE CELL 'sum', in the pinned program and in every row, IS THE sha256 OF THE DUMP (.gsa) THAT YtfpoekdcedbciaaGreatProg.lean LOADS. Nothing in Lean hashes anything: it is a label: what it is worth is what the hold of that sum in a sandbox is worth. -/
noncomputable def Tryz.pinned : Pinned := { name := "ytfpoekdcedbciaagreat", sum := "3a8541123050e82ef8e689e970502ab59744ab38b85bc1af3896de336bd0f5eb", checked := Tryz.checked }
namespace Rows
def none {H : Type} : Left H := { results := [], args := [] }

/-- 'laws.FnExactValidCertificate': WHATEVER THE INPUT: true; the input reads as it did. -/
def fnExactValidCertificateSpec : ChangeSpec := { name := "fnExactValidCertificate", fn := fun _ => fun
  | [d1, d2] => { results := [.lit (.bool true)], args := [d1, d2] }
  | _ => none }
def fnExactValidCertificateRow : OpenClaim := { program := "ytfpoekdcedbciaagreat", sum := "3a8541123050e82ef8e689e970502ab59744ab38b85bc1af3896de336bd0f5eb", func := "loop.example/g01169/laws.FnExactValidCertificate", spec := "fnExactValidCertificate", unfollowed := true, recurses := true, apart := false }
def FnExactValidCertificateSaid : Prop := fnExactValidCertificateRow.holds Tryz.pinned (OpenSpec.ofChange fnExactValidCertificateSpec)

/-- ITS FALSE NEIGHBOUR: 'it returns false'. Refute it at one input. -/
def fnExactValidCertificateWrong : ChangeSpec := { name := "fnExactValidCertificate", fn := fun _ => fun
  | [d1, d2] => { results := [.lit (.bool false)], args := [d1, d2] }
  | _ => none }
def FnExactValidCertificateWrongFalsely : Prop := fnExactValidCertificateRow.holds Tryz.pinned (OpenSpec.ofChange fnExactValidCertificateWrong)

/-- 'laws.FnExactMergeCertificates': WHATEVER THE INPUT: true; the input reads as it did. -/
def fnExactMergeCertificatesSpec : ChangeSpec := { name := "fnExactMergeCertificates", fn := fun _ => fun
  | [d1, d2, d3] => { results := [.lit (.bool true)], args := [d1, d2, d3] }
  | _ => none }
def fnExactMergeCertificatesRow : OpenClaim := { program := "ytfpoekdcedbciaagreat", sum := "3a8541123050e82ef8e689e970502ab59744ab38b85bc1af3896de336bd0f5eb", func := "loop.example/g01169/laws.FnExactMergeCertificates", spec := "fnExactMergeCertificates", unfollowed := true, recurses := true, apart := false }
def FnExactMergeCertificatesSaid : Prop := fnExactMergeCertificatesRow.holds Tryz.pinned (OpenSpec.ofChange fnExactMergeCertificatesSpec)

/-- ITS FALSE NEIGHBOUR: 'it returns false'. Refute it at one input. -/
def fnExactMergeCertificatesWrong : ChangeSpec := { name := "fnExactMergeCertificates", fn := fun _ => fun
  | [d1, d2, d3] => { results := [.lit (.bool false)], args := [d1, d2, d3] }
  | _ => none }
def FnExactMergeCertificatesWrongFalsely : Prop := fnExactMergeCertificatesRow.holds Tryz.pinned (OpenSpec.ofChange fnExactMergeCertificatesWrong)

/- THE SECOND FORM. 'bulk': how many values and letters a reading holds, each counted each time it is reached (what is shared counts as often as it is met; a slice's spare places count too). A statement '..UptoSaid' is the law's where the arguments, and the package variables that the reading takes, are together of bulk at most 1048576: NARROWER than '..Said'. Prove '..Said' where nothing that the law and all that it calls make is longer than what came in: it says more and counts as full. Else prove '..UptoSaid'. A law counts once. -/
mutual
def uptoBulk {H : Type} : DataW H → Nat
  | .lit (.string bytes) => bytes.length + 1
  | .lit _ => 1
  | .nil => 1
  | .ptr d => uptoBulk d + 1
  | .slice elems spare => uptoBulkAll elems + uptoBulkAll spare + 1
  | .agg parts => uptoBulkAll parts + 1
  | .iface _ d => uptoBulk d + 1
  | .map entries => uptoBulkEntries entries + 1
  | .held _ => 1
def uptoBulkAll {H : Type} : List (DataW H) → Nat
  | [] => 0
  | d :: r => uptoBulk d + uptoBulkAll r
def uptoBulkEntries {H : Type} : List (Lit × DataW H) → Nat
  | [] => 0
  | x :: r => uptoBulkEntry x + uptoBulkEntries r
def uptoBulkEntry {H : Type} : Lit × DataW H → Nat
  | (.string bytes, d) => bytes.length + uptoBulk d + 1
  | (_, d) => uptoBulk d + 1
 end
def uptoSmall : (H : Type) → List (DataW H) → Bool := fun _ ds => decide (uptoBulkAll ds ≤ 1048576)
def OpenSpec.upto (s : _root_.Go.ChangeSpec) : _root_.Go.OpenSpec := { _root_.Go.OpenSpec.ofChange s with cond := some uptoSmall }

/-- 'laws.FnExactValidCertificate', WHERE WHAT IT READS IS OF BULK AT MOST 1048576: true; the input reads as it did. -/
def fnExactValidCertificateUptoRow : OpenClaim := { program := "ytfpoekdcedbciaagreat", sum := "3a8541123050e82ef8e689e970502ab59744ab38b85bc1af3896de336bd0f5eb", func := "loop.example/g01169/laws.FnExactValidCertificate", spec := "fnExactValidCertificate", unfollowed := true, recurses := true, apart := false, narrowed := true }
def FnExactValidCertificateUptoSaid : Prop := fnExactValidCertificateUptoRow.holds Tryz.pinned (OpenSpec.upto fnExactValidCertificateSpec)

/-- 'laws.FnExactMergeCertificates', WHERE WHAT IT READS IS OF BULK AT MOST 1048576: true; the input reads as it did. -/
def fnExactMergeCertificatesUptoRow : OpenClaim := { program := "ytfpoekdcedbciaagreat", sum := "3a8541123050e82ef8e689e970502ab59744ab38b85bc1af3896de336bd0f5eb", func := "loop.example/g01169/laws.FnExactMergeCertificates", spec := "fnExactMergeCertificates", unfollowed := true, recurses := true, apart := false, narrowed := true }
def FnExactMergeCertificatesUptoSaid : Prop := fnExactMergeCertificatesUptoRow.holds Tryz.pinned (OpenSpec.upto fnExactMergeCertificatesSpec)

end Rows
end Go.Proofs.YtfpoekdcedbciaaGreat
