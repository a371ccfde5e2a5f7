/-
  DERIVED. GIVEN WITH THE SEED: THE CARDS: each row of YtncbimbbkealmaaGreatDoorRows.lean that lists a variable, with what it lists TIED to the program's text (the seventh form; the later family's looks); each row that meets fmt, with fmt's text TOLD by the authors' own Lean function (tested against real Go, not proved from fmt's source: count such statements apart). THE CARD IS WHAT COUNTS. Prove the row's statement (the work); the ties are given (YtncbimbbkealmaaGreatDoorTie.lean); close each card by the builder's one call (the guide's Derived/Test/ToyasCard.lean, 'card_holds'). Laid BY PROGRAM, IN A SANDBOX (cutbox-door.mjs). By AI agents, Wed Nov 11 2026. No macro, syntax, notation, axiom, sorry.
-/
import Derived.Test.YtncbimbbkealmaaGreatDoorRows
import GoSem.ClaimSeven
namespace Go.Proofs.YtncbimbbkealmaaGreatDoor
namespace Rows

/-- THE TIED CARD OF 'laws.FnExactPairAverages'. -/
def fnExactPairAveragesCard : Claim7 := { stood := { row := fnExactPairAveragesRow, standIns := [], harness := (true, "085d048c9b13359a4059f29aa40e3e430f12acc30b5ee4b408ee9a4179ee1e9e"), looks := false }, kinds := [], alts := [], laidByText := true, laidKinds := [.data], laidTests := true, laidLooks := .later }
def FnExactPairAveragesCardSaid : Prop := Claim7.holds Tryz.pinned (.plain (OpenSpec.ofChange fnExactPairAveragesSpec)) fnExactPairAveragesCard

/-- THE SECOND FORM's CARD OF 'laws.FnExactPairAverages'. -/
def fnExactPairAveragesUptoCard : Claim7 := { stood := { row := fnExactPairAveragesUptoRow, standIns := [], harness := (true, "085d048c9b13359a4059f29aa40e3e430f12acc30b5ee4b408ee9a4179ee1e9e"), looks := false }, kinds := [], alts := [], laidByText := true, laidKinds := [.data], laidTests := true, laidLooks := .later }
def FnExactPairAveragesUptoCardSaid : Prop := Claim7.holds Tryz.pinned (.plain (OpenSpec.upto fnExactPairAveragesSpec)) fnExactPairAveragesUptoCard
end Rows
end Go.Proofs.YtncbimbbkealmaaGreatDoor
