/-
  DERIVED. GIVEN WITH THE SEED: THE CARDS: each row of YtncbimbbkealmaaDoorRows.lean that lists a variable, with what it lists TIED to the program's text (the seventh form; the later family's looks); each row that meets fmt, with fmt's text TOLD by the authors' own Lean function (tested against real Go, not proved from fmt's source: count such statements apart). THE CARD IS WHAT COUNTS. Prove the row's statement (the work); the ties are given (YtncbimbbkealmaaDoorTie.lean); close each card by the builder's one call (the guide's Derived/Test/ToyasCard.lean, 'card_holds'). Laid BY PROGRAM, IN A SANDBOX (cutbox-door.mjs). By AI agents, Wed Nov 11 2026. No macro, syntax, notation, axiom, sorry.
-/
import Derived.Test.YtncbimbbkealmaaDoorRows
import GoSem.ClaimSeven
namespace Go.Proofs.YtncbimbbkealmaaDoor
namespace Rows

/-- THE TIED CARD OF 'laws.FnExactJointDensity'. -/
def fnExactJointDensityCard : Claim7 := { stood := { row := fnExactJointDensityRow, standIns := [], harness := (true, "779d18ce0080db66b62982c5072130fa07ddb85314c8795b13aef0604718bd2a"), looks := false }, kinds := [], alts := [], laidByText := true, laidKinds := [.data], laidTests := true, laidLooks := .later }
def FnExactJointDensityCardSaid : Prop := Claim7.holds Tryd.pinned (.plain (OpenSpec.ofChange fnExactJointDensitySpec)) fnExactJointDensityCard

/-- THE TIED CARD OF 'laws.FnExactAverageFactor'. -/
def fnExactAverageFactorCard : Claim7 := { stood := { row := fnExactAverageFactorRow, standIns := [], harness := (true, "779d18ce0080db66b62982c5072130fa07ddb85314c8795b13aef0604718bd2a"), looks := false }, kinds := [], alts := [], laidByText := true, laidKinds := [.data], laidTests := true, laidLooks := .later }
def FnExactAverageFactorCardSaid : Prop := Claim7.holds Tryd.pinned (.plain (OpenSpec.ofChange fnExactAverageFactorSpec)) fnExactAverageFactorCard

/-- THE TIED CARD OF 'laws.FnExactAverageDensity'. -/
def fnExactAverageDensityCard : Claim7 := { stood := { row := fnExactAverageDensityRow, standIns := [], harness := (true, "779d18ce0080db66b62982c5072130fa07ddb85314c8795b13aef0604718bd2a"), looks := false }, kinds := [], alts := [], laidByText := true, laidKinds := [.data], laidTests := true, laidLooks := .later }
def FnExactAverageDensityCardSaid : Prop := Claim7.holds Tryd.pinned (.plain (OpenSpec.ofChange fnExactAverageDensitySpec)) fnExactAverageDensityCard

/-- THE TIED CARD OF 'laws.FnExactPairTable'. -/
def fnExactPairTableCard : Claim7 := { stood := { row := fnExactPairTableRow, standIns := [], harness := (true, "779d18ce0080db66b62982c5072130fa07ddb85314c8795b13aef0604718bd2a"), looks := false }, kinds := [], alts := [], laidByText := true, laidKinds := [.data], laidTests := true, laidLooks := .later }
def FnExactPairTableCardSaid : Prop := Claim7.holds Tryd.pinned (.plain (OpenSpec.ofChange fnExactPairTableSpec)) fnExactPairTableCard

/-- THE TIED CARD OF 'laws.FnExactFarthestFlags'. -/
def fnExactFarthestFlagsCard : Claim7 := { stood := { row := fnExactFarthestFlagsRow, standIns := [], harness := (true, "779d18ce0080db66b62982c5072130fa07ddb85314c8795b13aef0604718bd2a"), looks := false }, kinds := [], alts := [], laidByText := true, laidKinds := [.data], laidTests := true, laidLooks := .later }
def FnExactFarthestFlagsCardSaid : Prop := Claim7.holds Tryd.pinned (.plain (OpenSpec.ofChange fnExactFarthestFlagsSpec)) fnExactFarthestFlagsCard

/-- THE SECOND FORM's CARD OF 'laws.FnExactJointDensity'. -/
def fnExactJointDensityUptoCard : Claim7 := { stood := { row := fnExactJointDensityUptoRow, standIns := [], harness := (true, "779d18ce0080db66b62982c5072130fa07ddb85314c8795b13aef0604718bd2a"), looks := false }, kinds := [], alts := [], laidByText := true, laidKinds := [.data], laidTests := true, laidLooks := .later }
def FnExactJointDensityUptoCardSaid : Prop := Claim7.holds Tryd.pinned (.plain (OpenSpec.upto fnExactJointDensitySpec)) fnExactJointDensityUptoCard

/-- THE SECOND FORM's CARD OF 'laws.FnExactAverageFactor'. -/
def fnExactAverageFactorUptoCard : Claim7 := { stood := { row := fnExactAverageFactorUptoRow, standIns := [], harness := (true, "779d18ce0080db66b62982c5072130fa07ddb85314c8795b13aef0604718bd2a"), looks := false }, kinds := [], alts := [], laidByText := true, laidKinds := [.data], laidTests := true, laidLooks := .later }
def FnExactAverageFactorUptoCardSaid : Prop := Claim7.holds Tryd.pinned (.plain (OpenSpec.upto fnExactAverageFactorSpec)) fnExactAverageFactorUptoCard

/-- THE SECOND FORM's CARD OF 'laws.FnExactAverageDensity'. -/
def fnExactAverageDensityUptoCard : Claim7 := { stood := { row := fnExactAverageDensityUptoRow, standIns := [], harness := (true, "779d18ce0080db66b62982c5072130fa07ddb85314c8795b13aef0604718bd2a"), looks := false }, kinds := [], alts := [], laidByText := true, laidKinds := [.data], laidTests := true, laidLooks := .later }
def FnExactAverageDensityUptoCardSaid : Prop := Claim7.holds Tryd.pinned (.plain (OpenSpec.upto fnExactAverageDensitySpec)) fnExactAverageDensityUptoCard

/-- THE SECOND FORM's CARD OF 'laws.FnExactPairTable'. -/
def fnExactPairTableUptoCard : Claim7 := { stood := { row := fnExactPairTableUptoRow, standIns := [], harness := (true, "779d18ce0080db66b62982c5072130fa07ddb85314c8795b13aef0604718bd2a"), looks := false }, kinds := [], alts := [], laidByText := true, laidKinds := [.data], laidTests := true, laidLooks := .later }
def FnExactPairTableUptoCardSaid : Prop := Claim7.holds Tryd.pinned (.plain (OpenSpec.upto fnExactPairTableSpec)) fnExactPairTableUptoCard

/-- THE SECOND FORM's CARD OF 'laws.FnExactFarthestFlags'. -/
def fnExactFarthestFlagsUptoCard : Claim7 := { stood := { row := fnExactFarthestFlagsUptoRow, standIns := [], harness := (true, "779d18ce0080db66b62982c5072130fa07ddb85314c8795b13aef0604718bd2a"), looks := false }, kinds := [], alts := [], laidByText := true, laidKinds := [.data], laidTests := true, laidLooks := .later }
def FnExactFarthestFlagsUptoCardSaid : Prop := Claim7.holds Tryd.pinned (.plain (OpenSpec.upto fnExactFarthestFlagsSpec)) fnExactFarthestFlagsUptoCard
end Rows
end Go.Proofs.YtncbimbbkealmaaDoor
