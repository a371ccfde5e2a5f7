/-
  DERIVED. GIVEN WITH THE SEED: THE CARDS: each row of YtepbekhlpbnpkaaDoorRows.lean that lists a variable, with what it lists TIED to the program's text (the seventh form; the later family's looks); each row that meets fmt, with fmt's text TOLD by the authors' own Lean function (tested against real Go, not proved from fmt's source: count such statements apart). THE CARD IS WHAT COUNTS. Prove the row's statement (the work); the ties are given (YtepbekhlpbnpkaaDoorTie.lean); close each card by the builder's one call (the guide's Derived/Test/ToyasCard.lean, 'card_holds'). Laid BY PROGRAM, IN A SANDBOX (cutbox-door.mjs). By AI agents, Wed Nov 11 2026. No macro, syntax, notation, axiom, sorry.
-/
import Derived.Test.YtepbekhlpbnpkaaDoorRows
import GoSem.ClaimSeven
namespace Go.Proofs.YtepbekhlpbnpkaaDoor
namespace Rows

/-- THE TIED CARD OF 'laws.FnExactCountCopies'. -/
def fnExactCountCopiesCard : Claim7 := { stood := { row := fnExactCountCopiesRow, standIns := [], harness := (true, "a80a4e4a1184cab525e468c6c2628de7734ad05370a4cc42c525ac39ff844f06"), looks := false }, kinds := [], alts := [], laidByText := true, laidKinds := [.data], laidTests := true, laidLooks := .later }
def FnExactCountCopiesCardSaid : Prop := Claim7.holds Tryd.pinned (.plain (OpenSpec.ofChange fnExactCountCopiesSpec)) fnExactCountCopiesCard

/-- THE TIED CARD OF 'laws.FnExactCountFlag'. -/
def fnExactCountFlagCard : Claim7 := { stood := { row := fnExactCountFlagRow, standIns := [], harness := (true, "a80a4e4a1184cab525e468c6c2628de7734ad05370a4cc42c525ac39ff844f06"), looks := false }, kinds := [], alts := [], laidByText := true, laidKinds := [.data], laidTests := true, laidLooks := .later }
def FnExactCountFlagCardSaid : Prop := Claim7.holds Tryd.pinned (.plain (OpenSpec.ofChange fnExactCountFlagSpec)) fnExactCountFlagCard

/-- THE TIED CARD OF 'laws.FnExactFlagDensity'. -/
def fnExactFlagDensityCard : Claim7 := { stood := { row := fnExactFlagDensityRow, standIns := [], harness := (true, "a80a4e4a1184cab525e468c6c2628de7734ad05370a4cc42c525ac39ff844f06"), looks := false }, kinds := [], alts := [], laidByText := true, laidKinds := [.data], laidTests := true, laidLooks := .later }
def FnExactFlagDensityCardSaid : Prop := Claim7.holds Tryd.pinned (.plain (OpenSpec.ofChange fnExactFlagDensitySpec)) fnExactFlagDensityCard

/-- THE TIED CARD OF 'laws.FnExactJointDensity'. -/
def fnExactJointDensityCard : Claim7 := { stood := { row := fnExactJointDensityRow, standIns := [], harness := (true, "a80a4e4a1184cab525e468c6c2628de7734ad05370a4cc42c525ac39ff844f06"), looks := false }, kinds := [], alts := [], laidByText := true, laidKinds := [.data], laidTests := true, laidLooks := .later }
def FnExactJointDensityCardSaid : Prop := Claim7.holds Tryd.pinned (.plain (OpenSpec.ofChange fnExactJointDensitySpec)) fnExactJointDensityCard

/-- THE TIED CARD OF 'laws.FnExactAverageFactor'. -/
def fnExactAverageFactorCard : Claim7 := { stood := { row := fnExactAverageFactorRow, standIns := [], harness := (true, "a80a4e4a1184cab525e468c6c2628de7734ad05370a4cc42c525ac39ff844f06"), looks := false }, kinds := [], alts := [], laidByText := true, laidKinds := [.data], laidTests := true, laidLooks := .later }
def FnExactAverageFactorCardSaid : Prop := Claim7.holds Tryd.pinned (.plain (OpenSpec.ofChange fnExactAverageFactorSpec)) fnExactAverageFactorCard

/-- THE TIED CARD OF 'laws.FnExactGraphDensity'. -/
def fnExactGraphDensityCard : Claim7 := { stood := { row := fnExactGraphDensityRow, standIns := [], harness := (true, "a80a4e4a1184cab525e468c6c2628de7734ad05370a4cc42c525ac39ff844f06"), looks := false }, kinds := [], alts := [], laidByText := true, laidKinds := [.data], laidTests := true, laidLooks := .later }
def FnExactGraphDensityCardSaid : Prop := Claim7.holds Tryd.pinned (.plain (OpenSpec.ofChange fnExactGraphDensitySpec)) fnExactGraphDensityCard

/-- THE TIED CARD OF 'laws.FnExactFlagDensities'. -/
def fnExactFlagDensitiesCard : Claim7 := { stood := { row := fnExactFlagDensitiesRow, standIns := [], harness := (true, "a80a4e4a1184cab525e468c6c2628de7734ad05370a4cc42c525ac39ff844f06"), looks := false }, kinds := [], alts := [], laidByText := true, laidKinds := [.data], laidTests := true, laidLooks := .later }
def FnExactFlagDensitiesCardSaid : Prop := Claim7.holds Tryd.pinned (.plain (OpenSpec.ofChange fnExactFlagDensitiesSpec)) fnExactFlagDensitiesCard

/-- THE TIED CARD OF 'laws.FnExactThroughSize'. -/
def fnExactThroughSizeCard : Claim7 := { stood := { row := fnExactThroughSizeRow, standIns := [], harness := (true, "a80a4e4a1184cab525e468c6c2628de7734ad05370a4cc42c525ac39ff844f06"), looks := false }, kinds := [], alts := [], laidByText := true, laidKinds := [.data], laidTests := true, laidLooks := .later }
def FnExactThroughSizeCardSaid : Prop := Claim7.holds Tryd.pinned (.plain (OpenSpec.ofChange fnExactThroughSizeSpec)) fnExactThroughSizeCard

/-- THE TIED CARD OF 'laws.FnExactGraphDensities'. -/
def fnExactGraphDensitiesCard : Claim7 := { stood := { row := fnExactGraphDensitiesRow, standIns := [], harness := (true, "a80a4e4a1184cab525e468c6c2628de7734ad05370a4cc42c525ac39ff844f06"), looks := false }, kinds := [], alts := [], laidByText := true, laidKinds := [.data], laidTests := true, laidLooks := .later }
def FnExactGraphDensitiesCardSaid : Prop := Claim7.holds Tryd.pinned (.plain (OpenSpec.ofChange fnExactGraphDensitiesSpec)) fnExactGraphDensitiesCard

/-- THE TIED CARD OF 'laws.FnExactAverageDensity'. -/
def fnExactAverageDensityCard : Claim7 := { stood := { row := fnExactAverageDensityRow, standIns := [], harness := (true, "a80a4e4a1184cab525e468c6c2628de7734ad05370a4cc42c525ac39ff844f06"), looks := false }, kinds := [], alts := [], laidByText := true, laidKinds := [.data], laidTests := true, laidLooks := .later }
def FnExactAverageDensityCardSaid : Prop := Claim7.holds Tryd.pinned (.plain (OpenSpec.ofChange fnExactAverageDensitySpec)) fnExactAverageDensityCard

/-- THE SECOND FORM's CARD OF 'laws.FnExactCountCopies'. -/
def fnExactCountCopiesUptoCard : Claim7 := { stood := { row := fnExactCountCopiesUptoRow, standIns := [], harness := (true, "a80a4e4a1184cab525e468c6c2628de7734ad05370a4cc42c525ac39ff844f06"), looks := false }, kinds := [], alts := [], laidByText := true, laidKinds := [.data], laidTests := true, laidLooks := .later }
def FnExactCountCopiesUptoCardSaid : Prop := Claim7.holds Tryd.pinned (.plain (OpenSpec.upto fnExactCountCopiesSpec)) fnExactCountCopiesUptoCard

/-- THE SECOND FORM's CARD OF 'laws.FnExactCountFlag'. -/
def fnExactCountFlagUptoCard : Claim7 := { stood := { row := fnExactCountFlagUptoRow, standIns := [], harness := (true, "a80a4e4a1184cab525e468c6c2628de7734ad05370a4cc42c525ac39ff844f06"), looks := false }, kinds := [], alts := [], laidByText := true, laidKinds := [.data], laidTests := true, laidLooks := .later }
def FnExactCountFlagUptoCardSaid : Prop := Claim7.holds Tryd.pinned (.plain (OpenSpec.upto fnExactCountFlagSpec)) fnExactCountFlagUptoCard

/-- THE SECOND FORM's CARD OF 'laws.FnExactFlagDensity'. -/
def fnExactFlagDensityUptoCard : Claim7 := { stood := { row := fnExactFlagDensityUptoRow, standIns := [], harness := (true, "a80a4e4a1184cab525e468c6c2628de7734ad05370a4cc42c525ac39ff844f06"), looks := false }, kinds := [], alts := [], laidByText := true, laidKinds := [.data], laidTests := true, laidLooks := .later }
def FnExactFlagDensityUptoCardSaid : Prop := Claim7.holds Tryd.pinned (.plain (OpenSpec.upto fnExactFlagDensitySpec)) fnExactFlagDensityUptoCard

/-- THE SECOND FORM's CARD OF 'laws.FnExactJointDensity'. -/
def fnExactJointDensityUptoCard : Claim7 := { stood := { row := fnExactJointDensityUptoRow, standIns := [], harness := (true, "a80a4e4a1184cab525e468c6c2628de7734ad05370a4cc42c525ac39ff844f06"), looks := false }, kinds := [], alts := [], laidByText := true, laidKinds := [.data], laidTests := true, laidLooks := .later }
def FnExactJointDensityUptoCardSaid : Prop := Claim7.holds Tryd.pinned (.plain (OpenSpec.upto fnExactJointDensitySpec)) fnExactJointDensityUptoCard

/-- THE SECOND FORM's CARD OF 'laws.FnExactAverageFactor'. -/
def fnExactAverageFactorUptoCard : Claim7 := { stood := { row := fnExactAverageFactorUptoRow, standIns := [], harness := (true, "a80a4e4a1184cab525e468c6c2628de7734ad05370a4cc42c525ac39ff844f06"), looks := false }, kinds := [], alts := [], laidByText := true, laidKinds := [.data], laidTests := true, laidLooks := .later }
def FnExactAverageFactorUptoCardSaid : Prop := Claim7.holds Tryd.pinned (.plain (OpenSpec.upto fnExactAverageFactorSpec)) fnExactAverageFactorUptoCard

/-- THE SECOND FORM's CARD OF 'laws.FnExactGraphDensity'. -/
def fnExactGraphDensityUptoCard : Claim7 := { stood := { row := fnExactGraphDensityUptoRow, standIns := [], harness := (true, "a80a4e4a1184cab525e468c6c2628de7734ad05370a4cc42c525ac39ff844f06"), looks := false }, kinds := [], alts := [], laidByText := true, laidKinds := [.data], laidTests := true, laidLooks := .later }
def FnExactGraphDensityUptoCardSaid : Prop := Claim7.holds Tryd.pinned (.plain (OpenSpec.upto fnExactGraphDensitySpec)) fnExactGraphDensityUptoCard

/-- THE SECOND FORM's CARD OF 'laws.FnExactFlagDensities'. -/
def fnExactFlagDensitiesUptoCard : Claim7 := { stood := { row := fnExactFlagDensitiesUptoRow, standIns := [], harness := (true, "a80a4e4a1184cab525e468c6c2628de7734ad05370a4cc42c525ac39ff844f06"), looks := false }, kinds := [], alts := [], laidByText := true, laidKinds := [.data], laidTests := true, laidLooks := .later }
def FnExactFlagDensitiesUptoCardSaid : Prop := Claim7.holds Tryd.pinned (.plain (OpenSpec.upto fnExactFlagDensitiesSpec)) fnExactFlagDensitiesUptoCard

/-- THE SECOND FORM's CARD OF 'laws.FnExactThroughSize'. -/
def fnExactThroughSizeUptoCard : Claim7 := { stood := { row := fnExactThroughSizeUptoRow, standIns := [], harness := (true, "a80a4e4a1184cab525e468c6c2628de7734ad05370a4cc42c525ac39ff844f06"), looks := false }, kinds := [], alts := [], laidByText := true, laidKinds := [.data], laidTests := true, laidLooks := .later }
def FnExactThroughSizeUptoCardSaid : Prop := Claim7.holds Tryd.pinned (.plain (OpenSpec.upto fnExactThroughSizeSpec)) fnExactThroughSizeUptoCard

/-- THE SECOND FORM's CARD OF 'laws.FnExactGraphDensities'. -/
def fnExactGraphDensitiesUptoCard : Claim7 := { stood := { row := fnExactGraphDensitiesUptoRow, standIns := [], harness := (true, "a80a4e4a1184cab525e468c6c2628de7734ad05370a4cc42c525ac39ff844f06"), looks := false }, kinds := [], alts := [], laidByText := true, laidKinds := [.data], laidTests := true, laidLooks := .later }
def FnExactGraphDensitiesUptoCardSaid : Prop := Claim7.holds Tryd.pinned (.plain (OpenSpec.upto fnExactGraphDensitiesSpec)) fnExactGraphDensitiesUptoCard

/-- THE SECOND FORM's CARD OF 'laws.FnExactAverageDensity'. -/
def fnExactAverageDensityUptoCard : Claim7 := { stood := { row := fnExactAverageDensityUptoRow, standIns := [], harness := (true, "a80a4e4a1184cab525e468c6c2628de7734ad05370a4cc42c525ac39ff844f06"), looks := false }, kinds := [], alts := [], laidByText := true, laidKinds := [.data], laidTests := true, laidLooks := .later }
def FnExactAverageDensityUptoCardSaid : Prop := Claim7.holds Tryd.pinned (.plain (OpenSpec.upto fnExactAverageDensitySpec)) fnExactAverageDensityUptoCard
end Rows
end Go.Proofs.YtepbekhlpbnpkaaDoor
