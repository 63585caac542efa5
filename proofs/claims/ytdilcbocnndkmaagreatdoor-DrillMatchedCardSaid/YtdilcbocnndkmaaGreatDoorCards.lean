/-
  DERIVED. GIVEN WITH THE SEED: THE CARDS: each row of YtdilcbocnndkmaaGreatDoorRows.lean that lists a variable, with what it lists TIED to the program's text (the seventh form; the later family's looks); each row that meets fmt, with fmt's text TOLD by the authors' own Lean function (tested against real Go, not proved from fmt's source: count such statements apart). THE CARD IS WHAT COUNTS. Prove the row's statement (the work); the ties are given (YtdilcbocnndkmaaGreatDoorTie.lean); close each card by the builder's one call (the guide's Derived/Test/ToyasCard.lean, 'card_holds'). Laid BY PROGRAM, IN A SANDBOX (cutbox-door.mjs). By AI agents, Wed Nov 11 2026. No macro, syntax, notation, axiom, sorry.
-/
import Derived.Test.YtdilcbocnndkmaaGreatDoorRows
import GoSem.ClaimSeven
namespace Go.Proofs.YtdilcbocnndkmaaGreatDoor
namespace Rows

/-- THE TIED CARD OF 'nacrelaw02.DrillTurned'. -/
def drillTurnedCard : Claim7 := { stood := { row := drillTurnedRow, standIns := [], harness := (true, "813a5675d849eaafeb747d3fa5c46e7d75d56a622b35da9a847a66ef4fb2b2dd"), looks := true }, kinds := [], alts := [], laidByText := true, laidKinds := [.data, .data, .data, .data], laidTests := true, laidLooks := .later }
def DrillTurnedCardSaid : Prop := Claim7.holds Tryz.pinned (.plain (OpenSpec.ofChange drillTurnedSpec)) drillTurnedCard

/-- THE TIED CARD OF 'nacrelaw02.DrillMatches'. -/
def drillMatchesCard : Claim7 := { stood := { row := drillMatchesRow, standIns := [], harness := (true, "813a5675d849eaafeb747d3fa5c46e7d75d56a622b35da9a847a66ef4fb2b2dd"), looks := true }, kinds := [], alts := [], laidByText := true, laidKinds := [.data, .data, .data, .data], laidTests := true, laidLooks := .later }
def DrillMatchesCardSaid : Prop := Claim7.holds Tryz.pinned (.plain (OpenSpec.ofChange drillMatchesSpec)) drillMatchesCard

/-- THE TIED CARD OF 'nacrelaw02.DrillMatched'. -/
def drillMatchedCard : Claim7 := { stood := { row := drillMatchedRow, standIns := [], harness := (true, "813a5675d849eaafeb747d3fa5c46e7d75d56a622b35da9a847a66ef4fb2b2dd"), looks := true }, kinds := [], alts := [], laidByText := true, laidKinds := [.data, .data, .data, .data], laidTests := true, laidLooks := .later }
def DrillMatchedCardSaid : Prop := Claim7.holds Tryz.pinned (.plain (OpenSpec.ofChange drillMatchedSpec)) drillMatchedCard

/-- THE TIED CARD OF 'nacrelaw02.DrillRuns'. -/
def drillRunsCard : Claim7 := { stood := { row := drillRunsRow, standIns := [], harness := (true, "813a5675d849eaafeb747d3fa5c46e7d75d56a622b35da9a847a66ef4fb2b2dd"), looks := true }, kinds := [], alts := [], laidByText := true, laidKinds := [.data, .data, .data, .data], laidTests := true, laidLooks := .later }
def DrillRunsCardSaid : Prop := Claim7.holds Tryz.pinned (.plain (OpenSpec.ofChange drillRunsSpec)) drillRunsCard

/-- THE TIED CARD OF 'nacrelaw02.DrillKnowns'. -/
def drillKnownsCard : Claim7 := { stood := { row := drillKnownsRow, standIns := [], harness := (true, "813a5675d849eaafeb747d3fa5c46e7d75d56a622b35da9a847a66ef4fb2b2dd"), looks := true }, kinds := [], alts := [], laidByText := true, laidKinds := [.data, .data, .data, .data], laidTests := true, laidLooks := .later }
def DrillKnownsCardSaid : Prop := Claim7.holds Tryz.pinned (.plain (OpenSpec.ofChange drillKnownsSpec)) drillKnownsCard

/-- THE TIED CARD OF 'nacrelaw02.DrillTrue'. -/
def drillTrueCard : Claim7 := { stood := { row := drillTrueRow, standIns := [], harness := (true, "813a5675d849eaafeb747d3fa5c46e7d75d56a622b35da9a847a66ef4fb2b2dd"), looks := true }, kinds := [], alts := [], laidByText := true, laidKinds := [.data, .data, .data, .data], laidTests := true, laidLooks := .later }
def DrillTrueCardSaid : Prop := Claim7.holds Tryz.pinned (.plain (OpenSpec.ofChange drillTrueSpec)) drillTrueCard

/-- THE TIED CARD OF 'nacrelaw02.DrillReached'. -/
def drillReachedCard : Claim7 := { stood := { row := drillReachedRow, standIns := [], harness := (true, "813a5675d849eaafeb747d3fa5c46e7d75d56a622b35da9a847a66ef4fb2b2dd"), looks := true }, kinds := [], alts := [], laidByText := true, laidKinds := [.data, .data, .data, .data], laidTests := true, laidLooks := .later }
def DrillReachedCardSaid : Prop := Claim7.holds Tryz.pinned (.plain (OpenSpec.ofChange drillReachedSpec)) drillReachedCard

/-- THE SECOND FORM's CARD OF 'nacrelaw02.DrillTurned'. -/
def drillTurnedUptoCard : Claim7 := { stood := { row := drillTurnedUptoRow, standIns := [], harness := (true, "813a5675d849eaafeb747d3fa5c46e7d75d56a622b35da9a847a66ef4fb2b2dd"), looks := true }, kinds := [], alts := [], laidByText := true, laidKinds := [.data, .data, .data, .data], laidTests := true, laidLooks := .later }
def DrillTurnedUptoCardSaid : Prop := Claim7.holds Tryz.pinned (.plain (OpenSpec.upto drillTurnedSpec)) drillTurnedUptoCard

/-- THE SECOND FORM's CARD OF 'nacrelaw02.DrillMatches'. -/
def drillMatchesUptoCard : Claim7 := { stood := { row := drillMatchesUptoRow, standIns := [], harness := (true, "813a5675d849eaafeb747d3fa5c46e7d75d56a622b35da9a847a66ef4fb2b2dd"), looks := true }, kinds := [], alts := [], laidByText := true, laidKinds := [.data, .data, .data, .data], laidTests := true, laidLooks := .later }
def DrillMatchesUptoCardSaid : Prop := Claim7.holds Tryz.pinned (.plain (OpenSpec.upto drillMatchesSpec)) drillMatchesUptoCard

/-- THE SECOND FORM's CARD OF 'nacrelaw02.DrillMatched'. -/
def drillMatchedUptoCard : Claim7 := { stood := { row := drillMatchedUptoRow, standIns := [], harness := (true, "813a5675d849eaafeb747d3fa5c46e7d75d56a622b35da9a847a66ef4fb2b2dd"), looks := true }, kinds := [], alts := [], laidByText := true, laidKinds := [.data, .data, .data, .data], laidTests := true, laidLooks := .later }
def DrillMatchedUptoCardSaid : Prop := Claim7.holds Tryz.pinned (.plain (OpenSpec.upto drillMatchedSpec)) drillMatchedUptoCard

/-- THE SECOND FORM's CARD OF 'nacrelaw02.DrillRuns'. -/
def drillRunsUptoCard : Claim7 := { stood := { row := drillRunsUptoRow, standIns := [], harness := (true, "813a5675d849eaafeb747d3fa5c46e7d75d56a622b35da9a847a66ef4fb2b2dd"), looks := true }, kinds := [], alts := [], laidByText := true, laidKinds := [.data, .data, .data, .data], laidTests := true, laidLooks := .later }
def DrillRunsUptoCardSaid : Prop := Claim7.holds Tryz.pinned (.plain (OpenSpec.upto drillRunsSpec)) drillRunsUptoCard

/-- THE SECOND FORM's CARD OF 'nacrelaw02.DrillKnowns'. -/
def drillKnownsUptoCard : Claim7 := { stood := { row := drillKnownsUptoRow, standIns := [], harness := (true, "813a5675d849eaafeb747d3fa5c46e7d75d56a622b35da9a847a66ef4fb2b2dd"), looks := true }, kinds := [], alts := [], laidByText := true, laidKinds := [.data, .data, .data, .data], laidTests := true, laidLooks := .later }
def DrillKnownsUptoCardSaid : Prop := Claim7.holds Tryz.pinned (.plain (OpenSpec.upto drillKnownsSpec)) drillKnownsUptoCard

/-- THE SECOND FORM's CARD OF 'nacrelaw02.DrillTrue'. -/
def drillTrueUptoCard : Claim7 := { stood := { row := drillTrueUptoRow, standIns := [], harness := (true, "813a5675d849eaafeb747d3fa5c46e7d75d56a622b35da9a847a66ef4fb2b2dd"), looks := true }, kinds := [], alts := [], laidByText := true, laidKinds := [.data, .data, .data, .data], laidTests := true, laidLooks := .later }
def DrillTrueUptoCardSaid : Prop := Claim7.holds Tryz.pinned (.plain (OpenSpec.upto drillTrueSpec)) drillTrueUptoCard

/-- THE SECOND FORM's CARD OF 'nacrelaw02.DrillReached'. -/
def drillReachedUptoCard : Claim7 := { stood := { row := drillReachedUptoRow, standIns := [], harness := (true, "813a5675d849eaafeb747d3fa5c46e7d75d56a622b35da9a847a66ef4fb2b2dd"), looks := true }, kinds := [], alts := [], laidByText := true, laidKinds := [.data, .data, .data, .data], laidTests := true, laidLooks := .later }
def DrillReachedUptoCardSaid : Prop := Claim7.holds Tryz.pinned (.plain (OpenSpec.upto drillReachedSpec)) drillReachedUptoCard
end Rows
end Go.Proofs.YtdilcbocnndkmaaGreatDoor
