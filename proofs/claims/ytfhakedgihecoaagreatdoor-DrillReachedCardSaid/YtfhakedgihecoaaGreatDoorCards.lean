/-
  DERIVED. GIVEN WITH THE SEED: THE CARDS: each row of YtfhakedgihecoaaGreatDoorRows.lean that lists a variable, with what it lists TIED to the program's text (the seventh form; the later family's looks); each row that meets fmt, with fmt's text TOLD by the authors' own Lean function (tested against real Go, not proved from fmt's source: count such statements apart). THE CARD IS WHAT COUNTS. Prove the row's statement (the work); the ties are given (YtfhakedgihecoaaGreatDoorTie.lean); close each card by the builder's one call (the guide's Derived/Test/ToyasCard.lean, 'card_holds'). Laid BY PROGRAM, IN A SANDBOX (cutbox-door.mjs). By AI agents, Wed Nov 11 2026. No macro, syntax, notation, axiom, sorry.
-/
import Derived.Test.YtfhakedgihecoaaGreatDoorRows
import GoSem.ClaimSeven
namespace Go.Proofs.YtfhakedgihecoaaGreatDoor
namespace Rows

/-- THE TIED CARD OF 'nacrelaw02.DrillRuns'. -/
def drillRunsCard : Claim7 := { stood := { row := drillRunsRow, standIns := [], harness := (true, "fec1dea2a956d5cdc4d40c0a0d4fc1bd6f2e3601412957072a360c58d5db493d"), looks := true }, kinds := [], alts := [], laidByText := true, laidKinds := [.data, .data, .data, .data], laidTests := true, laidLooks := .later }
def DrillRunsCardSaid : Prop := Claim7.holds Tryz.pinned (.plain (OpenSpec.ofChange drillRunsSpec)) drillRunsCard

/-- THE TIED CARD OF 'nacrelaw02.DrillKnowns'. -/
def drillKnownsCard : Claim7 := { stood := { row := drillKnownsRow, standIns := [], harness := (true, "fec1dea2a956d5cdc4d40c0a0d4fc1bd6f2e3601412957072a360c58d5db493d"), looks := true }, kinds := [], alts := [], laidByText := true, laidKinds := [.data, .data, .data, .data], laidTests := true, laidLooks := .later }
def DrillKnownsCardSaid : Prop := Claim7.holds Tryz.pinned (.plain (OpenSpec.ofChange drillKnownsSpec)) drillKnownsCard

/-- THE TIED CARD OF 'nacrelaw02.DrillTrue'. -/
def drillTrueCard : Claim7 := { stood := { row := drillTrueRow, standIns := [], harness := (true, "fec1dea2a956d5cdc4d40c0a0d4fc1bd6f2e3601412957072a360c58d5db493d"), looks := true }, kinds := [], alts := [], laidByText := true, laidKinds := [.data, .data, .data, .data], laidTests := true, laidLooks := .later }
def DrillTrueCardSaid : Prop := Claim7.holds Tryz.pinned (.plain (OpenSpec.ofChange drillTrueSpec)) drillTrueCard

/-- THE TIED CARD OF 'nacrelaw02.DrillReached'. -/
def drillReachedCard : Claim7 := { stood := { row := drillReachedRow, standIns := [], harness := (true, "fec1dea2a956d5cdc4d40c0a0d4fc1bd6f2e3601412957072a360c58d5db493d"), looks := true }, kinds := [], alts := [], laidByText := true, laidKinds := [.data, .data, .data, .data], laidTests := true, laidLooks := .later }
def DrillReachedCardSaid : Prop := Claim7.holds Tryz.pinned (.plain (OpenSpec.ofChange drillReachedSpec)) drillReachedCard

/-- THE SECOND FORM's CARD OF 'nacrelaw02.DrillRuns'. -/
def drillRunsUptoCard : Claim7 := { stood := { row := drillRunsUptoRow, standIns := [], harness := (true, "fec1dea2a956d5cdc4d40c0a0d4fc1bd6f2e3601412957072a360c58d5db493d"), looks := true }, kinds := [], alts := [], laidByText := true, laidKinds := [.data, .data, .data, .data], laidTests := true, laidLooks := .later }
def DrillRunsUptoCardSaid : Prop := Claim7.holds Tryz.pinned (.plain (OpenSpec.upto drillRunsSpec)) drillRunsUptoCard

/-- THE SECOND FORM's CARD OF 'nacrelaw02.DrillKnowns'. -/
def drillKnownsUptoCard : Claim7 := { stood := { row := drillKnownsUptoRow, standIns := [], harness := (true, "fec1dea2a956d5cdc4d40c0a0d4fc1bd6f2e3601412957072a360c58d5db493d"), looks := true }, kinds := [], alts := [], laidByText := true, laidKinds := [.data, .data, .data, .data], laidTests := true, laidLooks := .later }
def DrillKnownsUptoCardSaid : Prop := Claim7.holds Tryz.pinned (.plain (OpenSpec.upto drillKnownsSpec)) drillKnownsUptoCard

/-- THE SECOND FORM's CARD OF 'nacrelaw02.DrillTrue'. -/
def drillTrueUptoCard : Claim7 := { stood := { row := drillTrueUptoRow, standIns := [], harness := (true, "fec1dea2a956d5cdc4d40c0a0d4fc1bd6f2e3601412957072a360c58d5db493d"), looks := true }, kinds := [], alts := [], laidByText := true, laidKinds := [.data, .data, .data, .data], laidTests := true, laidLooks := .later }
def DrillTrueUptoCardSaid : Prop := Claim7.holds Tryz.pinned (.plain (OpenSpec.upto drillTrueSpec)) drillTrueUptoCard

/-- THE SECOND FORM's CARD OF 'nacrelaw02.DrillReached'. -/
def drillReachedUptoCard : Claim7 := { stood := { row := drillReachedUptoRow, standIns := [], harness := (true, "fec1dea2a956d5cdc4d40c0a0d4fc1bd6f2e3601412957072a360c58d5db493d"), looks := true }, kinds := [], alts := [], laidByText := true, laidKinds := [.data, .data, .data, .data], laidTests := true, laidLooks := .later }
def DrillReachedUptoCardSaid : Prop := Claim7.holds Tryz.pinned (.plain (OpenSpec.upto drillReachedSpec)) drillReachedUptoCard
end Rows
end Go.Proofs.YtfhakedgihecoaaGreatDoor
