/-
  DERIVED. GIVEN WITH THE SEED: THE CARDS: each row of YtppefjmllebacaaGreatDoorRows.lean that lists a variable, with what it lists TIED to the program's text (the seventh form; the later family's looks); each row that meets fmt, with fmt's text TOLD by the authors' own Lean function (tested against real Go, not proved from fmt's source: count such statements apart). THE CARD IS WHAT COUNTS. Prove the row's statement (the work); the ties are given (YtppefjmllebacaaGreatDoorTie.lean); close each card by the builder's one call (the guide's Derived/Test/ToyasCard.lean, 'card_holds'). Laid BY PROGRAM, IN A SANDBOX (cutbox-door.mjs). By AI agents, Wed Nov 11 2026. No macro, syntax, notation, axiom, sorry.
-/
import Derived.Test.YtppefjmllebacaaGreatDoorRows
import GoSem.ClaimSeven
namespace Go.Proofs.YtppefjmllebacaaGreatDoor
namespace Rows

/-- THE TIED CARD OF 'nacrelaw02.DrillRuns'. -/
def drillRunsCard : Claim7 := { stood := { row := drillRunsRow, standIns := [], harness := (true, "d36e3fb61d715adf47693f543d633bd6044a86635beab604ce16a08b92bf302d"), looks := true }, kinds := [], alts := [], laidByText := true, laidKinds := [.data, .data, .data, .data], laidTests := true, laidLooks := .later }
def DrillRunsCardSaid : Prop := Claim7.holds Tryz.pinned (.plain (OpenSpec.ofChange drillRunsSpec)) drillRunsCard

/-- THE TIED CARD OF 'nacrelaw02.DrillKnowns'. -/
def drillKnownsCard : Claim7 := { stood := { row := drillKnownsRow, standIns := [], harness := (true, "d36e3fb61d715adf47693f543d633bd6044a86635beab604ce16a08b92bf302d"), looks := true }, kinds := [], alts := [], laidByText := true, laidKinds := [.data, .data, .data, .data], laidTests := true, laidLooks := .later }
def DrillKnownsCardSaid : Prop := Claim7.holds Tryz.pinned (.plain (OpenSpec.ofChange drillKnownsSpec)) drillKnownsCard

/-- THE SECOND FORM's CARD OF 'nacrelaw02.DrillRuns'. -/
def drillRunsUptoCard : Claim7 := { stood := { row := drillRunsUptoRow, standIns := [], harness := (true, "d36e3fb61d715adf47693f543d633bd6044a86635beab604ce16a08b92bf302d"), looks := true }, kinds := [], alts := [], laidByText := true, laidKinds := [.data, .data, .data, .data], laidTests := true, laidLooks := .later }
def DrillRunsUptoCardSaid : Prop := Claim7.holds Tryz.pinned (.plain (OpenSpec.upto drillRunsSpec)) drillRunsUptoCard

/-- THE SECOND FORM's CARD OF 'nacrelaw02.DrillKnowns'. -/
def drillKnownsUptoCard : Claim7 := { stood := { row := drillKnownsUptoRow, standIns := [], harness := (true, "d36e3fb61d715adf47693f543d633bd6044a86635beab604ce16a08b92bf302d"), looks := true }, kinds := [], alts := [], laidByText := true, laidKinds := [.data, .data, .data, .data], laidTests := true, laidLooks := .later }
def DrillKnownsUptoCardSaid : Prop := Claim7.holds Tryz.pinned (.plain (OpenSpec.upto drillKnownsSpec)) drillKnownsUptoCard
end Rows
end Go.Proofs.YtppefjmllebacaaGreatDoor
