/-
  DERIVED. GIVEN WITH THE SEED: THE CARDS: each row of YtbgjocgjmjkneaaGreatDoorRows.lean that lists a variable, with what it lists TIED to the program's text (the seventh form; the later family's looks); each row that meets fmt, with fmt's text TOLD by the authors' own Lean function (tested against real Go, not proved from fmt's source: count such statements apart). THE CARD IS WHAT COUNTS. Prove the row's statement (the work); the ties are given (YtbgjocgjmjkneaaGreatDoorTie.lean); close each card by the builder's one call (the guide's Derived/Test/ToyasCard.lean, 'card_holds'). Laid BY PROGRAM, IN A SANDBOX (cutbox-door.mjs). By AI agents, Wed Nov 11 2026. No macro, syntax, notation, axiom, sorry.
-/
import Derived.Test.YtbgjocgjmjkneaaGreatDoorRows
import GoSem.ClaimSeven
namespace Go.Proofs.YtbgjocgjmjkneaaGreatDoor
namespace Rows

/-- THE TIED CARD OF 'nacrelaw02.DrillCoulds'. -/
def drillCouldsCard : Claim7 := { stood := { row := drillCouldsRow, standIns := [], harness := (true, "aab7337ee959f218f57d71ac7bd760b3a51b755dc58814b5373ec1a70e461b82"), looks := true }, kinds := [], alts := [], laidByText := true, laidKinds := [.data, .data, .data, .data], laidTests := true, laidLooks := .later }
def DrillCouldsCardSaid : Prop := Claim7.holds Tryz.pinned (.plain (OpenSpec.ofChange drillCouldsSpec)) drillCouldsCard

/-- THE TIED CARD OF 'nacrelaw02.DrillFound'. -/
def drillFoundCard : Claim7 := { stood := { row := drillFoundRow, standIns := [], harness := (true, "aab7337ee959f218f57d71ac7bd760b3a51b755dc58814b5373ec1a70e461b82"), looks := true }, kinds := [], alts := [], laidByText := true, laidKinds := [.data, .data, .data, .data], laidTests := true, laidLooks := .later }
def DrillFoundCardSaid : Prop := Claim7.holds Tryz.pinned (.plain (OpenSpec.ofChange drillFoundSpec)) drillFoundCard

/-- THE TIED CARD OF 'nacrelaw02.DrillTogethers'. -/
def drillTogethersCard : Claim7 := { stood := { row := drillTogethersRow, standIns := [], harness := (true, "aab7337ee959f218f57d71ac7bd760b3a51b755dc58814b5373ec1a70e461b82"), looks := true }, kinds := [], alts := [], laidByText := true, laidKinds := [.data, .data, .data, .data], laidTests := true, laidLooks := .later }
def DrillTogethersCardSaid : Prop := Claim7.holds Tryz.pinned (.plain (OpenSpec.ofChange drillTogethersSpec)) drillTogethersCard

/-- THE TIED CARD OF 'nacrelaw02.DrillProves'. -/
def drillProvesCard : Claim7 := { stood := { row := drillProvesRow, standIns := [], harness := (true, "aab7337ee959f218f57d71ac7bd760b3a51b755dc58814b5373ec1a70e461b82"), looks := true }, kinds := [], alts := [], laidByText := true, laidKinds := [.data, .data, .data, .data], laidTests := true, laidLooks := .later }
def DrillProvesCardSaid : Prop := Claim7.holds Tryz.pinned (.plain (OpenSpec.ofChange drillProvesSpec)) drillProvesCard

/-- THE SECOND FORM's CARD OF 'nacrelaw02.DrillCoulds'. -/
def drillCouldsUptoCard : Claim7 := { stood := { row := drillCouldsUptoRow, standIns := [], harness := (true, "aab7337ee959f218f57d71ac7bd760b3a51b755dc58814b5373ec1a70e461b82"), looks := true }, kinds := [], alts := [], laidByText := true, laidKinds := [.data, .data, .data, .data], laidTests := true, laidLooks := .later }
def DrillCouldsUptoCardSaid : Prop := Claim7.holds Tryz.pinned (.plain (OpenSpec.upto drillCouldsSpec)) drillCouldsUptoCard

/-- THE SECOND FORM's CARD OF 'nacrelaw02.DrillFound'. -/
def drillFoundUptoCard : Claim7 := { stood := { row := drillFoundUptoRow, standIns := [], harness := (true, "aab7337ee959f218f57d71ac7bd760b3a51b755dc58814b5373ec1a70e461b82"), looks := true }, kinds := [], alts := [], laidByText := true, laidKinds := [.data, .data, .data, .data], laidTests := true, laidLooks := .later }
def DrillFoundUptoCardSaid : Prop := Claim7.holds Tryz.pinned (.plain (OpenSpec.upto drillFoundSpec)) drillFoundUptoCard

/-- THE SECOND FORM's CARD OF 'nacrelaw02.DrillTogethers'. -/
def drillTogethersUptoCard : Claim7 := { stood := { row := drillTogethersUptoRow, standIns := [], harness := (true, "aab7337ee959f218f57d71ac7bd760b3a51b755dc58814b5373ec1a70e461b82"), looks := true }, kinds := [], alts := [], laidByText := true, laidKinds := [.data, .data, .data, .data], laidTests := true, laidLooks := .later }
def DrillTogethersUptoCardSaid : Prop := Claim7.holds Tryz.pinned (.plain (OpenSpec.upto drillTogethersSpec)) drillTogethersUptoCard

/-- THE SECOND FORM's CARD OF 'nacrelaw02.DrillProves'. -/
def drillProvesUptoCard : Claim7 := { stood := { row := drillProvesUptoRow, standIns := [], harness := (true, "aab7337ee959f218f57d71ac7bd760b3a51b755dc58814b5373ec1a70e461b82"), looks := true }, kinds := [], alts := [], laidByText := true, laidKinds := [.data, .data, .data, .data], laidTests := true, laidLooks := .later }
def DrillProvesUptoCardSaid : Prop := Claim7.holds Tryz.pinned (.plain (OpenSpec.upto drillProvesSpec)) drillProvesUptoCard
end Rows
end Go.Proofs.YtbgjocgjmjkneaaGreatDoor
