/-
  DERIVED. GIVEN WITH THE SEED: THE CARDS: each row of YtjhpklolpmaopaaGreatDoorRows.lean that lists a variable, with what it lists TIED to the program's text (the seventh form; the later family's looks); each row that meets fmt, with fmt's text TOLD by the authors' own Lean function (tested against real Go, not proved from fmt's source: count such statements apart). THE CARD IS WHAT COUNTS. Prove the row's statement (the work); the ties are given (YtjhpklolpmaopaaGreatDoorTie.lean); close each card by the builder's one call (the guide's Derived/Test/ToyasCard.lean, 'card_holds'). Laid BY PROGRAM, IN A SANDBOX (cutbox-door.mjs). By AI agents, Wed Nov 11 2026. No macro, syntax, notation, axiom, sorry.
-/
import Derived.Test.YtjhpklolpmaopaaGreatDoorRows
import GoSem.ClaimSeven
namespace Go.Proofs.YtjhpklolpmaopaaGreatDoor
namespace Rows

/-- THE TIED CARD OF 'nacrelaw02.DrillFound'. -/
def drillFoundCard : Claim7 := { stood := { row := drillFoundRow, standIns := [], harness := (true, "6e164690d0854b483fb1296793f3656216820e0673f0c96aa286432aea33af51"), looks := true }, kinds := [], alts := [], laidByText := true, laidKinds := [.data, .data, .data, .data], laidTests := true, laidLooks := .later }
def DrillFoundCardSaid : Prop := Claim7.holds Tryz.pinned (.plain (OpenSpec.ofChange drillFoundSpec)) drillFoundCard

/-- THE TIED CARD OF 'nacrelaw02.DrillProves'. -/
def drillProvesCard : Claim7 := { stood := { row := drillProvesRow, standIns := [], harness := (true, "6e164690d0854b483fb1296793f3656216820e0673f0c96aa286432aea33af51"), looks := true }, kinds := [], alts := [], laidByText := true, laidKinds := [.data, .data, .data, .data], laidTests := true, laidLooks := .later }
def DrillProvesCardSaid : Prop := Claim7.holds Tryz.pinned (.plain (OpenSpec.ofChange drillProvesSpec)) drillProvesCard

/-- THE SECOND FORM's CARD OF 'nacrelaw02.DrillFound'. -/
def drillFoundUptoCard : Claim7 := { stood := { row := drillFoundUptoRow, standIns := [], harness := (true, "6e164690d0854b483fb1296793f3656216820e0673f0c96aa286432aea33af51"), looks := true }, kinds := [], alts := [], laidByText := true, laidKinds := [.data, .data, .data, .data], laidTests := true, laidLooks := .later }
def DrillFoundUptoCardSaid : Prop := Claim7.holds Tryz.pinned (.plain (OpenSpec.upto drillFoundSpec)) drillFoundUptoCard

/-- THE SECOND FORM's CARD OF 'nacrelaw02.DrillProves'. -/
def drillProvesUptoCard : Claim7 := { stood := { row := drillProvesUptoRow, standIns := [], harness := (true, "6e164690d0854b483fb1296793f3656216820e0673f0c96aa286432aea33af51"), looks := true }, kinds := [], alts := [], laidByText := true, laidKinds := [.data, .data, .data, .data], laidTests := true, laidLooks := .later }
def DrillProvesUptoCardSaid : Prop := Claim7.holds Tryz.pinned (.plain (OpenSpec.upto drillProvesSpec)) drillProvesUptoCard
end Rows
end Go.Proofs.YtjhpklolpmaopaaGreatDoor
