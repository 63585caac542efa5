/-
  DERIVED. GIVEN WITH THE SEED: THE CARDS: each row of YtpolfmflolmceaaGreatDoorRows.lean that lists a variable, with what it lists TIED to the program's text (the seventh form; the later family's looks); each row that meets fmt, with fmt's text TOLD by the authors' own Lean function (tested against real Go, not proved from fmt's source: count such statements apart). THE CARD IS WHAT COUNTS. Prove the row's statement (the work); the ties are given (YtpolfmflolmceaaGreatDoorTie.lean); close each card by the builder's one call (the guide's Derived/Test/ToyasCard.lean, 'card_holds'). Laid BY PROGRAM, IN A SANDBOX (cutbox-door.mjs). By AI agents, Wed Nov 11 2026. No macro, syntax, notation, axiom, sorry.
-/
import Derived.Test.YtpolfmflolmceaaGreatDoorRows
import GoSem.ClaimSeven
namespace Go.Proofs.YtpolfmflolmceaaGreatDoor
namespace Rows

/-- THE TIED CARD OF 'nacrelaw02.DrillTurns'. -/
def drillTurnsCard : Claim7 := { stood := { row := drillTurnsRow, standIns := [], harness := (true, "4a4daf7489b63e5bf9d179c37cab5b658432e646e7cdca0e93bfe21989f212bf"), looks := true }, kinds := [], alts := [], laidByText := true, laidKinds := [.data, .data, .data, .data], laidTests := true, laidLooks := .later }
def DrillTurnsCardSaid : Prop := Claim7.holds Tryz.pinned (.plain (OpenSpec.ofChange drillTurnsSpec)) drillTurnsCard

/-- THE SECOND FORM's CARD OF 'nacrelaw02.DrillTurns'. -/
def drillTurnsUptoCard : Claim7 := { stood := { row := drillTurnsUptoRow, standIns := [], harness := (true, "4a4daf7489b63e5bf9d179c37cab5b658432e646e7cdca0e93bfe21989f212bf"), looks := true }, kinds := [], alts := [], laidByText := true, laidKinds := [.data, .data, .data, .data], laidTests := true, laidLooks := .later }
def DrillTurnsUptoCardSaid : Prop := Claim7.holds Tryz.pinned (.plain (OpenSpec.upto drillTurnsSpec)) drillTurnsUptoCard
end Rows
end Go.Proofs.YtpolfmflolmceaaGreatDoor
