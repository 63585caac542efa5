/-
  DERIVED. GIVEN WITH THE SEED: THE CARDS: each row of YtmjmmokbaocboaaGreatDoorRows.lean that lists a variable, with what it lists TIED to the program's text (the seventh form; the later family's looks); each row that meets fmt, with fmt's text TOLD by the authors' own Lean function (tested against real Go, not proved from fmt's source: count such statements apart). THE CARD IS WHAT COUNTS. Prove the row's statement (the work); the ties are given (YtmjmmokbaocboaaGreatDoorTie.lean); close each card by the builder's one call (the guide's Derived/Test/ToyasCard.lean, 'card_holds'). Laid BY PROGRAM, IN A SANDBOX (cutbox-door.mjs). By AI agents, Wed Nov 11 2026. No macro, syntax, notation, axiom, sorry.
-/
import Derived.Test.YtmjmmokbaocboaaGreatDoorRows
import GoSem.ClaimSeven
namespace Go.Proofs.YtmjmmokbaocboaaGreatDoor
namespace Rows

/-- THE TIED CARD OF 'nacrelaw02.DrillSures'. -/
def drillSuresCard : Claim7 := { stood := { row := drillSuresRow, standIns := [], harness := (true, "fd1f5cf0d6e7c02fd29c462d3809f5f555da0fe87736a7186db13ee02685eeab"), looks := true }, kinds := [], alts := [], laidByText := true, laidKinds := [.data, .data, .data, .data], laidTests := true, laidLooks := .later }
def DrillSuresCardSaid : Prop := Claim7.holds Tryz.pinned (.plain (OpenSpec.ofChange drillSuresSpec)) drillSuresCard

/-- THE TIED CARD OF 'nacrelaw02.DrillGauges'. -/
def drillGaugesCard : Claim7 := { stood := { row := drillGaugesRow, standIns := [], harness := (true, "fd1f5cf0d6e7c02fd29c462d3809f5f555da0fe87736a7186db13ee02685eeab"), looks := true }, kinds := [], alts := [], laidByText := true, laidKinds := [.data, .data, .data, .data], laidTests := true, laidLooks := .later }
def DrillGaugesCardSaid : Prop := Claim7.holds Tryz.pinned (.plain (OpenSpec.ofChange drillGaugesSpec)) drillGaugesCard

/-- THE TIED CARD OF 'nacrelaw02.DrillGood'. -/
def drillGoodCard : Claim7 := { stood := { row := drillGoodRow, standIns := [], harness := (true, "fd1f5cf0d6e7c02fd29c462d3809f5f555da0fe87736a7186db13ee02685eeab"), looks := true }, kinds := [], alts := [], laidByText := true, laidKinds := [.data, .data, .data, .data], laidTests := true, laidLooks := .later }
def DrillGoodCardSaid : Prop := Claim7.holds Tryz.pinned (.plain (OpenSpec.ofChange drillGoodSpec)) drillGoodCard

/-- THE TIED CARD OF 'nacrelaw02.DrillCoulds'. -/
def drillCouldsCard : Claim7 := { stood := { row := drillCouldsRow, standIns := [], harness := (true, "fd1f5cf0d6e7c02fd29c462d3809f5f555da0fe87736a7186db13ee02685eeab"), looks := true }, kinds := [], alts := [], laidByText := true, laidKinds := [.data, .data, .data, .data], laidTests := true, laidLooks := .later }
def DrillCouldsCardSaid : Prop := Claim7.holds Tryz.pinned (.plain (OpenSpec.ofChange drillCouldsSpec)) drillCouldsCard

/-- THE TIED CARD OF 'nacrelaw02.DrillMore'. -/
def drillMoreCard : Claim7 := { stood := { row := drillMoreRow, standIns := [], harness := (true, "fd1f5cf0d6e7c02fd29c462d3809f5f555da0fe87736a7186db13ee02685eeab"), looks := true }, kinds := [], alts := [], laidByText := true, laidKinds := [.data, .data, .data, .data], laidTests := true, laidLooks := .later }
def DrillMoreCardSaid : Prop := Claim7.holds Tryz.pinned (.plain (OpenSpec.ofChange drillMoreSpec)) drillMoreCard

/-- THE SECOND FORM's CARD OF 'nacrelaw02.DrillSures'. -/
def drillSuresUptoCard : Claim7 := { stood := { row := drillSuresUptoRow, standIns := [], harness := (true, "fd1f5cf0d6e7c02fd29c462d3809f5f555da0fe87736a7186db13ee02685eeab"), looks := true }, kinds := [], alts := [], laidByText := true, laidKinds := [.data, .data, .data, .data], laidTests := true, laidLooks := .later }
def DrillSuresUptoCardSaid : Prop := Claim7.holds Tryz.pinned (.plain (OpenSpec.upto drillSuresSpec)) drillSuresUptoCard

/-- THE SECOND FORM's CARD OF 'nacrelaw02.DrillGauges'. -/
def drillGaugesUptoCard : Claim7 := { stood := { row := drillGaugesUptoRow, standIns := [], harness := (true, "fd1f5cf0d6e7c02fd29c462d3809f5f555da0fe87736a7186db13ee02685eeab"), looks := true }, kinds := [], alts := [], laidByText := true, laidKinds := [.data, .data, .data, .data], laidTests := true, laidLooks := .later }
def DrillGaugesUptoCardSaid : Prop := Claim7.holds Tryz.pinned (.plain (OpenSpec.upto drillGaugesSpec)) drillGaugesUptoCard

/-- THE SECOND FORM's CARD OF 'nacrelaw02.DrillGood'. -/
def drillGoodUptoCard : Claim7 := { stood := { row := drillGoodUptoRow, standIns := [], harness := (true, "fd1f5cf0d6e7c02fd29c462d3809f5f555da0fe87736a7186db13ee02685eeab"), looks := true }, kinds := [], alts := [], laidByText := true, laidKinds := [.data, .data, .data, .data], laidTests := true, laidLooks := .later }
def DrillGoodUptoCardSaid : Prop := Claim7.holds Tryz.pinned (.plain (OpenSpec.upto drillGoodSpec)) drillGoodUptoCard

/-- THE SECOND FORM's CARD OF 'nacrelaw02.DrillCoulds'. -/
def drillCouldsUptoCard : Claim7 := { stood := { row := drillCouldsUptoRow, standIns := [], harness := (true, "fd1f5cf0d6e7c02fd29c462d3809f5f555da0fe87736a7186db13ee02685eeab"), looks := true }, kinds := [], alts := [], laidByText := true, laidKinds := [.data, .data, .data, .data], laidTests := true, laidLooks := .later }
def DrillCouldsUptoCardSaid : Prop := Claim7.holds Tryz.pinned (.plain (OpenSpec.upto drillCouldsSpec)) drillCouldsUptoCard

/-- THE SECOND FORM's CARD OF 'nacrelaw02.DrillMore'. -/
def drillMoreUptoCard : Claim7 := { stood := { row := drillMoreUptoRow, standIns := [], harness := (true, "fd1f5cf0d6e7c02fd29c462d3809f5f555da0fe87736a7186db13ee02685eeab"), looks := true }, kinds := [], alts := [], laidByText := true, laidKinds := [.data, .data, .data, .data], laidTests := true, laidLooks := .later }
def DrillMoreUptoCardSaid : Prop := Claim7.holds Tryz.pinned (.plain (OpenSpec.upto drillMoreSpec)) drillMoreUptoCard
end Rows
end Go.Proofs.YtmjmmokbaocboaaGreatDoor
