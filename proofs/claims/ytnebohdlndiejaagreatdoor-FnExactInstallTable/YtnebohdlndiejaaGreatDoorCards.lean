/-
  DERIVED. GIVEN WITH THE SEED: THE CARDS: each row of YtnebohdlndiejaaGreatDoorRows.lean that lists a variable, with what it lists TIED to the program's text (the seventh form; the later family's looks); each row that meets fmt, with fmt's text TOLD by the authors' own Lean function (tested against real Go, not proved from fmt's source: count such statements apart). THE CARD IS WHAT COUNTS. Prove the row's statement (the work); the ties are given (YtnebohdlndiejaaGreatDoorTie.lean); close each card by the builder's one call (the guide's Derived/Test/ToyasCard.lean, 'card_holds'). Laid BY PROGRAM, IN A SANDBOX (cutbox-door.mjs). By AI agents, Wed Nov 11 2026. No macro, syntax, notation, axiom, sorry.
-/
import Derived.Test.YtnebohdlndiejaaGreatDoorRows
import GoSem.ClaimSeven
namespace Go.Proofs.YtnebohdlndiejaaGreatDoor
namespace Rows

/-- THE TIED CARD OF 'laws.FnExactMakeStable'. -/
def fnExactMakeStableCard : Claim7 := { stood := { row := fnExactMakeStableRow, standIns := [], harness := (true, "9ca13e91633fccf597504ceea3e5ef1209d3d2f1b01bf3c3a6d667fe209c2f76"), looks := true }, kinds := [], alts := [], laidByText := true, laidKinds := [.data, .sentinel, .sentinel, .sentinel, .sentinel, .sentinel, .sentinel, .sentinel, .sentinel], laidTests := true, laidLooks := .later }
def FnExactMakeStableCardSaid : Prop := Claim7.holds Tryz.pinned (.plain (OpenSpec.ofChange fnExactMakeStableSpec)) fnExactMakeStableCard

/-- THE TIED CARD OF 'laws.FnExactInstallTable'. -/
def fnExactInstallTableCard : Claim7 := { stood := { row := fnExactInstallTableRow, standIns := [], harness := (true, "9ca13e91633fccf597504ceea3e5ef1209d3d2f1b01bf3c3a6d667fe209c2f76"), looks := true }, kinds := [], alts := [], laidByText := true, laidKinds := [.data, .data, .data, .data, .sentinel, .sentinel, .sentinel, .sentinel, .sentinel, .sentinel, .sentinel, .sentinel], laidTests := true, laidLooks := .later }
def FnExactInstallTableCardSaid : Prop := Claim7.holds Tryz.pinned (.plain (OpenSpec.ofChange fnExactInstallTableSpec)) fnExactInstallTableCard

/-- THE SECOND FORM's CARD OF 'laws.FnExactMakeStable'. -/
def fnExactMakeStableUptoCard : Claim7 := { stood := { row := fnExactMakeStableUptoRow, standIns := [], harness := (true, "9ca13e91633fccf597504ceea3e5ef1209d3d2f1b01bf3c3a6d667fe209c2f76"), looks := true }, kinds := [], alts := [], laidByText := true, laidKinds := [.data, .sentinel, .sentinel, .sentinel, .sentinel, .sentinel, .sentinel, .sentinel, .sentinel], laidTests := true, laidLooks := .later }
def FnExactMakeStableUptoCardSaid : Prop := Claim7.holds Tryz.pinned (.plain (OpenSpec.upto fnExactMakeStableSpec)) fnExactMakeStableUptoCard

/-- THE SECOND FORM's CARD OF 'laws.FnExactInstallTable'. -/
def fnExactInstallTableUptoCard : Claim7 := { stood := { row := fnExactInstallTableUptoRow, standIns := [], harness := (true, "9ca13e91633fccf597504ceea3e5ef1209d3d2f1b01bf3c3a6d667fe209c2f76"), looks := true }, kinds := [], alts := [], laidByText := true, laidKinds := [.data, .data, .data, .data, .sentinel, .sentinel, .sentinel, .sentinel, .sentinel, .sentinel, .sentinel, .sentinel], laidTests := true, laidLooks := .later }
def FnExactInstallTableUptoCardSaid : Prop := Claim7.holds Tryz.pinned (.plain (OpenSpec.upto fnExactInstallTableSpec)) fnExactInstallTableUptoCard
end Rows
end Go.Proofs.YtnebohdlndiejaaGreatDoor
