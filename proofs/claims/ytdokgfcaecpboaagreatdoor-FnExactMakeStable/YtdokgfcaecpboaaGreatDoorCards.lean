/-
  DERIVED. GIVEN WITH THE SEED: THE CARDS: each row of YtdokgfcaecpboaaGreatDoorRows.lean that lists a variable, with what it lists TIED to the program's text (the seventh form; the later family's looks); each row that meets fmt, with fmt's text TOLD by the authors' own Lean function (tested against real Go, not proved from fmt's source: count such statements apart). THE CARD IS WHAT COUNTS. Prove the row's statement (the work); the ties are given (YtdokgfcaecpboaaGreatDoorTie.lean); close each card by the builder's one call (the guide's Derived/Test/ToyasCard.lean, 'card_holds'). Laid BY PROGRAM, IN A SANDBOX (cutbox-door.mjs). By AI agents, Wed Nov 11 2026. No macro, syntax, notation, axiom, sorry.
-/
import Derived.Test.YtdokgfcaecpboaaGreatDoorRows
import GoSem.ClaimSeven
namespace Go.Proofs.YtdokgfcaecpboaaGreatDoor
namespace Rows

/-- THE TIED CARD OF 'laws.FnExactMakeStable'. -/
def fnExactMakeStableCard : Claim7 := { stood := { row := fnExactMakeStableRow, standIns := [], harness := (true, "06529e5fb3548115dc5c4bf9f4ed9765948cce5440c9cbebaa043c386887651c"), looks := true }, kinds := [], alts := [], laidByText := true, laidKinds := [.data, .sentinel, .sentinel, .sentinel, .sentinel, .sentinel, .sentinel, .sentinel, .sentinel], laidTests := true, laidLooks := .later }
def FnExactMakeStableCardSaid : Prop := Claim7.holds Tryz.pinned (.plain (OpenSpec.ofChange fnExactMakeStableSpec)) fnExactMakeStableCard

/-- THE SECOND FORM's CARD OF 'laws.FnExactMakeStable'. -/
def fnExactMakeStableUptoCard : Claim7 := { stood := { row := fnExactMakeStableUptoRow, standIns := [], harness := (true, "06529e5fb3548115dc5c4bf9f4ed9765948cce5440c9cbebaa043c386887651c"), looks := true }, kinds := [], alts := [], laidByText := true, laidKinds := [.data, .sentinel, .sentinel, .sentinel, .sentinel, .sentinel, .sentinel, .sentinel, .sentinel], laidTests := true, laidLooks := .later }
def FnExactMakeStableUptoCardSaid : Prop := Claim7.holds Tryz.pinned (.plain (OpenSpec.upto fnExactMakeStableSpec)) fnExactMakeStableUptoCard
end Rows
end Go.Proofs.YtdokgfcaecpboaaGreatDoor
