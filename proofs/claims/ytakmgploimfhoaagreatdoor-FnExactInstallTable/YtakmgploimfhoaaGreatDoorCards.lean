/-
  DERIVED. GIVEN WITH THE SEED: THE CARDS: each row of YtakmgploimfhoaaGreatDoorRows.lean that lists a variable, with what it lists TIED to the program's text (the seventh form; the later family's looks); each row that meets fmt, with fmt's text TOLD by the authors' own Lean function (tested against real Go, not proved from fmt's source: count such statements apart). THE CARD IS WHAT COUNTS. Prove the row's statement (the work); the ties are given (YtakmgploimfhoaaGreatDoorTie.lean); close each card by the builder's one call (the guide's Derived/Test/ToyasCard.lean, 'card_holds'). Laid BY PROGRAM, IN A SANDBOX (cutbox-door.mjs). By AI agents, Wed Nov 11 2026. No macro, syntax, notation, axiom, sorry.
-/
import Derived.Test.YtakmgploimfhoaaGreatDoorRows
import GoSem.ClaimSeven
namespace Go.Proofs.YtakmgploimfhoaaGreatDoor
namespace Rows

/-- THE TIED CARD OF 'laws.FnExactInstallTable'. -/
def fnExactInstallTableCard : Claim7 := { stood := { row := fnExactInstallTableRow, standIns := [], harness := (true, "d8d1e08bd8cb1b58711b8513efae1e3ff6bd1e39d7a5be50e778d28597bf28d2"), looks := true }, kinds := [], alts := [], laidByText := true, laidKinds := [.data, .data, .data, .data, .sentinel, .sentinel, .sentinel, .sentinel, .sentinel, .sentinel, .sentinel, .sentinel], laidTests := true, laidLooks := .later }
def FnExactInstallTableCardSaid : Prop := Claim7.holds Tryz.pinned (.plain (OpenSpec.ofChange fnExactInstallTableSpec)) fnExactInstallTableCard

/-- THE SECOND FORM's CARD OF 'laws.FnExactInstallTable'. -/
def fnExactInstallTableUptoCard : Claim7 := { stood := { row := fnExactInstallTableUptoRow, standIns := [], harness := (true, "d8d1e08bd8cb1b58711b8513efae1e3ff6bd1e39d7a5be50e778d28597bf28d2"), looks := true }, kinds := [], alts := [], laidByText := true, laidKinds := [.data, .data, .data, .data, .sentinel, .sentinel, .sentinel, .sentinel, .sentinel, .sentinel, .sentinel, .sentinel], laidTests := true, laidLooks := .later }
def FnExactInstallTableUptoCardSaid : Prop := Claim7.holds Tryz.pinned (.plain (OpenSpec.upto fnExactInstallTableSpec)) fnExactInstallTableUptoCard
end Rows
end Go.Proofs.YtakmgploimfhoaaGreatDoor
