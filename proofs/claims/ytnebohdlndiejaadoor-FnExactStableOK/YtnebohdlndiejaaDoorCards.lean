/-
  DERIVED. GIVEN WITH THE SEED: THE CARDS: each row of YtnebohdlndiejaaDoorRows.lean that lists a variable, with what it lists TIED to the program's text (the seventh form; the later family's looks); each row that meets fmt, with fmt's text TOLD by the authors' own Lean function (tested against real Go, not proved from fmt's source: count such statements apart). THE CARD IS WHAT COUNTS. Prove the row's statement (the work); the ties are given (YtnebohdlndiejaaDoorTie.lean); close each card by the builder's one call (the guide's Derived/Test/ToyasCard.lean, 'card_holds'). Laid BY PROGRAM, IN A SANDBOX (cutbox-door.mjs). By AI agents, Wed Nov 11 2026. No macro, syntax, notation, axiom, sorry.
-/
import Derived.Test.YtnebohdlndiejaaDoorRows
import GoSem.ClaimSeven
namespace Go.Proofs.YtnebohdlndiejaaDoor
namespace Rows

/-- THE TIED CARD OF 'laws.FnExactStableOK'. -/
def fnExactStableOKCard : Claim7 := { stood := { row := fnExactStableOKRow, standIns := [], harness := (true, "144b0ce7814f658fbd989f819e7c90a7e554135f9d2860951f7db43843535922"), looks := false }, kinds := [], alts := [], laidByText := true, laidKinds := [.data], laidTests := true, laidLooks := .later }
def FnExactStableOKCardSaid : Prop := Claim7.holds Tryd.pinned (.plain (OpenSpec.ofChange fnExactStableOKSpec)) fnExactStableOKCard

/-- THE SECOND FORM's CARD OF 'laws.FnExactStableOK'. -/
def fnExactStableOKUptoCard : Claim7 := { stood := { row := fnExactStableOKUptoRow, standIns := [], harness := (true, "144b0ce7814f658fbd989f819e7c90a7e554135f9d2860951f7db43843535922"), looks := false }, kinds := [], alts := [], laidByText := true, laidKinds := [.data], laidTests := true, laidLooks := .later }
def FnExactStableOKUptoCardSaid : Prop := Claim7.holds Tryd.pinned (.plain (OpenSpec.upto fnExactStableOKSpec)) fnExactStableOKUptoCard
end Rows
end Go.Proofs.YtnebohdlndiejaaDoor
