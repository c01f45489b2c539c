/-
  DERIVED. GIVEN WITH THE SEED: THE CARDS: each row of YtmbnfpifganeeaaGreatDoorRows.lean that lists a variable, with what it lists TIED to the program's text (the seventh form; the later family's looks); each row that meets fmt, with fmt's text TOLD by the authors' own Lean function (tested against real Go, not proved from fmt's source: count such statements apart). THE CARD IS WHAT COUNTS. Prove the row's statement (the work); the ties are given (YtmbnfpifganeeaaGreatDoorTie.lean); close each card by the builder's one call (the guide's Derived/Test/ToyasCard.lean, 'card_holds'). Laid BY PROGRAM, IN A SANDBOX (cutbox-door.mjs). By AI agents, Wed Nov 11 2026. No macro, syntax, notation, axiom, sorry.
-/
import Derived.Test.YtmbnfpifganeeaaGreatDoorRows
import GoSem.ClaimSeven
namespace Go.Proofs.YtmbnfpifganeeaaGreatDoor
namespace Rows

/-- THE TIED CARD OF 'laws.FnExactClientTake'. -/
def fnExactClientTakeCard : Claim7 := { stood := { row := fnExactClientTakeRow, standIns := [], harness := (true, "e7cc9634bbe9a57dc4d3ede6a2c6f614321942c2284b397f41ada11247bcd0c3"), looks := false }, kinds := [], alts := [], laidByText := true, laidKinds := [.data], laidTests := true, laidLooks := .later }
def FnExactClientTakeCardSaid : Prop := Claim7.holds Tryz.pinned (.plain (OpenSpec.ofChange fnExactClientTakeSpec)) fnExactClientTakeCard

/-- THE SECOND FORM's CARD OF 'laws.FnExactClientTake'. -/
def fnExactClientTakeUptoCard : Claim7 := { stood := { row := fnExactClientTakeUptoRow, standIns := [], harness := (true, "e7cc9634bbe9a57dc4d3ede6a2c6f614321942c2284b397f41ada11247bcd0c3"), looks := false }, kinds := [], alts := [], laidByText := true, laidKinds := [.data], laidTests := true, laidLooks := .later }
def FnExactClientTakeUptoCardSaid : Prop := Claim7.holds Tryz.pinned (.plain (OpenSpec.upto fnExactClientTakeSpec)) fnExactClientTakeUptoCard
end Rows
end Go.Proofs.YtmbnfpifganeeaaGreatDoor
