/-
  DERIVED. GIVEN WITH THE SEED: THE CARDS: each row of YtondmbeccpekiaaGreatDoorRows.lean that lists a variable, with what it lists TIED to the program's text (the seventh form; the later family's looks); each row that meets fmt, with fmt's text TOLD by the authors' own Lean function (tested against real Go, not proved from fmt's source: count such statements apart). THE CARD IS WHAT COUNTS. Prove the row's statement (the work); the ties are given (YtondmbeccpekiaaGreatDoorTie.lean); close each card by the builder's one call (the guide's Derived/Test/ToyasCard.lean, 'card_holds'). Laid BY PROGRAM, IN A SANDBOX (cutbox-door.mjs). By AI agents, Wed Nov 11 2026. No macro, syntax, notation, axiom, sorry.
-/
import Derived.Test.YtondmbeccpekiaaGreatDoorRows
import GoSem.ClaimSeven
namespace Go.Proofs.YtondmbeccpekiaaGreatDoor
namespace Rows

/-- THE TIED CARD OF 'laws.FnExactGroupOK'. -/
def fnExactGroupOKCard : Claim7 := { stood := { row := fnExactGroupOKRow, standIns := [], harness := (true, "0b75d23df8ab74f043631dc3696ec9dac2b7ad77cf3a92397a8fd6217669d0fc"), looks := true }, kinds := [], alts := [], laidByText := true, laidKinds := [.data], laidTests := true, laidLooks := .later }
def FnExactGroupOKCardSaid : Prop := Claim7.holds Tryz.pinned (.plain (OpenSpec.ofChange fnExactGroupOKSpec)) fnExactGroupOKCard

/-- THE TIED CARD OF 'laws.FnExactLongestLog'. -/
def fnExactLongestLogCard : Claim7 := { stood := { row := fnExactLongestLogRow, standIns := [], harness := (true, "0b75d23df8ab74f043631dc3696ec9dac2b7ad77cf3a92397a8fd6217669d0fc"), looks := true }, kinds := [], alts := [], laidByText := true, laidKinds := [.data], laidTests := true, laidLooks := .later }
def FnExactLongestLogCardSaid : Prop := Claim7.holds Tryz.pinned (.plain (OpenSpec.ofChange fnExactLongestLogSpec)) fnExactLongestLogCard

/-- THE TIED CARD OF 'laws.FnExactLogsAgree'. -/
def fnExactLogsAgreeCard : Claim7 := { stood := { row := fnExactLogsAgreeRow, standIns := [], harness := (true, "0b75d23df8ab74f043631dc3696ec9dac2b7ad77cf3a92397a8fd6217669d0fc"), looks := true }, kinds := [], alts := [], laidByText := true, laidKinds := [.data], laidTests := true, laidLooks := .later }
def FnExactLogsAgreeCardSaid : Prop := Claim7.holds Tryz.pinned (.plain (OpenSpec.ofChange fnExactLogsAgreeSpec)) fnExactLogsAgreeCard

/-- THE TIED CARD OF 'laws.FnExactCertsAgree'. -/
def fnExactCertsAgreeCard : Claim7 := { stood := { row := fnExactCertsAgreeRow, standIns := [], harness := (true, "0b75d23df8ab74f043631dc3696ec9dac2b7ad77cf3a92397a8fd6217669d0fc"), looks := true }, kinds := [], alts := [], laidByText := true, laidKinds := [.data], laidTests := true, laidLooks := .later }
def FnExactCertsAgreeCardSaid : Prop := Claim7.holds Tryz.pinned (.plain (OpenSpec.ofChange fnExactCertsAgreeSpec)) fnExactCertsAgreeCard

/-- THE SECOND FORM's CARD OF 'laws.FnExactGroupOK'. -/
def fnExactGroupOKUptoCard : Claim7 := { stood := { row := fnExactGroupOKUptoRow, standIns := [], harness := (true, "0b75d23df8ab74f043631dc3696ec9dac2b7ad77cf3a92397a8fd6217669d0fc"), looks := true }, kinds := [], alts := [], laidByText := true, laidKinds := [.data], laidTests := true, laidLooks := .later }
def FnExactGroupOKUptoCardSaid : Prop := Claim7.holds Tryz.pinned (.plain (OpenSpec.upto fnExactGroupOKSpec)) fnExactGroupOKUptoCard

/-- THE SECOND FORM's CARD OF 'laws.FnExactLongestLog'. -/
def fnExactLongestLogUptoCard : Claim7 := { stood := { row := fnExactLongestLogUptoRow, standIns := [], harness := (true, "0b75d23df8ab74f043631dc3696ec9dac2b7ad77cf3a92397a8fd6217669d0fc"), looks := true }, kinds := [], alts := [], laidByText := true, laidKinds := [.data], laidTests := true, laidLooks := .later }
def FnExactLongestLogUptoCardSaid : Prop := Claim7.holds Tryz.pinned (.plain (OpenSpec.upto fnExactLongestLogSpec)) fnExactLongestLogUptoCard

/-- THE SECOND FORM's CARD OF 'laws.FnExactLogsAgree'. -/
def fnExactLogsAgreeUptoCard : Claim7 := { stood := { row := fnExactLogsAgreeUptoRow, standIns := [], harness := (true, "0b75d23df8ab74f043631dc3696ec9dac2b7ad77cf3a92397a8fd6217669d0fc"), looks := true }, kinds := [], alts := [], laidByText := true, laidKinds := [.data], laidTests := true, laidLooks := .later }
def FnExactLogsAgreeUptoCardSaid : Prop := Claim7.holds Tryz.pinned (.plain (OpenSpec.upto fnExactLogsAgreeSpec)) fnExactLogsAgreeUptoCard

/-- THE SECOND FORM's CARD OF 'laws.FnExactCertsAgree'. -/
def fnExactCertsAgreeUptoCard : Claim7 := { stood := { row := fnExactCertsAgreeUptoRow, standIns := [], harness := (true, "0b75d23df8ab74f043631dc3696ec9dac2b7ad77cf3a92397a8fd6217669d0fc"), looks := true }, kinds := [], alts := [], laidByText := true, laidKinds := [.data], laidTests := true, laidLooks := .later }
def FnExactCertsAgreeUptoCardSaid : Prop := Claim7.holds Tryz.pinned (.plain (OpenSpec.upto fnExactCertsAgreeSpec)) fnExactCertsAgreeUptoCard
end Rows
end Go.Proofs.YtondmbeccpekiaaGreatDoor
