/-
  DERIVED. GIVEN WITH THE SEED: THE CARDS: each row of YtkfiahemgdppfaaGreatDoorRows.lean that lists a variable, with what it lists TIED to the program's text (the seventh form; the later family's looks); each row that meets fmt, with fmt's text TOLD by the authors' own Lean function (tested against real Go, not proved from fmt's source: count such statements apart). THE CARD IS WHAT COUNTS. Prove the row's statement (the work); the ties are given (YtkfiahemgdppfaaGreatDoorTie.lean); close each card by the builder's one call (the guide's Derived/Test/ToyasCard.lean, 'card_holds'). Laid BY PROGRAM, IN A SANDBOX (cutbox-door.mjs). By AI agents, Wed Nov 11 2026. No macro, syntax, notation, axiom, sorry.
-/
import Derived.Test.YtkfiahemgdppfaaGreatDoorRows
import GoSem.ClaimSeven
namespace Go.Proofs.YtkfiahemgdppfaaGreatDoor
namespace Rows

/-- THE TIED CARD OF 'laws.FnPlan'. -/
def fnPlanCard : Claim7 := { stood := { row := fnPlanRow, standIns := [], harness := (true, "4dff5b4f822a463a960a9d2af40ee13c4cf89e1cbb9bb6533d2848ddacce8479"), looks := true }, kinds := [], alts := [], laidByText := true, laidKinds := [.data], laidTests := true, laidLooks := .later }
def FnPlanCardSaid : Prop := Claim7.holds Tryz.pinned (.plain (OpenSpec.ofChange fnPlanSpec)) fnPlanCard

/-- THE TIED CARD OF 'laws.FnExactReplicaOK'. -/
def fnExactReplicaOKCard : Claim7 := { stood := { row := fnExactReplicaOKRow, standIns := [], harness := (true, "4dff5b4f822a463a960a9d2af40ee13c4cf89e1cbb9bb6533d2848ddacce8479"), looks := true }, kinds := [], alts := [], laidByText := true, laidKinds := [.data], laidTests := true, laidLooks := .later }
def FnExactReplicaOKCardSaid : Prop := Claim7.holds Tryz.pinned (.plain (OpenSpec.ofChange fnExactReplicaOKSpec)) fnExactReplicaOKCard

/-- THE SECOND FORM's CARD OF 'laws.FnPlan'. -/
def fnPlanUptoCard : Claim7 := { stood := { row := fnPlanUptoRow, standIns := [], harness := (true, "4dff5b4f822a463a960a9d2af40ee13c4cf89e1cbb9bb6533d2848ddacce8479"), looks := true }, kinds := [], alts := [], laidByText := true, laidKinds := [.data], laidTests := true, laidLooks := .later }
def FnPlanUptoCardSaid : Prop := Claim7.holds Tryz.pinned (.plain (OpenSpec.upto fnPlanSpec)) fnPlanUptoCard

/-- THE SECOND FORM's CARD OF 'laws.FnExactReplicaOK'. -/
def fnExactReplicaOKUptoCard : Claim7 := { stood := { row := fnExactReplicaOKUptoRow, standIns := [], harness := (true, "4dff5b4f822a463a960a9d2af40ee13c4cf89e1cbb9bb6533d2848ddacce8479"), looks := true }, kinds := [], alts := [], laidByText := true, laidKinds := [.data], laidTests := true, laidLooks := .later }
def FnExactReplicaOKUptoCardSaid : Prop := Claim7.holds Tryz.pinned (.plain (OpenSpec.upto fnExactReplicaOKSpec)) fnExactReplicaOKUptoCard
end Rows
end Go.Proofs.YtkfiahemgdppfaaGreatDoor
