/-
  DERIVED. GIVEN WITH THE SEED: THE CARDS: each row of YtddmdnljfnimbaaGreatDoorRows.lean that lists a variable, with what it lists TIED to the program's text (the seventh form; the later family's looks); each row that meets fmt, with fmt's text TOLD by the authors' own Lean function (tested against real Go, not proved from fmt's source: count such statements apart). THE CARD IS WHAT COUNTS. Prove the row's statement (the work); the ties are given (YtddmdnljfnimbaaGreatDoorTie.lean); close each card by the builder's one call (the guide's Derived/Test/ToyasCard.lean, 'card_holds'). Laid BY PROGRAM, IN A SANDBOX (cutbox-door.mjs). By AI agents, Wed Nov 11 2026. No macro, syntax, notation, axiom, sorry.
-/
import Derived.Test.YtddmdnljfnimbaaGreatDoorRows
import GoSem.ClaimSeven
namespace Go.Proofs.YtddmdnljfnimbaaGreatDoor
namespace Rows

/-- THE TIED CARD OF 'laws.FnExactCertOK'. -/
def fnExactCertOKCard : Claim7 := { stood := { row := fnExactCertOKRow, standIns := [], harness := (true, "ade9712105aa18b7a0fd1e4492afb57a09b3ec127057543149ae61dad0f9be16"), looks := true }, kinds := [], alts := [], laidByText := true, laidKinds := [.data], laidTests := true, laidLooks := .later }
def FnExactCertOKCardSaid : Prop := Claim7.holds Tryz.pinned (.plain (OpenSpec.ofChange fnExactCertOKSpec)) fnExactCertOKCard

/-- THE TIED CARD OF 'laws.FnExactViewCerts'. -/
def fnExactViewCertsCard : Claim7 := { stood := { row := fnExactViewCertsRow, standIns := [], harness := (true, "ade9712105aa18b7a0fd1e4492afb57a09b3ec127057543149ae61dad0f9be16"), looks := true }, kinds := [], alts := [], laidByText := true, laidKinds := [.data], laidTests := true, laidLooks := .later }
def FnExactViewCertsCardSaid : Prop := Claim7.holds Tryz.pinned (.plain (OpenSpec.ofChange fnExactViewCertsSpec)) fnExactViewCertsCard

/-- THE TIED CARD OF 'laws.FnExactPlanOf'. -/
def fnExactPlanOfCard : Claim7 := { stood := { row := fnExactPlanOfRow, standIns := [], harness := (true, "ade9712105aa18b7a0fd1e4492afb57a09b3ec127057543149ae61dad0f9be16"), looks := true }, kinds := [], alts := [], laidByText := true, laidKinds := [.data], laidTests := true, laidLooks := .later }
def FnExactPlanOfCardSaid : Prop := Claim7.holds Tryz.pinned (.plain (OpenSpec.ofChange fnExactPlanOfSpec)) fnExactPlanOfCard

/-- THE SECOND FORM's CARD OF 'laws.FnExactCertOK'. -/
def fnExactCertOKUptoCard : Claim7 := { stood := { row := fnExactCertOKUptoRow, standIns := [], harness := (true, "ade9712105aa18b7a0fd1e4492afb57a09b3ec127057543149ae61dad0f9be16"), looks := true }, kinds := [], alts := [], laidByText := true, laidKinds := [.data], laidTests := true, laidLooks := .later }
def FnExactCertOKUptoCardSaid : Prop := Claim7.holds Tryz.pinned (.plain (OpenSpec.upto fnExactCertOKSpec)) fnExactCertOKUptoCard

/-- THE SECOND FORM's CARD OF 'laws.FnExactViewCerts'. -/
def fnExactViewCertsUptoCard : Claim7 := { stood := { row := fnExactViewCertsUptoRow, standIns := [], harness := (true, "ade9712105aa18b7a0fd1e4492afb57a09b3ec127057543149ae61dad0f9be16"), looks := true }, kinds := [], alts := [], laidByText := true, laidKinds := [.data], laidTests := true, laidLooks := .later }
def FnExactViewCertsUptoCardSaid : Prop := Claim7.holds Tryz.pinned (.plain (OpenSpec.upto fnExactViewCertsSpec)) fnExactViewCertsUptoCard

/-- THE SECOND FORM's CARD OF 'laws.FnExactPlanOf'. -/
def fnExactPlanOfUptoCard : Claim7 := { stood := { row := fnExactPlanOfUptoRow, standIns := [], harness := (true, "ade9712105aa18b7a0fd1e4492afb57a09b3ec127057543149ae61dad0f9be16"), looks := true }, kinds := [], alts := [], laidByText := true, laidKinds := [.data], laidTests := true, laidLooks := .later }
def FnExactPlanOfUptoCardSaid : Prop := Claim7.holds Tryz.pinned (.plain (OpenSpec.upto fnExactPlanOfSpec)) fnExactPlanOfUptoCard
end Rows
end Go.Proofs.YtddmdnljfnimbaaGreatDoor
