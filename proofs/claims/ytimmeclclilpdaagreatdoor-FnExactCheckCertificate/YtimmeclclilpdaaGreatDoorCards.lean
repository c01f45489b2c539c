/-
  DERIVED. GIVEN WITH THE SEED: THE CARDS: each row of YtimmeclclilpdaaGreatDoorRows.lean that lists a variable, with what it lists TIED to the program's text (the seventh form; the later family's looks); each row that meets fmt, with fmt's text TOLD by the authors' own Lean function (tested against real Go, not proved from fmt's source: count such statements apart). THE CARD IS WHAT COUNTS. Prove the row's statement (the work); the ties are given (YtimmeclclilpdaaGreatDoorTie.lean); close each card by the builder's one call (the guide's Derived/Test/ToyasCard.lean, 'card_holds'). Laid BY PROGRAM, IN A SANDBOX (cutbox-door.mjs). By AI agents, Wed Nov 11 2026. No macro, syntax, notation, axiom, sorry.
-/
import Derived.Test.YtimmeclclilpdaaGreatDoorRows
import GoSem.ClaimSeven
namespace Go.Proofs.YtimmeclclilpdaaGreatDoor
namespace Rows

/-- THE TIED CARD OF 'laws.FnCertificates'. -/
def fnCertificatesCard : Claim7 := { stood := { row := fnCertificatesRow, standIns := [], harness := (true, "8029ddc7d7645bd7309972e01c94259da560dc03e52e73ff53f63f5f94ed0cc1"), looks := false }, kinds := [], alts := [], laidByText := true, laidKinds := [.data, .data, .data, .data], laidTests := true, laidLooks := .later }
def FnCertificatesCardSaid : Prop := Claim7.holds Tryz.pinned (.plain (OpenSpec.ofChange fnCertificatesSpec)) fnCertificatesCard

/-- THE TIED CARD OF 'laws.FnExactMakeCertificate'. -/
def fnExactMakeCertificateCard : Claim7 := { stood := { row := fnExactMakeCertificateRow, standIns := [], harness := (true, "8029ddc7d7645bd7309972e01c94259da560dc03e52e73ff53f63f5f94ed0cc1"), looks := false }, kinds := [], alts := [], laidByText := true, laidKinds := [.data, .data, .data, .data], laidTests := true, laidLooks := .later }
def FnExactMakeCertificateCardSaid : Prop := Claim7.holds Tryz.pinned (.plain (OpenSpec.ofChange fnExactMakeCertificateSpec)) fnExactMakeCertificateCard

/-- THE TIED CARD OF 'laws.FnExactCheckCertificate'. -/
def fnExactCheckCertificateCard : Claim7 := { stood := { row := fnExactCheckCertificateRow, standIns := [], harness := (true, "8029ddc7d7645bd7309972e01c94259da560dc03e52e73ff53f63f5f94ed0cc1"), looks := false }, kinds := [], alts := [], laidByText := true, laidKinds := [.data, .data, .data, .data], laidTests := true, laidLooks := .later }
def FnExactCheckCertificateCardSaid : Prop := Claim7.holds Tryz.pinned (.plain (OpenSpec.ofChange fnExactCheckCertificateSpec)) fnExactCheckCertificateCard

/-- THE SECOND FORM's CARD OF 'laws.FnCertificates'. -/
def fnCertificatesUptoCard : Claim7 := { stood := { row := fnCertificatesUptoRow, standIns := [], harness := (true, "8029ddc7d7645bd7309972e01c94259da560dc03e52e73ff53f63f5f94ed0cc1"), looks := false }, kinds := [], alts := [], laidByText := true, laidKinds := [.data, .data, .data, .data], laidTests := true, laidLooks := .later }
def FnCertificatesUptoCardSaid : Prop := Claim7.holds Tryz.pinned (.plain (OpenSpec.upto fnCertificatesSpec)) fnCertificatesUptoCard

/-- THE SECOND FORM's CARD OF 'laws.FnExactMakeCertificate'. -/
def fnExactMakeCertificateUptoCard : Claim7 := { stood := { row := fnExactMakeCertificateUptoRow, standIns := [], harness := (true, "8029ddc7d7645bd7309972e01c94259da560dc03e52e73ff53f63f5f94ed0cc1"), looks := false }, kinds := [], alts := [], laidByText := true, laidKinds := [.data, .data, .data, .data], laidTests := true, laidLooks := .later }
def FnExactMakeCertificateUptoCardSaid : Prop := Claim7.holds Tryz.pinned (.plain (OpenSpec.upto fnExactMakeCertificateSpec)) fnExactMakeCertificateUptoCard

/-- THE SECOND FORM's CARD OF 'laws.FnExactCheckCertificate'. -/
def fnExactCheckCertificateUptoCard : Claim7 := { stood := { row := fnExactCheckCertificateUptoRow, standIns := [], harness := (true, "8029ddc7d7645bd7309972e01c94259da560dc03e52e73ff53f63f5f94ed0cc1"), looks := false }, kinds := [], alts := [], laidByText := true, laidKinds := [.data, .data, .data, .data], laidTests := true, laidLooks := .later }
def FnExactCheckCertificateUptoCardSaid : Prop := Claim7.holds Tryz.pinned (.plain (OpenSpec.upto fnExactCheckCertificateSpec)) fnExactCheckCertificateUptoCard
end Rows
end Go.Proofs.YtimmeclclilpdaaGreatDoor
