/-
  DERIVED. GIVEN WITH THE SEED: THE CARDS: each row of YtiflfcpoajijaaaGreatDoorRows.lean that lists a variable, with what it lists TIED to the program's text (the seventh form; the later family's looks); each row that meets fmt, with fmt's text TOLD by the authors' own Lean function (tested against real Go, not proved from fmt's source: count such statements apart). THE CARD IS WHAT COUNTS. Prove the row's statement (the work); the ties are given (YtiflfcpoajijaaaGreatDoorTie.lean); close each card by the builder's one call (the guide's Derived/Test/ToyasCard.lean, 'card_holds'). Laid BY PROGRAM, IN A SANDBOX (cutbox-door.mjs). By AI agents, Wed Nov 11 2026. No macro, syntax, notation, axiom, sorry.
-/
import Derived.Test.YtiflfcpoajijaaaGreatDoorRows
import GoSem.ClaimSeven
namespace Go.Proofs.YtiflfcpoajijaaaGreatDoor
namespace Rows

/-- THE TIED CARD OF 'laws.FnCertificates'. -/
def fnCertificatesCard : Claim7 := { stood := { row := fnCertificatesRow, standIns := [], harness := (true, "8dc27cbe1866fc754a4d6a089b7afc339f0a3c54d8cbc97eaf37d5b1b4d7ddf9"), looks := false }, kinds := [], alts := [], laidByText := true, laidKinds := [.data, .data, .data, .data], laidTests := true, laidLooks := .later }
def FnCertificatesCardSaid : Prop := Claim7.holds Tryz.pinned (.plain (OpenSpec.ofChange fnCertificatesSpec)) fnCertificatesCard

/-- THE TIED CARD OF 'laws.FnExactMakeCertificate'. -/
def fnExactMakeCertificateCard : Claim7 := { stood := { row := fnExactMakeCertificateRow, standIns := [], harness := (true, "8dc27cbe1866fc754a4d6a089b7afc339f0a3c54d8cbc97eaf37d5b1b4d7ddf9"), looks := false }, kinds := [], alts := [], laidByText := true, laidKinds := [.data, .data, .data, .data], laidTests := true, laidLooks := .later }
def FnExactMakeCertificateCardSaid : Prop := Claim7.holds Tryz.pinned (.plain (OpenSpec.ofChange fnExactMakeCertificateSpec)) fnExactMakeCertificateCard

/-- THE SECOND FORM's CARD OF 'laws.FnCertificates'. -/
def fnCertificatesUptoCard : Claim7 := { stood := { row := fnCertificatesUptoRow, standIns := [], harness := (true, "8dc27cbe1866fc754a4d6a089b7afc339f0a3c54d8cbc97eaf37d5b1b4d7ddf9"), looks := false }, kinds := [], alts := [], laidByText := true, laidKinds := [.data, .data, .data, .data], laidTests := true, laidLooks := .later }
def FnCertificatesUptoCardSaid : Prop := Claim7.holds Tryz.pinned (.plain (OpenSpec.upto fnCertificatesSpec)) fnCertificatesUptoCard

/-- THE SECOND FORM's CARD OF 'laws.FnExactMakeCertificate'. -/
def fnExactMakeCertificateUptoCard : Claim7 := { stood := { row := fnExactMakeCertificateUptoRow, standIns := [], harness := (true, "8dc27cbe1866fc754a4d6a089b7afc339f0a3c54d8cbc97eaf37d5b1b4d7ddf9"), looks := false }, kinds := [], alts := [], laidByText := true, laidKinds := [.data, .data, .data, .data], laidTests := true, laidLooks := .later }
def FnExactMakeCertificateUptoCardSaid : Prop := Claim7.holds Tryz.pinned (.plain (OpenSpec.upto fnExactMakeCertificateSpec)) fnExactMakeCertificateUptoCard
end Rows
end Go.Proofs.YtiflfcpoajijaaaGreatDoor
