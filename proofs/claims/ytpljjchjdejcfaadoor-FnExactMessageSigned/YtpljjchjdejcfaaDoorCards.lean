/-
  DERIVED. GIVEN WITH THE SEED: THE CARDS: each row of YtpljjchjdejcfaaDoorRows.lean that lists a variable, with what it lists TIED to the program's text (the seventh form; the later family's looks); each row that meets fmt, with fmt's text TOLD by the authors' own Lean function (tested against real Go, not proved from fmt's source: count such statements apart). THE CARD IS WHAT COUNTS. Prove the row's statement (the work); the ties are given (YtpljjchjdejcfaaDoorTie.lean); close each card by the builder's one call (the guide's Derived/Test/ToyasCard.lean, 'card_holds'). Laid BY PROGRAM, IN A SANDBOX (cutbox-door.mjs). By AI agents, Wed Nov 11 2026. No macro, syntax, notation, axiom, sorry.
-/
import Derived.Test.YtpljjchjdejcfaaDoorRows
import GoSem.ClaimSeven
namespace Go.Proofs.YtpljjchjdejcfaaDoor
namespace Rows

/-- THE TIED CARD OF 'laws.FnExactBodyDigest'. -/
def fnExactBodyDigestCard : Claim7 := { stood := { row := fnExactBodyDigestRow, standIns := [], harness := (true, "e5f82d674005f6490c3cc65fbfec0d4ab5bdf6fc9da605304d0baef166658868"), looks := false }, kinds := [], alts := [], laidByText := true, laidKinds := [.data], laidTests := true, laidLooks := .later }
def FnExactBodyDigestCardSaid : Prop := Claim7.holds Tryd.pinned (.plain (OpenSpec.ofChange fnExactBodyDigestSpec)) fnExactBodyDigestCard

/-- THE TIED CARD OF 'laws.FnExactSignMessage'. -/
def fnExactSignMessageCard : Claim7 := { stood := { row := fnExactSignMessageRow, standIns := [], harness := (true, "e5f82d674005f6490c3cc65fbfec0d4ab5bdf6fc9da605304d0baef166658868"), looks := false }, kinds := [], alts := [], laidByText := true, laidKinds := [.data], laidTests := true, laidLooks := .later }
def FnExactSignMessageCardSaid : Prop := Claim7.holds Tryd.pinned (.plain (OpenSpec.ofChange fnExactSignMessageSpec)) fnExactSignMessageCard

/-- THE TIED CARD OF 'laws.FnExactMessageSigned'. -/
def fnExactMessageSignedCard : Claim7 := { stood := { row := fnExactMessageSignedRow, standIns := [], harness := (true, "e5f82d674005f6490c3cc65fbfec0d4ab5bdf6fc9da605304d0baef166658868"), looks := false }, kinds := [], alts := [], laidByText := true, laidKinds := [.data], laidTests := true, laidLooks := .later }
def FnExactMessageSignedCardSaid : Prop := Claim7.holds Tryd.pinned (.plain (OpenSpec.ofChange fnExactMessageSignedSpec)) fnExactMessageSignedCard

/-- THE TIED CARD OF 'laws.FnExactBodyOK'. -/
def fnExactBodyOKCard : Claim7 := { stood := { row := fnExactBodyOKRow, standIns := [], harness := (true, "e5f82d674005f6490c3cc65fbfec0d4ab5bdf6fc9da605304d0baef166658868"), looks := false }, kinds := [], alts := [], laidByText := true, laidKinds := [.data], laidTests := true, laidLooks := .later }
def FnExactBodyOKCardSaid : Prop := Claim7.holds Tryd.pinned (.plain (OpenSpec.ofChange fnExactBodyOKSpec)) fnExactBodyOKCard

/-- THE TIED CARD OF 'laws.FnSigned'. -/
def fnSignedCard : Claim7 := { stood := { row := fnSignedRow, standIns := [], harness := (true, "e5f82d674005f6490c3cc65fbfec0d4ab5bdf6fc9da605304d0baef166658868"), looks := false }, kinds := [], alts := [], laidByText := true, laidKinds := [.data], laidTests := true, laidLooks := .later }
def FnSignedCardSaid : Prop := Claim7.holds Tryd.pinned (.plain (OpenSpec.ofChange fnSignedSpec)) fnSignedCard

/-- THE TIED CARD OF 'laws.FnAgreed'. -/
def fnAgreedCard : Claim7 := { stood := { row := fnAgreedRow, standIns := [], harness := (true, "e5f82d674005f6490c3cc65fbfec0d4ab5bdf6fc9da605304d0baef166658868"), looks := false }, kinds := [], alts := [], laidByText := true, laidKinds := [.data], laidTests := true, laidLooks := .later }
def FnAgreedCardSaid : Prop := Claim7.holds Tryd.pinned (.plain (OpenSpec.ofChange fnAgreedSpec)) fnAgreedCard

/-- THE SECOND FORM's CARD OF 'laws.FnExactBodyDigest'. -/
def fnExactBodyDigestUptoCard : Claim7 := { stood := { row := fnExactBodyDigestUptoRow, standIns := [], harness := (true, "e5f82d674005f6490c3cc65fbfec0d4ab5bdf6fc9da605304d0baef166658868"), looks := false }, kinds := [], alts := [], laidByText := true, laidKinds := [.data], laidTests := true, laidLooks := .later }
def FnExactBodyDigestUptoCardSaid : Prop := Claim7.holds Tryd.pinned (.plain (OpenSpec.upto fnExactBodyDigestSpec)) fnExactBodyDigestUptoCard

/-- THE SECOND FORM's CARD OF 'laws.FnExactSignMessage'. -/
def fnExactSignMessageUptoCard : Claim7 := { stood := { row := fnExactSignMessageUptoRow, standIns := [], harness := (true, "e5f82d674005f6490c3cc65fbfec0d4ab5bdf6fc9da605304d0baef166658868"), looks := false }, kinds := [], alts := [], laidByText := true, laidKinds := [.data], laidTests := true, laidLooks := .later }
def FnExactSignMessageUptoCardSaid : Prop := Claim7.holds Tryd.pinned (.plain (OpenSpec.upto fnExactSignMessageSpec)) fnExactSignMessageUptoCard

/-- THE SECOND FORM's CARD OF 'laws.FnExactMessageSigned'. -/
def fnExactMessageSignedUptoCard : Claim7 := { stood := { row := fnExactMessageSignedUptoRow, standIns := [], harness := (true, "e5f82d674005f6490c3cc65fbfec0d4ab5bdf6fc9da605304d0baef166658868"), looks := false }, kinds := [], alts := [], laidByText := true, laidKinds := [.data], laidTests := true, laidLooks := .later }
def FnExactMessageSignedUptoCardSaid : Prop := Claim7.holds Tryd.pinned (.plain (OpenSpec.upto fnExactMessageSignedSpec)) fnExactMessageSignedUptoCard

/-- THE SECOND FORM's CARD OF 'laws.FnExactBodyOK'. -/
def fnExactBodyOKUptoCard : Claim7 := { stood := { row := fnExactBodyOKUptoRow, standIns := [], harness := (true, "e5f82d674005f6490c3cc65fbfec0d4ab5bdf6fc9da605304d0baef166658868"), looks := false }, kinds := [], alts := [], laidByText := true, laidKinds := [.data], laidTests := true, laidLooks := .later }
def FnExactBodyOKUptoCardSaid : Prop := Claim7.holds Tryd.pinned (.plain (OpenSpec.upto fnExactBodyOKSpec)) fnExactBodyOKUptoCard

/-- THE SECOND FORM's CARD OF 'laws.FnSigned'. -/
def fnSignedUptoCard : Claim7 := { stood := { row := fnSignedUptoRow, standIns := [], harness := (true, "e5f82d674005f6490c3cc65fbfec0d4ab5bdf6fc9da605304d0baef166658868"), looks := false }, kinds := [], alts := [], laidByText := true, laidKinds := [.data], laidTests := true, laidLooks := .later }
def FnSignedUptoCardSaid : Prop := Claim7.holds Tryd.pinned (.plain (OpenSpec.upto fnSignedSpec)) fnSignedUptoCard

/-- THE SECOND FORM's CARD OF 'laws.FnAgreed'. -/
def fnAgreedUptoCard : Claim7 := { stood := { row := fnAgreedUptoRow, standIns := [], harness := (true, "e5f82d674005f6490c3cc65fbfec0d4ab5bdf6fc9da605304d0baef166658868"), looks := false }, kinds := [], alts := [], laidByText := true, laidKinds := [.data], laidTests := true, laidLooks := .later }
def FnAgreedUptoCardSaid : Prop := Claim7.holds Tryd.pinned (.plain (OpenSpec.upto fnAgreedSpec)) fnAgreedUptoCard
end Rows
end Go.Proofs.YtpljjchjdejcfaaDoor
