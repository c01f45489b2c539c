/-
  DERIVED. GIVEN WITH THE SEED: THE CARDS: each row of YtjggfholjdplbaaDoorRows.lean that lists a variable, with what it lists TIED to the program's text (the seventh form; the later family's looks); each row that meets fmt, with fmt's text TOLD by the authors' own Lean function (tested against real Go, not proved from fmt's source: count such statements apart). THE CARD IS WHAT COUNTS. Prove the row's statement (the work); the ties are given (YtjggfholjdplbaaDoorTie.lean); close each card by the builder's one call (the guide's Derived/Test/ToyasCard.lean, 'card_holds'). Laid BY PROGRAM, IN A SANDBOX (cutbox-door.mjs). By AI agents, Wed Nov 11 2026. No macro, syntax, notation, axiom, sorry.
-/
import Derived.Test.YtjggfholjdplbaaDoorRows
import GoSem.ClaimSeven
namespace Go.Proofs.YtjggfholjdplbaaDoor
namespace Rows

/-- THE TIED CARD OF 'laws.FnExactMessageBits'. -/
def fnExactMessageBitsCard : Claim7 := { stood := { row := fnExactMessageBitsRow, standIns := [], harness := (true, "d158f4f2ec40576a32f0be8a00d107012644037456a5228644f719f2e459c48e"), looks := false }, kinds := [], alts := [], laidByText := true, laidKinds := [.data], laidTests := true, laidLooks := .later }
def FnExactMessageBitsCardSaid : Prop := Claim7.holds Tryd.pinned (.plain (OpenSpec.ofChange fnExactMessageBitsSpec)) fnExactMessageBitsCard

/-- THE TIED CARD OF 'laws.FnExactSecretAt'. -/
def fnExactSecretAtCard : Claim7 := { stood := { row := fnExactSecretAtRow, standIns := [], harness := (true, "d158f4f2ec40576a32f0be8a00d107012644037456a5228644f719f2e459c48e"), looks := false }, kinds := [], alts := [], laidByText := true, laidKinds := [.data], laidTests := true, laidLooks := .later }
def FnExactSecretAtCardSaid : Prop := Claim7.holds Tryd.pinned (.plain (OpenSpec.ofChange fnExactSecretAtSpec)) fnExactSecretAtCard

/-- THE TIED CARD OF 'laws.FnExactOneTimeKey'. -/
def fnExactOneTimeKeyCard : Claim7 := { stood := { row := fnExactOneTimeKeyRow, standIns := [], harness := (true, "d158f4f2ec40576a32f0be8a00d107012644037456a5228644f719f2e459c48e"), looks := false }, kinds := [], alts := [], laidByText := true, laidKinds := [.data], laidTests := true, laidLooks := .later }
def FnExactOneTimeKeyCardSaid : Prop := Claim7.holds Tryd.pinned (.plain (OpenSpec.ofChange fnExactOneTimeKeySpec)) fnExactOneTimeKeyCard

/-- THE TIED CARD OF 'laws.FnExactChainRoot'. -/
def fnExactChainRootCard : Claim7 := { stood := { row := fnExactChainRootRow, standIns := [], harness := (true, "d158f4f2ec40576a32f0be8a00d107012644037456a5228644f719f2e459c48e"), looks := false }, kinds := [], alts := [], laidByText := true, laidKinds := [.data], laidTests := true, laidLooks := .later }
def FnExactChainRootCardSaid : Prop := Claim7.holds Tryd.pinned (.plain (OpenSpec.ofChange fnExactChainRootSpec)) fnExactChainRootCard

/-- THE TIED CARD OF 'laws.FnExactSignAt'. -/
def fnExactSignAtCard : Claim7 := { stood := { row := fnExactSignAtRow, standIns := [], harness := (true, "d158f4f2ec40576a32f0be8a00d107012644037456a5228644f719f2e459c48e"), looks := false }, kinds := [], alts := [], laidByText := true, laidKinds := [.data], laidTests := true, laidLooks := .later }
def FnExactSignAtCardSaid : Prop := Claim7.holds Tryd.pinned (.plain (OpenSpec.ofChange fnExactSignAtSpec)) fnExactSignAtCard

/-- THE TIED CARD OF 'laws.FnExactCheckSignature'. -/
def fnExactCheckSignatureCard : Claim7 := { stood := { row := fnExactCheckSignatureRow, standIns := [], harness := (true, "d158f4f2ec40576a32f0be8a00d107012644037456a5228644f719f2e459c48e"), looks := false }, kinds := [], alts := [], laidByText := true, laidKinds := [.data], laidTests := true, laidLooks := .later }
def FnExactCheckSignatureCardSaid : Prop := Claim7.holds Tryd.pinned (.plain (OpenSpec.ofChange fnExactCheckSignatureSpec)) fnExactCheckSignatureCard

/-- THE TIED CARD OF 'laws.FnExactSignNext'. -/
def fnExactSignNextCard : Claim7 := { stood := { row := fnExactSignNextRow, standIns := [], harness := (true, "d158f4f2ec40576a32f0be8a00d107012644037456a5228644f719f2e459c48e"), looks := false }, kinds := [], alts := [], laidByText := true, laidKinds := [.data], laidTests := true, laidLooks := .later }
def FnExactSignNextCardSaid : Prop := Claim7.holds Tryd.pinned (.plain (OpenSpec.ofChange fnExactSignNextSpec)) fnExactSignNextCard

/-- THE TIED CARD OF 'laws.FnLamport'. -/
def fnLamportCard : Claim7 := { stood := { row := fnLamportRow, standIns := [], harness := (true, "d158f4f2ec40576a32f0be8a00d107012644037456a5228644f719f2e459c48e"), looks := false }, kinds := [], alts := [], laidByText := true, laidKinds := [.data], laidTests := true, laidLooks := .later }
def FnLamportCardSaid : Prop := Claim7.holds Tryd.pinned (.plain (OpenSpec.ofChange fnLamportSpec)) fnLamportCard

/-- THE TIED CARD OF 'laws.FnChain'. -/
def fnChainCard : Claim7 := { stood := { row := fnChainRow, standIns := [], harness := (true, "d158f4f2ec40576a32f0be8a00d107012644037456a5228644f719f2e459c48e"), looks := false }, kinds := [], alts := [], laidByText := true, laidKinds := [.data], laidTests := true, laidLooks := .later }
def FnChainCardSaid : Prop := Claim7.holds Tryd.pinned (.plain (OpenSpec.ofChange fnChainSpec)) fnChainCard

/-- THE SECOND FORM's CARD OF 'laws.FnExactMessageBits'. -/
def fnExactMessageBitsUptoCard : Claim7 := { stood := { row := fnExactMessageBitsUptoRow, standIns := [], harness := (true, "d158f4f2ec40576a32f0be8a00d107012644037456a5228644f719f2e459c48e"), looks := false }, kinds := [], alts := [], laidByText := true, laidKinds := [.data], laidTests := true, laidLooks := .later }
def FnExactMessageBitsUptoCardSaid : Prop := Claim7.holds Tryd.pinned (.plain (OpenSpec.upto fnExactMessageBitsSpec)) fnExactMessageBitsUptoCard

/-- THE SECOND FORM's CARD OF 'laws.FnExactSecretAt'. -/
def fnExactSecretAtUptoCard : Claim7 := { stood := { row := fnExactSecretAtUptoRow, standIns := [], harness := (true, "d158f4f2ec40576a32f0be8a00d107012644037456a5228644f719f2e459c48e"), looks := false }, kinds := [], alts := [], laidByText := true, laidKinds := [.data], laidTests := true, laidLooks := .later }
def FnExactSecretAtUptoCardSaid : Prop := Claim7.holds Tryd.pinned (.plain (OpenSpec.upto fnExactSecretAtSpec)) fnExactSecretAtUptoCard

/-- THE SECOND FORM's CARD OF 'laws.FnExactOneTimeKey'. -/
def fnExactOneTimeKeyUptoCard : Claim7 := { stood := { row := fnExactOneTimeKeyUptoRow, standIns := [], harness := (true, "d158f4f2ec40576a32f0be8a00d107012644037456a5228644f719f2e459c48e"), looks := false }, kinds := [], alts := [], laidByText := true, laidKinds := [.data], laidTests := true, laidLooks := .later }
def FnExactOneTimeKeyUptoCardSaid : Prop := Claim7.holds Tryd.pinned (.plain (OpenSpec.upto fnExactOneTimeKeySpec)) fnExactOneTimeKeyUptoCard

/-- THE SECOND FORM's CARD OF 'laws.FnExactChainRoot'. -/
def fnExactChainRootUptoCard : Claim7 := { stood := { row := fnExactChainRootUptoRow, standIns := [], harness := (true, "d158f4f2ec40576a32f0be8a00d107012644037456a5228644f719f2e459c48e"), looks := false }, kinds := [], alts := [], laidByText := true, laidKinds := [.data], laidTests := true, laidLooks := .later }
def FnExactChainRootUptoCardSaid : Prop := Claim7.holds Tryd.pinned (.plain (OpenSpec.upto fnExactChainRootSpec)) fnExactChainRootUptoCard

/-- THE SECOND FORM's CARD OF 'laws.FnExactSignAt'. -/
def fnExactSignAtUptoCard : Claim7 := { stood := { row := fnExactSignAtUptoRow, standIns := [], harness := (true, "d158f4f2ec40576a32f0be8a00d107012644037456a5228644f719f2e459c48e"), looks := false }, kinds := [], alts := [], laidByText := true, laidKinds := [.data], laidTests := true, laidLooks := .later }
def FnExactSignAtUptoCardSaid : Prop := Claim7.holds Tryd.pinned (.plain (OpenSpec.upto fnExactSignAtSpec)) fnExactSignAtUptoCard

/-- THE SECOND FORM's CARD OF 'laws.FnExactCheckSignature'. -/
def fnExactCheckSignatureUptoCard : Claim7 := { stood := { row := fnExactCheckSignatureUptoRow, standIns := [], harness := (true, "d158f4f2ec40576a32f0be8a00d107012644037456a5228644f719f2e459c48e"), looks := false }, kinds := [], alts := [], laidByText := true, laidKinds := [.data], laidTests := true, laidLooks := .later }
def FnExactCheckSignatureUptoCardSaid : Prop := Claim7.holds Tryd.pinned (.plain (OpenSpec.upto fnExactCheckSignatureSpec)) fnExactCheckSignatureUptoCard

/-- THE SECOND FORM's CARD OF 'laws.FnExactSignNext'. -/
def fnExactSignNextUptoCard : Claim7 := { stood := { row := fnExactSignNextUptoRow, standIns := [], harness := (true, "d158f4f2ec40576a32f0be8a00d107012644037456a5228644f719f2e459c48e"), looks := false }, kinds := [], alts := [], laidByText := true, laidKinds := [.data], laidTests := true, laidLooks := .later }
def FnExactSignNextUptoCardSaid : Prop := Claim7.holds Tryd.pinned (.plain (OpenSpec.upto fnExactSignNextSpec)) fnExactSignNextUptoCard

/-- THE SECOND FORM's CARD OF 'laws.FnLamport'. -/
def fnLamportUptoCard : Claim7 := { stood := { row := fnLamportUptoRow, standIns := [], harness := (true, "d158f4f2ec40576a32f0be8a00d107012644037456a5228644f719f2e459c48e"), looks := false }, kinds := [], alts := [], laidByText := true, laidKinds := [.data], laidTests := true, laidLooks := .later }
def FnLamportUptoCardSaid : Prop := Claim7.holds Tryd.pinned (.plain (OpenSpec.upto fnLamportSpec)) fnLamportUptoCard

/-- THE SECOND FORM's CARD OF 'laws.FnChain'. -/
def fnChainUptoCard : Claim7 := { stood := { row := fnChainUptoRow, standIns := [], harness := (true, "d158f4f2ec40576a32f0be8a00d107012644037456a5228644f719f2e459c48e"), looks := false }, kinds := [], alts := [], laidByText := true, laidKinds := [.data], laidTests := true, laidLooks := .later }
def FnChainUptoCardSaid : Prop := Claim7.holds Tryd.pinned (.plain (OpenSpec.upto fnChainSpec)) fnChainUptoCard
end Rows
end Go.Proofs.YtjggfholjdplbaaDoor
