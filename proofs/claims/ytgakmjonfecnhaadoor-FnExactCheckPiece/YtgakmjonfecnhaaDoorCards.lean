/-
  DERIVED. GIVEN WITH THE SEED: THE CARDS: each row of YtgakmjonfecnhaaDoorRows.lean that lists a variable, with what it lists TIED to the program's text (the seventh form; the later family's looks); each row that meets fmt, with fmt's text TOLD by the authors' own Lean function (tested against real Go, not proved from fmt's source: count such statements apart). THE CARD IS WHAT COUNTS. Prove the row's statement (the work); the ties are given (YtgakmjonfecnhaaDoorTie.lean); close each card by the builder's one call (the guide's Derived/Test/ToyasCard.lean, 'card_holds'). Laid BY PROGRAM, IN A SANDBOX (cutbox-door.mjs). By AI agents, Wed Nov 11 2026. No macro, syntax, notation, axiom, sorry.
-/
import Derived.Test.YtgakmjonfecnhaaDoorRows
import GoSem.ClaimSeven
namespace Go.Proofs.YtgakmjonfecnhaaDoor
namespace Rows

/-- THE TIED CARD OF 'laws.FnLamport'. -/
def fnLamportCard : Claim7 := { stood := { row := fnLamportRow, standIns := [], harness := (true, "6d257b8d32303c6339714c76311fc4ea5b37e958b4c1858e92d649dbbd35aa22"), looks := false }, kinds := [], alts := [], laidByText := true, laidKinds := [.data], laidTests := true, laidLooks := .later }
def FnLamportCardSaid : Prop := Claim7.holds Tryd.pinned (.plain (OpenSpec.ofChange fnLamportSpec)) fnLamportCard

/-- THE TIED CARD OF 'laws.FnExactCheckSignature'. -/
def fnExactCheckSignatureCard : Claim7 := { stood := { row := fnExactCheckSignatureRow, standIns := [], harness := (true, "6d257b8d32303c6339714c76311fc4ea5b37e958b4c1858e92d649dbbd35aa22"), looks := false }, kinds := [], alts := [], laidByText := true, laidKinds := [.data], laidTests := true, laidLooks := .later }
def FnExactCheckSignatureCardSaid : Prop := Claim7.holds Tryd.pinned (.plain (OpenSpec.ofChange fnExactCheckSignatureSpec)) fnExactCheckSignatureCard

/-- THE TIED CARD OF 'laws.FnExactPiecesRoot'. -/
def fnExactPiecesRootCard : Claim7 := { stood := { row := fnExactPiecesRootRow, standIns := [], harness := (true, "6d257b8d32303c6339714c76311fc4ea5b37e958b4c1858e92d649dbbd35aa22"), looks := false }, kinds := [], alts := [], laidByText := true, laidKinds := [.data], laidTests := true, laidLooks := .later }
def FnExactPiecesRootCardSaid : Prop := Claim7.holds Tryd.pinned (.plain (OpenSpec.ofChange fnExactPiecesRootSpec)) fnExactPiecesRootCard

/-- THE TIED CARD OF 'laws.FnExactProvePiece'. -/
def fnExactProvePieceCard : Claim7 := { stood := { row := fnExactProvePieceRow, standIns := [], harness := (true, "6d257b8d32303c6339714c76311fc4ea5b37e958b4c1858e92d649dbbd35aa22"), looks := false }, kinds := [], alts := [], laidByText := true, laidKinds := [.data], laidTests := true, laidLooks := .later }
def FnExactProvePieceCardSaid : Prop := Claim7.holds Tryd.pinned (.plain (OpenSpec.ofChange fnExactProvePieceSpec)) fnExactProvePieceCard

/-- THE TIED CARD OF 'laws.FnExactCheckPiece'. -/
def fnExactCheckPieceCard : Claim7 := { stood := { row := fnExactCheckPieceRow, standIns := [], harness := (true, "6d257b8d32303c6339714c76311fc4ea5b37e958b4c1858e92d649dbbd35aa22"), looks := false }, kinds := [], alts := [], laidByText := true, laidKinds := [.data], laidTests := true, laidLooks := .later }
def FnExactCheckPieceCardSaid : Prop := Claim7.holds Tryd.pinned (.plain (OpenSpec.ofChange fnExactCheckPieceSpec)) fnExactCheckPieceCard

/-- THE SECOND FORM's CARD OF 'laws.FnLamport'. -/
def fnLamportUptoCard : Claim7 := { stood := { row := fnLamportUptoRow, standIns := [], harness := (true, "6d257b8d32303c6339714c76311fc4ea5b37e958b4c1858e92d649dbbd35aa22"), looks := false }, kinds := [], alts := [], laidByText := true, laidKinds := [.data], laidTests := true, laidLooks := .later }
def FnLamportUptoCardSaid : Prop := Claim7.holds Tryd.pinned (.plain (OpenSpec.upto fnLamportSpec)) fnLamportUptoCard

/-- THE SECOND FORM's CARD OF 'laws.FnExactCheckSignature'. -/
def fnExactCheckSignatureUptoCard : Claim7 := { stood := { row := fnExactCheckSignatureUptoRow, standIns := [], harness := (true, "6d257b8d32303c6339714c76311fc4ea5b37e958b4c1858e92d649dbbd35aa22"), looks := false }, kinds := [], alts := [], laidByText := true, laidKinds := [.data], laidTests := true, laidLooks := .later }
def FnExactCheckSignatureUptoCardSaid : Prop := Claim7.holds Tryd.pinned (.plain (OpenSpec.upto fnExactCheckSignatureSpec)) fnExactCheckSignatureUptoCard

/-- THE SECOND FORM's CARD OF 'laws.FnExactPiecesRoot'. -/
def fnExactPiecesRootUptoCard : Claim7 := { stood := { row := fnExactPiecesRootUptoRow, standIns := [], harness := (true, "6d257b8d32303c6339714c76311fc4ea5b37e958b4c1858e92d649dbbd35aa22"), looks := false }, kinds := [], alts := [], laidByText := true, laidKinds := [.data], laidTests := true, laidLooks := .later }
def FnExactPiecesRootUptoCardSaid : Prop := Claim7.holds Tryd.pinned (.plain (OpenSpec.upto fnExactPiecesRootSpec)) fnExactPiecesRootUptoCard

/-- THE SECOND FORM's CARD OF 'laws.FnExactProvePiece'. -/
def fnExactProvePieceUptoCard : Claim7 := { stood := { row := fnExactProvePieceUptoRow, standIns := [], harness := (true, "6d257b8d32303c6339714c76311fc4ea5b37e958b4c1858e92d649dbbd35aa22"), looks := false }, kinds := [], alts := [], laidByText := true, laidKinds := [.data], laidTests := true, laidLooks := .later }
def FnExactProvePieceUptoCardSaid : Prop := Claim7.holds Tryd.pinned (.plain (OpenSpec.upto fnExactProvePieceSpec)) fnExactProvePieceUptoCard

/-- THE SECOND FORM's CARD OF 'laws.FnExactCheckPiece'. -/
def fnExactCheckPieceUptoCard : Claim7 := { stood := { row := fnExactCheckPieceUptoRow, standIns := [], harness := (true, "6d257b8d32303c6339714c76311fc4ea5b37e958b4c1858e92d649dbbd35aa22"), looks := false }, kinds := [], alts := [], laidByText := true, laidKinds := [.data], laidTests := true, laidLooks := .later }
def FnExactCheckPieceUptoCardSaid : Prop := Claim7.holds Tryd.pinned (.plain (OpenSpec.upto fnExactCheckPieceSpec)) fnExactCheckPieceUptoCard
end Rows
end Go.Proofs.YtgakmjonfecnhaaDoor
