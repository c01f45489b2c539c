/-
  DERIVED. GIVEN WITH THE SEED: THE CARDS: each row of YtipoajjijalibaaDoorRows.lean that lists a variable, with what it lists TIED to the program's text (the seventh form; the later family's looks); each row that meets fmt, with fmt's text TOLD by the authors' own Lean function (tested against real Go, not proved from fmt's source: count such statements apart). THE CARD IS WHAT COUNTS. Prove the row's statement (the work); the ties are given (YtipoajjijalibaaDoorTie.lean); close each card by the builder's one call (the guide's Derived/Test/ToyasCard.lean, 'card_holds'). Laid BY PROGRAM, IN A SANDBOX (cutbox-door.mjs). By AI agents, Wed Nov 11 2026. No macro, syntax, notation, axiom, sorry.
-/
import Derived.Test.YtipoajjijalibaaDoorRows
import GoSem.ClaimSeven
namespace Go.Proofs.YtipoajjijalibaaDoor
namespace Rows

/-- THE TIED CARD OF 'laws.FnReplies'. -/
def fnRepliesCard : Claim7 := { stood := { row := fnRepliesRow, standIns := [], harness := (true, "0782fa3c21273a4c07f7fe5df7725a499689619bf6dbd1770151bc0b88c7db3a"), looks := false }, kinds := [], alts := [], laidByText := true, laidKinds := [.data], laidTests := true, laidLooks := .later }
def FnRepliesCardSaid : Prop := Claim7.holds Tryd.pinned (.plain (OpenSpec.ofChange fnRepliesSpec)) fnRepliesCard

/-- THE TIED CARD OF 'laws.FnExactReplyMac'. -/
def fnExactReplyMacCard : Claim7 := { stood := { row := fnExactReplyMacRow, standIns := [], harness := (true, "0782fa3c21273a4c07f7fe5df7725a499689619bf6dbd1770151bc0b88c7db3a"), looks := false }, kinds := [], alts := [], laidByText := true, laidKinds := [.data], laidTests := true, laidLooks := .later }
def FnExactReplyMacCardSaid : Prop := Claim7.holds Tryd.pinned (.plain (OpenSpec.ofChange fnExactReplyMacSpec)) fnExactReplyMacCard

/-- THE TIED CARD OF 'laws.FnExactMakeReply'. -/
def fnExactMakeReplyCard : Claim7 := { stood := { row := fnExactMakeReplyRow, standIns := [], harness := (true, "0782fa3c21273a4c07f7fe5df7725a499689619bf6dbd1770151bc0b88c7db3a"), looks := false }, kinds := [], alts := [], laidByText := true, laidKinds := [.data], laidTests := true, laidLooks := .later }
def FnExactMakeReplyCardSaid : Prop := Claim7.holds Tryd.pinned (.plain (OpenSpec.ofChange fnExactMakeReplySpec)) fnExactMakeReplyCard

/-- THE TIED CARD OF 'laws.FnExactReplyOK'. -/
def fnExactReplyOKCard : Claim7 := { stood := { row := fnExactReplyOKRow, standIns := [], harness := (true, "0782fa3c21273a4c07f7fe5df7725a499689619bf6dbd1770151bc0b88c7db3a"), looks := false }, kinds := [], alts := [], laidByText := true, laidKinds := [.data], laidTests := true, laidLooks := .later }
def FnExactReplyOKCardSaid : Prop := Claim7.holds Tryd.pinned (.plain (OpenSpec.ofChange fnExactReplyOKSpec)) fnExactReplyOKCard

/-- THE TIED CARD OF 'laws.FnExactCountReplies'. -/
def fnExactCountRepliesCard : Claim7 := { stood := { row := fnExactCountRepliesRow, standIns := [], harness := (true, "0782fa3c21273a4c07f7fe5df7725a499689619bf6dbd1770151bc0b88c7db3a"), looks := false }, kinds := [], alts := [], laidByText := true, laidKinds := [.data], laidTests := true, laidLooks := .later }
def FnExactCountRepliesCardSaid : Prop := Claim7.holds Tryd.pinned (.plain (OpenSpec.ofChange fnExactCountRepliesSpec)) fnExactCountRepliesCard

/-- THE SECOND FORM's CARD OF 'laws.FnReplies'. -/
def fnRepliesUptoCard : Claim7 := { stood := { row := fnRepliesUptoRow, standIns := [], harness := (true, "0782fa3c21273a4c07f7fe5df7725a499689619bf6dbd1770151bc0b88c7db3a"), looks := false }, kinds := [], alts := [], laidByText := true, laidKinds := [.data], laidTests := true, laidLooks := .later }
def FnRepliesUptoCardSaid : Prop := Claim7.holds Tryd.pinned (.plain (OpenSpec.upto fnRepliesSpec)) fnRepliesUptoCard

/-- THE SECOND FORM's CARD OF 'laws.FnExactReplyMac'. -/
def fnExactReplyMacUptoCard : Claim7 := { stood := { row := fnExactReplyMacUptoRow, standIns := [], harness := (true, "0782fa3c21273a4c07f7fe5df7725a499689619bf6dbd1770151bc0b88c7db3a"), looks := false }, kinds := [], alts := [], laidByText := true, laidKinds := [.data], laidTests := true, laidLooks := .later }
def FnExactReplyMacUptoCardSaid : Prop := Claim7.holds Tryd.pinned (.plain (OpenSpec.upto fnExactReplyMacSpec)) fnExactReplyMacUptoCard

/-- THE SECOND FORM's CARD OF 'laws.FnExactMakeReply'. -/
def fnExactMakeReplyUptoCard : Claim7 := { stood := { row := fnExactMakeReplyUptoRow, standIns := [], harness := (true, "0782fa3c21273a4c07f7fe5df7725a499689619bf6dbd1770151bc0b88c7db3a"), looks := false }, kinds := [], alts := [], laidByText := true, laidKinds := [.data], laidTests := true, laidLooks := .later }
def FnExactMakeReplyUptoCardSaid : Prop := Claim7.holds Tryd.pinned (.plain (OpenSpec.upto fnExactMakeReplySpec)) fnExactMakeReplyUptoCard

/-- THE SECOND FORM's CARD OF 'laws.FnExactReplyOK'. -/
def fnExactReplyOKUptoCard : Claim7 := { stood := { row := fnExactReplyOKUptoRow, standIns := [], harness := (true, "0782fa3c21273a4c07f7fe5df7725a499689619bf6dbd1770151bc0b88c7db3a"), looks := false }, kinds := [], alts := [], laidByText := true, laidKinds := [.data], laidTests := true, laidLooks := .later }
def FnExactReplyOKUptoCardSaid : Prop := Claim7.holds Tryd.pinned (.plain (OpenSpec.upto fnExactReplyOKSpec)) fnExactReplyOKUptoCard

/-- THE SECOND FORM's CARD OF 'laws.FnExactCountReplies'. -/
def fnExactCountRepliesUptoCard : Claim7 := { stood := { row := fnExactCountRepliesUptoRow, standIns := [], harness := (true, "0782fa3c21273a4c07f7fe5df7725a499689619bf6dbd1770151bc0b88c7db3a"), looks := false }, kinds := [], alts := [], laidByText := true, laidKinds := [.data], laidTests := true, laidLooks := .later }
def FnExactCountRepliesUptoCardSaid : Prop := Claim7.holds Tryd.pinned (.plain (OpenSpec.upto fnExactCountRepliesSpec)) fnExactCountRepliesUptoCard
end Rows
end Go.Proofs.YtipoajjijalibaaDoor
