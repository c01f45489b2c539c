/-
  DERIVED. GIVEN WITH THE SEED: THE CARDS: each row of YtgbdmclpnkaihaaDoorRows.lean that lists a variable, with what it lists TIED to the program's text (the seventh form; the later family's looks); each row that meets fmt, with fmt's text TOLD by the authors' own Lean function (tested against real Go, not proved from fmt's source: count such statements apart). THE CARD IS WHAT COUNTS. Prove the row's statement (the work); the ties are given (YtgbdmclpnkaihaaDoorTie.lean); close each card by the builder's one call (the guide's Derived/Test/ToyasCard.lean, 'card_holds'). Laid BY PROGRAM, IN A SANDBOX (cutbox-door.mjs). By AI agents, Wed Nov 11 2026. No macro, syntax, notation, axiom, sorry.
-/
import Derived.Test.YtgbdmclpnkaihaaDoorRows
import GoSem.ClaimSeven
namespace Go.Proofs.YtgbdmclpnkaihaaDoor
namespace Rows

/-- THE TIED CARD OF 'laws.FnExactReadingMac'. -/
def fnExactReadingMacCard : Claim7 := { stood := { row := fnExactReadingMacRow, standIns := [], harness := (true, "66ac5be05b7ee51a63446ba716c888ad4564286a06edc300ae669378d8020ea3"), looks := false }, kinds := [], alts := [], laidByText := true, laidKinds := [.data], laidTests := true, laidLooks := .later }
def FnExactReadingMacCardSaid : Prop := Claim7.holds Tryd.pinned (.plain (OpenSpec.ofChange fnExactReadingMacSpec)) fnExactReadingMacCard

/-- THE TIED CARD OF 'laws.FnExactReadingsTime'. -/
def fnExactReadingsTimeCard : Claim7 := { stood := { row := fnExactReadingsTimeRow, standIns := [], harness := (true, "66ac5be05b7ee51a63446ba716c888ad4564286a06edc300ae669378d8020ea3"), looks := false }, kinds := [], alts := [], laidByText := true, laidKinds := [.data], laidTests := true, laidLooks := .later }
def FnExactReadingsTimeCardSaid : Prop := Claim7.holds Tryd.pinned (.plain (OpenSpec.ofChange fnExactReadingsTimeSpec)) fnExactReadingsTimeCard

/-- THE TIED CARD OF 'laws.FnExactAgreedTime'. -/
def fnExactAgreedTimeCard : Claim7 := { stood := { row := fnExactAgreedTimeRow, standIns := [], harness := (true, "66ac5be05b7ee51a63446ba716c888ad4564286a06edc300ae669378d8020ea3"), looks := false }, kinds := [], alts := [], laidByText := true, laidKinds := [.data], laidTests := true, laidLooks := .later }
def FnExactAgreedTimeCardSaid : Prop := Claim7.holds Tryd.pinned (.plain (OpenSpec.ofChange fnExactAgreedTimeSpec)) fnExactAgreedTimeCard

/-- THE TIED CARD OF 'laws.FnAgreed'. -/
def fnAgreedCard : Claim7 := { stood := { row := fnAgreedRow, standIns := [], harness := (true, "66ac5be05b7ee51a63446ba716c888ad4564286a06edc300ae669378d8020ea3"), looks := false }, kinds := [], alts := [], laidByText := true, laidKinds := [.data], laidTests := true, laidLooks := .later }
def FnAgreedCardSaid : Prop := Claim7.holds Tryd.pinned (.plain (OpenSpec.ofChange fnAgreedSpec)) fnAgreedCard

/-- THE SECOND FORM's CARD OF 'laws.FnExactReadingMac'. -/
def fnExactReadingMacUptoCard : Claim7 := { stood := { row := fnExactReadingMacUptoRow, standIns := [], harness := (true, "66ac5be05b7ee51a63446ba716c888ad4564286a06edc300ae669378d8020ea3"), looks := false }, kinds := [], alts := [], laidByText := true, laidKinds := [.data], laidTests := true, laidLooks := .later }
def FnExactReadingMacUptoCardSaid : Prop := Claim7.holds Tryd.pinned (.plain (OpenSpec.upto fnExactReadingMacSpec)) fnExactReadingMacUptoCard

/-- THE SECOND FORM's CARD OF 'laws.FnExactReadingsTime'. -/
def fnExactReadingsTimeUptoCard : Claim7 := { stood := { row := fnExactReadingsTimeUptoRow, standIns := [], harness := (true, "66ac5be05b7ee51a63446ba716c888ad4564286a06edc300ae669378d8020ea3"), looks := false }, kinds := [], alts := [], laidByText := true, laidKinds := [.data], laidTests := true, laidLooks := .later }
def FnExactReadingsTimeUptoCardSaid : Prop := Claim7.holds Tryd.pinned (.plain (OpenSpec.upto fnExactReadingsTimeSpec)) fnExactReadingsTimeUptoCard

/-- THE SECOND FORM's CARD OF 'laws.FnExactAgreedTime'. -/
def fnExactAgreedTimeUptoCard : Claim7 := { stood := { row := fnExactAgreedTimeUptoRow, standIns := [], harness := (true, "66ac5be05b7ee51a63446ba716c888ad4564286a06edc300ae669378d8020ea3"), looks := false }, kinds := [], alts := [], laidByText := true, laidKinds := [.data], laidTests := true, laidLooks := .later }
def FnExactAgreedTimeUptoCardSaid : Prop := Claim7.holds Tryd.pinned (.plain (OpenSpec.upto fnExactAgreedTimeSpec)) fnExactAgreedTimeUptoCard

/-- THE SECOND FORM's CARD OF 'laws.FnAgreed'. -/
def fnAgreedUptoCard : Claim7 := { stood := { row := fnAgreedUptoRow, standIns := [], harness := (true, "66ac5be05b7ee51a63446ba716c888ad4564286a06edc300ae669378d8020ea3"), looks := false }, kinds := [], alts := [], laidByText := true, laidKinds := [.data], laidTests := true, laidLooks := .later }
def FnAgreedUptoCardSaid : Prop := Claim7.holds Tryd.pinned (.plain (OpenSpec.upto fnAgreedSpec)) fnAgreedUptoCard
end Rows
end Go.Proofs.YtgbdmclpnkaihaaDoor
