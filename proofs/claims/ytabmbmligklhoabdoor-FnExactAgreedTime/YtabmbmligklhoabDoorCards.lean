/-
  DERIVED. GIVEN WITH THE SEED: THE CARDS: each row of YtabmbmligklhoabDoorRows.lean that lists a variable, with what it lists TIED to the program's text (the seventh form; the later family's looks); each row that meets fmt, with fmt's text TOLD by the authors' own Lean function (tested against real Go, not proved from fmt's source: count such statements apart). THE CARD IS WHAT COUNTS. Prove the row's statement (the work); the ties are given (YtabmbmligklhoabDoorTie.lean); close each card by the builder's one call (the guide's Derived/Test/ToyasCard.lean, 'card_holds'). Laid BY PROGRAM, IN A SANDBOX (cutbox-door.mjs). By AI agents, Wed Nov 11 2026. No macro, syntax, notation, axiom, sorry.
-/
import Derived.Test.YtabmbmligklhoabDoorRows
import GoSem.ClaimSeven
namespace Go.Proofs.YtabmbmligklhoabDoor
namespace Rows

/-- THE TIED CARD OF 'laws.FnAgreed'. -/
def fnAgreedCard : Claim7 := { stood := { row := fnAgreedRow, standIns := [], harness := (true, "0521e97099eed5722ddc1998bdd1a0df1e9a75c4f2f264dd16c094c8eaa26365"), looks := false }, kinds := [], alts := [], laidByText := true, laidKinds := [.data], laidTests := true, laidLooks := .later }
def FnAgreedCardSaid : Prop := Claim7.holds Tryd.pinned (.plain (OpenSpec.ofChange fnAgreedSpec)) fnAgreedCard

/-- THE TIED CARD OF 'laws.FnExactReadingsTime'. -/
def fnExactReadingsTimeCard : Claim7 := { stood := { row := fnExactReadingsTimeRow, standIns := [], harness := (true, "0521e97099eed5722ddc1998bdd1a0df1e9a75c4f2f264dd16c094c8eaa26365"), looks := false }, kinds := [], alts := [], laidByText := true, laidKinds := [.data], laidTests := true, laidLooks := .later }
def FnExactReadingsTimeCardSaid : Prop := Claim7.holds Tryd.pinned (.plain (OpenSpec.ofChange fnExactReadingsTimeSpec)) fnExactReadingsTimeCard

/-- THE TIED CARD OF 'laws.FnExactAgreedTime'. -/
def fnExactAgreedTimeCard : Claim7 := { stood := { row := fnExactAgreedTimeRow, standIns := [], harness := (true, "0521e97099eed5722ddc1998bdd1a0df1e9a75c4f2f264dd16c094c8eaa26365"), looks := false }, kinds := [], alts := [], laidByText := true, laidKinds := [.data], laidTests := true, laidLooks := .later }
def FnExactAgreedTimeCardSaid : Prop := Claim7.holds Tryd.pinned (.plain (OpenSpec.ofChange fnExactAgreedTimeSpec)) fnExactAgreedTimeCard

/-- THE SECOND FORM's CARD OF 'laws.FnAgreed'. -/
def fnAgreedUptoCard : Claim7 := { stood := { row := fnAgreedUptoRow, standIns := [], harness := (true, "0521e97099eed5722ddc1998bdd1a0df1e9a75c4f2f264dd16c094c8eaa26365"), looks := false }, kinds := [], alts := [], laidByText := true, laidKinds := [.data], laidTests := true, laidLooks := .later }
def FnAgreedUptoCardSaid : Prop := Claim7.holds Tryd.pinned (.plain (OpenSpec.upto fnAgreedSpec)) fnAgreedUptoCard

/-- THE SECOND FORM's CARD OF 'laws.FnExactReadingsTime'. -/
def fnExactReadingsTimeUptoCard : Claim7 := { stood := { row := fnExactReadingsTimeUptoRow, standIns := [], harness := (true, "0521e97099eed5722ddc1998bdd1a0df1e9a75c4f2f264dd16c094c8eaa26365"), looks := false }, kinds := [], alts := [], laidByText := true, laidKinds := [.data], laidTests := true, laidLooks := .later }
def FnExactReadingsTimeUptoCardSaid : Prop := Claim7.holds Tryd.pinned (.plain (OpenSpec.upto fnExactReadingsTimeSpec)) fnExactReadingsTimeUptoCard

/-- THE SECOND FORM's CARD OF 'laws.FnExactAgreedTime'. -/
def fnExactAgreedTimeUptoCard : Claim7 := { stood := { row := fnExactAgreedTimeUptoRow, standIns := [], harness := (true, "0521e97099eed5722ddc1998bdd1a0df1e9a75c4f2f264dd16c094c8eaa26365"), looks := false }, kinds := [], alts := [], laidByText := true, laidKinds := [.data], laidTests := true, laidLooks := .later }
def FnExactAgreedTimeUptoCardSaid : Prop := Claim7.holds Tryd.pinned (.plain (OpenSpec.upto fnExactAgreedTimeSpec)) fnExactAgreedTimeUptoCard
end Rows
end Go.Proofs.YtabmbmligklhoabDoor
