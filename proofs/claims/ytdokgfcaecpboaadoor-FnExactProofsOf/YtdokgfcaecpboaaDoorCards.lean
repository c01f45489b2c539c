/-
  DERIVED. GIVEN WITH THE SEED: THE CARDS: each row of YtdokgfcaecpboaaDoorRows.lean that lists a variable, with what it lists TIED to the program's text (the seventh form; the later family's looks); each row that meets fmt, with fmt's text TOLD by the authors' own Lean function (tested against real Go, not proved from fmt's source: count such statements apart). THE CARD IS WHAT COUNTS. Prove the row's statement (the work); the ties are given (YtdokgfcaecpboaaDoorTie.lean); close each card by the builder's one call (the guide's Derived/Test/ToyasCard.lean, 'card_holds'). Laid BY PROGRAM, IN A SANDBOX (cutbox-door.mjs). By AI agents, Wed Nov 11 2026. No macro, syntax, notation, axiom, sorry.
-/
import Derived.Test.YtdokgfcaecpboaaDoorRows
import GoSem.ClaimSeven
namespace Go.Proofs.YtdokgfcaecpboaaDoor
namespace Rows

/-- THE TIED CARD OF 'laws.FnExactVoteMac'. -/
def fnExactVoteMacCard : Claim7 := { stood := { row := fnExactVoteMacRow, standIns := [], harness := (true, "7f32799ea8fe580e78228a15d605ab147e38a6efe45e47c11e4143cdd8c732db"), looks := false }, kinds := [], alts := [], laidByText := true, laidKinds := [.data], laidTests := true, laidLooks := .later }
def FnExactVoteMacCardSaid : Prop := Claim7.holds Tryd.pinned (.plain (OpenSpec.ofChange fnExactVoteMacSpec)) fnExactVoteMacCard

/-- THE TIED CARD OF 'laws.FnExactStableOK'. -/
def fnExactStableOKCard : Claim7 := { stood := { row := fnExactStableOKRow, standIns := [], harness := (true, "7f32799ea8fe580e78228a15d605ab147e38a6efe45e47c11e4143cdd8c732db"), looks := false }, kinds := [], alts := [], laidByText := true, laidKinds := [.data], laidTests := true, laidLooks := .later }
def FnExactStableOKCardSaid : Prop := Claim7.holds Tryd.pinned (.plain (OpenSpec.ofChange fnExactStableOKSpec)) fnExactStableOKCard

/-- THE TIED CARD OF 'laws.FnExactProofsOf'. -/
def fnExactProofsOfCard : Claim7 := { stood := { row := fnExactProofsOfRow, standIns := [], harness := (true, "7f32799ea8fe580e78228a15d605ab147e38a6efe45e47c11e4143cdd8c732db"), looks := false }, kinds := [], alts := [], laidByText := true, laidKinds := [.data], laidTests := true, laidLooks := .later }
def FnExactProofsOfCardSaid : Prop := Claim7.holds Tryd.pinned (.plain (OpenSpec.ofChange fnExactProofsOfSpec)) fnExactProofsOfCard

/-- THE SECOND FORM's CARD OF 'laws.FnExactVoteMac'. -/
def fnExactVoteMacUptoCard : Claim7 := { stood := { row := fnExactVoteMacUptoRow, standIns := [], harness := (true, "7f32799ea8fe580e78228a15d605ab147e38a6efe45e47c11e4143cdd8c732db"), looks := false }, kinds := [], alts := [], laidByText := true, laidKinds := [.data], laidTests := true, laidLooks := .later }
def FnExactVoteMacUptoCardSaid : Prop := Claim7.holds Tryd.pinned (.plain (OpenSpec.upto fnExactVoteMacSpec)) fnExactVoteMacUptoCard

/-- THE SECOND FORM's CARD OF 'laws.FnExactStableOK'. -/
def fnExactStableOKUptoCard : Claim7 := { stood := { row := fnExactStableOKUptoRow, standIns := [], harness := (true, "7f32799ea8fe580e78228a15d605ab147e38a6efe45e47c11e4143cdd8c732db"), looks := false }, kinds := [], alts := [], laidByText := true, laidKinds := [.data], laidTests := true, laidLooks := .later }
def FnExactStableOKUptoCardSaid : Prop := Claim7.holds Tryd.pinned (.plain (OpenSpec.upto fnExactStableOKSpec)) fnExactStableOKUptoCard

/-- THE SECOND FORM's CARD OF 'laws.FnExactProofsOf'. -/
def fnExactProofsOfUptoCard : Claim7 := { stood := { row := fnExactProofsOfUptoRow, standIns := [], harness := (true, "7f32799ea8fe580e78228a15d605ab147e38a6efe45e47c11e4143cdd8c732db"), looks := false }, kinds := [], alts := [], laidByText := true, laidKinds := [.data], laidTests := true, laidLooks := .later }
def FnExactProofsOfUptoCardSaid : Prop := Claim7.holds Tryd.pinned (.plain (OpenSpec.upto fnExactProofsOfSpec)) fnExactProofsOfUptoCard
end Rows
end Go.Proofs.YtdokgfcaecpboaaDoor
