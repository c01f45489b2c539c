/-
  DERIVED. GIVEN WITH THE SEED: THE CARDS: each row of YtimmeclclilpdaaDoorRows.lean that lists a variable, with what it lists TIED to the program's text (the seventh form; the later family's looks); each row that meets fmt, with fmt's text TOLD by the authors' own Lean function (tested against real Go, not proved from fmt's source: count such statements apart). THE CARD IS WHAT COUNTS. Prove the row's statement (the work); the ties are given (YtimmeclclilpdaaDoorTie.lean); close each card by the builder's one call (the guide's Derived/Test/ToyasCard.lean, 'card_holds'). Laid BY PROGRAM, IN A SANDBOX (cutbox-door.mjs). By AI agents, Wed Nov 11 2026. No macro, syntax, notation, axiom, sorry.
-/
import Derived.Test.YtimmeclclilpdaaDoorRows
import GoSem.ClaimSeven
namespace Go.Proofs.YtimmeclclilpdaaDoor
namespace Rows

/-- THE TIED CARD OF 'laws.FnGrantTexts'. -/
def fnGrantTextsCard : Claim7 := { stood := { row := fnGrantTextsRow, standIns := [], harness := (true, "bbae852275d89ba9c5bea4addf41b205f5468558a9dcdd73089a3b867ab2e013"), looks := false }, kinds := [], alts := [], laidByText := true, laidKinds := [.data, .data, .data, .listed, .data], laidTests := true, laidLooks := .later }
def FnGrantTextsCardSaid : Prop := Claim7.holds Tryd.pinned (.plain (OpenSpec.ofChange fnGrantTextsSpec)) fnGrantTextsCard

/-- THE TIED CARD OF 'laws.FnExactGrantText'. -/
def fnExactGrantTextCard : Claim7 := { stood := { row := fnExactGrantTextRow, standIns := [], harness := (true, "bbae852275d89ba9c5bea4addf41b205f5468558a9dcdd73089a3b867ab2e013"), looks := false }, kinds := [], alts := [], laidByText := true, laidKinds := [.data, .data, .data], laidTests := true, laidLooks := .later }
def FnExactGrantTextCardSaid : Prop := Claim7.holds Tryd.pinned (.plain (OpenSpec.ofChange fnExactGrantTextSpec)) fnExactGrantTextCard

/-- THE TIED CARD OF 'laws.FnExactReadGrant'. -/
def fnExactReadGrantCard : Claim7 := { stood := { row := fnExactReadGrantRow, standIns := [], harness := (true, "bbae852275d89ba9c5bea4addf41b205f5468558a9dcdd73089a3b867ab2e013"), looks := false }, kinds := [], alts := [], laidByText := true, laidKinds := [.data, .data, .data, .listed, .data], laidTests := true, laidLooks := .later }
def FnExactReadGrantCardSaid : Prop := Claim7.holds Tryd.pinned (.plain (OpenSpec.ofChange fnExactReadGrantSpec)) fnExactReadGrantCard

/-- THE TIED CARD OF 'laws.FnExactNodeSeed'. -/
def fnExactNodeSeedCard : Claim7 := { stood := { row := fnExactNodeSeedRow, standIns := [], harness := (true, "bbae852275d89ba9c5bea4addf41b205f5468558a9dcdd73089a3b867ab2e013"), looks := false }, kinds := [], alts := [], laidByText := true, laidKinds := [.data], laidTests := true, laidLooks := .later }
def FnExactNodeSeedCardSaid : Prop := Claim7.holds Tryd.pinned (.plain (OpenSpec.ofChange fnExactNodeSeedSpec)) fnExactNodeSeedCard

/-- THE TIED CARD OF 'laws.FnExactNodeRoot'. -/
def fnExactNodeRootCard : Claim7 := { stood := { row := fnExactNodeRootRow, standIns := [], harness := (true, "bbae852275d89ba9c5bea4addf41b205f5468558a9dcdd73089a3b867ab2e013"), looks := false }, kinds := [], alts := [], laidByText := true, laidKinds := [.data], laidTests := true, laidLooks := .later }
def FnExactNodeRootCardSaid : Prop := Claim7.holds Tryd.pinned (.plain (OpenSpec.ofChange fnExactNodeRootSpec)) fnExactNodeRootCard

/-- THE TIED CARD OF 'laws.FnExactSignGrant'. -/
def fnExactSignGrantCard : Claim7 := { stood := { row := fnExactSignGrantRow, standIns := [], harness := (true, "bbae852275d89ba9c5bea4addf41b205f5468558a9dcdd73089a3b867ab2e013"), looks := false }, kinds := [], alts := [], laidByText := true, laidKinds := [.data, .data, .data, .data], laidTests := true, laidLooks := .later }
def FnExactSignGrantCardSaid : Prop := Claim7.holds Tryd.pinned (.plain (OpenSpec.ofChange fnExactSignGrantSpec)) fnExactSignGrantCard

/-- THE SECOND FORM's CARD OF 'laws.FnGrantTexts'. -/
def fnGrantTextsUptoCard : Claim7 := { stood := { row := fnGrantTextsUptoRow, standIns := [], harness := (true, "bbae852275d89ba9c5bea4addf41b205f5468558a9dcdd73089a3b867ab2e013"), looks := false }, kinds := [], alts := [], laidByText := true, laidKinds := [.data, .data, .data, .listed, .data], laidTests := true, laidLooks := .later }
def FnGrantTextsUptoCardSaid : Prop := Claim7.holds Tryd.pinned (.plain (OpenSpec.upto fnGrantTextsSpec)) fnGrantTextsUptoCard

/-- THE SECOND FORM's CARD OF 'laws.FnExactGrantText'. -/
def fnExactGrantTextUptoCard : Claim7 := { stood := { row := fnExactGrantTextUptoRow, standIns := [], harness := (true, "bbae852275d89ba9c5bea4addf41b205f5468558a9dcdd73089a3b867ab2e013"), looks := false }, kinds := [], alts := [], laidByText := true, laidKinds := [.data, .data, .data], laidTests := true, laidLooks := .later }
def FnExactGrantTextUptoCardSaid : Prop := Claim7.holds Tryd.pinned (.plain (OpenSpec.upto fnExactGrantTextSpec)) fnExactGrantTextUptoCard

/-- THE SECOND FORM's CARD OF 'laws.FnExactReadGrant'. -/
def fnExactReadGrantUptoCard : Claim7 := { stood := { row := fnExactReadGrantUptoRow, standIns := [], harness := (true, "bbae852275d89ba9c5bea4addf41b205f5468558a9dcdd73089a3b867ab2e013"), looks := false }, kinds := [], alts := [], laidByText := true, laidKinds := [.data, .data, .data, .listed, .data], laidTests := true, laidLooks := .later }
def FnExactReadGrantUptoCardSaid : Prop := Claim7.holds Tryd.pinned (.plain (OpenSpec.upto fnExactReadGrantSpec)) fnExactReadGrantUptoCard

/-- THE SECOND FORM's CARD OF 'laws.FnExactNodeSeed'. -/
def fnExactNodeSeedUptoCard : Claim7 := { stood := { row := fnExactNodeSeedUptoRow, standIns := [], harness := (true, "bbae852275d89ba9c5bea4addf41b205f5468558a9dcdd73089a3b867ab2e013"), looks := false }, kinds := [], alts := [], laidByText := true, laidKinds := [.data], laidTests := true, laidLooks := .later }
def FnExactNodeSeedUptoCardSaid : Prop := Claim7.holds Tryd.pinned (.plain (OpenSpec.upto fnExactNodeSeedSpec)) fnExactNodeSeedUptoCard

/-- THE SECOND FORM's CARD OF 'laws.FnExactNodeRoot'. -/
def fnExactNodeRootUptoCard : Claim7 := { stood := { row := fnExactNodeRootUptoRow, standIns := [], harness := (true, "bbae852275d89ba9c5bea4addf41b205f5468558a9dcdd73089a3b867ab2e013"), looks := false }, kinds := [], alts := [], laidByText := true, laidKinds := [.data], laidTests := true, laidLooks := .later }
def FnExactNodeRootUptoCardSaid : Prop := Claim7.holds Tryd.pinned (.plain (OpenSpec.upto fnExactNodeRootSpec)) fnExactNodeRootUptoCard

/-- THE SECOND FORM's CARD OF 'laws.FnExactSignGrant'. -/
def fnExactSignGrantUptoCard : Claim7 := { stood := { row := fnExactSignGrantUptoRow, standIns := [], harness := (true, "bbae852275d89ba9c5bea4addf41b205f5468558a9dcdd73089a3b867ab2e013"), looks := false }, kinds := [], alts := [], laidByText := true, laidKinds := [.data, .data, .data, .data], laidTests := true, laidLooks := .later }
def FnExactSignGrantUptoCardSaid : Prop := Claim7.holds Tryd.pinned (.plain (OpenSpec.upto fnExactSignGrantSpec)) fnExactSignGrantUptoCard
end Rows
end Go.Proofs.YtimmeclclilpdaaDoor
