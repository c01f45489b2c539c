/- The table of words, as the row lists it; a world for the witness. -/
import Derived.Test.YtcbhaafemepdhaaDoorCodes
import Derived.Test.YtcbhaafemepdhaaDoorStrTab
import Derived.Test.YtcbhaafemepdhaaDoorCards
import Derived.Test.YtcbhaafemepdhaaDoorTie
import Derived.ProofKit
import Derived.LaidMore
import Derived.OpenShut
import Derived.OpenVars
import Derived.Stop.Joined
import Derived.ShutString
namespace Go.Proofs.YtcbhaafemepdhaaDoor.Cd
open Go.ChangeShapes Go.WideShapes Go.ChangeAt Go.RowKit

theorem own : ownKnob Tryd.prog.godebug = none := by kernel_rfl
theorem laidOut : laidOutB Tryd.prog = true := by kernel_rfl
theorem gWords : Tryd.prog.globalNamed "loop.example/g00292/impl.codeWords" = some 0 := by kernel_rfl
theorem tWords : (Tryd.prog.globals[0]?).map (·.type) = some 45 := by kernel_rfl
theorem cells20 : Tryd.prog.cellsOf 45 = 20 := by kernel_rfl
theorem cells9 : Tryd.prog.cellsOf 9 = 1 := by kernel_rfl
theorem rowed : varsRowed Tryd.prog ["loop.example/g00292/impl.codeWords"] = true := by kernel_rfl
abbrev laidList : List (String × DataW Unit) := [("loop.example/g00292/impl.codeWords", Rows.laid_loop_example_g00292_impl_codeWords)]

theorem door_met (os : Os) (args : Array Value) : laidMetH Tryd.prog laidList ((World.doorLaid Tryd.prog 400 os).forCall (fun _ _ => 0) ⟨#[], args, []⟩).memory :=
  laidMetH_of_parts3 (fuel := 8) (laidMet_of_run' 8 (by kernel_rfl) (by kernel_rfl)) (by kernel_rfl) (by kernel_rfl)

/-- What the row's list gives the walks; and the variable's block lies among the old ones. -/
theorem tab_of {W : World} (h : laidMetH Tryd.prog laidList W) : Tab W ∧ 0 < W.heap.size := by
  rw [MakeChecks.laidMetH_plain _ _ _ (by kernel_rfl)] at h
  obtain ⟨ps, ⟨g0, t0, cs0, f0, p0, q0, hg0, ht0, hv0, hd0, _, _⟩, _, _⟩ := h
  obtain rfl := Option.some.inj (gWords.symm.trans hg0)
  obtain rfl := Option.some.inj (tWords.symm.trans ht0)
  have e : cs0.toList = wordVals := Tb.cells_of_texts (ls := words) Tryd.underlying45 Tryd.underlying9 cells9 cells20 hd0
  have ht : Tab W := by
    intro i hi
    rw [World.var?_cell hg0 hv0 i, ← Array.getElem?_toList, e, List.getElem?_eq_getElem (by rw [wordVals_length]; exact hi), at_word]
  exact ⟨ht, World.block_lt_of_cell? W _ (ht 0 (by decide))⟩
end Go.Proofs.YtcbhaafemepdhaaDoor.Cd
