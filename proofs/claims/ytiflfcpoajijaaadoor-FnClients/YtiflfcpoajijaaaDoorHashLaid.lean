/- The table of round constants, as the row lists it; a world for the witness. -/
import Derived.Test.YtiflfcpoajijaaaDoorShaX
import Derived.Test.YtiflfcpoajijaaaDoorCards
import Derived.Test.YtiflfcpoajijaaaDoorTie
import Derived.ProofKit
import Derived.LaidMore
import Derived.OpenShut
import Derived.OpenVars
import Derived.Stop.Joined
import Derived.ShutString
import Derived.Lib.LaidTab
namespace Go.Proofs.YtiflfcpoajijaaaDoor.Hl
open Go.ChangeShapes Go.WideShapes Go.ChangeAt Go.RowKit Go.Proofs.YtiflfcpoajijaaaDoor.Sh

theorem own : ownKnob Tryd.prog.godebug = none := by kernel_rfl
theorem laidOut : laidOutB Tryd.prog = true := by kernel_rfl
theorem gTab : Tryd.prog.globalNamed "loop.example/g00292/impl.roundWords" = some 0 := by kernel_rfl
theorem tTab : (Tryd.prog.globals[0]?).map (·.type) = some 89 := by kernel_rfl
theorem cells64 : Tryd.prog.cellsOf 89 = 64 := by kernel_rfl
theorem cells1 : Tryd.prog.cellsOf 85 = 1 := by kernel_rfl
theorem rowed : varsRowed Tryd.prog ["loop.example/g00292/impl.roundWords"] = true := by kernel_rfl
abbrev laidList : List (String × DataW Unit) := [("loop.example/g00292/impl.roundWords", Rows.laid_loop_example_g00292_impl_roundWords)]

theorem door_met (os : Os) (args : Array Value) : laidMetH Tryd.prog laidList ((World.doorLaid Tryd.prog 400 os).forCall (fun _ _ => 0) ⟨#[], args, []⟩).memory :=
  laidMetH_of_parts3 (fuel := 8) (laidMet_of_run' 8 (by kernel_rfl) (by kernel_rfl)) (by kernel_rfl) (by kernel_rfl)
theorem list_eq : (Rows.laid_loop_example_g00292_impl_roundWords : DataW Unit) = Lib.tabData .u32 (kList.map nat) := by kernel_rfl
theorem k_len : kList.length = 64 := by decide

/-- What the row's list gives the walks; and the variable's block lies among the old ones. -/
theorem tab_of {W : World} (h : laidMetH Tryd.prog laidList W) : KTab W ∧ 0 < W.heap.size := by
  rw [MakeChecks.laidMetH_plain _ _ _ (by kernel_rfl)] at h
  obtain ⟨ps, ⟨g0, t0, cs0, f0, p0, q0, hg0, ht0, hv0, hd0, _, _⟩, _, _⟩ := h
  obtain rfl := Option.some.inj (gTab.symm.trans hg0)
  obtain rfl := Option.some.inj (tTab.symm.trans ht0)
  have e : cs0.toList = (kList.map nat).map fun z => Value.int .u32 z := Lib.cells_of_tab Tryd.underlying89 Tryd.underlying85 cells1 cells64 (by rw [← list_eq]; exact hd0)
  have ht : KTab W := by
    intro i hi
    have hl := k_len
    rw [World.var?_cell hg0 hv0 i, ← Array.getElem?_toList, e, List.map_map, List.getElem?_map, List.getElem?_eq_getElem (by omega)]
    unfold kt
    rw [List.getD_eq_getElem?_getD, List.getElem?_eq_getElem (by omega)]
    rfl
  exact ⟨ht, World.block_lt_of_cell? W _ (ht 0 (by decide))⟩
end Go.Proofs.YtiflfcpoajijaaaDoor.Hl
