/- The package variables that the row lists. -/
import Derived.Test.YtiflfcpoajijaaaGreatDoorCards
import Derived.Test.YtiflfcpoajijaaaGreatDoorTie
import Derived.Test.YtiflfcpoajijaaaGreatDoorJMakeCertificate0
import Derived.Test.YtiflfcpoajijaaaGreatDoorJMakeCertificate1
import Derived.ProofKit
import Derived.LaidMore
import Derived.OpenShut
import Derived.OpenVars
import Derived.Stop.Joined
import Derived.ShutString
import Derived.Lib.LaidTab
import Derived.Lib.LaidU8
namespace Go.Proofs.YtiflfcpoajijaaaGreatDoor.Hl
open Go.ChangeShapes Go.WideShapes Go.ChangeAt Go.RowKit

theorem own : ownKnob Tryz.prog.godebug = none := by kernel_rfl
theorem laidOut : laidOutB Tryz.prog = true := by kernel_rfl
theorem rowed : varsRowed Tryz.prog ["loop.example/g00292/impl.roundWords"] = true := by kernel_rfl
abbrev laidList : List (String × DataW Unit) := [("math/bits.deBruijn32tab", Rows.laid_math_bits_deBruijn32tab), ("math/bits.deBruijn64tab", Rows.laid_math_bits_deBruijn64tab), ("internal/strconv.uint64pow10", Rows.laid_internal_strconv_uint64pow10), ("loop.example/g00292/impl.roundWords", Rows.laid_loop_example_g00292_impl_roundWords)]
set_option maxRecDepth 100000 in
theorem door_met (os : Os) (args : Array Value) : laidMetH Tryz.prog laidList ((World.doorLaid Tryz.prog 400 os).forCall (fun _ _ => 0) ⟨#[], args, []⟩).memory :=
  laidMetH_of_parts3 (fuel := 8) (laidMet_of_run' 8 (by kernel_rfl) (by kernel_rfl)) (by kernel_rfl) (by kernel_rfl)
theorem tab_reads {P : Program} {W : World} {name : String} {k : IntKind} {zs : List Int} {g : Nat} {t e : TypeId} {n : Nat}
    (hg : P.globalNamed name = some g) (hty : (P.globals[g]?).map (·.type) = some t) (ht : P.underlying t = some (.array n e)) (he : P.underlying e = some (.int k)) (hce : P.cellsOf e = 1) (hct : P.cellsOf t = n)
    (h : Lib.VarReads P W name (Lib.tabData k zs)) : Lib.TabIs P W name k zs := by
  obtain ⟨g', t', cs, fuel, p, hg', ht', hvar, hd⟩ := h
  obtain rfl := Option.some.inj (hg.symm.trans hg')
  obtain rfl := Option.some.inj (hty.symm.trans ht')
  unfold Lib.TabIs
  rw [hvar, ← Lib.cells_of_tab ht he hce hct hd]
theorem pow_eq : (Rows.laid_internal_strconv_uint64pow10 : DataW Unit) = Lib.tabData .u64 Lib.pow10Tab := by kernel_rfl
theorem ptab {W : World} (h : laidMet Tryz.prog laidList W) : Gr12.PTab W :=
  tab_reads (g := 2) (t := 151) (e := 134) (n := 20) (by kernel_rfl) (by kernel_rfl) Tryz.underlying151 Tryz.underlying134 (by kernel_rfl) (by kernel_rfl) (by rw [← pow_eq]; exact Lib.laidMet.reads h (by simp))
theorem list_eq : (Rows.laid_loop_example_g00292_impl_roundWords : DataW Unit) = Lib.tabData .u32 (Sh.kList.map Sh.nat) := by kernel_rfl
theorem k_len : Sh.kList.length = 64 := by decide
theorem gTab : Tryz.prog.globalNamed "loop.example/g00292/impl.roundWords" = some 0 := by kernel_rfl
theorem ktab {W : World} (h : laidMet Tryz.prog laidList W) : Sh.KTab W := by
  have ht : Lib.TabIs Tryz.prog W "loop.example/g00292/impl.roundWords" .u32 (Sh.kList.map Sh.nat) := tab_reads (g := 0) (t := 119) (e := 115) (n := 64) gTab (by kernel_rfl) Tryz.underlying119 Tryz.underlying115 (by kernel_rfl) (by kernel_rfl) (by rw [← list_eq]; exact Lib.laidMet.reads h (by simp))
  intro i hi
  have hl := k_len
  rw [ht.cell gTab i (by rw [List.length_map, hl]; exact hi)]
  unfold Sh.kt
  rw [List.getD_eq_getElem?_getD, List.getElem?_map, List.getElem?_eq_getElem (by omega), List.getD_eq_getElem?_getD, List.getElem?_eq_getElem (by omega)]
  rfl
/-- What the row's list gives the walks. -/
theorem tab_of {W : World} (h : laidMetH Tryz.prog laidList W) : Gr12.PTab W ∧ (Sh.KTab W ∧ 0 < W.heap.size) := by
  rw [MakeChecks.laidMetH_plain _ _ _ (by kernel_rfl)] at h
  exact ⟨ptab h, ⟨ktab h, World.block_lt_of_cell? W _ (ktab h 0 (by decide))⟩⟩
end Go.Proofs.YtiflfcpoajijaaaGreatDoor.Hl
