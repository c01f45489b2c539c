/- Replies: what is right of one, its mark: of the specification. -/
import Derived.Test.YtiflfcpoajijaaaDoorJFnClients1
import Derived.Deep.RegionHeldLaw
import Derived.BigQuiet
namespace Go.Proofs.YtiflfcpoajijaaaDoor.Rys
open Go.RowKit Go.Proofs.YtiflfcpoajijaaaDoor.Sl Go.Proofs.YtiflfcpoajijaaaDoor.By Go.Proofs.YtiflfcpoajijaaaDoor.Ap Go.Proofs.YtiflfcpoajijaaaDoor.Tx Go.Proofs.YtiflfcpoajijaaaDoor.Sh Go.Proofs.YtiflfcpoajijaaaDoor.Ho Go.Proofs.YtiflfcpoajijaaaDoor.Fz Go.Proofs.YtiflfcpoajijaaaDoor.Pu Go.Proofs.YtiflfcpoajijaaaDoor.Fu Go.Proofs.YtiflfcpoajijaaaDoor.Mr Go.Proofs.YtiflfcpoajijaaaDoor.Rm Go.Proofs.YtiflfcpoajijaaaDoor.Fq
open Go.Proofs.YtiflfcpoajijaaaDoor.Gy (Re oneV)
open Go.Proofs.YtiflfcpoajijaaaDoor.Ry
open Go.Proofs.YtiflfcpoajijaaaDoor.Tm (fCode fOut f_cases implFaultsOf_any)

theorem kdrew {w w1 : World} {v v1 : Value} (h : Kp w w1 v v1) : Kp w w1.drew v v1 := ⟨h.os, h.tape, h.output, h.size, h.block, h.away⟩
theorem ble {B : Nat} {w w1 : World} {v v1 : Value} (hB : B ≤ w.heap.size) (h : Kp w w1 v v1) : B ≤ w1.heap.size := Nat.le_trans hB h.size
theorem first_num {e : TypeId} {wb w1 : World} {B : Nat} {v : Value} {xs : List Int} (hB : B = wb.heap.size) (b1 : Below wb.drew.heap.size wb.drew w1) (o1 : OwnB e w1 wb.drew.heap.size v xs) : Below B wb w1 ∧ OwnB e w1 B v xs := by
  subst hB
  exact ⟨(ordB rfl b1).1, o1⟩
theorem next_num {B : Nat} {wb w1 w2 : World} (h : Below B wb w1) (hB : B ≤ wb.heap.size) (b : Below w1.heap.size w1 w2) : Below B wb w2 := h.trans (b.mono (Nat.le_trans hB h.size))
theorem at_drew {wb : World} {B : Nat} : Below B wb wb.drew := (Below.refl _ _).drew
theorem call_all {e : TypeId} {B : Nat} {w0 X wn : World} {v0 v : Value} {zs : List Int} (bn : Below X.heap.size X wn) (o : OwnB e X B v zs) (k : Kp w0 X v0 v) : OwnB e wn B v zs ∧ Kp w0 wn v0 v ∧ ∀ g, v.ownBlock = some g → g < X.heap.size := ⟨own_below o bn, k.trans (Kp.of_below _ bn), own_lt o⟩
theorem one_num {x : Int} (h : 0 ≤ x ∧ x ≤ 255) : [x] = nums x 1 1 := by simp [nums, nb]; omega
theorem wrap1 (x : Int) : [IntKind.u8.wrap x] = nums x 1 1 := by simp [nums, nb, IntKind.wrap_u8]
theorem fo_by {x : Re} (h : foB x = true) : (0 ≤ x.cl ∧ x.cl ≤ 255) ∧ (1 ≤ x.kd ∧ x.kd ≤ 8) := by
  unfold foB anB at h
  simp only [Bool.and_eq_true] at h
  exact ⟨inR_nat h.2.1, inR_nat h.2.2.2.1⟩
theorem n1 {x : Int} (h : 0 ≤ x ∧ x ≤ 255) : [x] = nums x 1 1 := one_num h
end Go.Proofs.YtiflfcpoajijaaaDoor.Rys
