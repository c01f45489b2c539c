/- The specification's l01Block: a block taken into the state. -/
import Derived.Test.YtiflfcpoajijaaaDoorShaH
import Derived.Deep.AppendLies
import Derived.Deep.RegionHeld3
import Derived.Test.YtiflfcpoajijaaaDoorQt
namespace Go.Proofs.YtiflfcpoajijaaaDoor.Sh
open Go.RowKit Go.Proofs.YtiflfcpoajijaaaDoor.Sl Go.Proofs.YtiflfcpoajijaaaDoor.Me

/-- Eight words lie in the first cells of block g. -/
def Row8 (w : World) (g : Nat) (r : R8) : Prop := ∀ j, j < 8 → w.cell? ⟨g, j, none⟩ = some (.int .u32 (nat (at8 r j)))

theorem infoU : (Tryd.prog.info? 85).map (fun i => (i.zero, i.size, i.bytes)) = some (some (.int .u32 0), 1, 4) := by kernel_rfl
theorem own_row8 {w : World} {B e g cap : Nat} {r : R8} (h : w.ownsRow B e 1 (.slice (some ⟨g, 0, none⟩) (0 + 8) cap) (0 + 8) ([] ++ (arr8 r).toList)) : Row8 w g r ∧ B ≤ g ∧ 8 ≤ cap := by
  rcases h.2 with ⟨h0, _⟩ | ⟨g', cap', cur, e1, hb, hg, hn, _, _, htk⟩
  · cases h0
  · cases e1
    refine ⟨fun j hj => ?_, hb, hn⟩
    have h1 : (cur.toList.take ((0 + 8) * 1))[j]? = some (.int .u32 (nat (at8 r j))) := by
      rw [htk, List.nil_append, Array.getElem?_toList]; exact arr8_at r j hj
    rw [List.getElem?_take_of_lt (by omega), Array.getElem?_toList] at h1
    simp [World.cell?, hg, h1]
theorem keep1 {w : World} {g k j : Nat} {u v : Value} (h : w.cell? ⟨g, j, none⟩ = some u) (hne : ¬ k = j) : (w.setCell ⟨g, k, none⟩ v).drew.cell? ⟨g, j, none⟩ = some u := by
  show (w.setCell ⟨g, k, none⟩ v).cell? ⟨g, j, none⟩ = some u
  exact (World.cell?_setCell_other w ⟨g, k, none⟩ ⟨g, j, none⟩ v (by intro e; exact hne (congrArg Addr.off e))).trans h
theorem keep2 {w : World} {g k i j : Nat} {u u' v : Value} (h : w.cell? ⟨g, i, none⟩ = some u) (h' : w.cell? ⟨g, j, none⟩ = some u') (hi : ¬ k = i) (hj : ¬ k = j) :
    (w.setCell ⟨g, k, none⟩ v).drew.cell? ⟨g, i, none⟩ = some u ∧ (w.setCell ⟨g, k, none⟩ v).drew.cell? ⟨g, j, none⟩ = some u' := ⟨keep1 h hi, keep1 h' hj⟩

theorem t_eq (x : R8) (k w : UInt32) : (nat (x.h + (rotr x.e 6 ^^^ rotr x.e 11 ^^^ rotr x.e 25) + (x.e &&& x.f ^^^ ~~~x.e &&& x.g) + k) + nat w) % 4294967296 = nat (tOf x k w) := nat_add _ _
theorem u_eq (x : R8) : (nat (rotr x.a 2 ^^^ rotr x.a 13 ^^^ rotr x.a 22) + nat (x.a &&& x.b ^^^ x.a &&& x.c ^^^ x.b &&& x.c)) % 4294967296 = nat (uOf x) := nat_add _ _
theorem wt_highx (xs : List Int) (k : Nat) (h : ¬ k < 16) : wt xs k = wt xs (k - 16) + (rotr (wt xs (k - 15)) 7 ^^^ rotr (wt xs (k - 15)) 18 ^^^ wt xs (k - 15) >>> 3) + wt xs (k - 7) + (rotr (wt xs (k - 2)) 17 ^^^ rotr (wt xs (k - 2)) 19 ^^^ wt xs (k - 2) >>> 10) := wt_high xs k h
theorem row8_new {w w' : World} {r : R8} (h : ArrAt w' w.heap.size 85 (arr8 r)) : Row8 w' w.heap.size r := fun j hj => (h.cell j).trans (arr8_at r j hj)
theorem row8_set {w : World} {g gv : Nat} {r : R8} (h : Row8 w gv r) (hne : gv ≠ g) (j : Nat) (v : Value) : Row8 (w.setCell ⟨g, j, none⟩ v).drew gv r := fun i hi =>
  (World.cell?_setCell_other w ⟨g, j, none⟩ ⟨gv, i, none⟩ v (by intro e; exact hne (congrArg Addr.block e).symm)).trans (h i hi)
theorem grown_start {w w' : World} (h : Below w.heap.size w w') (g : Nat) : w.grownBy w' (some g) := ⟨h.os, h.tape, h.output, h.size, fun i hi _ => h.block i hi⟩
theorem grown_set {w w' : World} {g : Nat} (h : w.grownBy w' (some g)) (j : Nat) (v : Value) : w.grownBy (w'.setCell ⟨g, j, none⟩ v).drew (some g) :=
  h.trans ⟨rfl, rfl, rfl, by simp, fun k _ hk => Below.heap_setCell w' ⟨g, j, none⟩ v k (fun e => hk (by rw [e]))⟩

end Go.Proofs.YtiflfcpoajijaaaDoor.Sh
