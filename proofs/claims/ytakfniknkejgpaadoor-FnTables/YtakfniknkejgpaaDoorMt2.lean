/- Texts put together: ShaX, HashLaid, Ap. -/
import Derived.Test.YtakfniknkejgpaaDoorMt1
import Derived.Test.YtakfniknkejgpaaDoorCards
import Derived.Test.YtakfniknkejgpaaDoorTie
import Derived.ProofKit
import Derived.LaidMore
import Derived.OpenShut
import Derived.OpenVars
import Derived.Stop.Joined
import Derived.ShutString
import Derived.Lib.LaidTab
import Derived.Test.YtakfniknkejgpaaDoorMt0
import Derived.Lib.AppendStr
import Derived.Deep.Upon
import Derived.Laws.OwnMore
import Derived.Maps.AppendAt
/- impl.mixBlock: a block taken into the registers. -/
namespace Go.Proofs.YtakfniknkejgpaaDoor.Sh
open Go.RowKit Go.Proofs.YtakfniknkejgpaaDoor.Sl Go.Proofs.YtakfniknkejgpaaDoor.Me

def arr8 (r : R8) : Array Value := #[.int .u32 (nat r.a), .int .u32 (nat r.b), .int .u32 (nat r.c), .int .u32 (nat r.d), .int .u32 (nat r.e), .int .u32 (nat r.f), .int .u32 (nat r.g), .int .u32 (nat r.h)]
def KTab (w : World) : Prop := ∀ i, i < 64 → w.cell? ⟨0, i, none⟩ = some (.int .u32 (nat (kt i)))
theorem KTab.below {w w' : World} {B : Nat} (h : KTab w) (hb : Below B w w') (hB : 0 < B) : KTab w' := fun i hi => (hb.cell (p := ⟨0, i, none⟩) hB).trans (h i hi)
def z8 : Array Value := Array.replicate 8 (.int .u32 0)
theorem zero8 (w : World) : Sem.run Tryd.prog (zeroValue 134) w = .ok (.agg z8) w := by kernel_rfl
theorem info8 : (Tryd.prog.info? 134).map (·.size) = some 8 := by kernel_rfl

theorem arr8_one (r : R8) : (arr8 r).all (·.oneCell') = true := by simp [arr8, Value.oneCell']
theorem arr8_at (r : R8) (j : Nat) (h : j < 8) : (arr8 r)[j]? = some (.int .u32 (nat (at8 r j))) := by
 match j, h with
 | 0, _ => rfl
 | 1, _ => rfl
 | 2, _ => rfl
 | 3, _ => rfl
 | 4, _ => rfl
 | 5, _ => rfl
 | 6, _ => rfl
 | 7, _ => rfl
theorem at8_add (x y : R8) (j : Nat) (h : j < 8) : at8 x j + at8 y j = at8 (addR x y) j := by
 match j, h with
 | 0, _ => rfl
 | 1, _ => rfl
 | 2, _ => rfl
 | 3, _ => rfl
 | 4, _ => rfl
 | 5, _ => rfl
 | 6, _ => rfl
 | 7, _ => rfl
theorem arr8_size (r : R8) : (arr8 r).size = 8 := rfl
def SumTo (x y : R8) (k : Nat) (W : Array Value) : Prop := W.size = 8 ∧ ∀ j, j < 8 → W[j]? = some (.int .u32 (nat (if j < k then at8 (addR x y) j else at8 x j)))
theorem sum_zero (x y : R8) : SumTo x y 0 (arr8 x) := ⟨rfl, fun j hj => by rw [if_neg (by omega)]; exact arr8_at x j hj⟩
theorem sum_step {x y : R8} {k : Nat} {W : Array Value} (h : SumTo x y k W) (hk : k < 8) : SumTo x y (k + 1) (W.setIfInBounds k (.int .u32 (nat (at8 x k + at8 y k)))) := by
 refine ⟨by rw [Array.size_setIfInBounds]; exact h.1, fun j hj => ?_⟩
 rw [Array.getElem?_setIfInBounds]
 by_cases e : k = j
 ·subst e
  rw [if_pos rfl, if_pos (by rw [h.1]; exact hk), if_pos (by omega), at8_add x y k hk]
 ·rw [if_neg e, h.2 j hj]
  by_cases g : j < k
  ·rw [if_pos g, if_pos (by omega)]
  ·rw [if_neg g, if_neg (by omega)]
theorem sum_all {x y : R8} {W : Array Value} (h : SumTo x y 8 W) : W = arr8 (addR x y) := by
 apply Array.ext_getElem?
 intro j
 by_cases hj : j < 8
 ·rw [h.2 j hj, if_pos hj, arr8_at _ j hj]
 ·rw [Array.getElem?_eq_none (by rw [h.1]; omega), Array.getElem?_eq_none (by rw [arr8_size]; omega)]
def tOr (r : R8) (k w : UInt32) : UInt32 := r.h + low r.e + (r.e &&& r.f ||| ~~~r.e &&& r.g) + k + w
theorem tOr_eq (r : R8) (k w : UInt32) : tOr r k w = tOf r k w := by unfold tOr tOf; rw [ch_or]
theorem arr8_rnd (r : R8) (t u : UInt32) : (((((((((arr8 r).setIfInBounds 7 (.int .u32 (nat r.g))).setIfInBounds 6 (.int .u32 (nat r.f))).setIfInBounds 5 (.int .u32 (nat r.e))).setIfInBounds 4 (.int .u32 (nat (r.d + t)))).setIfInBounds 3 (.int .u32 (nat r.c))).setIfInBounds 2 (.int .u32 (nat r.b))).setIfInBounds 1 (.int .u32 (nat r.a))).setIfInBounds 0 (.int .u32 (nat (t + u)))) = arr8 ⟨t + u, r.a, r.b, r.c, r.d + t, r.e, r.f, r.g⟩ := by simp [arr8]

def eight (w : World) (g : Nat) (r : R8) (t u : UInt32) : World :=
 (((((((w.setCell ⟨g, 7, none⟩ (.int .u32 (nat r.g))).setCell ⟨g, 6, none⟩ (.int .u32 (nat r.f))).setCell ⟨g, 5, none⟩ (.int .u32 (nat r.e))).setCell ⟨g, 4, none⟩ (.int .u32 (nat (r.d + t)))).setCell ⟨g, 3, none⟩ (.int .u32 (nat r.c))).setCell ⟨g, 2, none⟩ (.int .u32 (nat r.b))).setCell ⟨g, 1, none⟩ (.int .u32 (nat r.a))).setCell ⟨g, 0, none⟩ (.int .u32 (nat (t + u)))
theorem eight_same {w : World} {g : Nat} {T : TypeId} {r : R8} (h : ArrAt w g T (arr8 r)) (t u : UInt32) : ArrAt (eight w g r t u) g T (arr8 ⟨t + u, r.a, r.b, r.c, r.d + t, r.e, r.f, r.g⟩) := by
 rw [← arr8_rnd]
 exact (((((((h.setCell_same 7 _).setCell_same 6 _).setCell_same 5 _).setCell_same 4 _).setCell_same 3 _).setCell_same 2 _).setCell_same 1 _).setCell_same 0 _
theorem eight_other {w : World} {g g' : Nat} {T : TypeId} {A : Array Value} (h : ArrAt w g' T A) (hne : g' ≠ g) (r : R8) (t u : UInt32) : ArrAt (eight w g r t u) g' T A :=
 (((((((h.setCell_other (a := ⟨g, 7, none⟩) hne _).setCell_other (a := ⟨g, 6, none⟩) hne _).setCell_other (a := ⟨g, 5, none⟩) hne _).setCell_other (a := ⟨g, 4, none⟩) hne _).setCell_other (a := ⟨g, 3, none⟩) hne _).setCell_other (a := ⟨g, 2, none⟩) hne _).setCell_other (a := ⟨g, 1, none⟩) hne _).setCell_other (a := ⟨g, 0, none⟩) hne _
theorem eight_below {w w' : World} {B g : Nat} (h : Below B w w') (hg : B ≤ g) (r : R8) (t u : UInt32) : Below B w (eight w' g r t u) :=
 (((((((h.setCell (p := ⟨g, 7, none⟩) hg _).setCell (p := ⟨g, 6, none⟩) hg _).setCell (p := ⟨g, 5, none⟩) hg _).setCell (p := ⟨g, 4, none⟩) hg _).setCell (p := ⟨g, 3, none⟩) hg _).setCell (p := ⟨g, 2, none⟩) hg _).setCell (p := ⟨g, 1, none⟩) hg _).setCell (p := ⟨g, 0, none⟩) hg _

set_option maxRecDepth 100000 in
set_option maxHeartbeats 1600000 in
theorem mixBlock_any (x : R8) (A : Array Value) (xs : List Int) (w : World) (hW : WordsTo xs 64 A) (hK : KTab w) (hp : 0 < w.heap.size) :
 Calls Tryd.prog 90 #[.agg (arr8 x), .agg A] w fun e w' => e = .returned (.agg (arr8 (blk x xs))) ∧ Below w.heap.size w w' := by
 have hz : ∀ w, Sem.run Tryd.prog (zeroValue 134) w = .ok (.agg z8) w := zero8
 have H0 : ArrAt (((w.alloc (.cells (arr8 x) 134)).alloc (.cells A 137)).alloc (.cells z8 134)) w.heap.size 134 (arr8 x) := ((arrAt_new w _ _).alloc _).alloc _
 have H1 : ArrAt (((w.alloc (.cells (arr8 x) 134)).alloc (.cells A 137)).alloc (.cells z8 134)) (w.heap.size + 1) 137 A := by
  have := (arrAt_new (w.alloc (.cells (arr8 x) 134)) 137 A).alloc (.cells z8 134)
  simpa using this
 have H2 : ArrAt (((w.alloc (.cells (arr8 x) 134)).alloc (.cells A 137)).alloc (.cells z8 134)) (w.heap.size + 1 + 1) 134 z8 := by
  have := arrAt_new ((w.alloc (.cells (arr8 x) 134)).alloc (.cells A 137)) 134 z8
  simpa using this
 have B0 : Below w.heap.size w (((w.alloc (.cells (arr8 x) 134)).alloc (.cells A 137)).alloc (.cells z8 134)) := (((Below.refl _ _).alloc (Nat.le_refl _) _).alloc (by simp) _).alloc (by simp; omega) _
 have S0 : (((w.alloc (.cells (arr8 x) 134)).alloc (.cells A 137)).alloc (.cells z8 134)).heap.size = w.heap.size + 1 + 1 + 1 := by simp
 have G0 : Hid _ := H0
 have G1 : Hid _ := H1
 have G2 : Hid _ := H2
 have GB : Hid _ := B0
 have GS : Hid _ := S0
 have I8 : Hid _ := info8
 have GK : Hid (KTab w) := hK
 have GW : Hid (WordsTo xs 64 A) := hW
 clear H0 H1 H2 B0 S0 hK hW
 go_enter Tryd.func90, Tryd.ntmps90
 go_wp2_with (first | (refine wpList_load_row (by rfl) 134 _ (by rfl) w.heap.size (by rfl) 134 (arr8 x) (0, 0) _ G0.out Tryd.underlying134 rfl I8.out ?_) | (refine wpList_store_row (by rfl) 134 _ _ (by rfl) (w.heap.size + 1 + 1 + 1) (arr8 x) (by rfl) (by rfl) 134 z8 (by rw [← GS.out]; exact arrAt_new _ _ _) I8.out rfl (arr8_one x) ?_))
 go_loopw [11] (fun i wr => ∃ k : Nat, k ≤ 64 ∧ i = .int .i64 k ∧ Below w.heap.size w wr ∧ ArrAt wr w.heap.size 134 (arr8 x) ∧ ArrAt wr (w.heap.size + 1) 137 A ∧ ArrAt wr (w.heap.size + 1 + 1) 134 z8 ∧ ArrAt wr (w.heap.size + 1 + 1 + 1) 134 (arr8 (rndTo kt (wt xs) x k))) (fun i _ => 64 - (intOf i).toNat)
 case atStart =>
  refine ⟨0, by omega, rfl, below_setRow (GB.out.alloc (by rw [GS.out]; omega) _) (by omega) _, ?_, ?_, ?_, ?_⟩
  ·exact (ArrAt.alloc (show ArrAt _ _ _ _ from G0.out) _).setRow_other (by omega) _
  ·exact (ArrAt.alloc (show ArrAt _ _ _ _ from G1.out) _).setRow_other (by omega) _
  ·exact (ArrAt.alloc (show ArrAt _ _ _ _ from G2.out) _).setRow_other (by omega) _
  ·exact ArrAt.setRow_same (A := z8) (by rw [← GS.out]; exact arrAt_new _ _ _) _
 case round =>
  clear G0 G1 G2 GB GS
  obtain ⟨k, hk, rfl, hbel, hX, hA, hZ, hR⟩ := hrel
  by_cases hlt : k < 64
  ·have HS : Hid (rndTo kt (wt xs) x (k + 1) = rnd (rndTo kt (wt xs) x k) (kt k) (wt xs k)) := rfl
   generalize rndTo kt (wt xs) x k = r at hR HS
   have ck := (GK.out.below hbel hp) k hlt
   have cw : wr.cell? ⟨w.heap.size + 1, k, none⟩ = some (.int .u32 (nat (wt xs k))) := (hA.cell k).trans (GW.out.2 k hlt)
   have c0 := (hR.cell 0).trans (arr8_at r 0 (by decide))
   have c1 := (hR.cell 1).trans (arr8_at r 1 (by decide))
   have c2 := (hR.cell 2).trans (arr8_at r 2 (by decide))
   have c4 := (hR.cell 4).trans (arr8_at r 4 (by decide))
   have c5 := (hR.cell 5).trans (arr8_at r 5 (by decide))
   have c6 := (hR.cell 6).trans (arr8_at r 6 (by decide))
   have c7 := (hR.cell 7).trans (arr8_at r 7 (by decide))
   simp only [at8] at c0 c1 c2 c4 c5 c6 c7
   have q0 : (0 : Int) ≤ (k : Int) := by omega
   have q1 : (k : Int) < 64 := by omega
   have had := nat_add
   have han := nat_and
   have hor := nat_or
   have hxr := nat_xor
   have hno : ∀ y : UInt32, bits .xor .u32 (if IntKind.u32.signed = true then -1 else IntKind.u32.max) (nat y) = nat (~~~y) := nat_not
   go_wp2_with fail
   go_quiet ((go_at_call 106; exact Calls.quiet_of_same (mixLower_any _ _)))
   have hbq := below_drewN hbel nq
   have hXq := hX.drewN nq
   have hAq := hA.drewN nq
   have hZq := hZ.drewN nq
   have hRq := hR.drewN nq
   clear ck cw c0 c1 c2 c4 c5 c6 c7 hbel hX hA hZ hR
   generalize wr.drewN nq = wq at hbq hXq hAq hZq hRq ⊢
   have c0 := (hRq.cell 0).trans (arr8_at r 0 (by decide))
   have c1 := (hRq.cell 1).trans (arr8_at r 1 (by decide))
   have c2 := (hRq.cell 2).trans (arr8_at r 2 (by decide))
   simp only [at8] at c0 c1 c2
   go_wp2_with fail
   go_quiet ((go_at_call 107; exact Calls.quiet_of_same (mixUpper_any _ _)))
   have hbp := below_drewN hbq nq
   have hXp := hXq.drewN nq
   have hAp := hAq.drewN nq
   have hZp := hZq.drewN nq
   have hRp := hRq.drewN nq
   clear c0 c1 c2 hbq hXq hAq hZq hRq
   generalize wq.drewN nq = wp at hbp hXp hAp hZp hRp ⊢
   have c0 := (hRp.cell 0).trans (arr8_at r 0 (by decide))
   have c1 := (hRp.cell 1).trans (arr8_at r 1 (by decide))
   have c2 := (hRp.cell 2).trans (arr8_at r 2 (by decide))
   have c3 := (hRp.cell 3).trans (arr8_at r 3 (by decide))
   have c4 := (hRp.cell 4).trans (arr8_at r 4 (by decide))
   have c5 := (hRp.cell 5).trans (arr8_at r 5 (by decide))
   have c6 := (hRp.cell 6).trans (arr8_at r 6 (by decide))
   have c7 := (hRp.cell 7).trans (arr8_at r 7 (by decide))
   simp only [at8] at c0 c1 c2 c3 c4 c5 c6 c7
   have f0 := hRp.frozen 0
   have f1 := hRp.frozen 1
   have f2 := hRp.frozen 2
   have f3 := hRp.frozen 3
   have f4 := hRp.frozen 4
   have f5 := hRp.frozen 5
   have f6 := hRp.frozen 6
   have f7 := hRp.frozen 7
   clear han hor hxr hno
   have e1 := eight_below hbp (g := w.heap.size + 1 + 1 + 1) (by omega) r (tOr r (kt k) (wt xs k)) (uOf r)
   have e2 := eight_other hXp (g := w.heap.size + 1 + 1 + 1) (by omega) r (tOr r (kt k) (wt xs k)) (uOf r)
   have e3 := eight_other hAp (g := w.heap.size + 1 + 1 + 1) (by omega) r (tOr r (kt k) (wt xs k)) (uOf r)
   have e4 := eight_other hZp (g := w.heap.size + 1 + 1 + 1) (by omega) r (tOr r (kt k) (wt xs k)) (uOf r)
   have e5 := eight_same hRp (tOr r (kt k) (wt xs k)) (uOf r)
   have e6 : (⟨tOr r (kt k) (wt xs k) + uOf r, r.a, r.b, r.c, r.d + tOr r (kt k) (wt xs k), r.e, r.f, r.g⟩ : R8) = rndTo kt (wt xs) x (k + 1) := by rw [HS.out, tOr_eq]; rfl
   rw [e6] at e5
   have E1 : Hid (Below w.heap.size w (eight wp (w.heap.size + 1 + 1 + 1) r (tOr r (kt k) (wt xs k)) (uOf r))) := e1
   clear e1 e6
   go_wp2_with fail
   exact ⟨⟨k + 1, by omega, by go_num, E1.out, e2, e3, e4, e5⟩, by simp [intOf]; omega⟩
  ·obtain rfl : k = 64 := by omega
   go_wp2_with fail
   go_loopw [90] (fun i wr => ∃ k : Nat, ∃ W : Array Value, k ≤ 8 ∧ i = .int .i64 k ∧ Below w.heap.size w wr ∧ ArrAt wr w.heap.size 134 W ∧ ArrAt wr (w.heap.size + 1 + 1) 134 z8 ∧ ArrAt wr (w.heap.size + 1 + 1 + 1) 134 (arr8 (rndTo kt (wt xs) x 64)) ∧ SumTo x (rndTo kt (wt xs) x 64) k W) (fun i _ => 8 - (intOf i).toNat)
   case atStart => exact ⟨0, arr8 x, by omega, rfl, hbel, hX, hZ, hR, sum_zero _ _⟩
   case round =>
    clear hbel hX hA hZ hR
    obtain ⟨k, W, hk, rfl, hbel, hX, hZ, hR, hS⟩ := hrel
    have HB : Hid (blk x xs = addR x (rndTo kt (wt xs) x 64)) := rfl
    generalize rndTo kt (wt xs) x 64 = r at hR hS HB
    by_cases hlt : k < 8
    ·have cx : wr.cell? ⟨w.heap.size, k, none⟩ = some (.int .u32 (nat (at8 x k))) := (hX.cell k).trans (by rw [hS.2 k hlt, if_neg (by omega)])
     have cr : wr.cell? ⟨w.heap.size + 1 + 1 + 1, k, none⟩ = some (.int .u32 (nat (at8 r k))) := (hR.cell k).trans (arr8_at r k hlt)
     have fx := hX.frozen k
     have had := nat_add
     have q0 : (0 : Int) ≤ (k : Int) := by omega
     have q1 : (k : Int) < 8 := by omega
     have e1 := (hbel.setCell (p := ⟨w.heap.size, k, none⟩) (Nat.le_refl _) (.int .u32 (nat (at8 x k + at8 r k)))).drew
     have e2 := (hX.setCell_same k (.int .u32 (nat (at8 x k + at8 r k)))).drew
     have e3 := (hZ.setCell_other (a := ⟨w.heap.size, k, none⟩) (by simp; omega) (.int .u32 (nat (at8 x k + at8 r k)))).drew
     have e4 := (hR.setCell_other (a := ⟨w.heap.size, k, none⟩) (by simp; omega) (.int .u32 (nat (at8 x k + at8 r k)))).drew
     have e5 := sum_step hS hlt
     go_wp2_with fail
     go_region
     clear had
     go_wp2
     go_roundw
     case rel => exact ⟨k + 1, _, by omega, by go_num, e1, e2, e3, e4, e5⟩
     case measure => simp [intOf]; omega
    ·obtain rfl : k = 8 := by omega
     have hWe := sum_all hS
     subst hWe
     rw [← HB.out] at hX
     have J8 : Hid ((Tryd.prog.info? 134).map (·.size) = some (arr8 (blk x xs)).size) := by show _ = some (arr8 (blk x xs)).size; rw [arr8_size]; exact I8.out
     have JZ : Hid (z8.size = (arr8 (blk x xs)).size) := by show z8.size = (arr8 (blk x xs)).size; rw [arr8_size]; unfold z8; simp
     have J1 : Hid _ := arr8_one (blk x xs)
     have JR := hZ.setRow_same (arr8 (blk x xs))
     have JB := below_setRow hbel (show w.heap.size ≤ w.heap.size + 1 + 1 by omega) (arr8 (blk x xs))
     clear hS
     generalize hY : arr8 (blk x xs) = Y at hX J8 JZ J1 JR JB
     have HY : Hid (arr8 (blk x xs) = Y) := hY
     clear hY
     go_wp2_with (first | (refine wpList_load_row (by rfl) 134 _ (by rfl) w.heap.size (by rfl) 134 Y (0, 0) _ hX Tryd.underlying134 rfl J8.out ?_) | (refine wpList_store_row (by rfl) 134 _ _ (by rfl) (w.heap.size + 1 + 1) Y (by rfl) (by rfl) 134 z8 hZ J8.out JZ.out J1.out ?_))
     exact bodyPost_ret (v := .agg Y) (results_cell_row Tryd.results90 _ _ (w.heap.size + 1 + 1) 134 _ (0, 0) _ (by rfl) JR Tryd.underlying134 rfl J8.out) (by rfl) ⟨by rw [HY.out], JB⟩
end Go.Proofs.YtakfniknkejgpaaDoor.Sh

/- The table of round constants, as the row lists it; a world for the witness. -/
namespace Go.Proofs.YtakfniknkejgpaaDoor.Hl
open Go.ChangeShapes Go.WideShapes Go.ChangeAt Go.RowKit Go.Proofs.YtakfniknkejgpaaDoor.Sh

theorem own : ownKnob Tryd.prog.godebug = none := by kernel_rfl
theorem laidOut : laidOutB Tryd.prog = true := by kernel_rfl
theorem gTab : Tryd.prog.globalNamed "loop.example/g00292/impl.roundWords" = some 0 := by kernel_rfl
theorem tTab : (Tryd.prog.globals[0]?).map (·.type) = some 137 := by kernel_rfl
theorem cells64 : Tryd.prog.cellsOf 137 = 64 := by kernel_rfl
theorem cells1 : Tryd.prog.cellsOf 103 = 1 := by kernel_rfl
theorem rowed : varsRowed Tryd.prog ["loop.example/g00292/impl.roundWords"] = true := by kernel_rfl
abbrev laidList : List (String × DataW Unit) := [("loop.example/g00292/impl.roundWords", Rows.laid_loop_example_g00292_impl_roundWords)]

theorem door_met (os : Os) (args : Array Value) : laidMetH Tryd.prog laidList ((World.doorLaid Tryd.prog 400 os).forCall (fun _ _ => 0) ⟨#[], args, []⟩).memory :=
 laidMetH_of_parts3 (fuel := 8) (laidMet_of_run' 8 (by kernel_rfl) (by kernel_rfl)) (by kernel_rfl) (by kernel_rfl)
theorem list_eq : (Rows.laid_loop_example_g00292_impl_roundWords : DataW Unit) = Lib.tabData .u32 (kList.map nat) := by kernel_rfl
theorem k_len : kList.length = 64 := by decide

theorem tab_of {W : World} (h : laidMetH Tryd.prog laidList W) : KTab W ∧ 0 < W.heap.size := by
 rw [MakeChecks.laidMetH_plain _ _ _ (by kernel_rfl)] at h
 obtain ⟨ps, ⟨g0, t0, cs0, f0, p0, q0, hg0, ht0, hv0, hd0, _, _⟩, _, _⟩ := h
 obtain rfl := Option.some.inj (gTab.symm.trans hg0)
 obtain rfl := Option.some.inj (tTab.symm.trans ht0)
 have e : cs0.toList = (kList.map nat).map fun z => Value.int .u32 z := Lib.cells_of_tab Tryd.underlying137 Tryd.underlying103 cells1 cells64 (by rw [← list_eq]; exact hd0)
 have ht : KTab W := by
  intro i hi
  have hl := k_len
  rw [World.var?_cell hg0 hv0 i, ← Array.getElem?_toList, e, List.map_map, List.getElem?_map, List.getElem?_eq_getElem (by omega)]
  unfold kt
  rw [List.getD_eq_getElem?_getD, List.getElem?_eq_getElem (by omega)]
  rfl
 exact ⟨ht, World.block_lt_of_cell? W _ (ht 0 (by decide))⟩
end Go.Proofs.YtakfniknkejgpaaDoor.Hl

/- Appending bytes onto a slice of the call's own: a row of bytes, a text, a byte; in a plain region and in one that draws its order. Of no program. -/
namespace Go.Proofs.YtakfniknkejgpaaDoor.Ap
open Go.RowKit Go.Proofs.YtakfniknkejgpaaDoor.By Go.Proofs.YtakfniknkejgpaaDoor.Sl

def bys (s : ByteArray) : List Int := s.data.toList.map fun b => ((b.toNat : Nat) : Int)
theorem bys_length (s : ByteArray) : (bys s).length = s.size := by unfold bys; rw [List.length_map, Array.length_toList]; rfl
theorem bys_range (s : ByteArray) : ∀ x ∈ bys s, 0 ≤ x ∧ x ≤ 255 := by
 intro x hx
 unfold bys at hx
 obtain ⟨b, _, rfl⟩ := List.mem_map.1 hx
 have := b.toNat_lt
 omega
theorem str_cells (s : ByteArray) : Lib.strCells s = (bys s).map (Value.int .u8) := by unfold Lib.strCells bys; rw [List.map_map]; rfl

theorem addr_add (b off j : Nat) : (⟨b, off, none⟩ : Addr).add j = ⟨b, off + j, none⟩ := by unfold Addr.add; split <;> simp_all

theorem own_rowB {e : TypeId} {w : World} {B : Nat} {v : Value} {zs : List Int} (h : OwnB e w B v zs) (hr : ∀ z ∈ zs, 0 ≤ z ∧ z ≤ 255) : RowB w v zs := by
 obtain ⟨hl, h⟩ := h
 rcases h with ⟨rfl, h0⟩ | ⟨g, cap, cur, rfl, hb, hg, hnc, _, _, htk⟩
 ·exact ⟨none, 0, by rw [h0], .inl (List.length_eq_zero_iff.1 h0), hr⟩
 ·refine ⟨_, cap, rfl, ?_, hr⟩
  by_cases h0 : zs = []
  ·exact .inl h0
  ·refine .inr ⟨g, 0, rfl, hnc, (Array.getElem?_eq_some_iff.1 hg).1, fun i hi => ?_⟩
   have h1 : (cur.toList.take (zs.length * 1))[i]? = some (.int .u8 (nth zs i)) := by
    rw [htk, List.getElem?_map, List.getElem?_eq_getElem hi]
    unfold nth
    rw [List.getD_eq_getElem?_getD, List.getElem?_eq_getElem hi]
    rfl
   rw [List.getElem?_take_of_lt (by omega), Array.getElem?_toList] at h1
   simp [World.cell?, hg, h1]
theorem own_below {e : TypeId} {w w' : World} {B : Nat} {v : Value} {zs : List Int} (h : OwnB e w B v zs) (hb : Below w.heap.size w w') : OwnB e w' B v zs := by
 obtain ⟨hl, h⟩ := h
 refine ⟨hl, ?_⟩
 rcases h with h | ⟨g, cap, cur, rfl, h1, hg, h2⟩
 ·exact .inl h
 ·exact .inr ⟨g, cap, cur, rfl, h1, (hb.block g (Array.getElem?_eq_some_iff.1 hg).1).trans hg, h2⟩
theorem own_le {e : TypeId} {w : World} {B B' : Nat} {v : Value} {zs : List Int} (h : OwnB e w B v zs) (hb : B' ≤ B) : OwnB e w B' v zs := by
 obtain ⟨hl, h⟩ := h
 refine ⟨hl, ?_⟩
 rcases h with h | ⟨g, cap, cur, rfl, h1, hg, h2⟩
 ·exact .inl h
 ·exact .inr ⟨g, cap, cur, rfl, Nat.le_trans hb h1, hg, h2⟩
theorem own_lit (e : TypeId) (w : World) (B : Nat) (zs : List Int) (n : Nat) (hn : zs.length = n) (hb : B ≤ w.heap.size) (hm : n ≤ 1048576) : OwnB e (w.alloc (.cells (zs.map (Value.int .u8)).toArray e)) B (.slice (some ⟨w.heap.size, 0, none⟩) n n) zs := by
 subst hn
 have := World.ownsRow_lit (base := B) (e := e) (size := 1) w (zs.map (Value.int .u8)).toArray zs.length hb (by unfold maxLen; omega) (by simp)
 unfold OwnB
 simpa using this
theorem own_one (e : TypeId) (w : World) (B : Nat) (z : Int) (hb : B ≤ w.heap.size) : OwnB e (w.alloc (.cells #[.int .u8 z] e)) B (.slice (some ⟨w.heap.size, 0, none⟩) 1 1) [z] := own_lit e w B [z] 1 rfl hb (by decide)

structure Kp (w w' : World) (v v' : Value) : Prop where
 os : w'.os = w.os
 tape : w'.tape = w.tape
 output : w'.output = w.output
 size : w.heap.size ≤ w'.heap.size
 block : ∀ k, k < w.heap.size → some k ≠ v.ownBlock → w'.heap[k]? = w.heap[k]?
 away : ∀ k, k < w.heap.size → some k ≠ v.ownBlock → some k ≠ v'.ownBlock
theorem Kp.refl (w : World) (v : Value) : Kp w w v v := ⟨rfl, rfl, rfl, Nat.le_refl _, fun _ _ _ => rfl, fun _ _ h => h⟩
theorem Kp.trans {w w1 w2 : World} {v v1 v2 : Value} (h : Kp w w1 v v1) (g : Kp w1 w2 v1 v2) : Kp w w2 v v2 :=
 ⟨g.os.trans h.os, g.tape.trans h.tape, g.output.trans h.output, Nat.le_trans h.size g.size, fun k hk hn => (g.block k (Nat.lt_of_lt_of_le hk h.size) (h.away k hk hn)).trans (h.block k hk hn), fun k hk hn => g.away k (Nat.lt_of_lt_of_le hk h.size) (h.away k hk hn)⟩
theorem Kp.of_below {w w1 : World} (v : Value) (h : Below w.heap.size w w1) : Kp w w1 v v := ⟨h.os, h.tape, h.output, h.size, fun k hk _ => h.block k hk, fun _ _ h => h⟩
theorem Kp.alloc {w w1 : World} {v v1 : Value} (h : Kp w w1 v v1) (o : Obj) : Kp w (w1.alloc o) v v1 := h.trans (Kp.of_below _ ((Below.refl _ _).alloc (Nat.le_refl _) _))
theorem Kp.below {e : TypeId} {w w1 : World} {v v1 : Value} {B : Nat} {zs : List Int} (h : Kp w w1 v v1) (ho : OwnB e w B v zs) (hB : B ≤ w.heap.size) : Below B w w1 := by
 refine ⟨h.os, h.tape, h.output, h.size, fun k hk => h.block k (Nat.lt_of_lt_of_le hk hB) fun hn => ?_⟩
 unfold OwnB at ho
 have := (ho.lt k hn.symm).1
 omega
theorem Kp.nil {w w1 : World} {v1 : Value} (h : Kp w w1 (.slice none 0 0) v1) : Below w.heap.size w w1 := ⟨h.os, h.tape, h.output, h.size, fun k hk => h.block k hk (by simp [Value.ownBlock])⟩
theorem Kp.of_grown {w w' : World} {v v' : Value} (h : w.grownBy w' v.ownBlock) (ha : v'.ownBlock = v.ownBlock ∨ v'.ownBlock = some w.heap.size) : Kp w w' v v' :=
 ⟨h.os, h.tape, h.output, h.size, h.block, fun k hk hn => by rcases ha with ha | ha <;> rw [ha]; exact hn; simp; omega⟩

section
variable {P : Program} {e : TypeId} {i : TypeInfo}
theorem run_row (t ty : TypeId) (ht : P.underlying t = some (.slice e)) (hi : P.info? e = some i) (hz : i.zero = some (.int .u8 0)) (hsize : i.size = 1) (hby : i.bytes = 1)
 (B : Nat) (W : World) (v u : Value) (zs xs : List Int) (hown : OwnB e W B v zs) (hB : B ≤ W.heap.size) (hu : RowB W u xs) (hlen : zs.length + xs.length ≤ 140737488355328) :
 ∃ v' w', (Builtin.append_ #[t, t] ty #[v, u]).run P W = .ok v' w' ∧ OwnB e w' B v' (zs ++ xs) ∧ Kp W w' v v' := by
 obtain ⟨ad, cap, rfl, hc, _⟩ := hu
 have hown2 := hown
 unfold OwnB at hown2
 cases ad with
 | none =>
   obtain rfl : xs = [] := by
    rcases hc with h | ⟨_, _, h, _⟩
    ·exact h
    ·cases h
   refine ⟨v, W, ?_, by simpa using hown, Kp.refl _ _⟩
   rcases hown2.2 with ⟨rfl, _⟩ | ⟨g, c, cur, rfl, _, _, hn, _⟩
   ·exact run_append_nothing W t t ty e i ht hi none 0 0 (Nat.le_refl _) _ (Src.ofNil W ht cap)
   ·exact run_append_nothing W t t ty e i ht hi _ _ _ hn _ (Src.ofNil W ht cap)
 | some ad =>
   obtain ⟨v', w', h1, h2, h3, _, h5⟩ := run_append_own_at (P := P) W B t ty e i (.int .u8 0) 1 1 ht hi hz hsize hby rfl (by decide) v zs.length _ hown2 ad xs.length cap (xs.map (Value.int .u8)) (by simp)
    (by
      intro j y hy
      rcases hc with rfl | ⟨b, off, e1, _, hb, hcell⟩
      ·simp at hy
      ·cases e1
       have hj : j < xs.length := by have := (List.getElem?_eq_some_iff.1 hy).1; simpa using this
       rw [addr_add, hcell j hj, ← hy, List.getElem?_map, List.getElem?_eq_getElem hj]
       unfold nth
       rw [List.getD_eq_getElem?_getD, List.getElem?_eq_getElem hj]
       rfl)
    (by intro y hy; obtain ⟨z, _, rfl⟩ := List.mem_map.1 hy; rfl) (by unfold maxLen; omega) (by omega) hB
   exact ⟨v', w', h1, by unfold OwnB; simpa using h2, Kp.of_grown h3 h5⟩
theorem run_str (t tx ty : TypeId) (ht : P.underlying t = some (.slice e)) (htx : P.underlying tx = some .string) (hi : P.info? e = some i) (hz : i.zero = some (.int .u8 0)) (hsize : i.size = 1) (hby : i.bytes = 1)
 (B : Nat) (W : World) (v : Value) (s : ByteArray) (zs : List Int) (hown : OwnB e W B v zs) (hB : B ≤ W.heap.size) (hlen : zs.length + s.size ≤ 140737488355328) :
 ∃ v' w', (Builtin.append_ #[t, tx] ty #[v, .string s]).run P W = .ok v' w' ∧ OwnB e w' B v' (zs ++ bys s) ∧ Kp W w' v v' := by
 have hown2 := hown
 unfold OwnB at hown2
 obtain ⟨v', w', h1, h2, h3, _⟩ := Lib.run_append_own_string (P := P) W B t tx ty e i ht htx hi hz hsize hby v zs.length _ hown2 s (by unfold maxLen; omega) hlen hB
 have h4 : v'.ownBlock = v.ownBlock ∨ v'.ownBlock = some W.heap.size := by
  rcases hown2.2 with ⟨rfl, h0⟩ | ⟨g, cap, cur, rfl, hbg, hg, hnc, hcm, hcs, htake⟩
  ·by_cases hm : s.size = 0
   ·left
    have hs0 : s = ByteArray.empty := by
     obtain ⟨d⟩ := s
     have : d = #[] := Array.eq_empty_of_size_eq_zero hm
     rw [this]; rfl
    subst hs0
    have hr := run_append_nothing (P := P) W t tx ty e i ht hi none 0 0 (Nat.le_refl _) (.string ByteArray.empty) (by rw [hsize]; exact Src.ofString W htx ByteArray.empty)
    rw [hr] at h1
    cases h1
    rfl
   ·right
    have hr := run_append_nil_string (P := P) W t tx ty e i (.int .u8 0) ht htx hi hz s (by omega) (by omega) (by rw [hby]; omega)
    rw [hr] at h1
    cases h1
    rfl
  ·by_cases hroom : zs.length + s.size ≤ cap
   ·left
    have hr := Lib.run_append_room_string (P := P) W t tx ty e i ht htx hi hsize g zs.length cap cur hg s hroom (by omega)
    rw [hr] at h1
    cases h1
    rfl
   ·right
    have holds : ∀ j u, (zs.map (Value.int .u8))[j]? = some u → W.cell? ((⟨g, 0, none⟩ : Addr).add j) = some u := hown2.cells (g := g) rfl
    have hr := Lib.run_append_grow_string (P := P) W t tx ty e i (.int .u8 0) ht htx hi hz ⟨g, 0, none⟩ zs.length cap _ (by rw [hsize]; simp) holds s (by omega) (by omega) (by rw [hby]; exact growslice_fits (by omega) (by omega))
    rw [hr] at h1
    cases h1
    rfl
 refine ⟨v', w', h1, ?_, Kp.of_grown h3 h4⟩
 unfold OwnB
 rw [List.length_append, bys_length, List.map_append, ← str_cells]
 exact h2

theorem wp_app {o : Oper} {a : Act} {K : Act → World → Prop} {Q : Exit → Act → World → Prop} {W : World} {s x : Operand} {t tx : TypeId} {v u v' : Value} {w' : World}
 (ho : o.op = .call { callee := .builtin .append, args := #[s, x], argTypes := #[t, tx] }) (hs : a.eval s = v) (hx : a.eval x = u) (hr : (Builtin.append_ #[t, tx] o.type #[v, u]).run P W = .ok v' w') (h : K (a.put o.dst v') w') : Oper.wp P o a W K Q := by
 unfold Oper.wp execOp
 simp only [ho, resolve, invoke, builtin, Sem.run_bind, Sem.run_pure, Result.andThen_ok, List.map_toArray, List.map_cons, List.map_nil, hs, hx, hr]
 exact h
variable {ops : Array Oper} {rest : List Oper} {o : Oper} {a : Act} {K : Act → World → Prop} {Q : Exit → Act → World → Prop} {E : Prop}
theorem step_row (hgd : o.guard = none) (s x : Operand) (t : TypeId) (ho : o.op = .call { callee := .builtin .append, args := #[s, x], argTypes := #[t, t] }) (ht : P.underlying t = some (.slice e)) (hi : P.info? e = some i) (hz : i.zero = some (.int .u8 0))
 (hsize : i.size = 1) (hby : i.bytes = 1) (B : Nat) (W : World) (v u : Value) (zs xs : List Int) (hs : a.eval s = v) (hx : a.eval x = u) (hown : OwnB e W B v zs) (hB : B ≤ W.heap.size) (hu : RowB W u xs) (hlen : zs.length + xs.length ≤ 140737488355328)
 (h : ∀ v' w', OwnB e w' B v' (zs ++ xs) → Kp W w' v v' → K (a.put o.dst v') w') : if Region.wanted o (yielded ops a.tmps) = true then Oper.wp P o a W K Q else E := by
 have hw : Region.wanted o (yielded ops a.tmps) = true := by simp [Region.wanted, hgd]
 rw [if_pos hw]
 obtain ⟨v', w', hr, ho', hg⟩ := run_row (P := P) t o.type ht hi hz hsize hby B W v u zs xs hown hB hu hlen
 exact wp_app ho hs hx hr (h v' w' ho' hg)
theorem step_str (hgd : o.guard = none) (s x : Operand) (t tx : TypeId) (ho : o.op = .call { callee := .builtin .append, args := #[s, x], argTypes := #[t, tx] }) (ht : P.underlying t = some (.slice e)) (htx : P.underlying tx = some .string) (hi : P.info? e = some i) (hz : i.zero = some (.int .u8 0))
 (hsize : i.size = 1) (hby : i.bytes = 1) (B : Nat) (W : World) (v : Value) (st : ByteArray) (zs : List Int) (hs : a.eval s = v) (hx : a.eval x = .string st) (hown : OwnB e W B v zs) (hB : B ≤ W.heap.size) (hlen : zs.length + st.size ≤ 140737488355328)
 (h : ∀ v' w', OwnB e w' B v' (zs ++ bys st) → Kp W w' v v' → K (a.put o.dst v') w') : if Region.wanted o (yielded ops a.tmps) = true then Oper.wp P o a W K Q else E := by
 have hw : Region.wanted o (yielded ops a.tmps) = true := by simp [Region.wanted, hgd]
 rw [if_pos hw]
 obtain ⟨v', w', hr, ho', hg⟩ := run_str (P := P) t tx o.type ht htx hi hz hsize hby B W v st zs hown hB hlen
 exact wp_app ho hs hx hr (h v' w' ho' hg)
theorem list_row (hgd : o.guard = none) (s x : Operand) (t : TypeId) (ho : o.op = .call { callee := .builtin .append, args := #[s, x], argTypes := #[t, t] }) (ht : P.underlying t = some (.slice e)) (hi : P.info? e = some i) (hz : i.zero = some (.int .u8 0))
 (hsize : i.size = 1) (hby : i.bytes = 1) (B : Nat) (W : World) (v u : Value) (zs xs : List Int) (hs : a.eval s = v) (hx : a.eval x = u) (hown : OwnB e W B v zs) (hB : B ≤ W.heap.size) (hu : RowB W u xs) (hlen : zs.length + xs.length ≤ 140737488355328)
 (h : ∀ v' w', OwnB e w' B v' (zs ++ xs) → Kp W w' v v' → wpList P ops Q rest (a.put o.dst v') w') : wpList P ops Q (o :: rest) a W := by
 refine wpList_plain hgd fun K hK => ?_
 obtain ⟨v', w', hr, ho', hg⟩ := run_row (P := P) t o.type ht hi hz hsize hby B W v u zs xs hown hB hu hlen
 exact wp_app ho hs hx hr (hK _ _ (h v' w' ho' hg))
theorem list_str (hgd : o.guard = none) (s x : Operand) (t tx : TypeId) (ho : o.op = .call { callee := .builtin .append, args := #[s, x], argTypes := #[t, tx] }) (ht : P.underlying t = some (.slice e)) (htx : P.underlying tx = some .string) (hi : P.info? e = some i) (hz : i.zero = some (.int .u8 0))
 (hsize : i.size = 1) (hby : i.bytes = 1) (B : Nat) (W : World) (v : Value) (st : ByteArray) (zs : List Int) (hs : a.eval s = v) (hx : a.eval x = .string st) (hown : OwnB e W B v zs) (hB : B ≤ W.heap.size) (hlen : zs.length + st.size ≤ 140737488355328)
 (h : ∀ v' w', OwnB e w' B v' (zs ++ bys st) → Kp W w' v v' → wpList P ops Q rest (a.put o.dst v') w') : wpList P ops Q (o :: rest) a W := by
 refine wpList_plain hgd fun K hK => ?_
 obtain ⟨v', w', hr, ho', hg⟩ := run_str (P := P) t tx o.type ht htx hi hz hsize hby B W v st zs hown hB hlen
 exact wp_app ho hs hx hr (hK _ _ (h v' w' ho' hg))
theorem list_one (hgd : o.guard = none) (s x : Operand) (t : TypeId) (ho : o.op = .call { callee := .builtin .append, args := #[s, x], argTypes := #[t, t] }) (ht : P.underlying t = some (.slice e)) (hi : P.info? e = some i) (hz : i.zero = some (.int .u8 0))
 (hsize : i.size = 1) (hby : i.bytes = 1) (B : Nat) (W : World) (v : Value) (z : Int) (zs : List Int) (hs : a.eval s = v) (hx : a.eval x = .slice (some ⟨W.heap.size, 0, none⟩) 1 1) (hown : OwnB e W B v zs) (hB : B ≤ W.heap.size) (hz' : 0 ≤ z ∧ z ≤ 255) (hlen : zs.length + 1 ≤ 140737488355328)
 (h : ∀ v' w', OwnB e w' B v' (zs ++ [z]) → Kp W w' v v' → wpList P ops Q rest (a.put o.dst v') w') : wpList P ops Q (o :: rest) a (W.alloc (.cells #[.int .u8 z] e)) := by
 have h0 : OwnB e (W.alloc (.cells #[.int .u8 z] e)) B v zs := by unfold OwnB at hown ⊢; exact hown.alloc _
 refine list_row hgd s x t ho ht hi hz hsize hby B _ v _ zs [z] hs hx h0 (by simp; omega) (own_rowB (own_one e W W.heap.size z (Nat.le_refl _)) (by intro y hy; simp at hy; subst hy; exact hz')) hlen ?_
 intro v' w' h1 h2
 exact h v' w' h1 (((Kp.refl _ _).alloc _).trans h2)
end
theorem own_alloc {e : TypeId} {w : World} {B : Nat} {v : Value} {xs : List Int} (h : OwnB e w B v xs) (o : Obj) : OwnB e (w.alloc o) B v xs := own_below h ((Below.refl _ _).alloc (Nat.le_refl _) _)
theorem ordB {w0 w1 : World} {B : Nat} (hB : B = w0.heap.size) (b1 : Below w0.drew.heap.size w0.drew w1) : Below B w0 w1 ∧ B ≤ w1.heap.size := by
 subst hB
 have h0 : Below w0.heap.size w0 w0.drew := (Below.refl _ _).drew
 have h1 : Below w0.heap.size w0 w1 := h0.trans b1
 exact ⟨h1, h1.size⟩
theorem own_kp {e : TypeId} {w w' : World} {B' : Nat} {u v v' : Value} {xs : List Int} (h : OwnB e w B' u xs) (hk : Kp w w' v v') (hb : ∀ g, v.ownBlock = some g → g < B') : OwnB e w' B' u xs := by
 obtain ⟨hl, h⟩ := h
 refine ⟨hl, ?_⟩
 rcases h with h | ⟨g, cap, cur, rfl, h1, hg, h2⟩
 ·exact .inl h
 ·refine .inr ⟨g, cap, cur, rfl, h1, (hk.block g (Array.getElem?_eq_some_iff.1 hg).1 fun hn => ?_).trans hg, h2⟩
  have := hb g hn.symm
  omega
theorem own_lt {e : TypeId} {w : World} {B : Nat} {v : Value} {xs : List Int} (h : OwnB e w B v xs) : ∀ g, v.ownBlock = some g → g < w.heap.size := by
 intro g hg
 unfold OwnB at h
 exact (h.lt g hg).2
theorem one_range {z : Int} (h : 0 ≤ z ∧ z ≤ 255) : ∀ y ∈ [z], 0 ≤ y ∧ y ≤ 255 := by intro y hy; simp at hy; subst hy; exact h
theorem wrap_range (x : Int) : 0 ≤ IntKind.u8.wrap x ∧ IntKind.u8.wrap x ≤ 255 := by rw [IntKind.wrap_u8]; omega
theorem own_drew {e : TypeId} {w : World} {B : Nat} {v : Value} {xs : List Int} (h : OwnB e w B v xs) : OwnB e w.drew B v xs := h
theorem rowB_drew {w : World} {v : Value} {xs : List Int} (h : RowB w v xs) : RowB w.drew v xs := h
end Go.Proofs.YtakfniknkejgpaaDoor.Ap
