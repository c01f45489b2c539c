/- impl.mixBlock: a block taken into the registers. -/
import Derived.Test.YtiflfcpoajijaaaDoorShaW
namespace Go.Proofs.YtiflfcpoajijaaaDoor.Sh
open Go.RowKit Go.Proofs.YtiflfcpoajijaaaDoor.Sl Go.Proofs.YtiflfcpoajijaaaDoor.Me

def arr8 (r : R8) : Array Value := #[.int .u32 (nat r.a), .int .u32 (nat r.b), .int .u32 (nat r.c), .int .u32 (nat r.d), .int .u32 (nat r.e), .int .u32 (nat r.f), .int .u32 (nat r.g), .int .u32 (nat r.h)]
/-- The table of round words, as the walks ask it. -/
def KTab (w : World) : Prop := ∀ i, i < 64 → w.cell? ⟨0, i, none⟩ = some (.int .u32 (nat (kt i)))
theorem KTab.below {w w' : World} {B : Nat} (h : KTab w) (hb : Below B w w') (hB : 0 < B) : KTab w' := fun i hi => (hb.cell (p := ⟨0, i, none⟩) hB).trans (h i hi)
def z8 : Array Value := Array.replicate 8 (.int .u32 0)
theorem zero8 (w : World) : Sem.run Tryd.prog (zeroValue 86) w = .ok (.agg z8) w := by kernel_rfl
theorem info8 : (Tryd.prog.info? 86).map (·.size) = some 8 := by kernel_rfl

theorem arr8_one (r : R8) : (arr8 r).all (·.oneCell') = true := by simp [arr8, Value.oneCell']
theorem arr8_at (r : R8) (j : Nat) (h : j < 8) : (arr8 r)[j]? = some (.int .u32 (nat (at8 r j))) := by
  match j, h with
  | 0, _ => rfl
  | 1, _ => rfl
  | 2, _ => rfl
  | 3, _ => rfl
  | 4, _ => rfl
  | 5, _ => rfl
  | 6, _ => rfl
  | 7, _ => rfl
theorem at8_add (x y : R8) (j : Nat) (h : j < 8) : at8 x j + at8 y j = at8 (addR x y) j := by
  match j, h with
  | 0, _ => rfl
  | 1, _ => rfl
  | 2, _ => rfl
  | 3, _ => rfl
  | 4, _ => rfl
  | 5, _ => rfl
  | 6, _ => rfl
  | 7, _ => rfl
theorem arr8_size (r : R8) : (arr8 r).size = 8 := rfl
/-- The first k of the eight words are summed up. -/
def SumTo (x y : R8) (k : Nat) (W : Array Value) : Prop := W.size = 8 ∧ ∀ j, j < 8 → W[j]? = some (.int .u32 (nat (if j < k then at8 (addR x y) j else at8 x j)))
theorem sum_zero (x y : R8) : SumTo x y 0 (arr8 x) := ⟨rfl, fun j hj => by rw [if_neg (by omega)]; exact arr8_at x j hj⟩
theorem sum_step {x y : R8} {k : Nat} {W : Array Value} (h : SumTo x y k W) (hk : k < 8) : SumTo x y (k + 1) (W.setIfInBounds k (.int .u32 (nat (at8 x k + at8 y k)))) := by
  refine ⟨by rw [Array.size_setIfInBounds]; exact h.1, fun j hj => ?_⟩
  rw [Array.getElem?_setIfInBounds]
  by_cases e : k = j
  · subst e
    rw [if_pos rfl, if_pos (by rw [h.1]; exact hk), if_pos (by omega), at8_add x y k hk]
  · rw [if_neg e, h.2 j hj]
    by_cases g : j < k
    · rw [if_pos g, if_pos (by omega)]
    · rw [if_neg g, if_neg (by omega)]
theorem sum_all {x y : R8} {W : Array Value} (h : SumTo x y 8 W) : W = arr8 (addR x y) := by
  apply Array.ext_getElem?
  intro j
  by_cases hj : j < 8
  · rw [h.2 j hj, if_pos hj, arr8_at _ j hj]
  · rw [Array.getElem?_eq_none (by rw [h.1]; omega), Array.getElem?_eq_none (by rw [arr8_size]; omega)]
def tOr (r : R8) (k w : UInt32) : UInt32 := r.h + low r.e + (r.e &&& r.f ||| ~~~r.e &&& r.g) + k + w
theorem tOr_eq (r : R8) (k w : UInt32) : tOr r k w = tOf r k w := by unfold tOr tOf; rw [ch_or]
theorem arr8_rnd (r : R8) (t u : UInt32) : (((((((((arr8 r).setIfInBounds 7 (.int .u32 (nat r.g))).setIfInBounds 6 (.int .u32 (nat r.f))).setIfInBounds 5 (.int .u32 (nat r.e))).setIfInBounds 4 (.int .u32 (nat (r.d + t)))).setIfInBounds 3 (.int .u32 (nat r.c))).setIfInBounds 2 (.int .u32 (nat r.b))).setIfInBounds 1 (.int .u32 (nat r.a))).setIfInBounds 0 (.int .u32 (nat (t + u)))) = arr8 ⟨t + u, r.a, r.b, r.c, r.d + t, r.e, r.f, r.g⟩ := by simp [arr8]

/-- The eight stores of a round. -/
def eight (w : World) (g : Nat) (r : R8) (t u : UInt32) : World :=
  (((((((w.setCell ⟨g, 7, none⟩ (.int .u32 (nat r.g))).setCell ⟨g, 6, none⟩ (.int .u32 (nat r.f))).setCell ⟨g, 5, none⟩ (.int .u32 (nat r.e))).setCell ⟨g, 4, none⟩ (.int .u32 (nat (r.d + t)))).setCell ⟨g, 3, none⟩ (.int .u32 (nat r.c))).setCell ⟨g, 2, none⟩ (.int .u32 (nat r.b))).setCell ⟨g, 1, none⟩ (.int .u32 (nat r.a))).setCell ⟨g, 0, none⟩ (.int .u32 (nat (t + u)))
theorem eight_same {w : World} {g : Nat} {T : TypeId} {r : R8} (h : ArrAt w g T (arr8 r)) (t u : UInt32) : ArrAt (eight w g r t u) g T (arr8 ⟨t + u, r.a, r.b, r.c, r.d + t, r.e, r.f, r.g⟩) := by
  rw [← arr8_rnd]
  exact (((((((h.setCell_same 7 _).setCell_same 6 _).setCell_same 5 _).setCell_same 4 _).setCell_same 3 _).setCell_same 2 _).setCell_same 1 _).setCell_same 0 _
theorem eight_other {w : World} {g g' : Nat} {T : TypeId} {A : Array Value} (h : ArrAt w g' T A) (hne : g' ≠ g) (r : R8) (t u : UInt32) : ArrAt (eight w g r t u) g' T A :=
  (((((((h.setCell_other (a := ⟨g, 7, none⟩) hne _).setCell_other (a := ⟨g, 6, none⟩) hne _).setCell_other (a := ⟨g, 5, none⟩) hne _).setCell_other (a := ⟨g, 4, none⟩) hne _).setCell_other (a := ⟨g, 3, none⟩) hne _).setCell_other (a := ⟨g, 2, none⟩) hne _).setCell_other (a := ⟨g, 1, none⟩) hne _).setCell_other (a := ⟨g, 0, none⟩) hne _
theorem eight_below {w w' : World} {B g : Nat} (h : Below B w w') (hg : B ≤ g) (r : R8) (t u : UInt32) : Below B w (eight w' g r t u) :=
  (((((((h.setCell (p := ⟨g, 7, none⟩) hg _).setCell (p := ⟨g, 6, none⟩) hg _).setCell (p := ⟨g, 5, none⟩) hg _).setCell (p := ⟨g, 4, none⟩) hg _).setCell (p := ⟨g, 3, none⟩) hg _).setCell (p := ⟨g, 2, none⟩) hg _).setCell (p := ⟨g, 1, none⟩) hg _).setCell (p := ⟨g, 0, none⟩) hg _

set_option maxRecDepth 100000 in
set_option maxHeartbeats 1600000 in
theorem mixBlock_any (x : R8) (A : Array Value) (xs : List Int) (w : World) (hW : WordsTo xs 64 A) (hK : KTab w) (hp : 0 < w.heap.size) :
    Calls Tryd.prog 37 #[.agg (arr8 x), .agg A] w fun e w' => e = .returned (.agg (arr8 (blk x xs))) ∧ Below w.heap.size w w' := by
  have hz : ∀ w, Sem.run Tryd.prog (zeroValue 86) w = .ok (.agg z8) w := zero8
  have H0 : ArrAt (((w.alloc (.cells (arr8 x) 86)).alloc (.cells A 89)).alloc (.cells z8 86)) w.heap.size 86 (arr8 x) := ((arrAt_new w _ _).alloc _).alloc _
  have H1 : ArrAt (((w.alloc (.cells (arr8 x) 86)).alloc (.cells A 89)).alloc (.cells z8 86)) (w.heap.size + 1) 89 A := by
    have := (arrAt_new (w.alloc (.cells (arr8 x) 86)) 89 A).alloc (.cells z8 86)
    simpa using this
  have H2 : ArrAt (((w.alloc (.cells (arr8 x) 86)).alloc (.cells A 89)).alloc (.cells z8 86)) (w.heap.size + 1 + 1) 86 z8 := by
    have := arrAt_new ((w.alloc (.cells (arr8 x) 86)).alloc (.cells A 89)) 86 z8
    simpa using this
  have B0 : Below w.heap.size w (((w.alloc (.cells (arr8 x) 86)).alloc (.cells A 89)).alloc (.cells z8 86)) := (((Below.refl _ _).alloc (Nat.le_refl _) _).alloc (by simp) _).alloc (by simp; omega) _
  have S0 : (((w.alloc (.cells (arr8 x) 86)).alloc (.cells A 89)).alloc (.cells z8 86)).heap.size = w.heap.size + 1 + 1 + 1 := by simp
  have G0 : Hid _ := H0
  have G1 : Hid _ := H1
  have G2 : Hid _ := H2
  have GB : Hid _ := B0
  have GS : Hid _ := S0
  have I8 : Hid _ := info8
  have GK : Hid (KTab w) := hK
  have GW : Hid (WordsTo xs 64 A) := hW
  clear H0 H1 H2 B0 S0 hK hW
  go_enter Tryd.func37, Tryd.ntmps37
  go_wp2_with (first | (refine wpList_load_row (by rfl) 86 _ (by rfl) w.heap.size (by rfl) 86 (arr8 x) (0, 0) _ G0.out Tryd.underlying86 rfl I8.out ?_) | (refine wpList_store_row (by rfl) 86 _ _ (by rfl) (w.heap.size + 1 + 1 + 1) (arr8 x) (by rfl) (by rfl) 86 z8 (by rw [← GS.out]; exact arrAt_new _ _ _) I8.out rfl (arr8_one x) ?_))
  go_loopw [11] (fun i wr => ∃ k : Nat, k ≤ 64 ∧ i = .int .i64 k ∧ Below w.heap.size w wr ∧ ArrAt wr w.heap.size 86 (arr8 x) ∧ ArrAt wr (w.heap.size + 1) 89 A ∧ ArrAt wr (w.heap.size + 1 + 1) 86 z8 ∧ ArrAt wr (w.heap.size + 1 + 1 + 1) 86 (arr8 (rndTo kt (wt xs) x k))) (fun i _ => 64 - (intOf i).toNat)
  case atStart =>
    refine ⟨0, by omega, rfl, below_setRow (GB.out.alloc (by rw [GS.out]; omega) _) (by omega) _, ?_, ?_, ?_, ?_⟩
    · exact (ArrAt.alloc (show ArrAt _ _ _ _ from G0.out) _).setRow_other (by omega) _
    · exact (ArrAt.alloc (show ArrAt _ _ _ _ from G1.out) _).setRow_other (by omega) _
    · exact (ArrAt.alloc (show ArrAt _ _ _ _ from G2.out) _).setRow_other (by omega) _
    · exact ArrAt.setRow_same (A := z8) (by rw [← GS.out]; exact arrAt_new _ _ _) _
  case round =>
    clear G0 G1 G2 GB GS
    obtain ⟨k, hk, rfl, hbel, hX, hA, hZ, hR⟩ := hrel
    by_cases hlt : k < 64
    · have HS : Hid (rndTo kt (wt xs) x (k + 1) = rnd (rndTo kt (wt xs) x k) (kt k) (wt xs k)) := rfl
      generalize rndTo kt (wt xs) x k = r at hR HS
      have ck := (GK.out.below hbel hp) k hlt
      have cw : wr.cell? ⟨w.heap.size + 1, k, none⟩ = some (.int .u32 (nat (wt xs k))) := (hA.cell k).trans (GW.out.2 k hlt)
      have c0 := (hR.cell 0).trans (arr8_at r 0 (by decide))
      have c1 := (hR.cell 1).trans (arr8_at r 1 (by decide))
      have c2 := (hR.cell 2).trans (arr8_at r 2 (by decide))
      have c4 := (hR.cell 4).trans (arr8_at r 4 (by decide))
      have c5 := (hR.cell 5).trans (arr8_at r 5 (by decide))
      have c6 := (hR.cell 6).trans (arr8_at r 6 (by decide))
      have c7 := (hR.cell 7).trans (arr8_at r 7 (by decide))
      simp only [at8] at c0 c1 c2 c4 c5 c6 c7
      have q0 : (0 : Int) ≤ (k : Int) := by omega
      have q1 : (k : Int) < 64 := by omega
      have had := nat_add
      have han := nat_and
      have hor := nat_or
      have hxr := nat_xor
      have hno : ∀ y : UInt32, bits .xor .u32 (if IntKind.u32.signed = true then -1 else IntKind.u32.max) (nat y) = nat (~~~y) := nat_not
      go_wp2_with fail
      go_quiet ((go_at_call 43; exact Calls.quiet_of_same (mixLower_any _ _)))
      have hbq := below_drewN hbel nq
      have hXq := hX.drewN nq
      have hAq := hA.drewN nq
      have hZq := hZ.drewN nq
      have hRq := hR.drewN nq
      clear ck cw c0 c1 c2 c4 c5 c6 c7 hbel hX hA hZ hR
      generalize wr.drewN nq = wq at hbq hXq hAq hZq hRq ⊢
      have c0 := (hRq.cell 0).trans (arr8_at r 0 (by decide))
      have c1 := (hRq.cell 1).trans (arr8_at r 1 (by decide))
      have c2 := (hRq.cell 2).trans (arr8_at r 2 (by decide))
      simp only [at8] at c0 c1 c2
      go_wp2_with fail
      go_quiet ((go_at_call 44; exact Calls.quiet_of_same (mixUpper_any _ _)))
      have hbp := below_drewN hbq nq
      have hXp := hXq.drewN nq
      have hAp := hAq.drewN nq
      have hZp := hZq.drewN nq
      have hRp := hRq.drewN nq
      clear c0 c1 c2 hbq hXq hAq hZq hRq
      generalize wq.drewN nq = wp at hbp hXp hAp hZp hRp ⊢
      have c0 := (hRp.cell 0).trans (arr8_at r 0 (by decide))
      have c1 := (hRp.cell 1).trans (arr8_at r 1 (by decide))
      have c2 := (hRp.cell 2).trans (arr8_at r 2 (by decide))
      have c3 := (hRp.cell 3).trans (arr8_at r 3 (by decide))
      have c4 := (hRp.cell 4).trans (arr8_at r 4 (by decide))
      have c5 := (hRp.cell 5).trans (arr8_at r 5 (by decide))
      have c6 := (hRp.cell 6).trans (arr8_at r 6 (by decide))
      have c7 := (hRp.cell 7).trans (arr8_at r 7 (by decide))
      simp only [at8] at c0 c1 c2 c3 c4 c5 c6 c7
      have f0 := hRp.frozen 0
      have f1 := hRp.frozen 1
      have f2 := hRp.frozen 2
      have f3 := hRp.frozen 3
      have f4 := hRp.frozen 4
      have f5 := hRp.frozen 5
      have f6 := hRp.frozen 6
      have f7 := hRp.frozen 7
      clear han hor hxr hno
      have e1 := eight_below hbp (g := w.heap.size + 1 + 1 + 1) (by omega) r (tOr r (kt k) (wt xs k)) (uOf r)
      have e2 := eight_other hXp (g := w.heap.size + 1 + 1 + 1) (by omega) r (tOr r (kt k) (wt xs k)) (uOf r)
      have e3 := eight_other hAp (g := w.heap.size + 1 + 1 + 1) (by omega) r (tOr r (kt k) (wt xs k)) (uOf r)
      have e4 := eight_other hZp (g := w.heap.size + 1 + 1 + 1) (by omega) r (tOr r (kt k) (wt xs k)) (uOf r)
      have e5 := eight_same hRp (tOr r (kt k) (wt xs k)) (uOf r)
      have e6 : (⟨tOr r (kt k) (wt xs k) + uOf r, r.a, r.b, r.c, r.d + tOr r (kt k) (wt xs k), r.e, r.f, r.g⟩ : R8) = rndTo kt (wt xs) x (k + 1) := by rw [HS.out, tOr_eq]; rfl
      rw [e6] at e5
      have E1 : Hid (Below w.heap.size w (eight wp (w.heap.size + 1 + 1 + 1) r (tOr r (kt k) (wt xs k)) (uOf r))) := e1
      clear e1 e6
      go_wp2_with fail
      exact ⟨⟨k + 1, by omega, by go_num, E1.out, e2, e3, e4, e5⟩, by simp [intOf]; omega⟩
    · obtain rfl : k = 64 := by omega
      go_wp2_with fail
      go_loopw [90] (fun i wr => ∃ k : Nat, ∃ W : Array Value, k ≤ 8 ∧ i = .int .i64 k ∧ Below w.heap.size w wr ∧ ArrAt wr w.heap.size 86 W ∧ ArrAt wr (w.heap.size + 1 + 1) 86 z8 ∧ ArrAt wr (w.heap.size + 1 + 1 + 1) 86 (arr8 (rndTo kt (wt xs) x 64)) ∧ SumTo x (rndTo kt (wt xs) x 64) k W) (fun i _ => 8 - (intOf i).toNat)
      case atStart => exact ⟨0, arr8 x, by omega, rfl, hbel, hX, hZ, hR, sum_zero _ _⟩
      case round =>
        clear hbel hX hA hZ hR
        obtain ⟨k, W, hk, rfl, hbel, hX, hZ, hR, hS⟩ := hrel
        have HB : Hid (blk x xs = addR x (rndTo kt (wt xs) x 64)) := rfl
        generalize rndTo kt (wt xs) x 64 = r at hR hS HB
        by_cases hlt : k < 8
        · have cx : wr.cell? ⟨w.heap.size, k, none⟩ = some (.int .u32 (nat (at8 x k))) := (hX.cell k).trans (by rw [hS.2 k hlt, if_neg (by omega)])
          have cr : wr.cell? ⟨w.heap.size + 1 + 1 + 1, k, none⟩ = some (.int .u32 (nat (at8 r k))) := (hR.cell k).trans (arr8_at r k hlt)
          have fx := hX.frozen k
          have had := nat_add
          have q0 : (0 : Int) ≤ (k : Int) := by omega
          have q1 : (k : Int) < 8 := by omega
          have e1 := (hbel.setCell (p := ⟨w.heap.size, k, none⟩) (Nat.le_refl _) (.int .u32 (nat (at8 x k + at8 r k)))).drew
          have e2 := (hX.setCell_same k (.int .u32 (nat (at8 x k + at8 r k)))).drew
          have e3 := (hZ.setCell_other (a := ⟨w.heap.size, k, none⟩) (by simp; omega) (.int .u32 (nat (at8 x k + at8 r k)))).drew
          have e4 := (hR.setCell_other (a := ⟨w.heap.size, k, none⟩) (by simp; omega) (.int .u32 (nat (at8 x k + at8 r k)))).drew
          have e5 := sum_step hS hlt
          go_wp2_with fail
          go_region
          clear had
          go_wp2
          go_roundw
          case rel => exact ⟨k + 1, _, by omega, by go_num, e1, e2, e3, e4, e5⟩
          case measure => simp [intOf]; omega
        · obtain rfl : k = 8 := by omega
          have hWe := sum_all hS
          subst hWe
          rw [← HB.out] at hX
          have J8 : Hid ((Tryd.prog.info? 86).map (·.size) = some (arr8 (blk x xs)).size) := by show _ = some (arr8 (blk x xs)).size; rw [arr8_size]; exact I8.out
          have JZ : Hid (z8.size = (arr8 (blk x xs)).size) := by show z8.size = (arr8 (blk x xs)).size; rw [arr8_size]; unfold z8; simp
          have J1 : Hid _ := arr8_one (blk x xs)
          have JR := hZ.setRow_same (arr8 (blk x xs))
          have JB := below_setRow hbel (show w.heap.size ≤ w.heap.size + 1 + 1 by omega) (arr8 (blk x xs))
          clear hS
          generalize hY : arr8 (blk x xs) = Y at hX J8 JZ J1 JR JB
          have HY : Hid (arr8 (blk x xs) = Y) := hY
          clear hY
          go_wp2_with (first | (refine wpList_load_row (by rfl) 86 _ (by rfl) w.heap.size (by rfl) 86 Y (0, 0) _ hX Tryd.underlying86 rfl J8.out ?_) | (refine wpList_store_row (by rfl) 86 _ _ (by rfl) (w.heap.size + 1 + 1) Y (by rfl) (by rfl) 86 z8 hZ J8.out JZ.out J1.out ?_))
          exact bodyPost_ret (v := .agg Y) (results_cell_row Tryd.results37 _ _ (w.heap.size + 1 + 1) 86 _ (0, 0) _ (by rfl) JR Tryd.underlying86 rfl J8.out) (by rfl) ⟨by rw [HY.out], JB⟩
end Go.Proofs.YtiflfcpoajijaaaDoor.Sh
