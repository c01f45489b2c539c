/- Texts put together: ShaX, ShaP, ShaH. -/
import Derived.Test.YtondmbeccpekiaaGreatDoorH10
import Derived.Laws.CopyOwn
import Derived.Laws.MakeOwn
import Derived.Laws.BytesArg
import Derived.Lib.SlBytesRow
/- impl.mixBlock: a block taken into the registers. -/
namespace Go.Proofs.YtondmbeccpekiaaGreatDoor.Sh
open Go.RowKit Go.Proofs.YtondmbeccpekiaaGreatDoor.Sl Go.Proofs.YtondmbeccpekiaaGreatDoor.Me

def arr8 (r : R8) : Array Value := #[.int .u32 (nat r.a), .int .u32 (nat r.b), .int .u32 (nat r.c), .int .u32 (nat r.d), .int .u32 (nat r.e), .int .u32 (nat r.f), .int .u32 (nat r.g), .int .u32 (nat r.h)]
def KTab (w : World) : Prop := ∀ i, i < 64 → w.cell? ⟨0, i, none⟩ = some (.int .u32 (nat (kt i)))
theorem KTab.below {w w' : World} {B : Nat} (h : KTab w) (hb : Below B w w') (hB : 0 < B) : KTab w' := fun i hi => (hb.cell (p := ⟨0, i, none⟩) hB).trans (h i hi)
def z8 : Array Value := Array.replicate 8 (.int .u32 0)
theorem zero8 (w : World) : Sem.run Tryz.prog (zeroValue 204) w = .ok (.agg z8) w := by kernel_rfl
theorem info8 : (Tryz.prog.info? 204).map (·.size) = some 8 := by kernel_rfl

theorem arr8_one (r : R8) : (arr8 r).all (·.oneCell') = true := by simp [arr8, Value.oneCell']
theorem arr8_at (r : R8) (j : Nat) (h : j < 8) : (arr8 r)[j]? = some (.int .u32 (nat (at8 r j))) := by
  match j, h with
  | 0, _ => rfl
  | 1, _ => rfl
  | 2, _ => rfl
  | 3, _ => rfl
  | 4, _ => rfl
  | 5, _ => rfl
  | 6, _ => rfl
  | 7, _ => rfl
theorem at8_add (x y : R8) (j : Nat) (h : j < 8) : at8 x j + at8 y j = at8 (addR x y) j := by
  match j, h with
  | 0, _ => rfl
  | 1, _ => rfl
  | 2, _ => rfl
  | 3, _ => rfl
  | 4, _ => rfl
  | 5, _ => rfl
  | 6, _ => rfl
  | 7, _ => rfl
theorem arr8_size (r : R8) : (arr8 r).size = 8 := rfl
def SumTo (x y : R8) (k : Nat) (W : Array Value) : Prop := W.size = 8 ∧ ∀ j, j < 8 → W[j]? = some (.int .u32 (nat (if j < k then at8 (addR x y) j else at8 x j)))
theorem sum_zero (x y : R8) : SumTo x y 0 (arr8 x) := ⟨rfl, fun j hj => by rw [if_neg (by omega)]; exact arr8_at x j hj⟩
theorem sum_step {x y : R8} {k : Nat} {W : Array Value} (h : SumTo x y k W) (hk : k < 8) : SumTo x y (k + 1) (W.setIfInBounds k (.int .u32 (nat (at8 x k + at8 y k)))) := by
  refine ⟨by rw [Array.size_setIfInBounds]; exact h.1, fun j hj => ?_⟩
  rw [Array.getElem?_setIfInBounds]
  by_cases e : k = j
  · subst e
    rw [if_pos rfl, if_pos (by rw [h.1]; exact hk), if_pos (by omega), at8_add x y k hk]
  · rw [if_neg e, h.2 j hj]
    by_cases g : j < k
    · rw [if_pos g, if_pos (by omega)]
    · rw [if_neg g, if_neg (by omega)]
theorem sum_all {x y : R8} {W : Array Value} (h : SumTo x y 8 W) : W = arr8 (addR x y) := by
  apply Array.ext_getElem?
  intro j
  by_cases hj : j < 8
  · rw [h.2 j hj, if_pos hj, arr8_at _ j hj]
  · rw [Array.getElem?_eq_none (by rw [h.1]; omega), Array.getElem?_eq_none (by rw [arr8_size]; omega)]
def tOr (r : R8) (k w : UInt32) : UInt32 := r.h + low r.e + (r.e &&& r.f ||| ~~~r.e &&& r.g) + k + w
theorem tOr_eq (r : R8) (k w : UInt32) : tOr r k w = tOf r k w := by unfold tOr tOf; rw [ch_or]
theorem arr8_rnd (r : R8) (t u : UInt32) : (((((((((arr8 r).setIfInBounds 7 (.int .u32 (nat r.g))).setIfInBounds 6 (.int .u32 (nat r.f))).setIfInBounds 5 (.int .u32 (nat r.e))).setIfInBounds 4 (.int .u32 (nat (r.d + t)))).setIfInBounds 3 (.int .u32 (nat r.c))).setIfInBounds 2 (.int .u32 (nat r.b))).setIfInBounds 1 (.int .u32 (nat r.a))).setIfInBounds 0 (.int .u32 (nat (t + u)))) = arr8 ⟨t + u, r.a, r.b, r.c, r.d + t, r.e, r.f, r.g⟩ := by simp [arr8]

def eight (w : World) (g : Nat) (r : R8) (t u : UInt32) : World :=
  (((((((w.setCell ⟨g, 7, none⟩ (.int .u32 (nat r.g))).setCell ⟨g, 6, none⟩ (.int .u32 (nat r.f))).setCell ⟨g, 5, none⟩ (.int .u32 (nat r.e))).setCell ⟨g, 4, none⟩ (.int .u32 (nat (r.d + t)))).setCell ⟨g, 3, none⟩ (.int .u32 (nat r.c))).setCell ⟨g, 2, none⟩ (.int .u32 (nat r.b))).setCell ⟨g, 1, none⟩ (.int .u32 (nat r.a))).setCell ⟨g, 0, none⟩ (.int .u32 (nat (t + u)))
theorem eight_same {w : World} {g : Nat} {T : TypeId} {r : R8} (h : ArrAt w g T (arr8 r)) (t u : UInt32) : ArrAt (eight w g r t u) g T (arr8 ⟨t + u, r.a, r.b, r.c, r.d + t, r.e, r.f, r.g⟩) := by
  rw [← arr8_rnd]
  exact (((((((h.setCell_same 7 _).setCell_same 6 _).setCell_same 5 _).setCell_same 4 _).setCell_same 3 _).setCell_same 2 _).setCell_same 1 _).setCell_same 0 _
theorem eight_other {w : World} {g g' : Nat} {T : TypeId} {A : Array Value} (h : ArrAt w g' T A) (hne : g' ≠ g) (r : R8) (t u : UInt32) : ArrAt (eight w g r t u) g' T A :=
  (((((((h.setCell_other (a := ⟨g, 7, none⟩) hne _).setCell_other (a := ⟨g, 6, none⟩) hne _).setCell_other (a := ⟨g, 5, none⟩) hne _).setCell_other (a := ⟨g, 4, none⟩) hne _).setCell_other (a := ⟨g, 3, none⟩) hne _).setCell_other (a := ⟨g, 2, none⟩) hne _).setCell_other (a := ⟨g, 1, none⟩) hne _).setCell_other (a := ⟨g, 0, none⟩) hne _
theorem eight_below {w w' : World} {B g : Nat} (h : Below B w w') (hg : B ≤ g) (r : R8) (t u : UInt32) : Below B w (eight w' g r t u) :=
  (((((((h.setCell (p := ⟨g, 7, none⟩) hg _).setCell (p := ⟨g, 6, none⟩) hg _).setCell (p := ⟨g, 5, none⟩) hg _).setCell (p := ⟨g, 4, none⟩) hg _).setCell (p := ⟨g, 3, none⟩) hg _).setCell (p := ⟨g, 2, none⟩) hg _).setCell (p := ⟨g, 1, none⟩) hg _).setCell (p := ⟨g, 0, none⟩) hg _

set_option maxRecDepth 100000 in
set_option maxHeartbeats 1600000 in
theorem mixBlock_any (x : R8) (A : Array Value) (xs : List Int) (w : World) (hW : WordsTo xs 64 A) (hK : KTab w) (hp : 0 < w.heap.size) :
    Calls Tryz.prog 154 #[.agg (arr8 x), .agg A] w fun e w' => e = .returned (.agg (arr8 (blk x xs))) ∧ Below w.heap.size w w' := by
  have hz : ∀ w, Sem.run Tryz.prog (zeroValue 204) w = .ok (.agg z8) w := zero8
  have H0 : ArrAt (((w.alloc (.cells (arr8 x) 204)).alloc (.cells A 207)).alloc (.cells z8 204)) w.heap.size 204 (arr8 x) := ((arrAt_new w _ _).alloc _).alloc _
  have H1 : ArrAt (((w.alloc (.cells (arr8 x) 204)).alloc (.cells A 207)).alloc (.cells z8 204)) (w.heap.size + 1) 207 A := by
    have := (arrAt_new (w.alloc (.cells (arr8 x) 204)) 207 A).alloc (.cells z8 204)
    simpa using this
  have H2 : ArrAt (((w.alloc (.cells (arr8 x) 204)).alloc (.cells A 207)).alloc (.cells z8 204)) (w.heap.size + 1 + 1) 204 z8 := by
    have := arrAt_new ((w.alloc (.cells (arr8 x) 204)).alloc (.cells A 207)) 204 z8
    simpa using this
  have B0 : Below w.heap.size w (((w.alloc (.cells (arr8 x) 204)).alloc (.cells A 207)).alloc (.cells z8 204)) := (((Below.refl _ _).alloc (Nat.le_refl _) _).alloc (by simp) _).alloc (by simp; omega) _
  have S0 : (((w.alloc (.cells (arr8 x) 204)).alloc (.cells A 207)).alloc (.cells z8 204)).heap.size = w.heap.size + 1 + 1 + 1 := by simp
  have G0 : Hid _ := H0
  have G1 : Hid _ := H1
  have G2 : Hid _ := H2
  have GB : Hid _ := B0
  have GS : Hid _ := S0
  have I8 : Hid _ := info8
  have GK : Hid (KTab w) := hK
  have GW : Hid (WordsTo xs 64 A) := hW
  clear H0 H1 H2 B0 S0 hK hW
  go_enter Tryz.func154, Tryz.ntmps154
  go_wp2_with (first | (refine wpList_load_row (by rfl) 204 _ (by rfl) w.heap.size (by rfl) 204 (arr8 x) (0, 0) _ G0.out Tryz.underlying204 rfl I8.out ?_) | (refine wpList_store_row (by rfl) 204 _ _ (by rfl) (w.heap.size + 1 + 1 + 1) (arr8 x) (by rfl) (by rfl) 204 z8 (by rw [← GS.out]; exact arrAt_new _ _ _) I8.out rfl (arr8_one x) ?_))
  go_loopw [11] (fun i wr => ∃ k : Nat, k ≤ 64 ∧ i = .int .i64 k ∧ Below w.heap.size w wr ∧ ArrAt wr w.heap.size 204 (arr8 x) ∧ ArrAt wr (w.heap.size + 1) 207 A ∧ ArrAt wr (w.heap.size + 1 + 1) 204 z8 ∧ ArrAt wr (w.heap.size + 1 + 1 + 1) 204 (arr8 (rndTo kt (wt xs) x k))) (fun i _ => 64 - (intOf i).toNat)
  case atStart =>
    refine ⟨0, by omega, rfl, below_setRow (GB.out.alloc (by rw [GS.out]; omega) _) (by omega) _, ?_, ?_, ?_, ?_⟩
    · exact (ArrAt.alloc (show ArrAt _ _ _ _ from G0.out) _).setRow_other (by omega) _
    · exact (ArrAt.alloc (show ArrAt _ _ _ _ from G1.out) _).setRow_other (by omega) _
    · exact (ArrAt.alloc (show ArrAt _ _ _ _ from G2.out) _).setRow_other (by omega) _
    · exact ArrAt.setRow_same (A := z8) (by rw [← GS.out]; exact arrAt_new _ _ _) _
  case round =>
    clear G0 G1 G2 GB GS
    obtain ⟨k, hk, rfl, hbel, hX, hA, hZ, hR⟩ := hrel
    by_cases hlt : k < 64
    · have HS : Hid (rndTo kt (wt xs) x (k + 1) = rnd (rndTo kt (wt xs) x k) (kt k) (wt xs k)) := rfl
      generalize rndTo kt (wt xs) x k = r at hR HS
      have ck := (GK.out.below hbel hp) k hlt
      have cw : wr.cell? ⟨w.heap.size + 1, k, none⟩ = some (.int .u32 (nat (wt xs k))) := (hA.cell k).trans (GW.out.2 k hlt)
      have c0 := (hR.cell 0).trans (arr8_at r 0 (by decide))
      have c1 := (hR.cell 1).trans (arr8_at r 1 (by decide))
      have c2 := (hR.cell 2).trans (arr8_at r 2 (by decide))
      have c4 := (hR.cell 4).trans (arr8_at r 4 (by decide))
      have c5 := (hR.cell 5).trans (arr8_at r 5 (by decide))
      have c6 := (hR.cell 6).trans (arr8_at r 6 (by decide))
      have c7 := (hR.cell 7).trans (arr8_at r 7 (by decide))
      simp only [at8] at c0 c1 c2 c4 c5 c6 c7
      have q0 : (0 : Int) ≤ (k : Int) := by omega
      have q1 : (k : Int) < 64 := by omega
      have had := nat_add
      have han := nat_and
      have hor := nat_or
      have hxr := nat_xor
      have hno : ∀ y : UInt32, bits .xor .u32 (if IntKind.u32.signed = true then -1 else IntKind.u32.max) (nat y) = nat (~~~y) := nat_not
      go_wp2_with fail
      go_quiet ((go_at_call 170; exact Calls.quiet_of_same (mixLower_any _ _)))
      have hbq := below_drewN hbel nq
      have hXq := hX.drewN nq
      have hAq := hA.drewN nq
      have hZq := hZ.drewN nq
      have hRq := hR.drewN nq
      clear ck cw c0 c1 c2 c4 c5 c6 c7 hbel hX hA hZ hR
      generalize wr.drewN nq = wq at hbq hXq hAq hZq hRq ⊢
      have c0 := (hRq.cell 0).trans (arr8_at r 0 (by decide))
      have c1 := (hRq.cell 1).trans (arr8_at r 1 (by decide))
      have c2 := (hRq.cell 2).trans (arr8_at r 2 (by decide))
      simp only [at8] at c0 c1 c2
      go_wp2_with fail
      go_quiet ((go_at_call 171; exact Calls.quiet_of_same (mixUpper_any _ _)))
      have hbp := below_drewN hbq nq
      have hXp := hXq.drewN nq
      have hAp := hAq.drewN nq
      have hZp := hZq.drewN nq
      have hRp := hRq.drewN nq
      clear c0 c1 c2 hbq hXq hAq hZq hRq
      generalize wq.drewN nq = wp at hbp hXp hAp hZp hRp ⊢
      have c0 := (hRp.cell 0).trans (arr8_at r 0 (by decide))
      have c1 := (hRp.cell 1).trans (arr8_at r 1 (by decide))
      have c2 := (hRp.cell 2).trans (arr8_at r 2 (by decide))
      have c3 := (hRp.cell 3).trans (arr8_at r 3 (by decide))
      have c4 := (hRp.cell 4).trans (arr8_at r 4 (by decide))
      have c5 := (hRp.cell 5).trans (arr8_at r 5 (by decide))
      have c6 := (hRp.cell 6).trans (arr8_at r 6 (by decide))
      have c7 := (hRp.cell 7).trans (arr8_at r 7 (by decide))
      simp only [at8] at c0 c1 c2 c3 c4 c5 c6 c7
      have f0 := hRp.frozen 0
      have f1 := hRp.frozen 1
      have f2 := hRp.frozen 2
      have f3 := hRp.frozen 3
      have f4 := hRp.frozen 4
      have f5 := hRp.frozen 5
      have f6 := hRp.frozen 6
      have f7 := hRp.frozen 7
      clear han hor hxr hno
      have e1 := eight_below hbp (g := w.heap.size + 1 + 1 + 1) (by omega) r (tOr r (kt k) (wt xs k)) (uOf r)
      have e2 := eight_other hXp (g := w.heap.size + 1 + 1 + 1) (by omega) r (tOr r (kt k) (wt xs k)) (uOf r)
      have e3 := eight_other hAp (g := w.heap.size + 1 + 1 + 1) (by omega) r (tOr r (kt k) (wt xs k)) (uOf r)
      have e4 := eight_other hZp (g := w.heap.size + 1 + 1 + 1) (by omega) r (tOr r (kt k) (wt xs k)) (uOf r)
      have e5 := eight_same hRp (tOr r (kt k) (wt xs k)) (uOf r)
      have e6 : (⟨tOr r (kt k) (wt xs k) + uOf r, r.a, r.b, r.c, r.d + tOr r (kt k) (wt xs k), r.e, r.f, r.g⟩ : R8) = rndTo kt (wt xs) x (k + 1) := by rw [HS.out, tOr_eq]; rfl
      rw [e6] at e5
      have E1 : Hid (Below w.heap.size w (eight wp (w.heap.size + 1 + 1 + 1) r (tOr r (kt k) (wt xs k)) (uOf r))) := e1
      clear e1 e6
      go_wp2_with fail
      exact ⟨⟨k + 1, by omega, by go_num, E1.out, e2, e3, e4, e5⟩, by simp [intOf]; omega⟩
    · obtain rfl : k = 64 := by omega
      go_wp2_with fail
      go_loopw [90] (fun i wr => ∃ k : Nat, ∃ W : Array Value, k ≤ 8 ∧ i = .int .i64 k ∧ Below w.heap.size w wr ∧ ArrAt wr w.heap.size 204 W ∧ ArrAt wr (w.heap.size + 1 + 1) 204 z8 ∧ ArrAt wr (w.heap.size + 1 + 1 + 1) 204 (arr8 (rndTo kt (wt xs) x 64)) ∧ SumTo x (rndTo kt (wt xs) x 64) k W) (fun i _ => 8 - (intOf i).toNat)
      case atStart => exact ⟨0, arr8 x, by omega, rfl, hbel, hX, hZ, hR, sum_zero _ _⟩
      case round =>
        clear hbel hX hA hZ hR
        obtain ⟨k, W, hk, rfl, hbel, hX, hZ, hR, hS⟩ := hrel
        have HB : Hid (blk x xs = addR x (rndTo kt (wt xs) x 64)) := rfl
        generalize rndTo kt (wt xs) x 64 = r at hR hS HB
        by_cases hlt : k < 8
        · have cx : wr.cell? ⟨w.heap.size, k, none⟩ = some (.int .u32 (nat (at8 x k))) := (hX.cell k).trans (by rw [hS.2 k hlt, if_neg (by omega)])
          have cr : wr.cell? ⟨w.heap.size + 1 + 1 + 1, k, none⟩ = some (.int .u32 (nat (at8 r k))) := (hR.cell k).trans (arr8_at r k hlt)
          have fx := hX.frozen k
          have had := nat_add
          have q0 : (0 : Int) ≤ (k : Int) := by omega
          have q1 : (k : Int) < 8 := by omega
          have e1 := (hbel.setCell (p := ⟨w.heap.size, k, none⟩) (Nat.le_refl _) (.int .u32 (nat (at8 x k + at8 r k)))).drew
          have e2 := (hX.setCell_same k (.int .u32 (nat (at8 x k + at8 r k)))).drew
          have e3 := (hZ.setCell_other (a := ⟨w.heap.size, k, none⟩) (by simp; omega) (.int .u32 (nat (at8 x k + at8 r k)))).drew
          have e4 := (hR.setCell_other (a := ⟨w.heap.size, k, none⟩) (by simp; omega) (.int .u32 (nat (at8 x k + at8 r k)))).drew
          have e5 := sum_step hS hlt
          go_wp2_with fail
          go_region
          clear had
          go_wp2
          go_roundw
          case rel => exact ⟨k + 1, _, by omega, by go_num, e1, e2, e3, e4, e5⟩
          case measure => simp [intOf]; omega
        · obtain rfl : k = 8 := by omega
          have hWe := sum_all hS
          subst hWe
          rw [← HB.out] at hX
          have J8 : Hid ((Tryz.prog.info? 204).map (·.size) = some (arr8 (blk x xs)).size) := by show _ = some (arr8 (blk x xs)).size; rw [arr8_size]; exact I8.out
          have JZ : Hid (z8.size = (arr8 (blk x xs)).size) := by show z8.size = (arr8 (blk x xs)).size; rw [arr8_size]; unfold z8; simp
          have J1 : Hid _ := arr8_one (blk x xs)
          have JR := hZ.setRow_same (arr8 (blk x xs))
          have JB := below_setRow hbel (show w.heap.size ≤ w.heap.size + 1 + 1 by omega) (arr8 (blk x xs))
          clear hS
          generalize hY : arr8 (blk x xs) = Y at hX J8 JZ J1 JR JB
          have HY : Hid (arr8 (blk x xs) = Y) := hY
          clear hY
          go_wp2_with (first | (refine wpList_load_row (by rfl) 204 _ (by rfl) w.heap.size (by rfl) 204 Y (0, 0) _ hX Tryz.underlying204 rfl J8.out ?_) | (refine wpList_store_row (by rfl) 204 _ _ (by rfl) (w.heap.size + 1 + 1) Y (by rfl) (by rfl) 204 z8 hZ J8.out JZ.out J1.out ?_))
          exact bodyPost_ret (v := .agg Y) (results_cell_row Tryz.results154 _ _ (w.heap.size + 1 + 1) 204 _ (0, 0) _ (by rfl) JR Tryz.underlying204 rfl J8.out) (by rfl) ⟨by rw [HY.out], JB⟩
end Go.Proofs.YtondmbeccpekiaaGreatDoor.Sh

/- impl.padBlocks: the bytes, 0x80, noughts and how many bits they have. -/
namespace Go.Proofs.YtondmbeccpekiaaGreatDoor.Sh
open Go.RowKit Go.Proofs.YtondmbeccpekiaaGreatDoor.Sl Go.Proofs.YtondmbeccpekiaaGreatDoor.Me

theorem nth_lt {xs ys : List Int} {j : Nat} (h : j < xs.length) : nth (xs ++ ys) j = nth xs j := by
  unfold nth; rw [List.getD_eq_getElem?_getD, List.getElem?_append_left h, List.getD_eq_getElem?_getD]
theorem nth_ge {xs ys : List Int} {j : Nat} (h : xs.length ≤ j) : nth (xs ++ ys) j = nth ys (j - xs.length) := by
  unfold nth; rw [List.getD_eq_getElem?_getD, List.getElem?_append_right h, List.getD_eq_getElem?_getD]
theorem nth_repl (n j : Nat) : nth (List.replicate n 0) j = 0 := by
  unfold nth; rw [List.getD_eq_getElem?_getD, List.getElem?_replicate]; split <;> rfl
theorem pad_low (xs : List Int) (j : Nat) (h : j < xs.length) : nth (pad xs) j = nth xs j := by
  unfold pad; rw [List.append_assoc, List.append_assoc, nth_lt h]
theorem pad_mid (xs : List Int) : nth (pad xs) xs.length = 128 := by
  unfold pad; rw [List.append_assoc, List.append_assoc, nth_ge (Nat.le_refl _), Nat.sub_self]; rfl
theorem pad_zero (xs : List Int) (j : Nat) (h : xs.length < j) (h2 : j < xs.length + 1 + zerosOf xs.length) : nth (pad xs) j = 0 := by
  unfold pad
  rw [List.append_assoc, nth_ge (by simp; omega), nth_lt (by simp; omega), nth_repl]
theorem pad_tail (xs : List Int) (k : Nat) (h : k < 8) : nth (pad xs) (xs.length + 1 + zerosOf xs.length + k) = lenByte xs.length k := by
  unfold pad
  rw [nth_ge (by simp; omega)]
  have e : xs.length + 1 + zerosOf xs.length + k - (xs ++ [128] ++ List.replicate (zerosOf xs.length) 0).length = k := by simp; omega
  rw [e]
  match k, h with
  | 0, _ => rfl
  | 1, _ => rfl
  | 2, _ => rfl
  | 3, _ => rfl
  | 4, _ => rfl
  | 5, _ => rfl
  | 6, _ => rfl
  | 7, _ => rfl
theorem pad_range {xs : List Int} (hr : ∀ x ∈ xs, 0 ≤ x ∧ x ≤ 255) : ∀ x ∈ pad xs, 0 ≤ x ∧ x ≤ 255 := by
  have hl : ∀ m, 0 ≤ lenByte xs.length m ∧ lenByte xs.length m ≤ 255 := fun m => by unfold lenByte; omega
  intro x hx
  unfold pad lenBytes at hx
  simp only [List.mem_append, List.mem_replicate, List.mem_cons, List.not_mem_nil, or_false] at hx
  rcases hx with ((h | h) | h) | h
  · exact hr x h
  · omega
  · omega
  · rcases h with h | h | h | h | h | h | h | h <;> (rw [h]; exact hl _)

def Padded (xs : List Int) (M k : Nat) (A : Array Value) : Prop := A.size = M ∧ ∀ j, j < M → (j < M - 8 ∨ M - k ≤ j) → A[j]? = some (.int .u8 (nth (pad xs) j))
theorem padded_step {xs : List Int} {M k : Nat} {A : Array Value} (h : Padded xs M k A) (hM : M = xs.length + 9 + zerosOf xs.length) (hk : k < 8) (z : Int) (hz : z = lenByte xs.length (7 - k)) : Padded xs M (k + 1) (A.setIfInBounds (M - 1 - k) (.int .u8 z)) := by
  refine ⟨by rw [Array.size_setIfInBounds]; exact h.1, fun j hj hc => ?_⟩
  rw [Array.getElem?_setIfInBounds]
  by_cases e : M - 1 - k = j
  · rw [if_pos e, if_pos (by rw [h.1]; omega), hz, ← pad_tail xs (7 - k) (by omega)]
    have e2 : xs.length + 1 + zerosOf xs.length + (7 - k) = j := by omega
    rw [e2]
  · rw [if_neg e]
    exact h.2 j hj (by omega)
theorem copied_at (cur : List Value) (xs : List Int) (M : Nat) (hz : ∀ j, j < M → cur[j]? = some (.int .u8 0)) (j : Nat) (hj : j < M) :
    (splice cur 0 (xs.map (Value.int .u8)))[j]? = some (.int .u8 (if j < xs.length then nth xs j else 0)) := by
  unfold splice
  rw [List.take_zero, List.nil_append]
  by_cases h : j < xs.length
  · rw [if_pos h, List.getElem?_append_left (by simpa using h), List.getElem?_map, List.getElem?_eq_getElem h]
    unfold nth
    rw [List.getD_eq_getElem?_getD, List.getElem?_eq_getElem h]
    rfl
  · rw [if_neg h, List.getElem?_append_right (by simpa using h), List.getElem?_drop, List.length_map, show 0 + xs.length + (j - xs.length) = j by omega]
    exact hz j hj
theorem padded_zero {xs : List Int} {M : Nat} {A : Array Value} (hM : M = xs.length + 9 + zerosOf xs.length) (hs : A.size = M) (h : ∀ j, j < M → A[j]? = some (.int .u8 (if j < xs.length then nth xs j else 0))) : Padded xs M 0 (A.setIfInBounds xs.length (.int .u8 128)) := by
  refine ⟨by rw [Array.size_setIfInBounds]; exact hs, fun j hj hc => ?_⟩
  rw [Array.getElem?_setIfInBounds]
  by_cases e : xs.length = j
  · rw [if_pos e, if_pos (by omega), ← e, pad_mid]
  · rw [if_neg e, h j hj]
    by_cases g : j < xs.length
    · rw [if_pos g, pad_low xs j g]
    · rw [if_neg g, pad_zero xs j (by omega) (by omega)]
theorem addr_add (b off j : Nat) : (⟨b, off, none⟩ : Addr).add j = ⟨b, off + j, none⟩ := by unfold Addr.add; split <;> simp_all
theorem len_eq (n k : Nat) (h : k < 8) : (n : Int) * 8 / 2 ^ (8 * k) % 256 = lenByte n (7 - k) := by
  unfold lenByte
  rw [show 7 - (7 - k) = k by omega, Nat.mul_comm 8 n, Int.natCast_emod, Int.natCast_ediv, Int.natCast_mul, Int.natCast_pow]
  rfl
theorem ret_slice {x : Option Addr} {m n : Nat} (h : m = n) : Ending.returned (.slice x m m) = .returned (.slice x n n) := by rw [h]
theorem infoB : (Tryz.prog.info? 5).map (·.size) = some 1 := by kernel_rfl

set_option maxRecDepth 100000 in
set_option maxHeartbeats 1600000 in
theorem padBlocks_any (v : Value) (xs : List Int) (w : World) (h : RowB w v xs) (hl : xs.length ≤ 65536) :
    Calls Tryz.prog 153 #[v] w fun e w' => ∃ A, e = .returned (.slice (some ⟨w.heap.size, 0, none⟩) (pad xs).length (pad xs).length) ∧ ArrAt w' w.heap.size 5 A ∧ (∀ j, j < (pad xs).length → A[j]? = some (.int .u8 (nth (pad xs) j))) ∧ Below w.heap.size w w' := by
  obtain ⟨a, cap, rfl, h, _⟩ := h
  obtain ⟨i0, hi, hz0, hz1, hz2⟩ := info_parts info5
  have hl' : (xs.length : Int) ≤ 65536 := by omega
  have hpl := pad_length xs
  obtain ⟨M, hM⟩ : ∃ M, M = (pad xs).length := ⟨_, rfl⟩
  have hMb := pad_blocks xs
  have hME : ((xs.length : Int) + 1 + 8 + 64 - 1) / 64 * 64 = (M : Int) := by omega
  have hmk := run_make (P := Tryz.prog) w 107 5 i0 (.int .u8 0) Tryz.underlying107 hi hz0 .i64 .i64 (M : Int) (M : Int) (by omega) (by omega) (by rw [hz2]; omega) (by omega)
  have hA0 : (madeCells (Value.int .u8 0).cells ((M : Int).toNat * i0.size)).toList.length = M ∧ ∀ j, j < M → (madeCells (Value.int .u8 0).cells ((M : Int).toNat * i0.size)).toList[j]? = some (.int .u8 0) := by
    rw [hz1]
    refine ⟨by simp [madeCells, Value.cells], fun j hj => by simp [madeCells, Value.cells, hj, Nat.mod_one]⟩
  have hto : madeCells (Value.int .u8 0).cells ((M : Int).toNat * i0.size) = (madeCells (Value.int .u8 0).cells ((M : Int).toNat * i0.size)).toList.toArray := by simp
  rw [hto] at hmk
  generalize (madeCells (Value.int .u8 0).cells ((M : Int).toNat * i0.size)).toList = cur at hmk hA0
  rw [Int.toNat_natCast] at hmk
  have HM : Hid (M = xs.length + 9 + zerosOf xs.length) := by show M = _; omega
  have HP : Hid (M = (pad xs).length) := hM
  have q0 : (xs.length : Int) + 9 ≤ (M : Int) := by omega
  have q1 : (M : Int) ≤ 65608 := by omega
  have q2 : (xs.length : Int) < (M : Int) := by omega
  have hn : (xs.map (Value.int .u8)).length = Nat.min xs.length M := by rw [List.length_map]; exact (Nat.min_eq_left (by omega)).symm
  have hpos : 0 < (xs.map (Value.int .u8)).length → (some ⟨w.heap.size, 0, none⟩ : Option Addr) = some ⟨w.heap.size, 0, none⟩ ∧ ∃ ad, a = some ad ∧ ∀ j v, (xs.map (Value.int .u8))[j]? = some v → (w.alloc (.cells cur.toArray 5)).cell? (ad.add j) = some v := by
    intro hp
    rcases h with h | ⟨b, off, rfl, hc, hb, hcell⟩
    · rw [h] at hp; exact absurd hp (by simp)
    · refine ⟨rfl, _, rfl, fun j v hv => ?_⟩
      have hj : j < xs.length := by have := (List.getElem?_eq_some_iff.1 hv).1; simpa using this
      rw [addr_add, World.cell?_alloc_past _ _ _ hb, hcell j hj, ← hv, List.getElem?_map, List.getElem?_eq_getElem hj]
      unfold nth
      rw [List.getD_eq_getElem?_getD, List.getElem?_eq_getElem hj]
      rfl
  have hfit : 0 + (xs.map (Value.int .u8)).length ≤ cur.length := by rw [List.length_map]; omega
  have h1 : ∀ v ∈ xs.map (Value.int .u8), v.oneCell' = true := by intro v hv; obtain ⟨z, _, rfl⟩ := List.mem_map.1 hv; rfl
  have hA1 : (splice cur 0 (xs.map (Value.int .u8))).toArray.size = M ∧ ∀ j, j < M → (splice cur 0 (xs.map (Value.int .u8))).toArray[j]? = some (.int .u8 (if j < xs.length then nth xs j else 0)) := by
    refine ⟨?_, fun j hj => ?_⟩
    · have := length_splice cur 0 (xs.map (Value.int .u8)) hfit; simp only [List.size_toArray]; omega
    · simp only [List.getElem?_toArray]; exact copied_at cur xs M hA0.2 j hj
  have hP0 := padded_zero HM.out hA1.1 hA1.2
  have hb0 : Below w.heap.size w (w.alloc (.cells cur.toArray 5)) := (Below.refl _ _).alloc (Nat.le_refl _) _
  have hex : ∃ x, (splice cur 0 (xs.map (Value.int .u8))).toArray[xs.length]? = some x := ⟨_, hA1.2 xs.length (by omega)⟩
  have GN : Hid _ := hn
  have GP : Hid _ := hpos
  have GF : Hid _ := hfit
  have G1 : Hid _ := h1
  have GB : Hid _ := hb0
  obtain ⟨L, hL⟩ : ∃ L, L = (splice cur 0 (xs.map (Value.int .u8))).toArray := ⟨_, rfl⟩
  rw [← hL] at hP0 hex
  have GL : Hid (L = (splice cur 0 (xs.map (Value.int .u8))).toArray) := hL
  have HE : Hid (∃ x, L[xs.length]? = some x) := hex
  have HP0 : Hid (Padded xs M 0 (L.setIfInBounds xs.length (.int .u8 128))) := hP0
  clear hn hpos hfit h1 hb0 hL hex hP0 hA1 hA0 h hpl hMb hM hto
  go_enter Tryz.func153, Tryz.ntmps153
  go_wp2_with (refine wpList_copy_splice (by rfl) _ _ 107 107 (by rfl) 5 Tryz.underlying107 infoB _ _ _ _ _ _ (by rfl) (by rfl) w.heap.size 0 cur 5 (arrAt_new w _ _) _ GN.out (fun hp => ⟨rfl, (GP.out hp).2⟩) GF.out G1.out w.heap.size w GB.out (Nat.le_refl _) ?_; intro w1 hC hb1; have hA : ArrAt w1 w.heap.size 5 L := (by rw [GL.out]; exact hC); obtain ⟨y, hy⟩ := HE.out; have cn : w1.cell? ⟨w.heap.size, xs.length, none⟩ = some y := (hA.cell _).trans hy; have fn := hA.frozen xs.length)
  clear GN GP GF G1 GB hmk hC
  go_loopw [30] (fun i wr => ∃ k : Nat, ∃ A : Array Value, k ≤ 8 ∧ i = .int .i64 k ∧ Below w.heap.size w wr ∧ ArrAt wr w.heap.size 5 A ∧ Padded xs M k A) (fun i _ => 8 - (intOf i).toNat)
  case atStart => exact ⟨0, _, by omega, rfl, hb1.setCell (p := ⟨w.heap.size, xs.length, none⟩) (Nat.le_refl _) _, hA.setCell_same _ _, HP0.out⟩
  case round =>
    clear hA cn fn hy hb1
    obtain ⟨k, A, hk, rfl, hbel, hA, hP⟩ := hrel
    by_cases hlt : k < 8
    · obtain ⟨x, hx⟩ : ∃ x, A[M - 1 - k]? = some x := ⟨_, Array.getElem?_eq_getElem (by rw [hP.1]; omega)⟩
      have cx : wr.cell? ⟨w.heap.size, M - 1 - k, none⟩ = some x := (hA.cell _).trans hx
      have fx := hA.frozen (M - 1 - k)
      have p0 : (0 : Int) ≤ (M : Int) - 1 - (k : Int) := by omega
      have p1 : (M : Int) - 1 - (k : Int) < (M : Int) := by omega
      have p2 : (0 : Int) ≤ 8 * (k : Int) := by omega
      have hP2 := padded_step hP HM.out hlt ((xs.length : Int) * 8 / 2 ^ (8 * k) % 256) (len_eq xs.length k hlt)
      go_wp2_with fail
      exact ⟨⟨k + 1, _, by omega, by go_num, hbel.setCell (p := ⟨w.heap.size, M - 1 - k, none⟩) (Nat.le_refl _) _, hA.setCell_same _ _, hP2⟩, by simp [intOf]; omega⟩
    · obtain rfl : k = 8 := by omega
      have hfin : Hid (∀ j, j < (pad xs).length → A[j]? = some (.int .u8 (nth (pad xs) j))) := fun j hj => hP.2 j (by rw [HP.out]; exact hj) (by omega)
      go_wp2_with fail
      go_ret
      exact ⟨A, ret_slice HP.out, hA, hfin.out, hbel⟩
end Go.Proofs.YtondmbeccpekiaaGreatDoor.Sh

/- impl.wordsText and impl.Hash. -/
namespace Go.Proofs.YtondmbeccpekiaaGreatDoor.Sh
open Go.RowKit Go.Proofs.YtondmbeccpekiaaGreatDoor.Sl Go.Proofs.YtondmbeccpekiaaGreatDoor.Me

def zeros32 : Array Value := Array.replicate 32 (.int .u8 0)
theorem zeroB (w : World) : Sem.run Tryz.prog (zeroValue 237) w = .ok (.agg zeros32) w := by kernel_rfl
def OutTo (r : R8) (k : Nat) (A : Array Value) : Prop := A.size = 32 ∧ ∀ j, j < k → A[j]? = some (.int .u8 (byteOf (at8 r (j / 4)) (j % 4)))
theorem out_step {r : R8} {k : Nat} {A : Array Value} (h : OutTo r k A) (hk : k < 32) : OutTo r (k + 1) (A.setIfInBounds k (.int .u8 (byteOf (at8 r (k / 4)) (k % 4)))) := by
  refine ⟨by rw [Array.size_setIfInBounds]; exact h.1, fun j hj => ?_⟩
  rw [Array.getElem?_setIfInBounds]
  by_cases e : k = j
  · subst e
    rw [if_pos rfl, if_pos (by rw [h.1]; exact hk)]
  · rw [if_neg e]
    exact h.2 j (by omega)

set_option maxRecDepth 100000 in
set_option maxHeartbeats 1600000 in
theorem wordsText_any (r : R8) (w : World) :
    Calls Tryz.prog 156 #[.agg (arr8 r)] w fun e w' => e = .returned (.string (strOfNums (out r))) ∧ Below w.heap.size w w' := by
  have hz : ∀ w, Sem.run Tryz.prog (zeroValue 237) w = .ok (.agg zeros32) w := zeroB
  go_enter Tryz.func156, Tryz.ntmps156
  go_wp2_with fail
  clear hz
  go_loopw [5] (fun i wr => ∃ k : Nat, ∃ A : Array Value, k ≤ 32 ∧ i = .int .i64 k ∧ Below w.heap.size w wr ∧ ArrAt wr w.heap.size 204 (arr8 r) ∧ ArrAt wr (w.heap.size + 1) 237 A ∧ OutTo r k A) (fun i _ => 32 - (intOf i).toNat)
  case atStart => exact ⟨0, zeros32, by omega, rfl, ((Below.refl _ _).alloc (Nat.le_refl _) _).alloc (by simp) _, (arrAt_new w _ _).alloc _, by have := arrAt_new (w.alloc (.cells (arr8 r) 204)) 237 zeros32; simpa using this, ⟨by unfold zeros32; simp, fun j hj => absurd hj (by omega)⟩⟩
  case round =>
    obtain ⟨k, A, hk, rfl, hbel, hR, hA, hO⟩ := hrel
    by_cases hlt : k < 32
    · obtain ⟨x, hx⟩ : ∃ x, A[k]? = some x := ⟨_, Array.getElem?_eq_getElem (by rw [hO.1]; omega)⟩
      have cx : wr.cell? ⟨w.heap.size + 1, k, none⟩ = some x := (hA.cell _).trans hx
      have fx := hA.frozen k
      have cr : wr.cell? ⟨w.heap.size, k / 4, none⟩ = some (.int .u32 (nat (at8 r (k / 4)))) := (hR.cell _).trans (arr8_at r _ (by omega))
      have p0 : (0 : Int) ≤ (k : Int) / 4 := by omega
      have p1 : (k : Int) / 4 < 8 := by omega
      have p2 : (k : Int) < 32 := by omega
      have hO2 := out_step hO hlt
      go_wp2_with fail
      exact ⟨⟨k + 1, _, by omega, by go_num, hbel.setCell (p := ⟨w.heap.size + 1, k, none⟩) (by simp) _, hR.setCell_other (a := ⟨w.heap.size + 1, k, none⟩) (by simp) _, hA.setCell_same _ _, hO2⟩, by simp [intOf]; omega⟩
    · obtain rfl : k = 32 := by omega
      have hcv : (convert 107 9 (.slice (some ⟨w.heap.size + 1, 0, none⟩) 32 32)).run Tryz.prog wr = .ok (.string (strOfNums (out r))) wr := by
        refine run_convert_bytes_arg _ 107 5 Tryz.underlying107 Tryz.underlying5 (w.heap.size + 1) 0 32 32 _ (outTo_length r 8) (fun i hi => ?_) 9 Tryz.underlying9
        rw [Nat.zero_add, hA.cell, hO.2 i hi]
        rw [outTo_at r 8 i hi]
      go_wp2_with fail
      go_ret
      exact ⟨rfl, hbel⟩

def hashS (xs : List Int) : ByteArray := if 65536 < xs.length then ⟨#[]⟩ else strOfNums (sha xs)
theorem ret_str {a b : ByteArray} (h : a = b) : Ending.returned (.string a) = .returned (.string b) := by rw [h]
theorem size1 (W : World) : (Go.sizeOf 5).run Tryz.prog W = .ok 1 W := by kernel_rfl
theorem slice64 (n b q : Nat) (h : 64 * q + 64 ≤ n) (W : World) :
    (Instr.slice 107 (.slice (some ⟨b, 0, none⟩) n n) (some (.int .i64 (64 * (q : Int)))) (some (.int .i64 (64 * (q : Int) + 64))) none).run Tryz.prog W = .ok (.slice (some ⟨b, 64 * q, none⟩) 64 (n - 64 * q)) W := by
  have := Lib.run_slice_window (P := Tryz.prog) W 107 5 Tryz.underlying107 size1 b 0 n n (64 * q) (64 * q + 64) (by omega) h
  rw [Nat.zero_add, show 64 * q + 64 - 64 * q = 64 by omega] at this
  rw [← this]
  rfl
theorem cut_row {w : World} {ps : List Int} {b off : Nat} (hb : b < w.heap.size) (hcell : ∀ i, i < ps.length → w.cell? ⟨b, off + i, none⟩ = some (.int .u8 (nth ps i))) (hr : ∀ x ∈ ps, 0 ≤ x ∧ x ≤ 255) (q : Nat) (hq : 64 * q + 64 ≤ ps.length) (c : Nat) (hc : 64 ≤ c) :
    RowB w (.slice (some ⟨b, off + 64 * q, none⟩) 64 c) (cut ps q) ∧ (cut ps q).length = 64 := by
  have hl : (cut ps q).length = 64 := by unfold cut; rw [List.length_take, List.length_drop]; omega
  refine ⟨⟨_, c, by rw [hl], .inr ⟨b, off + 64 * q, rfl, by rw [hl]; exact hc, hb, fun i hi => ?_⟩, fun x hx => ?_⟩, hl⟩
  · rw [hl] at hi
    rw [Nat.add_assoc, hcell (64 * q + i) (by omega)]
    unfold nth cut
    rw [List.getD_eq_getElem?_getD, List.getD_eq_getElem?_getD, List.getElem?_take_of_lt hi, List.getElem?_drop]
  · unfold cut at hx
    exact hr x (List.mem_of_mem_drop (List.mem_of_mem_take hx))

theorem cells8 {w : World} {g : Nat} {T : TypeId} {r : R8} (h : ArrAt w g T (arr8 r)) :
    w.cell? ⟨g, 0, none⟩ = some (.int .u32 (nat r.a)) ∧ w.cell? ⟨g, 1, none⟩ = some (.int .u32 (nat r.b)) ∧ w.cell? ⟨g, 2, none⟩ = some (.int .u32 (nat r.c)) ∧ w.cell? ⟨g, 3, none⟩ = some (.int .u32 (nat r.d)) ∧ w.cell? ⟨g, 4, none⟩ = some (.int .u32 (nat r.e)) ∧ w.cell? ⟨g, 5, none⟩ = some (.int .u32 (nat r.f)) ∧ w.cell? ⟨g, 6, none⟩ = some (.int .u32 (nat r.g)) ∧ w.cell? ⟨g, 7, none⟩ = some (.int .u32 (nat r.h)) :=
  ⟨h.cell 0, h.cell 1, h.cell 2, h.cell 3, h.cell 4, h.cell 5, h.cell 6, h.cell 7⟩
theorem store8 {w : World} {g : Nat} {T : TypeId} {r : R8} (h : ArrAt w g T (arr8 r)) (y : R8) : Sem.run Tryz.prog (storeCells ⟨g, 0, none⟩ (arr8 y).toList) w = .ok () (w.setRow g (arr8 y)) := by
  have := run_storeCells_from (P := Tryz.prog) g T (arr8 y).toList 0 (arr8 r) w h rfl (fun v hv => (Array.all_eq_true_iff_forall_mem.1 (arr8_one y)) v (by simpa using hv))
  simpa using this

set_option maxRecDepth 100000 in
set_option maxHeartbeats 1600000 in
theorem implHash_any (v : Value) (xs : List Int) (w : World) (h : RowB w v xs) (hK : KTab w) (hp : 0 < w.heap.size) :
    Calls Tryz.prog 141 #[v] w fun e w' => e = .returned (.string (hashS xs)) ∧ Below w.heap.size w w' := by
  by_cases hb : 65536 < xs.length
  · have HE : Hid (hashS xs = ⟨#[]⟩) := if_pos hb
    have hb' : (65536 : Int) < (xs.length : Int) := by omega
    obtain ⟨a, cap, rfl, _, _⟩ := h
    go_enter Tryz.func141, Tryz.ntmps141
    go_wp2
    go_ret
    exact ⟨ret_str HE.out.symm, Below.refl _ _⟩
  have HE : Hid (hashS xs = strOfNums (out (blksTo (pad xs) ((xs.length + 72) / 64)))) := if_neg hb
  have hb' : (xs.length : Int) ≤ 65536 := by omega
  have h' := h
  obtain ⟨a, cap, rfl, _, _⟩ := h
  have HR : Hid (RowB w (.slice a xs.length cap) xs) := h'
  have GK : Hid (KTab w) := hK
  clear h' hK
  have hz : ∀ w, Sem.run Tryz.prog (zeroValue 204) w = .ok (.agg #[.int .u32 0, .int .u32 0, .int .u32 0, .int .u32 0, .int .u32 0, .int .u32 0, .int .u32 0, .int .u32 0]) w := zero8
  go_enter Tryz.func141, Tryz.ntmps141
  go_wp2_with fail
  refine (padBlocks_any _ xs _ (HR.out.below ((Below.refl _ _).alloc (Nat.le_refl _) _)) (by omega)).mono ?_
  rintro e w1 ⟨PA, rfl, hPA, hPn, b1⟩
  clear hz
  have hW1 : ArrAt w1 w.heap.size 204 (arr8 r0) := (arrAt_new w 204 (arr8 r0)).below b1 (by simp)
  have hB1 : Below w.heap.size w w1 := ((Below.refl _ _).alloc (Nat.le_refl _) _).trans (b1.mono (by simp))
  have hPA1 : ArrAt w1 (w.heap.size + 1) 5 PA := by have := hPA; simpa using this
  have hsz : (w.alloc (.cells #[Value.int IntKind.u32 1779033703, Value.int IntKind.u32 3144134277, Value.int IntKind.u32 1013904242, Value.int IntKind.u32 2773480762, Value.int IntKind.u32 1359893119, Value.int IntKind.u32 2600822924, Value.int IntKind.u32 528734635, Value.int IntKind.u32 1541459225] 204)).heap.size = w.heap.size + 1 := by simp
  rw [hsz]
  obtain ⟨Q, hQ⟩ : ∃ Q, Q = (xs.length + 72) / 64 := ⟨_, rfl⟩
  have HM : Hid ((pad xs).length = 64 * Q) := by show (pad xs).length = 64 * Q; rw [hQ]; exact pad_blocks xs
  rw [← hQ] at HE
  have hQb : Q ≤ 1026 := by omega
  have HN : Hid (∀ j, j < (pad xs).length → PA[j]? = some (.int .u8 (nth (pad xs) j))) := hPn
  have HPR : Hid (∀ x ∈ pad xs, 0 ≤ x ∧ x ≤ 255) := pad_range (by obtain ⟨_, _, _, _, hr⟩ := HR.out; exact hr)
  clear hPA hPn b1 hsz hQ
  generalize pad xs = ps at HE HM HN HPR
  have hM0 : (ps.length : Int) ≤ 64 * (Q : Int) := by have := HM.out; omega
  have hM1 : 64 * (Q : Int) ≤ (ps.length : Int) := by have := HM.out; omega
  go_wp2_with fail
  go_loopw [5] (fun i wr => ∃ q : Nat, q ≤ Q ∧ i = .int .i64 (64 * (q : Int)) ∧ Below w.heap.size w wr ∧ ArrAt wr w.heap.size 204 (arr8 (blksTo ps q)) ∧ ArrAt wr (w.heap.size + 1) 5 PA) (fun i _ => 64 * Q - (intOf i).toNat)
  case atStart => exact ⟨0, by omega, rfl, hB1, hW1, hPA1⟩
  case round =>
    clear hW1 hB1 hPA1
    obtain ⟨q, hq, rfl, hbel, hX, hA⟩ := hrel
    have HB : Hid (blksTo ps (q + 1) = blk (blksTo ps q) (cut ps q)) := rfl
    by_cases hlt : q < Q
    · have p0 : (0 : Int) ≤ 64 * (q : Int) := by omega
      have p1 : 64 * (q : Int) + 64 ≤ (ps.length : Int) := by omega
      have p2 : 64 * (q : Int) ≤ 64 * (q : Int) + 64 := by omega
      generalize blksTo ps q = r at hX HB
      obtain ⟨c0, c1, c2, c3, c4, c5, c6, c7⟩ := cells8 hX
      have HCR : Hid (RowB wr (.slice (some ⟨w.heap.size + 1, 64 * q, none⟩) 64 (ps.length - 64 * q)) (cut ps q) ∧ (cut ps q).length = 64) := by
        have := cut_row (w := wr) (ps := ps) (b := w.heap.size + 1) (off := 0) hA.lt (fun i hi => by rw [Nat.zero_add, hA.cell]; exact HN.out i hi) HPR.out q (by omega) (ps.length - 64 * q) (by omega)
        rw [Nat.zero_add] at this
        exact this
      have hlw : w.heap.size < wr.heap.size := hX.lt
      have hsl := slice64 ps.length (w.heap.size + 1) q (by omega)
      have hwr : IntKind.i64.wrap (64 * (q : Int) + 64) = 64 * (q : Int) + 64 := by rw [IntKind.wrap_i64]; omega
      go_wp2_with fail
      go_region_with (first
        | (go_at_call 155; go_must (refine (spreadBlock_any _ (cut ps q) _ (by exact HCR.out.1) HCR.out.2).mono ?_; rintro e w2 ⟨A2, rfl, hA2, b2⟩; have X2 : ArrAt w2 w.heap.size 204 (arr8 r) := ArrAt.below (w := wr.drew) hX b2 hlw; have P2 : ArrAt w2 (w.heap.size + 1) 5 PA := ArrAt.below (w := wr.drew) hA b2 hA.lt; have B2 : Below w.heap.size w w2 := hbel.drew.trans (Below.mono b2 (Nat.le_of_lt hlw)); have K2 : Hid (KTab w2) := GK.out.below B2 hp; have HA2 : Hid (WordsTo (cut ps q) 64 A2) := hA2; clear hA2 b2; obtain ⟨d0, d1, d2, d3, d4, d5, d6, d7⟩ := cells8 X2))
        | (go_at_call 154; go_must (refine (mixBlock_any r A2 (cut ps q) _ HA2.out K2.out (Nat.lt_of_lt_of_le hp B2.size)).mono ?_; rintro e w3 ⟨rfl, b3⟩; have X3 : ArrAt w3 w.heap.size 204 (arr8 r) := X2.below b3 X2.lt; have P3 : ArrAt w3 (w.heap.size + 1) 5 PA := P2.below b3 P2.lt; have B3 : Below w.heap.size w w3 := B2.trans (Below.mono b3 B2.size); clear b3; have st := store8 X3 (blk r (cut ps q)); have s8 := arr8_size (blk r (cut ps q)))))
      all_goals
        have X4 : Hid (ArrAt (w3.setRow w.heap.size (arr8 (blk r (cut ps q)))) w.heap.size 204 (arr8 (blksTo ps (q + 1)))) := by rw [HB.out]; exact X3.setRow_same (arr8 (blk r (cut ps q)))
        have P4 := P3.setRow_other (g' := w.heap.size) (by omega) (arr8 (blk r (cut ps q)))
        have B4 := below_setRow B3 (Nat.le_refl _) (arr8 (blk r (cut ps q)))
        clear st s8 X3 P3 B3 X2 P2 B2 c0 c1 c2 c3 c4 c5 c6 c7 d0 d1 d2 d3 d4 d5 d6 d7 hsl hX hA hbel
        go_wp2
        go_roundw
        case rel => exact ⟨q + 1, by omega, by go_num, B4, X4.out, P4⟩
        case measure => simp [intOf]; omega
    · obtain rfl : q = Q := by omega
      clear HB
      generalize blksTo ps q = r at hX HE
      obtain ⟨c0, c1, c2, c3, c4, c5, c6, c7⟩ := cells8 hX
      go_wp2_with (go_at_call 156; refine (wordsText_any r _).mono ?_; rintro e w2 ⟨rfl, b2⟩)
      go_ret
      exact ⟨ret_str HE.out.symm, hbel.trans (b2.mono hbel.size)⟩
end Go.Proofs.YtondmbeccpekiaaGreatDoor.Sh
