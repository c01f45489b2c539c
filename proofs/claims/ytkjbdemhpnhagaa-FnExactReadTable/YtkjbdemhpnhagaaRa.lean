/- The walk of the law on ReadTable. -/
import Derived.Test.YtkjbdemhpnhagaaUz
import Derived.Test.YtkjbdemhpnhagaaUv
import Derived.Test.YtkjbdemhpnhagaaUq
import Derived.Test.YtkjbdemhpnhagaaTw4
import Derived.Test.YtkjbdemhpnhagaaMk5
namespace Go.Proofs.Ytkjbdemhpnhagaa.Ra
open Go.RowKit Go.Proofs.Ytkjbdemhpnhagaa.Sl Go.Proofs.Ytkjbdemhpnhagaa.By Go.Proofs.Ytkjbdemhpnhagaa.Ap Go.Proofs.Ytkjbdemhpnhagaa.Rr Go.Proofs.Ytkjbdemhpnhagaa.Tb Go.Proofs.Ytkjbdemhpnhagaa.Tw
open Go.Proofs.Ytkjbdemhpnhagaa.Mk (markByteS_any)
open Go.Proofs.Ytkjbdemhpnhagaa.Ur (Mem rtOK rtC rtT zTab rt_long rt_bad rt_ok tbO size_new implReadTable_any)
open Go.Proofs.Ytkjbdemhpnhagaa.Lo (LkA uV OwnL own_block kind_ne)
open Go.Proofs.Ytkjbdemhpnhagaa.Tp (bOf bOf_false TOK WsOK)
open Go.Proofs.Ytkjbdemhpnhagaa.Um

theorem andThen {B : Nat} {W w1 w2 : World} (h : Below B W w1) (hB : B ≤ W.heap.size) (h2 : Below w1.heap.size w1 w2) : Below B W w2 := h.trans (h2.mono (Nat.le_trans hB h.size))
theorem own_copied (w : World) (A : Array Value) (xs : List Int) (h : Sl.Copied xs xs.length A) (hl : xs.length ≤ 1048576) : OwnB 5 (w.alloc (.cells A 5)) w.heap.size (.slice (some ⟨w.heap.size, 0, none⟩) xs.length xs.length) xs := by
  refine ⟨by simp, .inr ⟨w.heap.size, xs.length, A, rfl, Nat.le_refl _, blk_new _ _ _, Nat.le_refl _, by unfold maxLen; omega, by rw [h.1, Nat.mul_one], ?_⟩⟩
  apply List.ext_getElem?
  intro i
  rw [List.getElem?_take, List.getElem?_map, Nat.mul_one]
  by_cases hi : i < xs.length
  · rw [if_pos hi, Array.getElem?_toList, h.2 i hi, List.getElem?_eq_getElem hi]
    simp [nth, List.getD_eq_getElem?_getD, List.getElem?_eq_getElem hi]
  · rw [if_neg hi, List.getElem?_eq_none (by omega)]
    rfl
set_option maxHeartbeats 400000 in
theorem toByteO_any (v : Value) (xs : List Int) (w : World) (h : RowB w v xs) (hl : xs.length ≤ 1048576) :
    Calls Try.prog 25 #[v] w fun e w' => ∃ v', e = .returned v' ∧ OwnB 5 w' w.heap.size v' xs ∧ Below w.heap.size w w' := by
  obtain ⟨a, cap, rfl, h, hr⟩ := h
  obtain ⟨i0, hi, hz0, hz1, hz2⟩ := info_parts info5
  have hmk := run_make (P := Try.prog) w 44 5 i0 (.int .u8 0) Try.underlying44 hi hz0 .i64 .i64 (xs.length : Int) (xs.length : Int) (by omega) (by omega) (by rw [hz2]; omega) (by omega)
  have hA0 : Sl.Copied xs 0 (madeCells (Value.int .u8 0).cells ((xs.length : Int).toNat * i0.size)) := ⟨by rw [hz1]; simp [madeCells, Value.cells], fun j hj => absurd hj (by omega)⟩
  generalize madeCells (Value.int .u8 0).cells ((xs.length : Int).toNat * i0.size) = A0 at hmk hA0
  rw [Int.toNat_natCast] at hmk
  go_enter Try.func25, Try.ntmps25
  go_wp2_with fail
  clear hmk
  go_loopw [4] (fun i wr => ∃ k : Nat, ∃ A : Array Value, k ≤ xs.length ∧ i = .int .i64 k ∧ wr = w.alloc (.cells A 5) ∧ Sl.Copied xs k A) (fun i _ => xs.length - (intOf i).toNat)
  case atStart => exact ⟨0, A0, by omega, rfl, rfl, hA0⟩
  case round =>
    clear hA0
    obtain ⟨k, A, hk, rfl, rfl, hA⟩ := hrel
    by_cases hlt : k < xs.length
    · rcases h with h | ⟨b, off, rfl, hc, hb, hcell⟩
      · exact absurd hlt (by rw [h]; simp)
      have hc1 := hcell k hlt
      have hne : b ≠ w.heap.size := by omega
      obtain ⟨x, hx⟩ : ∃ x, A[k]? = some x := ⟨_, Array.getElem?_eq_getElem (by rw [hA.1]; exact hlt)⟩
      clear hcell
      have hA' : Sl.Copied xs (k + 1) (A.setIfInBounds k (.int .u8 (nth xs k))) := by
        refine ⟨by rw [Array.size_setIfInBounds]; exact hA.1, fun j hj => ?_⟩
        rw [Array.getElem?_setIfInBounds]
        by_cases e : k = j
        · subst e
          rw [if_pos rfl, if_pos (by rw [hA.1]; exact hlt)]
        · rw [if_neg e]
          exact hA.2 j (by omega)
      go_wp2
      go_roundw
      case rel => exact ⟨k + 1, _, by omega, by go_num, rfl, hA'⟩
      case measure => simp [intOf]; omega
    · obtain rfl : k = xs.length := by omega
      go_wp2
      go_ret
      exact ⟨_, rfl, own_copied w A xs hA hl, (Below.refl _ _).alloc (Nat.le_refl _) _⟩
/-- A table in a block; its rows are read. -/
structure Zc (W : World) (x : Nat) (tm nx : Int) (u2 u3 : Value) (ls : List Lk) (ss : List Sn) : Prop where
  k : W.heap[x]? = some (.cells #[.int .i64 tm, .int .i64 nx, u2, u3] 31 (0, 0))
  l : RowL W u2 ls
  s : RowS W u3 ss
/-- A table in a block, with memory of its own. -/
structure Zg (W : World) (x B : Nat) (tm nx : Int) (u2 u3 : Value) (ms : List LkA) (ss : List Sn) : Prop where
  k : W.heap[x]? = some (.cells #[.int .i64 tm, .int .i64 nx, u2, u3] 31 (0, 0))
  m : Mem W B u2 u3 ms ss
section
variable {W W' : World} {x B : Nat} {tm nx : Int} {u2 u3 : Value} {ls : List Lk} {ms : List LkA} {ss : List Sn}
theorem Zc.below (h : Zc W x tm nx u2 u3 ls ss) (hb : Below W.heap.size W W') : Zc W' x tm nx u2 u3 ls ss := ⟨(hb.block _ (Array.getElem?_eq_some_iff.1 h.k).1).trans h.k, h.l.below hb, h.s.below hb⟩
theorem Zg.below (h : Zg W x B tm nx u2 u3 ms ss) (hb : Below W.heap.size W W') : Zg W' x B tm nx u2 u3 ms ss := ⟨(hb.block _ (Array.getElem?_eq_some_iff.1 h.k).1).trans h.k, h.m.below hb⟩
end
theorem Zg.c {W : World} {x B : Nat} {tm nx : Int} {u2 u3 : Value} {ms : List LkA} {ss : List Sn} (h : Zg W x B tm nx u2 u3 ms ss) : W.cell? ⟨x, 0, none⟩ = some (.int .i64 tm) ∧ W.cell? ⟨x, 1, none⟩ = some (.int .i64 nx) ∧ W.cell? ⟨x, 2, none⟩ = some u2 ∧ W.cell? ⟨x, 3, none⟩ = some u3 := ⟨(blk_cell h.k 0 rfl).1, (blk_cell h.k 1 rfl).1, (blk_cell h.k 2 rfl).1, (blk_cell h.k 3 rfl).1⟩
theorem Zc.c {W : World} {x : Nat} {tm nx : Int} {u2 u3 : Value} {ls : List Lk} {ss : List Sn} (h : Zc W x tm nx u2 u3 ls ss) : W.cell? ⟨x, 0, none⟩ = some (.int .i64 tm) ∧ W.cell? ⟨x, 1, none⟩ = some (.int .i64 nx) ∧ W.cell? ⟨x, 2, none⟩ = some u2 ∧ W.cell? ⟨x, 3, none⟩ = some u3 := ⟨(blk_cell h.k 0 rfl).1, (blk_cell h.k 1 rfl).1, (blk_cell h.k 2 rfl).1, (blk_cell h.k 3 rfl).1⟩
theorem rt_small (xs : List Int) : (rtT xs).ls.length ≤ 4 ∧ (rtT xs).ss.length ≤ 6 ∧ ∀ x ∈ (rtT xs).ls, x.ws.length ≤ 4 := by
  have hz : (zTab.ls.length ≤ 4 ∧ zTab.ss.length ≤ 6 ∧ ∀ x ∈ zTab.ls, x.ws.length ≤ 4) := ⟨by decide, by decide, fun x hx => by cases hx⟩
  by_cases hb : 65536 < xs.length
  · rw [(rt_long hb).2]; exact hz
  rcases Bool.eq_false_or_eq_true (rtOK xs) with ho | ho
  rotate_left
  · rw [(rt_bad hb ho).2]; exact hz
  rw [(rt_ok hb ho).2]
  have ht : TOK (tbO xs) := by
    unfold rtOK at ho
    refine Classical.byContradiction fun hn => ?_
    rw [bOf_false hn] at ho
    simp at ho
  obtain ⟨_, _, h3, h4, h5, _⟩ := ht
  refine ⟨h3, h5, fun x hx => ?_⟩
  obtain ⟨i, hi⟩ := List.mem_iff_getElem?.1 hx
  obtain ⟨_, _, _, g4⟩ := h4 i _ hi
  rcases g4 with ⟨_, _, k⟩ | ⟨_, _, _, k, _⟩
  · omega
  · exact k

/-- While the law goes on. -/
structure Iv (w w3 w4 W : World) (x6 : Nat) (tm nx : Int) (g2 g3 : Value) (ms : List LkA) (ss : List Sn) : Prop where
  b : Below w.heap.size w W
  n : Below w3.heap.size w3 W
  g : Zg W x6 w4.heap.size tm nx g2 g3 ms ss
  q : w4.heap.size ≤ x6 ∧ w3.heap.size ≤ w4.heap.size ∧ w.heap.size ≤ w3.heap.size
theorem Iv.below {w w3 w4 W W' : World} {x6 : Nat} {tm nx : Int} {g2 g3 : Value} {ms : List LkA} {ss : List Sn} (h : Iv w w3 w4 W x6 tm nx g2 g3 ms ss) (hb : Below W.heap.size W W') : Iv w w3 w4 W' x6 tm nx g2 g3 ms ss :=
  ⟨h.b.trans (hb.mono h.b.size), h.n.trans (hb.mono h.n.size), h.g.below hb, h.q⟩
set_option maxRecDepth 100000 in
set_option maxHeartbeats 3200000 in
/-- THE WALK: both functions answer alike; the copy that was handed in is as it was, the answer owns its memory, behind another call too. -/
theorem walk (v : Value) (xs : List Int) (w : World) (hrow : RowB w v xs) :
    Calls Try.prog 6 #[v] w fun e w' => e = .returned (.bool true) ∧ Below w.heap.size w w' := by
  have HR : Hid (RowB w v xs) := hrow
  obtain ⟨a, cap, rfl, _, hr⟩ := hrow
  by_cases hbig : (1048576 : Int) < (xs.length : Int)
  · go_enter Try.func6, Try.ntmps6
    go_wp2
    go_ret
    exact ⟨rfl, Below.refl _ _⟩
  have hl : xs.length ≤ 1048576 := by omega
  have GZ0 := rt_small xs
  obtain ⟨⟨tm, nx, ls, ss⟩, HX⟩ : ∃ t, Hid (rtT xs = t) := ⟨_, rfl⟩
  obtain ⟨code, HC⟩ : ∃ code, Hid (rtC xs = code) := ⟨_, rfl⟩
  rw [HX.out] at GZ0
  dsimp only at GZ0
  have GZ : Hid (∀ _ : Unit, ls.length ≤ 4 ∧ ss.length ≤ 6 ∧ ∀ x ∈ ls, x.ws.length ≤ 4) := fun _ => GZ0
  have HL : Hid (∀ _ : Unit, xs.length ≤ 1048576) := fun _ => hl
  have GR : Hid (∀ z ∈ xs, 0 ≤ z ∧ z ≤ 255) := hr
  have hcc : (code != code) = false := by simp
  have hml : ¬ ((1 : Int) + (xs.length : Int) < 0) := by omega
  have HEQ : Hid (∀ (W : World) (vl vs ul us : Value), RowL W vl ls → RowS W vs ss → RowL W ul ls → RowS W us ss → Calls Try.prog 12 #[.agg #[.int .i64 tm, .int .i64 nx, vl, vs], .agg #[.int .i64 tm, .int .i64 nx, ul, us]] W fun e w' => e = .returned (.bool true) ∧ Below W.heap.size W w') := fun W vl vs ul us h1 h2 h3 h4 =>
    eqTable_same tm nx vl vs ul us ls ss W h1 h2 h3 h4 (by have := (GZ.out ()).1; omega) (by have := (GZ.out ()).2.1; omega) (fun x hx => by have := (GZ.out ()).2.2 x hx; omega)
  clear GZ0 hr hl
  go_enter Try.func6, Try.ntmps6
  go_wp2_with fail
  refine (toByteS_any _ xs _ HR.out (HL.out ())).mono ?_
  rintro e w1 ⟨v1, rfl, r1, b1⟩
  go_wp2_with fail
  refine (Go.Proofs.Ytkjbdemhpnhagaa.Us.specReadTable_any _ xs _ r1).mono ?_
  rintro e w2 ⟨u2, u3, m0, rfl, ⟨hm0, me0⟩, b2⟩
  rw [HX.out] at hm0 me0
  rw [HX.out, HC.out]
  dsimp only at hm0 me0 ⊢
  obtain ⟨r2, s2⟩ := Mem.rows me0
  rw [hm0] at r2
  obtain ⟨la, lc, rfl⟩ := RowG.slice r2
  obtain ⟨sa, sc, rfl⟩ := RowG.slice s2
  have B2 := andThen b1 (Nat.le_refl _) b2
  obtain ⟨ln, HLN⟩ : ∃ n, Hid (ls.length = n) := ⟨_, rfl⟩
  obtain ⟨sn, HSN⟩ : ∃ n, Hid (ss.length = n) := ⟨_, rfl⟩
  rw [HLN.out] at r2
  rw [HSN.out] at s2
  rw [HLN.out, HSN.out]
  have C2 : Hid (Zc (w2.alloc (.cells #[.int .i64 tm, .int .i64 nx, .slice la ln lc, .slice sa sn sc] 31)) w2.heap.size tm nx (.slice la ln lc) (.slice sa sn sc) ls ss) := ⟨heap_alloc_new _ _, r2.below ((Below.refl _ _).alloc (Nat.le_refl _) _), s2.below ((Below.refl _ _).alloc (Nat.le_refl _) _)⟩
  have B3 : Below w.heap.size w (w2.alloc (.cells #[.int .i64 tm, .int .i64 nx, .slice la ln lc, .slice sa sn sc] 31)) := B2.alloc B2.size _
  clear r1 b1 b2 hm0 me0 r2 s2 B2
  unfold tabV
  go_wp2_with fail
  generalize w2.alloc (.cells #[.int .i64 tm, .int .i64 nx, .slice la ln lc, .slice sa sn sc] 31) = w3 at C2 B3 ⊢
  generalize w2.heap.size = x3 at C2 ⊢
  refine (toByteO_any _ xs _ (HR.out.below B3) (HL.out ())).mono ?_
  rintro e w4 ⟨v4, rfl, o4, b4⟩
  go_wp2_with fail
  refine (implReadTable_any _ xs w4 (own_rowB o4 GR.out)).mono ?_
  rintro e w5 ⟨g2, g3, ms, rfl, ⟨hm, me⟩, b5⟩
  rw [HX.out] at hm me
  rw [HX.out, HC.out]
  dsimp only at hm me ⊢
  obtain ⟨ga, gc, rfl⟩ := me.ol.slice
  obtain ⟨ha, hc, rfl⟩ := me.os.slice
  have hml2 : ms.length = ls.length := by have := congrArg List.length hm; rw [List.length_map] at this; exact this
  rw [hml2, HLN.out, HSN.out] at me
  rw [hml2, HLN.out, HSN.out]
  have b35 := andThen b4 (Nat.le_refl _) b5
  have HMM : Hid (ms.map (·.1) = ls) := hm
  have O5 : Hid (OwnB 5 (w5.alloc (.cells #[.int .i64 tm, .int .i64 nx, .slice ga ln gc, .slice ha sn hc] 31)) w3.heap.size v4 xs ∧ ∀ g, v4.ownBlock = some g → g < w4.heap.size) := ⟨own_below (own_below o4 b5) ((Below.refl _ _).alloc (Nat.le_refl _) _), fun g hg => (World.ownsRow.lt o4 g hg).2⟩
  have I6 : Hid (Iv w w3 w4 (w5.alloc (.cells #[.int .i64 tm, .int .i64 nx, .slice ga ln gc, .slice ha sn hc] 31)) w5.heap.size tm nx (.slice ga ln gc) (.slice ha sn hc) ms ss) :=
    ⟨(B3.trans (b35.mono B3.size)).alloc (Nat.le_trans B3.size b35.size) _, b35.alloc b35.size _, ⟨heap_alloc_new _ _, me.below ((Below.refl _ _).alloc (Nat.le_refl _) _)⟩, ⟨b5.size, b4.size, B3.size⟩⟩
  clear hm me b35 b4 b5 o4 B3 hml2
  unfold tabV
  go_upto_region 6 with fail
  generalize (w5.alloc (.cells #[.int .i64 tm, .int .i64 nx, .slice ga ln gc, .slice ha sn hc] 31)) = w6 at I6 O5 ⊢
  generalize w5.heap.size = x6 at I6 ⊢
  have HGR : Hid (∀ W, Zg W x6 w4.heap.size tm nx (.slice ga ln gc) (.slice ha sn hc) ms ss → RowL W (.slice ga ln gc) ls ∧ RowS W (.slice ha sn hc) ss) := fun W h => by
    obtain ⟨h1, h2⟩ := Mem.rows h.m
    rw [HMM.out] at h1
    exact ⟨h1, h2⟩
  obtain ⟨y0, y1, y2, y3⟩ := I6.out.g.c
  obtain ⟨z0, z1, z2, z3⟩ := (C2.out.below I6.out.n).c
  go_wp2_with fail
  refine (HEQ.out w6 _ _ _ _ (HGR.out _ I6.out.g).1 (HGR.out _ I6.out.g).2 (C2.out.below I6.out.n).l (C2.out.below I6.out.n).s).mono ?_
  rintro e w7 ⟨rfl, b7⟩
  have I7 : Hid (Iv w w3 w4 w7 x6 tm nx (.slice ga ln gc) (.slice ha sn hc) ms ss) := I6.out.below b7
  have O7 : Hid (OwnB 5 w7 w3.heap.size v4 xs ∧ ∀ g, v4.ownBlock = some g → g < w4.heap.size) := ⟨own_below O5.out.1 b7, O5.out.2⟩
  clear b7 I6 O5 y0 y1 y2 y3 z0 z1 z2 z3
  go_wp2_with fail
  refine (toByteS_any _ xs _ (HR.out.below I7.out.b) (HL.out ())).mono ?_
  rintro e w8 ⟨v8, rfl, t8, b8⟩
  have I8 : Hid (Iv w w3 w4 w8 x6 tm nx (.slice ga ln gc) (.slice ha sn hc) ms ss) := I7.out.below b8
  have O8 : Hid (OwnB 5 w8 w3.heap.size v4 xs ∧ ∀ g, v4.ownBlock = some g → g < w4.heap.size) := ⟨own_below O7.out.1 b8, O7.out.2⟩
  clear b8 I7 O7
  go_wp2_with fail
  refine (eqByteS_same _ _ xs _ (own_rowB O8.out.1 GR.out) t8 (HL.out ())).mono ?_
  rintro e w9 ⟨rfl, b9⟩
  have I9 : Hid (Iv w w3 w4 w9 x6 tm nx (.slice ga ln gc) (.slice ha sn hc) ms ss) := I8.out.below b9
  have O9 : Hid (OwnB 5 w9 w3.heap.size v4 xs ∧ ∀ g, v4.ownBlock = some g → g < w4.heap.size) := ⟨own_below O8.out.1 b9, O8.out.2⟩
  clear b9 I8 O8 t8
  go_wp2_with fail
  refine (markByteS_any _ xs 1 w3.heap.size _ O9.out.1 (by decide) (by decide) (by have := HL.out (); omega)).mono ?_
  rintro e w10 ⟨rfl, _, k10⟩
  have I10 : Hid (Iv w w3 w4 w10 x6 tm nx (.slice ga ln gc) (.slice ha sn hc) ms ss) := by
    have i := I9.out
    have bb := k10.below O9.out.1 i.n.size
    have kk : ∀ k, w4.heap.size ≤ k → k < w9.heap.size → w10.heap[k]? = w9.heap[k]? := fun k hk hl => k10.block k hl (fun e => by have := O9.out.2 k e.symm; omega)
    exact ⟨i.b.trans (bb.mono i.q.2.2), i.n.trans bb, ⟨(kk _ i.q.1 (Array.getElem?_eq_some_iff.1 i.g.k).1).trans i.g.k, i.g.m.kept fun k hk hl => kk k hk hl⟩, i.q⟩
  clear k10 I9 O9
  obtain ⟨y0, y1, y2, y3⟩ := I10.out.g.c
  obtain ⟨z0, z1, z2, z3⟩ := (C2.out.below I10.out.n).c
  go_wp2_with fail
  refine (HEQ.out w10 _ _ _ _ (HGR.out _ I10.out.g).1 (HGR.out _ I10.out.g).2 (C2.out.below I10.out.n).l (C2.out.below I10.out.n).s).mono ?_
  rintro e w11 ⟨rfl, b11⟩
  have I11 : Hid (Iv w w3 w4 w11 x6 tm nx (.slice ga ln gc) (.slice ha sn hc) ms ss) := I10.out.below b11
  clear b11 I10 y0 y1 y2 y3 z0 z1 z2 z3
  have HW4 : Hid (ms.length ≤ 100 ∧ (∀ m ∈ ms, m.1.ws.length ≤ 1000) ∧ ss.length ≤ 100) := by
    have g := GZ.out ()
    have e := congrArg List.length HMM.out
    rw [List.length_map] at e
    refine ⟨by omega, fun m hm => ?_, by omega⟩
    have := g.2.2 m.1 (by rw [← HMM.out]; exact List.mem_map_of_mem hm)
    omega
  obtain ⟨o, HOO⟩ : ∃ o, Hid (off ms 1 ms.length + ss.length * 6 = o) := ⟨_, rfl⟩
  have HMK : Hid (Calls Try.prog 16 #[.agg #[.int .i64 tm, .int .i64 nx, .slice ga ln gc, .slice ha sn hc], .int .i64 1] w11 fun e w' => e = .returned (.int .i64 (o : Int)) ∧ HeldT w' (.slice ga ln gc) (.slice ha sn hc) ms ss 1 ∧ Below w4.heap.size w11 w' ∧ TabK w11 w') := by
    have := markTable_any tm nx _ _ ms ss w4.heap.size w11 I11.out.g.m (Nat.le_trans I11.out.q.1 (Nat.le_of_lt (Array.getElem?_eq_some_iff.1 I11.out.g.k).1)) HW4.out.1 HW4.out.2.1 HW4.out.2.2
    rw [HOO.out] at this
    exact this
  have HHD : Hid (∀ W, HeldT W (.slice ga ln gc) (.slice ha sn hc) ms ss 1 → Calls Try.prog 27 #[.agg #[.int .i64 tm, .int .i64 nx, .slice ga ln gc, .slice ha sn hc], .int .i64 1] W fun e w' => e = .returned (.int .i64 (o : Int)) ∧ Below W.heap.size W w') := fun W h => by
    have := heldTable_any tm nx _ _ ms ss W h HW4.out.1 HW4.out.2.1 HW4.out.2.2
    rw [HOO.out] at this
    exact this
  have hno : ¬ ((o : Int) < 0) := by omega
  have hoo : ((o : Int) != (o : Int)) = false := by simp
  obtain ⟨y0, y1, y2, y3⟩ := I11.out.g.c
  go_wp2_with fail
  refine HMK.out.mono ?_
  rintro e w12 ⟨rfl, h12, b12, k12⟩
  have J12 : Hid (HeldT w12 (.slice ga ln gc) (.slice ha sn hc) ms ss 1 ∧ Below w.heap.size w w12 ∧ Below w3.heap.size w3 w12 ∧ w12.heap[x6]? = some (.cells #[.int .i64 tm, .int .i64 nx, .slice ga ln gc, .slice ha sn hc] 31 (0, 0))) := ⟨h12, I11.out.b.trans (b12.mono (Nat.le_trans I11.out.q.2.2 I11.out.q.2.1)), I11.out.n.trans (b12.mono I11.out.q.2.1), k12 _ _ I11.out.g.k⟩
  clear h12 b12 k12 I11 y0 y1 y2 y3 HMK
  have y0 := (blk_cell J12.out.2.2.2 0 (x := .int .i64 tm) rfl).1
  have y1 := (blk_cell J12.out.2.2.2 1 (x := .int .i64 nx) rfl).1
  have y2 := (blk_cell J12.out.2.2.2 2 (x := .slice ga ln gc) rfl).1
  have y3 := (blk_cell J12.out.2.2.2 3 (x := .slice ha sn hc) rfl).1
  go_wp2_with fail
  refine (HHD.out _ J12.out.1).mono ?_
  rintro e w13 ⟨rfl, b13⟩
  have J13 : Hid (HeldT w13 (.slice ga ln gc) (.slice ha sn hc) ms ss 1 ∧ Below w.heap.size w w13 ∧ Below w3.heap.size w3 w13 ∧ w13.heap[x6]? = some (.cells #[.int .i64 tm, .int .i64 nx, .slice ga ln gc, .slice ha sn hc] 31 (0, 0))) := ⟨J12.out.1.below b13, J12.out.2.1.trans (b13.mono J12.out.2.1.size), J12.out.2.2.1.trans (b13.mono J12.out.2.2.1.size), (b13.block _ (Array.getElem?_eq_some_iff.1 J12.out.2.2.2).1).trans J12.out.2.2.2⟩
  clear b13 J12 y0 y1 y2 y3
  go_wp2_with fail
  refine (toByteS_any _ xs _ (HR.out.below J13.out.2.1) (HL.out ())).mono ?_
  rintro e w14 ⟨v14, rfl, t14, b14⟩
  go_wp2_with fail
  refine (implReadTable_any _ xs w14 t14).mono ?_
  rintro e w15 ⟨p2, p3, mp, rfl, ⟨hm, me⟩, b15⟩
  rw [HX.out] at hm me
  rw [HX.out, HC.out]
  dsimp only at hm me ⊢
  obtain ⟨r2, s2⟩ := Mem.rows me
  rw [hm] at r2
  obtain ⟨pa, pc, rfl⟩ := RowG.slice r2
  obtain ⟨qa, qc, rfl⟩ := RowG.slice s2
  rw [HLN.out] at r2
  rw [HSN.out] at s2
  rw [HLN.out, HSN.out]
  have b1315 := andThen b14 (Nat.le_refl _) b15
  have bb := b1315.alloc b1315.size (.cells #[.int .i64 tm, .int .i64 nx, .slice pa ln pc, .slice qa sn qc] 31)
  have C16 : Hid (Zc (w15.alloc (.cells #[.int .i64 tm, .int .i64 nx, .slice pa ln pc, .slice qa sn qc] 31)) w15.heap.size tm nx (.slice pa ln pc) (.slice qa sn qc) ls ss) := ⟨heap_alloc_new _ _, r2.below ((Below.refl _ _).alloc (Nat.le_refl _) _), s2.below ((Below.refl _ _).alloc (Nat.le_refl _) _)⟩
  have J16 : Hid (HeldT (w15.alloc (.cells #[.int .i64 tm, .int .i64 nx, .slice pa ln pc, .slice qa sn qc] 31)) (.slice ga ln gc) (.slice ha sn hc) ms ss 1 ∧ Below w.heap.size w (w15.alloc (.cells #[.int .i64 tm, .int .i64 nx, .slice pa ln pc, .slice qa sn qc] 31)) ∧ Below w3.heap.size w3 (w15.alloc (.cells #[.int .i64 tm, .int .i64 nx, .slice pa ln pc, .slice qa sn qc] 31)) ∧ (w15.alloc (.cells #[.int .i64 tm, .int .i64 nx, .slice pa ln pc, .slice qa sn qc] 31)).heap[x6]? = some (.cells #[.int .i64 tm, .int .i64 nx, .slice ga ln gc, .slice ha sn hc] 31 (0, 0))) := ⟨J13.out.1.below bb, J13.out.2.1.trans (bb.mono J13.out.2.1.size), J13.out.2.2.1.trans (bb.mono J13.out.2.2.1.size), (bb.block _ (Array.getElem?_eq_some_iff.1 J13.out.2.2.2).1).trans J13.out.2.2.2⟩
  clear hm me b14 b15 b1315 bb t14 r2 s2 J13
  unfold tabV
  go_upto_region 23 with fail
  generalize (w15.alloc (.cells #[.int .i64 tm, .int .i64 nx, .slice pa ln pc, .slice qa sn qc] 31)) = w16 at C16 J16 ⊢
  generalize w15.heap.size = x16 at C16 ⊢
  obtain ⟨y0, y1, y2, y3⟩ := C16.out.c
  obtain ⟨z0, z1, z2, z3⟩ := (C2.out.below J16.out.2.2.1).c
  go_wp2_with fail
  refine (HEQ.out w16 _ _ _ _ C16.out.l C16.out.s (C2.out.below J16.out.2.2.1).l (C2.out.below J16.out.2.2.1).s).mono ?_
  rintro e w17 ⟨rfl, b17⟩
  have J17 : Hid (HeldT w17 (.slice ga ln gc) (.slice ha sn hc) ms ss 1 ∧ Below w.heap.size w w17 ∧ w17.heap[x6]? = some (.cells #[.int .i64 tm, .int .i64 nx, .slice ga ln gc, .slice ha sn hc] 31 (0, 0))) := ⟨J16.out.1.below b17, J16.out.2.1.trans (b17.mono J16.out.2.1.size), (b17.block _ (Array.getElem?_eq_some_iff.1 J16.out.2.2.2).1).trans J16.out.2.2.2⟩
  clear b17 J16 C16 C2 y0 y1 y2 y3 z0 z1 z2 z3
  have y0 := (blk_cell J17.out.2.2 0 (x := .int .i64 tm) rfl).1
  have y1 := (blk_cell J17.out.2.2 1 (x := .int .i64 nx) rfl).1
  have y2 := (blk_cell J17.out.2.2 2 (x := .slice ga ln gc) rfl).1
  have y3 := (blk_cell J17.out.2.2 3 (x := .slice ha sn hc) rfl).1
  go_wp2_with fail
  refine (HHD.out _ J17.out.1).mono ?_
  rintro e w18 ⟨rfl, b18⟩
  have B18 : Below w.heap.size w w18 := J17.out.2.1.trans (b18.mono J17.out.2.1.size)
  clear b18 J17 y0 y1 y2 y3
  go_wp2_with fail
  go_ret
  exact ⟨rfl, B18⟩
end Go.Proofs.Ytkjbdemhpnhagaa.Ra
