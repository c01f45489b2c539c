/-
 A table is read back from its bytes, and any bytes that are read are just those of what was read.
 Conditions: none beyond the given row's own; the package variable that it reads starts as the program's text lays it (the card ties it).
-/
import Derived.Test.YtakfniknkejgpaaDoorMt2
import Derived.Test.YtakfniknkejgpaaDoorMt21
import Derived.Test.YtakfniknkejgpaaDoorMt36
import Derived.Test.YtakfniknkejgpaaDoorMt37
import Derived.WalkKit
namespace Go.Proofs.YtakfniknkejgpaaDoor.fnTables
open Go.ChangeShapes Go.WideShapes Go.ChangeAt Go.RowKit
open Go.ChangeMaps (open_string shut_string)
open Go.Proofs.YtakfniknkejgpaaDoor.Hl (own laidOut rowed door_met)

open Go.Proofs.YtakfniknkejgpaaDoor.Ht
open Go.Proofs.YtakfniknkejgpaaDoor.Tp (TOK)
open Go.Proofs.YtakfniknkejgpaaDoor.Tb (Tab RowG.slice RowL RowS)
open Go.Proofs.YtakfniknkejgpaaDoor.Ea (TabOut tableOf_any)
open Go.Proofs.YtakfniknkejgpaaDoor.Ur (rtT rtC)
open Go.Proofs.YtakfniknkejgpaaDoor.Sh (KTab KTab.below)
open Go.Proofs.YtakfniknkejgpaaDoor.Sl (RowB RowB.below)
open Go.Proofs.YtakfniknkejgpaaDoor.Rr (RowU.of run_convert_row)
open Go.Proofs.YtakfniknkejgpaaDoor.Rg (bel_new)
open Go.Proofs.YtakfniknkejgpaaDoor.Ht (blk_new)
set_option maxRecDepth 100000 in
set_option maxHeartbeats 6400000 in
/-- THE WALK. -/
theorem walk (v0 : Value) (xs0 : List Int) {w : World} (r0 : RowB w v0 xs0) (v1 : Value) (xs1 : List Int) (r1 : RowB w v1 xs1) (hK : KTab w) (hp : 0 < w.heap.size) :
 Calls Tryd.prog 3 #[v0, v1] w fun e w' => e = .returned (.bool true) ∧ Below w.heap.size w w' := by
 have HKT : Hid (∀ W, Below w.heap.size w W → KTab W ∧ 0 < W.heap.size) := fun W hW => ⟨hK.below hW hp, Nat.lt_of_lt_of_le hp hW.size⟩
 have HR : Hid (∀ W, Below w.heap.size w W → RowB W v0 xs0 ∧ RowB W v1 xs1) := fun W hW => ⟨r0.below hW, r1.below hW⟩
 have HG : Hid (Rng xs1) := by obtain ⟨_, _, _, _, h⟩ := r1; exact h
 obtain ⟨a0, cA, rfl, _, _⟩ := r0
 obtain ⟨a1, cB, rfl, _, _⟩ := r1
 clear hK hp
 by_cases hbig : (1048576 : Int) < (xs0.length : Int)
 ·go_enter Tryd.func3, Tryd.ntmps3
  go_wp2
  go_ret
  exact ⟨rfl, Below.refl _ _⟩
 by_cases hbig2 : (1048576 : Int) < (xs1.length : Int)
 ·go_enter Tryd.func3, Tryd.ntmps3
  go_wp2
  go_ret
  exact ⟨rfl, Below.refl _ _⟩
 have hx0 : xs0.length ≤ 1048600 := by omega
 go_enter Tryd.func3, Tryd.ntmps3
 go_wp2_with fail
 refine (tableOf_any _ xs0 _ (HR.out w (Below.refl _ _)).1 hx0).mono ?_
 rintro e w1 ⟨⟨T, u, u2, rfl, hT, hrw⟩, b1⟩
 have HI0 : InT w1 u u2 T := fun W hW => hrw W (fun k _ hk => hW.block k hk)
 obtain ⟨h1, h2⟩ := HI0 w1 (Below.refl _ _)
 obtain ⟨a, c, rfl⟩ := RowG.slice h1
 obtain ⟨a2, c2, rfl⟩ := RowG.slice h2
 have HTB : Hid (rtC (tabB T) = 0 ∧ rtT (tabB T) = T) := rt_back T hT
 have HTV := HI0
 have HIB : Hid (∀ W, Below w1.heap.size w1 W → Calls Tryd.prog 6 #[tV T (.slice a T.ls.length c) (.slice a2 T.ss.length c2)] W fun e w' => ∃ x, e = .returned (.tuple #[x, .int .i64 0]) ∧ RowB w' x (tabB T) ∧ Below W.heap.size W w') := fun W hW => implBytes_ok hT (HI0 W hW)
 have HSB : Hid (∀ W, Below w1.heap.size w1 W → Calls Tryd.prog 7 #[tV T (.slice a T.ls.length c) (.slice a2 T.ss.length c2)] W fun e w' => ∃ x, e = .returned (.tuple #[x, .int .i64 0]) ∧ RowB w' x (tabB T) ∧ Below W.heap.size W w') := fun W hW => specBytes_ok hT (HI0 W hW)
 have HID : Hid (∀ W, Below w1.heap.size w1 W → Calls Tryd.prog 9 #[tV T (.slice a T.ls.length c) (.slice a2 T.ss.length c2)] W fun e w' => e = .returned (.tuple #[.string (dgT T), .int .i64 0]) ∧ Below W.heap.size W w') := fun W hW => implDigest_ok hT (HI0 W hW) (HKT.out W (b1.trans (hW.mono b1.size))).1 (HKT.out W (b1.trans (hW.mono b1.size))).2
 have HSD : Hid (∀ W, Below w1.heap.size w1 W → Calls Tryd.prog 10 #[tV T (.slice a T.ls.length c) (.slice a2 T.ss.length c2)] W fun e w' => e = .returned (.tuple #[.string (dgT T), .int .i64 0]) ∧ Below W.heap.size W w') := fun W hW => specDigest_ok hT (HI0 W hW)
 have HRD : Hid (∀ W v, RowB W v (tabB T) → Calls Tryd.prog 8 #[v] W fun e w' => ∃ b d b2 d2, e = .returned (.tuple #[tV T (.slice b T.ls.length d) (.slice b2 T.ss.length d2), .int .i64 0]) ∧ InT w' (.slice b T.ls.length d) (.slice b2 T.ss.length d2) T ∧ Below W.heap.size W w') := fun W v hv => by
  have h := implRead_ok v (tabB T) W hv
  unfold ReadP at h
  rw [HTB.out.1, HTB.out.2] at h
  exact h
 have HSM : Hid (∀ W b d b2 d2, Below w1.heap.size w1 W → InT W (.slice b T.ls.length d) (.slice b2 T.ss.length d2) T → Calls Tryd.prog 11 #[tV T (.slice b T.ls.length d) (.slice b2 T.ss.length d2), tV T (.slice a T.ls.length c) (.slice a2 T.ss.length c2)] W fun e w' => e = .returned (.bool true) ∧ Below W.heap.size W w') := fun W b d b2 d2 hW hi => same_ok hT b d b2 d2 a c a2 c2 W hi (HI0.below hW)
 unfold tV at HIB HSB HID HSD HRD HSM
 have HIN : Hid (∃ T', T' = T) := ⟨T, rfl⟩
 obtain ⟨IN, HINT⟩ : ∃ IN : World → Option Addr → Nat → Option Addr → Nat → Prop, ∀ W b d b2 d2, IN W b d b2 d2 ↔ InT W (.slice b T.ls.length d) (.slice b2 T.ss.length d2) T := ⟨fun W b d b2 d2 => InT W (.slice b T.ls.length d) (.slice b2 T.ss.length d2) T, fun _ _ _ _ _ => Iff.rfl⟩
 have HINB : Hid (∀ W W' b d b2 d2, IN W b d b2 d2 → Below W.heap.size W W' → IN W' b d b2 d2) := fun W W' b d b2 d2 h hb => (HINT _ _ _ _ _).2 (((HINT _ _ _ _ _).1 h).below hb)
 simp only [← HINT] at HRD HSM
 clear HTB HTV HI0 h1 h2 hrw hT HIN HINT hx0
 generalize tabB T = bs at HIB HSB HRD
 generalize dgT T = D at HID HSD
 generalize T.ls.length = nl at HIB HSB HID HSD HRD HSM ⊢
 generalize T.ss.length = ns at HIB HSB HID HSD HRD HSM ⊢
 generalize T.tm = tm at HIB HSB HID HSD HRD HSM ⊢
 generalize T.nx = nx at HIB HSB HID HSD HRD HSM ⊢
 have B2 : Hid ((w1.alloc (.cells #[.int .i64 tm, .int .i64 nx, .slice a nl c, .slice a2 ns c2] 26)).heap[w1.heap.size]? = some (.cells #[.int .i64 tm, .int .i64 nx, .slice a nl c, .slice a2 ns c2] 26 (0, 0)) ∧ Below w1.heap.size w1 (w1.alloc (.cells #[.int .i64 tm, .int .i64 nx, .slice a nl c, .slice a2 ns c2] 26))) := ⟨blk_new _ _ _, bel_new _ _⟩
 have B1 : Hid (Below w.heap.size w w1) := b1
 clear b1
 go_upto_region 4 with fail
 generalize w1.alloc (.cells #[.int .i64 tm, .int .i64 nx, .slice a nl c, .slice a2 ns c2] 26) = w2 at B2 ⊢
 generalize hxx : w1.heap.size = x at B2 ⊢
 rw [hxx] at HIB HSB HID HSD HSM
 have B1x : Hid (∀ W, Below x w1 W → Below w.heap.size w W) := fun W hW => B1.out.trans (hW.mono (by rw [← hxx]; exact B1.out.size))
 clear hxx B1
 have t0 := (Rg.blk_cell B2.out.1 0 (x := .int .i64 tm) rfl).1
 have t1 := (Rg.blk_cell B2.out.1 1 (x := .int .i64 nx) rfl).1
 have t2 := (Rg.blk_cell B2.out.1 2 (x := .slice a nl c) rfl).1
 have t3 := (Rg.blk_cell B2.out.1 3 (x := .slice a2 ns c2) rfl).1
 go_wp2_with fail
 refine (HIB.out _ B2.out.2).mono ?_
 rintro e w3 ⟨v3, rfl, r3, b3⟩
 have B3 : Hid (w3.heap[x]? = some (.cells #[.int .i64 tm, .int .i64 nx, .slice a nl c, .slice a2 ns c2] 26 (0, 0)) ∧ Below x w1 w3) := ⟨(b3.block _ (Array.getElem?_eq_some_iff.1 B2.out.1).1).trans B2.out.1, B2.out.2.trans (b3.mono (Nat.le_of_lt (Array.getElem?_eq_some_iff.1 B2.out.1).1))⟩
 have R3 : Hid (RowB w3 v3 bs) := r3
 clear r3 b3 B2 HIB
 clear t0 t1 t2 t3
 have t0 := (Rg.blk_cell B3.out.1 0 (x := .int .i64 tm) rfl).1
 have t1 := (Rg.blk_cell B3.out.1 1 (x := .int .i64 nx) rfl).1
 have t2 := (Rg.blk_cell B3.out.1 2 (x := .slice a nl c) rfl).1
 have t3 := (Rg.blk_cell B3.out.1 3 (x := .slice a2 ns c2) rfl).1
 go_wp2_with fail
 refine (HSB.out _ B3.out.2).mono ?_
 rintro e w4 ⟨v4, rfl, r4, b4⟩
 have B4 : Hid (w4.heap[x]? = some (.cells #[.int .i64 tm, .int .i64 nx, .slice a nl c, .slice a2 ns c2] 26 (0, 0)) ∧ Below x w1 w4) := ⟨(b4.block _ (Array.getElem?_eq_some_iff.1 B3.out.1).1).trans B3.out.1, B3.out.2.trans (b4.mono (Nat.le_of_lt (Array.getElem?_eq_some_iff.1 B3.out.1).1))⟩
 have R4 : Hid (RowB w4 v3 bs ∧ RowB w4 v4 bs) := ⟨R3.out.below b4, r4⟩
 clear r4 b4 B3 R3 HSB
 clear t0 t1 t2 t3
 go_wp2_with fail
 refine (HRD.out _ _ R4.out.1).mono ?_
 rintro e w5 ⟨b, d, b2, d2, rfl, i5, b5⟩
 have B5 : Hid (w5.heap[x]? = some (.cells #[.int .i64 tm, .int .i64 nx, .slice a nl c, .slice a2 ns c2] 26 (0, 0)) ∧ Below x w1 w5) := ⟨(b5.block _ (Array.getElem?_eq_some_iff.1 B4.out.1).1).trans B4.out.1, B4.out.2.trans (b5.mono (Nat.le_of_lt (Array.getElem?_eq_some_iff.1 B4.out.1).1))⟩
 have R5 : Hid (RowB w5 v3 bs ∧ RowB w5 v4 bs) := ⟨R4.out.1.below b5, R4.out.2.below b5⟩
 clear b5 B4 R4 HRD
 have n6 := bel_new w5 (.cells #[.int .i64 tm, .int .i64 nx, .slice b nl d, .slice b2 ns d2] 26)
 have l5 := (Array.getElem?_eq_some_iff.1 B5.out.1).1
 have B6 : Hid ((w5.alloc (.cells #[.int .i64 tm, .int .i64 nx, .slice b nl d, .slice b2 ns d2] 26)).heap[x]? = some (.cells #[.int .i64 tm, .int .i64 nx, .slice a nl c, .slice a2 ns c2] 26 (0, 0)) ∧ Below x w1 (w5.alloc (.cells #[.int .i64 tm, .int .i64 nx, .slice b nl d, .slice b2 ns d2] 26))) := ⟨(n6.block _ l5).trans B5.out.1, B5.out.2.trans (n6.mono (Nat.le_of_lt l5))⟩
 have E6 : Hid ((w5.alloc (.cells #[.int .i64 tm, .int .i64 nx, .slice b nl d, .slice b2 ns d2] 26)).heap[w5.heap.size]? = some (.cells #[.int .i64 tm, .int .i64 nx, .slice b nl d, .slice b2 ns d2] 26 (0, 0)) ∧ IN (w5.alloc (.cells #[.int .i64 tm, .int .i64 nx, .slice b nl d, .slice b2 ns d2] 26)) b d b2 d2) := ⟨blk_new _ _ _, HINB.out _ _ _ _ _ _ i5 n6⟩
 have R6 : Hid (RowB (w5.alloc (.cells #[.int .i64 tm, .int .i64 nx, .slice b nl d, .slice b2 ns d2] 26)) v3 bs ∧ RowB (w5.alloc (.cells #[.int .i64 tm, .int .i64 nx, .slice b nl d, .slice b2 ns d2] 26)) v4 bs) := ⟨R5.out.1.below n6, R5.out.2.below n6⟩
 clear i5 n6 l5 B5 R5
 go_upto_region 7 with fail
 generalize w5.alloc (.cells #[.int .i64 tm, .int .i64 nx, .slice b nl d, .slice b2 ns d2] 26) = w6 at B6 E6 R6 ⊢
 generalize w5.heap.size = y at E6 ⊢
 have t0 := (Rg.blk_cell B6.out.1 0 (x := .int .i64 tm) rfl).1
 have t1 := (Rg.blk_cell B6.out.1 1 (x := .int .i64 nx) rfl).1
 have t2 := (Rg.blk_cell B6.out.1 2 (x := .slice a nl c) rfl).1
 have t3 := (Rg.blk_cell B6.out.1 3 (x := .slice a2 ns c2) rfl).1
 go_wp2_with fail
 refine (HID.out _ B6.out.2).mono ?_
 rintro e w7 ⟨rfl, b7⟩
 have B7 : Hid (w7.heap[x]? = some (.cells #[.int .i64 tm, .int .i64 nx, .slice a nl c, .slice a2 ns c2] 26 (0, 0)) ∧ Below x w1 w7) := ⟨(b7.block _ (Array.getElem?_eq_some_iff.1 B6.out.1).1).trans B6.out.1, B6.out.2.trans (b7.mono (Nat.le_of_lt (Array.getElem?_eq_some_iff.1 B6.out.1).1))⟩
 have E7 : Hid (w7.heap[y]? = some (.cells #[.int .i64 tm, .int .i64 nx, .slice b nl d, .slice b2 ns d2] 26 (0, 0)) ∧ IN w7 b d b2 d2) := ⟨(b7.block _ (Array.getElem?_eq_some_iff.1 E6.out.1).1).trans E6.out.1, HINB.out _ _ _ _ _ _ E6.out.2 b7⟩
 have R7 : Hid (RowB w7 v3 bs ∧ RowB w7 v4 bs) := ⟨R6.out.1.below b7, R6.out.2.below b7⟩
 clear b7 B6 E6 R6 HID
 clear t0 t1 t2 t3
 have t0 := (Rg.blk_cell B7.out.1 0 (x := .int .i64 tm) rfl).1
 have t1 := (Rg.blk_cell B7.out.1 1 (x := .int .i64 nx) rfl).1
 have t2 := (Rg.blk_cell B7.out.1 2 (x := .slice a nl c) rfl).1
 have t3 := (Rg.blk_cell B7.out.1 3 (x := .slice a2 ns c2) rfl).1
 go_wp2_with fail
 refine (HSD.out _ B7.out.2).mono ?_
 rintro e w8 ⟨rfl, b8⟩
 have B8 : Hid (w8.heap[x]? = some (.cells #[.int .i64 tm, .int .i64 nx, .slice a nl c, .slice a2 ns c2] 26 (0, 0)) ∧ Below x w1 w8) := ⟨(b8.block _ (Array.getElem?_eq_some_iff.1 B7.out.1).1).trans B7.out.1, B7.out.2.trans (b8.mono (Nat.le_of_lt (Array.getElem?_eq_some_iff.1 B7.out.1).1))⟩
 have E8 : Hid (w8.heap[y]? = some (.cells #[.int .i64 tm, .int .i64 nx, .slice b nl d, .slice b2 ns d2] 26 (0, 0)) ∧ IN w8 b d b2 d2) := ⟨(b8.block _ (Array.getElem?_eq_some_iff.1 E7.out.1).1).trans E7.out.1, HINB.out _ _ _ _ _ _ E7.out.2 b8⟩
 have R8 : Hid (RowB w8 v3 bs ∧ RowB w8 v4 bs) := ⟨R7.out.1.below b8, R7.out.2.below b8⟩
 clear b8 B7 E7 R7 HSD
 clear t0 t1 t2 t3
 have t0 := (Rg.blk_cell B8.out.1 0 (x := .int .i64 tm) rfl).1
 have t1 := (Rg.blk_cell B8.out.1 1 (x := .int .i64 nx) rfl).1
 have t2 := (Rg.blk_cell B8.out.1 2 (x := .slice a nl c) rfl).1
 have t3 := (Rg.blk_cell B8.out.1 3 (x := .slice a2 ns c2) rfl).1
 have s0 := (Rg.blk_cell E8.out.1 0 (x := .int .i64 tm) rfl).1
 have s1 := (Rg.blk_cell E8.out.1 1 (x := .int .i64 nx) rfl).1
 have s2 := (Rg.blk_cell E8.out.1 2 (x := .slice b nl d) rfl).1
 have s3 := (Rg.blk_cell E8.out.1 3 (x := .slice b2 ns d2) rfl).1
 have hc3 := run_convert_row (P := Tryd.prog) w8 w8.heap.size 22 5 9 Tryd.underlying22 Tryd.underlying5 Tryd.underlying9 v3 bs (RowU.of R8.out.1)
 have hc4 := run_convert_row (P := Tryd.prog) w8 w8.heap.size 22 5 9 Tryd.underlying22 Tryd.underlying5 Tryd.underlying9 v4 bs (RowU.of R8.out.2)
 generalize strOfNums bs = sb at hc3 hc4
 have hsb : (sb.toList != sb.toList) = false := by simp
 have hdd : (D.toList != D.toList) = false := by simp
 go_wp2_with fail
 refine (HSM.out _ _ _ _ _ B8.out.2 E8.out.2).mono ?_
 rintro e w9 ⟨rfl, b9⟩
 have B9 : Hid (Below w.heap.size w w9) := B1x.out _ (B8.out.2.trans (b9.mono (Nat.le_of_lt (Array.getElem?_eq_some_iff.1 B8.out.1).1)))
 clear b9 B8 E8 R8 hc3 hc4 hsb HSM HINB
 clear t0 t1 t2 t3
 clear s0 s1 s2 s3
 go_wp2_with fail
 refine (implRead_ok _ xs1 _ (HR.out _ B9.out).2).mono ?_
 clear hdd B1x
 rintro e wa ⟨p, q, p2, q2, rfl, ia, ba⟩
 have HQ0 := rt_again xs1 HG.out
 have HTK : Hid (rtC xs1 = 0 → ∀ W, Below wa.heap.size wa W → Calls Tryd.prog 6 #[tV (rtT xs1) (.slice p (rtT xs1).ls.length q) (.slice p2 (rtT xs1).ss.length q2)] W fun e w' => ∃ x, e = .returned (.tuple #[x, .int .i64 0]) ∧ RowB w' x xs1 ∧ Below W.heap.size W w') := fun h W hW => by
  obtain ⟨g1, g2⟩ := HQ0 h
  have := implBytes_ok g2 (ia W hW)
  rw [g1] at this
  exact this
 have HSR : Hid (∀ W, Below w.heap.size w W → Calls Tryd.prog 12 #[.slice a1 xs1.length cB] W fun e w' => ∃ e' k e2 k2, e = .returned (.tuple #[tV (rtT xs1) (.slice e' (rtT xs1).ls.length k) (.slice e2 (rtT xs1).ss.length k2), .int .i64 (rtC xs1)]) ∧ Below W.heap.size W w') := fun W hW => by
  refine (specRead_ok _ xs1 W (HR.out _ hW).2).mono ?_
  rintro e w' ⟨e', k, e2, k2, rfl, _, hb⟩
  exact ⟨e', k, e2, k2, rfl, hb⟩
 have Ba : Hid (Below w.heap.size w wa) := B9.out.trans (ba.mono B9.out.size)
 unfold tV at HTK HSR ⊢
 clear HQ0 ia ba B9
 generalize (rtT xs1).ls.length = yl at HTK HSR ⊢
 generalize (rtT xs1).ss.length = ys_ at HTK HSR ⊢
 generalize (rtT xs1).tm = ym at HTK HSR ⊢
 generalize (rtT xs1).nx = yx at HTK HSR ⊢
 generalize rtC xs1 = cd at HTK HSR ⊢
 have nb := bel_new wa (.cells #[.int .i64 ym, .int .i64 yx, .slice p yl q, .slice p2 ys_ q2] 26)
 have Bb : Hid ((wa.alloc (.cells #[.int .i64 ym, .int .i64 yx, .slice p yl q, .slice p2 ys_ q2] 26)).heap[wa.heap.size]? = some (.cells #[.int .i64 ym, .int .i64 yx, .slice p yl q, .slice p2 ys_ q2] 26 (0, 0)) ∧ Below wa.heap.size wa (wa.alloc (.cells #[.int .i64 ym, .int .i64 yx, .slice p yl q, .slice p2 ys_ q2] 26)) ∧ Below w.heap.size w (wa.alloc (.cells #[.int .i64 ym, .int .i64 yx, .slice p yl q, .slice p2 ys_ q2] 26))) := ⟨blk_new _ _ _, nb, Ba.out.trans (nb.mono Ba.out.size)⟩
 have Lb : Hid (w.heap.size ≤ wa.heap.size) := Ba.out.size
 clear nb Ba
 go_upto_region 12 with fail
 generalize wa.alloc (.cells #[.int .i64 ym, .int .i64 yx, .slice p yl q, .slice p2 ys_ q2] 26) = wb at Bb ⊢
 generalize hzz : wa.heap.size = z at Bb HTK Lb ⊢
 clear hzz
 go_wp2_with fail
 refine (HSR.out _ Bb.out.2.2).mono ?_
 rintro e wc ⟨e', k, e2, k2, rfl, bc⟩
 have nd := bel_new wc (.cells #[.int .i64 ym, .int .i64 yx, .slice e' yl k, .slice e2 ys_ k2] 26)
 have bcd := bc.trans (nd.mono bc.size)
 have lb := (Array.getElem?_eq_some_iff.1 Bb.out.1).1
 have Bd : Hid ((wc.alloc (.cells #[.int .i64 ym, .int .i64 yx, .slice e' yl k, .slice e2 ys_ k2] 26)).heap[z]? = some (.cells #[.int .i64 ym, .int .i64 yx, .slice p yl q, .slice p2 ys_ q2] 26 (0, 0)) ∧ Below z wa (wc.alloc (.cells #[.int .i64 ym, .int .i64 yx, .slice e' yl k, .slice e2 ys_ k2] 26)) ∧ Below w.heap.size w (wc.alloc (.cells #[.int .i64 ym, .int .i64 yx, .slice e' yl k, .slice e2 ys_ k2] 26))) := ⟨(bcd.block _ lb).trans Bb.out.1, Bb.out.2.1.trans (bcd.mono (by omega)), Bb.out.2.2.trans (bcd.mono Bb.out.2.2.size)⟩
 clear bc nd bcd lb Bb HSR
 go_upto_region 13 with fail
 generalize wc.alloc (.cells #[.int .i64 ym, .int .i64 yx, .slice e' yl k, .slice e2 ys_ k2] 26) = wd at Bd ⊢
 have hcc : (cd != cd) = false := by simp
 by_cases h0 : cd = 0
 ·subst h0
  have HT0 : Hid (∀ W, Below z wa W → Calls Tryd.prog 6 #[.agg #[.int .i64 ym, .int .i64 yx, .slice p yl q, .slice p2 ys_ q2]] W fun e w' => ∃ x, e = .returned (.tuple #[x, .int .i64 0]) ∧ RowB w' x xs1 ∧ Below W.heap.size W w') := HTK.out rfl
  clear HTK hcc
  have t0 := (Rg.blk_cell Bd.out.1 0 (x := .int .i64 ym) rfl).1
  have t1 := (Rg.blk_cell Bd.out.1 1 (x := .int .i64 yx) rfl).1
  have t2 := (Rg.blk_cell Bd.out.1 2 (x := .slice p yl q) rfl).1
  have t3 := (Rg.blk_cell Bd.out.1 3 (x := .slice p2 ys_ q2) rfl).1
  go_wp2_with fail
  refine (HT0.out _ Bd.out.2.1).mono ?_
  rintro e we ⟨ve, rfl, re, be⟩
  have Be : Hid (Below w.heap.size w we) := Bd.out.2.2.trans (be.mono Bd.out.2.2.size)
  have Re : Hid (RowB we ve xs1 ∧ RowB we (.slice a1 xs1.length cB) xs1) := ⟨re, (HR.out _ Be.out).2⟩
  clear re be Bd HT0
  clear t0 t1 t2 t3
  have hc3 := run_convert_row (P := Tryd.prog) we we.heap.size 22 5 9 Tryd.underlying22 Tryd.underlying5 Tryd.underlying9 ve xs1 (RowU.of Re.out.1)
  have hc4 := run_convert_row (P := Tryd.prog) we we.heap.size 22 5 9 Tryd.underlying22 Tryd.underlying5 Tryd.underlying9 _ xs1 (RowU.of Re.out.2)
  generalize strOfNums xs1 = sb at hc3 hc4
  have hsb : (sb.toList == sb.toList) = true := by simp
  go_wp2_with fail
  go_ret
  exact ⟨rfl, Be.out⟩
 ·have hne : (cd != 0) = true := by simp [h0]
  have Be : Hid (Below w.heap.size w wd) := Bd.out.2.2
  clear HTK Bd
  go_wp2_with fail
  go_ret
  exact ⟨rfl, Be.out⟩

set_option maxRecDepth 100000 in
theorem lifted (os : Os) (started : os.Started) (H : Type) (enc : TypeId × Value → H) :
 ReturnsInHanded {} Tryd.checked os 3 .any (fun w args => (Rows.fnTablesSpec.pre enc Tryd.prog Tryd.f3 [] false w args ∧ laidMetH Tryd.prog Rows.fnTablesRow.laid w) ∧ sizedMet enc Tryd.prog Tryd.f3 (OpenSpec.ofChange Rows.fnTablesSpec) false w args)
  (Rows.fnTablesSpec.post enc Tryd.prog Tryd.f3 false true false false) := by
 refine returnsInHanded_of_change_and (C := Tryd.checked) (X := fun w _ => laidMetH Tryd.prog Rows.fnTablesRow.laid w) (fun _ _ _ hh h => h.of_heap hh) own started (by kernel_rfl) Tryd.func3
  (ChangeSpec.witness_shaped (enc := enc) (C := Tryd.checked) (os := os) (X := fun w _ => laidMetH Tryd.prog Rows.fnTablesRow.laid w) false (World.doorLaid Tryd.prog 400 os) #[.slice none 0 0, .slice none 0 0] 8 rfl (World.shaped_of_RefB (by kernel_rfl) (by kernel_rfl)) (by kernel_rfl) (by kernel_rfl) (by kernel_rfl) (door_met os _)) ?_
 intro W base args ds gs before hval0 hW _ _ hL _
 have hval : ∀ (j : Nat) t v, Tryd.f3.params[j]? = some t → args[j]? = some v → Value.okWide Tryd.prog W .any base t v := hval0
 have hW' := hW
 obtain ⟨p, q, hA0, hV0, rfl, hfz, hnd⟩ := hW
 have hA : DataW.TrodAll enc Tryd.prog W 0 (fun _ => true) true Tryd.f3.params.toList args.toList ds p := hA0
 have hV : DataW.TrodVars enc Tryd.prog W (fun _ => true) ["loop.example/g00292/impl.roundWords"] gs q := hV0
 rw [Tryd.params3] at hA hval
 obtain ⟨v0, vs0, d0, ds0, p0, q0, hargs, rfl, rfl, h0, r0⟩ := trodAll_cons hA
 obtain ⟨v1, vs1, d1, ds1, p1, q1, rfl, rfl, rfl, h1, r1⟩ := trodAll_cons r0
 obtain ⟨rfl, rfl, rfl⟩ := trodAll_nil r1
 obtain rfl : args = #[v0, v1] := by cases args; simp_all
 obtain ⟨_, _, _, _, dv, _, rfl, _⟩ := trodVars_one hV
 have k00 := h0
 have lt0 : ∀ x ∈ p0, x.block < W.heap.size := by obtain ⟨m, hm⟩ := k00; exact DataW.trod_lt m _ _ _ hm
 obtain ⟨xs0, w0⟩ := Op.open_bytes (hval 0 22 v0 rfl rfl) h0 (fun _ => rfl)
 have k10 := h1
 have lt1 : ∀ x ∈ p1, x.block < W.heap.size := by obtain ⟨m, hm⟩ := k10; exact DataW.trod_lt m _ _ _ hm
 obtain ⟨xs1, w1⟩ := Op.open_bytes (hval 1 22 v1 rfl rfl) h1 (fun _ => rfl)
 clear hA0 hval0 hV0
 have hT := Hl.tab_of hL
 refine (walk v0 xs0 w0 v1 xs1 w1 hT.1 hT.2).mono fun e W' ⟨he, bel⟩ => ?_
 subst he
 exact ⟨_, rfl, _, _, _, [], _, q, hW', trodAll_mk1 (shut_bool Tryd.underlying4 _), (trodAll_cons_mk (Below.trod laidOut (by kernel_rfl) (of_decide_eq_true (by kernel_rfl)) k00 bel lt0) (trodAll_cons_mk (Below.trod laidOut (by kernel_rfl) (of_decide_eq_true (by kernel_rfl)) k10 bel lt1) trodAll_mk0)), Below.trodVars laidOut bel rowed hV, bel.frame _, fun h => by cases h⟩

theorem said : Rows.FnTablesSaid :=
 OpenClaim.holds_of_wide 3 Tryd.f3 rfl rfl rfl rfl rfl rfl rfl ⟨rfl, rfl, rfl, rfl, rfl⟩ rfl rfl rfl rfl rfl (by kernel_rfl) Tryd.func3 (by kernel_rfl)
  (of_decide_eq_true (by kernel_rfl)) (by unfold Func.isWrapper; first | (rw [if_pos (by decide +kernel)]; kernel_rfl) | (rw [if_neg (by decide +kernel)]; exact ⟨rfl, rfl⟩))
  (fun os started H enc _ => lifted os started H enc)

/-- No parameter wants a stand-in; the program's own looks are off. -/
theorem plain (f : FuncId) (fn : Func) (hf : Tryd.pinned.checked.prog.funcNamed "loop.example/g00292/laws.FnTables" = some f) (hfn : Tryd.pinned.checked.prog.funcs[f]? = some fn) :
 false = Tryd.pinned.checked.prog.looks [] ∧ ∀ (j : Nat) t, fn.params[j]? = some t → Tryd.pinned.checked.prog.wantsStandIn t = false := by
 obtain rfl : f = 3 := Option.some.inj ((show Tryd.prog.funcNamed "loop.example/g00292/laws.FnTables" = some 3 by kernel_rfl).symm.trans hf) |>.symm
 obtain rfl : fn = Tryd.f3 := (Option.some.inj (Tryd.func3.symm.trans hfn)).symm
 refine ⟨by kernel_rfl, fun j t ht => ?_⟩
 rw [Tryd.params3] at ht
 have hm := Array.mem_of_getElem? ht
 have hl : t ∈ [22, 22] := by simpa using hm
 have hall : ∀ x ∈ [22, 22], Tryd.prog.wantsStandIn x = false := by
  intro x hx
  simp only [List.mem_cons, List.not_mem_nil, or_false] at hx
  rcases hx with rfl | rfl <;> kernel_rfl
 exact hall t hl
end Go.Proofs.YtakfniknkejgpaaDoor.fnTables
namespace Go.Proofs.YtakfniknkejgpaaDoor
/-- THE STATEMENT: the card. -/
theorem fnTables_holds : Rows.FnTablesCardSaid :=
 Claim7.holds_tied_plain_at .later [] _ _ _ _ fnTables.said (fun _ h => by cases h) (by kernel_rfl) (fun _ h => by cases h) fnTables_row_tie rfl ⟨rfl, rfl⟩ (by kernel_rfl) rfl fnTables.plain (by kernel_rfl)
end Go.Proofs.YtakfniknkejgpaaDoor
