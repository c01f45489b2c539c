/-
 A table's bytes are put together again out of their pieces, and each piece is proved.
 Conditions: none beyond the given row's own; the package variable that it reads starts as the program's text lays it (the card ties it).
-/
import Derived.Test.YtakfniknkejgpaaDoorMp2
import Derived.Test.YtakfniknkejgpaaDoorMp9
import Derived.Test.YtakfniknkejgpaaDoorMp19
import Derived.Test.YtakfniknkejgpaaDoorMp36
import Derived.Test.YtakfniknkejgpaaDoorMp37
import Derived.Test.YtakfniknkejgpaaDoorMp18
import Derived.Test.YtakfniknkejgpaaDoorMp31
import Derived.Test.YtakfniknkejgpaaDoorMp38
import Derived.WalkKit
namespace Go.Proofs.YtakfniknkejgpaaDoor.fnPieces
open Go.ChangeShapes Go.WideShapes Go.ChangeAt Go.RowKit
open Go.ChangeMaps (open_string shut_string)
open Go.Proofs.YtakfniknkejgpaaDoor.Hl (own laidOut rowed door_met)

open Go.Proofs.YtakfniknkejgpaaDoor.Ht (tV specBytes_ok tabB tabB_range tab_len)
open Go.Proofs.YtakfniknkejgpaaDoor.Tp (TOK)
open Go.Proofs.YtakfniknkejgpaaDoor.Tb (Tab RowG.slice RowL RowS)
open Go.Proofs.YtakfniknkejgpaaDoor.Ea (TabOut tableOf_any)
open Go.Proofs.YtakfniknkejgpaaDoor.Sh (KTab KTab.below)
open Go.Proofs.YtakfniknkejgpaaDoor.Sl (RowB RowB.below)
open Go.Proofs.YtakfniknkejgpaaDoor.Rr (RowU.of run_convert_row)
open Go.Proofs.YtakfniknkejgpaaDoor.Tx (RowT RowT.below OwnS OwnS.row tnth tnth_mem)
open Go.Proofs.YtakfniknkejgpaaDoor.Hp (pieces_ok)
open Go.Proofs.YtakfniknkejgpaaDoor.Pf (pcC)
open Go.Proofs.YtakfniknkejgpaaDoor.Pg (cutC cutL)
open Go.Proofs.YtakfniknkejgpaaDoor.By
open Go.Proofs.YtakfniknkejgpaaDoor.Ap (bys bys_length)
theorem other_size (t : ByteArray) (m : Nat) (ht : t.size ≤ 32) : ((⟨#[111, 116, 104, 101, 114]⟩ : ByteArray) ++ t.extract 0 m).size ≤ 37 := by
 rw [ByteArray.size_append, ByteArray.size_extract]
 have : (⟨#[111, 116, 104, 101, 114]⟩ : ByteArray).size = 5 := rfl
 omega
theorem ownS_slice {w : World} {B : Nat} {v : Value} {ts : List ByteArray} (h : OwnS w B v ts) : ∃ a cap, v = .slice a ts.length cap := by
 obtain ⟨_, h | ⟨g, cap, cur, rfl, _⟩⟩ := h
 ·exact ⟨none, 0, by rw [h.1, h.2]⟩
 ·exact ⟨_, cap, rfl⟩
theorem andThen {B : Nat} {W w1 w2 : World} (h : Below B W w1) (hB : B ≤ W.heap.size) (h2 : Below w1.heap.size w1 w2) : Below B W w2 := h.trans (h2.mono (Nat.le_trans hB h.size))
set_option maxRecDepth 100000 in
set_option maxHeartbeats 6400000 in
/-- THE WALK. -/
theorem walk (v0 : Value) (xs0 : List Int) {w : World} (r0 : RowB w v0 xs0) (v1 : Value) (xs1 : List Int) (r1 : RowB w v1 xs1) (hK : KTab w) (hp : 0 < w.heap.size) :
 Calls Tryd.prog 4 #[v0, v1] w fun e w' => e = .returned (.bool true) ∧ Below w.heap.size w w' := by
 have HKT : Hid (∀ W, Below w.heap.size w W → KTab W ∧ 0 < W.heap.size) := fun W hW => ⟨hK.below hW hp, Nat.lt_of_lt_of_le hp hW.size⟩
 have HR : Hid (∀ W, Below w.heap.size w W → RowB W v0 xs0 ∧ RowB W v1 xs1) := fun W hW => ⟨r0.below hW, r1.below hW⟩
 obtain ⟨a0, cA, rfl, _, _⟩ := r0
 obtain ⟨a1, cB, rfl, _, _⟩ := r1
 clear hK hp
 by_cases hbig : (1048576 : Int) < (xs0.length : Int)
 ·go_enter Tryd.func4, Tryd.ntmps4
  go_wp2
  go_ret
  exact ⟨rfl, Below.refl _ _⟩
 by_cases hbig2 : (1048576 : Int) < (xs1.length : Int)
 ·go_enter Tryd.func4, Tryd.ntmps4
  go_wp2
  go_ret
  exact ⟨rfl, Below.refl _ _⟩
 have hx0 : xs0.length ≤ 1048600 := by omega
 have HX1 : Hid (xs1.length ≤ 1048576) := by show _ ≤ _; omega
 go_enter Tryd.func4, Tryd.ntmps4
 go_wp2_with fail
 refine (tableOf_any _ xs0 _ (HR.out w (Below.refl _ _)).1 hx0).mono ?_
 rintro e w1 ⟨⟨T, u, u2, rfl, hT, hrw⟩, b1⟩
 have HSB : Hid (Calls Tryd.prog 7 #[tV T u u2] w1 fun e w' => ∃ x, e = .returned (.tuple #[x, .int .i64 0]) ∧ RowB w' x (tabB T) ∧ Below w1.heap.size w1 w') := specBytes_ok hT (hrw w1 (fun k _ _ => rfl))
 have HP0 := pieces_ok (xs := tabB T) (tabB_range T) (by unfold tabB Pt.tabBs; simp only [List.length_append, Pu.nums_length]; omega) (by have := tab_len T hT; omega)
 have HRG : Hid (∀ z ∈ tabB T, 0 ≤ z ∧ z ≤ 255) := tabB_range T
 have HLN : Hid ((tabB T).length ≤ 1048576) := by show _ ≤ _; have := tab_len T hT; omega
 unfold tV at HSB
 clear hT hrw hx0
 generalize tabB T = bs at HSB HP0 HRG HLN
 obtain ⟨p1, p2, p3, p4, p5, p6, p7, p8⟩ := HP0
 have HJ : Hid (Pj.jnL (cutL bs) = bs) := by show _ = _; unfold Pj.jnL; rw [if_pos p2]; exact p3
 obtain ⟨ts, HTS⟩ : ∃ ts, Hid (cutL bs = ts) := ⟨_, rfl⟩
 rw [HTS.out] at p2 p3 p4 p5 p6 p7 p8 HJ
 have HL : Hid (1 ≤ ts.length ∧ ts.length ≤ 64) := p4
 have HZ : Hid (∀ t ∈ ts, t.size ≤ 32) := p5
 have H8 : Hid (∀ k, k < ts.length → Py.pvC ts (k : Int) = 0 ∧ Py.pvL ts (k : Int) = Py.pathF 64 ts k ∧ Pw.ckC (Py.rootF 64 ts) (tnth ts k) (k : Int) (ts.length : Int) (Py.pathF 64 ts k) = 0) := p8
 have HCI : Hid (∀ W v, RowB W v bs → Calls Tryd.prog 13 #[v] W fun e w' => ∃ a c, e = .returned (.tuple #[.slice a ts.length c, .int .i64 0]) ∧ RowT w' (.slice a ts.length c) ts ∧ Below W.heap.size W w') := fun W v hv => by
  refine (Pg.implCutPieces_any v bs W hv HLN.out).mono ?_
  rintro e w' ⟨x, rfl, o, b⟩
  rw [HTS.out] at o
  obtain ⟨a, c, rfl⟩ := ownS_slice o
  exact ⟨a, c, by rw [p1], o.row, b⟩
 have HCS : Hid (∀ W v, RowB W v bs → Calls Tryd.prog 14 #[v] W fun e w' => ∃ x, e = .returned (.tuple #[x, .int .i64 0]) ∧ RowT w' x ts ∧ Below W.heap.size W w') := fun W v hv => by
  refine (Pg.specCutPieces_any v bs W hv HLN.out).mono ?_
  rintro e w' ⟨x, rfl, o, b⟩
  rw [HTS.out] at o
  exact ⟨x, by rw [p1], o.row, b⟩
 have HJP : Hid (∀ W v, RowT W v ts → Calls Tryd.prog 15 #[v] W fun e w' => ∃ x, e = .returned (.tuple #[x, .int .i64 0]) ∧ RowB w' x bs ∧ Below W.heap.size W w') := fun W v hv => by
  refine (Pj.implJoinPieces_any v ts W hv (by have := HL.out.2; omega)).mono ?_
  rintro e w' ⟨x, rfl, o, b⟩
  rw [HJ.out] at o
  exact ⟨x, by rw [p2], o.row HRG.out, b⟩
 have HPI : Hid (∀ W v, RowT W v ts → Below w.heap.size w W → Calls Tryd.prog 16 #[v] W fun e w' => e = .returned (.tuple #[.string (Py.rootF 64 ts), .int .i64 0]) ∧ Below W.heap.size W w') := fun W v hv hW => by
  have h := Py.implPiecesRoot_any v ts W hv (by have := HL.out.2; omega) (HKT.out W hW).1 (HKT.out W hW).2
  rw [p2, p6] at h
  exact h
 have HPS : Hid (∀ W v, RowT W v ts → Calls Tryd.prog 17 #[v] W fun e w' => e = .returned (.tuple #[.string (Py.rootF 64 ts), .int .i64 0]) ∧ Below W.heap.size W w') := fun W v hv => by
  have h := Py.specPiecesRoot_any v ts W hv (by have := HL.out.2; omega)
  rw [p2, p6] at h
  exact h
 have HPP : Hid (∀ k, k < ts.length → ∀ W v, RowT W v ts → Below w.heap.size w W → Calls Tryd.prog 20 #[v, .int .i64 (k : Int)] W fun e w' => ∃ a n c, e = .returned (.tuple #[.slice a n c, .int .i64 0]) ∧ RowT w' (.slice a n c) (Py.pathF 64 ts k) ∧ Below W.heap.size W w') := fun k hk W v hv hW => by
  obtain ⟨q1, q2, _⟩ := H8.out k hk
  refine (Py.implProvePiece_any v ts (k : Int) W hv (by have := HL.out.2; omega) (HKT.out W hW).1 (HKT.out W hW).2).mono ?_
  rintro e w' ⟨x, rfl, o, b⟩
  rw [q2] at o
  obtain ⟨a, c, rfl⟩ := ownS_slice o
  exact ⟨a, _, c, by rw [q1], o.row, b⟩
 have HCK : Hid (∀ k, k < ts.length → ∀ W v, RowT W v (Py.pathF 64 ts k) → Below w.heap.size w W → Calls Tryd.prog 21 #[.string (Py.rootF 64 ts), .string (tnth ts k), .int .i64 (k : Int), .int .i64 (ts.length : Int), v] W fun e w' => e = .returned (.int .i64 0) ∧ Below W.heap.size W w') := fun k hk W v hv hW => by
  have h := Pw.implCheckPiece_any (Py.rootF 64 ts) (tnth ts k) (k : Int) (ts.length : Int) v _ W hv (by have := Py.pathF_length 64 ts k; omega) (HKT.out W hW).1 (HKT.out W hW).2
  rw [(H8.out k hk).2.2] at h
  exact h
 have HCO : Hid (∀ k, k < ts.length → ∀ z : ByteArray, z.size ≤ 37 → ∃ cd : Int, (∀ W v, RowT W v (Py.pathF 64 ts k) → Below w.heap.size w W → Calls Tryd.prog 21 #[.string (Py.rootF 64 ts), .string z, .int .i64 (k : Int), .int .i64 (ts.length : Int), v] W fun e w' => e = .returned (.int .i64 cd) ∧ Below W.heap.size W w') ∧ (∀ W v, RowT W v (Py.pathF 64 ts k) → Calls Tryd.prog 22 #[.string (Py.rootF 64 ts), .string z, .int .i64 (k : Int), .int .i64 (ts.length : Int), v] W fun e w' => e = .returned (.int .i64 cd) ∧ Below W.heap.size W w')) := fun k hk z hz =>
  ⟨Pw.ckC (Py.rootF 64 ts) z (k : Int) (ts.length : Int) (Py.pathF 64 ts k), fun W v hv hW => Pw.implCheckPiece_any _ z (k : Int) (ts.length : Int) v _ W hv (by have := Py.pathF_length 64 ts k; omega) (HKT.out W hW).1 (HKT.out W hW).2, fun W v hv => Pw.specCheckPiece_any _ z (k : Int) (ts.length : Int) v _ W hv (by have := Py.pathF_length 64 ts k; omega)⟩
 have B1 : Hid (Below w.heap.size w w1) := b1
 clear p1 p2 p3 p4 p5 p6 p7 p8 HJ HTS H8 b1
 generalize Py.rootF 64 ts = root at HPI HPS HCK HCO
 go_wp2_with fail
 refine HSB.out.mono ?_
 rintro e w2 ⟨v2, rfl, r2, b2⟩
 have B2 : Hid (Below w.heap.size w w2 ∧ RowB w2 v2 bs) := ⟨andThen B1.out (Nat.le_refl _) b2, r2⟩
 clear r2 b2 B1 HSB
 go_wp2_with fail
 refine (HCI.out _ _ B2.out.2).mono ?_
 rintro e w3 ⟨al, cl, rfl, r3, b3⟩
 have B3 : Hid (Below w.heap.size w w3 ∧ RowB w3 v2 bs ∧ RowT w3 (.slice al ts.length cl) ts) := ⟨andThen B2.out.1 (Nat.le_refl _) b3, B2.out.2.below b3, r3⟩
 clear r3 b3 B2 HCI
 go_wp2_with fail
 refine (HCS.out _ _ B3.out.2.1).mono ?_
 rintro e w4 ⟨v4, rfl, r4, b4⟩
 have B4 : Hid (Below w.heap.size w w4 ∧ RowB w4 v2 bs ∧ RowT w4 (.slice al ts.length cl) ts ∧ RowT w4 v4 ts) := ⟨andThen B3.out.1 (Nat.le_refl _) b4, B3.out.2.1.below b4, B3.out.2.2.below b4, r4⟩
 clear r4 b4 B3 HCS
 go_wp2_with fail
 refine (HJP.out _ _ B4.out.2.2.1).mono ?_
 rintro e w5 ⟨v5, rfl, r5, b5⟩
 have B5 : Hid (Below w.heap.size w w5 ∧ RowB w5 v2 bs ∧ RowT w5 (.slice al ts.length cl) ts ∧ RowT w5 v4 ts ∧ RowB w5 v5 bs) := ⟨andThen B4.out.1 (Nat.le_refl _) b5, B4.out.2.1.below b5, B4.out.2.2.1.below b5, B4.out.2.2.2.below b5, r5⟩
 clear r5 b5 B4 HJP
 go_wp2_with fail
 refine (HPI.out _ _ B5.out.2.2.1 B5.out.1).mono ?_
 rintro e w6 ⟨rfl, b6⟩
 have B6 : Hid (Below w.heap.size w w6 ∧ RowB w6 v2 bs ∧ RowT w6 (.slice al ts.length cl) ts ∧ RowT w6 v4 ts ∧ RowB w6 v5 bs) := ⟨andThen B5.out.1 (Nat.le_refl _) b6, B5.out.2.1.below b6, B5.out.2.2.1.below b6, B5.out.2.2.2.1.below b6, B5.out.2.2.2.2.below b6⟩
 clear b6 B5 HPI
 go_wp2_with fail
 refine (HPS.out _ _ B6.out.2.2.1).mono ?_
 rintro e w7 ⟨rfl, b7⟩
 have B7 : Hid (Below w.heap.size w w7 ∧ RowB w7 v2 bs ∧ RowT w7 (.slice al ts.length cl) ts ∧ RowT w7 v4 ts ∧ RowB w7 v5 bs) := ⟨andThen B6.out.1 (Nat.le_refl _) b7, B6.out.2.1.below b7, B6.out.2.2.1.below b7, B6.out.2.2.2.1.below b7, B6.out.2.2.2.2.below b7⟩
 clear b7 B6 HPS
 go_wp2_with fail
 refine (Hst.sameTexts_same _ _ ts _ B7.out.2.2.1 B7.out.2.2.2.1 (by have := HL.out.2; omega)).mono ?_
 rintro e w8 ⟨rfl, b8⟩
 have B8 : Hid (Below w.heap.size w w8 ∧ RowT w8 (.slice al ts.length cl) ts) := ⟨andThen B7.out.1 (Nat.le_refl _) b8, B7.out.2.2.1.below b8⟩
 have hc5 := run_convert_row (P := Tryd.prog) w8 w8.heap.size 22 5 9 Tryd.underlying22 Tryd.underlying5 Tryd.underlying9 v5 bs (RowU.of (B7.out.2.2.2.2.below b8))
 have hc2 := run_convert_row (P := Tryd.prog) w8 w8.heap.size 22 5 9 Tryd.underlying22 Tryd.underlying5 Tryd.underlying9 v2 bs (RowU.of (B7.out.2.1.below b8))
 clear b8 B7
 generalize strOfNums bs = sb at hc5 hc2
 have hsb : (sb.toList != sb.toList) = false := by simp
 have hrr : (root.toList != root.toList) = false := by simp
 have hl0 : ((ts.length : Int) == 0) = false := by rw [beq_eq_false_iff_ne]; have := HL.out.1; omega
 have hl1 : ¬ (ts.length : Int) = 0 := by have := HL.out.1; omega
 go_wp2_with fail
 clear hc5 hc2 hsb hrr hl0 hl1
 have HAT := La.atN_any _ xs1 0 ts.length w8 (HR.out _ B8.out.1).2 HX1.out (by omega) HL.out.1 (by have := HL.out.2; omega)
 have hk := La.atN_lt xs1 0 ts.length HL.out.1
 generalize La.atN xs1 0 ts.length = k at HAT hk
 go_wp2_with fail
 refine HAT.mono ?_
 rintro e w9 ⟨rfl, b9⟩
 have B9 : Hid (Below w.heap.size w w9 ∧ RowT w9 (.slice al ts.length cl) ts) := ⟨andThen B8.out.1 (Nat.le_refl _) b9, B8.out.2.below b9⟩
 clear b9 B8 HAT
 go_wp2_with fail
 refine (HPP.out k hk _ _ B9.out.2 B9.out.1).mono ?_
 rintro e wa ⟨ap, np, cp, rfl, ra, ba⟩
 have Ba : Hid (Below w.heap.size w wa ∧ RowT wa (.slice al ts.length cl) ts ∧ RowT wa (.slice ap np cp) (Py.pathF 64 ts k)) := ⟨andThen B9.out.1 (Nat.le_refl _) ba, B9.out.2.below ba, ra⟩
 clear ra ba B9 HPP
 have Hc : Hid (∃ b off, al = some ⟨b, off, none⟩ ∧ b < wa.heap.size ∧ wa.cell? ⟨b, off + k, none⟩ = some (.string (tnth ts k))) := by
  obtain ⟨a', c', he, hc⟩ := Ba.out.2.1
  rcases hc with hc | ⟨b, off, rfl, _, hb, hcell⟩
  ·rw [hc] at hk; exact absurd hk (by simp)
  ·cases he
   exact ⟨b, off, rfl, hb, hcell k hk⟩
 have HCKk := HCK.out k hk
 have HCOk : Hid (∀ z : ByteArray, z.size ≤ 37 → ∃ cd : Int, (∀ W v, RowT W v (Py.pathF 64 ts k) → Below w.heap.size w W → Calls Tryd.prog 21 #[.string root, .string z, .int .i64 (k : Int), .int .i64 (ts.length : Int), v] W fun e w' => e = .returned (.int .i64 cd) ∧ Below W.heap.size W w') ∧ (∀ W v, RowT W v (Py.pathF 64 ts k) → Calls Tryd.prog 22 #[.string root, .string z, .int .i64 (k : Int), .int .i64 (ts.length : Int), v] W fun e w' => e = .returned (.int .i64 cd) ∧ Below W.heap.size W w')) := HCO.out k hk
 obtain ⟨b, off, rfl, hb, hcell⟩ := Hc.out
 have hs32 : (tnth ts k).size ≤ 32 := HZ.out _ (Tx.tnth_mem hk)
 have hki : (k : Int) < (ts.length : Int) := by omega
 have hk0 : (0 : Int) ≤ (k : Int) := by omega
 have hl64 : ts.length ≤ 64 := HL.out.2
 clear Hc HCK HCO HZ HL
 generalize tnth ts k = t at HCKk hcell hs32
 generalize Py.pathF 64 ts k = ps at HCKk HCOk Ba
 generalize ts.length = n at HCKk HCOk Ba hk hki hl64 ⊢
 have HCK2 : Hid (Calls Tryd.prog 21 #[.string root, .string t, .int .i64 (k : Int), .int .i64 (n : Int), .slice ap np cp] wa fun e w' => e = .returned (.int .i64 0) ∧ Below wa.heap.size wa w') := HCKk wa _ Ba.out.2.2 Ba.out.1
 clear HCKk
 go_wp2_with fail
 refine HCK2.out.mono ?_
 rintro e wb ⟨rfl, bb⟩
 have hcb := (bb.cell (p := ⟨b, off + k, none⟩) hb).trans hcell
 have Bb : Hid (Below w.heap.size w wb ∧ RowT wb (.slice ap np cp) ps) := ⟨andThen Ba.out.1 (Nat.le_refl _) bb, Ba.out.2.2.below bb⟩
 clear bb hcell Ba HCK2 hb
 have hm1 : (0 : Int) ≤ min (t.size : Int) 20 := by omega
 have hm2 : min (t.size : Int) 20 ≤ (t.size : Int) := by omega
 have hm3 : (min (t.size : Int) 20).toNat = min t.size 20 := by omega
 obtain ⟨M, HM⟩ : ∃ M, Hid (min (t.size : Int) 20 = M) := ⟨_, rfl⟩
 have hos := other_size t (min t.size 20) hs32
 go_upto_region 15 with fail
 go_quiet (fail)
 have nc : Below wb.heap.size wb (wb.drewN nq) := ⟨rfl, rfl, rfl, Nat.le_refl _, fun _ _ => rfl⟩
 have Bc : Hid (Below w.heap.size w (wb.drewN nq) ∧ RowT (wb.drewN nq) (.slice ap np cp) ps) := ⟨andThen Bb.out.1 (Nat.le_refl _) nc, Bb.out.2.below nc⟩
 obtain ⟨cd, hci, hcs⟩ := HCOk.out _ hos
 have HCI : Hid (∀ W v, RowT W v ps → Below w.heap.size w W → Calls Tryd.prog 21 #[.string root, .string (⟨#[111, 116, 104, 101, 114]⟩ ++ t.extract 0 (min t.size 20)), .int .i64 (k : Int), .int .i64 (n : Int), v] W fun e w' => e = .returned (.int .i64 cd) ∧ Below W.heap.size W w') := hci
 have HCS2 : Hid (∀ W v, RowT W v ps → Calls Tryd.prog 22 #[.string root, .string (⟨#[111, 116, 104, 101, 114]⟩ ++ t.extract 0 (min t.size 20)), .int .i64 (k : Int), .int .i64 (n : Int), v] W fun e w' => e = .returned (.int .i64 cd) ∧ Below W.heap.size W w') := hcs
 have hcc : (cd == cd) = true := by simp
 clear hci hcs HCOk nc Bb hcb hos HM hm1 hm2 hm3 hs32
 generalize (⟨#[111, 116, 104, 101, 114]⟩ : ByteArray) ++ t.extract 0 (min t.size 20) = z at HCI HCS2 ⊢
 generalize wb.drewN nq = wc at Bc ⊢
 go_wp2_with fail
 refine (HCI.out _ _ Bc.out.2 Bc.out.1).mono ?_
 rintro e wd ⟨rfl, bd⟩
 have Bd : Hid (Below w.heap.size w wd ∧ RowT wd (.slice ap np cp) ps) := ⟨andThen Bc.out.1 (Nat.le_refl _) bd, Bc.out.2.below bd⟩
 clear bd Bc HCI
 go_wp2_with fail
 refine (HCS2.out _ _ Bd.out.2).mono ?_
 rintro e we ⟨rfl, be⟩
 have Be : Hid (Below w.heap.size w we) := andThen Bd.out.1 (Nat.le_refl _) be
 clear be Bd HCS2
 go_wp2_with fail
 go_ret
 exact ⟨rfl, Be.out⟩

set_option maxRecDepth 100000 in
theorem lifted (os : Os) (started : os.Started) (H : Type) (enc : TypeId × Value → H) :
 ReturnsInHanded {} Tryd.checked os 4 .any (fun w args => (Rows.fnPiecesSpec.pre enc Tryd.prog Tryd.f4 [] false w args ∧ laidMetH Tryd.prog Rows.fnPiecesRow.laid w) ∧ sizedMet enc Tryd.prog Tryd.f4 (OpenSpec.ofChange Rows.fnPiecesSpec) false w args)
  (Rows.fnPiecesSpec.post enc Tryd.prog Tryd.f4 false true false false) := by
 refine returnsInHanded_of_change_and (C := Tryd.checked) (X := fun w _ => laidMetH Tryd.prog Rows.fnPiecesRow.laid w) (fun _ _ _ hh h => h.of_heap hh) own started (by kernel_rfl) Tryd.func4
  (ChangeSpec.witness_shaped (enc := enc) (C := Tryd.checked) (os := os) (X := fun w _ => laidMetH Tryd.prog Rows.fnPiecesRow.laid w) false (World.doorLaid Tryd.prog 400 os) #[.slice none 0 0, .slice none 0 0] 8 rfl (World.shaped_of_RefB (by kernel_rfl) (by kernel_rfl)) (by kernel_rfl) (by kernel_rfl) (by kernel_rfl) (door_met os _)) ?_
 intro W base args ds gs before hval0 hW _ _ hL _
 have hval : ∀ (j : Nat) t v, Tryd.f4.params[j]? = some t → args[j]? = some v → Value.okWide Tryd.prog W .any base t v := hval0
 have hW' := hW
 obtain ⟨p, q, hA0, hV0, rfl, hfz, hnd⟩ := hW
 have hA : DataW.TrodAll enc Tryd.prog W 0 (fun _ => true) true Tryd.f4.params.toList args.toList ds p := hA0
 have hV : DataW.TrodVars enc Tryd.prog W (fun _ => true) ["loop.example/g00292/impl.roundWords"] gs q := hV0
 rw [Tryd.params4] at hA hval
 obtain ⟨v0, vs0, d0, ds0, p0, q0, hargs, rfl, rfl, h0, r0⟩ := trodAll_cons hA
 obtain ⟨v1, vs1, d1, ds1, p1, q1, rfl, rfl, rfl, h1, r1⟩ := trodAll_cons r0
 obtain ⟨rfl, rfl, rfl⟩ := trodAll_nil r1
 obtain rfl : args = #[v0, v1] := by cases args; simp_all
 obtain ⟨_, _, _, _, dv, _, rfl, _⟩ := trodVars_one hV
 have k00 := h0
 have lt0 : ∀ x ∈ p0, x.block < W.heap.size := by obtain ⟨m, hm⟩ := k00; exact DataW.trod_lt m _ _ _ hm
 obtain ⟨xs0, w0⟩ := Op.open_bytes (hval 0 22 v0 rfl rfl) h0 (fun _ => rfl)
 have k10 := h1
 have lt1 : ∀ x ∈ p1, x.block < W.heap.size := by obtain ⟨m, hm⟩ := k10; exact DataW.trod_lt m _ _ _ hm
 obtain ⟨xs1, w1⟩ := Op.open_bytes (hval 1 22 v1 rfl rfl) h1 (fun _ => rfl)
 clear hA0 hval0 hV0
 have hT := Hl.tab_of hL
 refine (walk v0 xs0 w0 v1 xs1 w1 hT.1 hT.2).mono fun e W' ⟨he, bel⟩ => ?_
 subst he
 exact ⟨_, rfl, _, _, _, [], _, q, hW', trodAll_mk1 (shut_bool Tryd.underlying4 _), (trodAll_cons_mk (Below.trod laidOut (by kernel_rfl) (of_decide_eq_true (by kernel_rfl)) k00 bel lt0) (trodAll_cons_mk (Below.trod laidOut (by kernel_rfl) (of_decide_eq_true (by kernel_rfl)) k10 bel lt1) trodAll_mk0)), Below.trodVars laidOut bel rowed hV, bel.frame _, fun h => by cases h⟩

theorem said : Rows.FnPiecesSaid :=
 OpenClaim.holds_of_wide 4 Tryd.f4 rfl rfl rfl rfl rfl rfl rfl ⟨rfl, rfl, rfl, rfl, rfl⟩ rfl rfl rfl rfl rfl (by kernel_rfl) Tryd.func4 (by kernel_rfl)
  (of_decide_eq_true (by kernel_rfl)) (by unfold Func.isWrapper; first | (rw [if_pos (by decide +kernel)]; kernel_rfl) | (rw [if_neg (by decide +kernel)]; exact ⟨rfl, rfl⟩))
  (fun os started H enc _ => lifted os started H enc)

/-- No parameter wants a stand-in; the program's own looks are off. -/
theorem plain (f : FuncId) (fn : Func) (hf : Tryd.pinned.checked.prog.funcNamed "loop.example/g00292/laws.FnPieces" = some f) (hfn : Tryd.pinned.checked.prog.funcs[f]? = some fn) :
 false = Tryd.pinned.checked.prog.looks [] ∧ ∀ (j : Nat) t, fn.params[j]? = some t → Tryd.pinned.checked.prog.wantsStandIn t = false := by
 obtain rfl : f = 4 := Option.some.inj ((show Tryd.prog.funcNamed "loop.example/g00292/laws.FnPieces" = some 4 by kernel_rfl).symm.trans hf) |>.symm
 obtain rfl : fn = Tryd.f4 := (Option.some.inj (Tryd.func4.symm.trans hfn)).symm
 refine ⟨by kernel_rfl, fun j t ht => ?_⟩
 rw [Tryd.params4] at ht
 have hm := Array.mem_of_getElem? ht
 have hl : t ∈ [22, 22] := by simpa using hm
 have hall : ∀ x ∈ [22, 22], Tryd.prog.wantsStandIn x = false := by
  intro x hx
  simp only [List.mem_cons, List.not_mem_nil, or_false] at hx
  rcases hx with rfl | rfl <;> kernel_rfl
 exact hall t hl
end Go.Proofs.YtakfniknkejgpaaDoor.fnPieces
namespace Go.Proofs.YtakfniknkejgpaaDoor
/-- THE STATEMENT: the card. -/
theorem fnPieces_holds : Rows.FnPiecesCardSaid :=
 Claim7.holds_tied_plain_at .later [] _ _ _ _ fnPieces.said (fun _ h => by cases h) (by kernel_rfl) (fun _ h => by cases h) fnPieces_row_tie rfl ⟨rfl, rfl⟩ (by kernel_rfl) rfl fnPieces.plain (by kernel_rfl)
end Go.Proofs.YtakfniknkejgpaaDoor
