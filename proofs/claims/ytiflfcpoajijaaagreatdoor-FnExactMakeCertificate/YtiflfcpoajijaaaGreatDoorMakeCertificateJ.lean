/-
  MakeCertificate answers as the specification does, for all numbers, every grant and every list of nodes; it writes into no argument, and its answer owns its memory.
  Conditions: none beyond the given row's own; the package variable that it reads starts as the program's text lays it (the card ties it).
-/
import Derived.Test.YtiflfcpoajijaaaGreatDoorJMakeCertificate2
import Derived.Test.YtiflfcpoajijaaaGreatDoorJMakeCertificate33
import Derived.Test.YtiflfcpoajijaaaGreatDoorSlRow
import Derived.WalkKit
namespace Go.Proofs.YtiflfcpoajijaaaGreatDoor.fnExactMakeCertificate
open Go.ChangeShapes Go.WideShapes Go.ChangeAt Go.RowKit
open Go.ChangeMaps (open_string shut_string)
open Go.Proofs.YtiflfcpoajijaaaGreatDoor.Hl (own laidOut rowed door_met)

open Go.Proofs.YtiflfcpoajijaaaGreatDoor.Kc
open Go.Proofs.YtiflfcpoajijaaaGreatDoor.Gr12 (Gg gV grB PTab szG_any toG_any)
open Go.Proofs.YtiflfcpoajijaaaGreatDoor.Sh (KTab)
open Go.Proofs.YtiflfcpoajijaaaGreatDoor.Is (RowI eqIntS_same)
open Go.Proofs.YtiflfcpoajijaaaGreatDoor.Mi12 (MI MI.below markInts toIntO_any)
set_option maxRecDepth 100000 in
set_option maxHeartbeats 6400000 in
/-- THE WALK: both functions answer alike; nothing that was handed in is written; the answer owns its memory, behind another call too. -/
theorem walk (n : Int) {q0 : Prop} (_z0 : q0) (g : Gg) (zg : g.nm.size ≤ maxLen) (v : Value) (ns : List Int) (w : World) (hn : RowI w v ns) (ix : Int) {q1 : Prop} (_z1 : q1) (hT : PTab w ∧ (KTab w ∧ 0 < w.heap.size)) :
    Calls Tryz.prog 4 #[.int .i64 n, gV g, v, .int .i64 ix] w fun e w' => e = .returned (.bool true) ∧ Below w.heap.size w w' := by
  have HTB : Hid (∀ W, Below w.heap.size w W → PTab W ∧ KTab W ∧ 0 < W.heap.size) := fun W hW => ⟨hT.1.below hW, hT.2.1.below hW hT.2.2, Nat.lt_of_lt_of_le hT.2.2 hW.size⟩
  have HRW : Hid (∀ W, Below w.heap.size w W → RowI W v ns) := fun W hW => hn.below hW
  have HX0 : Hid (∀ W, Below (w.alloc (.cells #[.string g.nm, .int .i64 g.hd, .int .i64 g.tk, .int .i64 g.ex] 45)).heap.size (w.alloc (.cells #[.string g.nm, .int .i64 g.hd, .int .i64 g.tk, .int .i64 g.ex] 45)) W → W.heap[w.heap.size]? = some (.cells #[.string g.nm, .int .i64 g.hd, .int .i64 g.tk, .int .i64 g.ex] 45 (0, 0)) ∧ Below w.heap.size w W) := fun W hW => ⟨(hW.block _ (by simp)).trans (heap_alloc_new w _), (Rg.bel_new w _).trans (hW.mono (by simp))⟩
  have HSZ : Hid (∀ W, Calls Tryz.prog 15 #[.agg #[.string g.nm, .int .i64 g.hd, .int .i64 g.tk, .int .i64 g.ex], .int .i64 (1048576 : Nat)] W fun e w' => (∃ r : Int, e = .returned (.int .i64 r) ∧ (r = -1 ∨ ∃ q : Nat, r = q ∧ q ≤ 1048576 ∧ g.nm.size ≤ 1048576)) ∧ Below W.heap.size W w') := fun W => szG_any g 1048576 W (by decide) zg
  have HTO : Hid (∀ W, Calls Tryz.prog 17 #[.agg #[.string g.nm, .int .i64 g.hd, .int .i64 g.tk, .int .i64 g.ex]] W fun e w' => e = .returned (.agg #[.string g.nm, .int .i64 g.hd, .int .i64 g.tk, .int .i64 g.ex]) ∧ Below W.heap.size W w') := fun W => toG_any g W
  obtain ⟨a, cap, rfl, _, _⟩ := hn
  clear hT
  unfold gV
  by_cases hb0 : (1048576 : Int) < (ns.length : Int)
  · go_enter Tryz.func4, Tryz.ntmps4
    go_upto_region 1 with fail
    generalize w.alloc (.cells #[.string g.nm, .int .i64 g.hd, .int .i64 g.tk, .int .i64 g.ex] 45) = wb at HX0 ⊢
    have G1 : Hid (Below w.heap.size w wb) := (HX0.out wb (Below.refl _ _)).2
    clear HX0
    go_wp2_with fail
    go_ret
    exact ⟨rfl, G1.out⟩
  have hnl : ns.length ≤ 1048576 := by omega
  obtain ⟨G, NS, KS, kc, mm, OwnP, MkP, HG⟩ : ∃ G NS KS kc mm OwnP MkP, Hid (Kc.Good n g ns ix G NS KS kc mm OwnP MkP) := good_any n g ns ix zg hnl
  have HTI : Hid (∀ W, Below w.heap.size w W → Calls Tryz.prog 18 #[.slice a ns.length cap] W fun e w' => ∃ gx, e = .returned (.slice (some ⟨gx, 0, none⟩) ns.length ns.length) ∧ (W.heap.size ≤ gx ∧ MI w' gx ns.length (fun i => Sl.nth ns i) ∧ RowI w' (.slice (some ⟨gx, 0, none⟩) ns.length ns.length) ns) ∧ Below W.heap.size W w') := fun W hW => toIntO_any _ ns W (HRW.out W hW) hnl
  have HEQ : Hid (∀ W vn vs un us, RowI W vn NS → Row W vs KS → RowI W un NS → Row W us KS → Calls Tryz.prog 19 #[.agg #[.string G.nm, .int .i64 G.hd, .int .i64 G.tk, .int .i64 G.ex, vn, vs], .agg #[.string G.nm, .int .i64 G.hd, .int .i64 G.tk, .int .i64 G.ex, un, us]] W fun e w' => e = .returned (.bool true) ∧ Below W.heap.size W w') := fun W vn vs un us h1 h2 h3 h4 => eqC_same G vn vs un us NS KS W h1 h2 h3 h4 HG.out.ln.2.1 (by rw [HG.out.ln.1]; exact HG.out.ln.2.1) HG.out.ln.2.2
  clear zg
  go_enter Tryz.func4, Tryz.ntmps4
  go_upto_region 1 with fail
  generalize w.alloc (.cells #[.string g.nm, .int .i64 g.hd, .int .i64 g.tk, .int .i64 g.ex] 45) = wb at HX0 ⊢
  have hbx := (HX0.out wb (Below.refl _ _)).1
  have c0 := (Rg.blk_cell hbx 0 (x := .string g.nm) rfl).1
  have c1 := (Rg.blk_cell hbx 1 (x := .int .i64 g.hd) rfl).1
  have c2 := (Rg.blk_cell hbx 2 (x := .int .i64 g.tk) rfl).1
  have c3 := (Rg.blk_cell hbx 3 (x := .int .i64 g.ex) rfl).1
  go_wp2_with fail
  refine (HSZ.out _).mono ?_
  rintro e wz ⟨⟨r, rfl, hr⟩, b1⟩
  have BZ : Hid (Below wb.heap.size wb wz) := b1
  clear b1 c0 c1 c2 c3 hbx
  rcases hr with rfl | ⟨q, rfl, _, _⟩
  · have G1 : Hid (Below w.heap.size w wz) := (HX0.out _ BZ.out).2
    clear HX0
    go_wp2_with fail
    go_ret
    exact ⟨rfl, G1.out⟩
  have hq0 : ¬ (q : Int) < 0 := by omega
  have HX : Hid (∀ W, Below wz.heap.size wz W → W.heap[w.heap.size]? = some (.cells #[.string g.nm, .int .i64 g.hd, .int .i64 g.tk, .int .i64 g.ex] 45 (0, 0)) ∧ Below w.heap.size w W) := fun W hW => HX0.out W (BZ.out.trans (hW.mono BZ.out.size))
  clear HX0 BZ HSZ
  have hbx := (HX.out wz (Below.refl _ _)).1
  have c0 := (Rg.blk_cell hbx 0 (x := .string g.nm) rfl).1
  have c1 := (Rg.blk_cell hbx 1 (x := .int .i64 g.hd) rfl).1
  have c2 := (Rg.blk_cell hbx 2 (x := .int .i64 g.tk) rfl).1
  have c3 := (Rg.blk_cell hbx 3 (x := .int .i64 g.ex) rfl).1
  clear hbx
  go_wp2_with fail
  refine (HTO.out _).mono ?_
  rintro e w1 ⟨rfl, b1⟩
  have B1 : Hid (Below wz.heap.size wz w1) := b1
  clear b1 c0 c1 c2 c3
  go_wp2_with fail
  refine (HTI.out _ (HX.out _ B1.out).2).mono ?_
  rintro e w2 ⟨g2, rfl, ⟨_, _, hr2⟩, b2⟩
  have B2 : Hid (Below wz.heap.size wz w2) := B1.out.trans (b2.mono B1.out.size)
  have HSP : Hid (Calls Tryz.prog 16 #[.int .i64 n, .agg #[.string g.nm, .int .i64 g.hd, .int .i64 g.tk, .int .i64 g.ex], .slice (some ⟨g2, 0, none⟩) ns.length ns.length, .int .i64 ix] w2 fun e w' => ∃ sa sk sb sc, e = .returned (.tuple #[.agg #[.string G.nm, .int .i64 G.hd, .int .i64 G.tk, .int .i64 G.ex, .slice sa NS.length sk, .slice sb NS.length sc], .int .i64 kc]) ∧ Hid (RowI w' (.slice sa NS.length sk) NS ∧ Row w' (.slice sb NS.length sc) KS) ∧ Below w2.heap.size w2 w') := HG.out.sp w2 _ hr2
  clear b2 hr2 B1
  go_wp2_with fail
  refine HSP.out.mono ?_
  rintro e w3 ⟨sa, sk, sb, sc, rfl, hs3, b3⟩
  have HX4 : Hid (∀ W, Below (w3.alloc (.cells #[.string G.nm, .int .i64 G.hd, .int .i64 G.tk, .int .i64 G.ex, .slice sa NS.length sk, .slice sb NS.length sc] 31)).heap.size (w3.alloc (.cells #[.string G.nm, .int .i64 G.hd, .int .i64 G.tk, .int .i64 G.ex, .slice sa NS.length sk, .slice sb NS.length sc] 31)) W → W.heap[w3.heap.size]? = some (.cells #[.string G.nm, .int .i64 G.hd, .int .i64 G.tk, .int .i64 G.ex, .slice sa NS.length sk, .slice sb NS.length sc] 31 (0, 0)) ∧ RowI W (.slice sa NS.length sk) NS ∧ Row W (.slice sb NS.length sc) KS ∧ Below wz.heap.size wz W) := fun W hW => by
    have hnn := (Rg.bel_new w3 (.cells #[.string G.nm, .int .i64 G.hd, .int .i64 G.tk, .int .i64 G.ex, .slice sa NS.length sk, .slice sb NS.length sc] 31)).trans (hW.mono (by simp))
    exact ⟨(hW.block _ (by simp)).trans (heap_alloc_new w3 _), hs3.out.1.below hnn, hs3.out.2.below hnn, B2.out.trans ((b3.trans (hnn.mono b3.size)).mono B2.out.size)⟩
  clear b3 hs3 HSP
  go_upto_region 8 with fail
  generalize w3.alloc (.cells #[.string G.nm, .int .i64 G.hd, .int .i64 G.tk, .int .i64 G.ex, .slice sa NS.length sk, .slice sb NS.length sc] 31) = w4 at HX4 ⊢
  generalize w3.heap.size = bS at HX4 ⊢
  clear B2
  obtain ⟨Z4, HZ4⟩ : ∃ Z4, Hid (Z4 = w4.heap.size) := ⟨_, rfl⟩
  have HXS : Hid (∀ W, Below Z4 w4 W → W.heap[bS]? = some (.cells #[.string G.nm, .int .i64 G.hd, .int .i64 G.tk, .int .i64 G.ex, .slice sa NS.length sk, .slice sb NS.length sc] 31 (0, 0)) ∧ RowI W (.slice sa NS.length sk) NS ∧ Row W (.slice sb NS.length sc) KS ∧ W.heap[w.heap.size]? = some (.cells #[.string g.nm, .int .i64 g.hd, .int .i64 g.tk, .int .i64 g.ex] 45 (0, 0)) ∧ Below w.heap.size w W) := fun W hW => by
    rw [HZ4.out] at hW
    have q := HX4.out W hW
    have q2 := HX.out W q.2.2.2
    exact ⟨q.1, q.2.1, q.2.2.1, q2.1, q2.2⟩
  clear HX4 HX
  go_wp2_with fail
  refine (HTI.out _ (HXS.out _ (by rw [HZ4.out]; exact Below.refl _ _)).2.2.2.2).mono ?_
  rintro e w5 ⟨gx, rfl, ⟨hgx, hmi, hri⟩, b5⟩
  have HI5 : Hid (MI w5 gx ns.length (fun i => Sl.nth ns i) ∧ RowI w5 (.slice (some ⟨gx, 0, none⟩) ns.length ns.length) ns ∧ Z4 ≤ gx ∧ Below Z4 w4 w5 ∧ Z4 ≤ w5.heap.size ∧ gx < w5.heap.size) := ⟨hmi, hri, by rw [HZ4.out]; exact hgx, by rw [HZ4.out]; exact b5, by rw [HZ4.out]; exact b5.size, hmi.lt⟩
  clear hgx hmi hri b5
  have hbx := (HXS.out w5 HI5.out.2.2.2.1).2.2.2.1
  have c0 := (Rg.blk_cell hbx 0 (x := .string g.nm) rfl).1
  have c1 := (Rg.blk_cell hbx 1 (x := .int .i64 g.hd) rfl).1
  have c2 := (Rg.blk_cell hbx 2 (x := .int .i64 g.tk) rfl).1
  have c3 := (Rg.blk_cell hbx 3 (x := .int .i64 g.ex) rfl).1
  clear hbx
  go_wp2_with fail
  refine (HTO.out _).mono ?_
  rintro e w6 ⟨rfl, b6⟩
  have HI6 : Hid (MI w6 gx ns.length (fun i => Sl.nth ns i) ∧ RowI w6 (.slice (some ⟨gx, 0, none⟩) ns.length ns.length) ns ∧ Z4 ≤ gx ∧ Below Z4 w4 w6 ∧ Z4 ≤ w6.heap.size ∧ gx < w6.heap.size) := ⟨HI5.out.1.below b6, HI5.out.2.1.below b6, HI5.out.2.2.1, HI5.out.2.2.2.1.trans (b6.mono HI5.out.2.2.2.2.1), Nat.le_trans HI5.out.2.2.2.2.1 b6.size, Nat.lt_of_lt_of_le HI5.out.2.2.2.2.2 b6.size⟩
  clear b6 c0 c1 c2 c3 HI5
  have HIM : Hid (∀ W v, Below w.heap.size w W → RowI W v ns → Calls Tryz.prog 7 #[.int .i64 n, .agg #[.string g.nm, .int .i64 g.hd, .int .i64 g.tk, .int .i64 g.ex], v, .int .i64 ix] W fun e w' => ∃ ia ik ib ic, e = .returned (.tuple #[.agg #[.string G.nm, .int .i64 G.hd, .int .i64 G.tk, .int .i64 G.ex, .slice ia NS.length ik, .slice ib NS.length ic], .int .i64 kc]) ∧ Hid (OwnP w' W.heap.size (.slice ia NS.length ik) (.slice ib NS.length ic)) ∧ Below W.heap.size W w') := fun W v hW hr => HG.out.im W v hr (HTB.out W hW).1 (HTB.out W hW).2.1 (HTB.out W hW).2.2
  go_wp2_with fail
  refine (HIM.out _ _ (HXS.out w6 HI6.out.2.2.2.1).2.2.2.2 HI6.out.2.1).mono ?_
  rintro e w7 ⟨ia, ik, ib, ic, rfl, ho7, b7⟩
  obtain ⟨B, HB⟩ : ∃ B, Hid (B = w6.heap.size) := ⟨_, rfl⟩
  have HX8 : Hid ((w7.alloc (.cells #[.string G.nm, .int .i64 G.hd, .int .i64 G.tk, .int .i64 G.ex, .slice ia NS.length ik, .slice ib NS.length ic] 31)).heap[w7.heap.size]? = some (.cells #[.string G.nm, .int .i64 G.hd, .int .i64 G.tk, .int .i64 G.ex, .slice ia NS.length ik, .slice ib NS.length ic] 31 (0, 0)) ∧ OwnP (w7.alloc (.cells #[.string G.nm, .int .i64 G.hd, .int .i64 G.tk, .int .i64 G.ex, .slice ia NS.length ik, .slice ib NS.length ic] 31)) B (.slice ia NS.length ik) (.slice ib NS.length ic) ∧ MI (w7.alloc (.cells #[.string G.nm, .int .i64 G.hd, .int .i64 G.tk, .int .i64 G.ex, .slice ia NS.length ik, .slice ib NS.length ic] 31)) gx ns.length (fun i => Sl.nth ns i) ∧ RowI (w7.alloc (.cells #[.string G.nm, .int .i64 G.hd, .int .i64 G.tk, .int .i64 G.ex, .slice ia NS.length ik, .slice ib NS.length ic] 31)) (.slice (some ⟨gx, 0, none⟩) ns.length ns.length) ns ∧ Below Z4 w4 (w7.alloc (.cells #[.string G.nm, .int .i64 G.hd, .int .i64 G.tk, .int .i64 G.ex, .slice ia NS.length ik, .slice ib NS.length ic] 31)) ∧ (Z4 ≤ B ∧ B ≤ w7.heap.size ∧ gx < B ∧ Z4 ≤ gx)) := by
    have b8 : Below w6.heap.size w6 (w7.alloc (.cells #[.string G.nm, .int .i64 G.hd, .int .i64 G.tk, .int .i64 G.ex, .slice ia NS.length ik, .slice ib NS.length ic] 31)) := b7.trans ((Rg.bel_new w7 _).mono b7.size)
    rw [HB.out]
    exact ⟨heap_alloc_new w7 _, HG.out.bel _ _ _ _ _ ho7.out (Rg.bel_new _ _), HI6.out.1.below b8, HI6.out.2.1.below b8, HI6.out.2.2.2.1.trans (b8.mono HI6.out.2.2.2.2.1), HI6.out.2.2.2.2.1, b7.size, HI6.out.2.2.2.2.2, HI6.out.2.2.1⟩
  clear b7 ho7 HI6 HB
  go_upto_region 10 with fail
  generalize w7.alloc (.cells #[.string G.nm, .int .i64 G.hd, .int .i64 G.tk, .int .i64 G.ex, .slice ia NS.length ik, .slice ib NS.length ic] 31) = w8 at HX8 ⊢
  generalize w7.heap.size = bI at HX8 ⊢
  have hkk : (kc != kc) = false := by simp
  have HX8b : Hid (∀ W, Below w8.heap.size w8 W → W.heap[bI]? = some (.cells #[.string G.nm, .int .i64 G.hd, .int .i64 G.tk, .int .i64 G.ex, .slice ia NS.length ik, .slice ib NS.length ic] 31 (0, 0)) ∧ OwnP W B (.slice ia NS.length ik) (.slice ib NS.length ic) ∧ MI W gx ns.length (fun i => Sl.nth ns i) ∧ RowI W (.slice (some ⟨gx, 0, none⟩) ns.length ns.length) ns ∧ Below Z4 w4 W ∧ B ≤ W.heap.size) := fun W hW => by
    have hbI := (Array.getElem?_eq_some_iff.1 HX8.out.1).1
    have hBI : B ≤ w8.heap.size := by have := HX8.out.2.2.2.2.2.2.1; omega
    exact ⟨(hW.block _ hbI).trans HX8.out.1, HG.out.bel _ _ _ _ _ HX8.out.2.1 hW, HX8.out.2.2.1.below hW, HX8.out.2.2.2.1.below hW, HX8.out.2.2.2.2.1.trans (hW.mono (by have := HX8.out.2.2.2.2.2.1; omega)), Nat.le_trans hBI hW.size⟩
  have HNUM : Hid (Z4 ≤ B ∧ gx < B ∧ Z4 ≤ gx ∧ B ≤ bI) := ⟨HX8.out.2.2.2.2.2.1, HX8.out.2.2.2.2.2.2.2.1, HX8.out.2.2.2.2.2.2.2.2, HX8.out.2.2.2.2.2.2.1⟩
  clear HX8
  have q8 := HX8b.out w8 (Below.refl _ _)
  have s8 := HXS.out w8 q8.2.2.2.2.1
  have i0 := (Rg.blk_cell q8.1 0 (x := .string G.nm) rfl).1
  have i1 := (Rg.blk_cell q8.1 1 (x := .int .i64 G.hd) rfl).1
  have i2 := (Rg.blk_cell q8.1 2 (x := .int .i64 G.tk) rfl).1
  have i3 := (Rg.blk_cell q8.1 3 (x := .int .i64 G.ex) rfl).1
  have i4 := (Rg.blk_cell q8.1 4 (x := .slice ia NS.length ik) rfl).1
  have i5 := (Rg.blk_cell q8.1 5 (x := .slice ib NS.length ic) rfl).1
  have s0 := (Rg.blk_cell s8.1 0 (x := .string G.nm) rfl).1
  have s1 := (Rg.blk_cell s8.1 1 (x := .int .i64 G.hd) rfl).1
  have s2 := (Rg.blk_cell s8.1 2 (x := .int .i64 G.tk) rfl).1
  have s3 := (Rg.blk_cell s8.1 3 (x := .int .i64 G.ex) rfl).1
  have s4 := (Rg.blk_cell s8.1 4 (x := .slice sa NS.length sk) rfl).1
  have s5 := (Rg.blk_cell s8.1 5 (x := .slice sb NS.length sc) rfl).1
  have HE1 := HEQ.out w8 _ _ _ _ (HG.out.row _ _ _ _ q8.2.1).1 (HG.out.row _ _ _ _ q8.2.1).2 s8.2.1 s8.2.2.1
  clear q8 s8
  go_upto_region 12 with (first | (go_at_call 19; refine HE1.mono ?_; rintro e w9 ⟨rfl, b9⟩))
  have B9 : Hid (Below w8.heap.size w8 w9) := b9
  clear b9 HE1 i0 i1 i2 i3 i4 i5 s0 s1 s2 s3 s4 s5
  go_wp2_with fail
  refine (HTI.out _ (HXS.out _ (HX8b.out _ B9.out).2.2.2.2.1).2.2.2.2).mono ?_
  rintro e w10 ⟨gy, rfl, ⟨_, _, hr10⟩, b10⟩
  have B10 : Hid (Below w8.heap.size w8 w10) := B9.out.trans (b10.mono B9.out.size)
  have HE2 := eqIntS_same _ _ ns w10 (HX8b.out _ B10.out).2.2.2.1 hr10 hnl
  clear b10 hr10 B9
  go_wp2_with fail
  refine HE2.mono ?_
  rintro e w11 ⟨rfl, b11⟩
  have B11 : Hid (Below w8.heap.size w8 w11) := B10.out.trans (b11.mono B10.out.size)
  clear b11 HE2 B10
  obtain ⟨k1, HK1⟩ : ∃ k1 : Nat, Hid (1 + ns.length = k1) := ⟨_, rfl⟩
  have HM1 : Hid (Calls Tryz.prog 21 #[.slice (some ⟨gx, 0, none⟩) ns.length ns.length, .int .i64 1] w11 fun e w' => e = .returned (.int .i64 (k1 : Int)) ∧ w11.grownBy w' (some gx)) := by
    have hh := markInts gx ns.length ns.length 1 _ w11 (HX8b.out _ B11.out).2.2.1 hnl (by decide)
    rw [HK1.out] at hh
    exact hh.mono fun e w' ⟨h1, _, h3⟩ => ⟨h1, h3⟩
  go_wp2_with fail
  refine HM1.out.mono ?_
  rintro e w12 ⟨rfl, gr⟩
  have HY : Hid (∀ W, Below w12.heap.size w12 W → W.heap[bI]? = some (.cells #[.string G.nm, .int .i64 G.hd, .int .i64 G.tk, .int .i64 G.ex, .slice ia NS.length ik, .slice ib NS.length ic] 31 (0, 0)) ∧ OwnP W B (.slice ia NS.length ik) (.slice ib NS.length ic) ∧ Below Z4 w4 W ∧ B ≤ W.heap.size) := fun W hW => by
    have q := HX8b.out _ B11.out
    have hne : bI ≠ gx := by have := HNUM.out; omega
    have q1 := (gr.block bI (Array.getElem?_eq_some_iff.1 q.1).1 (fun e => hne (by injection e))).trans q.1
    have q3 : Below Z4 w4 w12 := q.2.2.2.2.1.trans ((Below.refl Z4 w11).grown gr (by have := HNUM.out.1; have := q.2.2.2.2.2; omega) (fun k hk => by cases hk; exact HNUM.out.2.2.1))
    exact ⟨(hW.block _ (Array.getElem?_eq_some_iff.1 q1).1).trans q1, HG.out.bel _ _ _ _ _ (HG.out.kep _ _ _ _ _ _ q.2.1 gr HNUM.out.2.1) hW, q3.trans (hW.mono (by have := q.2.2.2.2.2; have := gr.size; have := HNUM.out.1; omega)), by have := q.2.2.2.2.2; have := gr.size; have := hW.size; omega⟩
  have hk1 : ¬ (k1 : Int) < 0 := by omega
  clear gr HM1 HX8b B11
  have q12 := HY.out w12 (Below.refl _ _)
  have s12 := HXS.out w12 q12.2.2.1
  have i0 := (Rg.blk_cell q12.1 0 (x := .string G.nm) rfl).1
  have i1 := (Rg.blk_cell q12.1 1 (x := .int .i64 G.hd) rfl).1
  have i2 := (Rg.blk_cell q12.1 2 (x := .int .i64 G.tk) rfl).1
  have i3 := (Rg.blk_cell q12.1 3 (x := .int .i64 G.ex) rfl).1
  have i4 := (Rg.blk_cell q12.1 4 (x := .slice ia NS.length ik) rfl).1
  have i5 := (Rg.blk_cell q12.1 5 (x := .slice ib NS.length ic) rfl).1
  have s0 := (Rg.blk_cell s12.1 0 (x := .string G.nm) rfl).1
  have s1 := (Rg.blk_cell s12.1 1 (x := .int .i64 G.hd) rfl).1
  have s2 := (Rg.blk_cell s12.1 2 (x := .int .i64 G.tk) rfl).1
  have s3 := (Rg.blk_cell s12.1 3 (x := .int .i64 G.ex) rfl).1
  have s4 := (Rg.blk_cell s12.1 4 (x := .slice sa NS.length sk) rfl).1
  have s5 := (Rg.blk_cell s12.1 5 (x := .slice sb NS.length sc) rfl).1
  have HE3 := HEQ.out w12 _ _ _ _ (HG.out.row _ _ _ _ q12.2.1).1 (HG.out.row _ _ _ _ q12.2.1).2 s12.2.1 s12.2.2.1
  clear q12 s12
  go_upto_region 19 with (first | (go_at_call 19; refine HE3.mono ?_; rintro e w13 ⟨rfl, b13⟩))
  have B13 : Hid (Below w12.heap.size w12 w13) := b13
  clear b13 HE3 i0 i1 i2 i3 i4 i5 s0 s1 s2 s3 s4 s5 hk1
  have q13 := HY.out w13 B13.out
  have i0 := (Rg.blk_cell q13.1 0 (x := .string G.nm) rfl).1
  have i1 := (Rg.blk_cell q13.1 1 (x := .int .i64 G.hd) rfl).1
  have i2 := (Rg.blk_cell q13.1 2 (x := .int .i64 G.tk) rfl).1
  have i3 := (Rg.blk_cell q13.1 3 (x := .int .i64 G.ex) rfl).1
  have i4 := (Rg.blk_cell q13.1 4 (x := .slice ia NS.length ik) rfl).1
  have i5 := (Rg.blk_cell q13.1 5 (x := .slice ib NS.length ic) rfl).1
  have HM2 := HG.out.mar w13 B ia ik ib ic q13.2.1 q13.2.2.2
  clear q13
  go_wp2_with fail
  refine HM2.mono ?_
  rintro e w14 ⟨rfl, hm14, b14⟩
  have HV : Hid (∀ W, Below w14.heap.size w14 W → W.heap[bI]? = some (.cells #[.string G.nm, .int .i64 G.hd, .int .i64 G.tk, .int .i64 G.ex, .slice ia NS.length ik, .slice ib NS.length ic] 31 (0, 0)) ∧ MkP W (.slice ia NS.length ik) (.slice ib NS.length ic) ∧ Below Z4 w4 W) := fun W hW => by
    have q := HY.out w13 B13.out
    have q1 := hm14.out.2 bI _ _ q.1
    have hZ : Z4 ≤ w14.heap.size := by have := HNUM.out.1; have := q.2.2.2; have := b14.size; omega
    exact ⟨(hW.block _ (Array.getElem?_eq_some_iff.1 q1).1).trans q1, HG.out.mbe _ _ _ _ hm14.out.1 hW, (q.2.2.1.trans (b14.mono HNUM.out.1)).trans (hW.mono hZ)⟩
  have hmm : ¬ (mm : Int) < 0 := by omega
  have hmq : ((mm : Int) != (mm : Int)) = false := by simp
  have HHE : Hid (∀ W, MkP W (.slice ia NS.length ik) (.slice ib NS.length ic) → Calls Tryz.prog 23 #[.agg #[.string G.nm, .int .i64 G.hd, .int .i64 G.tk, .int .i64 G.ex, .slice ia NS.length ik, .slice ib NS.length ic], .int .i64 1] W fun e w' => e = .returned (.int .i64 (mm : Int)) ∧ Below W.heap.size W w') := fun W hW => HG.out.hel W ia ik ib ic hW
  clear b14 hm14 HY B13 HM2 i0 i1 i2 i3 i4 i5
  have q14 := HV.out w14 (Below.refl _ _)
  have i0 := (Rg.blk_cell q14.1 0 (x := .string G.nm) rfl).1
  have i1 := (Rg.blk_cell q14.1 1 (x := .int .i64 G.hd) rfl).1
  have i2 := (Rg.blk_cell q14.1 2 (x := .int .i64 G.tk) rfl).1
  have i3 := (Rg.blk_cell q14.1 3 (x := .int .i64 G.ex) rfl).1
  have i4 := (Rg.blk_cell q14.1 4 (x := .slice ia NS.length ik) rfl).1
  have i5 := (Rg.blk_cell q14.1 5 (x := .slice ib NS.length ic) rfl).1
  clear q14
  go_wp2_with fail
  refine (HHE.out _ (HV.out w14 (Below.refl _ _)).2.1).mono ?_
  rintro e w15 ⟨rfl, b15⟩
  have B15 : Hid (Below w14.heap.size w14 w15) := b15
  clear b15 i0 i1 i2 i3 i4 i5
  have hbx := (HXS.out w15 (HV.out w15 B15.out).2.2).2.2.2.1
  have c0 := (Rg.blk_cell hbx 0 (x := .string g.nm) rfl).1
  have c1 := (Rg.blk_cell hbx 1 (x := .int .i64 g.hd) rfl).1
  have c2 := (Rg.blk_cell hbx 2 (x := .int .i64 g.tk) rfl).1
  have c3 := (Rg.blk_cell hbx 3 (x := .int .i64 g.ex) rfl).1
  clear hbx
  go_wp2_with fail
  refine (HTO.out _).mono ?_
  rintro e w16 ⟨rfl, b16⟩
  have B16 : Hid (Below w14.heap.size w14 w16) := B15.out.trans (b16.mono B15.out.size)
  clear b16 B15 c0 c1 c2 c3
  go_wp2_with fail
  refine (HTI.out _ (HXS.out _ (HV.out _ B16.out).2.2).2.2.2.2).mono ?_
  rintro e w17 ⟨gz, rfl, ⟨_, _, hr17⟩, b17⟩
  have B17 : Hid (Below w14.heap.size w14 w17) := B16.out.trans (b17.mono B16.out.size)
  have HI2 := HIM.out w17 _ (HXS.out _ (HV.out _ B17.out).2.2).2.2.2.2 hr17
  clear b17 hr17 B16
  go_wp2_with fail
  refine HI2.mono ?_
  rintro e w18 ⟨ha, hk, hb, hc, rfl, ho18, b18⟩
  have HH : Hid (∀ W, Below (w18.alloc (.cells #[.string G.nm, .int .i64 G.hd, .int .i64 G.tk, .int .i64 G.ex, .slice ha NS.length hk, .slice hb NS.length hc] 31)).heap.size (w18.alloc (.cells #[.string G.nm, .int .i64 G.hd, .int .i64 G.tk, .int .i64 G.ex, .slice ha NS.length hk, .slice hb NS.length hc] 31)) W → W.heap[w18.heap.size]? = some (.cells #[.string G.nm, .int .i64 G.hd, .int .i64 G.tk, .int .i64 G.ex, .slice ha NS.length hk, .slice hb NS.length hc] 31 (0, 0)) ∧ (RowI W (.slice ha NS.length hk) NS ∧ Row W (.slice hb NS.length hc) KS) ∧ Below w14.heap.size w14 W) := fun W hW => by
    have hnn := (Rg.bel_new w18 (.cells #[.string G.nm, .int .i64 G.hd, .int .i64 G.tk, .int .i64 G.ex, .slice ha NS.length hk, .slice hb NS.length hc] 31)).trans (hW.mono (by simp))
    exact ⟨(hW.block _ (by simp)).trans (heap_alloc_new w18 _), HG.out.row _ _ _ _ (HG.out.bel _ _ _ _ _ ho18.out hnn), B17.out.trans ((b18.trans (hnn.mono b18.size)).mono B17.out.size)⟩
  clear b18 ho18 HI2
  go_upto_region 27 with fail
  generalize w18.alloc (.cells #[.string G.nm, .int .i64 G.hd, .int .i64 G.tk, .int .i64 G.ex, .slice ha NS.length hk, .slice hb NS.length hc] 31) = w19 at HH ⊢
  generalize w18.heap.size = bH at HH ⊢
  have q19 := HH.out w19 (Below.refl _ _)
  have s19 := HXS.out w19 (HV.out w19 q19.2.2).2.2
  have h0 := (Rg.blk_cell q19.1 0 (x := .string G.nm) rfl).1
  have h1 := (Rg.blk_cell q19.1 1 (x := .int .i64 G.hd) rfl).1
  have h2 := (Rg.blk_cell q19.1 2 (x := .int .i64 G.tk) rfl).1
  have h3 := (Rg.blk_cell q19.1 3 (x := .int .i64 G.ex) rfl).1
  have h4 := (Rg.blk_cell q19.1 4 (x := .slice ha NS.length hk) rfl).1
  have h5 := (Rg.blk_cell q19.1 5 (x := .slice hb NS.length hc) rfl).1
  have s0 := (Rg.blk_cell s19.1 0 (x := .string G.nm) rfl).1
  have s1 := (Rg.blk_cell s19.1 1 (x := .int .i64 G.hd) rfl).1
  have s2 := (Rg.blk_cell s19.1 2 (x := .int .i64 G.tk) rfl).1
  have s3 := (Rg.blk_cell s19.1 3 (x := .int .i64 G.ex) rfl).1
  have s4 := (Rg.blk_cell s19.1 4 (x := .slice sa NS.length sk) rfl).1
  have s5 := (Rg.blk_cell s19.1 5 (x := .slice sb NS.length sc) rfl).1
  have HE4 := HEQ.out w19 _ _ _ _ q19.2.1.1 q19.2.1.2 s19.2.1 s19.2.2.1
  clear q19 s19
  go_upto_region 30 with (first | (go_at_call 19; refine HE4.mono ?_; rintro e w20 ⟨rfl, b20⟩))
  have B20 : Hid (Below w14.heap.size w14 w20) := (HH.out w20 b20).2.2
  clear b20 HE4 h0 h1 h2 h3 h4 h5 s0 s1 s2 s3 s4 s5
  have q20 := HV.out w20 B20.out
  have i0 := (Rg.blk_cell q20.1 0 (x := .string G.nm) rfl).1
  have i1 := (Rg.blk_cell q20.1 1 (x := .int .i64 G.hd) rfl).1
  have i2 := (Rg.blk_cell q20.1 2 (x := .int .i64 G.tk) rfl).1
  have i3 := (Rg.blk_cell q20.1 3 (x := .int .i64 G.ex) rfl).1
  have i4 := (Rg.blk_cell q20.1 4 (x := .slice ia NS.length ik) rfl).1
  have i5 := (Rg.blk_cell q20.1 5 (x := .slice ib NS.length ic) rfl).1
  have HE5 := HHE.out w20 q20.2.1
  clear q20
  go_wp2_with fail
  refine HE5.mono ?_
  rintro e w21 ⟨rfl, b21⟩
  have G21 : Hid (Below w.heap.size w w21) := (HXS.out _ (HV.out _ (B20.out.trans (b21.mono B20.out.size))).2.2).2.2.2.2
  clear b21
  go_wp2_with fail
  go_ret
  exact ⟨rfl, G21.out⟩

set_option maxRecDepth 100000 in
theorem lifted (os : Os) (started : os.Started) (H : Type) (enc : TypeId × Value → H) :
    ReturnsInHanded {} Tryz.checked os 4 .any (fun w args => (Rows.fnExactMakeCertificateSpec.pre enc Tryz.prog Tryz.f4 [] false w args ∧ laidMetH Tryz.prog Rows.fnExactMakeCertificateRow.laid w) ∧ sizedMet enc Tryz.prog Tryz.f4 (OpenSpec.ofChange Rows.fnExactMakeCertificateSpec) false w args)
      (Rows.fnExactMakeCertificateSpec.post enc Tryz.prog Tryz.f4 false true false false) := by
  refine returnsInHanded_of_change_and (C := Tryz.checked) (X := fun w _ => laidMetH Tryz.prog Rows.fnExactMakeCertificateRow.laid w) (fun _ _ _ hh h => h.of_heap hh) own started (by kernel_rfl) Tryz.func4
    (ChangeSpec.witness_shaped (enc := enc) (C := Tryz.checked) (os := os) (X := fun w _ => laidMetH Tryz.prog Rows.fnExactMakeCertificateRow.laid w) false (World.doorLaid Tryz.prog 400 os) #[.int .i64 0, .agg #[.string ByteArray.empty, .int .i64 0, .int .i64 0, .int .i64 0], .slice none 0 0, .int .i64 0] 8 rfl (World.shaped_of_RefB (by kernel_rfl) (by kernel_rfl)) (by kernel_rfl) (by kernel_rfl) (by kernel_rfl) (door_met os _)) ?_
  intro W base args ds gs before hval0 hW _ _ hL _
  have hval : ∀ (j : Nat) t v, Tryz.f4.params[j]? = some t → args[j]? = some v → Value.okWide Tryz.prog W .any base t v := hval0
  have hW' := hW
  obtain ⟨p, q, hA0, hV0, rfl, hfz, hnd⟩ := hW
  have hA : DataW.TrodAll enc Tryz.prog W 0 (fun _ => true) true Tryz.f4.params.toList args.toList ds p := hA0
  have hV : DataW.TrodVars enc Tryz.prog W (fun _ => true) ["loop.example/g00292/impl.roundWords"] gs q := hV0
  rw [Tryz.params4] at hA hval
  obtain ⟨v0, vs0, d0, ds0, p0, q0, hargs, rfl, rfl, h0, r0⟩ := trodAll_cons hA
  obtain ⟨v1, vs1, d1, ds1, p1, q1, rfl, rfl, rfl, h1, r1⟩ := trodAll_cons r0
  obtain ⟨v2, vs2, d2, ds2, p2, q2, rfl, rfl, rfl, h2, r2⟩ := trodAll_cons r1
  obtain ⟨v3, vs3, d3, ds3, p3, q3, rfl, rfl, rfl, h3, r3⟩ := trodAll_cons r2
  obtain ⟨rfl, rfl, rfl⟩ := trodAll_nil r3
  obtain rfl : args = #[v0, v1, v2, v3] := by cases args; simp_all
  obtain ⟨_, _, _, _, dv, _, rfl, _⟩ := trodVars_one hV
  have k00 := h0
  have lt0 : ∀ x ∈ p0, x.block < W.heap.size := by obtain ⟨m, hm⟩ := k00; exact DataW.trod_lt m _ _ _ hm
  obtain ⟨i0, rfl, rfl, rfl, z0⟩ := open_int Tryz.underlying3 (hval 0 3 v0 rfl rfl) h0
  have k10 := h1
  have lt1 : ∀ x ∈ p1, x.block < W.heap.size := by obtain ⟨m, hm⟩ := k10; exact DataW.trod_lt m _ _ _ hm
  obtain ⟨g1, rfl, z1⟩ := Op.open_grant (hval 1 45 v1 rfl rfl) h1
  have k20 := h2
  have lt2 : ∀ x ∈ p2, x.block < W.heap.size := by obtain ⟨m, hm⟩ := k20; exact DataW.trod_lt m _ _ _ hm
  obtain ⟨xs2, w2⟩ := Op.open_ints (hval 2 26 v2 rfl rfl) h2 (fun _ => rfl)
  have k30 := h3
  have lt3 : ∀ x ∈ p3, x.block < W.heap.size := by obtain ⟨m, hm⟩ := k30; exact DataW.trod_lt m _ _ _ hm
  obtain ⟨i3, rfl, rfl, rfl, z3⟩ := open_int Tryz.underlying3 (hval 3 3 v3 rfl rfl) h3
  clear hA0 hval0 hV0
  have hT := Hl.tab_of hL
  refine (walk i0 z0 g1 z1 v2 xs2 W w2 i3 z3 hT).mono fun e W' ⟨he, bel⟩ => ?_
  subst he
  exact ⟨_, rfl, _, _, _, [], _, q, hW', trodAll_mk1 (shut_bool Tryz.underlying4 _), (trodAll_cons_mk (Below.trod laidOut (by kernel_rfl) (of_decide_eq_true (by kernel_rfl)) k00 bel lt0) (trodAll_cons_mk (Below.trod laidOut (by kernel_rfl) (of_decide_eq_true (by kernel_rfl)) k10 bel lt1) (trodAll_cons_mk (Below.trod laidOut (by kernel_rfl) (of_decide_eq_true (by kernel_rfl)) k20 bel lt2) (trodAll_cons_mk (Below.trod laidOut (by kernel_rfl) (of_decide_eq_true (by kernel_rfl)) k30 bel lt3) trodAll_mk0)))), Below.trodVars laidOut bel rowed hV, bel.frame _, fun h => by cases h⟩

theorem said : Rows.FnExactMakeCertificateSaid :=
  OpenClaim.holds_of_wide 4 Tryz.f4 rfl rfl rfl rfl rfl rfl rfl ⟨rfl, rfl, rfl, rfl, rfl⟩ rfl rfl rfl rfl rfl (by kernel_rfl) Tryz.func4 (by kernel_rfl)
    (of_decide_eq_true (by kernel_rfl)) (by unfold Func.isWrapper; first | (rw [if_pos (by decide +kernel)]; kernel_rfl) | (rw [if_neg (by decide +kernel)]; exact ⟨rfl, rfl⟩))
    (fun os started H enc _ => lifted os started H enc)

/-- No parameter wants a stand-in; the program's own looks are off. -/
theorem plain (f : FuncId) (fn : Func) (hf : Tryz.pinned.checked.prog.funcNamed "loop.example/g00292/laws.FnExactMakeCertificate" = some f) (hfn : Tryz.pinned.checked.prog.funcs[f]? = some fn) :
    false = Tryz.pinned.checked.prog.looks [] ∧ ∀ (j : Nat) t, fn.params[j]? = some t → Tryz.pinned.checked.prog.wantsStandIn t = false := by
  obtain rfl : f = 4 := Option.some.inj ((show Tryz.prog.funcNamed "loop.example/g00292/laws.FnExactMakeCertificate" = some 4 by kernel_rfl).symm.trans hf) |>.symm
  obtain rfl : fn = Tryz.f4 := (Option.some.inj (Tryz.func4.symm.trans hfn)).symm
  refine ⟨by kernel_rfl, fun j t ht => ?_⟩
  rw [Tryz.params4] at ht
  have hm := Array.mem_of_getElem? ht
  have hl : t ∈ [3, 45, 26, 3] := by simpa using hm
  have hall : ∀ x ∈ [3, 45, 26, 3], Tryz.prog.wantsStandIn x = false := by
    intro x hx
    simp only [List.mem_cons, List.not_mem_nil, or_false] at hx
    rcases hx with rfl | rfl | rfl | rfl <;> kernel_rfl
  exact hall t hl
end Go.Proofs.YtiflfcpoajijaaaGreatDoor.fnExactMakeCertificate
namespace Go.Proofs.YtiflfcpoajijaaaGreatDoor
/-- THE STATEMENT: the card. -/
theorem fnExactMakeCertificate_holds : Rows.FnExactMakeCertificateCardSaid :=
  Claim7.holds_tied_plain_at .later [] _ _ _ _ fnExactMakeCertificate.said (fun _ h => by cases h) (by kernel_rfl) (fun _ h => by cases h) fnExactMakeCertificate_row_tie rfl ⟨rfl, rfl⟩ (by kernel_rfl) rfl fnExactMakeCertificate.plain (by kernel_rfl)
end Go.Proofs.YtiflfcpoajijaaaGreatDoor
