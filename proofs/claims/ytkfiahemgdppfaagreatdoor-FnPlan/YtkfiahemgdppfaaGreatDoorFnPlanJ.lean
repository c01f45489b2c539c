/-
  Three drawn view changes are planned as the document says: each place has the batch of the highest view that one of them brings, or a null one.
  Conditions: none beyond the given row's own; the package variable that it reads starts as the program's text lays it (the card ties it).
-/
import Derived.Test.YtkfiahemgdppfaaGreatDoorM23
import Derived.Test.YtkfiahemgdppfaaGreatDoorM24
import Derived.Test.YtkfiahemgdppfaaGreatDoorM25
import Derived.WalkKit
namespace Go.Proofs.YtkfiahemgdppfaaGreatDoor.fnPlan
open Go.ChangeShapes Go.WideShapes Go.ChangeAt Go.RowKit
open Go.ChangeMaps (open_string shut_string)
open Go.Proofs.YtkfiahemgdppfaaGreatDoor.Hl (own laidOut rowed door_met)

open Go.Proofs.YtkfiahemgdppfaaGreatDoor.Sl Go.Proofs.YtkfiahemgdppfaaGreatDoor.By Go.Proofs.YtkfiahemgdppfaaGreatDoor.Ap Go.Proofs.YtkfiahemgdppfaaGreatDoor.Rq Go.Proofs.YtkfiahemgdppfaaGreatDoor.Rr Go.Proofs.YtkfiahemgdppfaaGreatDoor.Sh Go.Proofs.YtkfiahemgdppfaaGreatDoor.Gn Go.Proofs.YtkfiahemgdppfaaGreatDoor.La Go.Proofs.YtkfiahemgdppfaaGreatDoor.Ms Go.Proofs.YtkfiahemgdppfaaGreatDoor.Mp Go.Proofs.YtkfiahemgdppfaaGreatDoor.Si
open Go.Proofs.YtkfiahemgdppfaaGreatDoor.Rg (bel_new RowG.slice RowG.at)
open Go.Proofs.YtkfiahemgdppfaaGreatDoor.Gm (Mg Row)
open Go.Proofs.YtkfiahemgdppfaaGreatDoor.Rc (OwnM OwnM.row OwnM.below OwnM.mono OwnM.made OwnM.alloc list_msg info_m)
open Go.Proofs.YtkfiahemgdppfaaGreatDoor.Wc (Ct hd crts OwnC vcC vcL)
open Go.Proofs.YtkfiahemgdppfaaGreatDoor.Pl (stp stOf lastOf ent planL caL plC plL)
open Go.Proofs.YtkfiahemgdppfaaGreatDoor.Dc (Dn Dl dBd dMg Lst bst)
set_option maxRecDepth 100000 in
set_option maxHeartbeats 3200000 in
theorem walk (v0 : Value) (xs0 : List Int) {w : World} (r0 : RowB w v0 xs0) (v1 : Value) (xs1 : List Int) (r1 : RowB w v1 xs1) (hK : KTab w) (hp : 0 < w.heap.size) :
    Calls Tryz.prog 3 #[v0, v1] w fun e w' => e = .returned (.bool true) ∧ Below w.heap.size w w' := by
  have GK : Hid (KTab w ∧ 0 < w.heap.size) := ⟨hK, hp⟩
  have HR : Hid (RowB w v0 xs0 ∧ RowB w v1 xs1) := ⟨r0, r1⟩
  obtain ⟨a0, cA, rfl, _, _⟩ := r0
  obtain ⟨a1, cB, rfl, _, _⟩ := r1
  clear hK hp
  by_cases hb0 : (1048576 : Int) < (xs0.length : Int)
  · go_enter Tryz.func3, Tryz.ntmps3
    go_wp2
    go_ret
    exact ⟨rfl, Below.refl _ _⟩
  by_cases hb1 : (1048576 : Int) < (xs1.length : Int)
  · go_enter Tryz.func3, Tryz.ntmps3
    go_wp2
    go_ret
    exact ⟨rfl, Below.refl _ _⟩
  have HL : Hid (∀ _ : Unit, xs0.length ≤ 1048576 ∧ xs1.length ≤ 1048576) := fun _ => ⟨by omega, by omega⟩
  go_enter Tryz.func3, Tryz.ntmps3
  go_wp2_with fail
  refine (atN_any _ xs1 0 4 _ HR.out.2 (HL.out ()).2 (by decide) (by decide) (by decide)).mono ?_
  rintro e w1 ⟨rfl, W1⟩
  have hv4 := atN_lt xs1 0 4 (by decide)
  generalize atN xs1 0 4 = vv at hv4 ⊢
  obtain ⟨view, hvw0⟩ : ∃ view : Nat, 1 + vv = view := ⟨_, rfl⟩
  have hvw : (1 : Int) + (vv : Int) = (view : Int) := by omega
  have HV : Hid (1 ≤ view ∧ view ≤ 20) := by show _ ∧ _; omega
  have hv20 : view ≤ 20 := by omega
  clear hvw0
  go_wp2_with fail
  refine (atN_any _ xs1 1 4 _ (HR.out.2.below W1) (HL.out ()).2 (by decide) (by decide) (by decide)).mono ?_
  rintro e w2 ⟨rfl, b2⟩
  have hs4 := atN_lt xs1 1 4 (by decide)
  generalize atN xs1 1 4 = sk at hs4 ⊢
  have W2 := W1.trans (b2.mono W1.size)
  have O3 : Hid (OwnM (w2.alloc (.cells #[] 26)) w.heap.size (.slice (some ⟨w2.heap.size, 0, none⟩) 0 0) []) := OwnM.made w2 _ W2.size
  have W3 : Hid (Below w.heap.size w (w2.alloc (.cells #[] 26))) := W2.alloc W2.size _
  obtain ⟨i0, hi0, hz0, hz1, hz2⟩ := info_parts info_m
  obtain ⟨j0, hj0, jz0, jz1, jz2⟩ := info_parts Sl.info5
  clear b2 W1 hvw hv4
  go_wp2_with fail
  go_loopw [7, 8] (fun out i wr => ∃ (j : Nat) (L : List Mg), j ≤ 4 ∧ i = .int .i64 (j : Int) ∧ Hid (OwnM wr w.heap.size out L) ∧ Hid (Lst view sk j L) ∧ Hid (Below w.heap.size w wr)) (fun _ i _ => 4 - (intOf i).toNat)
  case atStart => exact ⟨0, [], by omega, rfl, O3, Lst.nil _ _, W3⟩
  case round =>
    clear O3 W3 W2
    obtain ⟨j, L, hj, rfl, HO, HLs, HB⟩ := hrel
    by_cases hlt : j < 4
    · have hlt' : (j : Int) < 4 := by omega
      by_cases hjs : j = sk
      · subst hjs
        have HL2 : Hid (Lst view j (j + 1) L) := HLs.out.skip
        have q1 : ((j : Int) != (j : Int)) = false := by simp
        go_wp2_with fail
        exact ⟨⟨j + 1, L, by omega, by go_num, HO, HL2, HB⟩, by simp [intOf]; omega⟩
      · have q1 : ((j : Int) != (sk : Int)) = true := by simp; omega
        have q2 : ((j : Int) == (sk : Int)) = false := by simp; omega
        have hw8 : IntKind.u8.wrap (j : Int) = (j : Int) := by rw [IntKind.wrap_u8]; omega
        have ob := Dc.own_byte wr wr.heap.size (j : Int) (Nat.le_refl _)
        have rc := (HR.out.1.below HB.out).below (bel_new wr (.cells #[.int .u8 (j : Int)] 5))
        have hBw : wr.heap.size ≤ (wr.alloc (.cells #[.int .u8 (j : Int)] 5)).heap.size := by simp
        have hll : [(j : Int)].length + xs0.length ≤ 140737488355328 := by have := (HL.out ()).1; simp; omega
        have HJS : Hid (j ≠ sk) := hjs
        have hln : L.length ≤ 1000000 := by have := HLs.out.len; omega
        clear hjs
        go_wp2_with (at_builtin; go_must (refine list_row (by rfl) _ _ 22 (by rfl) Tryz.underlying22 hj0 jz0 jz1 jz2 wr.heap.size _ _ _ _ _ (by rfl) (by rfl) ob hBw rc hll ?_; intro v3 w3 o3 k3))
        have b3 : Below wr.heap.size wr w3 := (bel_new wr _).trans (k3.below ob hBw)
        have W3 : Hid (Below w.heap.size w w3) := HB.out.trans (b3.mono HB.out.size)
        have O3 : Hid (OwnM w3 w.heap.size u7 L) := HO.out.below b3
        have hrg : ∀ z ∈ [(j : Int)] ++ xs0, 0 ≤ z ∧ z ≤ 255 := fun z hz => by
          obtain ⟨_, _, _, _, hr⟩ := HR.out.1
          rcases List.mem_append.1 hz with hz | hz
          · simp at hz; omega
          · exact hr z hz
        have R3 : Hid (RowB w3 v3 ([(j : Int)] ++ xs0)) := own_rowB o3 hrg
        obtain ⟨v3a, v3c, rfl, _, _⟩ := own_rowB o3 hrg
        clear ob rc hBw k3 b3 o3 hrg HO HB
        go_wp2_with fail
        refine (Dc.ChangeOf_any 4 1 j view _ _ w3 R3.out (by have := (HL.out ()).1; simp; omega) (by decide) (by decide) HV.out (by omega)).mono ?_
        rintro e w4 ⟨ds, rfl, hd, b4⟩
        have HL2 : Hid (Lst view sk (j + 1) (L ++ [dMg view j ds])) := HLs.out.snoc hlt HJS.out hd
        unfold dMg at HL2
        have O4 : OwnM w4 w.heap.size u7 L := O3.out.below b4
        have W4 : Below w.heap.size w w4 := W3.out.trans (b4.mono W3.out.size)
        generalize dBd ds = bo at HL2 ⊢
        generalize Si.mmk 4 view 0 j ⟨#[]⟩ bo = mk at HL2 ⊢
        clear hd b4 R3 O3 W3 hll
        go_wp2_with (at_builtin; go_must (refine list_msg (by rfl) _ _ 24 (by rfl) i0 Tryz.underlying24 hi0 hz0 hz1 hz2 w.heap.size w w4 _ L ⟨4, view, 0, j, ⟨#[]⟩, bo, mk⟩ (by rfl) O4 W4 W4.size _ (by rfl) rfl hln ?_; intro v5 w5 o5 b5 k5))
        exact ⟨⟨j + 1, _, by omega, by go_num, o5, HL2, b5⟩, by simp [intOf]; omega⟩
    · obtain rfl : j = 4 := by omega
      obtain ⟨l3, p1, p2, p3, p4⟩ := HLs.out.ok hs4 HV.out
      obtain ⟨la, lc, rfl⟩ := RowG.slice (OwnM.row HO.out)
      have RL : Hid (Row wr (.slice la L.length lc) L) := OwnM.row HO.out
      have HP := Pl.implPlanOf_any 4 view _ L wr RL.out (by omega) (fun x hx => by have := (p3 x hx).2.2.1; omega) (GK.out.1.below HB.out GK.out.2) (Nat.lt_of_lt_of_le GK.out.2 HB.out.size)
      have HPS := fun W (h : Row W (.slice la L.length lc) L) => Pl.specPlanOf_any 4 view _ L W h
      rw [p1, p2] at HP
      simp only [p1, p2] at HPS
      have P3 : Hid (∀ x ∈ L, vcC 4 x = 0 ∧ vcL 4 x = crts x ∧ x.bd.size ≤ 1507 ∧ (crts x).length ≤ 3) := p3
      have P4 : Hid (∀ c ∈ caL L, c.ms[0]? = some (hd c) ∧ (1 ≤ (hd c).sq ∧ (hd c).sq ≤ 8) ∧ (0 ≤ (hd c).vw ∧ (hd c).vw ≤ 20) ∧ c.ms.length ≤ 5) := p4
      have HPL : Hid (∀ _ : Unit, (planL (caL L)).length = lastOf (caL L) ∧ lastOf (caL L) ≤ 8) := fun _ => ⟨Dc.plan_len _, Dc.last_small fun c hc => (p4 c hc).2.1.2⟩
      have HL3 : Hid (L.length = 3) := l3
      clear p1 p2 p3 p4 HO HLs l3
      go_wp2_with fail
      refine HP.mono ?_
      rintro e w4 ⟨u4, rfl, o4, b4⟩
      have W4 : Hid (Below w.heap.size w w4) := HB.out.trans (b4.mono HB.out.size)
      have R4 : Hid (Row w4 (.slice la L.length lc) L) := RL.out.below b4
      have T4 := Tl.OwnS.row o4
      have T4h : Hid (Go.Proofs.YtkfiahemgdppfaaGreatDoor.Ty.RowT w4 u4 (planL (caL L))) := T4
      obtain ⟨pa, pc, rfl, _⟩ := T4
      clear o4 b4 HP RL HB
      go_wp2_with fail
      refine (HPS _ R4.out).mono ?_
      rintro e w5 ⟨u5, rfl, o5, b5⟩
      have W5 : Hid (Below w.heap.size w w5) := W4.out.trans (b5.mono W4.out.size)
      have R5 : Hid (Row w5 (.slice la L.length lc) L) := R4.out.below b5
      have T5 : Hid (Go.Proofs.YtkfiahemgdppfaaGreatDoor.Ty.RowT w5 (.slice pa (planL (caL L)).length pc) (planL (caL L))) := T4h.out.below b5
      have Q5 : Hid (Go.Proofs.YtkfiahemgdppfaaGreatDoor.Ty.RowT w5 u5 (planL (caL L))) := Tl.OwnS.row o5
      obtain ⟨qa, qc, rfl, _⟩ := Tl.OwnS.row o5
      clear o5 b5 HPS R4 W4 T4h
      go_wp2_with fail
      refine (Ty.sameTexts_same _ _ _ _ T5.out Q5.out (by have := HPL.out (); omega)).mono ?_
      rintro e w6 ⟨rfl, b6⟩
      have W6 : Hid (Below w.heap.size w w6) := W5.out.trans (b6.mono W5.out.size)
      have R6 : Hid (Row w6 (.slice la L.length lc) L) := R5.out.below b6
      have T6 : Hid (Go.Proofs.YtkfiahemgdppfaaGreatDoor.Ty.RowT w6 (.slice pa (planL (caL L)).length pc) (planL (caL L))) := T5.out.below b6
      clear b6 W5 R5 T5 Q5
      have A7 : Hid ((w6.alloc (.cells #[.int .i64 0, .int .i64 0, .int .i64 0, .int .i64 0, .int .i64 0, .int .i64 0, .int .i64 0, .int .i64 0, .int .i64 0] 3)).heap[w6.heap.size]? = some (.cells #[.int .i64 0, .int .i64 0, .int .i64 0, .int .i64 0, .int .i64 0, .int .i64 0, .int .i64 0, .int .i64 0, .int .i64 0] 3 (0, 0))) := blk_new _ _ _
      have B7 : Hid (Below w6.heap.size w6 (w6.alloc (.cells #[.int .i64 0, .int .i64 0, .int .i64 0, .int .i64 0, .int .i64 0, .int .i64 0, .int .i64 0, .int .i64 0, .int .i64 0] 3))) := bel_new _ _
      have hmk := Dc.make9 w6
      go_upto_region 16 with fail
      generalize w6.alloc (.cells #[.int .i64 0, .int .i64 0, .int .i64 0, .int .i64 0, .int .i64 0, .int .i64 0, .int .i64 0, .int .i64 0, .int .i64 0] 3) = w7 at A7 B7 ⊢
      go_wp2_with fail
      go_loopw [14, 15] (fun l i wr => ∃ k : Nat, k ≤ 3 ∧ i = .int .i64 (k : Int) ∧ l = .int .i64 ((lastOf (caL (L.take k)) : Nat) : Int) ∧ Hid (wr.heap[w6.heap.size]? = some (.cells (bst (stOf (caL (L.take k)))) 3 (0, 0))) ∧ Hid (Below w6.heap.size w6 wr)) (fun _ i _ => 3 - (intOf i).toNat)
      case atStart => exact ⟨0, by omega, rfl, rfl, A7, B7⟩
      case round =>
        clear A7 B7
        obtain ⟨k, hk, rfl, rfl, HA, HB⟩ := hrel
        by_cases hk3 : k < 3
        · obtain ⟨x, hx⟩ := Rg.get_at (xs := L) (k := k) (by have := HL3.out; omega)
          obtain ⟨b, off, rfl, hb, c0, c1, c2, c3, c4, c5, c6⟩ := RowG.at (R6.out.below HB.out) rfl hx
          have WR := W6.out.trans (HB.out.mono W6.out.size)
          have hxm := Rg.mem_at hx
          have HVC := Wc.implViewCerts_any 4 x wr (by have := (P3.out x hxm).2.2.1; omega) (GK.out.1.below WR GK.out.2) (Nat.lt_of_lt_of_le GK.out.2 WR.size)
          rw [(P3.out x hxm).1, (P3.out x hxm).2.1] at HVC
          have HX : Hid (caL (L.take (k + 1)) = caL (L.take k) ++ crts x) := Dc.caL_take hx
          have HC3 : Hid ((crts x).length ≤ 3) := (P3.out x hxm).2.2.2
          have HCM : Hid (∀ c ∈ crts x, c ∈ caL L) := fun c hc => List.mem_flatMap.2 ⟨x, hxm, hc⟩
          have hp0 : (0 : Int) ≤ (k : Int) := by omega
          have hp1 : (k : Int) < (L.length : Int) := by have := HL3.out; omega
          have HLT : Hid (w6.heap.size < wr.heap.size) := (Array.getElem?_eq_some_iff.1 HA.out).1
          generalize caL (L.take k) = C0 at HA HX ⊢
          clear hx hxm WR
          go_wp2_with fail
          refine HVC.mono ?_
          rintro e w8 ⟨u8, rfl, ⟨ps, hps, o8⟩, b8⟩
          have A8 : Hid (w8.heap[w6.heap.size]? = some (.cells (bst (stOf C0)) 3 (0, 0))) := (b8.block _ HLT.out).trans HA.out
          have B8 : Hid (Below w6.heap.size w6 w8) := HB.out.trans (b8.mono HB.out.size)
          obtain ⟨ca, cc, rfl⟩ := OwnC.slice o8
          have O8 : Hid (OwnC w8 wr.heap.size (.slice ca ps.length cc) ps) := o8
          have HPS : Hid (ps.map (·.1) = crts x) := hps
          have hp8 : ps.length ≤ 3 := by have h0 := HC3.out; rw [← hps, List.length_map] at h0; exact h0
          clear o8 b8 HVC c0 c1 c2 c3 c4 c5 c6 hps HA HB
          generalize wr.heap.size = Z at O8 HLT
          go_wp2_with fail
          go_loopw [14, 18] (fun l i wq => ∃ q : Nat, q ≤ ps.length ∧ i = .int .i64 (q : Int) ∧ l = .int .i64 ((lastOf (C0 ++ (ps.take q).map (·.1)) : Nat) : Int) ∧ Hid (wq.heap[w6.heap.size]? = some (.cells (bst (stOf (C0 ++ (ps.take q).map (·.1)))) 3 (0, 0))) ∧ Hid (OwnC wq Z (.slice ca ps.length cc) ps) ∧ Hid (Below w6.heap.size w6 wq)) (fun _ i _ => ps.length - (intOf i).toNat)
          case atStart => exact ⟨0, by omega, rfl, by simp, by simpa using A8, O8, B8⟩
          case round =>
            clear A8 B8 O8
            obtain ⟨q, hq, rfl, rfl, HA, HO, HB⟩ := hrel
            by_cases hql : q < ps.length
            · obtain ⟨p, hpq⟩ := Rg.get_at hql
              have hpm := Rg.mem_at hpq
              obtain ⟨g, rfl, hg0, hg1, d0, d1⟩ := OwnC.at HO.out hpq
              obtain ⟨t1, t2, t3, t4⟩ := P4.out p.1 (HCM.out _ (by rw [← HPS.out]; exact List.mem_map_of_mem hpm))
              have om := OwnM.row (HO.out.mem p hpm)
              obtain ⟨ma, mc, hm2⟩ := RowG.slice om
              rw [hm2] at om d1
              obtain ⟨b2, off2, rfl, hb2, m0, m1, m2, m3, m4, m5, m6⟩ := RowG.at om rfl t1
              have HC1 : Hid (C0 ++ (ps.take (q + 1)).map (·.1) = (C0 ++ (ps.take q).map (·.1)) ++ [p.1]) := by
                show _ = _
                rw [List.take_add_one, hpq, List.map_append, ← List.append_assoc]; rfl
              obtain ⟨t, ht⟩ : ∃ t : Nat, (hd p.1).sq = (t : Int) := ⟨(hd p.1).sq.toNat, by omega⟩
              have HST := Dc.bst_step (stOf (C0 ++ (ps.take q).map (·.1))) p.1 (s := t - 1) (by omega) (by omega)
              have HAT := Dc.bst_at (stOf (C0 ++ (ps.take q).map (·.1))) (s := t - 1) (by omega)
              rw [show t - 1 + 1 = t by omega] at HST HAT
              obtain ⟨bb, hbb⟩ : ∃ bb, (stOf (C0 ++ (ps.take q).map (·.1)) (t - 1)).2 = bb := ⟨_, rfl⟩
              rw [hbb] at HST HAT
              clear hbb
              have HLS := Dc.last_snoc (C0 ++ (ps.take q).map (·.1)) p.1
              have HSS := Dc.st_snoc (C0 ++ (ps.take q).map (·.1)) p.1
              rw [ht] at t2 m2 HLS
              simp only [Nat.zero_mul, Nat.add_zero] at m0 m1 m2 m3 m4 m5 m6
              have hyl : w6.heap.size < wr.heap.size := (Array.getElem?_eq_some_iff.1 HA.out).1
              have A9 : Hid ((wr.alloc (.cells #[.int .i64 (hd p.1).kd, .int .i64 (hd p.1).vw, .int .i64 (t : Int), .int .i64 (hd p.1).fr, .string (hd p.1).dg, .string (hd p.1).bd, .string (hd p.1).mc] 26)).heap[w6.heap.size]? = some (.cells (bst (stOf (C0 ++ (ps.take q).map (·.1)))) 3 (0, 0))) := (Below.heap_alloc _ _ _ hyl).trans HA.out
              have Y9 : Hid ((wr.alloc (.cells #[.int .i64 (hd p.1).kd, .int .i64 (hd p.1).vw, .int .i64 (t : Int), .int .i64 (hd p.1).fr, .string (hd p.1).dg, .string (hd p.1).bd, .string (hd p.1).mc] 26)).heap[wr.heap.size]? = some (.cells #[.int .i64 (hd p.1).kd, .int .i64 (hd p.1).vw, .int .i64 (t : Int), .int .i64 (hd p.1).fr, .string (hd p.1).dg, .string (hd p.1).bd, .string (hd p.1).mc] 26 (0, 0))) := blk_new _ _ _
              have O9 : Hid (OwnC (wr.alloc (.cells #[.int .i64 (hd p.1).kd, .int .i64 (hd p.1).vw, .int .i64 (t : Int), .int .i64 (hd p.1).fr, .string (hd p.1).dg, .string (hd p.1).bd, .string (hd p.1).mc] 26)) Z (.slice (some ⟨g, 0, none⟩) ps.length cc) ps) := HO.out.below (bel_new _ _)
              have B9 : Hid (Below w6.heap.size w6 (wr.alloc (.cells #[.int .i64 (hd p.1).kd, .int .i64 (hd p.1).vw, .int .i64 (t : Int), .int .i64 (hd p.1).fr, .string (hd p.1).dg, .string (hd p.1).bd, .string (hd p.1).mc] 26))) := HB.out.alloc HB.out.size _
              have hq0 : (0 : Int) ≤ (q : Int) := by omega
              have hq1 : (q : Int) < (ps.length : Int) := by omega
              have hms : (0 : Int) < (p.1.ms.length : Int) := by have := Rg.lt_at t1; omega
              have ht0 : (0 : Int) ≤ (t : Int) := by omega
              have ht9 : (t : Int) < 9 := by omega
              have ht1 : 1 ≤ t := by omega
              have hv9 : -1 ≤ (hd p.1).vw ∧ (hd p.1).vw ≤ 20 := by omega
              have hneY : w6.heap.size ≠ wr.heap.size := by omega
              clear hpq hpm om hm2 hb2 t1 t2 t3 t4 hyl ht hg0 hg1
              go_upto_region 27 with fail
              generalize wr.alloc (.cells #[.int .i64 (hd p.1).kd, .int .i64 (hd p.1).vw, .int .i64 (t : Int), .int .i64 (hd p.1).fr, .string (hd p.1).dg, .string (hd p.1).bd, .string (hd p.1).mc] 26) = w9 at A9 Y9 O9 B9 ⊢
              generalize wr.heap.size = y at Y9 hneY ⊢
              have e1 := (blk_cell Y9.out 1 (x := .int .i64 (hd p.1).vw) rfl).1
              have e2 := (blk_cell Y9.out 2 (x := .int .i64 (t : Int)) rfl).1
              obtain ⟨f1, f2⟩ := blk_cell A9.out t HAT
              have e1d : w9.drew.cell? ⟨y, 1, none⟩ = some (.int .i64 (hd p.1).vw) := e1
              have e2d : w9.drew.cell? ⟨y, 2, none⟩ = some (.int .i64 (t : Int)) := e2
              have f1d : w9.drew.cell? ⟨w6.heap.size, t, none⟩ = some (.int .i64 bb) := f1
              have A10 : Hid ((w9.setCell ⟨w6.heap.size, t, none⟩ (.int .i64 (max bb ((hd p.1).vw + 1)))).drew.heap[w6.heap.size]? = some (.cells (bst (stOf (C0 ++ (ps.take (q + 1)).map (·.1)))) 3 (0, 0))) := by
                have h0 := blk_set A9.out t (.int .i64 (max bb ((hd p.1).vw + 1)))
                rw [HST, ← HSS, ← HC1.out] at h0
                exact h0
              have O10 : Hid (OwnC (w9.setCell ⟨w6.heap.size, t, none⟩ (.int .i64 (max bb ((hd p.1).vw + 1)))).drew Z (.slice (some ⟨g, 0, none⟩) ps.length cc) ps) := by
                have h0 := Dc.ownc_set O9.out HLT.out t (.int .i64 (max bb ((hd p.1).vw + 1)))
                exact ⟨h0.row, h0.mem, h0.apart⟩
              have Y10 : Hid ((w9.setCell ⟨w6.heap.size, t, none⟩ (.int .i64 (max bb ((hd p.1).vw + 1)))).drew.heap[y]? = some (.cells #[.int .i64 (hd p.1).kd, .int .i64 (hd p.1).vw, .int .i64 (t : Int), .int .i64 (hd p.1).fr, .string (hd p.1).dg, .string (hd p.1).bd, .string (hd p.1).mc] 26 (0, 0))) := (blk_far (by omega) t (.int .i64 (max bb ((hd p.1).vw + 1)))).trans Y9.out
              have B10 : Hid (Below w6.heap.size w6 (w9.setCell ⟨w6.heap.size, t, none⟩ (.int .i64 (max bb ((hd p.1).vw + 1)))).drew) := (Below.setCell B9.out (p := ⟨w6.heap.size, t, none⟩) (Nat.le_refl _) _).drew
              have hlast : max ((lastOf (C0 ++ (ps.take q).map (·.1)) : Nat) : Int) (t : Int) = ((lastOf (C0 ++ (ps.take (q + 1)).map (·.1)) : Nat) : Int) := by rw [HC1.out, HLS, Int.toNat_natCast]; omega
              have HLQ : Hid (max ((lastOf (C0 ++ (ps.take q).map (·.1)) : Nat) : Int) (t : Int) = ((lastOf (C0 ++ (ps.take (q + 1)).map (·.1)) : Nat) : Int)) := hlast
              clear m0 m1 m2 m3 m4 m5 m6 d0 d1 HA HO HB HST HAT HSS HLS HC1 hlast
              generalize lastOf (C0 ++ (ps.take q).map (·.1)) = ll at HLQ ⊢
              go_region
              all_goals
                clear e1 e2 f1 f2 e1d e2d f1d A9 Y9 O9 B9
                generalize (w9.setCell ⟨w6.heap.size, t, none⟩ (.int .i64 (max bb ((hd p.1).vw + 1)))).drew = wx at A10 O10 Y10 B10 ⊢
                have e2 := (blk_cell Y10.out 2 (x := .int .i64 (t : Int)) rfl).1
                have hmx := HLQ.out
                go_wp2_with fail
                exact ⟨⟨q + 1, by omega, by go_num, by first | rfl | (rw [List.map_take]) | (rw [HLQ.out]) | trivial, A10, O10, B10⟩, by simp [intOf]; omega⟩
            · obtain rfl : q = ps.length := by omega
              have HE : Hid (C0 ++ (ps.take ps.length).map (·.1) = caL (L.take (k + 1))) := by
                show _ = _
                rw [List.take_length, HPS.out, HX.out]
              rw [HE.out] at HA ⊢
              go_wp2_with fail
              exact ⟨⟨k + 1, by omega, by go_num, rfl, HA, HB⟩, by simp [intOf]; omega⟩
        · obtain rfl : k = 3 := by omega
          have e3 : L.take 3 = L := List.take_of_length_le (by have := HL3.out; omega)
          rw [e3] at HA ⊢
          have HL4 : Hid (L.take 3 = L) := e3
          clear e3
          have WZ : Hid (Below w.heap.size w wr) := W6.out.trans (HB.out.mono W6.out.size)
          have RZ : Hid (Row wr (.slice la L.length lc) L) := R6.out.below HB.out
          have TZ : Hid (Go.Proofs.YtkfiahemgdppfaaGreatDoor.Ty.RowT wr (.slice pa (planL (caL L)).length pc) (planL (caL L))) := T6.out.below HB.out
          have HAZ : Hid (∀ W, Below wr.heap.size wr W → W.heap[w6.heap.size]? = some (.cells (bst (stOf (caL L))) 3 (0, 0))) := fun W hW => (hW.block _ (Array.getElem?_eq_some_iff.1 HA.out).1).trans HA.out
          have HEND0 : Hid (∀ i, ∀ f0 : Bool, ((stOf (caL L) i).2 = 0 → f0 = true) → Dc.fo f0 ((i : Int) + 1) (stOf (caL L) i).2 (ent (stOf (caL L)) i) (caL L) = true) := fun i f0 h => Dc.fo_end (fun c hc => (P4.out c hc).2.2.1.1) i h
          have hne : (((planL (caL L)).length : Int) != ((lastOf (caL L) : Nat) : Int)) = false := by rw [(HPL.out ()).1]; simp
          have hz8 : lastOf (caL L) ≤ 8 := (HPL.out ()).2
          have HPN : Hid (∀ i, i < lastOf (caL L) → i < (planL (caL L)).length ∧ Go.Proofs.YtkfiahemgdppfaaGreatDoor.Ty.tnth (planL (caL L)) i = ent (stOf (caL L)) i) := fun i hi => by
            have h1 := (HPL.out ()).1
            refine ⟨by omega, ?_⟩
            unfold Go.Proofs.YtkfiahemgdppfaaGreatDoor.Ty.tnth
            rw [List.getD_eq_getElem?_getD, Dc.plan_at hi]; rfl
          clear HA HB
          obtain ⟨wz, hwz⟩ : ∃ wz, wz = wr := ⟨_, rfl⟩
          subst hwz
          obtain ⟨ZZ, HZZ⟩ : ∃ ZZ, Hid (lastOf (caL L) = ZZ) := ⟨_, rfl⟩
          rw [HZZ.out] at hne hz8 HPN ⊢
          have hmz : (planL (caL L)).length = ZZ := by rw [← HZZ.out]; exact (HPL.out ()).1
          have HMZ : Hid ((planL (caL L)).length = ZZ) := hmz
          clear hmz
          have hn3 : ¬ 3 < L.length := by have := HL3.out; omega
          have hi3 : ¬ (3 : Int) < (L.length : Int) := by have := HL3.out; omega
          go_wp2_with fail
          go_loopw [20] (fun iv wr => ∃ u : Nat, u ≤ ZZ ∧ iv = .int .i64 ((u + 1 : Nat) : Int) ∧ Hid (Below wz.heap.size wz wr)) (fun iv _ => ZZ + 1 - (intOf iv).toNat)
          case atStart => exact ⟨0, by omega, rfl, Below.refl _ _⟩
          case round =>
            obtain ⟨u, hu, rfl, HBT⟩ := hrel
            obtain ⟨t, HTU⟩ : ∃ t : Nat, Hid (u + 1 = t) := ⟨_, rfl⟩
            rw [HTU.out]
            have htu : (t : Int) - 1 = (u : Int) := by have := HTU.out; omega
            by_cases hlt : u < ZZ
            · have hlt' : (t : Int) ≤ (ZZ : Int) := by have := HTU.out; omega
              obtain ⟨hul, htn⟩ := HPN.out u hlt
              obtain ⟨pa', pc', epp, hh⟩ := TZ.out
              cases epp
              rcases hh with hh | ⟨pb, po, rfl, hpc, hpb, hpcell⟩
              · exact absurd hul (by rw [hh]; simp)
              have hp1 := hpcell u hul
              rw [htn] at hp1
              have hat := Dc.bst_at (stOf (caL L)) (s := u) (by omega)
              rw [HTU.out] at hat
              have HCE0 : Hid (∀ W, Below wz.heap.size wz W → W.cell? ⟨w6.heap.size, t, none⟩ = some (.int .i64 (stOf (caL L) u).2) ∧ W.cell? ⟨pb, po + u, none⟩ = some (.string (ent (stOf (caL L)) u))) := fun W hW => ⟨(blk_cell (HAZ.out W hW) t hat).1, (hW.cell (p := ⟨pb, po + u, none⟩) hpb).trans hp1⟩
              have HEND1 := HEND0.out u
              rw [show ((u : Int) + 1) = (t : Int) by have := HTU.out; omega] at HEND1
              have HEN : Hid ((stOf (caL L) u).2 = 0 → ent (stOf (caL L)) u = Pl.nulB) := fun h => Dc.ent_zero h
              generalize (stOf (caL L) u).2 = bb at HCE0 HEND1 HEN
              generalize ent (stOf (caL L)) u = tx at HCE0 HEND1 HEN
              have HCE : Hid (∀ W, Below wz.heap.size wz W → W.cell? ⟨w6.heap.size, t, none⟩ = some (.int .i64 bb) ∧ W.cell? ⟨pb, po + u, none⟩ = some (.string tx)) := HCE0.out
              have HEND : Hid (∀ f0 : Bool, (bb = 0 → f0 = true) → Dc.fo f0 (t : Int) bb tx (caL L) = true) := HEND1
              clear HCE0 HEND1 hp1 hpcell hat htn
              obtain ⟨f1, f2⟩ := HCE.out wr HBT.out
              have ht0 : (0 : Int) ≤ (t : Int) := by omega
              have ht9 : (t : Int) < 9 := by omega
              have hu0 : (0 : Int) ≤ (u : Int) := by omega
              have hu1 : (u : Int) < ((planL (caL L)).length : Int) := by omega
              by_cases hb0 : bb = 0
              · have b0 : (bb == 0) = true := by simpa using hb0
                have tx0 : (tx.toList == [0]) = true := by rw [HEN.out hb0, Lib.toList_data]; rfl
                clear hb0
                go_upto_region 35 with fail
                clear f1 f2
                go_wp2_with fail
                go_loopw [21, 22] (fun fv iv wr => ∃ (k : Nat) (o : Bool), k ≤ 3 ∧ fv = .bool o ∧ iv = .int .i64 (k : Int) ∧ Hid (Dc.fo true (t : Int) bb tx (caL (L.take k)) = o) ∧ Hid (Below wz.heap.size wz wr)) (fun _ iv _ => 3 - (intOf iv).toNat)
                case atStart => exact ⟨0, true, by omega, rfl, rfl, Dc.fo_nil _ _ _ _, HBT⟩
                case round =>
                  obtain ⟨k, o, hk, rfl, rfl, HO, HB2⟩ := hrel
                  by_cases hk3 : k < 3
                  · obtain ⟨x, hx⟩ := Rg.get_at (xs := L) (k := k) (by have := HL3.out; omega)
                    obtain ⟨b, off, rfl, hb, c0, c1, c2, c3, c4, c5, c6⟩ := RowG.at (RZ.out.below HB2.out) rfl hx
                    have WR := WZ.out.trans (HB2.out.mono WZ.out.size)
                    have hxm := Rg.mem_at hx
                    have HVC := Wc.implViewCerts_any 4 x wr (by have := (P3.out x hxm).2.2.1; omega) (GK.out.1.below WR GK.out.2) (Nat.lt_of_lt_of_le GK.out.2 WR.size)
                    rw [(P3.out x hxm).1, (P3.out x hxm).2.1] at HVC
                    have HX : Hid (caL (L.take (k + 1)) = caL (L.take k) ++ crts x) := Dc.caL_take hx
                    have HC3 : Hid ((crts x).length ≤ 3) := (P3.out x hxm).2.2.2
                    have HCM : Hid (∀ c ∈ crts x, c ∈ caL L) := fun c hc => List.mem_flatMap.2 ⟨x, hxm, hc⟩
                    have hp0 : (0 : Int) ≤ (k : Int) := by omega
                    have hp1 : (k : Int) < (L.length : Int) := by have := HL3.out; omega
                    generalize caL (L.take k) = C0 at HO HX
                    clear hx hxm WR
                    go_wp2_with fail
                    refine HVC.mono ?_
                    rintro e w8 ⟨u8, rfl, ⟨ps, hps, o8⟩, b8⟩
                    have B8 : Hid (Below wz.heap.size wz w8) := HB2.out.trans (b8.mono HB2.out.size)
                    obtain ⟨ca, cc, rfl⟩ := OwnC.slice o8
                    have O8 : Hid (OwnC w8 wr.heap.size (.slice ca ps.length cc) ps) := o8
                    have HPS : Hid (ps.map (·.1) = crts x) := hps
                    have hp8 : ps.length ≤ 3 := by have h0 := HC3.out; rw [← hps, List.length_map] at h0; exact h0
                    clear o8 b8 HVC c0 c1 c2 c3 c4 c5 c6 hps HB2
                    generalize wr.heap.size = Z at O8
                    go_wp2_with fail
                    go_loopw [21, 25] (fun fv iv wq => ∃ (q : Nat) (o2 : Bool), q ≤ ps.length ∧ fv = .bool o2 ∧ iv = .int .i64 (q : Int) ∧ Hid (Dc.fo true (t : Int) bb tx (C0 ++ (ps.take q).map (·.1)) = o2) ∧ Hid (OwnC wq Z (.slice ca ps.length cc) ps) ∧ Hid (Below wz.heap.size wz wq)) (fun _ iv _ => ps.length - (intOf iv).toNat)
                    case atStart => exact ⟨0, o, by omega, rfl, rfl, by simpa using HO, O8, B8⟩
                    case round =>
                      clear B8 O8 HO
                      obtain ⟨q, o2, hq, rfl, rfl, HO, HOC, HB2⟩ := hrel
                      by_cases hql : q < ps.length
                      · obtain ⟨p, hpq⟩ := Rg.get_at hql
                        have hpm := Rg.mem_at hpq
                        obtain ⟨g, rfl, hg0, hg1, d0, d1⟩ := OwnC.at HOC.out hpq
                        obtain ⟨t1, t2, t3, t4⟩ := P4.out p.1 (HCM.out _ (by rw [← HPS.out]; exact List.mem_map_of_mem hpm))
                        have om := OwnM.row (HOC.out.mem p hpm)
                        obtain ⟨ma, mc, hm2⟩ := RowG.slice om
                        rw [hm2] at om d1
                        obtain ⟨b2, off2, rfl, hb2, m0, m1, m2, m3, m4, m5, m6⟩ := RowG.at om rfl t1
                        have HC1 : Hid (C0 ++ (ps.take (q + 1)).map (·.1) = (C0 ++ (ps.take q).map (·.1)) ++ [p.1]) := by
                          show _ = _
                          rw [List.take_add_one, hpq, List.map_append, ← List.append_assoc]; rfl
                        simp only [Nat.zero_mul, Nat.add_zero] at m0 m1 m2 m3 m4 m5 m6
                        have hq0 : (0 : Int) ≤ (q : Int) := by omega
                        have hq1 : (q : Int) < (ps.length : Int) := by omega
                        have hms : (0 : Int) < (p.1.ms.length : Int) := by have := Rg.lt_at t1; omega
                        have hv20 : (hd p.1).vw ≤ 20 ∧ 0 ≤ (hd p.1).vw := ⟨t3.2, t3.1⟩
                        have A9 : Hid ((wr.alloc (.cells #[.int .i64 (hd p.1).kd, .int .i64 (hd p.1).vw, .int .i64 (hd p.1).sq, .int .i64 (hd p.1).fr, .string (hd p.1).dg, .string (hd p.1).bd, .string (hd p.1).mc] 26)).heap[wr.heap.size]? = some (.cells #[.int .i64 (hd p.1).kd, .int .i64 (hd p.1).vw, .int .i64 (hd p.1).sq, .int .i64 (hd p.1).fr, .string (hd p.1).dg, .string (hd p.1).bd, .string (hd p.1).mc] 26 (0, 0))) := blk_new _ _ _
                        have O9 : Hid (OwnC (wr.alloc (.cells #[.int .i64 (hd p.1).kd, .int .i64 (hd p.1).vw, .int .i64 (hd p.1).sq, .int .i64 (hd p.1).fr, .string (hd p.1).dg, .string (hd p.1).bd, .string (hd p.1).mc] 26)) Z (.slice (some ⟨g, 0, none⟩) ps.length cc) ps) := HOC.out.below (bel_new _ _)
                        have B9 : Hid (Below wz.heap.size wz (wr.alloc (.cells #[.int .i64 (hd p.1).kd, .int .i64 (hd p.1).vw, .int .i64 (hd p.1).sq, .int .i64 (hd p.1).fr, .string (hd p.1).dg, .string (hd p.1).bd, .string (hd p.1).mc] 26))) := HB2.out.alloc HB2.out.size _
                        have D9 : Hid ((wr.alloc (.cells #[.int .i64 (hd p.1).kd, .int .i64 (hd p.1).vw, .int .i64 (hd p.1).sq, .int .i64 (hd p.1).fr, .string (hd p.1).dg, .string (hd p.1).bd, .string (hd p.1).mc] 26)).cell? ⟨g, q * 2, none⟩ = some (.string p.1.bd)) := ((bel_new wr _).cell (p := ⟨g, q * 2, none⟩) hg1).trans d0
                        generalize C0 ++ (ps.take q).map (·.1) = D at HO HC1
                        clear hpq hpm om hm2 hb2 t1 t2 t3 t4 hg0 hg1 HOC HB2
                        go_upto_region 43 with fail
                        generalize wr.alloc (.cells #[.int .i64 (hd p.1).kd, .int .i64 (hd p.1).vw, .int .i64 (hd p.1).sq, .int .i64 (hd p.1).fr, .string (hd p.1).dg, .string (hd p.1).bd, .string (hd p.1).mc] 26) = w9 at A9 O9 B9 D9 ⊢
                        generalize wr.heap.size = y at A9 ⊢
                        clear d0 d1 m0 m1 m2 m3 m4 m5 m6
                        have e1 := (blk_cell A9.out 1 (x := .int .i64 (hd p.1).vw) rfl).1
                        have e2 := (blk_cell A9.out 2 (x := .int .i64 (hd p.1).sq) rfl).1
                        have e3 := D9.out
                        obtain ⟨f1, f2⟩ := HCE.out w9 B9.out
                        obtain ⟨X, hX, W, QI0, QO0⟩ := Qc.klass w9
                        have QI : Hid (∀ w', Below w9.heap.size w9 w' → ∃ x, w' = W x) := QI0
                        have QO : Hid (∀ x, Below w9.heap.size w9 (W x)) := QO0
                        clear QI0 QO0
                        have y1 := Qc.cell_all QO.out e1
                        have y2 := Qc.cell_all QO.out e2
                        have y3 := Qc.cell_all QO.out e3
                        have y4 := Qc.cell_all QO.out f1
                        have y5 := Qc.cell_all QO.out f2
                        clear e1 e2 e3 f1 f2 A9 D9
                        cases o2 with
                        | true =>
                          have HN : Hid (Dc.fo true (t : Int) bb tx (C0 ++ (ps.take (q + 1)).map (·.1)) = true) := by show _ = _; rw [HC1.out]; exact Dc.fo_true HO.out
                          refine Qc.region_class (W := W) (by kernel_rfl) (by kernel_rfl) (QI.out _ Qc.from_drew) ?_
                          repeat (go_big_quiet_step (fail))
                          refine wpQuiet_nil ?_
                          rintro _ ⟨xq, rfl⟩
                          have G2 : Hid (Below wz.heap.size wz (W xq)) := B9.out.trans ((QO.out xq).mono B9.out.size)
                          have O2 : Hid (OwnC (W xq) Z (.slice (some ⟨g, 0, none⟩) ps.length cc) ps) := O9.out.below (QO.out xq)
                          clear y1 y2 y3 y4 y5
                          generalize W xq = wq at G2 O2 ⊢
                          go_wp2_with fail
                          exact ⟨⟨q + 1, _, by omega, rfl, by go_num, HN, O2, G2⟩, by simp [intOf]; omega⟩
                        | false =>
                          have HNF := Dc.fo_false (c := p.1) HO.out
                          rw [← HC1.out] at HNF
                          have HN : Hid (Dc.fo true (t : Int) bb tx (C0 ++ (ps.take (q + 1)).map (·.1)) = Dc.fnd (t : Int) bb tx p.1) := HNF
                          clear HNF
                          by_cases g1 : (hd p.1).sq = (t : Int)
                          · by_cases g2 : (hd p.1).vw + 1 = bb
                            · have HE := Dc.fnd_yes (t := tx) g1 g2
                              have HN2 : Hid (Dc.fo true (t : Int) bb tx (C0 ++ (ps.take (q + 1)).map (·.1)) = (p.1.bd.toList == tx.toList)) := HN.out.trans HE
                              have g1' : ((hd p.1).sq == (t : Int)) = true := by simpa using g1
                              have g2' : ((hd p.1).vw + 1 == bb) = true := by simpa using g2
                              clear g1 g2 HE HN
                              have HN := HN2
                              clear HN2
                              refine Qc.region_class (W := W) (by kernel_rfl) (by kernel_rfl) (QI.out _ Qc.from_drew) ?_
                              repeat (go_big_quiet_step (fail))
                              refine wpQuiet_nil ?_
                              rintro _ ⟨xq, rfl⟩
                              have G2 : Hid (Below wz.heap.size wz (W xq)) := B9.out.trans ((QO.out xq).mono B9.out.size)
                              have O2 : Hid (OwnC (W xq) Z (.slice (some ⟨g, 0, none⟩) ps.length cc) ps) := O9.out.below (QO.out xq)
                              clear y1 y2 y3 y4 y5
                              generalize W xq = wq at G2 O2 ⊢
                              go_wp2_with fail
                              exact ⟨⟨q + 1, _, by omega, rfl, by go_num, HN, O2, G2⟩, by simp [intOf]; omega⟩
                            · have g1' : ((hd p.1).sq == (t : Int)) = true := by simpa using g1
                              have g2' : ((hd p.1).vw + 1 == bb) = false := by simpa using g2
                              have HN2 : Hid (Dc.fo true (t : Int) bb tx (C0 ++ (ps.take (q + 1)).map (·.1)) = false) := HN.out.trans (Dc.fnd_no2 g2)
                              clear g1 g2 HN
                              have HN := HN2
                              clear HN2
                              refine Qc.region_class (W := W) (by kernel_rfl) (by kernel_rfl) (QI.out _ Qc.from_drew) ?_
                              repeat (go_big_quiet_step (fail))
                              refine wpQuiet_nil ?_
                              rintro _ ⟨xq, rfl⟩
                              have G2 : Hid (Below wz.heap.size wz (W xq)) := B9.out.trans ((QO.out xq).mono B9.out.size)
                              have O2 : Hid (OwnC (W xq) Z (.slice (some ⟨g, 0, none⟩) ps.length cc) ps) := O9.out.below (QO.out xq)
                              clear y1 y2 y3 y4 y5
                              generalize W xq = wq at G2 O2 ⊢
                              go_wp2_with fail
                              exact ⟨⟨q + 1, _, by omega, rfl, by go_num, HN, O2, G2⟩, by simp [intOf]; omega⟩
                          · have g1' : ((hd p.1).sq == (t : Int)) = false := by simpa using g1
                            have HN2 : Hid (Dc.fo true (t : Int) bb tx (C0 ++ (ps.take (q + 1)).map (·.1)) = false) := HN.out.trans (Dc.fnd_no1 g1)
                            clear g1 HN
                            have HN := HN2
                            clear HN2
                            refine Qc.region_class (W := W) (by kernel_rfl) (by kernel_rfl) (QI.out _ Qc.from_drew) ?_
                            repeat (go_big_quiet_step (fail))
                            refine wpQuiet_nil ?_
                            rintro _ ⟨xq, rfl⟩
                            have G2 : Hid (Below wz.heap.size wz (W xq)) := B9.out.trans ((QO.out xq).mono B9.out.size)
                            have O2 : Hid (OwnC (W xq) Z (.slice (some ⟨g, 0, none⟩) ps.length cc) ps) := O9.out.below (QO.out xq)
                            clear y1 y2 y3 y4 y5
                            generalize W xq = wq at G2 O2 ⊢
                            go_wp2_with fail
                            exact ⟨⟨q + 1, _, by omega, rfl, by go_num, HN, O2, G2⟩, by simp [intOf]; omega⟩
                      · obtain rfl : q = ps.length := by omega
                        have HE : Hid (C0 ++ (ps.take ps.length).map (·.1) = caL (L.take (k + 1))) := by
                          show _ = _
                          rw [List.take_length, HPS.out, HX.out]
                        rw [HE.out] at HO
                        go_wp2_with fail
                        exact ⟨⟨k + 1, o2, by omega, rfl, by go_num, HO, HB2⟩, by simp [intOf]; omega⟩
                  · obtain rfl : k = 3 := by omega
                    have HT : Hid (o = true) := by show _ = _; rw [← HO.out, HL4.out]; exact HEND.out true (fun _ => rfl)
                    rw [HT.out]
                    go_wp2_with fail
                    exact ⟨⟨t, by omega, by go_num, HB2⟩, by simp [intOf]; omega⟩
              · have b0 : (bb == 0) = false := by simpa using hb0
                have HB0 : Hid (¬ bb = 0) := hb0
                clear hb0
                go_upto_region 35 with fail
                clear f1 f2
                go_wp2_with fail
                go_loopw [21, 22] (fun fv iv wr => ∃ (k : Nat) (o : Bool), k ≤ 3 ∧ fv = .bool o ∧ iv = .int .i64 (k : Int) ∧ Hid (Dc.fo false (t : Int) bb tx (caL (L.take k)) = o) ∧ Hid (Below wz.heap.size wz wr)) (fun _ iv _ => 3 - (intOf iv).toNat)
                case atStart => exact ⟨0, false, by omega, rfl, rfl, Dc.fo_nil _ _ _ _, HBT⟩
                case round =>
                  obtain ⟨k, o, hk, rfl, rfl, HO, HB2⟩ := hrel
                  by_cases hk3 : k < 3
                  · obtain ⟨x, hx⟩ := Rg.get_at (xs := L) (k := k) (by have := HL3.out; omega)
                    obtain ⟨b, off, rfl, hb, c0, c1, c2, c3, c4, c5, c6⟩ := RowG.at (RZ.out.below HB2.out) rfl hx
                    have WR := WZ.out.trans (HB2.out.mono WZ.out.size)
                    have hxm := Rg.mem_at hx
                    have HVC := Wc.implViewCerts_any 4 x wr (by have := (P3.out x hxm).2.2.1; omega) (GK.out.1.below WR GK.out.2) (Nat.lt_of_lt_of_le GK.out.2 WR.size)
                    rw [(P3.out x hxm).1, (P3.out x hxm).2.1] at HVC
                    have HX : Hid (caL (L.take (k + 1)) = caL (L.take k) ++ crts x) := Dc.caL_take hx
                    have HC3 : Hid ((crts x).length ≤ 3) := (P3.out x hxm).2.2.2
                    have HCM : Hid (∀ c ∈ crts x, c ∈ caL L) := fun c hc => List.mem_flatMap.2 ⟨x, hxm, hc⟩
                    have hp0 : (0 : Int) ≤ (k : Int) := by omega
                    have hp1 : (k : Int) < (L.length : Int) := by have := HL3.out; omega
                    generalize caL (L.take k) = C0 at HO HX
                    clear hx hxm WR
                    go_wp2_with fail
                    refine HVC.mono ?_
                    rintro e w8 ⟨u8, rfl, ⟨ps, hps, o8⟩, b8⟩
                    have B8 : Hid (Below wz.heap.size wz w8) := HB2.out.trans (b8.mono HB2.out.size)
                    obtain ⟨ca, cc, rfl⟩ := OwnC.slice o8
                    have O8 : Hid (OwnC w8 wr.heap.size (.slice ca ps.length cc) ps) := o8
                    have HPS : Hid (ps.map (·.1) = crts x) := hps
                    have hp8 : ps.length ≤ 3 := by have h0 := HC3.out; rw [← hps, List.length_map] at h0; exact h0
                    clear o8 b8 HVC c0 c1 c2 c3 c4 c5 c6 hps HB2
                    generalize wr.heap.size = Z at O8
                    go_wp2_with fail
                    go_loopw [21, 25] (fun fv iv wq => ∃ (q : Nat) (o2 : Bool), q ≤ ps.length ∧ fv = .bool o2 ∧ iv = .int .i64 (q : Int) ∧ Hid (Dc.fo false (t : Int) bb tx (C0 ++ (ps.take q).map (·.1)) = o2) ∧ Hid (OwnC wq Z (.slice ca ps.length cc) ps) ∧ Hid (Below wz.heap.size wz wq)) (fun _ iv _ => ps.length - (intOf iv).toNat)
                    case atStart => exact ⟨0, o, by omega, rfl, rfl, by simpa using HO, O8, B8⟩
                    case round =>
                      clear B8 O8 HO
                      obtain ⟨q, o2, hq, rfl, rfl, HO, HOC, HB2⟩ := hrel
                      by_cases hql : q < ps.length
                      · obtain ⟨p, hpq⟩ := Rg.get_at hql
                        have hpm := Rg.mem_at hpq
                        obtain ⟨g, rfl, hg0, hg1, d0, d1⟩ := OwnC.at HOC.out hpq
                        obtain ⟨t1, t2, t3, t4⟩ := P4.out p.1 (HCM.out _ (by rw [← HPS.out]; exact List.mem_map_of_mem hpm))
                        have om := OwnM.row (HOC.out.mem p hpm)
                        obtain ⟨ma, mc, hm2⟩ := RowG.slice om
                        rw [hm2] at om d1
                        obtain ⟨b2, off2, rfl, hb2, m0, m1, m2, m3, m4, m5, m6⟩ := RowG.at om rfl t1
                        have HC1 : Hid (C0 ++ (ps.take (q + 1)).map (·.1) = (C0 ++ (ps.take q).map (·.1)) ++ [p.1]) := by
                          show _ = _
                          rw [List.take_add_one, hpq, List.map_append, ← List.append_assoc]; rfl
                        simp only [Nat.zero_mul, Nat.add_zero] at m0 m1 m2 m3 m4 m5 m6
                        have hq0 : (0 : Int) ≤ (q : Int) := by omega
                        have hq1 : (q : Int) < (ps.length : Int) := by omega
                        have hms : (0 : Int) < (p.1.ms.length : Int) := by have := Rg.lt_at t1; omega
                        have hv20 : (hd p.1).vw ≤ 20 ∧ 0 ≤ (hd p.1).vw := ⟨t3.2, t3.1⟩
                        have A9 : Hid ((wr.alloc (.cells #[.int .i64 (hd p.1).kd, .int .i64 (hd p.1).vw, .int .i64 (hd p.1).sq, .int .i64 (hd p.1).fr, .string (hd p.1).dg, .string (hd p.1).bd, .string (hd p.1).mc] 26)).heap[wr.heap.size]? = some (.cells #[.int .i64 (hd p.1).kd, .int .i64 (hd p.1).vw, .int .i64 (hd p.1).sq, .int .i64 (hd p.1).fr, .string (hd p.1).dg, .string (hd p.1).bd, .string (hd p.1).mc] 26 (0, 0))) := blk_new _ _ _
                        have O9 : Hid (OwnC (wr.alloc (.cells #[.int .i64 (hd p.1).kd, .int .i64 (hd p.1).vw, .int .i64 (hd p.1).sq, .int .i64 (hd p.1).fr, .string (hd p.1).dg, .string (hd p.1).bd, .string (hd p.1).mc] 26)) Z (.slice (some ⟨g, 0, none⟩) ps.length cc) ps) := HOC.out.below (bel_new _ _)
                        have B9 : Hid (Below wz.heap.size wz (wr.alloc (.cells #[.int .i64 (hd p.1).kd, .int .i64 (hd p.1).vw, .int .i64 (hd p.1).sq, .int .i64 (hd p.1).fr, .string (hd p.1).dg, .string (hd p.1).bd, .string (hd p.1).mc] 26))) := HB2.out.alloc HB2.out.size _
                        have D9 : Hid ((wr.alloc (.cells #[.int .i64 (hd p.1).kd, .int .i64 (hd p.1).vw, .int .i64 (hd p.1).sq, .int .i64 (hd p.1).fr, .string (hd p.1).dg, .string (hd p.1).bd, .string (hd p.1).mc] 26)).cell? ⟨g, q * 2, none⟩ = some (.string p.1.bd)) := ((bel_new wr _).cell (p := ⟨g, q * 2, none⟩) hg1).trans d0
                        generalize C0 ++ (ps.take q).map (·.1) = D at HO HC1
                        clear hpq hpm om hm2 hb2 t1 t2 t3 t4 hg0 hg1 HOC HB2
                        go_upto_region 43 with fail
                        generalize wr.alloc (.cells #[.int .i64 (hd p.1).kd, .int .i64 (hd p.1).vw, .int .i64 (hd p.1).sq, .int .i64 (hd p.1).fr, .string (hd p.1).dg, .string (hd p.1).bd, .string (hd p.1).mc] 26) = w9 at A9 O9 B9 D9 ⊢
                        generalize wr.heap.size = y at A9 ⊢
                        clear d0 d1 m0 m1 m2 m3 m4 m5 m6
                        have e1 := (blk_cell A9.out 1 (x := .int .i64 (hd p.1).vw) rfl).1
                        have e2 := (blk_cell A9.out 2 (x := .int .i64 (hd p.1).sq) rfl).1
                        have e3 := D9.out
                        obtain ⟨f1, f2⟩ := HCE.out w9 B9.out
                        obtain ⟨X, hX, W, QI0, QO0⟩ := Qc.klass w9
                        have QI : Hid (∀ w', Below w9.heap.size w9 w' → ∃ x, w' = W x) := QI0
                        have QO : Hid (∀ x, Below w9.heap.size w9 (W x)) := QO0
                        clear QI0 QO0
                        have y1 := Qc.cell_all QO.out e1
                        have y2 := Qc.cell_all QO.out e2
                        have y3 := Qc.cell_all QO.out e3
                        have y4 := Qc.cell_all QO.out f1
                        have y5 := Qc.cell_all QO.out f2
                        clear e1 e2 e3 f1 f2 A9 D9
                        cases o2 with
                        | true =>
                          have HN : Hid (Dc.fo false (t : Int) bb tx (C0 ++ (ps.take (q + 1)).map (·.1)) = true) := by show _ = _; rw [HC1.out]; exact Dc.fo_true HO.out
                          refine Qc.region_class (W := W) (by kernel_rfl) (by kernel_rfl) (QI.out _ Qc.from_drew) ?_
                          repeat (go_big_quiet_step (fail))
                          refine wpQuiet_nil ?_
                          rintro _ ⟨xq, rfl⟩
                          have G2 : Hid (Below wz.heap.size wz (W xq)) := B9.out.trans ((QO.out xq).mono B9.out.size)
                          have O2 : Hid (OwnC (W xq) Z (.slice (some ⟨g, 0, none⟩) ps.length cc) ps) := O9.out.below (QO.out xq)
                          clear y1 y2 y3 y4 y5
                          generalize W xq = wq at G2 O2 ⊢
                          go_wp2_with fail
                          exact ⟨⟨q + 1, _, by omega, rfl, by go_num, HN, O2, G2⟩, by simp [intOf]; omega⟩
                        | false =>
                          have HNF := Dc.fo_false (c := p.1) HO.out
                          rw [← HC1.out] at HNF
                          have HN : Hid (Dc.fo false (t : Int) bb tx (C0 ++ (ps.take (q + 1)).map (·.1)) = Dc.fnd (t : Int) bb tx p.1) := HNF
                          clear HNF
                          by_cases g1 : (hd p.1).sq = (t : Int)
                          · by_cases g2 : (hd p.1).vw + 1 = bb
                            · have HE := Dc.fnd_yes (t := tx) g1 g2
                              have HN2 : Hid (Dc.fo false (t : Int) bb tx (C0 ++ (ps.take (q + 1)).map (·.1)) = (p.1.bd.toList == tx.toList)) := HN.out.trans HE
                              have g1' : ((hd p.1).sq == (t : Int)) = true := by simpa using g1
                              have g2' : ((hd p.1).vw + 1 == bb) = true := by simpa using g2
                              clear g1 g2 HE HN
                              have HN := HN2
                              clear HN2
                              refine Qc.region_class (W := W) (by kernel_rfl) (by kernel_rfl) (QI.out _ Qc.from_drew) ?_
                              repeat (go_big_quiet_step (fail))
                              refine wpQuiet_nil ?_
                              rintro _ ⟨xq, rfl⟩
                              have G2 : Hid (Below wz.heap.size wz (W xq)) := B9.out.trans ((QO.out xq).mono B9.out.size)
                              have O2 : Hid (OwnC (W xq) Z (.slice (some ⟨g, 0, none⟩) ps.length cc) ps) := O9.out.below (QO.out xq)
                              clear y1 y2 y3 y4 y5
                              generalize W xq = wq at G2 O2 ⊢
                              go_wp2_with fail
                              exact ⟨⟨q + 1, _, by omega, rfl, by go_num, HN, O2, G2⟩, by simp [intOf]; omega⟩
                            · have g1' : ((hd p.1).sq == (t : Int)) = true := by simpa using g1
                              have g2' : ((hd p.1).vw + 1 == bb) = false := by simpa using g2
                              have HN2 : Hid (Dc.fo false (t : Int) bb tx (C0 ++ (ps.take (q + 1)).map (·.1)) = false) := HN.out.trans (Dc.fnd_no2 g2)
                              clear g1 g2 HN
                              have HN := HN2
                              clear HN2
                              refine Qc.region_class (W := W) (by kernel_rfl) (by kernel_rfl) (QI.out _ Qc.from_drew) ?_
                              repeat (go_big_quiet_step (fail))
                              refine wpQuiet_nil ?_
                              rintro _ ⟨xq, rfl⟩
                              have G2 : Hid (Below wz.heap.size wz (W xq)) := B9.out.trans ((QO.out xq).mono B9.out.size)
                              have O2 : Hid (OwnC (W xq) Z (.slice (some ⟨g, 0, none⟩) ps.length cc) ps) := O9.out.below (QO.out xq)
                              clear y1 y2 y3 y4 y5
                              generalize W xq = wq at G2 O2 ⊢
                              go_wp2_with fail
                              exact ⟨⟨q + 1, _, by omega, rfl, by go_num, HN, O2, G2⟩, by simp [intOf]; omega⟩
                          · have g1' : ((hd p.1).sq == (t : Int)) = false := by simpa using g1
                            have HN2 : Hid (Dc.fo false (t : Int) bb tx (C0 ++ (ps.take (q + 1)).map (·.1)) = false) := HN.out.trans (Dc.fnd_no1 g1)
                            clear g1 HN
                            have HN := HN2
                            clear HN2
                            refine Qc.region_class (W := W) (by kernel_rfl) (by kernel_rfl) (QI.out _ Qc.from_drew) ?_
                            repeat (go_big_quiet_step (fail))
                            refine wpQuiet_nil ?_
                            rintro _ ⟨xq, rfl⟩
                            have G2 : Hid (Below wz.heap.size wz (W xq)) := B9.out.trans ((QO.out xq).mono B9.out.size)
                            have O2 : Hid (OwnC (W xq) Z (.slice (some ⟨g, 0, none⟩) ps.length cc) ps) := O9.out.below (QO.out xq)
                            clear y1 y2 y3 y4 y5
                            generalize W xq = wq at G2 O2 ⊢
                            go_wp2_with fail
                            exact ⟨⟨q + 1, _, by omega, rfl, by go_num, HN, O2, G2⟩, by simp [intOf]; omega⟩
                      · obtain rfl : q = ps.length := by omega
                        have HE : Hid (C0 ++ (ps.take ps.length).map (·.1) = caL (L.take (k + 1))) := by
                          show _ = _
                          rw [List.take_length, HPS.out, HX.out]
                        rw [HE.out] at HO
                        go_wp2_with fail
                        exact ⟨⟨k + 1, o2, by omega, rfl, by go_num, HO, HB2⟩, by simp [intOf]; omega⟩
                  · obtain rfl : k = 3 := by omega
                    have HT : Hid (o = true) := by show _ = _; rw [← HO.out, HL4.out]; exact HEND.out false (fun h => absurd h HB0.out)
                    rw [HT.out]
                    go_wp2_with fail
                    exact ⟨⟨t, by omega, by go_num, HB2⟩, by simp [intOf]; omega⟩
            · obtain rfl : u = ZZ := by omega
              have hlt' : ¬ (t : Int) ≤ (u : Int) := by have := HTU.out; omega
              have HBE : Hid (Below w.heap.size w wr) := WZ.out.trans (HBT.out.mono WZ.out.size)
              go_wp2_with fail
              go_ret
              exact ⟨rfl, HBE.out⟩


set_option maxRecDepth 100000 in
theorem lifted (os : Os) (started : os.Started) (H : Type) (enc : TypeId × Value → H) :
    ReturnsInHanded {} Tryz.checked os 3 .any (fun w args => (Rows.fnPlanSpec.pre enc Tryz.prog Tryz.f3 [] false w args ∧ laidMetH Tryz.prog Rows.fnPlanRow.laid w) ∧ sizedMet enc Tryz.prog Tryz.f3 (OpenSpec.ofChange Rows.fnPlanSpec) false w args)
      (Rows.fnPlanSpec.post enc Tryz.prog Tryz.f3 false true false false) := by
  refine returnsInHanded_of_change_and (C := Tryz.checked) (X := fun w _ => laidMetH Tryz.prog Rows.fnPlanRow.laid w) (fun _ _ _ hh h => h.of_heap hh) own started (by kernel_rfl) Tryz.func3
    (ChangeSpec.witness_shaped (enc := enc) (C := Tryz.checked) (os := os) (X := fun w _ => laidMetH Tryz.prog Rows.fnPlanRow.laid w) false (World.doorLaid Tryz.prog 400 os) #[.slice none 0 0, .slice none 0 0] 8 rfl (World.shaped_of_RefB (by kernel_rfl) (by kernel_rfl)) (by kernel_rfl) (by kernel_rfl) (by kernel_rfl) (door_met os _)) ?_
  intro W base args ds gs before hval0 hW _ _ hL _
  have hval : ∀ (j : Nat) t v, Tryz.f3.params[j]? = some t → args[j]? = some v → Value.okWide Tryz.prog W .any base t v := hval0
  have hW' := hW
  obtain ⟨p, q, hA0, hV0, rfl, hfz, hnd⟩ := hW
  have hA : DataW.TrodAll enc Tryz.prog W 0 (fun _ => true) true Tryz.f3.params.toList args.toList ds p := hA0
  have hV : DataW.TrodVars enc Tryz.prog W (fun _ => true) ["loop.example/g00292/impl.roundWords"] gs q := hV0
  rw [Tryz.params3] at hA hval
  obtain ⟨v0, vs0, d0, ds0, p0, q0, hargs, rfl, rfl, h0, r0⟩ := trodAll_cons hA
  obtain ⟨v1, vs1, d1, ds1, p1, q1, rfl, rfl, rfl, h1, r1⟩ := trodAll_cons r0
  obtain ⟨rfl, rfl, rfl⟩ := trodAll_nil r1
  obtain rfl : args = #[v0, v1] := by cases args; simp_all
  obtain ⟨_, _, _, _, dv, _, rfl, _⟩ := trodVars_one hV
  have k00 := h0
  have lt0 : ∀ x ∈ p0, x.block < W.heap.size := by obtain ⟨m, hm⟩ := k00; exact DataW.trod_lt m _ _ _ hm
  obtain ⟨xs0, w0⟩ := Op.open_bytes (hval 0 22 v0 rfl rfl) h0 (fun _ => rfl)
  have k10 := h1
  have lt1 : ∀ x ∈ p1, x.block < W.heap.size := by obtain ⟨m, hm⟩ := k10; exact DataW.trod_lt m _ _ _ hm
  obtain ⟨xs1, w1⟩ := Op.open_bytes (hval 1 22 v1 rfl rfl) h1 (fun _ => rfl)
  clear hA0 hval0 hV0
  have hT := Hl.tab_of hL
  refine (walk v0 xs0 w0 v1 xs1 w1 hT.1 hT.2).mono fun e W' ⟨he, bel⟩ => ?_
  subst he
  exact ⟨_, rfl, _, _, _, [], _, q, hW', trodAll_mk1 (shut_bool Tryz.underlying4 _), (trodAll_cons_mk (Below.trod laidOut (by kernel_rfl) (of_decide_eq_true (by kernel_rfl)) k00 bel lt0) (trodAll_cons_mk (Below.trod laidOut (by kernel_rfl) (of_decide_eq_true (by kernel_rfl)) k10 bel lt1) trodAll_mk0)), Below.trodVars laidOut bel rowed hV, bel.frame _, fun h => by cases h⟩

theorem said : Rows.FnPlanSaid :=
  OpenClaim.holds_of_wide 3 Tryz.f3 rfl rfl rfl rfl rfl rfl rfl ⟨rfl, rfl, rfl, rfl, rfl⟩ rfl rfl rfl rfl rfl (by kernel_rfl) Tryz.func3 (by kernel_rfl)
    (of_decide_eq_true (by kernel_rfl)) (by unfold Func.isWrapper; first | (rw [if_pos (by decide +kernel)]; kernel_rfl) | (rw [if_neg (by decide +kernel)]; exact ⟨rfl, rfl⟩))
    (fun os started H enc _ => lifted os started H enc)

/-- No parameter wants a stand-in; the program's own looks are off. -/
theorem plain (f : FuncId) (fn : Func) (hf : Tryz.pinned.checked.prog.funcNamed "loop.example/g00292/laws.FnPlan" = some f) (hfn : Tryz.pinned.checked.prog.funcs[f]? = some fn) :
    true = Tryz.pinned.checked.prog.looks [] ∧ ∀ (j : Nat) t, fn.params[j]? = some t → Tryz.pinned.checked.prog.wantsStandIn t = false := by
  obtain rfl : f = 3 := Option.some.inj ((show Tryz.prog.funcNamed "loop.example/g00292/laws.FnPlan" = some 3 by kernel_rfl).symm.trans hf) |>.symm
  obtain rfl : fn = Tryz.f3 := (Option.some.inj (Tryz.func3.symm.trans hfn)).symm
  refine ⟨by kernel_rfl, fun j t ht => ?_⟩
  rw [Tryz.params3] at ht
  have hm := Array.mem_of_getElem? ht
  have hl : t ∈ [22, 22] := by simpa using hm
  have hall : ∀ x ∈ [22, 22], Tryz.prog.wantsStandIn x = false := by
    intro x hx
    simp only [List.mem_cons, List.not_mem_nil, or_false] at hx
    rcases hx with rfl | rfl <;> kernel_rfl
  exact hall t hl
end Go.Proofs.YtkfiahemgdppfaaGreatDoor.fnPlan
namespace Go.Proofs.YtkfiahemgdppfaaGreatDoor
/-- THE STATEMENT: the card. -/
theorem fnPlan_holds : Rows.FnPlanCardSaid :=
  Claim7.holds_tied_plain_at .later [] _ _ _ _ fnPlan.said (fun _ h => by cases h) (by kernel_rfl) (fun _ h => by cases h) fnPlan_row_tie rfl ⟨rfl, rfl⟩ (by kernel_rfl) rfl fnPlan.plain (by kernel_rfl)
end Go.Proofs.YtkfiahemgdppfaaGreatDoor
