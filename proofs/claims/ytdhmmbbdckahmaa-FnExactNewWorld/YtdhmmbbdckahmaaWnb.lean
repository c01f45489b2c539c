/- New worlds: both functions that make them. -/
import Derived.Test.YtdhmmbbdckahmaaWna
import Derived.Test.YtdhmmbbdckahmaaClr
namespace Go.Proofs.Ytdhmmbbdckahmaa.Wn
open Go.RowKit Go.Proofs.Ytdhmmbbdckahmaa.Rg Go.Proofs.Ytdhmmbbdckahmaa.Nr Go.Proofs.Ytdhmmbbdckahmaa.Is
open Go.Proofs.Ytdhmmbbdckahmaa.Ng (gC gN gX g_ok g_bad g_long g_small implNewGroup_any l08New_any faB rowN l08Faulty_any f_small ImpP SpP OwnQ Apart)
open Go.Proofs.Ytdhmmbbdckahmaa.Tm (fCode)
open Go.Proofs.Ytdhmmbbdckahmaa.Sl (nth)
open Go.Proofs.Ytdhmmbbdckahmaa.Cl (implNewClient_any l13New_any clV ncD ncC nc_yes)
noncomputable def gL (n : Int) (xs : List Int) : Nat := if gC n xs = 0 then 3 else 0
theorem newC_ok (j : Nat) (hj : j < 3) (w : World) : Calls Try.prog 16 #[.int .i64 (10 + (j : Int))] w fun e w' => e = .returned (.tuple #[.agg #[.int .i64 (10 + (j : Int)), .int .i64 0, .bool false, .int .i64 0, .int .i64 0, .int .i64 0, .int .i64 0, .string ⟨#[]⟩, .slice none 0 0, .slice none 0 0], .int .i64 0]) ∧ Below w.heap.size w w' := by
  have h := nc_yes (i := 10 + (j : Int)) (by unfold Rq.inB; simp; omega)
  have h2 := implNewClient_any (10 + (j : Int)) w
  rw [h.1, h.2] at h2
  exact h2
set_option maxRecDepth 100000 in
set_option maxHeartbeats 3200000 in
theorem implNewWorld_any (n : Int) (v : Value) (xs : List Int) (w : World) (h : RowI w v xs) :
    Calls Try.prog 6 #[.int .i64 n, v] w fun e w' => ∃ af kf ar kr ac cc, e = .returned (.tuple #[.agg #[.int .i64 (gN n xs), .slice af (gX n xs).length kf, .slice ar (gN n xs).toNat kr, .slice none 0 0, .slice none 0 0, .slice ac (gL n xs) cc, .slice none 0 0, .int .i64 0], .int .i64 (gC n xs)]) ∧ (∃ ps cs, OwnI w' w.heap.size (.slice af (gX n xs).length kf) (gX n xs) ∧ OwnQ w' w.heap.size (.slice ar (gN n xs).toNat kr) ps ∧ ps.length = (gN n xs).toNat ∧ ImpP w.heap.size w' (gN n xs) ps ∧ Apart ps ∧ OwnD w' w.heap.size (.slice ac (gL n xs) cc) cs ∧ cs.length = gL n xs ∧ NewD cs ∧ (∀ p ∈ cs, p.ra = none ∧ p.ca = none)) ∧ Below w.heap.size w w' := by
  obtain ⟨i0, hi0, hz0, hz1, hz2⟩ := info_parts infoD
  have HZ : Hid ((w.alloc (.cells #[.int .i64 0, .slice none 0 0, .slice none 0 0, .slice none 0 0, .slice none 0 0, .slice none 0 0, .slice none 0 0, .int .i64 0] 31)).heap[w.heap.size]? = some (.cells #[.int .i64 0, .slice none 0 0, .slice none 0 0, .slice none 0 0, .slice none 0 0, .slice none 0 0, .slice none 0 0, .int .i64 0] 31 (0, 0))) := blk_new _ _ _
  have HB0 : Hid (Below w.heap.size w (w.alloc (.cells #[.int .i64 0, .slice none 0 0, .slice none 0 0, .slice none 0 0, .slice none 0 0, .slice none 0 0, .slice none 0 0, .int .i64 0] 31))) := bel_new _ _
  have HG := implNewGroup_any n v xs (w.alloc (.cells #[.int .i64 0, .slice none 0 0, .slice none 0 0, .slice none 0 0, .slice none 0 0, .slice none 0 0, .slice none 0 0, .int .i64 0] 31)) (h.below (bel_new _ _))
  have HNC : Hid (∀ (j : Nat) (W : World), j < 3 → Calls Try.prog 16 #[.int .i64 (10 + (j : Int))] W fun e w' => e = .returned (.tuple #[.agg #[.int .i64 (10 + (j : Int)), .int .i64 0, .bool false, .int .i64 0, .int .i64 0, .int .i64 0, .int .i64 0, .string ⟨#[]⟩, .slice none 0 0, .slice none 0 0], .int .i64 0]) ∧ Below W.heap.size W w') := fun j W hj => newC_ok j hj W
  have HGC : Hid (gC n xs ≠ 0 → gL n xs = 0 ∧ gN n xs = 0 ∧ gX n xs = []) := fun hc => by
    unfold gL gN gX
    rw [if_neg hc, if_neg hc, if_neg hc]
    exact ⟨rfl, rfl, rfl⟩
  have HGL : Hid (gC n xs = 0 → gL n xs = 3) := fun hc => by unfold gL; rw [if_pos hc]
  clear h
  obtain ⟨M, HM⟩ : ∃ M, Hid (gN n xs = M) := ⟨_, rfl⟩
  obtain ⟨X, HX⟩ : ∃ X, Hid (gX n xs = X) := ⟨_, rfl⟩
  obtain ⟨C, HC⟩ : ∃ C, Hid (gC n xs = C) := ⟨_, rfl⟩
  obtain ⟨L, HL⟩ : ∃ L, Hid (gL n xs = L) := ⟨_, rfl⟩
  rw [HM.out, HX.out, HC.out] at HG
  rw [HM.out, HX.out, HC.out, HL.out] at HGC
  rw [HC.out, HL.out] at HGL
  rw [HM.out, HX.out, HC.out, HL.out]
  clear HM HX HC HL
  obtain ⟨ys, HY⟩ : ∃ ys, Hid (X.length = ys) := ⟨_, rfl⟩
  obtain ⟨m, Hm⟩ : ∃ m, Hid (M.toNat = m) := ⟨_, rfl⟩
  rw [HY.out, Hm.out] at HG
  rw [HY.out, Hm.out]
  go_enter Try.func6, Try.ntmps6
  go_upto_region 1 with fail
  generalize (w.alloc (.cells #[.int .i64 0, .slice none 0 0, .slice none 0 0, .slice none 0 0, .slice none 0 0, .slice none 0 0, .slice none 0 0, .int .i64 0] 31)) = w0 at HZ HB0 HG ⊢
  have l0 := (Array.getElem?_eq_some_iff.1 HZ.out).1
  go_upto_region 2 with (go_at_call 15; refine HG.mono ?_; rintro e w1 ⟨af, kf, ar, kr, rfl, ⟨ps, o1, o2, o3, o4, o5⟩, b1⟩)
  have l1 : w.heap.size < w1.heap.size := Nat.lt_of_lt_of_le l0 b1.size
  have HZ1 : Hid ((w1.alloc (.cells #[.int .i64 M, .slice af ys kf, .slice ar m kr, .slice none 0 0, .slice none 0 0] 27)).heap[w.heap.size]? = some (.cells #[.int .i64 0, .slice none 0 0, .slice none 0 0, .slice none 0 0, .slice none 0 0, .slice none 0 0, .slice none 0 0, .int .i64 0] 31 (0, 0))) := ((bel_new w1 _).block _ l1).trans ((b1.block _ l0).trans HZ.out)
  have HB1 : Hid (Below w.heap.size w (w1.alloc (.cells #[.int .i64 M, .slice af ys kf, .slice ar m kr, .slice none 0 0, .slice none 0 0] 27))) := (HB0.out.trans (b1.mono (Nat.le_of_lt l0))).trans ((bel_new w1 _).mono (Nat.le_of_lt l1))
  have HO : Hid (OwnI (w1.alloc (.cells #[.int .i64 M, .slice af ys kf, .slice ar m kr, .slice none 0 0, .slice none 0 0] 27)) w.heap.size (.slice af ys kf) X ∧ OwnQ (w1.alloc (.cells #[.int .i64 M, .slice af ys kf, .slice ar m kr, .slice none 0 0, .slice none 0 0] 27)) w.heap.size (.slice ar m kr) ps ∧ ImpP w.heap.size (w1.alloc (.cells #[.int .i64 M, .slice af ys kf, .slice ar m kr, .slice none 0 0, .slice none 0 0] 27)) M ps) := by
    have a1 := Ng.ownI_below (Ng.ownI_mono o1 (Nat.le_of_lt l0)) (bel_new w1 (.cells #[.int .i64 M, .slice af ys kf, .slice ar m kr, .slice none 0 0, .slice none 0 0] 27))
    have a2 := (o2.mono (Nat.le_of_lt l0)).below (bel_new w1 (.cells #[.int .i64 M, .slice af ys kf, .slice ar m kr, .slice none 0 0, .slice none 0 0] 27))
    refine ⟨a1, a2, fun k p hp => ?_⟩
    obtain ⟨c1, c2, c3, gs, gc, c4, c5, c6, c7, c8⟩ := (o4.below (bel_new w1 (.cells #[.int .i64 M, .slice af ys kf, .slice ar m kr, .slice none 0 0, .slice none 0 0] 27))) k p hp
    exact ⟨c1, c2, c3, gs, gc, c4, by omega, by omega, c7, c8⟩
  have HPS : Hid (ps.length = m ∧ Apart ps) := ⟨o3, o5⟩
  have HGB : Hid ((w1.alloc (.cells #[.int .i64 M, .slice af ys kf, .slice ar m kr, .slice none 0 0, .slice none 0 0] 27)).heap[w1.heap.size]? = some (.cells #[.int .i64 M, .slice af ys kf, .slice ar m kr, .slice none 0 0, .slice none 0 0] 27 (0, 0))) := blk_new _ _ _
  clear o1 o2 o3 o4 o5 b1 HZ HB0 HG l0
  generalize w1.alloc (.cells #[.int .i64 M, .slice af ys kf, .slice ar m kr, .slice none 0 0, .slice none 0 0] 27) = w2 at HZ1 HB1 HO HGB ⊢
  generalize w1.heap.size = gx at HGB l1 ⊢
  by_cases hc : C = 0
  · have hC : (C != 0) = false := by simp [hc]
    have hL := HGL.out hc
    subst hL
    subst hc
    have c0 := (blk_cell HGB.out 0 (x := .int .i64 M) rfl).1
    have c1 := (blk_cell HGB.out 1 (x := .slice af ys kf) rfl).1
    have c2 := (blk_cell HGB.out 2 (x := .slice ar m kr) rfl).1
    have c3 := (blk_cell HGB.out 3 (x := .slice none 0 0) rfl).1
    have c4 := (blk_cell HGB.out 4 (x := .slice none 0 0) rfl).1
    have lz := (Array.getElem?_eq_some_iff.1 HZ1.out).1
    have HN0 : Hid (WIn w.heap.size w2.heap.size (.int .i64 M) (.slice af ys kf) (.slice ar m kr) (.slice none 0 0) (.slice none 0 0) (.slice none 0 0) w w2 (w2.alloc (.cells #[.int .i64 M, .slice af ys kf, .slice ar m kr, .slice none 0 0, .slice none 0 0, .slice none 0 0, .slice none 0 0, .int .i64 0] 31)) (.slice none 0 0) []) :=
      ⟨((bel_new w2 _).block _ lz).trans HZ1.out, blk_new _ _ _, OwnD.nil _ _, Ot.of_below (bel_new _ _), HB1.out.trans ((bel_new w2 _).mono (Nat.le_of_lt lz)), lz⟩
    go_upto_region 6 with fail
    generalize w2.alloc (.cells #[.int .i64 M, .slice af ys kf, .slice ar m kr, .slice none 0 0, .slice none 0 0, .slice none 0 0, .slice none 0 0, .int .i64 0] 31) = w3 at HN0 ⊢
    generalize w2.heap.size = x at HN0 lz ⊢
    clear c0 c1 c2 c3 c4 HGB l1 HZ1 HB1 HGC HGL hC
    go_wp2_with fail
    go_loopw [24] (fun i wr => ∃ (j : Nat) (cs : List CV) (vc : Value), i = .int .i64 (j : Int) ∧ j ≤ 3 ∧ Hid (cs.length = j) ∧ Hid (NewD cs ∧ ∀ p ∈ cs, p.ra = none ∧ p.ca = none) ∧ Hid (WIn w.heap.size x (.int .i64 M) (.slice af ys kf) (.slice ar m kr) (.slice none 0 0) (.slice none 0 0) (.slice none 0 0) w w2 wr vc cs)) (fun i _ => 3 - (intOf i).toNat)
    case atStart => exact ⟨0, [], _, rfl, by omega, rfl, ⟨fun k p hp => by simp at hp, fun p hp => by simp at hp⟩, HN0⟩
    case round =>
      clear HN0
      obtain ⟨j, cs, vc, rfl, hj, HL, HD, HI⟩ := hrel
      obtain ⟨ac, cc, rfl⟩ := OwnD.slice HI.out.c
      by_cases hlt : j < 3
      · have hlt' : (j : Int) < 3 := by omega
        have HN1 := HNC.out j wr hlt
        go_wp2_with fail
        refine HN1.mono ?_
        rintro e w4 ⟨rfl, b4⟩
        clear HN1
        have HI4 : Hid (WIn w.heap.size x (.int .i64 M) (.slice af ys kf) (.slice ar m kr) (.slice none 0 0) (.slice none 0 0) (.slice none 0 0) w w2 (w4.alloc (.cells #[.int .i64 (10 + (j : Int)), .int .i64 0, .bool false, .int .i64 0, .int .i64 0, .int .i64 0, .int .i64 0, .string ⟨#[]⟩, .slice none 0 0, .slice none 0 0] 49)) (.slice ac cs.length cc) cs) := (HI.out.below b4).alloc _
        have HBX : Hid ((w4.alloc (.cells #[.int .i64 (10 + (j : Int)), .int .i64 0, .bool false, .int .i64 0, .int .i64 0, .int .i64 0, .int .i64 0, .string ⟨#[]⟩, .slice none 0 0, .slice none 0 0] 49)).heap[w4.heap.size]? = some (.cells #[.int .i64 (10 + (j : Int)), .int .i64 0, .bool false, .int .i64 0, .int .i64 0, .int .i64 0, .int .i64 0, .string ⟨#[]⟩, .slice none 0 0, .slice none 0 0] 49 (0, 0))) := blk_new _ _ _
        clear HI b4
        go_upto_region 9 with fail
        generalize w4.alloc (.cells #[.int .i64 (10 + (j : Int)), .int .i64 0, .bool false, .int .i64 0, .int .i64 0, .int .i64 0, .int .i64 0, .string ⟨#[]⟩, .slice none 0 0, .slice none 0 0] 49) = wb at HI4 HBX ⊢
        generalize w4.heap.size = bx at HBX ⊢
        have e0 := (blk_cell HBX.out 0 (x := .int .i64 (10 + (j : Int))) rfl).1
        have e1 := (blk_cell HBX.out 1 (x := .int .i64 0) rfl).1
        have e2 := (blk_cell HBX.out 2 (x := .bool false) rfl).1
        have e3 := (blk_cell HBX.out 3 (x := .int .i64 0) rfl).1
        have e4 := (blk_cell HBX.out 4 (x := .int .i64 0) rfl).1
        have e5 := (blk_cell HBX.out 5 (x := .int .i64 0) rfl).1
        have e6 := (blk_cell HBX.out 6 (x := .int .i64 0) rfl).1
        have e7 := (blk_cell HBX.out 7 (x := .string ⟨#[]⟩) rfl).1
        have e8 := (blk_cell HBX.out 8 (x := .slice none 0 0) rfl).1
        have e9 := (blk_cell HBX.out 9 (x := .slice none 0 0) rfl).1
        have g5 := HI4.out.c5
        have hul : cs.length ≤ 1000000 := by rw [HL.out]; omega
        go_wp2_with (at_builtin; go_must (refine listD (by rfl) _ _ 28 (by rfl) i0 Try.underlying28 hi0 hz0 hz1 hz2 w.heap.size w _ _ cs ⟨10 + (j : Int), none, none⟩ (by rfl) HI4.out.c HI4.out.b HI4.out.b.size _ (by rfl) (by simp) hul ?_; intro v5 w5 o5 b5 k5; obtain ⟨a5, c5, rfl⟩ := OwnD.slice o5; have T5 := HI4.out.step o5 b5 (fun k h1 h2 => (k5 k h1 h2).1); obtain ⟨s5, f5⟩ := blk_cell T5.g 5 (x := .slice ac cs.length cc) rfl))
        all_goals
          have T6 := T5.set
          rw [show (cs ++ [(⟨10 + (j : Int), none, none⟩ : CV)]).length = cs.length + 1 by simp] at T6
          exact ⟨⟨j + 1, _, _, by go_num, by omega, (by show _ = _; rw [List.length_append, HL.out]; rfl), ⟨HD.out.1.snoc HL.out _ _, fun p hp => by
            rcases List.mem_append.1 hp with hp | hp
            · exact HD.out.2 p hp
            · obtain rfl := List.mem_singleton.1 hp; exact ⟨rfl, rfl⟩⟩, T6⟩, by simp [intOf]; omega⟩
      · obtain rfl : j = 3 := by omega
        go_upto_region 11 with fail
        have HA := HI.out.z
        have HG := HI.out.g
        obtain ⟨ca0, fa0⟩ := blk_cell HA 0 (x := .int .i64 0) rfl
        obtain ⟨ca1, fa1⟩ := blk_cell HA 1 (x := .slice none 0 0) rfl
        obtain ⟨ca2, fa2⟩ := blk_cell HA 2 (x := .slice none 0 0) rfl
        obtain ⟨ca3, fa3⟩ := blk_cell HA 3 (x := .slice none 0 0) rfl
        obtain ⟨ca4, fa4⟩ := blk_cell HA 4 (x := .slice none 0 0) rfl
        obtain ⟨ca5, fa5⟩ := blk_cell HA 5 (x := .slice none 0 0) rfl
        obtain ⟨ca6, fa6⟩ := blk_cell HA 6 (x := .slice none 0 0) rfl
        obtain ⟨ca7, fa7⟩ := blk_cell HA 7 (x := .int .i64 0) rfl
        have cb0 := (blk_cell HG 0 (x := .int .i64 M) rfl).1
        have cb1 := (blk_cell HG 1 (x := .slice af ys kf) rfl).1
        have cb2 := (blk_cell HG 2 (x := .slice ar m kr) rfl).1
        have cb3 := (blk_cell HG 3 (x := .slice none 0 0) rfl).1
        have cb4 := (blk_cell HG 4 (x := .slice none 0 0) rfl).1
        have cb5 := (blk_cell HG 5 (x := .slice ac cs.length cc) rfl).1
        have cb6 := (blk_cell HG 6 (x := .slice none 0 0) rfl).1
        have cb7 := (blk_cell HG 7 (x := .int .i64 0) rfl).1
        obtain ⟨AF, FA, BF0⟩ := set8 (.int .i64 0) (.slice none 0 0) (.slice none 0 0) (.slice none 0 0) (.slice none 0 0) (.slice none 0 0) (.slice none 0 0) (.int .i64 0) (.int .i64 M) (.slice af ys kf) (.slice ar m kr) (.slice none 0 0) (.slice none 0 0) (.slice ac cs.length cc) (.slice none 0 0) (.int .i64 0) HA
        have BF : Hid _ := BF0 HI.out.b (Nat.le_refl _)
        have KF : Hid (Ot w2 ((((((((wr.setCell ⟨w.heap.size, 0, none⟩ (.int .i64 M)).setCell ⟨w.heap.size, 1, none⟩ (.slice af ys kf)).setCell ⟨w.heap.size, 2, none⟩ (.slice ar m kr)).setCell ⟨w.heap.size, 3, none⟩ (.slice none 0 0)).setCell ⟨w.heap.size, 4, none⟩ (.slice none 0 0)).setCell ⟨w.heap.size, 5, none⟩ (.slice ac cs.length cc)).setCell ⟨w.heap.size, 6, none⟩ (.slice none 0 0)).setCell ⟨w.heap.size, 7, none⟩ (.int .i64 0)) ∧ OwnD ((((((((wr.setCell ⟨w.heap.size, 0, none⟩ (.int .i64 M)).setCell ⟨w.heap.size, 1, none⟩ (.slice af ys kf)).setCell ⟨w.heap.size, 2, none⟩ (.slice ar m kr)).setCell ⟨w.heap.size, 3, none⟩ (.slice none 0 0)).setCell ⟨w.heap.size, 4, none⟩ (.slice none 0 0)).setCell ⟨w.heap.size, 5, none⟩ (.slice ac cs.length cc)).setCell ⟨w.heap.size, 6, none⟩ (.slice none 0 0)).setCell ⟨w.heap.size, 7, none⟩ (.int .i64 0)) w.heap.size (.slice ac cs.length cc) cs) := ⟨ot_fin HI.out.ot HA FA, own_fin HI.out.c HA FA⟩
        have hxw : x ≠ w.heap.size := by omega
        clear HA HG HI BF0 FA
        go_wp2_with fail
        generalize ((((((((wr.setCell ⟨w.heap.size, 0, none⟩ (.int .i64 M)).setCell ⟨w.heap.size, 1, none⟩ (.slice af ys kf)).setCell ⟨w.heap.size, 2, none⟩ (.slice ar m kr)).setCell ⟨w.heap.size, 3, none⟩ (.slice none 0 0)).setCell ⟨w.heap.size, 4, none⟩ (.slice none 0 0)).setCell ⟨w.heap.size, 5, none⟩ (.slice ac cs.length cc)).setCell ⟨w.heap.size, 6, none⟩ (.slice none 0 0)).setCell ⟨w.heap.size, 7, none⟩ (.int .i64 0)) = wf at AF BF KF ⊢
        have d0 := (blk_cell AF 0 (x := .int .i64 M) rfl).1
        have d1 := (blk_cell AF 1 (x := .slice af ys kf) rfl).1
        have d2 := (blk_cell AF 2 (x := .slice ar m kr) rfl).1
        have d3 := (blk_cell AF 3 (x := .slice none 0 0) rfl).1
        have d4 := (blk_cell AF 4 (x := .slice none 0 0) rfl).1
        have d5 := (blk_cell AF 5 (x := .slice ac cs.length cc) rfl).1
        have d6 := (blk_cell AF 6 (x := .slice none 0 0) rfl).1
        have d7 := (blk_cell AF 7 (x := .int .i64 0) rfl).1
        obtain ⟨q1, q2, q3⟩ := gr_impl KF.out.1 HO.out.1 HO.out.2.1 HO.out.2.2
        exact bodyPost_ret (v := .tuple #[.agg #[.int .i64 M, .slice af ys kf, .slice ar m kr, .slice none 0 0, .slice none 0 0, .slice ac cs.length cc, .slice none 0 0, .int .i64 0], .int .i64 0]) (by simp [results, Try.results6, go_sem, d0, d1, d2, d3, d4, d5, d6, d7]) rfl ⟨af, kf, ar, kr, ac, cc, by rw [HL.out], ⟨ps, cs, q1, q2, HPS.out.1, q3, HPS.out.2, by rw [← HL.out]; exact KF.out.2, HL.out, HD.out.1, HD.out.2⟩, BF.out⟩
  · have hC : (C != 0) = true := by simp [hc]
    obtain ⟨h1, h2, h3⟩ := HGC.out hc
    subst h1 h2 h3
    have e1 := HY.out
    have e2 := Hm.out
    simp at e1 e2
    subst e1 e2
    obtain ⟨ca0, fa0⟩ := blk_cell HZ1.out 0 (x := .int .i64 0) rfl
    obtain ⟨ca1, fa1⟩ := blk_cell HZ1.out 1 (x := .slice none 0 0) rfl
    obtain ⟨ca2, fa2⟩ := blk_cell HZ1.out 2 (x := .slice none 0 0) rfl
    obtain ⟨ca3, fa3⟩ := blk_cell HZ1.out 3 (x := .slice none 0 0) rfl
    obtain ⟨ca4, fa4⟩ := blk_cell HZ1.out 4 (x := .slice none 0 0) rfl
    obtain ⟨ca5, fa5⟩ := blk_cell HZ1.out 5 (x := .slice none 0 0) rfl
    obtain ⟨ca6, fa6⟩ := blk_cell HZ1.out 6 (x := .slice none 0 0) rfl
    obtain ⟨ca7, fa7⟩ := blk_cell HZ1.out 7 (x := .int .i64 0) rfl
    obtain ⟨AF, FA, BF0⟩ := set8 (.int .i64 0) (.slice none 0 0) (.slice none 0 0) (.slice none 0 0) (.slice none 0 0) (.slice none 0 0) (.slice none 0 0) (.int .i64 0) (.int .i64 0) (.slice none 0 0) (.slice none 0 0) (.slice none 0 0) (.slice none 0 0) (.slice none 0 0) (.slice none 0 0) (.int .i64 0) HZ1.out
    have BF : Hid _ := BF0 HB1.out (Nat.le_refl _)
    have KF : Hid (Ot w2 ((((((((w2.setCell ⟨w.heap.size, 0, none⟩ (.int .i64 0)).setCell ⟨w.heap.size, 1, none⟩ (.slice none 0 0)).setCell ⟨w.heap.size, 2, none⟩ (.slice none 0 0)).setCell ⟨w.heap.size, 3, none⟩ (.slice none 0 0)).setCell ⟨w.heap.size, 4, none⟩ (.slice none 0 0)).setCell ⟨w.heap.size, 5, none⟩ (.slice none 0 0)).setCell ⟨w.heap.size, 6, none⟩ (.slice none 0 0)).setCell ⟨w.heap.size, 7, none⟩ (.int .i64 0))) := ot_fin (Ot.refl _) HZ1.out FA
    clear BF0 FA HGC HGL
    go_wp2_with fail
    generalize ((((((((w2.setCell ⟨w.heap.size, 0, none⟩ (.int .i64 0)).setCell ⟨w.heap.size, 1, none⟩ (.slice none 0 0)).setCell ⟨w.heap.size, 2, none⟩ (.slice none 0 0)).setCell ⟨w.heap.size, 3, none⟩ (.slice none 0 0)).setCell ⟨w.heap.size, 4, none⟩ (.slice none 0 0)).setCell ⟨w.heap.size, 5, none⟩ (.slice none 0 0)).setCell ⟨w.heap.size, 6, none⟩ (.slice none 0 0)).setCell ⟨w.heap.size, 7, none⟩ (.int .i64 0)) = wf at AF BF KF ⊢
    have d0 := (blk_cell AF 0 (x := .int .i64 0) rfl).1
    have d1 := (blk_cell AF 1 (x := .slice none 0 0) rfl).1
    have d2 := (blk_cell AF 2 (x := .slice none 0 0) rfl).1
    have d3 := (blk_cell AF 3 (x := .slice none 0 0) rfl).1
    have d4 := (blk_cell AF 4 (x := .slice none 0 0) rfl).1
    have d5 := (blk_cell AF 5 (x := .slice none 0 0) rfl).1
    have d6 := (blk_cell AF 6 (x := .slice none 0 0) rfl).1
    have d7 := (blk_cell AF 7 (x := .int .i64 0) rfl).1
    obtain ⟨q1, q2, q3⟩ := gr_impl KF.out HO.out.1 HO.out.2.1 HO.out.2.2
    exact bodyPost_ret (v := .tuple #[.agg #[.int .i64 0, .slice none 0 0, .slice none 0 0, .slice none 0 0, .slice none 0 0, .slice none 0 0, .slice none 0 0, .int .i64 0], .int .i64 C]) (by simp [results, Try.results6, go_sem, d0, d1, d2, d3, d4, d5, d6, d7]) rfl ⟨none, 0, none, 0, none, 0, rfl, ⟨[], [], World.ownsRow_nil _ _ _ _, Ng.OwnQ.nil _ _, rfl, fun k p hp => by simp at hp, fun k l p q _ hp => by simp at hp, OwnD.nil _ _, rfl, fun k p hp => by simp at hp, fun p hp => by simp at hp⟩, BF.out⟩
end Go.Proofs.Ytdhmmbbdckahmaa.Wn
