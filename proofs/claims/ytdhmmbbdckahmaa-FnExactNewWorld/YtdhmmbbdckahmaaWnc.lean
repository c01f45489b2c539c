/- New worlds of the specification. -/
import Derived.Test.YtdhmmbbdckahmaaWnb
import Derived.Deep.RegionLaw
namespace Go.Proofs.Ytdhmmbbdckahmaa.Wn
open Go.RowKit Go.Proofs.Ytdhmmbbdckahmaa.Rg Go.Proofs.Ytdhmmbbdckahmaa.Nr Go.Proofs.Ytdhmmbbdckahmaa.Is
open Go.Proofs.Ytdhmmbbdckahmaa.Ng (gC gN gX g_ok g_bad g_long g_small implNewGroup_any l08New_any faB rowN l08Faulty_any f_small ImpP SpP OwnQ Apart)
open Go.Proofs.Ytdhmmbbdckahmaa.Tm (fCode)
open Go.Proofs.Ytdhmmbbdckahmaa.Sl (nth)
open Go.Proofs.Ytdhmmbbdckahmaa.Cl (implNewClient_any l13New_any clV ncD ncC nc_yes)
set_option maxRecDepth 100000 in
set_option maxHeartbeats 3200000 in
theorem l14New_any (N : Nat) (b off cap : Nat) (xs : List Int) (w : World) (hN : N ≤ 7) (hl : xs.length ≤ 4096) (hb : b < w.heap.size) (hc : ∀ i, i < xs.length → w.cell? ⟨b, off + i, none⟩ = some (.int .i64 (nth xs i))) :
    Calls Try.prog 14 #[.int .i64 (N : Int), .slice (some ⟨b, off, none⟩) xs.length cap] w fun e w' => ∃ af kf ar kr g3 g4 ac cc g6, e = .returned (.agg #[.int .i64 (N : Int), .slice af xs.length kf, .slice ar N kr, .slice g3 0 0, .slice g4 0 0, .slice ac 3 cc, .slice g6 0 0, .int .i64 0]) ∧ (∃ ps cs, OwnI w' w.heap.size (.slice af xs.length kf) xs ∧ OwnQ w' w.heap.size (.slice ar N kr) ps ∧ ps.length = N ∧ SpP w.heap.size w' (N : Int) ps ∧ OwnD w' w.heap.size (.slice ac 3 cc) cs ∧ cs.length = 3 ∧ NewD cs) ∧ Below w.heap.size w w' := by
  obtain ⟨i0, hi0, hz0, hz1, hz2⟩ := info_parts infoD
  have HZ : Hid ((w.alloc (.cells #[.int .i64 0, .slice none 0 0, .slice none 0 0, .slice none 0 0, .slice none 0 0, .slice none 0 0, .slice none 0 0, .int .i64 0] 31)).heap[w.heap.size]? = some (.cells #[.int .i64 0, .slice none 0 0, .slice none 0 0, .slice none 0 0, .slice none 0 0, .slice none 0 0, .slice none 0 0, .int .i64 0] 31 (0, 0))) := blk_new _ _ _
  have HB0 : Hid (Below w.heap.size w (w.alloc (.cells #[.int .i64 0, .slice none 0 0, .slice none 0 0, .slice none 0 0, .slice none 0 0, .slice none 0 0, .slice none 0 0, .int .i64 0] 31))) := bel_new _ _
  have HLN : Hid (∀ W, Below w.heap.size w W → Calls Try.prog 27 #[.int .i64 (N : Int), .slice (some ⟨b, off, none⟩) xs.length cap] W fun e w' => ∃ af kf ar kr g3 g4, e = .returned (.agg #[.int .i64 (N : Int), .slice af xs.length kf, .slice ar N kr, .slice g3 0 0, .slice g4 0 0]) ∧ (∃ ps, OwnI w' W.heap.size (.slice af xs.length kf) xs ∧ OwnQ w' W.heap.size (.slice ar N kr) ps ∧ ps.length = N ∧ SpP W.heap.size w' (N : Int) ps) ∧ Below W.heap.size W w') := fun W hW => l08New_any N b off cap xs W hN hl (Nat.lt_of_lt_of_le hb hW.size) (fun i hi => (hW.cell (p := ⟨b, off + i, none⟩) hb).trans (hc i hi))
  have HNC : Hid (∀ (j : Nat) (W : World), Calls Try.prog 28 #[.int .i64 (10 + (j : Int))] W fun e w' => ∃ r1 r2, e = .returned (.agg #[.int .i64 (10 + (j : Int)), .int .i64 0, .bool false, .int .i64 0, .int .i64 0, .int .i64 0, .int .i64 0, .string ⟨#[]⟩, .slice (some ⟨r1, 0, none⟩) 0 0, .slice (some ⟨r2, 0, none⟩) 0 0]) ∧ Below W.heap.size W w') := fun j W => l13New_any (10 + (j : Int)) W
  clear hc hb hl hN
  go_enter Try.func14, Try.ntmps14
  go_upto_region 1 with fail
  generalize (w.alloc (.cells #[.int .i64 0, .slice none 0 0, .slice none 0 0, .slice none 0 0, .slice none 0 0, .slice none 0 0, .slice none 0 0, .int .i64 0] 31)) = w0 at HZ HB0 ⊢
  have l0 := (Array.getElem?_eq_some_iff.1 HZ.out).1
  go_upto_region 2 with (go_at_call 27; refine (HLN.out _ HB0.out).mono ?_; rintro e w1 ⟨af, kf, ar, kr, g3, g4, rfl, ⟨ps, o1, o2, o3, o4⟩, b1⟩)
  have l1 : w.heap.size < w1.heap.size := Nat.lt_of_lt_of_le l0 b1.size
  have s1 := Rg.size_new w1 (.cells #[] 49)
  have s2 := Rg.size_new (w1.alloc (.cells #[] 49)) (.cells #[] 76)
  have bb : Below w1.heap.size w1 (((w1.alloc (.cells #[] 49)).alloc (.cells #[] 76)).alloc (.cells #[.int .i64 (N : Int), .slice af xs.length kf, .slice ar N kr, .slice g3 0 0, .slice g4 0 0, .slice (some ⟨w1.heap.size, 0, none⟩) 0 0, .slice (some ⟨w1.heap.size + 1, 0, none⟩) 0 0, .int .i64 0] 31)) := ((bel_new w1 _).alloc (by omega) _).alloc (by omega) _
  have HO : Hid (OwnI w1 w.heap.size (.slice af xs.length kf) xs ∧ OwnQ w1 w.heap.size (.slice ar N kr) ps ∧ SpP w.heap.size w1 (N : Int) ps ∧ ps.length = N) := ⟨Ng.ownI_mono o1 (Nat.le_of_lt l0), o2.mono (Nat.le_of_lt l0), fun k p hp => (o4 k p hp).mono (Nat.le_of_lt l0), o3⟩
  have HN0 : Hid (WIn w.heap.size (w1.heap.size + 1 + 1) (.int .i64 (N : Int)) (.slice af xs.length kf) (.slice ar N kr) (.slice g3 0 0) (.slice g4 0 0) (.slice (some ⟨w1.heap.size + 1, 0, none⟩) 0 0) w w1 (((w1.alloc (.cells #[] 49)).alloc (.cells #[] 76)).alloc (.cells #[.int .i64 (N : Int), .slice af xs.length kf, .slice ar N kr, .slice g3 0 0, .slice g4 0 0, .slice (some ⟨w1.heap.size, 0, none⟩) 0 0, .slice (some ⟨w1.heap.size + 1, 0, none⟩) 0 0, .int .i64 0] 31)) (.slice (some ⟨w1.heap.size, 0, none⟩) 0 0) []) := by
    have hg := blk_new ((w1.alloc (.cells #[] 49)).alloc (.cells #[] 76)) #[.int .i64 (N : Int), .slice af xs.length kf, .slice ar N kr, .slice g3 0 0, .slice g4 0 0, .slice (some ⟨w1.heap.size, 0, none⟩) 0 0, .slice (some ⟨w1.heap.size + 1, 0, none⟩) 0 0, .int .i64 0] 31
    rw [size_new, size_new] at hg
    have hd := ((OwnD.made w1 w.heap.size (Nat.le_of_lt l1)).below (bel_new (w1.alloc (.cells #[] 49)) (.cells #[] 76))).below (bel_new _ (.cells #[.int .i64 (N : Int), .slice af xs.length kf, .slice ar N kr, .slice g3 0 0, .slice g4 0 0, .slice (some ⟨w1.heap.size, 0, none⟩) 0 0, .slice (some ⟨w1.heap.size + 1, 0, none⟩) 0 0, .int .i64 0] 31))
    exact ⟨(bb.block _ l1).trans ((b1.block _ l0).trans HZ.out), hg, hd, Ot.of_below bb, (HB0.out.trans (b1.mono (Nat.le_of_lt l0))).trans (bb.mono (Nat.le_of_lt l1)), by omega⟩
  clear o1 o2 o3 o4 b1 bb HZ HB0 HLN l0 l1 s1 s2
  generalize (((w1.alloc (.cells #[] 49)).alloc (.cells #[] 76)).alloc (.cells #[.int .i64 (N : Int), .slice af xs.length kf, .slice ar N kr, .slice g3 0 0, .slice g4 0 0, .slice (some ⟨w1.heap.size, 0, none⟩) 0 0, .slice (some ⟨w1.heap.size + 1, 0, none⟩) 0 0, .int .i64 0] 31)) = w2 at HN0 ⊢
  generalize w1.heap.size + 1 + 1 = x at HN0 ⊢
  generalize (some ⟨w1.heap.size + 1, 0, none⟩ : Option Addr) = g6 at HN0 ⊢
  generalize (some ⟨w1.heap.size, 0, none⟩ : Option Addr) = g5 at HN0 ⊢
  go_wp2_with fail
  go_loopw [6] (fun i wr => ∃ (j : Nat) (cs : List CV) (vc : Value), i = .int .i64 (j : Int) ∧ j ≤ 3 ∧ Hid (cs.length = j) ∧ Hid (NewD cs) ∧ Hid (WIn w.heap.size x (.int .i64 (N : Int)) (.slice af xs.length kf) (.slice ar N kr) (.slice g3 0 0) (.slice g4 0 0) (.slice g6 0 0) w w1 wr vc cs)) (fun i _ => 3 - (intOf i).toNat)
  case atStart => exact ⟨0, [], _, rfl, by omega, rfl, fun k p hp => by simp at hp, HN0⟩
  case round =>
    clear HN0
    obtain ⟨j, cs, vc, rfl, hj, HL, HD, HI⟩ := hrel
    obtain ⟨ac, cc, rfl⟩ := OwnD.slice HI.out.c
    by_cases hlt : j < 3
    · have hlt' : (j : Int) < 3 := by omega
      have hwrap : IntKind.i64.wrap (10 + (j : Int)) = 10 + (j : Int) := by rw [IntKind.wrap_i64]; omega
      have HLN : Hid (cs.length ≤ 1000000) := by show _ ≤ _; rw [HL.out]; omega
      have HL7 : Hid (∀ W, WIn w.heap.size x (.int .i64 (N : Int)) (.slice af xs.length kf) (.slice ar N kr) (.slice g3 0 0) (.slice g4 0 0) (.slice g6 0 0) w w1 W (.slice ac cs.length cc) cs → Calls Try.prog 28 #[.int .i64 (10 + (j : Int))] W fun e w' => ∃ r1 r2, e = .returned (.agg #[.int .i64 (10 + (j : Int)), .int .i64 0, .bool false, .int .i64 0, .int .i64 0, .int .i64 0, .int .i64 0, .string ⟨#[]⟩, .slice (some ⟨r1, 0, none⟩) 0 0, .slice (some ⟨r2, 0, none⟩) 0 0]) ∧ WIn w.heap.size x (.int .i64 (N : Int)) (.slice af xs.length kf) (.slice ar N kr) (.slice g3 0 0) (.slice g4 0 0) (.slice g6 0 0) w w1 w' (.slice ac cs.length cc) cs) := fun W hW => (HNC.out j W).mono (by
        rintro e w' ⟨r1, r2, rfl, b⟩
        exact ⟨r1, r2, rfl, hW.below b⟩)
      have T5 := HI.out
      have u0 := T5.c5
      have u1 := T5.drew.c5
      clear HI
      go_upto_region 5 with fail
      go_region_law
        (first
          | (go_simp; go_at_call 28; (with_reducible refine (HL7.out _ (by first | assumption | exact WIn.drew (by assumption) | exact WIn.alloc (by assumption) _ | exact WIn.drew (WIn.alloc (by assumption) _) | exact WIn.alloc (WIn.drew (by assumption)) _)).mono ?_); rintro e wn ⟨r1, r2, rfl, tn⟩; have qn := tn.c5; have qa := fun o => (tn.alloc o).c5; have qd := tn.drew.c5; try go_simp)
          | (refine step_cv (by rfl) _ _ 28 (by rfl) Try.underlying28 hi0 hz0 hz1 hz2 _ w w1 w.heap.size x _ _ _ _ _ _ _ cs ⟨10 + (j : Int), some ⟨r1, 0, none⟩, some ⟨r2, 0, none⟩⟩ (by rfl) _ (by rfl) (by first | exact heap_alloc_new _ _ | exact (heap_alloc_new _ _ : (World.alloc _ _).drew.heap[_]? = _)) (by first | assumption | exact WIn.drew (by assumption) | exact WIn.alloc (by assumption) _ | exact WIn.drew (WIn.alloc (by assumption) _) | exact WIn.alloc (WIn.drew (by assumption)) _) HLN.out ?_; intro v5 w5 t5; obtain ⟨a5, cap5, rfl⟩ := OwnD.slice t5.own; obtain ⟨s5, f5⟩ := blk_cell t5.g 5 (x := .slice ac cs.length cc) rfl; try go_simp))
      all_goals
        rw [show (cs ++ [(⟨10 + (j : Int), some ⟨r1, 0, none⟩, some ⟨r2, 0, none⟩⟩ : CV)]).length = cs.length + 1 by simp] at t5
        have T6 := t5.set
        clear t5 T5 u0 u1 tn qn qa qd s5 f5
        go_wp2_with fail
        exact ⟨⟨j + 1, _, _, by go_num, by omega, (by show _ = _; rw [List.length_append, HL.out]; rfl), HD.out.snoc HL.out _ _, T6⟩, by simp [intOf]; omega⟩
    · obtain rfl : j = 3 := by omega
      go_upto_region 6 with fail
      have HA := HI.out.z
      have HG := HI.out.g
      have hxB := HI.out.hx
      obtain ⟨ca0, fa0⟩ := blk_cell HA 0 (x := .int .i64 0) rfl
      obtain ⟨ca1, fa1⟩ := blk_cell HA 1 (x := .slice none 0 0) rfl
      obtain ⟨ca2, fa2⟩ := blk_cell HA 2 (x := .slice none 0 0) rfl
      obtain ⟨ca3, fa3⟩ := blk_cell HA 3 (x := .slice none 0 0) rfl
      obtain ⟨ca4, fa4⟩ := blk_cell HA 4 (x := .slice none 0 0) rfl
      obtain ⟨ca5, fa5⟩ := blk_cell HA 5 (x := .slice none 0 0) rfl
      obtain ⟨ca6, fa6⟩ := blk_cell HA 6 (x := .slice none 0 0) rfl
      obtain ⟨ca7, fa7⟩ := blk_cell HA 7 (x := .int .i64 0) rfl
      have cb0 := (blk_cell HG 0 (x := .int .i64 (N : Int)) rfl).1
      have cb1 := (blk_cell HG 1 (x := .slice af xs.length kf) rfl).1
      have cb2 := (blk_cell HG 2 (x := .slice ar N kr) rfl).1
      have cb3 := (blk_cell HG 3 (x := .slice g3 0 0) rfl).1
      have cb4 := (blk_cell HG 4 (x := .slice g4 0 0) rfl).1
      have cb5 := (blk_cell HG 5 (x := .slice ac cs.length cc) rfl).1
      have cb6 := (blk_cell HG 6 (x := .slice g6 0 0) rfl).1
      have cb7 := (blk_cell HG 7 (x := .int .i64 0) rfl).1
      obtain ⟨AF, FA, BF0⟩ := set8 (.int .i64 0) (.slice none 0 0) (.slice none 0 0) (.slice none 0 0) (.slice none 0 0) (.slice none 0 0) (.slice none 0 0) (.int .i64 0) (.int .i64 (N : Int)) (.slice af xs.length kf) (.slice ar N kr) (.slice g3 0 0) (.slice g4 0 0) (.slice ac cs.length cc) (.slice g6 0 0) (.int .i64 0) HA
      have BF : Hid _ := BF0 HI.out.b (Nat.le_refl _)
      have KF : Hid (Ot w1 ((((((((wr.setCell ⟨w.heap.size, 0, none⟩ (.int .i64 (N : Int))).setCell ⟨w.heap.size, 1, none⟩ (.slice af xs.length kf)).setCell ⟨w.heap.size, 2, none⟩ (.slice ar N kr)).setCell ⟨w.heap.size, 3, none⟩ (.slice g3 0 0)).setCell ⟨w.heap.size, 4, none⟩ (.slice g4 0 0)).setCell ⟨w.heap.size, 5, none⟩ (.slice ac cs.length cc)).setCell ⟨w.heap.size, 6, none⟩ (.slice g6 0 0)).setCell ⟨w.heap.size, 7, none⟩ (.int .i64 0)) ∧ OwnD ((((((((wr.setCell ⟨w.heap.size, 0, none⟩ (.int .i64 (N : Int))).setCell ⟨w.heap.size, 1, none⟩ (.slice af xs.length kf)).setCell ⟨w.heap.size, 2, none⟩ (.slice ar N kr)).setCell ⟨w.heap.size, 3, none⟩ (.slice g3 0 0)).setCell ⟨w.heap.size, 4, none⟩ (.slice g4 0 0)).setCell ⟨w.heap.size, 5, none⟩ (.slice ac cs.length cc)).setCell ⟨w.heap.size, 6, none⟩ (.slice g6 0 0)).setCell ⟨w.heap.size, 7, none⟩ (.int .i64 0)) w.heap.size (.slice ac cs.length cc) cs) := ⟨ot_fin HI.out.ot HA FA, own_fin HI.out.c HA FA⟩
      have hxw : x ≠ w.heap.size := by omega
      clear HA HG HI BF0 FA
      go_wp2_with fail
      generalize ((((((((wr.setCell ⟨w.heap.size, 0, none⟩ (.int .i64 (N : Int))).setCell ⟨w.heap.size, 1, none⟩ (.slice af xs.length kf)).setCell ⟨w.heap.size, 2, none⟩ (.slice ar N kr)).setCell ⟨w.heap.size, 3, none⟩ (.slice g3 0 0)).setCell ⟨w.heap.size, 4, none⟩ (.slice g4 0 0)).setCell ⟨w.heap.size, 5, none⟩ (.slice ac cs.length cc)).setCell ⟨w.heap.size, 6, none⟩ (.slice g6 0 0)).setCell ⟨w.heap.size, 7, none⟩ (.int .i64 0)) = wf at AF BF KF ⊢
      have d0 := (blk_cell AF 0 (x := .int .i64 (N : Int)) rfl).1
      have d1 := (blk_cell AF 1 (x := .slice af xs.length kf) rfl).1
      have d2 := (blk_cell AF 2 (x := .slice ar N kr) rfl).1
      have d3 := (blk_cell AF 3 (x := .slice g3 0 0) rfl).1
      have d4 := (blk_cell AF 4 (x := .slice g4 0 0) rfl).1
      have d5 := (blk_cell AF 5 (x := .slice ac cs.length cc) rfl).1
      have d6 := (blk_cell AF 6 (x := .slice g6 0 0) rfl).1
      have d7 := (blk_cell AF 7 (x := .int .i64 0) rfl).1
      obtain ⟨q1, q2, q3⟩ := gr_spec KF.out.1 HO.out.1 HO.out.2.1 HO.out.2.2.1
      exact bodyPost_ret (v := .agg #[.int .i64 (N : Int), .slice af xs.length kf, .slice ar N kr, .slice g3 0 0, .slice g4 0 0, .slice ac cs.length cc, .slice g6 0 0, .int .i64 0]) (by simp [results, Try.results14, go_sem, d0, d1, d2, d3, d4, d5, d6, d7]) rfl ⟨af, kf, ar, kr, g3, g4, ac, cc, g6, by rw [HL.out], ⟨ps, cs, q1, q2, HO.out.2.2.2, q3, by rw [← HL.out]; exact KF.out.2, HL.out, HD.out⟩, BF.out⟩
set_option maxRecDepth 100000 in
set_option maxHeartbeats 3200000 in
theorem specNewWorld_any (n : Int) (b off cap : Nat) (xs : List Int) (w : World) (hb : b < w.heap.size) (hc : ∀ i, i < xs.length → w.cell? ⟨b, off + i, none⟩ = some (.int .i64 (nth xs i))) (hr : RowI w (.slice (some ⟨b, off, none⟩) xs.length cap) xs) :
    Calls Try.prog 4 #[.int .i64 n, .slice (some ⟨b, off, none⟩) xs.length cap] w fun e w' => ∃ af kf ar kr g3 g4 ac cc g6, e = .returned (.tuple #[.agg #[.int .i64 (gN n xs), .slice af (gX n xs).length kf, .slice ar (gN n xs).toNat kr, .slice g3 0 0, .slice g4 0 0, .slice ac (gL n xs) cc, .slice g6 0 0, .int .i64 0], .int .i64 (gC n xs)]) ∧ (∃ ps cs, OwnI w' w.heap.size (.slice af (gX n xs).length kf) (gX n xs) ∧ OwnQ w' w.heap.size (.slice ar (gN n xs).toNat kr) ps ∧ ps.length = (gN n xs).toNat ∧ SpP w.heap.size w' (gN n xs) ps ∧ OwnD w' w.heap.size (.slice ac (gL n xs) cc) cs ∧ cs.length = gL n xs ∧ NewD cs) ∧ Below w.heap.size w w' := by
  have H0 : Hid (∀ o, Below w.heap.size w (w.alloc o)) := fun o => bel_new _ _
  have HZ : Hid ((w.alloc (.cells #[.int .i64 0, .slice none 0 0, .slice none 0 0, .slice none 0 0, .slice none 0 0, .slice none 0 0, .slice none 0 0, .int .i64 0] 31)).heap[w.heap.size]? = some (.cells #[.int .i64 0, .slice none 0 0, .slice none 0 0, .slice none 0 0, .slice none 0 0, .slice none 0 0, .slice none 0 0, .int .i64 0] 31 (0, 0))) := blk_new _ _ _
  by_cases hl : 4096 < xs.length
  · obtain ⟨k1, k2, k3⟩ := g_long (n := n) hl
    have k4 : gL n xs = 0 := by unfold gL; rw [if_neg (by rw [k1]; decide)]
    rw [k1, k2, k3, k4]
    have hl' : (4096 : Int) < (xs.length : Int) := by omega
    clear k1 k2 k3 k4 hl HZ
    go_enter Try.func4, Try.ntmps4
    go_wp2_with fail
    exact bodyPost_ret (v := .tuple #[.agg #[.int .i64 0, .slice none 0 0, .slice none 0 0, .slice none 0 0, .slice none 0 0, .slice none 0 0, .slice none 0 0, .int .i64 0], .int .i64 2]) (by simp [results, Try.results4, go_sem]) rfl ⟨none, 0, none, 0, none, none, none, 0, none, rfl, ⟨[], [], World.ownsRow_nil _ _ _ _, Ng.OwnQ.nil _ _, rfl, fun k p hp => by simp at hp, OwnD.nil _ _, rfl, fun k p hp => by simp at hp⟩, H0.out _⟩
  have hl' : ¬ (4096 : Int) < (xs.length : Int) := by omega
  have HN := Qm.l04Nodes_any n (w.alloc (.cells #[.int .i64 0, .slice none 0 0, .slice none 0 0, .slice none 0 0, .slice none 0 0, .slice none 0 0, .slice none 0 0, .int .i64 0] 31))
  have ff : ∀ hf : faB n xs = false, gC n xs = 4 ∧ gN n xs = 0 ∧ gX n xs = [] ∧ gL n xs = 0 := fun hf => by
    obtain ⟨k1, k2, k3⟩ := g_bad (n := n) (by omega) hf
    exact ⟨k1, k2, k3, by unfold gL; rw [if_neg (by rw [k1]; decide)]⟩
  by_cases hf0 : fCode n = 0
  · rw [decide_eq_true hf0] at HN
    have HLF := l08Faulty_any n (.slice (some ⟨b, off, none⟩) xs.length cap) xs (w.alloc (.cells #[.int .i64 0, .slice none 0 0, .slice none 0 0, .slice none 0 0, .slice none 0 0, .slice none 0 0, .slice none 0 0, .int .i64 0] 31)) hf0 (rowN (hr.below (bel_new _ _))) (by omega)
    cases hf : faB n xs with
    | false =>
      obtain ⟨k1, k2, k3, k4⟩ := ff hf
      rw [k1, k2, k3, k4]
      rw [hf] at HLF
      clear k1 k2 k3 k4 hl hf hf0 ff
      go_enter Try.func4, Try.ntmps4
      go_wp2_with fail
      refine HN.mono ?_
      rintro e _ ⟨rfl, rfl⟩
      clear HN
      go_wp2_with fail
      refine HLF.mono ?_
      rintro e w2 ⟨rfl, b2⟩
      have l0 := (Array.getElem?_eq_some_iff.1 HZ.out).1
      have HZ2 : Hid (w2.heap[w.heap.size]? = some (.cells #[.int .i64 0, .slice none 0 0, .slice none 0 0, .slice none 0 0, .slice none 0 0, .slice none 0 0, .slice none 0 0, .int .i64 0] 31 (0, 0))) := (b2.block _ l0).trans HZ.out
      have HB2 : Hid (Below w.heap.size w w2) := (H0.out _).trans (b2.mono (Nat.le_of_lt l0))
      clear b2 HLF l0 HZ
      obtain ⟨ca0, fa0⟩ := blk_cell HZ2.out 0 (x := .int .i64 0) rfl
      obtain ⟨ca1, fa1⟩ := blk_cell HZ2.out 1 (x := .slice none 0 0) rfl
      obtain ⟨ca2, fa2⟩ := blk_cell HZ2.out 2 (x := .slice none 0 0) rfl
      obtain ⟨ca3, fa3⟩ := blk_cell HZ2.out 3 (x := .slice none 0 0) rfl
      obtain ⟨ca4, fa4⟩ := blk_cell HZ2.out 4 (x := .slice none 0 0) rfl
      obtain ⟨ca5, fa5⟩ := blk_cell HZ2.out 5 (x := .slice none 0 0) rfl
      obtain ⟨ca6, fa6⟩ := blk_cell HZ2.out 6 (x := .slice none 0 0) rfl
      obtain ⟨ca7, fa7⟩ := blk_cell HZ2.out 7 (x := .int .i64 0) rfl
      obtain ⟨AF, _, BF0⟩ := set8 (.int .i64 0) (.slice none 0 0) (.slice none 0 0) (.slice none 0 0) (.slice none 0 0) (.slice none 0 0) (.slice none 0 0) (.int .i64 0) (.int .i64 0) (.slice none 0 0) (.slice none 0 0) (.slice none 0 0) (.slice none 0 0) (.slice none 0 0) (.slice none 0 0) (.int .i64 0) HZ2.out
      have BF : Hid _ := BF0 HB2.out (Nat.le_refl _)
      clear BF0
      go_wp2_with fail
      generalize ((((((((w2.setCell ⟨w.heap.size, 0, none⟩ (.int .i64 0)).setCell ⟨w.heap.size, 1, none⟩ (.slice none 0 0)).setCell ⟨w.heap.size, 2, none⟩ (.slice none 0 0)).setCell ⟨w.heap.size, 3, none⟩ (.slice none 0 0)).setCell ⟨w.heap.size, 4, none⟩ (.slice none 0 0)).setCell ⟨w.heap.size, 5, none⟩ (.slice none 0 0)).setCell ⟨w.heap.size, 6, none⟩ (.slice none 0 0)).setCell ⟨w.heap.size, 7, none⟩ (.int .i64 0)) = wf at AF BF ⊢
      have d0 := (blk_cell AF 0 (x := .int .i64 0) rfl).1
      have d1 := (blk_cell AF 1 (x := .slice none 0 0) rfl).1
      have d2 := (blk_cell AF 2 (x := .slice none 0 0) rfl).1
      have d3 := (blk_cell AF 3 (x := .slice none 0 0) rfl).1
      have d4 := (blk_cell AF 4 (x := .slice none 0 0) rfl).1
      have d5 := (blk_cell AF 5 (x := .slice none 0 0) rfl).1
      have d6 := (blk_cell AF 6 (x := .slice none 0 0) rfl).1
      have d7 := (blk_cell AF 7 (x := .int .i64 0) rfl).1
      exact bodyPost_ret (v := .tuple #[.agg #[.int .i64 0, .slice none 0 0, .slice none 0 0, .slice none 0 0, .slice none 0 0, .slice none 0 0, .slice none 0 0, .int .i64 0], .int .i64 4]) (by simp [results, Try.results4, go_sem, d0, d1, d2, d3, d4, d5, d6, d7]) rfl ⟨none, 0, none, 0, none, none, none, 0, none, rfl, ⟨[], [], World.ownsRow_nil _ _ _ _, Ng.OwnQ.nil _ _, rfl, fun k p hp => by simp at hp, OwnD.nil _ _, rfl, fun k p hp => by simp at hp⟩, BF.out⟩
    | true =>
      obtain ⟨k1, k2, k3⟩ := g_ok (n := n) (by omega) hf
      have k4 : gL n xs = 3 := by unfold gL; rw [if_pos k1]
      rw [k1, k2, k3, k4]
      rw [hf] at HLF
      have hn := f_small hf0
      obtain ⟨N, rfl⟩ : ∃ N : Nat, n = (N : Int) := ⟨n.toNat, by omega⟩
      rw [Int.toNat_natCast]
      have HLN : Hid (∀ W, Below w.heap.size w W → Calls Try.prog 14 #[.int .i64 (N : Int), .slice (some ⟨b, off, none⟩) xs.length cap] W fun e w' => ∃ af kf ar kr g3 g4 ac cc g6, e = .returned (.agg #[.int .i64 (N : Int), .slice af xs.length kf, .slice ar N kr, .slice g3 0 0, .slice g4 0 0, .slice ac 3 cc, .slice g6 0 0, .int .i64 0]) ∧ (∃ ps cs, OwnI w' W.heap.size (.slice af xs.length kf) xs ∧ OwnQ w' W.heap.size (.slice ar N kr) ps ∧ ps.length = N ∧ SpP W.heap.size w' (N : Int) ps ∧ OwnD w' W.heap.size (.slice ac 3 cc) cs ∧ cs.length = 3 ∧ NewD cs) ∧ Below W.heap.size W w') := fun W hW => l14New_any N b off cap xs W (by omega) (by omega) (Nat.lt_of_lt_of_le hb hW.size) (fun i hi => (hW.cell (p := ⟨b, off + i, none⟩) hb).trans (hc i hi))
      clear k1 k2 k3 k4 hl hf hf0 hn hc hr hb ff
      go_enter Try.func4, Try.ntmps4
      go_wp2_with fail
      refine HN.mono ?_
      rintro e _ ⟨rfl, rfl⟩
      clear HN
      go_wp2_with fail
      refine HLF.mono ?_
      rintro e w2 ⟨rfl, b2⟩
      have l0 := (Array.getElem?_eq_some_iff.1 HZ.out).1
      have HZ2 : Hid (w2.heap[w.heap.size]? = some (.cells #[.int .i64 0, .slice none 0 0, .slice none 0 0, .slice none 0 0, .slice none 0 0, .slice none 0 0, .slice none 0 0, .int .i64 0] 31 (0, 0))) := (b2.block _ l0).trans HZ.out
      have HB2 : Hid (Below w.heap.size w w2) := (H0.out _).trans (b2.mono (Nat.le_of_lt l0))
      clear b2 HLF l0 HZ
      go_wp2_with fail
      refine (HLN.out _ HB2.out).mono ?_
      rintro e w3 ⟨af, kf, ar, kr, g3, g4, ac, cc, g6, rfl, ⟨ps, cs, o1, o2, o3, o4, o5, o6, o7⟩, b3⟩
      have l2 := (Array.getElem?_eq_some_iff.1 HZ2.out).1
      have HA := (b3.block _ l2).trans HZ2.out
      have HB3 : Hid (Below w.heap.size w w3) := HB2.out.trans (b3.mono (Nat.le_of_lt l2))
      have HO : Hid (OwnI w3 w.heap.size (.slice af xs.length kf) xs ∧ OwnQ w3 w.heap.size (.slice ar N kr) ps ∧ SpP w.heap.size w3 (N : Int) ps ∧ OwnD w3 w.heap.size (.slice ac 3 cc) cs ∧ ps.length = N ∧ cs.length = 3 ∧ NewD cs) := ⟨Ng.ownI_mono o1 (Nat.le_of_lt l2), o2.mono (Nat.le_of_lt l2), fun k p hp => (o4 k p hp).mono (Nat.le_of_lt l2), o5.mono (Nat.le_of_lt l2), o3, o6, o7⟩
      clear o1 o2 o3 o4 o5 o6 o7 b3 HLN HZ2 HB2
      obtain ⟨ca0, fa0⟩ := blk_cell HA 0 (x := .int .i64 0) rfl
      obtain ⟨ca1, fa1⟩ := blk_cell HA 1 (x := .slice none 0 0) rfl
      obtain ⟨ca2, fa2⟩ := blk_cell HA 2 (x := .slice none 0 0) rfl
      obtain ⟨ca3, fa3⟩ := blk_cell HA 3 (x := .slice none 0 0) rfl
      obtain ⟨ca4, fa4⟩ := blk_cell HA 4 (x := .slice none 0 0) rfl
      obtain ⟨ca5, fa5⟩ := blk_cell HA 5 (x := .slice none 0 0) rfl
      obtain ⟨ca6, fa6⟩ := blk_cell HA 6 (x := .slice none 0 0) rfl
      obtain ⟨ca7, fa7⟩ := blk_cell HA 7 (x := .int .i64 0) rfl
      obtain ⟨AF, FA, BF0⟩ := set8 (.int .i64 0) (.slice none 0 0) (.slice none 0 0) (.slice none 0 0) (.slice none 0 0) (.slice none 0 0) (.slice none 0 0) (.int .i64 0) (.int .i64 (N : Int)) (.slice af xs.length kf) (.slice ar N kr) (.slice g3 0 0) (.slice g4 0 0) (.slice ac 3 cc) (.slice g6 0 0) (.int .i64 0) HA
      have BF : Hid _ := BF0 HB3.out (Nat.le_refl _)
      have KF : Hid (Ot w3 ((((((((w3.setCell ⟨w.heap.size, 0, none⟩ (.int .i64 (N : Int))).setCell ⟨w.heap.size, 1, none⟩ (.slice af xs.length kf)).setCell ⟨w.heap.size, 2, none⟩ (.slice ar N kr)).setCell ⟨w.heap.size, 3, none⟩ (.slice g3 0 0)).setCell ⟨w.heap.size, 4, none⟩ (.slice g4 0 0)).setCell ⟨w.heap.size, 5, none⟩ (.slice ac 3 cc)).setCell ⟨w.heap.size, 6, none⟩ (.slice g6 0 0)).setCell ⟨w.heap.size, 7, none⟩ (.int .i64 0)) ∧ OwnD ((((((((w3.setCell ⟨w.heap.size, 0, none⟩ (.int .i64 (N : Int))).setCell ⟨w.heap.size, 1, none⟩ (.slice af xs.length kf)).setCell ⟨w.heap.size, 2, none⟩ (.slice ar N kr)).setCell ⟨w.heap.size, 3, none⟩ (.slice g3 0 0)).setCell ⟨w.heap.size, 4, none⟩ (.slice g4 0 0)).setCell ⟨w.heap.size, 5, none⟩ (.slice ac 3 cc)).setCell ⟨w.heap.size, 6, none⟩ (.slice g6 0 0)).setCell ⟨w.heap.size, 7, none⟩ (.int .i64 0)) w.heap.size (.slice ac 3 cc) cs) := ⟨ot_fin (Ot.refl _) HA FA, own_fin HO.out.2.2.2.1 HA FA⟩
      clear HA BF0 FA
      go_wp2_with fail
      generalize ((((((((w3.setCell ⟨w.heap.size, 0, none⟩ (.int .i64 (N : Int))).setCell ⟨w.heap.size, 1, none⟩ (.slice af xs.length kf)).setCell ⟨w.heap.size, 2, none⟩ (.slice ar N kr)).setCell ⟨w.heap.size, 3, none⟩ (.slice g3 0 0)).setCell ⟨w.heap.size, 4, none⟩ (.slice g4 0 0)).setCell ⟨w.heap.size, 5, none⟩ (.slice ac 3 cc)).setCell ⟨w.heap.size, 6, none⟩ (.slice g6 0 0)).setCell ⟨w.heap.size, 7, none⟩ (.int .i64 0)) = wf at AF BF KF ⊢
      have d0 := (blk_cell AF 0 (x := .int .i64 (N : Int)) rfl).1
      have d1 := (blk_cell AF 1 (x := .slice af xs.length kf) rfl).1
      have d2 := (blk_cell AF 2 (x := .slice ar N kr) rfl).1
      have d3 := (blk_cell AF 3 (x := .slice g3 0 0) rfl).1
      have d4 := (blk_cell AF 4 (x := .slice g4 0 0) rfl).1
      have d5 := (blk_cell AF 5 (x := .slice ac 3 cc) rfl).1
      have d6 := (blk_cell AF 6 (x := .slice g6 0 0) rfl).1
      have d7 := (blk_cell AF 7 (x := .int .i64 0) rfl).1
      obtain ⟨q1, q2, q3⟩ := gr_spec KF.out.1 HO.out.1 HO.out.2.1 HO.out.2.2.1
      exact bodyPost_ret (v := .tuple #[.agg #[.int .i64 (N : Int), .slice af xs.length kf, .slice ar N kr, .slice g3 0 0, .slice g4 0 0, .slice ac 3 cc, .slice g6 0 0, .int .i64 0], .int .i64 0]) (by simp [results, Try.results4, go_sem, d0, d1, d2, d3, d4, d5, d6, d7]) rfl ⟨af, kf, ar, kr, g3, g4, ac, cc, g6, rfl, ⟨ps, cs, q1, q2, HO.out.2.2.2.2.1, q3, KF.out.2, HO.out.2.2.2.2.2⟩, BF.out⟩
  · rw [decide_eq_false hf0] at HN
    have hf : faB n xs = false := by
      cases h : faB n xs with
      | false => rfl
      | true => exact absurd (Ng.bOf_iff.1 h).1 hf0
    obtain ⟨k1, k2, k3, k4⟩ := ff hf
    rw [k1, k2, k3, k4]
    clear k1 k2 k3 k4 hl hf hf0 ff
    have HB2 : Hid (Below w.heap.size w (w.alloc (.cells #[.int .i64 0, .slice none 0 0, .slice none 0 0, .slice none 0 0, .slice none 0 0, .slice none 0 0, .slice none 0 0, .int .i64 0] 31))) := bel_new _ _
    go_enter Try.func4, Try.ntmps4
    go_wp2_with fail
    refine HN.mono ?_
    rintro e _ ⟨rfl, rfl⟩
    clear HN
    generalize (w.alloc (.cells #[.int .i64 0, .slice none 0 0, .slice none 0 0, .slice none 0 0, .slice none 0 0, .slice none 0 0, .slice none 0 0, .int .i64 0] 31)) = w2 at HZ HB2 ⊢
    obtain ⟨ca0, fa0⟩ := blk_cell HZ.out 0 (x := .int .i64 0) rfl
    obtain ⟨ca1, fa1⟩ := blk_cell HZ.out 1 (x := .slice none 0 0) rfl
    obtain ⟨ca2, fa2⟩ := blk_cell HZ.out 2 (x := .slice none 0 0) rfl
    obtain ⟨ca3, fa3⟩ := blk_cell HZ.out 3 (x := .slice none 0 0) rfl
    obtain ⟨ca4, fa4⟩ := blk_cell HZ.out 4 (x := .slice none 0 0) rfl
    obtain ⟨ca5, fa5⟩ := blk_cell HZ.out 5 (x := .slice none 0 0) rfl
    obtain ⟨ca6, fa6⟩ := blk_cell HZ.out 6 (x := .slice none 0 0) rfl
    obtain ⟨ca7, fa7⟩ := blk_cell HZ.out 7 (x := .int .i64 0) rfl
    obtain ⟨AF, _, BF0⟩ := set8 (.int .i64 0) (.slice none 0 0) (.slice none 0 0) (.slice none 0 0) (.slice none 0 0) (.slice none 0 0) (.slice none 0 0) (.int .i64 0) (.int .i64 0) (.slice none 0 0) (.slice none 0 0) (.slice none 0 0) (.slice none 0 0) (.slice none 0 0) (.slice none 0 0) (.int .i64 0) HZ.out
    have BF : Hid _ := BF0 HB2.out (Nat.le_refl _)
    clear BF0
    go_wp2_with fail
    generalize ((((((((w2.setCell ⟨w.heap.size, 0, none⟩ (.int .i64 0)).setCell ⟨w.heap.size, 1, none⟩ (.slice none 0 0)).setCell ⟨w.heap.size, 2, none⟩ (.slice none 0 0)).setCell ⟨w.heap.size, 3, none⟩ (.slice none 0 0)).setCell ⟨w.heap.size, 4, none⟩ (.slice none 0 0)).setCell ⟨w.heap.size, 5, none⟩ (.slice none 0 0)).setCell ⟨w.heap.size, 6, none⟩ (.slice none 0 0)).setCell ⟨w.heap.size, 7, none⟩ (.int .i64 0)) = wf at AF BF ⊢
    have d0 := (blk_cell AF 0 (x := .int .i64 0) rfl).1
    have d1 := (blk_cell AF 1 (x := .slice none 0 0) rfl).1
    have d2 := (blk_cell AF 2 (x := .slice none 0 0) rfl).1
    have d3 := (blk_cell AF 3 (x := .slice none 0 0) rfl).1
    have d4 := (blk_cell AF 4 (x := .slice none 0 0) rfl).1
    have d5 := (blk_cell AF 5 (x := .slice none 0 0) rfl).1
    have d6 := (blk_cell AF 6 (x := .slice none 0 0) rfl).1
    have d7 := (blk_cell AF 7 (x := .int .i64 0) rfl).1
    exact bodyPost_ret (v := .tuple #[.agg #[.int .i64 0, .slice none 0 0, .slice none 0 0, .slice none 0 0, .slice none 0 0, .slice none 0 0, .slice none 0 0, .int .i64 0], .int .i64 4]) (by simp [results, Try.results4, go_sem, d0, d1, d2, d3, d4, d5, d6, d7]) rfl ⟨none, 0, none, 0, none, none, none, 0, none, rfl, ⟨[], [], World.ownsRow_nil _ _ _ _, Ng.OwnQ.nil _ _, rfl, fun k p hp => by simp at hp, OwnD.nil _ _, rfl, fun k p hp => by simp at hp⟩, BF.out⟩
end Go.Proofs.Ytdhmmbbdckahmaa.Wn
