/- Texts put together: Zf. -/
import Derived.Test.YtondmbeccpekiaaGreatDoorH41
import Derived.Test.YtondmbeccpekiaaGreatDoorH43
/- Right groups: the specification. -/
namespace Go.Proofs.YtondmbeccpekiaaGreatDoor.Zg
open Go.RowKit Go.Proofs.YtondmbeccpekiaaGreatDoor.Rg Go.Proofs.YtondmbeccpekiaaGreatDoor.Gm Go.Proofs.YtondmbeccpekiaaGreatDoor.Ty Go.Proofs.YtondmbeccpekiaaGreatDoor.Tm Go.Proofs.YtondmbeccpekiaaGreatDoor.Sh Go.Proofs.YtondmbeccpekiaaGreatDoor.Yr
open Go.Proofs.YtondmbeccpekiaaGreatDoor.Vt (bOf bOf_true bOf_false bOf_iff bOf_eq sg)
open Go.Proofs.YtondmbeccpekiaaGreatDoor.Qm (qOut inB)

theorem f_div {n : Int} (h : fCode n = 0) : Int.tdiv (n - 1) 3 = fOut n ∧ (n - 1) / 3 = fOut n := by
  rcases f_cases n with rfl | rfl | rfl | ⟨_, _, _, _, hd⟩
  · decide
  · decide
  · decide
  · rw [hd] at h; cases h
set_option maxRecDepth 100000 in
set_option maxHeartbeats 3200000 in
theorem l08Faulty_any (n : Int) (v : Value) (fa : List Int) (w : World) (hf : fCode n = 0) (h : RowN w v fa) (hl : fa.length ≤ 1048576) :
    Calls Tryz.prog 27 #[.int .i64 n, v] w fun e w' => e = .returned (.bool (faB n fa)) ∧ Below w.heap.size w w' := by
  have HR : Hid (RowN w v fa) := h
  obtain ⟨a, cap, rfl⟩ := RowG.slice h
  clear h
  obtain ⟨bb, HBB⟩ : ∃ bb, Hid (faB n fa = bb) := ⟨_, rfl⟩
  rw [HBB.out]
  have HN : Hid (∀ _ : Unit, ¬ FaP n fa → bb = false) := fun _ hh => by rw [← HBB.out]; exact bOf_false fun h => hh h.2
  have hn7 := f_small hf
  have hfo := f_out hf
  obtain ⟨hq1, hq2⟩ := f_div hf
  have HF0 : Hid (fCode n = 0) := hf
  clear hf
  by_cases hlen : (fa.length : Int) ≤ fOut n
  rotate_left
  · have hlen' : fOut n < (fa.length : Int) := by omega
    have HF : Hid (bb = false) := HN.out () fun hh => hlen hh.1
    clear hlen
    go_enter Tryz.func27, Tryz.ntmps27
    go_wp2_with fail
    go_ret
    exact ⟨ret_b HF.out.symm, Below.refl _ _⟩
  have hlen' : ¬ fOut n < (fa.length : Int) := by omega
  have HLE : Hid ((fa.length : Int) ≤ fOut n) := hlen
  clear hlen
  go_enter Tryz.func27, Tryz.ntmps27
  go_wp2_with fail
  clear hq1 hq2
  go_loopw [5] (fun i wr => ∃ k : Nat, k ≤ fa.length ∧ i = .int .i64 k ∧ Hid (∀ j x, j < k → fa[j]? = some x → OneF n fa j x) ∧ Hid (Below w.heap.size w wr)) (fun i _ => fa.length - (intOf i).toNat)
  case atStart => exact ⟨0, by omega, rfl, fun j x hj => by omega, Below.refl _ _⟩
  case round =>
    obtain ⟨k, hk, rfl, HJ, HB⟩ := hrel
    by_cases hlt : k < fa.length
    · obtain ⟨x, hx⟩ := Rg.get_at hlt
      obtain ⟨b, off, rfl, hbl, c0⟩ := RowG.at (HR.out.below HB.out) rfl hx
      unfold EI at c0
      rw [Nat.mul_one] at c0
      have HX : Hid (fa[k]? = some x) := hx
      have HRW : Hid (RowN wr (.slice (some ⟨b, off, none⟩) fa.length cap) fa) := HR.out.below HB.out
      have HLO : Hid (-1 ≤ lastF fa k) := (lastF_low hk HJ.out).1
      have HIN : Hid (∀ W, Calls Tryz.prog 29 #[.int .i64 x, .int .i64 0, .int .i64 (n - 1)] W fun e w' => e = .returned (.bool (inB x 0 (n - 1))) ∧ W = w') := fun W => Qm.l01In_any x 0 (n - 1) W
      have HNF : Hid (∀ _ : Unit, ¬ OneF n fa k x → bb = false) := fun _ hh => HN.out () fun h => hh (h.2 k x hlt HX.out)
      have HY : Hid (OneF n fa k x → ∀ j z, j < k + 1 → fa[j]? = some z → OneF n fa j z) := fun hh => upto_succ HJ.out HX.out hh
      have hp0 : (0 : Int) ≤ (k : Int) := by omega
      have hp1 : (k : Int) < (fa.length : Int) := by omega
      have hw0 : IntKind.i64.wrap (n - 1) = n - 1 := by rw [IntKind.wrap_i64]; omega
      clear hx
      go_upto_region 6 with fail
      obtain ⟨X, hX, W, QI0, QO0⟩ := Qc.klass wr
      have QI : Hid (∀ w', Below wr.heap.size wr w' → ∃ x, w' = W x) := QI0
      have QO : Hid (∀ x, Below wr.heap.size wr (W x)) := QO0
      clear QI0 QO0
      have q0 := Qc.cell_all QO.out c0
      clear c0
      cases hin : inB x 0 (n - 1) with
      | false =>
        have HF : Hid (bb = false) := HNF.out () fun hh => by
          have h2 : inB x 0 (n - 1) = true := inB_iff.2 ⟨by have := HLO.out; have := hh.1; omega, hh.2⟩
          rw [hin] at h2; cases h2
        rw [hin] at HIN
        clear hin
        refine Qc.region_class (W := W) (by kernel_rfl) (by kernel_rfl) (QI.out _ Qc.from_drew) ?_
        repeat (go_big_quiet_step (first | (go_at_call 29; refine (HIN.out _).mono ?_; rintro e w2 ⟨rfl, rfl⟩; exact ⟨rfl, ⟨_, rfl⟩⟩)))
        refine wpQuiet_nil ?_
        rintro _ ⟨xq, rfl⟩
        have G2 : Hid (Below w.heap.size w (W xq)) := HB.out.trans ((QO.out xq).mono HB.out.size)
        clear q0
        generalize W xq = wq at G2 ⊢
        go_wp2_with fail
        go_ret
        exact ⟨ret_b HF.out.symm, G2.out⟩
      | true =>
        have h1 := inB_iff.1 hin
        have HI1 : Hid (0 ≤ x ∧ x ≤ n - 1) := h1
        rw [hin] at HIN
        clear hin h1
        by_cases hk0 : k = 0
        · subst hk0
          have HU : Hid (∀ j z, j < 0 + 1 → fa[j]? = some z → OneF n fa j z) := HY.out ⟨by show (-1 : Int) + 1 ≤ x; have := HI1.out.1; omega, HI1.out.2⟩
          simp only [Nat.add_zero] at q0
          refine Qc.region_class (W := W) (by kernel_rfl) (by kernel_rfl) (QI.out _ Qc.from_drew) ?_
          repeat (go_big_quiet_step (first | (go_at_call 29; refine (HIN.out _).mono ?_; rintro e w2 ⟨rfl, rfl⟩; exact ⟨rfl, ⟨_, rfl⟩⟩)))
          refine wpQuiet_nil ?_
          rintro _ ⟨xq, rfl⟩
          have G2 : Hid (Below w.heap.size w (W xq)) := HB.out.trans ((QO.out xq).mono HB.out.size)
          clear q0
          generalize W xq = wq at G2 ⊢
          go_wp2_with fail
          exact ⟨⟨0 + 1, by omega, by go_num, HU, G2⟩, by simp [intOf]; omega⟩
        · obtain ⟨m, rfl⟩ : ∃ m, k = m + 1 := ⟨k - 1, by omega⟩
          obtain ⟨y, hy⟩ := Rg.get_at (xs := fa) (k := m) (by omega)
          obtain ⟨b3, off3, e3, hb3, d0⟩ := RowG.at HRW.out rfl hy
          cases e3
          unfold EI at d0
          rw [Nat.mul_one] at d0
          have q9 := Qc.cell_all QO.out d0
          have HLS : Hid (lastF fa (m + 1) = y) := lastF_step hy
          clear d0 hk0 hy
          have hm1 : ((m + 1 : Nat) : Int) - 1 = (m : Int) := by omega
          have hw1 : IntKind.i64.wrap (((m + 1 : Nat) : Int) - 1) = (m : Int) := by rw [IntKind.wrap_i64]; omega
          have hw2 : IntKind.i64.wrap (m : Int) = (m : Int) := by rw [IntKind.wrap_i64]; omega
          have hm0 : (0 : Int) < ((m + 1 : Nat) : Int) := by omega
          have hm2 : (m : Int) < (fa.length : Int) := by omega
          have hm3 : (0 : Int) ≤ (m : Int) := by omega
          by_cases g4 : y < x
          · have HU : Hid (∀ j z, j < m + 1 + 1 → fa[j]? = some z → OneF n fa j z) := HY.out ⟨by rw [HLS.out]; omega, HI1.out.2⟩
            have g4a : ¬ y ≥ x := by omega
            have g4b : ¬ x ≤ y := by omega
            clear g4
            refine Qc.region_class (W := W) (by kernel_rfl) (by kernel_rfl) (QI.out _ Qc.from_drew) ?_
            repeat (go_big_quiet_step (first | (go_at_call 29; refine (HIN.out _).mono ?_; rintro e w2 ⟨rfl, rfl⟩; exact ⟨rfl, ⟨_, rfl⟩⟩)))
            refine wpQuiet_nil ?_
            rintro _ ⟨xq, rfl⟩
            have G2 : Hid (Below w.heap.size w (W xq)) := HB.out.trans ((QO.out xq).mono HB.out.size)
            clear q0 q9
            generalize W xq = wq at G2 ⊢
            go_wp2_with fail
            exact ⟨⟨m + 1 + 1, by omega, by go_num, HU, G2⟩, by simp [intOf]; omega⟩
          · have HF : Hid (bb = false) := HNF.out () fun hh => g4 (by have := hh.1; rw [HLS.out] at this; omega)
            have g4a : y ≥ x := by omega
            have g4b : x ≤ y := by omega
            clear g4
            refine Qc.region_class (W := W) (by kernel_rfl) (by kernel_rfl) (QI.out _ Qc.from_drew) ?_
            repeat (go_big_quiet_step (first | (go_at_call 29; refine (HIN.out _).mono ?_; rintro e w2 ⟨rfl, rfl⟩; exact ⟨rfl, ⟨_, rfl⟩⟩)))
            refine wpQuiet_nil ?_
            rintro _ ⟨xq, rfl⟩
            have G2 : Hid (Below w.heap.size w (W xq)) := HB.out.trans ((QO.out xq).mono HB.out.size)
            clear q0 q9
            generalize W xq = wq at G2 ⊢
            go_wp2_with fail
            go_ret
            exact ⟨ret_b HF.out.symm, G2.out⟩
    · obtain rfl : k = fa.length := by omega
      have HT : Hid (bb = true) := by show _ = _; rw [← HBB.out]; exact bOf_true ⟨HF0.out, HLE.out, HJ.out⟩
      go_wp2_with fail
      go_ret
      exact ⟨ret_b HT.out.symm, HB.out⟩
set_option maxRecDepth 100000 in
set_option maxHeartbeats 12800000 in
theorem specGroupOK_any (g : Gp) (vf vr vw vs : Value) (w : World) (h : GrpR w g vf vr vw vs) (hz : Zq 1048576 g) :
    Calls Tryz.prog 8 #[.agg #[.int .i64 g.n, vf, vr, vw, vs]] w fun e w' => e = .returned (.bool (grpB g)) ∧ Below w.heap.size w w' := by
  have HR : Hid (GrpR w g vf vr vw vs) := h
  have HZ0 : Hid (Zq 1048576 g) := hz
  obtain ⟨af, kf, rfl⟩ := RowG.slice h.f
  obtain ⟨ar, kr, rfl⟩ := RowG.slice h.r
  obtain ⟨aw, kw, rfl⟩ := RowG.slice h.p
  obtain ⟨az, kz, rfl⟩ := RowG.slice h.s
  have HP : Hid (∀ W, Below (w.alloc (.cells #[.int .i64 g.n, .slice af g.fa.length kf, .slice ar g.rs.length kr, .slice aw g.wi.length kw, .slice az g.se.length kz] 34)).heap.size (w.alloc (.cells #[.int .i64 g.n, .slice af g.fa.length kf, .slice ar g.rs.length kr, .slice aw g.wi.length kw, .slice az g.se.length kz] 34)) W → (W.cell? ⟨w.heap.size, 0, none⟩ = some (.int .i64 g.n) ∧ W.cell? ⟨w.heap.size, 1, none⟩ = some (.slice af g.fa.length kf) ∧ W.cell? ⟨w.heap.size, 2, none⟩ = some (.slice ar g.rs.length kr) ∧ W.cell? ⟨w.heap.size, 3, none⟩ = some (.slice aw g.wi.length kw) ∧ W.cell? ⟨w.heap.size, 4, none⟩ = some (.slice az g.se.length kz)) ∧ Below w.heap.size w W) := fun W hW => by
    have h1 := (hW.block w.heap.size (by simp)).trans (heap_alloc_new w _)
    exact ⟨⟨(blk_cell h1 0 rfl).1, (blk_cell h1 1 rfl).1, (blk_cell h1 2 rfl).1, (blk_cell h1 3 rfl).1, (blk_cell h1 4 rfl).1⟩, (bel_new w _).trans (hW.mono (by simp))⟩
  clear h hz
  obtain ⟨bb, HBB⟩ : ∃ bb, Hid (grpB g = bb) := ⟨_, rfl⟩
  rw [HBB.out]
  have HN : Hid (∀ _ : Unit, ¬ GrpP g → bb = false) := fun _ hh => by rw [← HBB.out]; exact bOf_false hh
  have HNO : Hid (∀ W, Calls Tryz.prog 26 #[.int .i64 g.n] W fun e w' => e = .returned (.bool (decide (fCode g.n = 0))) ∧ W = w') := fun W => Qm.l04Nodes_any g.n W
  go_enter Tryz.func8, Tryz.ntmps8
  go_upto_region 1 with fail
  generalize w.alloc (.cells #[.int .i64 g.n, .slice af g.fa.length kf, .slice ar g.rs.length kr, .slice aw g.wi.length kw, .slice az g.se.length kz] 34) = wb at HP ⊢
  obtain ⟨⟨g0, g1, g2, g3, g4⟩, RB⟩ := HP.out wb (Below.refl _ _)
  have G0 : Hid (Below w.heap.size w wb) := RB
  clear RB
  by_cases hf : fCode g.n = 0
  rotate_left
  · have HF : Hid (bb = false) := HN.out () fun hh => hf (bOf_iff.1 hh.1).1
    rw [decide_eq_false hf] at HNO
    clear hf
    go_wp2_with fail
    refine (HNO.out _).mono ?_
    rintro e _ ⟨rfl, rfl⟩
    go_wp2_with fail
    go_ret
    exact ⟨ret_b HF.out.symm, G0.out⟩
  rw [decide_eq_true hf] at HNO
  have HF0 : Hid (fCode g.n = 0) := hf
  have hn7 := f_small hf
  have HFA := l08Faulty_any g.n _ g.fa wb hf (HR.out.f.below G0.out) HZ0.out.f
  clear hf
  cases h1 : faB g.n g.fa with
  | false =>
    have HF : Hid (bb = false) := HN.out () fun hh => by have := hh.1; rw [h1] at this; cases this
    rw [h1] at HFA
    clear h1
    go_wp2_with fail
    refine (HNO.out _).mono ?_
    rintro e _ ⟨rfl, rfl⟩
    go_wp2_with fail
    refine HFA.mono ?_
    rintro e y1 ⟨rfl, b1⟩
    have G1 : Hid (Below w.heap.size w y1) := G0.out.trans (b1.mono G0.out.size)
    clear b1
    go_wp2_with fail
    go_ret
    exact ⟨ret_b HF.out.symm, G1.out⟩
  | true =>
    have Ah1 : Hid (faB g.n g.fa = true) := h1
    rw [h1] at HFA
    clear h1
    by_cases h2 : (g.rs.length : Int) = g.n
    rotate_left
    · have HF : Hid (bb = false) := HN.out () fun hh => h2 hh.2.1
      have h2a : ((g.rs.length : Int) != g.n) = true := by simpa using h2
      clear h2
      go_wp2_with fail
      refine (HNO.out _).mono ?_
      rintro e _ ⟨rfl, rfl⟩
      go_wp2_with fail
      refine HFA.mono ?_
      rintro e y1 ⟨rfl, b1⟩
      have E1 : Hid (Below wb.heap.size wb y1) := b1
      clear b1 g0 g1 g2 g3 g4 HFA
      obtain ⟨⟨g0, g1, g2, g3, g4⟩, RB⟩ := HP.out y1 E1.out
      have G1 : Hid (Below w.heap.size w y1) := RB
      clear RB
      go_wp2_with fail
      go_ret
      exact ⟨ret_b HF.out.symm, G1.out⟩
    have Ah2 : Hid ((g.rs.length : Int) = g.n) := h2
    have h2a : ((g.rs.length : Int) != g.n) = false := by simpa using h2
    clear h2
    by_cases h3 : g.wi.length ≤ 400
    rotate_left
    · have HF : Hid (bb = false) := HN.out () fun hh => h3 hh.2.2.1
      have h3a : (400 : Int) < (g.wi.length : Int) := by omega
      go_wp2_with fail
      refine (HNO.out _).mono ?_
      rintro e _ ⟨rfl, rfl⟩
      go_wp2_with fail
      refine HFA.mono ?_
      rintro e y1 ⟨rfl, b1⟩
      have E1 : Hid (Below wb.heap.size wb y1) := b1
      clear b1 g0 g1 g2 g3 g4 HFA
      obtain ⟨⟨g0, g1, g2, g3, g4⟩, RB⟩ := HP.out y1 E1.out
      have G1 : Hid (Below w.heap.size w y1) := RB
      clear RB
      go_wp2_with fail
      go_ret
      exact ⟨ret_b HF.out.symm, G1.out⟩
    have h3a : ¬ (400 : Int) < (g.wi.length : Int) := by omega
    by_cases h4 : g.se.length ≤ 4096
    rotate_left
    · have HF : Hid (bb = false) := HN.out () fun hh => h4 hh.2.2.2.1
      have h4a : (4096 : Int) < (g.se.length : Int) := by omega
      go_wp2_with fail
      refine (HNO.out _).mono ?_
      rintro e _ ⟨rfl, rfl⟩
      go_wp2_with fail
      refine HFA.mono ?_
      rintro e y1 ⟨rfl, b1⟩
      have E1 : Hid (Below wb.heap.size wb y1) := b1
      clear b1 g0 g1 g2 g3 g4 HFA
      obtain ⟨⟨g0, g1, g2, g3, g4⟩, RB⟩ := HP.out y1 E1.out
      have G1 : Hid (Below w.heap.size w y1) := RB
      clear RB
      go_wp2_with fail
      go_ret
      exact ⟨ret_b HF.out.symm, G1.out⟩
    have h4a : ¬ (4096 : Int) < (g.se.length : Int) := by omega
    go_wp2_with fail
    refine (HNO.out _).mono ?_
    rintro e _ ⟨rfl, rfl⟩
    go_wp2_with fail
    refine HFA.mono ?_
    rintro e y1 ⟨rfl, b1⟩
    have E1 : Hid (Below wb.heap.size wb y1) := b1
    clear b1 g0 g1 g2 g3 g4 HFA
    obtain ⟨⟨g0, g1, g2, g3, g4⟩, RB⟩ := HP.out y1 E1.out
    have G1 : Hid (Below w.heap.size w y1) := RB
    clear RB
    go_wp2_with fail
    clear HNO g0 g1 g2 g3 g4 h2a
    go_loopw [3] (fun i wr => ∃ k : Nat, k ≤ g.rs.length ∧ i = .int .i64 k ∧ Hid ((∀ j s, j < k → g.rs[j]? = some s → RsP g.n j s) ∧ Below wb.heap.size wb wr)) (fun i _ => g.rs.length - (intOf i).toNat)
    case atStart => exact ⟨0, by omega, rfl, ⟨fun j x hj => by omega, E1.out⟩⟩
    case round =>
      clear E1 G1
      obtain ⟨k, hk, rfl, HZ⟩ := hrel
      obtain ⟨⟨g0, g1, g2, g3, g4⟩, RB⟩ := HP.out wr HZ.out.2
      have G1 : Hid (Below w.heap.size w wr) := RB
      have F1 : Hid (Below wb.heap.size wb wr) := HZ.out.2
      clear RB
      by_cases hlt : k < g.rs.length
      · obtain ⟨x, hx⟩ := Rg.get_at hlt
        obtain ⟨b, off, rfl, hbl, u4, u5, u6, u7, c0, c1, c2, c3, c4, c5, c6, c7, rr⟩ := RowG.at (HR.out.r.below G1.out) rfl hx
        obtain ⟨a4, k4, rfl⟩ := RowG.slice rr.s
        obtain ⟨a5, k5, rfl⟩ := RowG.slice rr.c
        obtain ⟨a6, k6, rfl, _⟩ := rr.l
        obtain ⟨a7, k7, rfl⟩ := RowG.slice rr.h
        have HX : Hid (g.rs[k]? = some x) := hx
        have hzx := HZ0.out.rz x (mem_at hx)
        have HRO : Hid (∀ W, Below wr.heap.size wr W → Calls Tryz.prog 28 #[.agg #[.int .i64 x.id, .int .i64 x.n, .int .i64 x.vw, .bool x.ac, .slice a4 x.ss.length k4, .slice a5 x.cs.length k5, .slice a6 x.lg.length k6, .slice a7 x.ch.length k7]] W fun e w' => e = .returned (.bool (repB x)) ∧ Below W.heap.size W w') := fun W hW => specReplicaOK_any x _ _ _ _ W (rr.below hW) hzx
        have HNR : Hid (∀ _ : Unit, ¬ RsP g.n k x → bb = false) := fun _ hh => HN.out () fun hg => by
          have h1 := rsB_no HX.out hh
          rw [hg.2.2.2.2.1] at h1; cases h1
        have HY : Hid (RsP g.n k x → ∀ j s, j < k + 1 → g.rs[j]? = some s → RsP g.n j s) := fun hh => upto_succ HZ.out.1 HX.out hh
        have hp0 : (0 : Int) ≤ (k : Int) := by omega
        have hp1 : (k : Int) < (g.rs.length : Int) := by omega
        have hp2 : (k : Int) < g.n := by have := Ah2.out; omega
        clear hx hzx rr HZ
        go_upto_region 6 with fail
        obtain ⟨X, hX, W, QI0, QO0⟩ := Qc.klass wr
        have QI : Hid (∀ w', Below wr.heap.size wr w' → ∃ x, w' = W x) := QI0
        have QO : Hid (∀ x, Below wr.heap.size wr (W x)) := QO0
        clear QI0 QO0
        have q0 := Qc.cell_all QO.out c0
        have q1 := Qc.cell_all QO.out c1
        have q2 := Qc.cell_all QO.out c2
        have q3 := Qc.cell_all QO.out c3
        have q4 := Qc.cell_all QO.out c4
        have q5 := Qc.cell_all QO.out c5
        have q6 := Qc.cell_all QO.out c6
        have q7 := Qc.cell_all QO.out c7
        have q8 := Qc.cell_all QO.out g0
        have q9 := Qc.cell_all QO.out g2
        clear c0 c1 c2 c3 c4 c5 c6 c7 g0 g1 g2 g3 g4
        by_cases t0 : x.id = (k : Int)
        rotate_left
        · have e0 : (x.id != (k : Int)) = true := by simpa using t0
          have HF : Hid (bb = false) := HNR.out () fun hh => t0 hh.1
          clear t0
          refine Qc.region_class (W := W) (by kernel_rfl) (by kernel_rfl) (QI.out _ Qc.from_drew) ?_
          repeat (go_big_quiet_step (first | (go_at_call 28; refine (HRO.out _ (QO.out _)).mono ?_; rintro e w2 ⟨rfl, b2⟩; exact ⟨rfl, Qc.back QI.out QO.out b2⟩)))
          refine wpQuiet_nil ?_
          rintro _ ⟨xq, rfl⟩
          have G2 : Hid (Below w.heap.size w (W xq)) := G1.out.trans ((QO.out xq).mono G1.out.size)
          have F2 : Hid (Below wb.heap.size wb (W xq)) := F1.out.trans ((QO.out xq).mono F1.out.size)
          clear q0 q1 q2 q3 q4 q5 q6 q7 q8 q9
          generalize W xq = wq at G2 F2 ⊢
          go_wp2_with fail
          go_ret
          exact ⟨ret_b HF.out.symm, G2.out⟩
        have e0 : (x.id != (k : Int)) = false := by simpa using t0
        have Q0 : Hid (x.id = (k : Int)) := t0
        clear t0
        by_cases t1 : x.n = g.n
        rotate_left
        · have e1 : (x.n != g.n) = true := by simpa using t1
          have HF : Hid (bb = false) := HNR.out () fun hh => t1 hh.2.1
          clear t1
          refine Qc.region_class (W := W) (by kernel_rfl) (by kernel_rfl) (QI.out _ Qc.from_drew) ?_
          repeat (go_big_quiet_step (first | (go_at_call 28; refine (HRO.out _ (QO.out _)).mono ?_; rintro e w2 ⟨rfl, b2⟩; exact ⟨rfl, Qc.back QI.out QO.out b2⟩)))
          refine wpQuiet_nil ?_
          rintro _ ⟨xq, rfl⟩
          have G2 : Hid (Below w.heap.size w (W xq)) := G1.out.trans ((QO.out xq).mono G1.out.size)
          have F2 : Hid (Below wb.heap.size wb (W xq)) := F1.out.trans ((QO.out xq).mono F1.out.size)
          clear q0 q1 q2 q3 q4 q5 q6 q7 q8 q9
          generalize W xq = wq at G2 F2 ⊢
          go_wp2_with fail
          go_ret
          exact ⟨ret_b HF.out.symm, G2.out⟩
        have e1 : (x.n != g.n) = false := by simpa using t1
        have Q1 : Hid (x.n = g.n) := t1
        clear t1
        cases hs : repB x with
        | false =>
          have HF : Hid (bb = false) := HNR.out () fun hh => by have := hh.2.2; rw [hs] at this; cases this
          rw [hs] at HRO
          clear hs
          refine Qc.region_class (W := W) (by kernel_rfl) (by kernel_rfl) (QI.out _ Qc.from_drew) ?_
          repeat (go_big_quiet_step (first | (go_at_call 28; refine (HRO.out _ (QO.out _)).mono ?_; rintro e w2 ⟨rfl, b2⟩; exact ⟨rfl, Qc.back QI.out QO.out b2⟩)))
          refine wpQuiet_nil ?_
          rintro _ ⟨xq, rfl⟩
          have G2 : Hid (Below w.heap.size w (W xq)) := G1.out.trans ((QO.out xq).mono G1.out.size)
          have F2 : Hid (Below wb.heap.size wb (W xq)) := F1.out.trans ((QO.out xq).mono F1.out.size)
          clear q0 q1 q2 q3 q4 q5 q6 q7 q8 q9
          generalize W xq = wq at G2 F2 ⊢
          go_wp2_with fail
          go_ret
          exact ⟨ret_b HF.out.symm, G2.out⟩
        | true =>
          have HU : Hid (∀ j s, j < k + 1 → g.rs[j]? = some s → RsP g.n j s) := HY.out ⟨Q0.out, Q1.out, hs⟩
          rw [hs] at HRO
          clear hs
          refine Qc.region_class (W := W) (by kernel_rfl) (by kernel_rfl) (QI.out _ Qc.from_drew) ?_
          repeat (go_big_quiet_step (first | (go_at_call 28; refine (HRO.out _ (QO.out _)).mono ?_; rintro e w2 ⟨rfl, b2⟩; exact ⟨rfl, Qc.back QI.out QO.out b2⟩)))
          refine wpQuiet_nil ?_
          rintro _ ⟨xq, rfl⟩
          have G2 : Hid (Below w.heap.size w (W xq)) := G1.out.trans ((QO.out xq).mono G1.out.size)
          have F2 : Hid (Below wb.heap.size wb (W xq)) := F1.out.trans ((QO.out xq).mono F1.out.size)
          clear q0 q1 q2 q3 q4 q5 q6 q7 q8 q9
          generalize W xq = wq at G2 F2 ⊢
          go_wp2_with fail
          exact ⟨⟨k + 1, by omega, by go_num, ⟨HU.out, F2.out⟩⟩, by simp [intOf]; omega⟩
      · obtain rfl : k = g.rs.length := by omega
        have HRR : Hid (rsB g.n g.rs = true) := bOf_true HZ.out.1
        have hp2 : ¬ (g.rs.length : Int) < g.n := by have := Ah2.out; omega
        clear HZ
        go_wp2_with fail
        clear g0 g1 g2 g3 g4 hp2
        go_loopw [4] (fun i wr => ∃ k : Nat, k ≤ g.wi.length ∧ i = .int .i64 k ∧ Hid ((∀ j x, j < k → g.wi[j]? = some x → PcP g.n x) ∧ Below wb.heap.size wb wr)) (fun i _ => g.wi.length - (intOf i).toNat)
        case atStart => exact ⟨0, by omega, rfl, ⟨fun j x hj => by omega, F1.out⟩⟩
        case round =>
          clear F1 G1
          obtain ⟨k, hk, rfl, HZ⟩ := hrel
          obtain ⟨⟨g0, g1, g2, g3, g4⟩, RB⟩ := HP.out wr HZ.out.2
          have G1 : Hid (Below w.heap.size w wr) := RB
          have F1 : Hid (Below wb.heap.size wb wr) := HZ.out.2
          clear RB
          by_cases hlt : k < g.wi.length
          · obtain ⟨x, hx⟩ := Rg.get_at hlt
            obtain ⟨b, off, rfl, hbl, c0, c1, c2, c3, c4, c5, c6, c7⟩ := RowG.at (HR.out.p.below G1.out) rfl hx
            have HX : Hid (g.wi[k]? = some x) := hx
            have HIN : Hid (∀ W, Calls Tryz.prog 29 #[.int .i64 x.t, .int .i64 0, .int .i64 (g.n - 1)] W fun e w' => e = .returned (.bool (inB x.t 0 (g.n - 1))) ∧ W = w') := fun W => Qm.l01In_any x.t 0 (g.n - 1) W
            have HMS0 : ∀ W, Calls Tryz.prog 30 #[.int .i64 g.n, .agg #[.int .i64 x.m.kd, .int .i64 x.m.vw, .int .i64 x.m.sq, .int .i64 x.m.fr, .string x.m.dg, .string x.m.bd, .string x.m.mc]] W fun e w' => e = .returned (.bool (sg g.n x.m)) ∧ Below W.heap.size W w' := fun W => by
              rw [Vt.sg_eq HF0.out]
              exact Si.l06Signed_any g.n x.m.kd x.m.vw x.m.sq x.m.fr x.m.dg x.m.bd x.m.mc W
            have HMS : Hid (∀ W, Calls Tryz.prog 30 #[.int .i64 g.n, .agg #[.int .i64 x.m.kd, .int .i64 x.m.vw, .int .i64 x.m.sq, .int .i64 x.m.fr, .string x.m.dg, .string x.m.bd, .string x.m.mc]] W fun e w' => e = .returned (.bool (sg g.n x.m)) ∧ Below W.heap.size W w') := HMS0
            have HNW : Hid (∀ _ : Unit, ¬ PcP g.n x → bb = false) := fun _ hh => HN.out () fun hg => by
              have h1 := wiB_no HX.out hh
              rw [hg.2.2.2.2.2.1] at h1; cases h1
            have HY : Hid (PcP g.n x → ∀ j s, j < k + 1 → g.wi[j]? = some s → PcP g.n s) := fun hh => upto_succ (P := fun _ s => PcP g.n s) HZ.out.1 HX.out hh
            have hp0 : (0 : Int) ≤ (k : Int) := by omega
            have hp1 : (k : Int) < (g.wi.length : Int) := by omega
            have hw0 : IntKind.i64.wrap (g.n - 1) = g.n - 1 := by rw [IntKind.wrap_i64]; omega
            clear hx HMS0 HZ
            go_upto_region 11 with fail
            obtain ⟨X, hX, W, QI0, QO0⟩ := Qc.klass wr
            have QI : Hid (∀ w', Below wr.heap.size wr w' → ∃ x, w' = W x) := QI0
            have QO : Hid (∀ x, Below wr.heap.size wr (W x)) := QO0
            clear QI0 QO0
            have q0 := Qc.cell_all QO.out c0
            have q1 := Qc.cell_all QO.out c1
            have q2 := Qc.cell_all QO.out c2
            have q3 := Qc.cell_all QO.out c3
            have q4 := Qc.cell_all QO.out c4
            have q5 := Qc.cell_all QO.out c5
            have q6 := Qc.cell_all QO.out c6
            have q7 := Qc.cell_all QO.out c7
            have q8 := Qc.cell_all QO.out g0
            have q9 := Qc.cell_all QO.out g3
            clear c0 c1 c2 c3 c4 c5 c6 c7 g0 g1 g2 g3 g4
            cases hin : inB x.t 0 (g.n - 1) with
            | false =>
              have HF : Hid (bb = false) := HNW.out () fun hh => by have := inB_iff.2 hh.1; rw [hin] at this; cases this
              rw [hin] at HIN
              clear hin
              refine Qc.region_class (W := W) (by kernel_rfl) (by kernel_rfl) (QI.out _ Qc.from_drew) ?_
              repeat (go_big_quiet_step (first | (go_at_call 29; refine (HIN.out _).mono ?_; rintro e w2 ⟨rfl, rfl⟩; exact ⟨rfl, ⟨_, rfl⟩⟩) | (go_at_call 30; refine (HMS.out _).mono ?_; rintro e w2 ⟨rfl, b2⟩; exact ⟨rfl, Qc.back QI.out QO.out b2⟩)))
              refine wpQuiet_nil ?_
              rintro _ ⟨xq, rfl⟩
              have G2 : Hid (Below w.heap.size w (W xq)) := G1.out.trans ((QO.out xq).mono G1.out.size)
              have F2 : Hid (Below wb.heap.size wb (W xq)) := F1.out.trans ((QO.out xq).mono F1.out.size)
              clear q0 q1 q2 q3 q4 q5 q6 q7 q8 q9
              generalize W xq = wq at G2 F2 ⊢
              go_wp2_with fail
              go_ret
              exact ⟨ret_b HF.out.symm, G2.out⟩
            | true =>
              have HI1 : Hid (0 ≤ x.t ∧ x.t ≤ g.n - 1) := inB_iff.1 hin
              rw [hin] at HIN
              clear hin
              cases hs : sg g.n x.m with
              | false =>
                have HF : Hid (bb = false) := HNW.out () fun hh => by have := hh.2; rw [hs] at this; cases this
                rw [hs] at HMS
                clear hs
                refine Qc.region_class (W := W) (by kernel_rfl) (by kernel_rfl) (QI.out _ Qc.from_drew) ?_
                repeat (go_big_quiet_step (first | (go_at_call 29; refine (HIN.out _).mono ?_; rintro e w2 ⟨rfl, rfl⟩; exact ⟨rfl, ⟨_, rfl⟩⟩) | (go_at_call 30; refine (HMS.out _).mono ?_; rintro e w2 ⟨rfl, b2⟩; exact ⟨rfl, Qc.back QI.out QO.out b2⟩)))
                refine wpQuiet_nil ?_
                rintro _ ⟨xq, rfl⟩
                have G2 : Hid (Below w.heap.size w (W xq)) := G1.out.trans ((QO.out xq).mono G1.out.size)
                have F2 : Hid (Below wb.heap.size wb (W xq)) := F1.out.trans ((QO.out xq).mono F1.out.size)
                clear q0 q1 q2 q3 q4 q5 q6 q7 q8 q9
                generalize W xq = wq at G2 F2 ⊢
                go_wp2_with fail
                go_ret
                exact ⟨ret_b HF.out.symm, G2.out⟩
              | true =>
                have HU : Hid (∀ j s, j < k + 1 → g.wi[j]? = some s → PcP g.n s) := HY.out ⟨HI1.out, hs⟩
                rw [hs] at HMS
                clear hs
                refine Qc.region_class (W := W) (by kernel_rfl) (by kernel_rfl) (QI.out _ Qc.from_drew) ?_
                repeat (go_big_quiet_step (first | (go_at_call 29; refine (HIN.out _).mono ?_; rintro e w2 ⟨rfl, rfl⟩; exact ⟨rfl, ⟨_, rfl⟩⟩) | (go_at_call 30; refine (HMS.out _).mono ?_; rintro e w2 ⟨rfl, b2⟩; exact ⟨rfl, Qc.back QI.out QO.out b2⟩)))
                refine wpQuiet_nil ?_
                rintro _ ⟨xq, rfl⟩
                have G2 : Hid (Below w.heap.size w (W xq)) := G1.out.trans ((QO.out xq).mono G1.out.size)
                have F2 : Hid (Below wb.heap.size wb (W xq)) := F1.out.trans ((QO.out xq).mono F1.out.size)
                clear q0 q1 q2 q3 q4 q5 q6 q7 q8 q9
                generalize W xq = wq at G2 F2 ⊢
                go_wp2_with fail
                exact ⟨⟨k + 1, by omega, by go_num, ⟨HU.out, F2.out⟩⟩, by simp [intOf]; omega⟩
          · obtain rfl : k = g.wi.length := by omega
            have HWW : Hid (wiB g.n g.wi = true) := bOf_true (all_of HZ.out.1)
            clear HZ
            go_wp2_with fail
            clear g0 g1 g2 g3 g4
            go_loopw [5] (fun i wr => ∃ k : Nat, k ≤ g.se.length ∧ i = .int .i64 k ∧ Hid ((∀ j x, j < k → g.se[j]? = some x → sg g.n x = true) ∧ Below wb.heap.size wb wr)) (fun i _ => g.se.length - (intOf i).toNat)
            case atStart => exact ⟨0, by omega, rfl, ⟨fun j x hj => by omega, F1.out⟩⟩
            case round =>
              clear F1 G1
              obtain ⟨k, hk, rfl, HZ⟩ := hrel
              obtain ⟨⟨g0, g1, g2, g3, g4⟩, RB⟩ := HP.out wr HZ.out.2
              have G1 : Hid (Below w.heap.size w wr) := RB
              have F1 : Hid (Below wb.heap.size wb wr) := HZ.out.2
              clear RB
              by_cases hlt : k < g.se.length
              · obtain ⟨x, hx⟩ := Rg.get_at hlt
                obtain ⟨b, off, rfl, hbl, c0, c1, c2, c3, c4, c5, c6⟩ := RowG.at (HR.out.s.below G1.out) rfl hx
                have HX : Hid (g.se[k]? = some x) := hx
                have HMS0 : ∀ W, Calls Tryz.prog 30 #[.int .i64 g.n, .agg #[.int .i64 x.kd, .int .i64 x.vw, .int .i64 x.sq, .int .i64 x.fr, .string x.dg, .string x.bd, .string x.mc]] W fun e w' => e = .returned (.bool (sg g.n x)) ∧ Below W.heap.size W w' := fun W => by
                  rw [Vt.sg_eq HF0.out]
                  exact Si.l06Signed_any g.n x.kd x.vw x.sq x.fr x.dg x.bd x.mc W
                have HMS : Hid (∀ W, Calls Tryz.prog 30 #[.int .i64 g.n, .agg #[.int .i64 x.kd, .int .i64 x.vw, .int .i64 x.sq, .int .i64 x.fr, .string x.dg, .string x.bd, .string x.mc]] W fun e w' => e = .returned (.bool (sg g.n x)) ∧ Below W.heap.size W w') := HMS0
                have HNS : Hid (∀ _ : Unit, ¬ sg g.n x = true → bb = false) := fun _ hh => HN.out () fun hg => by
                  have h1 := seB_no HX.out hh
                  rw [hg.2.2.2.2.2.2] at h1; cases h1
                have HY : Hid (sg g.n x = true → ∀ j s, j < k + 1 → g.se[j]? = some s → sg g.n s = true) := fun hh => upto_succ (P := fun _ s => sg g.n s = true) HZ.out.1 HX.out hh
                have hp0 : (0 : Int) ≤ (k : Int) := by omega
                have hp1 : (k : Int) < (g.se.length : Int) := by omega
                clear hx HMS0 HZ
                go_upto_region 16 with fail
                obtain ⟨X, hX, W, QI0, QO0⟩ := Qc.klass wr
                have QI : Hid (∀ w', Below wr.heap.size wr w' → ∃ x, w' = W x) := QI0
                have QO : Hid (∀ x, Below wr.heap.size wr (W x)) := QO0
                clear QI0 QO0
                have q0 := Qc.cell_all QO.out c0
                have q1 := Qc.cell_all QO.out c1
                have q2 := Qc.cell_all QO.out c2
                have q3 := Qc.cell_all QO.out c3
                have q4 := Qc.cell_all QO.out c4
                have q5 := Qc.cell_all QO.out c5
                have q6 := Qc.cell_all QO.out c6
                have q7 := Qc.cell_all QO.out g4
                have q8 := Qc.cell_all QO.out g0
                have q9 := Qc.cell_all QO.out g0
                clear c0 c1 c2 c3 c4 c5 c6 g0 g1 g2 g3 g4
                cases hs : sg g.n x with
                | false =>
                  have HF : Hid (bb = false) := HNS.out () (by rw [hs]; simp)
                  rw [hs] at HMS
                  clear hs
                  refine Qc.region_class (W := W) (by kernel_rfl) (by kernel_rfl) (QI.out _ Qc.from_drew) ?_
                  repeat (go_big_quiet_step (first | (go_at_call 30; refine (HMS.out _).mono ?_; rintro e w2 ⟨rfl, b2⟩; exact ⟨rfl, Qc.back QI.out QO.out b2⟩)))
                  refine wpQuiet_nil ?_
                  rintro _ ⟨xq, rfl⟩
                  have G2 : Hid (Below w.heap.size w (W xq)) := G1.out.trans ((QO.out xq).mono G1.out.size)
                  have F2 : Hid (Below wb.heap.size wb (W xq)) := F1.out.trans ((QO.out xq).mono F1.out.size)
                  clear q0 q1 q2 q3 q4 q5 q6 q7 q8 q9
                  generalize W xq = wq at G2 F2 ⊢
                  go_wp2_with fail
                  go_ret
                  exact ⟨ret_b HF.out.symm, G2.out⟩
                | true =>
                  have HU : Hid (∀ j s, j < k + 1 → g.se[j]? = some s → sg g.n s = true) := HY.out hs
                  rw [hs] at HMS
                  clear hs
                  refine Qc.region_class (W := W) (by kernel_rfl) (by kernel_rfl) (QI.out _ Qc.from_drew) ?_
                  repeat (go_big_quiet_step (first | (go_at_call 30; refine (HMS.out _).mono ?_; rintro e w2 ⟨rfl, b2⟩; exact ⟨rfl, Qc.back QI.out QO.out b2⟩)))
                  refine wpQuiet_nil ?_
                  rintro _ ⟨xq, rfl⟩
                  have G2 : Hid (Below w.heap.size w (W xq)) := G1.out.trans ((QO.out xq).mono G1.out.size)
                  have F2 : Hid (Below wb.heap.size wb (W xq)) := F1.out.trans ((QO.out xq).mono F1.out.size)
                  clear q0 q1 q2 q3 q4 q5 q6 q7 q8 q9
                  generalize W xq = wq at G2 F2 ⊢
                  go_wp2_with fail
                  exact ⟨⟨k + 1, by omega, by go_num, ⟨HU.out, F2.out⟩⟩, by simp [intOf]; omega⟩
              · obtain rfl : k = g.se.length := by omega
                have HT : Hid (bb = true) := by show _ = _; rw [← HBB.out]; exact bOf_true ⟨Ah1.out, Ah2.out, h3, h4, HRR.out, HWW.out, bOf_true (all_of HZ.out.1)⟩
                go_wp2_with fail
                go_ret
                exact ⟨ret_b HT.out.symm, G1.out⟩
end Go.Proofs.YtondmbeccpekiaaGreatDoor.Zg
