/- The bytes of tables: the specification. -/
import Derived.Test.YtkjbdemhpnhagaaDoorPt2
import Derived.Deep.RegionHeldLaw
namespace Go.Proofs.YtkjbdemhpnhagaaDoor.Ps
open Go.RowKit Go.Proofs.YtkjbdemhpnhagaaDoor.Sl Go.Proofs.YtkjbdemhpnhagaaDoor.By Go.Proofs.YtkjbdemhpnhagaaDoor.Ap Go.Proofs.YtkjbdemhpnhagaaDoor.Tx Go.Proofs.YtkjbdemhpnhagaaDoor.Tb Go.Proofs.YtkjbdemhpnhagaaDoor.Tw Go.Proofs.YtkjbdemhpnhagaaDoor.Rq Go.Proofs.YtkjbdemhpnhagaaDoor.Tp Go.Proofs.YtkjbdemhpnhagaaDoor.Pu Go.Proofs.YtkjbdemhpnhagaaDoor.Pt

theorem kdrew {w w1 : World} {v v1 : Value} (h : Kp w w1 v v1) : Kp w w1.drew v v1 := ⟨h.os, h.tape, h.output, h.size, h.block, h.away⟩
theorem ble {B : Nat} {w w1 : World} {v v1 : Value} (hB : B ≤ w.heap.size) (h : Kp w w1 v v1) : B ≤ w1.heap.size := Nat.le_trans hB h.size
theorem num2 (x : Int) (w : World) : Calls Tryd.prog 26 #[.int .i64 x, .int .i64 2] w fun e w' => ∃ v', e = .returned v' ∧ OwnB 5 w' w.heap.size v' (nums x 2 2) ∧ Below w.heap.size w w' := l02Number_any x 2 w (by decide)
theorem num3 (x : Int) (w : World) : Calls Tryd.prog 26 #[.int .i64 x, .int .i64 3] w fun e w' => ∃ v', e = .returned v' ∧ OwnB 5 w' w.heap.size v' (nums x 3 3) ∧ Below w.heap.size w w' := l02Number_any x 3 w (by decide)
theorem num4 (x : Int) (w : World) : Calls Tryd.prog 26 #[.int .i64 x, .int .i64 4] w fun e w' => ∃ v', e = .returned v' ∧ OwnB 5 w' w.heap.size v' (nums x 4 4) ∧ Below w.heap.size w w' := l02Number_any x 4 w (by decide)
theorem first_num {e : TypeId} {wb w1 : World} {B : Nat} {v : Value} {xs : List Int} (hB : B = wb.heap.size) (b1 : Below wb.drew.heap.size wb.drew w1) (o1 : OwnB e w1 wb.drew.heap.size v xs) : Below B wb w1 ∧ OwnB e w1 B v xs := by
  subst hB
  exact ⟨(ordB rfl b1).1, o1⟩
theorem next_num {B : Nat} {wb w1 w2 : World} (h : Below B wb w1) (hB : B ≤ wb.heap.size) (b : Below w1.heap.size w1 w2) : Below B wb w2 := h.trans (b.mono (Nat.le_trans hB h.size))
theorem at_drew {wb : World} {B : Nat} : Below B wb wb.drew := (Below.refl _ _).drew
theorem call_all {e : TypeId} {B : Nat} {w0 X wn : World} {v0 v : Value} {zs : List Int} (bn : Below X.heap.size X wn) (o : OwnB e X B v zs) (k : Kp w0 X v0 v) : OwnB e wn B v zs ∧ Kp w0 wn v0 v ∧ ∀ g, v.ownBlock = some g → g < X.heap.size := ⟨own_below o bn, k.trans (Kp.of_below _ bn), own_lt o⟩
theorem one_num {x : Int} (h : 0 ≤ x ∧ x ≤ 255) : [x] = nums x 1 1 := by simp [nums, nb]; omega
theorem wrap1 (x : Int) : [IntKind.u8.wrap x] = nums x 1 1 := by simp [nums, nb, IntKind.wrap_u8]
set_option maxRecDepth 100000 in
set_option maxHeartbeats 6400000 in
theorem l05Bytes_any (tm nx : Int) (vl vs : Value) (ls : List Lk) (ss : List Sn) (w : World) (hl : RowL w vl ls) (hs : RowS w vs ss) (hbd : Bnd ls ss) :
    Calls Tryd.prog 13 #[tabV tm nx vl vs] w fun e w' => ∃ v, e = .returned v ∧ OwnB 5 w' w.heap.size v (tabBs tm nx ls ss) ∧ Below w.heap.size w w' := by
  obtain ⟨la, lc, rfl⟩ := RowG.slice hl
  obtain ⟨sa, sc, rfl⟩ := RowG.slice hs
  obtain ⟨i0, hi, hz0, hz1, hz2⟩ := info_parts Sl.info5
  have HBD : Hid (Bnd ls ss) := hbd
  have HX : Hid (∀ W, Below (w.alloc (.cells #[.int .i64 tm, .int .i64 nx, .slice la ls.length lc, .slice sa ss.length sc] 32)).heap.size (w.alloc (.cells #[.int .i64 tm, .int .i64 nx, .slice la ls.length lc, .slice sa ss.length sc] 32)) W → (W.cell? ⟨w.heap.size, 0, none⟩ = some (.int .i64 tm) ∧ W.cell? ⟨w.heap.size, 1, none⟩ = some (.int .i64 nx) ∧ W.cell? ⟨w.heap.size, 2, none⟩ = some (.slice la ls.length lc) ∧ W.cell? ⟨w.heap.size, 3, none⟩ = some (.slice sa ss.length sc)) ∧ RowLB (w.alloc (.cells #[.int .i64 tm, .int .i64 nx, .slice la ls.length lc, .slice sa ss.length sc] 32)).heap.size W (.slice la ls.length lc) ls ∧ RowSB (w.alloc (.cells #[.int .i64 tm, .int .i64 nx, .slice la ls.length lc, .slice sa ss.length sc] 32)).heap.size W (.slice sa ss.length sc) ss ∧ Below w.heap.size w W) := fun W hW => by
    have h1 := (hW.block w.heap.size (by simp)).trans (heap_alloc_new w _)
    exact ⟨⟨(blk_cell h1 0 rfl).1, (blk_cell h1 1 rfl).1, (blk_cell h1 2 rfl).1, (blk_cell h1 3 rfl).1⟩, (RowL.low (hl.below (bel_new _ _))).below hW, (RowS.low (hs.below (bel_new _ _))).below hW, (bel_new w _).trans (hW.mono (by simp))⟩
  have HSZ : Hid (w.heap.size ≤ (w.alloc (.cells #[.int .i64 tm, .int .i64 nx, .slice la ls.length lc, .slice sa ss.length sc] 32)).heap.size) := by show _ ≤ _; simp
  clear hl hs hbd
  unfold tabV
  go_enter Tryd.func13, Tryd.ntmps13
  go_upto_region 1 with fail
  generalize w.alloc (.cells #[.int .i64 tm, .int .i64 nx, .slice la ls.length lc, .slice sa ss.length sc] 32) = wb at HX HSZ ⊢
  obtain ⟨B, HB⟩ : ∃ B, Hid (B = wb.heap.size) := ⟨_, rfl⟩
  rw [← HB.out] at HX
  have HBL : Hid (B ≤ wb.heap.size) := Nat.le_of_eq HB.out
  go_cut [3] (fun s3 wx => OwnB 5 wx B s3 (nums tm 4 4 ++ nums nx 3 3) ∧ Below B wb wx)
  case first =>
    go_region_held_law (fun W => W.cell? ⟨w.heap.size, 0, none⟩ = some (.int .i64 tm) ∧ W.cell? ⟨w.heap.size, 1, none⟩ = some (.int .i64 nx) ∧ W.cell? ⟨w.heap.size, 2, none⟩ = some (.slice la ls.length lc) ∧ W.cell? ⟨w.heap.size, 3, none⟩ = some (.slice sa ss.length sc)) (first | exact (HX.out _ at_drew).1 | exact (HX.out _ q1.out).1 | exact (HX.out _ q2.out).1 | exact (HX.out _ q3.out).1)
      (first
        | (go_simp; go_at_call 26; (with_reducible refine (num4 tm _).mono ?_); rintro e w1 ⟨v1, rfl, o1, b1⟩; obtain ⟨q1x, p1⟩ := first_num HB.out b1 o1; have q1 : Hid (Below B wb w1) := q1x; clear o1 b1 q1x; try go_simp)
        | (go_simp; go_at_call 26; (with_reducible refine (num3 nx _).mono ?_); rintro e w2 ⟨v2, rfl, o2, b2⟩; have q2x := next_num q1.out HBL.out b2; have q2 : Hid (Below B wb w2) := q2x; clear q2x; have p2 := own_below p1 b2; have r2 := own_rowB o2 (nums_range _ _ _); clear o2 b2; try go_simp)
        | (refine step_row (by rfl) _ _ 40 (by rfl) Tryd.underlying40 hi hz0 hz1 hz2 B _ _ _ _ _ (by rfl) (by rfl) p2 (Nat.le_trans HBL.out q2.out.size) r2 (by simp only [nums_length]; decide) ?_; intro v3 w3 o3 k3; have q3x := q2.out.trans (k3.below p2 (Nat.le_trans HBL.out q2.out.size)); have q3 : Hid (Below B wb w3) := q3x; clear q3x; try go_simp))
    all_goals
      go_wp2_with fail
      go_meet
      exact ⟨o3, q3.out⟩
  case rest =>
  obtain ⟨o1, g1⟩ := hcut
  obtain ⟨wA, rfl⟩ : ∃ wA, wA = wc := ⟨_, rfl⟩
  have O1 : Hid (OwnB 5 wA B u3 (nums tm 4 4 ++ nums nx 3 3) ∧ Below B wb wA) := ⟨o1, g1⟩
  obtain ⟨⟨x0, x1, x2, x3⟩, _⟩ := HX.out _ g1
  clear o1 g1
  have hlr : (0 : Int) ≤ (ls.length : Int) ∧ (ls.length : Int) ≤ 255 := by have := HBD.out.1; omega
  go_wp2_with (at_builtin; go_must (refine list_one (by rfl) _ _ 40 (by rfl) Tryd.underlying40 hi hz0 hz1 hz2 B _ _ _ _ (by rfl) (by rfl) O1.out.1 (Nat.le_trans HBL.out O1.out.2.size) hlr (by simp only [List.length_append, nums_length]; decide) ?_; intro v2 w2 o2 k2))
  have B2 := O1.out.2.trans (k2.below O1.out.1 (Nat.le_trans HBL.out O1.out.2.size))
  obtain ⟨ys, HYS⟩ : ∃ ys, Hid (nums tm 4 4 ++ nums nx 3 3 ++ nums (ls.length : Int) 1 1 = ys) := ⟨_, rfl⟩
  have HYL : Hid (ys.length = 8) := by show _ = _; rw [← HYS.out]; simp only [List.length_append, nums_length]
  rw [one_num hlr, HYS.out] at o2
  have O2 : Hid (OwnB 5 w2 B v2 ys ∧ Below B wb w2) := ⟨o2, B2⟩
  clear o2 k2 B2 O1 hlr x0 x1 x2 x3
  have hl4 : ls.length ≤ 4 := HBD.out.1
  have hl6 : ss.length ≤ 6 := HBD.out.2.1
  obtain ⟨⟨x0, x1, x2, x3⟩, _⟩ := HX.out _ O2.out.2
  go_wp2_with fail
  clear x0 x1 x2 x3
  go_loopw [3, 4] (fun b i wr => ∃ k : Nat, k ≤ ls.length ∧ i = .int .i64 k ∧ Hid (OwnB 5 wr B b (ys ++ lsBs (ls.take k)) ∧ Below B wb wr)) (fun _ i _ => ls.length - (intOf i).toNat)
  case atStart => exact ⟨0, by omega, rfl, ⟨by simpa [lsBs] using O2.out.1, O2.out.2⟩⟩
  case round =>
    rename World => wk
    clear O2
    obtain ⟨k, hk, rfl, HO⟩ := hrel
    obtain ⟨v0, rfl⟩ : ∃ v0, v0 = u3 := ⟨_, rfl⟩
    obtain ⟨⟨x0, x1, x2, x3⟩, hrl, _, _⟩ := HX.out _ HO.out.2
    by_cases hlt : k < ls.length
    · obtain ⟨x, hx⟩ := Tw.get_at hlt
      obtain ⟨b, off, rfl, hbl, hbB, u, c0, c1, c2, c3, c4, c5⟩ := RowG.at hrl rfl hx
      obtain ⟨ua, uc, rfl⟩ := RowG.slice c5
      have HT : Hid (lsBs (ls.take (k + 1)) = lsBs (ls.take k) ++ lkBs x) := take_bs lkBs hx
      have HXB : Hid (x.n.size ≤ 12 ∧ x.ws.length ≤ 4) := ⟨(HBD.out.2.2.1 x (mem_at hx)).1, (HBD.out.2.2.1 x (mem_at hx)).2.1⟩
      have hh1 := (HBD.out.2.2.1 x (mem_at hx)).2.2
      have hwr : IntKind.i64.wrap (x.h + 1) = x.h + 1 := by rw [IntKind.wrap_i64]; omega
      obtain ⟨zs, HZS⟩ : ∃ zs, Hid (ys ++ lsBs (ls.take k) = zs) := ⟨_, rfl⟩
      have HLN : Hid (zs.length ≤ 1000) := by
        show _ ≤ _
        have h1 := lsBs_le (ls.take k) (take_le (fun x hx => ⟨(HBD.out.2.2.1 x hx).1, (HBD.out.2.2.1 x hx).2.1⟩) k)
        have h2 := HBD.out.1
        rw [← HZS.out, List.length_append, HYL.out]
        rw [List.length_take] at h1
        omega
      rw [HZS.out] at HO
      obtain ⟨bx, HBX⟩ : ∃ bx, Hid (wk.heap.size = bx) := ⟨_, rfl⟩
      have O0 : Hid (OwnB 5 (wk.alloc (.cells #[.string x.n, .int .i64 x.t, .int .i64 x.h, .int .i64 x.e, .slice ua x.ws.length uc] 56)) B v0 zs ∧ B ≤ (wk.alloc (.cells #[.string x.n, .int .i64 x.t, .int .i64 x.h, .int .i64 x.e, .slice ua x.ws.length uc] 56)).heap.size) := ⟨own_alloc HO.out.1 _, Nat.le_trans (Nat.le_trans HBL.out HO.out.2.size) (by simp)⟩
      have HL : Hid (∀ W v', Kp (wk.alloc (.cells #[.string x.n, .int .i64 x.t, .int .i64 x.h, .int .i64 x.e, .slice ua x.ws.length uc] 56)) W v0 v' → (W.cell? ⟨bx, 0, none⟩ = some (.string x.n) ∧ W.cell? ⟨bx, 1, none⟩ = some (.int .i64 x.t) ∧ W.cell? ⟨bx, 2, none⟩ = some (.int .i64 x.h) ∧ W.cell? ⟨bx, 3, none⟩ = some (.int .i64 x.e) ∧ W.cell? ⟨bx, 4, none⟩ = some (.slice ua x.ws.length uc)) ∧ W.cell? ⟨w.heap.size, 2, none⟩ = some (.slice (some ⟨b, off, none⟩) ls.length lc) ∧ RowWB B W (.slice ua x.ws.length uc) x.ws ∧ Below B wb W) := fun W v' h => by
        have h1 := box_kept h (own_away HO.out.1)
        rw [HBX.out] at h1
        have h2 := h.below O0.out.1 O0.out.2
        have h3 : Below B wk (wk.alloc (.cells #[.string x.n, .int .i64 x.t, .int .i64 x.h, .int .i64 x.e, .slice ua x.ws.length uc] 56)) := (bel_new wk _).mono (Nat.le_trans HBL.out HO.out.2.size)
        have h4 := HO.out.2.trans (h3.trans h2)
        exact ⟨⟨(blk_cell h1 0 rfl).1, (blk_cell h1 1 rfl).1, (blk_cell h1 2 rfl).1, (blk_cell h1 3 rfl).1, (blk_cell h1 4 rfl).1⟩, (HX.out W h4).1.2.2.1, RowWB.below (RowWB.below c5 h3) h2, h4⟩
      clear hx c5 hrl HO
      go_upto_region 7 with fail
      clear c0 c1 c2 c3 c4 x0 x1 x2 x3
      generalize wk.alloc (.cells #[.string x.n, .int .i64 x.t, .int .i64 x.h, .int .i64 x.e, .slice ua x.ws.length uc] 56) = w0 at HL O0 ⊢
      rw [HBX.out]
      have HB0 : Hid (B ≤ w0.heap.size) := O0.out.2
      go_cut [3, 5] (fun s3 s5 wx => s5 = .pointer (some ⟨bx, 0, none⟩) ∧ OwnB 5 wx B s3 (zs ++ nums (x.n.size : Int) 1 1 ++ bys x.n) ∧ Kp w0 wx v0 s3)
      case first =>
        have o1 := O0.out.1
        have k1 := Kp.refl w0 v0
        go_region_held_law (fun W => W.cell? ⟨bx, 0, none⟩ = some (.string x.n) ∧ W.cell? ⟨bx, 1, none⟩ = some (.int .i64 x.t) ∧ W.cell? ⟨bx, 2, none⟩ = some (.int .i64 x.h) ∧ W.cell? ⟨bx, 3, none⟩ = some (.int .i64 x.e) ∧ W.cell? ⟨bx, 4, none⟩ = some (.slice ua x.ws.length uc)) (first | exact (HL.out _ _ (by first | assumption | exact kdrew (by assumption) | exact Kp.alloc (by assumption) _ | exact kdrew (Kp.alloc (by assumption) _) | exact Kp.alloc (kdrew (by assumption)) _)).1)
          (first
            | (refine step_row (by rfl) _ _ 40 (by rfl) Tryd.underlying40 hi hz0 hz1 hz2 B _ _ _ _ _ (by rfl) (by rfl) (by first | assumption | exact own_drew (by assumption) | exact own_alloc (by assumption) _ | exact own_drew (own_alloc (by assumption) _) | exact own_alloc (own_drew (by assumption)) _) (ble HB0.out (by first | assumption | exact kdrew (by assumption) | exact Kp.alloc (by assumption) _ | exact kdrew (Kp.alloc (by assumption) _) | exact Kp.alloc (kdrew (by assumption)) _)) (by first | exact own_rowB fb (one_range (wrap_range _)) | exact own_rowB (own_one 5 _ _ _ (Nat.le_refl _)) (one_range (wrap_range _)) | exact rowB_drew (own_rowB (own_one 5 _ _ _ (Nat.le_refl _)) (one_range (wrap_range _))) | exact own_rowB (own_drew (own_one 5 _ _ _ (Nat.le_refl _))) (one_range (wrap_range _))) (by have := HLN.out; have := HXB.out; first | (simp; omega) | (simp [nums_length]; omega)) ?_; intro v8 w8 o8 k8x; have k8 := Kp.trans (by first | assumption | exact kdrew (by assumption) | exact Kp.alloc (by assumption) _ | exact kdrew (Kp.alloc (by assumption) _) | exact Kp.alloc (kdrew (by assumption)) _) k8x; try go_simp)
            | (refine step_str (by rfl) _ _ 40 9 (by rfl) Tryd.underlying40 Tryd.underlying9 hi hz0 hz1 hz2 B _ _ x.n _ (by rfl) (by rfl) (by first | assumption | exact own_drew (by assumption) | exact own_alloc (by assumption) _ | exact own_drew (own_alloc (by assumption) _) | exact own_alloc (own_drew (by assumption)) _) (ble HB0.out (by first | assumption | exact kdrew (by assumption) | exact Kp.alloc (by assumption) _ | exact kdrew (Kp.alloc (by assumption) _) | exact Kp.alloc (kdrew (by assumption)) _)) (by have := HLN.out; have := HXB.out; first | (simp; omega) | (simp [nums_length]; omega)) ?_; intro v9 w9 o9 k9x; have k9 := Kp.trans (by first | assumption | exact kdrew (by assumption) | exact Kp.alloc (by assumption) _ | exact kdrew (Kp.alloc (by assumption) _) | exact Kp.alloc (kdrew (by assumption)) _) k9x; try go_simp))
        all_goals
          rw [wrap1] at o9
          go_wp2_with fail
          go_meet
          exact ⟨rfl, o9, k9⟩
      case rest =>
      obtain ⟨rfl, o1, k1⟩ := hcut
      obtain ⟨w1, rfl⟩ : ∃ w1, w1 = wc := ⟨_, rfl⟩
      obtain ⟨v1, rfl⟩ : ∃ v1, v1 = u3 := ⟨_, rfl⟩
      obtain ⟨z1, HZ1⟩ : ∃ z1, Hid (zs ++ nums (x.n.size : Int) 1 1 ++ bys x.n = z1) := ⟨_, rfl⟩
      rw [HZ1.out] at o1
      have HLN : Hid (z1.length ≤ 1100) := by show _ ≤ _; rw [← HZ1.out]; simp only [List.length_append, nums_length, bys_length]; have := HLN.out; have := HXB.out; omega
      go_upto_region 8 with fail
      go_cut [3, 5] (fun s3 s5 wx => s5 = .pointer (some ⟨bx, 0, none⟩) ∧ OwnB 5 wx B s3 (z1 ++ nums x.t 3 3 ++ nums (x.h + 1) 2 2) ∧ Kp w0 wx v0 s3)
      case first =>
        go_region_held_law (fun W => W.cell? ⟨bx, 0, none⟩ = some (.string x.n) ∧ W.cell? ⟨bx, 1, none⟩ = some (.int .i64 x.t) ∧ W.cell? ⟨bx, 2, none⟩ = some (.int .i64 x.h) ∧ W.cell? ⟨bx, 3, none⟩ = some (.int .i64 x.e) ∧ W.cell? ⟨bx, 4, none⟩ = some (.slice ua x.ws.length uc)) (first | exact (HL.out _ _ (by first | assumption | exact kdrew (by assumption) | exact Kp.alloc (by assumption) _ | exact kdrew (Kp.alloc (by assumption) _) | exact Kp.alloc (kdrew (by assumption)) _)).1)
          (first
            | (go_simp; go_at_call 26; (with_reducible refine (num3 (x.t) _).mono ?_); rintro e wn ⟨vnf1, rfl, f1, bn⟩; obtain ⟨on, kn, h1⟩ := call_all bn (by first | assumption | exact own_drew (by assumption) | exact own_alloc (by assumption) _ | exact own_drew (own_alloc (by assumption) _) | exact own_alloc (own_drew (by assumption)) _) (by first | assumption | exact kdrew (by assumption) | exact Kp.alloc (by assumption) _ | exact kdrew (Kp.alloc (by assumption) _) | exact Kp.alloc (kdrew (by assumption)) _); clear bn; try go_simp)
            | (go_simp; go_at_call 26; (with_reducible refine (num2 (x.h + 1) _).mono ?_); rintro e wn ⟨vnf2, rfl, f2, bn⟩; obtain ⟨on, kn, h2⟩ := call_all bn (by first | assumption | exact own_drew (by assumption) | exact own_alloc (by assumption) _ | exact own_drew (own_alloc (by assumption) _) | exact own_alloc (own_drew (by assumption)) _) (by first | assumption | exact kdrew (by assumption) | exact Kp.alloc (by assumption) _ | exact kdrew (Kp.alloc (by assumption) _) | exact Kp.alloc (kdrew (by assumption)) _); (first | (have f1 := own_below f1 bn) | skip); clear bn; try go_simp)
            | (refine step_row (by rfl) _ _ 40 (by rfl) Tryd.underlying40 hi hz0 hz1 hz2 B _ _ _ _ _ (by rfl) (by rfl) (by first | assumption | exact own_drew (by assumption) | exact own_alloc (by assumption) _ | exact own_drew (own_alloc (by assumption) _) | exact own_alloc (own_drew (by assumption)) _) (ble HB0.out (by first | assumption | exact kdrew (by assumption) | exact Kp.alloc (by assumption) _ | exact kdrew (Kp.alloc (by assumption) _) | exact Kp.alloc (kdrew (by assumption)) _)) (by first | exact own_rowB f1 (nums_range _ _ _) | exact own_rowB (own_alloc f1 _) (nums_range _ _ _)) (by have := HLN.out; have := HXB.out; first | (simp; omega) | (simp [nums_length]; omega)) ?_; intro v8 w8 o8 k8x; have k8 := Kp.trans (by first | assumption | exact kdrew (by assumption) | exact Kp.alloc (by assumption) _ | exact kdrew (Kp.alloc (by assumption) _) | exact Kp.alloc (kdrew (by assumption)) _) k8x; (first | (have f2 := own_kp f2 k8x h2) | (have f2 := own_kp (own_alloc f2 _) k8x h2) | skip); try go_simp)
            | (refine step_row (by rfl) _ _ 40 (by rfl) Tryd.underlying40 hi hz0 hz1 hz2 B _ _ _ _ _ (by rfl) (by rfl) (by first | assumption | exact own_drew (by assumption) | exact own_alloc (by assumption) _ | exact own_drew (own_alloc (by assumption) _) | exact own_alloc (own_drew (by assumption)) _) (ble HB0.out (by first | assumption | exact kdrew (by assumption) | exact Kp.alloc (by assumption) _ | exact kdrew (Kp.alloc (by assumption) _) | exact Kp.alloc (kdrew (by assumption)) _)) (by first | exact own_rowB f2 (nums_range _ _ _) | exact own_rowB (own_alloc f2 _) (nums_range _ _ _)) (by have := HLN.out; have := HXB.out; first | (simp; omega) | (simp [nums_length]; omega)) ?_; intro v9 w9 o9 k9x; have k9 := Kp.trans (by first | assumption | exact kdrew (by assumption) | exact Kp.alloc (by assumption) _ | exact kdrew (Kp.alloc (by assumption) _) | exact Kp.alloc (kdrew (by assumption)) _) k9x; try go_simp))
        all_goals
          go_wp2_with fail
          go_meet
          exact ⟨rfl, o9, k9⟩
      case rest =>
      clear o1 k1
      obtain ⟨rfl, o1, k1⟩ := hcut
      obtain ⟨w2, rfl⟩ : ∃ w2, w2 = wc := ⟨_, rfl⟩
      obtain ⟨v2, rfl⟩ : ∃ v2, v2 = u3 := ⟨_, rfl⟩
      obtain ⟨z2, HZ2⟩ : ∃ z2, Hid (z1 ++ nums x.t 3 3 ++ nums (x.h + 1) 2 2 = z2) := ⟨_, rfl⟩
      rw [HZ2.out] at o1
      have HLN : Hid (z2.length ≤ 1200) := by show _ ≤ _; rw [← HZ2.out]; simp only [List.length_append, nums_length]; have := HLN.out; omega
      go_upto_region 9 with fail
      go_cut [3, 5] (fun s3 s5 wx => s5 = .pointer (some ⟨bx, 0, none⟩) ∧ OwnB 5 wx B s3 (z2 ++ nums x.e 4 4 ++ nums (x.ws.length : Int) 1 1) ∧ Kp w0 wx v0 s3)
      case first =>
        go_region_held_law (fun W => W.cell? ⟨bx, 0, none⟩ = some (.string x.n) ∧ W.cell? ⟨bx, 1, none⟩ = some (.int .i64 x.t) ∧ W.cell? ⟨bx, 2, none⟩ = some (.int .i64 x.h) ∧ W.cell? ⟨bx, 3, none⟩ = some (.int .i64 x.e) ∧ W.cell? ⟨bx, 4, none⟩ = some (.slice ua x.ws.length uc)) (first | exact (HL.out _ _ (by first | assumption | exact kdrew (by assumption) | exact Kp.alloc (by assumption) _ | exact kdrew (Kp.alloc (by assumption) _) | exact Kp.alloc (kdrew (by assumption)) _)).1)
          (first
            | (go_simp; go_at_call 26; (with_reducible refine (num4 (x.e) _).mono ?_); rintro e wn ⟨vnf1, rfl, f1, bn⟩; obtain ⟨on, kn, h1⟩ := call_all bn (by first | assumption | exact own_drew (by assumption) | exact own_alloc (by assumption) _ | exact own_drew (own_alloc (by assumption) _) | exact own_alloc (own_drew (by assumption)) _) (by first | assumption | exact kdrew (by assumption) | exact Kp.alloc (by assumption) _ | exact kdrew (Kp.alloc (by assumption) _) | exact Kp.alloc (kdrew (by assumption)) _); (first | (have fb := own_below (own_one 5 _ _ _ (Nat.le_refl _)) bn; have hb := own_lt o1) | (have fb := own_below (own_drew (own_one 5 _ _ _ (Nat.le_refl _))) bn; have hb := own_lt o1) | skip); clear bn; try go_simp)
            | (refine step_row (by rfl) _ _ 40 (by rfl) Tryd.underlying40 hi hz0 hz1 hz2 B _ _ _ _ _ (by rfl) (by rfl) (by first | assumption | exact own_drew (by assumption) | exact own_alloc (by assumption) _ | exact own_drew (own_alloc (by assumption) _) | exact own_alloc (own_drew (by assumption)) _) (ble HB0.out (by first | assumption | exact kdrew (by assumption) | exact Kp.alloc (by assumption) _ | exact kdrew (Kp.alloc (by assumption) _) | exact Kp.alloc (kdrew (by assumption)) _)) (by first | exact own_rowB f1 (nums_range _ _ _) | exact own_rowB (own_alloc f1 _) (nums_range _ _ _)) (by have := HLN.out; have := HXB.out; first | (simp; omega) | (simp [nums_length]; omega)) ?_; intro v8 w8 o8 k8x; have k8 := Kp.trans (by first | assumption | exact kdrew (by assumption) | exact Kp.alloc (by assumption) _ | exact kdrew (Kp.alloc (by assumption) _) | exact Kp.alloc (kdrew (by assumption)) _) k8x; (first | (have fb := own_kp fb k8x hb) | (have fb := own_kp (own_one 5 _ _ _ (Nat.le_refl _)) k8x (own_lt (by first | assumption | exact own_drew (by assumption) | exact own_alloc (by assumption) _ | exact own_drew (own_alloc (by assumption) _) | exact own_alloc (own_drew (by assumption)) _))) | skip); try go_simp)
            | (refine step_row (by rfl) _ _ 40 (by rfl) Tryd.underlying40 hi hz0 hz1 hz2 B _ _ _ _ _ (by rfl) (by rfl) (by first | assumption | exact own_drew (by assumption) | exact own_alloc (by assumption) _ | exact own_drew (own_alloc (by assumption) _) | exact own_alloc (own_drew (by assumption)) _) (ble HB0.out (by first | assumption | exact kdrew (by assumption) | exact Kp.alloc (by assumption) _ | exact kdrew (Kp.alloc (by assumption) _) | exact Kp.alloc (kdrew (by assumption)) _)) (by first | exact own_rowB fb (one_range (wrap_range _)) | exact own_rowB (own_one 5 _ _ _ (Nat.le_refl _)) (one_range (wrap_range _)) | exact rowB_drew (own_rowB (own_one 5 _ _ _ (Nat.le_refl _)) (one_range (wrap_range _))) | exact own_rowB (own_drew (own_one 5 _ _ _ (Nat.le_refl _))) (one_range (wrap_range _))) (by have := HLN.out; have := HXB.out; first | (simp; omega) | (simp [nums_length]; omega)) ?_; intro v9 w9 o9 k9x; have k9 := Kp.trans (by first | assumption | exact kdrew (by assumption) | exact Kp.alloc (by assumption) _ | exact kdrew (Kp.alloc (by assumption) _) | exact Kp.alloc (kdrew (by assumption)) _) k9x; try go_simp))
        all_goals
          rw [wrap1] at o9
          go_wp2_with fail
          go_meet
          exact ⟨rfl, o9, k9⟩
      case rest =>
      clear o1 k1
      obtain ⟨rfl, o1, k1⟩ := hcut
      obtain ⟨w3, rfl⟩ : ∃ w3, w3 = wc := ⟨_, rfl⟩
      obtain ⟨v3, rfl⟩ : ∃ v3, v3 = u3 := ⟨_, rfl⟩
      obtain ⟨z3, HZ3⟩ : ∃ z3, Hid (z2 ++ nums x.e 4 4 ++ nums (x.ws.length : Int) 1 1 = z3) := ⟨_, rfl⟩
      rw [HZ3.out] at o1
      have HLN : Hid (z3.length ≤ 1300) := by show _ ≤ _; rw [← HZ3.out]; simp only [List.length_append, nums_length]; have := HLN.out; omega
      have hw4 : x.ws.length ≤ 4 := HXB.out.2
      have HO3 : Hid (OwnB 5 w3 B v3 z3 ∧ Kp w0 w3 v0 v3) := ⟨o1, k1⟩
      obtain ⟨⟨q0, q1, q2, q3, q4⟩, _⟩ := HL.out _ _ k1
      clear o1 k1 O0
      go_wp2_with fail
      clear q0 q1 q2 q3 q4
      go_loopw [3, 6] (fun b i wr => ∃ m : Nat, m ≤ x.ws.length ∧ i = .int .i64 m ∧ Hid (OwnB 5 wr B b (z3 ++ wsBs (x.ws.take m)) ∧ Kp w0 wr v0 b)) (fun _ i _ => x.ws.length - (intOf i).toNat)
      case atStart => exact ⟨0, by omega, rfl, ⟨by simpa [wsBs] using HO3.out.1, HO3.out.2⟩⟩
      case round =>
        rename World => wi
        clear HO3
        obtain ⟨m, hm, rfl, HM⟩ := hrel
        obtain ⟨v4, rfl⟩ : ∃ v4, v4 = u3 := ⟨_, rfl⟩
        obtain ⟨⟨q0, q1, q2, q3, q4⟩, q5, hrw, _⟩ := HL.out _ _ HM.out.2
        by_cases hlt2 : m < x.ws.length
        · obtain ⟨z, hz⟩ := Tw.get_at hlt2
          obtain ⟨b2, off2, rfl, _, hb2, _, _⟩ := RowG.at hrw rfl hz
          have HT2 : Hid (wsBs (x.ws.take (m + 1)) = wsBs (x.ws.take m) ++ wtBs z) := take_bs wtBs hz
          have HL2 : Hid (∀ W v', Kp w0 W v0 v' → (W.cell? ⟨bx, 4, none⟩ = some (.slice (some ⟨b2, off2, none⟩) x.ws.length uc) ∧ W.cell? ⟨b2, off2 + m * 2, none⟩ = some (.int .i64 z.c) ∧ W.cell? ⟨b2, off2 + m * 2 + 1, none⟩ = some (.int .i64 z.l))) := fun W v' h => by
            obtain ⟨⟨_, _, _, _, p4⟩, _, pr, _⟩ := HL.out W v' h
            obtain ⟨b', off', e, _, _, d0, d1⟩ := RowG.at pr rfl hz
            cases e
            exact ⟨p4, d0, d1⟩
          obtain ⟨z4, HZ4⟩ : ∃ z4, Hid (z3 ++ wsBs (x.ws.take m) = z4) := ⟨_, rfl⟩
          have HLN : Hid (z4.length ≤ 1400) := by show _ ≤ _; rw [← HZ4.out, List.length_append, wsBs_len, List.length_take]; have := HLN.out; have := HXB.out; omega
          have o1 := HM.out.1
          have k1 := HM.out.2
          rw [HZ4.out] at o1
          have l1 : (0 : Int) ≤ (m : Int) := by omega
          have l2 : (m : Int) < (x.ws.length : Int) := by omega
          clear hz hrw q0 q1 q2 q3 HM
          go_upto_region 13 with fail
          clear q4 q5
          go_region_held_law (fun W => W.cell? ⟨bx, 4, none⟩ = some (.slice (some ⟨b2, off2, none⟩) x.ws.length uc) ∧ W.cell? ⟨b2, off2 + m * 2, none⟩ = some (.int .i64 z.c) ∧ W.cell? ⟨b2, off2 + m * 2 + 1, none⟩ = some (.int .i64 z.l)) (first | exact (HL2.out _ _ (by first | assumption | exact kdrew (by assumption) | exact Kp.alloc (by assumption) _ | exact kdrew (Kp.alloc (by assumption) _) | exact Kp.alloc (kdrew (by assumption)) _)))
            (first
              | (go_simp; go_at_call 26; (with_reducible refine (num2 (z.l) _).mono ?_); rintro e wn ⟨vnf1, rfl, f1, bn⟩; obtain ⟨on, kn, h1⟩ := call_all bn (by first | assumption | exact own_drew (by assumption) | exact own_alloc (by assumption) _ | exact own_drew (own_alloc (by assumption) _) | exact own_alloc (own_drew (by assumption)) _) (by first | assumption | exact kdrew (by assumption) | exact Kp.alloc (by assumption) _ | exact kdrew (Kp.alloc (by assumption) _) | exact Kp.alloc (kdrew (by assumption)) _); (first | (have fb := own_below (own_one 5 _ _ _ (Nat.le_refl _)) bn; have hb := own_lt o1) | (have fb := own_below (own_drew (own_one 5 _ _ _ (Nat.le_refl _))) bn; have hb := own_lt o1) | skip); clear bn; try go_simp)
              | (refine step_row (by rfl) _ _ 40 (by rfl) Tryd.underlying40 hi hz0 hz1 hz2 B _ _ _ _ _ (by rfl) (by rfl) (by first | assumption | exact own_drew (by assumption) | exact own_alloc (by assumption) _ | exact own_drew (own_alloc (by assumption) _) | exact own_alloc (own_drew (by assumption)) _) (ble HB0.out (by first | assumption | exact kdrew (by assumption) | exact Kp.alloc (by assumption) _ | exact kdrew (Kp.alloc (by assumption) _) | exact Kp.alloc (kdrew (by assumption)) _)) (by first | exact own_rowB fb (one_range (wrap_range _)) | exact own_rowB (own_one 5 _ _ _ (Nat.le_refl _)) (one_range (wrap_range _)) | exact rowB_drew (own_rowB (own_one 5 _ _ _ (Nat.le_refl _)) (one_range (wrap_range _))) | exact own_rowB (own_drew (own_one 5 _ _ _ (Nat.le_refl _))) (one_range (wrap_range _))) (by have := HLN.out; have := HXB.out; first | (simp; omega) | (simp [nums_length]; omega)) ?_; intro v8 w8 o8 k8x; have k8 := Kp.trans (by first | assumption | exact kdrew (by assumption) | exact Kp.alloc (by assumption) _ | exact kdrew (Kp.alloc (by assumption) _) | exact Kp.alloc (kdrew (by assumption)) _) k8x; (first | (have f1 := own_kp f1 k8x h1) | (have f1 := own_kp (own_alloc f1 _) k8x h1) | skip); try go_simp)
              | (refine step_row (by rfl) _ _ 40 (by rfl) Tryd.underlying40 hi hz0 hz1 hz2 B _ _ _ _ _ (by rfl) (by rfl) (by first | assumption | exact own_drew (by assumption) | exact own_alloc (by assumption) _ | exact own_drew (own_alloc (by assumption) _) | exact own_alloc (own_drew (by assumption)) _) (ble HB0.out (by first | assumption | exact kdrew (by assumption) | exact Kp.alloc (by assumption) _ | exact kdrew (Kp.alloc (by assumption) _) | exact Kp.alloc (kdrew (by assumption)) _)) (by first | exact own_rowB f1 (nums_range _ _ _) | exact own_rowB (own_alloc f1 _) (nums_range _ _ _)) (by have := HLN.out; have := HXB.out; first | (simp; omega) | (simp [nums_length]; omega)) ?_; intro v9 w9 o9 k9x; have k9 := Kp.trans (by first | assumption | exact kdrew (by assumption) | exact Kp.alloc (by assumption) _ | exact kdrew (Kp.alloc (by assumption) _) | exact Kp.alloc (kdrew (by assumption)) _) k9x; try go_simp))
          all_goals
            rw [wrap1] at o9
            have O9 : Hid (OwnB 5 w9 B v9 (z3 ++ wsBs (x.ws.take (m + 1))) ∧ Kp w0 w9 v0 v9) := ⟨by rw [HT2.out, ← List.append_assoc, HZ4.out]; unfold wtBs; rw [← List.append_assoc]; exact o9, k9⟩
            clear o9 k9
            go_wp2_with fail
            first
              | exact ⟨⟨m + 1, by omega, by go_num, O9⟩, by simp [intOf]; omega⟩
              | (go_roundw
                 case rel => (repeat apply Exists.intro); exact ⟨⟨m + 1, by omega, by go_num, O9⟩, rfl⟩
                 case measure => simp [intOf]; omega)
        · obtain rfl : m = x.ws.length := by omega
          have HE : Hid (z3 ++ wsBs (x.ws.take x.ws.length) = ys ++ lsBs (ls.take (k + 1))) := by
            show _ = _
            rw [List.take_length, HT.out, ← HZ3.out, ← HZ2.out, ← HZ1.out, ← HZS.out]
            unfold lkBs
            simp [List.append_assoc]
          have HFO : Hid (OwnB 5 wi B v4 (ys ++ lsBs (ls.take (k + 1))) ∧ Below B wb wi) := ⟨by rw [← HE.out]; exact HM.out.1, (HL.out _ _ HM.out.2).2.2.2⟩
          clear hrw HM
          go_wp2_with fail
          first
            | exact ⟨⟨k + 1, by omega, by go_num, HFO⟩, by simp [intOf]; omega⟩
            | (go_roundw
               case rel => (repeat apply Exists.intro); exact ⟨⟨k + 1, by omega, by go_num, HFO⟩, rfl⟩
               case measure => simp [intOf]; omega)
    · obtain rfl : k = ls.length := by omega
      rw [List.take_length] at HO
      have HLN : Hid ((ys ++ lsBs ls).length ≤ 1000) := by
        show _ ≤ _
        have h1 := lsBs_le ls (fun x hx => ⟨(HBD.out.2.2.1 x hx).1, (HBD.out.2.2.1 x hx).2.1⟩)
        have h2 := HBD.out.1
        rw [List.length_append, HYL.out]
        omega
      have hsr : (0 : Int) ≤ (ss.length : Int) ∧ (ss.length : Int) ≤ 255 := by have := HBD.out.2.1; omega
      clear hrl
      go_wp2_with (at_builtin; go_must (refine list_one (by rfl) _ _ 40 (by rfl) Tryd.underlying40 hi hz0 hz1 hz2 B _ _ _ _ (by rfl) (by rfl) HO.out.1 (Nat.le_trans HBL.out HO.out.2.size) hsr (by have := HLN.out; omega) ?_; intro v5 w5 o5 k5))
      have B5 := HO.out.2.trans (k5.below HO.out.1 (Nat.le_trans HBL.out HO.out.2.size))
      obtain ⟨zt, HZT⟩ : ∃ zt, Hid (ys ++ lsBs ls ++ nums (ss.length : Int) 1 1 = zt) := ⟨_, rfl⟩
      have HZL : Hid (zt.length ≤ 1001) := by show _ ≤ _; rw [← HZT.out, List.length_append, nums_length]; have := HLN.out; omega
      rw [one_num hsr, HZT.out] at o5
      have O5 : Hid (OwnB 5 w5 B v5 zt ∧ Below B wb w5) := ⟨o5, B5⟩
      clear o5 k5 B5 HO hsr x0 x1 x2 x3 HLN
      obtain ⟨⟨x0, x1, x2, x3⟩, _⟩ := HX.out _ O5.out.2
      go_wp2_with fail
      clear x0 x1 x2 x3
      go_loopw [3, 7] (fun b i wr => ∃ k : Nat, k ≤ ss.length ∧ i = .int .i64 k ∧ Hid (OwnB 5 wr B b (zt ++ ssBs (ss.take k)) ∧ Below B wb wr)) (fun _ i _ => ss.length - (intOf i).toNat)
      case atStart => exact ⟨0, by omega, rfl, ⟨by simpa [ssBs] using O5.out.1, O5.out.2⟩⟩
      case round =>
        rename World => wi
        clear O5
        obtain ⟨k, hk, rfl, HO⟩ := hrel
        obtain ⟨v0, rfl⟩ : ∃ v0, v0 = u3 := ⟨_, rfl⟩
        obtain ⟨⟨x0, x1, x2, x3⟩, _, hrs, hbw⟩ := HX.out _ HO.out.2
        by_cases hlt : k < ss.length
        · obtain ⟨x, hx⟩ := Tw.get_at hlt
          obtain ⟨b, off, rfl, hbl, hbB, c0, c1, c2, c3, c4, c5⟩ := RowG.at hrs rfl hx
          have HT : Hid (ssBs (ss.take (k + 1)) = ssBs (ss.take k) ++ snBs x) := take_bs snBs hx
          have hh1 := HBD.out.2.2.2 x (mem_at hx)
          have hwr : IntKind.i64.wrap (x.h + 1) = x.h + 1 := by rw [IntKind.wrap_i64]; omega
          have HXB : Hid (True) := trivial
          obtain ⟨zs, HZS⟩ : ∃ zs, Hid (zt ++ ssBs (ss.take k) = zs) := ⟨_, rfl⟩
          have HLN : Hid (zs.length ≤ 1100) := by
            show _ ≤ _
            have h2 := HBD.out.2.1
            have h3 := HZL.out
            rw [← HZS.out, List.length_append, ssBs_len, List.length_take]
            omega
          rw [HZS.out] at HO
          obtain ⟨bx, HBX⟩ : ∃ bx, Hid (wi.heap.size = bx) := ⟨_, rfl⟩
          have O0 : Hid (OwnB 5 (wi.alloc (.cells #[.int .i64 x.c, .int .i64 x.s, .int .i64 x.k, .int .i64 x.t, .int .i64 x.h, .int .i64 x.e] 63)) B v0 zs ∧ B ≤ (wi.alloc (.cells #[.int .i64 x.c, .int .i64 x.s, .int .i64 x.k, .int .i64 x.t, .int .i64 x.h, .int .i64 x.e] 63)).heap.size) := ⟨own_alloc HO.out.1 _, Nat.le_trans (Nat.le_trans HBL.out HO.out.2.size) (by simp)⟩
          have HL : Hid (∀ W v', Kp (wi.alloc (.cells #[.int .i64 x.c, .int .i64 x.s, .int .i64 x.k, .int .i64 x.t, .int .i64 x.h, .int .i64 x.e] 63)) W v0 v' → (W.cell? ⟨bx, 0, none⟩ = some (.int .i64 x.c) ∧ W.cell? ⟨bx, 1, none⟩ = some (.int .i64 x.s) ∧ W.cell? ⟨bx, 2, none⟩ = some (.int .i64 x.k) ∧ W.cell? ⟨bx, 3, none⟩ = some (.int .i64 x.t) ∧ W.cell? ⟨bx, 4, none⟩ = some (.int .i64 x.h) ∧ W.cell? ⟨bx, 5, none⟩ = some (.int .i64 x.e)) ∧ Below B wb W) := fun W v' h => by
            have h1 := box_kept h (own_away HO.out.1)
            rw [HBX.out] at h1
            have h2 := h.below O0.out.1 O0.out.2
            have h3 : Below B wi (wi.alloc (.cells #[.int .i64 x.c, .int .i64 x.s, .int .i64 x.k, .int .i64 x.t, .int .i64 x.h, .int .i64 x.e] 63)) := (bel_new wi _).mono (Nat.le_trans HBL.out HO.out.2.size)
            exact ⟨⟨(blk_cell h1 0 rfl).1, (blk_cell h1 1 rfl).1, (blk_cell h1 2 rfl).1, (blk_cell h1 3 rfl).1, (blk_cell h1 4 rfl).1, (blk_cell h1 5 rfl).1⟩, HO.out.2.trans (h3.trans h2)⟩
          clear hx hrs hbw HO
          go_upto_region 19 with fail
          clear c0 c1 c2 c3 c4 c5 x0 x1 x2 x3
          generalize wi.alloc (.cells #[.int .i64 x.c, .int .i64 x.s, .int .i64 x.k, .int .i64 x.t, .int .i64 x.h, .int .i64 x.e] 63) = w0 at HL O0 ⊢
          rw [HBX.out]
          have HB0 : Hid (B ≤ w0.heap.size) := O0.out.2
          go_cut [3, 8] (fun s3 s8 wx => s8 = .pointer (some ⟨bx, 0, none⟩) ∧ OwnB 5 wx B s3 (zs ++ nums x.c 1 1 ++ nums x.s 2 2) ∧ Kp w0 wx v0 s3)
          case first =>
            have o1 := O0.out.1
            have k1 := Kp.refl w0 v0
            go_region_held_law (fun W => W.cell? ⟨bx, 0, none⟩ = some (.int .i64 x.c) ∧ W.cell? ⟨bx, 1, none⟩ = some (.int .i64 x.s) ∧ W.cell? ⟨bx, 2, none⟩ = some (.int .i64 x.k) ∧ W.cell? ⟨bx, 3, none⟩ = some (.int .i64 x.t) ∧ W.cell? ⟨bx, 4, none⟩ = some (.int .i64 x.h) ∧ W.cell? ⟨bx, 5, none⟩ = some (.int .i64 x.e)) (first | exact (HL.out _ _ (by first | assumption | exact kdrew (by assumption) | exact Kp.alloc (by assumption) _ | exact kdrew (Kp.alloc (by assumption) _) | exact Kp.alloc (kdrew (by assumption)) _)).1)
              (first
                | (go_simp; go_at_call 26; (with_reducible refine (num2 (x.s) _).mono ?_); rintro e wn ⟨vnf1, rfl, f1, bn⟩; obtain ⟨on, kn, h1⟩ := call_all bn (by first | assumption | exact own_drew (by assumption) | exact own_alloc (by assumption) _ | exact own_drew (own_alloc (by assumption) _) | exact own_alloc (own_drew (by assumption)) _) (by first | assumption | exact kdrew (by assumption) | exact Kp.alloc (by assumption) _ | exact kdrew (Kp.alloc (by assumption) _) | exact Kp.alloc (kdrew (by assumption)) _); (first | (have fb := own_below (own_one 5 _ _ _ (Nat.le_refl _)) bn; have hb := own_lt o1) | (have fb := own_below (own_drew (own_one 5 _ _ _ (Nat.le_refl _))) bn; have hb := own_lt o1) | skip); clear bn; try go_simp)
                | (refine step_row (by rfl) _ _ 40 (by rfl) Tryd.underlying40 hi hz0 hz1 hz2 B _ _ _ _ _ (by rfl) (by rfl) (by first | assumption | exact own_drew (by assumption) | exact own_alloc (by assumption) _ | exact own_drew (own_alloc (by assumption) _) | exact own_alloc (own_drew (by assumption)) _) (ble HB0.out (by first | assumption | exact kdrew (by assumption) | exact Kp.alloc (by assumption) _ | exact kdrew (Kp.alloc (by assumption) _) | exact Kp.alloc (kdrew (by assumption)) _)) (by first | exact own_rowB fb (one_range (wrap_range _)) | exact own_rowB (own_one 5 _ _ _ (Nat.le_refl _)) (one_range (wrap_range _)) | exact rowB_drew (own_rowB (own_one 5 _ _ _ (Nat.le_refl _)) (one_range (wrap_range _))) | exact own_rowB (own_drew (own_one 5 _ _ _ (Nat.le_refl _))) (one_range (wrap_range _))) (by have := HLN.out; have := HXB.out; first | (simp; omega) | (simp [nums_length]; omega)) ?_; intro v8 w8 o8 k8x; have k8 := Kp.trans (by first | assumption | exact kdrew (by assumption) | exact Kp.alloc (by assumption) _ | exact kdrew (Kp.alloc (by assumption) _) | exact Kp.alloc (kdrew (by assumption)) _) k8x; (first | (have f1 := own_kp f1 k8x h1) | (have f1 := own_kp (own_alloc f1 _) k8x h1) | skip); try go_simp)
                | (refine step_row (by rfl) _ _ 40 (by rfl) Tryd.underlying40 hi hz0 hz1 hz2 B _ _ _ _ _ (by rfl) (by rfl) (by first | assumption | exact own_drew (by assumption) | exact own_alloc (by assumption) _ | exact own_drew (own_alloc (by assumption) _) | exact own_alloc (own_drew (by assumption)) _) (ble HB0.out (by first | assumption | exact kdrew (by assumption) | exact Kp.alloc (by assumption) _ | exact kdrew (Kp.alloc (by assumption) _) | exact Kp.alloc (kdrew (by assumption)) _)) (by first | exact own_rowB f1 (nums_range _ _ _) | exact own_rowB (own_alloc f1 _) (nums_range _ _ _)) (by have := HLN.out; have := HXB.out; first | (simp; omega) | (simp [nums_length]; omega)) ?_; intro v9 w9 o9 k9x; have k9 := Kp.trans (by first | assumption | exact kdrew (by assumption) | exact Kp.alloc (by assumption) _ | exact kdrew (Kp.alloc (by assumption) _) | exact Kp.alloc (kdrew (by assumption)) _) k9x; try go_simp))
            all_goals
              rw [wrap1] at o9
              go_wp2_with fail
              go_meet
              exact ⟨rfl, o9, k9⟩
          case rest =>
          obtain ⟨rfl, o1, k1⟩ := hcut
          obtain ⟨w1, rfl⟩ : ∃ w1, w1 = wc := ⟨_, rfl⟩
          obtain ⟨v1, rfl⟩ : ∃ v1, v1 = u3 := ⟨_, rfl⟩
          obtain ⟨z1, HZ1⟩ : ∃ z1, Hid (zs ++ nums x.c 1 1 ++ nums x.s 2 2 = z1) := ⟨_, rfl⟩
          rw [HZ1.out] at o1
          have HLN : Hid (z1.length ≤ 1200) := by show _ ≤ _; rw [← HZ1.out]; simp only [List.length_append, nums_length]; have := HLN.out; omega
          go_upto_region 20 with fail
          go_cut [3, 8] (fun s3 s8 wx => s8 = .pointer (some ⟨bx, 0, none⟩) ∧ OwnB 5 wx B s3 (z1 ++ nums x.k 1 1 ++ nums x.t 3 3) ∧ Kp w0 wx v0 s3)
          case first =>
            go_region_held_law (fun W => W.cell? ⟨bx, 0, none⟩ = some (.int .i64 x.c) ∧ W.cell? ⟨bx, 1, none⟩ = some (.int .i64 x.s) ∧ W.cell? ⟨bx, 2, none⟩ = some (.int .i64 x.k) ∧ W.cell? ⟨bx, 3, none⟩ = some (.int .i64 x.t) ∧ W.cell? ⟨bx, 4, none⟩ = some (.int .i64 x.h) ∧ W.cell? ⟨bx, 5, none⟩ = some (.int .i64 x.e)) (first | exact (HL.out _ _ (by first | assumption | exact kdrew (by assumption) | exact Kp.alloc (by assumption) _ | exact kdrew (Kp.alloc (by assumption) _) | exact Kp.alloc (kdrew (by assumption)) _)).1)
              (first
                | (go_simp; go_at_call 26; (with_reducible refine (num3 (x.t) _).mono ?_); rintro e wn ⟨vnf1, rfl, f1, bn⟩; obtain ⟨on, kn, h1⟩ := call_all bn (by first | assumption | exact own_drew (by assumption) | exact own_alloc (by assumption) _ | exact own_drew (own_alloc (by assumption) _) | exact own_alloc (own_drew (by assumption)) _) (by first | assumption | exact kdrew (by assumption) | exact Kp.alloc (by assumption) _ | exact kdrew (Kp.alloc (by assumption) _) | exact Kp.alloc (kdrew (by assumption)) _); (first | (have fb := own_below (own_one 5 _ _ _ (Nat.le_refl _)) bn; have hb := own_lt o1) | (have fb := own_below (own_drew (own_one 5 _ _ _ (Nat.le_refl _))) bn; have hb := own_lt o1) | skip); clear bn; try go_simp)
                | (refine step_row (by rfl) _ _ 40 (by rfl) Tryd.underlying40 hi hz0 hz1 hz2 B _ _ _ _ _ (by rfl) (by rfl) (by first | assumption | exact own_drew (by assumption) | exact own_alloc (by assumption) _ | exact own_drew (own_alloc (by assumption) _) | exact own_alloc (own_drew (by assumption)) _) (ble HB0.out (by first | assumption | exact kdrew (by assumption) | exact Kp.alloc (by assumption) _ | exact kdrew (Kp.alloc (by assumption) _) | exact Kp.alloc (kdrew (by assumption)) _)) (by first | exact own_rowB fb (one_range (wrap_range _)) | exact own_rowB (own_one 5 _ _ _ (Nat.le_refl _)) (one_range (wrap_range _)) | exact rowB_drew (own_rowB (own_one 5 _ _ _ (Nat.le_refl _)) (one_range (wrap_range _))) | exact own_rowB (own_drew (own_one 5 _ _ _ (Nat.le_refl _))) (one_range (wrap_range _))) (by have := HLN.out; have := HXB.out; first | (simp; omega) | (simp [nums_length]; omega)) ?_; intro v8 w8 o8 k8x; have k8 := Kp.trans (by first | assumption | exact kdrew (by assumption) | exact Kp.alloc (by assumption) _ | exact kdrew (Kp.alloc (by assumption) _) | exact Kp.alloc (kdrew (by assumption)) _) k8x; (first | (have f1 := own_kp f1 k8x h1) | (have f1 := own_kp (own_alloc f1 _) k8x h1) | skip); try go_simp)
                | (refine step_row (by rfl) _ _ 40 (by rfl) Tryd.underlying40 hi hz0 hz1 hz2 B _ _ _ _ _ (by rfl) (by rfl) (by first | assumption | exact own_drew (by assumption) | exact own_alloc (by assumption) _ | exact own_drew (own_alloc (by assumption) _) | exact own_alloc (own_drew (by assumption)) _) (ble HB0.out (by first | assumption | exact kdrew (by assumption) | exact Kp.alloc (by assumption) _ | exact kdrew (Kp.alloc (by assumption) _) | exact Kp.alloc (kdrew (by assumption)) _)) (by first | exact own_rowB f1 (nums_range _ _ _) | exact own_rowB (own_alloc f1 _) (nums_range _ _ _)) (by have := HLN.out; have := HXB.out; first | (simp; omega) | (simp [nums_length]; omega)) ?_; intro v9 w9 o9 k9x; have k9 := Kp.trans (by first | assumption | exact kdrew (by assumption) | exact Kp.alloc (by assumption) _ | exact kdrew (Kp.alloc (by assumption) _) | exact Kp.alloc (kdrew (by assumption)) _) k9x; try go_simp))
            all_goals
              rw [wrap1] at o9
              go_wp2_with fail
              go_meet
              exact ⟨rfl, o9, k9⟩
          case rest =>
          clear o1 k1
          obtain ⟨rfl, o1, k1⟩ := hcut
          obtain ⟨w2, rfl⟩ : ∃ w2, w2 = wc := ⟨_, rfl⟩
          obtain ⟨v2, rfl⟩ : ∃ v2, v2 = u3 := ⟨_, rfl⟩
          obtain ⟨z2, HZ2⟩ : ∃ z2, Hid (z1 ++ nums x.k 1 1 ++ nums x.t 3 3 = z2) := ⟨_, rfl⟩
          rw [HZ2.out] at o1
          have HLN : Hid (z2.length ≤ 1300) := by show _ ≤ _; rw [← HZ2.out]; simp only [List.length_append, nums_length]; have := HLN.out; omega
          go_upto_region 21 with fail
          go_region_held_law (fun W => W.cell? ⟨bx, 0, none⟩ = some (.int .i64 x.c) ∧ W.cell? ⟨bx, 1, none⟩ = some (.int .i64 x.s) ∧ W.cell? ⟨bx, 2, none⟩ = some (.int .i64 x.k) ∧ W.cell? ⟨bx, 3, none⟩ = some (.int .i64 x.t) ∧ W.cell? ⟨bx, 4, none⟩ = some (.int .i64 x.h) ∧ W.cell? ⟨bx, 5, none⟩ = some (.int .i64 x.e)) (first | exact (HL.out _ _ (by first | assumption | exact kdrew (by assumption) | exact Kp.alloc (by assumption) _ | exact kdrew (Kp.alloc (by assumption) _) | exact Kp.alloc (kdrew (by assumption)) _)).1)
            (first
              | (go_simp; go_at_call 26; (with_reducible refine (num2 (x.h + 1) _).mono ?_); rintro e wn ⟨vnf1, rfl, f1, bn⟩; obtain ⟨on, kn, h1⟩ := call_all bn (by first | assumption | exact own_drew (by assumption) | exact own_alloc (by assumption) _ | exact own_drew (own_alloc (by assumption) _) | exact own_alloc (own_drew (by assumption)) _) (by first | assumption | exact kdrew (by assumption) | exact Kp.alloc (by assumption) _ | exact kdrew (Kp.alloc (by assumption) _) | exact Kp.alloc (kdrew (by assumption)) _); clear bn; try go_simp)
              | (go_simp; go_at_call 26; (with_reducible refine (num4 (x.e) _).mono ?_); rintro e wn ⟨vnf2, rfl, f2, bn⟩; obtain ⟨on, kn, h2⟩ := call_all bn (by first | assumption | exact own_drew (by assumption) | exact own_alloc (by assumption) _ | exact own_drew (own_alloc (by assumption) _) | exact own_alloc (own_drew (by assumption)) _) (by first | assumption | exact kdrew (by assumption) | exact Kp.alloc (by assumption) _ | exact kdrew (Kp.alloc (by assumption) _) | exact Kp.alloc (kdrew (by assumption)) _); (first | (have f1 := own_below f1 bn) | skip); clear bn; try go_simp)
              | (refine step_row (by rfl) _ _ 40 (by rfl) Tryd.underlying40 hi hz0 hz1 hz2 B _ _ _ _ _ (by rfl) (by rfl) (by first | assumption | exact own_drew (by assumption) | exact own_alloc (by assumption) _ | exact own_drew (own_alloc (by assumption) _) | exact own_alloc (own_drew (by assumption)) _) (ble HB0.out (by first | assumption | exact kdrew (by assumption) | exact Kp.alloc (by assumption) _ | exact kdrew (Kp.alloc (by assumption) _) | exact Kp.alloc (kdrew (by assumption)) _)) (by first | exact own_rowB f1 (nums_range _ _ _) | exact own_rowB (own_alloc f1 _) (nums_range _ _ _)) (by have := HLN.out; have := HXB.out; first | (simp; omega) | (simp [nums_length]; omega)) ?_; intro v8 w8 o8 k8x; have k8 := Kp.trans (by first | assumption | exact kdrew (by assumption) | exact Kp.alloc (by assumption) _ | exact kdrew (Kp.alloc (by assumption) _) | exact Kp.alloc (kdrew (by assumption)) _) k8x; (first | (have f2 := own_kp f2 k8x h2) | (have f2 := own_kp (own_alloc f2 _) k8x h2) | skip); try go_simp)
              | (refine step_row (by rfl) _ _ 40 (by rfl) Tryd.underlying40 hi hz0 hz1 hz2 B _ _ _ _ _ (by rfl) (by rfl) (by first | assumption | exact own_drew (by assumption) | exact own_alloc (by assumption) _ | exact own_drew (own_alloc (by assumption) _) | exact own_alloc (own_drew (by assumption)) _) (ble HB0.out (by first | assumption | exact kdrew (by assumption) | exact Kp.alloc (by assumption) _ | exact kdrew (Kp.alloc (by assumption) _) | exact Kp.alloc (kdrew (by assumption)) _)) (by first | exact own_rowB f2 (nums_range _ _ _) | exact own_rowB (own_alloc f2 _) (nums_range _ _ _)) (by have := HLN.out; have := HXB.out; first | (simp; omega) | (simp [nums_length]; omega)) ?_; intro v9 w9 o9 k9x; have k9 := Kp.trans (by first | assumption | exact kdrew (by assumption) | exact Kp.alloc (by assumption) _ | exact kdrew (Kp.alloc (by assumption) _) | exact Kp.alloc (kdrew (by assumption)) _) k9x; try go_simp))
          all_goals
            have HFO : Hid (OwnB 5 w9 B v9 (zt ++ ssBs (ss.take (k + 1))) ∧ Below B wb w9) := ⟨by rw [HT.out, ← List.append_assoc, HZS.out]; unfold snBs; rw [← HZ2.out, ← HZ1.out] at o9; simpa [List.append_assoc] using o9, (HL.out _ _ k9).2⟩
            clear o9 k9
            go_wp2_with fail
            first
              | exact ⟨⟨k + 1, by omega, by go_num, HFO⟩, by simp [intOf]; omega⟩
              | (go_roundw
                 case rel => (repeat apply Exists.intro); exact ⟨⟨k + 1, by omega, by go_num, HFO⟩, rfl⟩
                 case measure => simp [intOf]; omega)
        · obtain rfl : k = ss.length := by omega
          rw [List.take_length] at HO
          have HE : Hid (zt ++ ssBs ss = tabBs tm nx ls ss) := by show _ = _; rw [← HZT.out, ← HYS.out]; unfold tabBs; simp [List.append_assoc]
          have HFB : Hid (Below w.heap.size w wi ∧ OwnB 5 wi w.heap.size v0 (tabBs tm nx ls ss)) := ⟨hbw, by rw [← HE.out]; exact own_le HO.out.1 (by rw [HB.out]; exact HSZ.out)⟩
          clear hrs hbw HO
          go_wp2_with fail
          go_ret
          exact ⟨_, rfl, HFB.out.2, HFB.out.1⟩
end Go.Proofs.YtkjbdemhpnhagaaDoor.Ps
