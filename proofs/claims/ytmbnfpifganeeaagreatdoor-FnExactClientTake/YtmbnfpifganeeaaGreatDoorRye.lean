/- Replies: what is right of one, its mark: of the specification. -/
import Derived.Test.YtmbnfpifganeeaaGreatDoorRya
import Derived.Deep.RegionHeldLaw
import Derived.BigQuiet
namespace Go.Proofs.YtmbnfpifganeeaaGreatDoor.Rys
open Go.RowKit Go.Proofs.YtmbnfpifganeeaaGreatDoor.Sl Go.Proofs.YtmbnfpifganeeaaGreatDoor.By Go.Proofs.YtmbnfpifganeeaaGreatDoor.Ap Go.Proofs.YtmbnfpifganeeaaGreatDoor.Tx Go.Proofs.YtmbnfpifganeeaaGreatDoor.Sh Go.Proofs.YtmbnfpifganeeaaGreatDoor.Ho Go.Proofs.YtmbnfpifganeeaaGreatDoor.Fz Go.Proofs.YtmbnfpifganeeaaGreatDoor.Pu Go.Proofs.YtmbnfpifganeeaaGreatDoor.Fu Go.Proofs.YtmbnfpifganeeaaGreatDoor.Mr Go.Proofs.YtmbnfpifganeeaaGreatDoor.Rm Go.Proofs.YtmbnfpifganeeaaGreatDoor.Fq
open Go.Proofs.YtmbnfpifganeeaaGreatDoor.Gy (Re oneV)
open Go.Proofs.YtmbnfpifganeeaaGreatDoor.Ry
open Go.Proofs.YtmbnfpifganeeaaGreatDoor.Tm (fCode fOut f_cases implFaultsOf_any)

theorem kdrew {w w1 : World} {v v1 : Value} (h : Kp w w1 v v1) : Kp w w1.drew v v1 := ⟨h.os, h.tape, h.output, h.size, h.block, h.away⟩
theorem ble {B : Nat} {w w1 : World} {v v1 : Value} (hB : B ≤ w.heap.size) (h : Kp w w1 v v1) : B ≤ w1.heap.size := Nat.le_trans hB h.size
theorem num2 (x : Int) (w : World) : Calls Tryz.prog 66 #[.int .i64 x, .int .i64 2] w fun e w' => ∃ v', e = .returned v' ∧ OwnB 5 w' w.heap.size v' (nums x 2 2) ∧ Below w.heap.size w w' := l02Number_any x 2 w (by decide)
theorem num3 (x : Int) (w : World) : Calls Tryz.prog 66 #[.int .i64 x, .int .i64 3] w fun e w' => ∃ v', e = .returned v' ∧ OwnB 5 w' w.heap.size v' (nums x 3 3) ∧ Below w.heap.size w w' := l02Number_any x 3 w (by decide)
theorem num4 (x : Int) (w : World) : Calls Tryz.prog 66 #[.int .i64 x, .int .i64 4] w fun e w' => ∃ v', e = .returned v' ∧ OwnB 5 w' w.heap.size v' (nums x 4 4) ∧ Below w.heap.size w w' := l02Number_any x 4 w (by decide)
theorem first_num {e : TypeId} {wb w1 : World} {B : Nat} {v : Value} {xs : List Int} (hB : B = wb.heap.size) (b1 : Below wb.drew.heap.size wb.drew w1) (o1 : OwnB e w1 wb.drew.heap.size v xs) : Below B wb w1 ∧ OwnB e w1 B v xs := by
  subst hB
  exact ⟨(ordB rfl b1).1, o1⟩
theorem next_num {B : Nat} {wb w1 w2 : World} (h : Below B wb w1) (hB : B ≤ wb.heap.size) (b : Below w1.heap.size w1 w2) : Below B wb w2 := h.trans (b.mono (Nat.le_trans hB h.size))
theorem at_drew {wb : World} {B : Nat} : Below B wb wb.drew := (Below.refl _ _).drew
theorem call_all {e : TypeId} {B : Nat} {w0 X wn : World} {v0 v : Value} {zs : List Int} (bn : Below X.heap.size X wn) (o : OwnB e X B v zs) (k : Kp w0 X v0 v) : OwnB e wn B v zs ∧ Kp w0 wn v0 v ∧ ∀ g, v.ownBlock = some g → g < X.heap.size := ⟨own_below o bn, k.trans (Kp.of_below _ bn), own_lt o⟩
theorem one_num {x : Int} (h : 0 ≤ x ∧ x ≤ 255) : [x] = nums x 1 1 := by simp [nums, nb]; omega
theorem wrap1 (x : Int) : [IntKind.u8.wrap x] = nums x 1 1 := by simp [nums, nb, IntKind.wrap_u8]
set_option maxRecDepth 100000 in
set_option maxHeartbeats 1600000 in
theorem l05Answer_any (k t h e0 : Int) (w : World) :
    Calls Tryz.prog 36 #[.agg #[.int .i64 k, .int .i64 t, .int .i64 h, .int .i64 e0]] w fun e w' => e = .returned (.bool (anB k t h e0)) ∧ Below w.heap.size w w' := by
  cases h1 : inR k 1 8 with
  | false =>
    have HE : Hid (anB k t h e0 = false) := by show _ = _; unfold anB; rw [h1]; rfl
    go_enter Tryz.func36, Tryz.ntmps36
    go_wp2_with (go_at_call 35; refine (l01In_any _ _ _ _).mono ?_; rintro e w1 ⟨rfl, rfl⟩; first | rw [h1])
    go_ret
    exact ⟨ret_bool HE.out.symm, bel_new _ _⟩
  | true =>
    cases h2 : inR t 0 1000000 with
    | false =>
      have HE : Hid (anB k t h e0 = false) := by show _ = _; unfold anB; rw [h1, h2]; rfl
      go_enter Tryz.func36, Tryz.ntmps36
      go_wp2_with (go_at_call 35; refine (l01In_any _ _ _ _).mono ?_; rintro e w1 ⟨rfl, rfl⟩; first | rw [h1] | rw [h2])
      go_ret
      exact ⟨ret_bool HE.out.symm, bel_new _ _⟩
    | true =>
      cases h3 : inR h (-1) 255 with
      | false =>
        have HE : Hid (anB k t h e0 = false) := by show _ = _; unfold anB; rw [h1, h2, h3]; rfl
        go_enter Tryz.func36, Tryz.ntmps36
        go_wp2_with (go_at_call 35; refine (l01In_any _ _ _ _).mono ?_; rintro e w1 ⟨rfl, rfl⟩; first | rw [h1] | rw [h2] | rw [h3])
        go_ret
        exact ⟨ret_bool HE.out.symm, bel_new _ _⟩
      | true =>
        cases h4 : inR e0 0 2000000000 with
        | false =>
          have HE : Hid (anB k t h e0 = false) := by show _ = _; unfold anB; rw [h1, h2, h3, h4]; rfl
          go_enter Tryz.func36, Tryz.ntmps36
          go_wp2_with (go_at_call 35; refine (l01In_any _ _ _ _).mono ?_; rintro e w1 ⟨rfl, rfl⟩; first | rw [h1] | rw [h2] | rw [h3] | rw [h4])
          go_ret
          exact ⟨ret_bool HE.out.symm, bel_new _ _⟩
        | true =>
          have HE : Hid (anB k t h e0 = true) := by show _ = _; unfold anB; rw [h1, h2, h3, h4]; rfl
          go_enter Tryz.func36, Tryz.ntmps36
          go_wp2_with (go_at_call 35; refine (l01In_any _ _ _ _).mono ?_; rintro e w1 ⟨rfl, rfl⟩; first | rw [h1] | rw [h2] | rw [h3] | rw [h4])
          go_ret
          exact ⟨ret_bool HE.out.symm, bel_new _ _⟩
set_option maxRecDepth 100000 in
set_option maxHeartbeats 1600000 in
theorem l11Form_any (x : Re) (w : World) :
    Calls Tryz.prog 49 #[oneV x] w fun e w' => e = .returned (.bool (foB x)) ∧ Below w.heap.size w w' := by
  unfold oneV
  cases h1 : inR x.nd 0 6 with
  | false =>
    have HE : Hid (foB x = false) := by show _ = _; unfold foB; rw [h1]; rfl
    go_enter Tryz.func49, Tryz.ntmps49
    go_wp2_with (first | (go_at_call 35; refine (l01In_any _ _ _ _).mono ?_; rintro e w1 ⟨rfl, rfl⟩; first | rw [h1]))
    go_ret
    exact ⟨ret_bool HE.out.symm, bel_new _ _⟩
  | true =>
    cases h2 : inR x.cl 0 255 with
    | false =>
      have HE : Hid (foB x = false) := by show _ = _; unfold foB; rw [h1, h2]; rfl
      go_enter Tryz.func49, Tryz.ntmps49
      go_wp2_with (first | (go_at_call 35; refine (l01In_any _ _ _ _).mono ?_; rintro e w1 ⟨rfl, rfl⟩; first | rw [h1] | rw [h2]))
      go_ret
      exact ⟨ret_bool HE.out.symm, bel_new _ _⟩
    | true =>
      cases h3 : inR x.st 1 65535 with
      | false =>
        have HE : Hid (foB x = false) := by show _ = _; unfold foB; rw [h1, h2, h3]; rfl
        go_enter Tryz.func49, Tryz.ntmps49
        go_wp2_with (first | (go_at_call 35; refine (l01In_any _ _ _ _).mono ?_; rintro e w1 ⟨rfl, rfl⟩; first | rw [h1] | rw [h2] | rw [h3]))
        go_ret
        exact ⟨ret_bool HE.out.symm, bel_new _ _⟩
      | true =>
        cases h4 : anB x.kd x.tk x.hd x.ex with
        | false =>
          have HE : Hid (foB x = false) := by show _ = _; unfold foB; rw [h1, h2, h3, h4]; rfl
          go_enter Tryz.func49, Tryz.ntmps49
          go_wp2_with (first | (go_at_call 35; refine (l01In_any _ _ _ _).mono ?_; rintro e w1 ⟨rfl, rfl⟩; first | rw [h1] | rw [h2] | rw [h3] | rw [h4]) | (go_at_call 36; refine (l05Answer_any _ _ _ _ _).mono ?_; rintro e w2 ⟨rfl, b2⟩; rw [h4]))
          go_ret
          exact ⟨ret_bool HE.out.symm, (bel_new _ _).trans (b2.mono (bel_new _ _).size)⟩
        | true =>
          have HE : Hid (foB x = true) := by show _ = _; unfold foB; rw [h1, h2, h3, h4]; rfl
          go_enter Tryz.func49, Tryz.ntmps49
          go_wp2_with (first | (go_at_call 35; refine (l01In_any _ _ _ _).mono ?_; rintro e w1 ⟨rfl, rfl⟩; first | rw [h1] | rw [h2] | rw [h3] | rw [h4]) | (go_at_call 36; refine (l05Answer_any _ _ _ _ _).mono ?_; rintro e w2 ⟨rfl, b2⟩; rw [h4]))
          go_ret
          exact ⟨ret_bool HE.out.symm, (bel_new _ _).trans (b2.mono (bel_new _ _).size)⟩
theorem fo_by {x : Re} (h : foB x = true) : (0 ≤ x.cl ∧ x.cl ≤ 255) ∧ (1 ≤ x.kd ∧ x.kd ≤ 8) := by
  unfold foB anB at h
  simp only [Bool.and_eq_true] at h
  exact ⟨inR_nat h.2.1, inR_nat h.2.2.2.1⟩
theorem n1 {x : Int} (h : 0 ≤ x ∧ x ≤ 255) : [x] = nums x 1 1 := one_num h
set_option maxRecDepth 100000 in
set_option maxHeartbeats 6400000 in
theorem l11Plain_any (x : Re) (w : World) (hf : foB x = true) :
    Calls Tryz.prog 59 #[oneV x] w fun e w' => ∃ v, e = .returned v ∧ RowB w' v (reBs x) ∧ Below w.heap.size w w' := by
  obtain ⟨i0, hi, hz0, hz1, hz2⟩ := info_parts Sl.info5
  obtain ⟨⟨hc0, hc1⟩, ⟨hd0, hd1⟩⟩ := fo_by hf
  obtain ⟨_, hh0, hh1⟩ := fo_nat hf
  have hwr : IntKind.i64.wrap (x.hd + 1) = x.hd + 1 := by rw [IntKind.wrap_i64]; omega
  have HX : Hid (∀ W, Below (w.alloc (.cells #[.int .i64 x.nd, .int .i64 x.cl, .int .i64 x.st, .int .i64 x.kd, .int .i64 x.tk, .int .i64 x.hd, .int .i64 x.ex, .string x.mc] 44)).heap.size (w.alloc (.cells #[.int .i64 x.nd, .int .i64 x.cl, .int .i64 x.st, .int .i64 x.kd, .int .i64 x.tk, .int .i64 x.hd, .int .i64 x.ex, .string x.mc] 44)) W → (W.cell? ⟨w.heap.size, 0, none⟩ = some (.int .i64 x.nd) ∧ W.cell? ⟨w.heap.size, 1, none⟩ = some (.int .i64 x.cl) ∧ W.cell? ⟨w.heap.size, 2, none⟩ = some (.int .i64 x.st) ∧ W.cell? ⟨w.heap.size, 3, none⟩ = some (.int .i64 x.kd) ∧ W.cell? ⟨w.heap.size, 4, none⟩ = some (.int .i64 x.tk) ∧ W.cell? ⟨w.heap.size, 5, none⟩ = some (.int .i64 x.hd) ∧ W.cell? ⟨w.heap.size, 6, none⟩ = some (.int .i64 x.ex) ∧ W.cell? ⟨w.heap.size, 7, none⟩ = some (.string x.mc)) ∧ Below w.heap.size w W) := fun W hW => by
    have h1 := (hW.block w.heap.size (by simp)).trans (heap_alloc_new w _)
    exact ⟨⟨(Rg.blk_cell h1 0 rfl).1, (Rg.blk_cell h1 1 rfl).1, (Rg.blk_cell h1 2 rfl).1, (Rg.blk_cell h1 3 rfl).1, (Rg.blk_cell h1 4 rfl).1, (Rg.blk_cell h1 5 rfl).1, (Rg.blk_cell h1 6 rfl).1, (Rg.blk_cell h1 7 rfl).1⟩, (bel_new w _).trans (hW.mono (by simp))⟩
  clear hf
  unfold oneV
  go_enter Tryz.func59, Tryz.ntmps59
  go_upto_region 1 with fail
  generalize w.alloc (.cells #[.int .i64 x.nd, .int .i64 x.cl, .int .i64 x.st, .int .i64 x.kd, .int .i64 x.tk, .int .i64 x.hd, .int .i64 x.ex, .string x.mc] 44) = wb at HX ⊢
  obtain ⟨bx, HBX⟩ : ∃ bx, Hid (w.heap.size = bx) := ⟨_, rfl⟩
  rw [HBX.out] at HX
  rw [HBX.out]
  obtain ⟨B, HB⟩ : ∃ B, Hid (B = wb.heap.size) := ⟨_, rfl⟩
  have hk0 := Lib.run_convert_bytes_const (P := Tryz.prog) wb 95 5 #[.int .u8 114, .int .u8 101, .int .u8 112, .int .u8 108, .int .u8 121] 5 5 Tryz.underlying95 Tryz.underlying5
  have HO : Hid (OwnA (wb.alloc (.cells #[.int .u8 114, .int .u8 101, .int .u8 112, .int .u8 108, .int .u8 121] 5 (5, 6))) wb.heap.size (.slice (some ⟨wb.heap.size, 0, none⟩) 5 5) bRe) := lit wb bRe 5 rfl _ rfl _ _
  have HKB : Hid (Below wb.heap.size wb (wb.alloc (.cells #[.int .u8 114, .int .u8 101, .int .u8 112, .int .u8 108, .int .u8 121] 5 (5, 6)))) := bel_new _ _
  obtain ⟨⟨c0, c1, c2, c3, c4, c5, c6, c7⟩, _⟩ := HX.out _ HKB.out
  go_wp2_with (at_builtin; go_must (refine list_oneA (by rfl) _ _ 95 (by rfl) Tryz.underlying95 hi hz0 hz1 hz2 wb.heap.size _ _ _ bRe (by rfl) (by rw [Rg.size_new]; rfl) HO.out HKB.out.size (by omega) (by decide) ?_; intro v0 w0 oA kA))
  obtain ⟨z1, HZ1⟩ : ∃ z1, Hid (bRe ++ nums x.cl 1 1 = z1) := ⟨_, rfl⟩
  have HLN : Hid (z1.length ≤ 100) := by show _ ≤ _; rw [← HZ1.out, List.length_append, nums_length]; decide
  rw [n1 ⟨hc0, hc1⟩, HZ1.out] at oA
  have KB0 : Hid (Below wb.heap.size wb w0) := HKB.out.trans kA
  have O0 : Hid (OwnB 5 w0 B v0 z1 ∧ B ≤ w0.heap.size) := by rw [HB.out]; exact ⟨oA, KB0.out.size⟩
  have HB0 : Hid (B ≤ w0.heap.size) := O0.out.2
  have HL : Hid (∀ W v', Kp w0 W v0 v' → (W.cell? ⟨bx, 0, none⟩ = some (.int .i64 x.nd) ∧ W.cell? ⟨bx, 1, none⟩ = some (.int .i64 x.cl) ∧ W.cell? ⟨bx, 2, none⟩ = some (.int .i64 x.st) ∧ W.cell? ⟨bx, 3, none⟩ = some (.int .i64 x.kd) ∧ W.cell? ⟨bx, 4, none⟩ = some (.int .i64 x.tk) ∧ W.cell? ⟨bx, 5, none⟩ = some (.int .i64 x.hd) ∧ W.cell? ⟨bx, 6, none⟩ = some (.int .i64 x.ex) ∧ W.cell? ⟨bx, 7, none⟩ = some (.string x.mc)) ∧ Below w.heap.size w W) := fun W v' h => by
    have h2 := h.below O0.out.1 O0.out.2
    rw [HB.out] at h2
    have h3 := HX.out W (KB0.out.trans h2)
    exact ⟨h3.1, by rw [HBX.out]; exact h3.2⟩
  clear c0 c1 c2 c3 c4 c5 c6 c7 hk0 HO HKB oA kA
  go_upto_region 2 with fail
  go_cut [3] (fun s3 wx => OwnB 5 wx B s3 (z1 ++ nums x.st 2 2 ++ nums x.kd 1 1) ∧ Kp w0 wx v0 s3)
  case first =>
    have o1 := O0.out.1
    have k1 := Kp.refl w0 v0
    go_region_held_law (fun W => W.cell? ⟨bx, 0, none⟩ = some (.int .i64 x.nd) ∧ W.cell? ⟨bx, 1, none⟩ = some (.int .i64 x.cl) ∧ W.cell? ⟨bx, 2, none⟩ = some (.int .i64 x.st) ∧ W.cell? ⟨bx, 3, none⟩ = some (.int .i64 x.kd) ∧ W.cell? ⟨bx, 4, none⟩ = some (.int .i64 x.tk) ∧ W.cell? ⟨bx, 5, none⟩ = some (.int .i64 x.hd) ∧ W.cell? ⟨bx, 6, none⟩ = some (.int .i64 x.ex) ∧ W.cell? ⟨bx, 7, none⟩ = some (.string x.mc)) (first | exact (HL.out _ _ (by first | assumption | exact kdrew (by assumption) | exact Kp.alloc (by assumption) _ | exact kdrew (Kp.alloc (by assumption) _) | exact Kp.alloc (kdrew (by assumption)) _)).1)
      (first
        | (go_simp; go_at_call 66; (with_reducible refine (num2 (x.st) _).mono ?_); rintro e wn ⟨vnf1, rfl, f1, bn⟩; obtain ⟨on, kn, h1⟩ := call_all bn (by first | assumption | exact own_drew (by assumption) | exact own_alloc (by assumption) _ | exact own_drew (own_alloc (by assumption) _) | exact own_alloc (own_drew (by assumption)) _) (by first | assumption | exact kdrew (by assumption) | exact Kp.alloc (by assumption) _ | exact kdrew (Kp.alloc (by assumption) _) | exact Kp.alloc (kdrew (by assumption)) _); (first | (have fb := own_below (own_one 5 _ _ _ (Nat.le_refl _)) bn; have hb := own_lt o1) | (have fb := own_below (own_drew (own_one 5 _ _ _ (Nat.le_refl _))) bn; have hb := own_lt o1) | skip); clear bn; try go_simp)
        | (refine step_row (by rfl) _ _ 95 (by rfl) Tryz.underlying95 hi hz0 hz1 hz2 B _ _ _ _ _ (by rfl) (by rfl) (by first | assumption | exact own_drew (by assumption) | exact own_alloc (by assumption) _ | exact own_drew (own_alloc (by assumption) _) | exact own_alloc (own_drew (by assumption)) _) (ble HB0.out (by first | assumption | exact kdrew (by assumption) | exact Kp.alloc (by assumption) _ | exact kdrew (Kp.alloc (by assumption) _) | exact Kp.alloc (kdrew (by assumption)) _)) (by first | exact own_rowB f1 (nums_range _ _ _) | exact own_rowB (own_alloc f1 _) (nums_range _ _ _)) (by have := HLN.out; first | (simp; omega) | (simp [nums_length]; omega)) ?_; intro v8 w8 o8 k8x; have k8 := Kp.trans (by first | assumption | exact kdrew (by assumption) | exact Kp.alloc (by assumption) _ | exact kdrew (Kp.alloc (by assumption) _) | exact Kp.alloc (kdrew (by assumption)) _) k8x; (first | (have fb := own_kp fb k8x hb) | (have fb := own_kp (own_one 5 _ _ _ (Nat.le_refl _)) k8x (own_lt (by first | assumption | exact own_drew (by assumption) | exact own_alloc (by assumption) _ | exact own_drew (own_alloc (by assumption) _) | exact own_alloc (own_drew (by assumption)) _))) | skip); try go_simp)
        | (refine step_row (by rfl) _ _ 95 (by rfl) Tryz.underlying95 hi hz0 hz1 hz2 B _ _ _ _ _ (by rfl) (by rfl) (by first | assumption | exact own_drew (by assumption) | exact own_alloc (by assumption) _ | exact own_drew (own_alloc (by assumption) _) | exact own_alloc (own_drew (by assumption)) _) (ble HB0.out (by first | assumption | exact kdrew (by assumption) | exact Kp.alloc (by assumption) _ | exact kdrew (Kp.alloc (by assumption) _) | exact Kp.alloc (kdrew (by assumption)) _)) (by first | exact own_rowB fb (one_range (wrap_range _)) | exact own_rowB (own_one 5 _ _ _ (Nat.le_refl _)) (one_range (wrap_range _)) | exact rowB_drew (own_rowB (own_one 5 _ _ _ (Nat.le_refl _)) (one_range (wrap_range _))) | exact own_rowB (own_drew (own_one 5 _ _ _ (Nat.le_refl _))) (one_range (wrap_range _))) (by have := HLN.out; first | (simp; omega) | (simp [nums_length]; omega)) ?_; intro v9 w9 o9 k9x; have k9 := Kp.trans (by first | assumption | exact kdrew (by assumption) | exact Kp.alloc (by assumption) _ | exact kdrew (Kp.alloc (by assumption) _) | exact Kp.alloc (kdrew (by assumption)) _) k9x; try go_simp))
    all_goals
      rw [wrap1] at o9
      go_wp2_with fail
      go_meet
      exact ⟨o9, k9⟩
  case rest =>
  obtain ⟨o1, k1⟩ := hcut
  obtain ⟨w1, rfl⟩ : ∃ w1, w1 = wc := ⟨_, rfl⟩
  obtain ⟨v1, rfl⟩ : ∃ v1, v1 = u3 := ⟨_, rfl⟩
  obtain ⟨z2, HZ2⟩ : ∃ z2, Hid (z1 ++ nums x.st 2 2 ++ nums x.kd 1 1 = z2) := ⟨_, rfl⟩
  rw [HZ2.out] at o1
  have HLN : Hid (z2.length ≤ 200) := by show _ ≤ _; rw [← HZ2.out]; simp only [List.length_append, nums_length]; have := HLN.out; omega
  go_upto_region 3 with fail
  go_cut [3] (fun s3 wx => OwnB 5 wx B s3 (z2 ++ nums x.tk 3 3 ++ nums (x.hd + 1) 2 2) ∧ Kp w0 wx v0 s3)
  case first =>
    go_region_held_law (fun W => W.cell? ⟨bx, 0, none⟩ = some (.int .i64 x.nd) ∧ W.cell? ⟨bx, 1, none⟩ = some (.int .i64 x.cl) ∧ W.cell? ⟨bx, 2, none⟩ = some (.int .i64 x.st) ∧ W.cell? ⟨bx, 3, none⟩ = some (.int .i64 x.kd) ∧ W.cell? ⟨bx, 4, none⟩ = some (.int .i64 x.tk) ∧ W.cell? ⟨bx, 5, none⟩ = some (.int .i64 x.hd) ∧ W.cell? ⟨bx, 6, none⟩ = some (.int .i64 x.ex) ∧ W.cell? ⟨bx, 7, none⟩ = some (.string x.mc)) (first | exact (HL.out _ _ (by first | assumption | exact kdrew (by assumption) | exact Kp.alloc (by assumption) _ | exact kdrew (Kp.alloc (by assumption) _) | exact Kp.alloc (kdrew (by assumption)) _)).1)
      (first
        | (go_simp; go_at_call 66; (with_reducible refine (num3 (x.tk) _).mono ?_); rintro e wn ⟨vnf1, rfl, f1, bn⟩; obtain ⟨on, kn, h1⟩ := call_all bn (by first | assumption | exact own_drew (by assumption) | exact own_alloc (by assumption) _ | exact own_drew (own_alloc (by assumption) _) | exact own_alloc (own_drew (by assumption)) _) (by first | assumption | exact kdrew (by assumption) | exact Kp.alloc (by assumption) _ | exact kdrew (Kp.alloc (by assumption) _) | exact Kp.alloc (kdrew (by assumption)) _); clear bn; try go_simp)
        | (go_simp; go_at_call 66; (with_reducible refine (num2 (x.hd + 1) _).mono ?_); rintro e wn ⟨vnf2, rfl, f2, bn⟩; obtain ⟨on, kn, h2⟩ := call_all bn (by first | assumption | exact own_drew (by assumption) | exact own_alloc (by assumption) _ | exact own_drew (own_alloc (by assumption) _) | exact own_alloc (own_drew (by assumption)) _) (by first | assumption | exact kdrew (by assumption) | exact Kp.alloc (by assumption) _ | exact kdrew (Kp.alloc (by assumption) _) | exact Kp.alloc (kdrew (by assumption)) _); (first | (have f1 := own_below f1 bn) | skip); clear bn; try go_simp)
        | (refine step_row (by rfl) _ _ 95 (by rfl) Tryz.underlying95 hi hz0 hz1 hz2 B _ _ _ _ _ (by rfl) (by rfl) (by first | assumption | exact own_drew (by assumption) | exact own_alloc (by assumption) _ | exact own_drew (own_alloc (by assumption) _) | exact own_alloc (own_drew (by assumption)) _) (ble HB0.out (by first | assumption | exact kdrew (by assumption) | exact Kp.alloc (by assumption) _ | exact kdrew (Kp.alloc (by assumption) _) | exact Kp.alloc (kdrew (by assumption)) _)) (by first | exact own_rowB f1 (nums_range _ _ _) | exact own_rowB (own_alloc f1 _) (nums_range _ _ _)) (by have := HLN.out; first | (simp; omega) | (simp [nums_length]; omega)) ?_; intro v8 w8 o8 k8x; have k8 := Kp.trans (by first | assumption | exact kdrew (by assumption) | exact Kp.alloc (by assumption) _ | exact kdrew (Kp.alloc (by assumption) _) | exact Kp.alloc (kdrew (by assumption)) _) k8x; (first | (have f2 := own_kp f2 k8x h2) | (have f2 := own_kp (own_alloc f2 _) k8x h2) | skip); try go_simp)
        | (refine step_row (by rfl) _ _ 95 (by rfl) Tryz.underlying95 hi hz0 hz1 hz2 B _ _ _ _ _ (by rfl) (by rfl) (by first | assumption | exact own_drew (by assumption) | exact own_alloc (by assumption) _ | exact own_drew (own_alloc (by assumption) _) | exact own_alloc (own_drew (by assumption)) _) (ble HB0.out (by first | assumption | exact kdrew (by assumption) | exact Kp.alloc (by assumption) _ | exact kdrew (Kp.alloc (by assumption) _) | exact Kp.alloc (kdrew (by assumption)) _)) (by first | exact own_rowB f2 (nums_range _ _ _) | exact own_rowB (own_alloc f2 _) (nums_range _ _ _)) (by have := HLN.out; first | (simp; omega) | (simp [nums_length]; omega)) ?_; intro v9 w9 o9 k9x; have k9 := Kp.trans (by first | assumption | exact kdrew (by assumption) | exact Kp.alloc (by assumption) _ | exact kdrew (Kp.alloc (by assumption) _) | exact Kp.alloc (kdrew (by assumption)) _) k9x; try go_simp))
    all_goals
      go_wp2_with fail
      go_meet
      exact ⟨o9, k9⟩
  case rest =>
  clear o1 k1
  obtain ⟨o1, k1⟩ := hcut
  obtain ⟨w2, rfl⟩ : ∃ w2, w2 = wc := ⟨_, rfl⟩
  obtain ⟨v2, rfl⟩ : ∃ v2, v2 = u3 := ⟨_, rfl⟩
  obtain ⟨z3, HZ3⟩ : ∃ z3, Hid (z2 ++ nums x.tk 3 3 ++ nums (x.hd + 1) 2 2 = z3) := ⟨_, rfl⟩
  rw [HZ3.out] at o1
  have HLN : Hid (z3.length ≤ 300) := by show _ ≤ _; rw [← HZ3.out]; simp only [List.length_append, nums_length]; have := HLN.out; omega
  have O2 : Hid (OwnB 5 w2 B v2 z3 ∧ Kp w0 w2 v0 v2) := ⟨o1, k1⟩
  obtain ⟨⟨c0, c1, c2, c3, c4, c5, c6, c7⟩, _⟩ := HL.out _ _ k1
  clear o1 k1
  go_wp2_with fail
  refine (l02Number_any x.ex 4 w2 (by decide)).mono ?_
  rintro e w3 ⟨v3, rfl, o3, b3⟩
  have O3 : Hid (OwnB 5 w3 B v2 z3 ∧ RowB w3 v3 (nums x.ex 4 4) ∧ Kp w0 w3 v0 v2) := ⟨own_below O2.out.1 b3, own_rowB o3 (nums_range _ _ _), O2.out.2.trans (Kp.of_below _ b3)⟩
  clear o3 b3 O2 c0 c1 c2 c3 c4 c5 c6 c7
  go_wp2_with (at_builtin; go_must (refine list_row (by rfl) _ _ 95 (by rfl) Tryz.underlying95 hi hz0 hz1 hz2 B _ _ _ _ _ (by rfl) (by rfl) O3.out.1 (Nat.le_trans HB0.out O3.out.2.2.size) O3.out.2.1 (by rw [nums_length]; have := HLN.out; omega) ?_; intro v4 w4 o4 k4))
  have HE : Hid (z3 ++ nums x.ex 4 4 = reBs x) := by show _ = _; rw [← HZ3.out, ← HZ2.out, ← HZ1.out]; rfl
  have G4 : Hid (RowB w4 v4 (reBs x) ∧ Below w.heap.size w w4) := ⟨by rw [HE.out] at o4; exact own_rowB o4 (re_range x), (HL.out _ _ (O3.out.2.2.trans k4)).2⟩
  clear o4 k4
  go_wp2_with fail
  go_ret
  exact ⟨_, rfl, G4.out.1, G4.out.2⟩
end Go.Proofs.YtmbnfpifganeeaaGreatDoor.Rys
