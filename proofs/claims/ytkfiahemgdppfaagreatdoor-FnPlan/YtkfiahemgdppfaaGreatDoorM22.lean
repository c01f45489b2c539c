/- Texts put together: Bs, Gw, Dd, De, Df. -/
import Derived.Test.YtkfiahemgdppfaaGreatDoorM17
import Derived.Deep.RegionHeldLaw
import Derived.Test.YtkfiahemgdppfaaGreatDoorM21
import Derived.Test.YtkfiahemgdppfaaGreatDoorM13
import Derived.Test.YtkfiahemgdppfaaGreatDoorM18
import Derived.Test.YtkfiahemgdppfaaGreatDoorM16
import Derived.Test.YtkfiahemgdppfaaGreatDoorM2
/- Batches' bytes: the specification. -/
namespace Go.Proofs.YtkfiahemgdppfaaGreatDoor.Bt
open Go.RowKit Go.Proofs.YtkfiahemgdppfaaGreatDoor.Sl Go.Proofs.YtkfiahemgdppfaaGreatDoor.By Go.Proofs.YtkfiahemgdppfaaGreatDoor.Rg Go.Proofs.YtkfiahemgdppfaaGreatDoor.Gr Go.Proofs.YtkfiahemgdppfaaGreatDoor.Rq Go.Proofs.YtkfiahemgdppfaaGreatDoor.Ap Go.Proofs.YtkfiahemgdppfaaGreatDoor.Pu Go.Proofs.YtkfiahemgdppfaaGreatDoor.Rp Go.Proofs.YtkfiahemgdppfaaGreatDoor.Bo

theorem kdrew {w w1 : World} {v v1 : Value} (h : Kp w w1 v v1) : Kp w w1.drew v v1 := ⟨h.os, h.tape, h.output, h.size, h.block, h.away⟩
theorem ble {B : Nat} {w w1 : World} {v v1 : Value} (hB : B ≤ w.heap.size) (h : Kp w w1 v v1) : B ≤ w1.heap.size := Nat.le_trans hB h.size
theorem num4 (x : Int) (w : World) : Calls Tryz.prog 86 #[.int .i64 x, .int .i64 4] w fun e w' => ∃ v', e = .returned v' ∧ OwnB 5 w' w.heap.size v' (nums x 4 4) ∧ Below w.heap.size w w' := l02Number_any x 4 w (by decide)
theorem call_all {e : TypeId} {B : Nat} {w0 X wn : World} {v0 v : Value} {zs : List Int} (bn : Below X.heap.size X wn) (o : OwnB e X B v zs) (k : Kp w0 X v0 v) : OwnB e wn B v zs ∧ Kp w0 wn v0 v ∧ ∀ g, v.ownBlock = some g → g < X.heap.size := ⟨own_below o bn, k.trans (Kp.of_below _ bn), own_lt o⟩
theorem one_num {x : Int} (h : 0 ≤ x ∧ x ≤ 255) : [x] = nums x 1 1 := by simp [nums, nb]; omega
theorem wrap1 (x : Int) : [IntKind.u8.wrap x] = nums x 1 1 := by simp [nums, nb, IntKind.wrap_u8]
set_option maxRecDepth 100000 in
set_option maxHeartbeats 800000 in
theorem l02Batch_null (c st k l : Int) (n : ByteArray) (vr : Value) (rs : List Rd) (w : World) (h : Row w vr rs) :
    Calls Tryz.prog 109 #[batV true c st k l n vr] w fun e w' => ∃ v, e = .returned v ∧ OwnB 5 w' w.heap.size v (batBs true c st k l n rs) ∧ Below w.heap.size w w' := by
  obtain ⟨a, cap, rfl⟩ := RowG.slice h
  clear h
  unfold batV
  have HO : Hid (batBs true c st k l n rs = [0]) := rfl
  have HB : Hid (Below w.heap.size w (w.alloc (.cells #[.bool true, .int .i64 c, .int .i64 st, .int .i64 k, .int .i64 l, .string n, .slice a rs.length cap] 121))) := bel_new _ _
  go_enter Tryz.func109, Tryz.ntmps109
  go_wp2_with fail
  go_ret
  refine ⟨_, rfl, ?_, HB.out.alloc HB.out.size _⟩
  rw [HO.out]
  have hw := own_lit 5 (w.alloc (.cells #[.bool true, .int .i64 c, .int .i64 st, .int .i64 k, .int .i64 l, .string n, .slice a rs.length cap] 121)) w.heap.size [0] 1 rfl HB.out.size (by decide)
  rw [Rg.size_new] at hw
  exact hw
set_option maxRecDepth 100000 in
set_option maxHeartbeats 6400000 in
theorem l02Batch_any (nl : Bool) (c st k l : Int) (n : ByteArray) (vr : Value) (rs : List Rd) (w : World) (h : Row w vr rs) (hl : rs.length ≤ 7) (hm8 : ∀ x ∈ rs, x.m.size = 8) (hn : n.size ≤ 12) :
    Calls Tryz.prog 109 #[batV nl c st k l n vr] w fun e w' => ∃ v, e = .returned v ∧ OwnB 5 w' w.heap.size v (batBs nl c st k l n rs) ∧ Below w.heap.size w w' := by
  obtain ⟨i0, hi, hz0, hz1, hz2⟩ := info_parts Sl.info5
  have HR : Hid (Row w vr rs) := h
  obtain ⟨a, cap, rfl⟩ := RowG.slice h
  clear h
  have HM : Hid (∀ x ∈ rs, x.m.size = 8) := hm8
  clear hm8
  unfold batV
  cases nl with
  | true =>
    have HO : Hid (batBs true c st k l n rs = [0]) := rfl
    have HB : Hid (Below w.heap.size w (w.alloc (.cells #[.bool true, .int .i64 c, .int .i64 st, .int .i64 k, .int .i64 l, .string n, .slice a rs.length cap] 121))) := bel_new _ _
    go_enter Tryz.func109, Tryz.ntmps109
    go_wp2_with fail
    go_ret
    refine ⟨_, rfl, ?_, HB.out.alloc HB.out.size _⟩
    rw [HO.out]
    have hw := own_lit 5 (w.alloc (.cells #[.bool true, .int .i64 c, .int .i64 st, .int .i64 k, .int .i64 l, .string n, .slice a rs.length cap] 121)) w.heap.size [0] 1 rfl HB.out.size (by decide)
    rw [Rg.size_new] at hw
    exact hw
  | false =>
    have HO : Hid (batBs false c st k l n rs = nums ((rs.length : Int) + 1) 1 1 ++ rsBs rs ++ reqBs c st k l n) := rfl
    have HX : Hid (∀ W, Below (w.alloc (.cells #[.bool false, .int .i64 c, .int .i64 st, .int .i64 k, .int .i64 l, .string n, .slice a rs.length cap] 121)).heap.size (w.alloc (.cells #[.bool false, .int .i64 c, .int .i64 st, .int .i64 k, .int .i64 l, .string n, .slice a rs.length cap] 121)) W → ((W.cell? ⟨w.heap.size, 1, none⟩ = some (.int .i64 c) ∧ W.cell? ⟨w.heap.size, 2, none⟩ = some (.int .i64 st) ∧ W.cell? ⟨w.heap.size, 3, none⟩ = some (.int .i64 k) ∧ W.cell? ⟨w.heap.size, 4, none⟩ = some (.int .i64 l) ∧ W.cell? ⟨w.heap.size, 5, none⟩ = some (.string n) ∧ W.cell? ⟨w.heap.size, 6, none⟩ = some (.slice a rs.length cap)) ∧ Row W (.slice a rs.length cap) rs ∧ Below w.heap.size w W)) := fun W hW => by
      obtain ⟨_, q1, q2, q3, q4, q5, q6, b0⟩ := bat_box hW
      exact ⟨⟨q1, q2, q3, q4, q5, q6⟩, HR.out.below b0, b0⟩
    have hlr : (0 : Int) ≤ (rs.length : Int) + 1 ∧ (rs.length : Int) + 1 ≤ 255 := by omega
    have hl1 : (1 : Int) + (rs.length : Int) = (rs.length : Int) + 1 := by omega
    have HN1 : Hid (OwnB 5 ((w.alloc (.cells #[.bool false, .int .i64 c, .int .i64 st, .int .i64 k, .int .i64 l, .string n, .slice a rs.length cap] 121)).alloc (.cells #[.int .u8 ((rs.length : Int) + 1)] 5)) (w.alloc (.cells #[.bool false, .int .i64 c, .int .i64 st, .int .i64 k, .int .i64 l, .string n, .slice a rs.length cap] 121)).heap.size (.slice (some ⟨(w.alloc (.cells #[.bool false, .int .i64 c, .int .i64 st, .int .i64 k, .int .i64 l, .string n, .slice a rs.length cap] 121)).heap.size, 0, none⟩) 1 1) (nums ((rs.length : Int) + 1) 1 1) ∧ Below (w.alloc (.cells #[.bool false, .int .i64 c, .int .i64 st, .int .i64 k, .int .i64 l, .string n, .slice a rs.length cap] 121)).heap.size (w.alloc (.cells #[.bool false, .int .i64 c, .int .i64 st, .int .i64 k, .int .i64 l, .string n, .slice a rs.length cap] 121)) ((w.alloc (.cells #[.bool false, .int .i64 c, .int .i64 st, .int .i64 k, .int .i64 l, .string n, .slice a rs.length cap] 121)).alloc (.cells #[.int .u8 ((rs.length : Int) + 1)] 5))) := ⟨by rw [← one_num hlr]; exact own_one 5 _ _ _ (Nat.le_refl _), bel_new _ _⟩
    have hwrap : ((rs.length : Int) + 1) % 256 = (rs.length : Int) + 1 := by omega
    have hwrap2 : ((1 : Int) + (rs.length : Int)) % 256 = (rs.length : Int) + 1 := by omega
    go_enter Tryz.func109, Tryz.ntmps109
    go_upto_region 1 with fail
    have HWS : Hid (w.heap.size ≤ (w.alloc (.cells #[.bool false, .int .i64 c, .int .i64 st, .int .i64 k, .int .i64 l, .string n, .slice a rs.length cap] 121)).heap.size) := by show _ ≤ _; simp
    generalize HWB : w.alloc (.cells #[.bool false, .int .i64 c, .int .i64 st, .int .i64 k, .int .i64 l, .string n, .slice a rs.length cap] 121) = wb at HX HN1 HWS ⊢
    obtain ⟨⟨_, _, _, _, _, q6⟩, _, _⟩ := HX.out wb (Below.refl _ _)
    have q0 : wb.cell? ⟨w.heap.size, 0, none⟩ = some (.bool false) := by rw [← HWB]; exact (bat_box (Below.refl _ _)).1
    clear HWB
    obtain ⟨bx, HBX⟩ : ∃ bx, Hid (w.heap.size = bx) := ⟨_, rfl⟩
    rw [HBX.out] at HX q6 q0 ⊢
    obtain ⟨B, HB⟩ : ∃ B, Hid (wb.heap.size = B) := ⟨_, rfl⟩
    rw [HB.out] at HX HN1
    have HBL : Hid (B ≤ wb.heap.size) := Nat.le_of_eq HB.out.symm
    go_wp2_with fail
    clear q0 q6
    rw [HB.out]
    go_loopw [3, 4] (fun b i wr => ∃ m : Nat, m ≤ rs.length ∧ i = .int .i64 m ∧ Hid (OwnB 5 wr B b (nums ((rs.length : Int) + 1) 1 1 ++ rsBs (rs.take m)) ∧ Below B wb wr)) (fun _ i _ => rs.length - (intOf i).toNat)
    case atStart => exact ⟨0, by omega, rfl, ⟨by simpa [rsBs] using HN1.out.1, HN1.out.2⟩⟩
    case round =>
      clear HN1
      rename World => wi
      obtain ⟨m, hm, rfl, HM2⟩ := hrel
      obtain ⟨v0, rfl⟩ : ∃ v0, v0 = u3 := ⟨_, rfl⟩
      obtain ⟨⟨q1, q2, q3, q4, q5, q6⟩, hrow, hbw⟩ := HX.out wi HM2.out.2
      have HLN : Hid ((nums ((rs.length : Int) + 1) 1 1 ++ rsBs (rs.take m)).length ≤ 1000) := by
        show _ ≤ _
        rw [List.length_append, nums_length, rsBs_len _ (fun x hx => HM.out x (List.mem_of_mem_take hx)), List.length_take]
        omega
      by_cases hlt : m < rs.length
      · obtain ⟨x, hx⟩ := Rg.get_at hlt
        obtain ⟨b2, off2, rfl, hbl, c0, c1, c2⟩ := RowG.at hrow rfl hx
        have HT : Hid (rsBs (rs.take (m + 1)) = rsBs (rs.take m) ++ rdBs x) := rs_step hx
        have HX8 : Hid (x.m.size = 8) := HM.out x (mem_at hx)
        have HL2 : Hid (∀ W v', Kp wi W v0 v' → (W.cell? ⟨bx, 6, none⟩ = some (.slice (some ⟨b2, off2, none⟩) rs.length cap) ∧ W.cell? ⟨b2, off2 + m * 3, none⟩ = some (.int .i64 x.f) ∧ W.cell? ⟨b2, off2 + m * 3 + 1, none⟩ = some (.int .i64 x.x) ∧ W.cell? ⟨b2, off2 + m * 3 + 2, none⟩ = some (.string x.m)) ∧ Below B wb W) := fun W v' h => by
          have h2 := HM2.out.2.trans (h.below HM2.out.1 (Nat.le_trans HBL.out HM2.out.2.size))
          obtain ⟨⟨_, _, _, _, _, p6⟩, pr, _⟩ := HX.out W h2
          obtain ⟨b', off', e, _, d0, d1, d2⟩ := RowG.at pr rfl hx
          cases e
          exact ⟨⟨p6, d0, d1, d2⟩, h2⟩
        obtain ⟨zs, HZS⟩ : ∃ zs, Hid (nums ((rs.length : Int) + 1) 1 1 ++ rsBs (rs.take m) = zs) := ⟨_, rfl⟩
        rw [HZS.out] at HM2 HLN
        have o1 := HM2.out.1
        have k1 := Kp.refl wi v0
        have HB0 : Hid (B ≤ wi.heap.size) := Nat.le_trans HBL.out HM2.out.2.size
        have l1 : (0 : Int) ≤ (m : Int) := by omega
        have l2 : (m : Int) < (rs.length : Int) := by omega
        clear hx hrow hbw q1 q2 q3 q4 q5
        go_upto_region 7 with fail
        clear c0 c1 c2 q6
        go_cut [3] (fun s3 wx => OwnB 5 wx B s3 (zs ++ nums x.f 1 1 ++ nums x.x 4 4) ∧ Kp wi wx v0 s3)
        case first =>
          go_region_held_law (fun W => W.cell? ⟨bx, 6, none⟩ = some (.slice (some ⟨b2, off2, none⟩) rs.length cap) ∧ W.cell? ⟨b2, off2 + m * 3, none⟩ = some (.int .i64 x.f) ∧ W.cell? ⟨b2, off2 + m * 3 + 1, none⟩ = some (.int .i64 x.x) ∧ W.cell? ⟨b2, off2 + m * 3 + 2, none⟩ = some (.string x.m)) (first | exact (HL2.out _ _ (by first | assumption | exact kdrew (by assumption) | exact Kp.alloc (by assumption) _ | exact kdrew (Kp.alloc (by assumption) _) | exact Kp.alloc (kdrew (by assumption)) _)).1)
            (first
              | (go_simp; go_at_call 86; (with_reducible refine (num4 (x.x) _).mono ?_); rintro e wn ⟨vnf1, rfl, f1, bn⟩; obtain ⟨on, kn, h1⟩ := call_all bn (by first | assumption | exact own_drew (by assumption) | exact own_alloc (by assumption) _ | exact own_drew (own_alloc (by assumption) _) | exact own_alloc (own_drew (by assumption)) _) (by first | assumption | exact kdrew (by assumption) | exact Kp.alloc (by assumption) _ | exact kdrew (Kp.alloc (by assumption) _) | exact Kp.alloc (kdrew (by assumption)) _); (first | (have fb := own_below (own_one 5 _ _ _ (Nat.le_refl _)) bn; have hb := own_lt o1) | (have fb := own_below (own_drew (own_one 5 _ _ _ (Nat.le_refl _))) bn; have hb := own_lt o1) | skip); clear bn; try go_simp)
              | (refine step_row (by rfl) _ _ 22 (by rfl) Tryz.underlying22 hi hz0 hz1 hz2 B _ _ _ _ _ (by rfl) (by rfl) (by first | assumption | exact own_drew (by assumption) | exact own_alloc (by assumption) _ | exact own_drew (own_alloc (by assumption) _) | exact own_alloc (own_drew (by assumption)) _) (ble HB0.out (by first | assumption | exact kdrew (by assumption) | exact Kp.alloc (by assumption) _ | exact kdrew (Kp.alloc (by assumption) _) | exact Kp.alloc (kdrew (by assumption)) _)) (by first | exact own_rowB fb (one_range (wrap_range _)) | exact own_rowB (own_one 5 _ _ _ (Nat.le_refl _)) (one_range (wrap_range _)) | exact rowB_drew (own_rowB (own_one 5 _ _ _ (Nat.le_refl _)) (one_range (wrap_range _))) | exact own_rowB (own_drew (own_one 5 _ _ _ (Nat.le_refl _))) (one_range (wrap_range _))) (by have := HLN.out; first | (simp; omega) | (simp [nums_length]; omega)) ?_; intro v8 w8 o8 k8x; have k8 := Kp.trans (by first | assumption | exact kdrew (by assumption) | exact Kp.alloc (by assumption) _ | exact kdrew (Kp.alloc (by assumption) _) | exact Kp.alloc (kdrew (by assumption)) _) k8x; (first | (have f1 := own_kp f1 k8x h1) | (have f1 := own_kp (own_alloc f1 _) k8x h1) | skip); try go_simp)
              | (refine step_row (by rfl) _ _ 22 (by rfl) Tryz.underlying22 hi hz0 hz1 hz2 B _ _ _ _ _ (by rfl) (by rfl) (by first | assumption | exact own_drew (by assumption) | exact own_alloc (by assumption) _ | exact own_drew (own_alloc (by assumption) _) | exact own_alloc (own_drew (by assumption)) _) (ble HB0.out (by first | assumption | exact kdrew (by assumption) | exact Kp.alloc (by assumption) _ | exact kdrew (Kp.alloc (by assumption) _) | exact Kp.alloc (kdrew (by assumption)) _)) (by first | exact own_rowB f1 (nums_range _ _ _) | exact own_rowB (own_alloc f1 _) (nums_range _ _ _)) (by have := HLN.out; first | (simp; omega) | (simp [nums_length]; omega)) ?_; intro v9 w9 o9 k9x; have k9 := Kp.trans (by first | assumption | exact kdrew (by assumption) | exact Kp.alloc (by assumption) _ | exact kdrew (Kp.alloc (by assumption) _) | exact Kp.alloc (kdrew (by assumption)) _) k9x; try go_simp))
          all_goals
            rw [wrap1] at o9
            go_wp2_with fail
            go_meet
            exact ⟨o9, k9⟩
        case rest =>
        clear o1 k1
        obtain ⟨o1, k1⟩ := hcut
        obtain ⟨w1, rfl⟩ : ∃ w1, w1 = wc := ⟨_, rfl⟩
        obtain ⟨v1, rfl⟩ : ∃ v1, v1 = u3 := ⟨_, rfl⟩
        obtain ⟨⟨p6, p0, p1, p2⟩, pb⟩ := HL2.out _ _ k1
        have HLS : Hid ((zs ++ nums x.f 1 1 ++ nums x.x 4 4).length + x.m.size ≤ 140737488355328) := by show _ ≤ _; simp only [List.length_append, nums_length]; have := HLN.out; have := HX8.out; omega
        have O1 : Hid (OwnB 5 w1 B v1 (zs ++ nums x.f 1 1 ++ nums x.x 4 4) ∧ Kp wi w1 v0 v1 ∧ B ≤ w1.heap.size) := ⟨o1, k1, Nat.le_trans HB0.out k1.size⟩
        clear o1 k1 pb
        go_wp2_with (at_builtin; go_must (refine list_str (by rfl) _ _ 22 9 (by rfl) Tryz.underlying22 Tryz.underlying9 hi hz0 hz1 hz2 B _ _ x.m _ (by rfl) (by rfl) O1.out.1 O1.out.2.2 HLS.out ?_; intro v5 w5 o5 k5))
        have O5 : Hid (OwnB 5 w5 B v5 (nums ((rs.length : Int) + 1) 1 1 ++ rsBs (rs.take (m + 1))) ∧ Below B wb w5) := ⟨by rw [HT.out, ← List.append_assoc, HZS.out]; unfold rdBs; simpa [List.append_assoc] using o5, (HL2.out _ _ (O1.out.2.1.trans k5)).2⟩
        exact ⟨⟨m + 1, by omega, by go_num, O5⟩, by simp [intOf]; omega⟩
      · obtain rfl : m = rs.length := by omega
        rw [List.take_length] at HM2 HLN
        clear hrow
        have HBW : Hid (Below bx w wi) := hbw
        clear hbw
        go_wp2_with fail
        refine (l02Request_any c st k l n wi (by omega)).mono ?_
        rintro e w3 ⟨v3, rfl, o3, b3⟩
        have b4 := box_old b3
        have O3 : Hid (OwnB 5 w3 B v0 (nums ((rs.length : Int) + 1) 1 1 ++ rsBs rs) ∧ B ≤ w3.heap.size ∧ RowB w3 v3 (reqBs c st k l n) ∧ Below bx w w3) := ⟨own_below HM2.out.1 b4, Nat.le_trans (Nat.le_trans HBL.out HM2.out.2.size) b4.size, own_rowB o3 (reqBs_range _ _ _ _ _), HBW.out.trans (b4.mono (by rw [← HBX.out]; exact (by rw [HBX.out]; exact HBW.out : Below w.heap.size w wi).size))⟩
        have HLE : Hid ((nums ((rs.length : Int) + 1) 1 1 ++ rsBs rs).length + (reqBs c st k l n).length ≤ 140737488355328) := by show _ ≤ _; have := HLN.out; rw [reqBs_length]; omega
        have HBB : Hid (bx ≤ B) := by show _ ≤ _; rw [← HBX.out, ← HB.out]; exact HWS.out
        clear o3 b3 b4 q1 q2 q3 q4 q5 q6
        go_wp2_with (at_builtin; go_must (refine list_row (by rfl) _ _ 22 (by rfl) Tryz.underlying22 hi hz0 hz1 hz2 B _ _ _ _ _ (by rfl) (by rfl) O3.out.1 O3.out.2.1 O3.out.2.2.1 HLE.out ?_; intro v5 w5 o5 k5))
        go_ret
        rw [HO.out, HBX.out]
        exact ⟨_, rfl, own_le o5 HBB.out, O3.out.2.2.2.trans ((k5.below O3.out.1 O3.out.2.1).mono HBB.out)⟩
end Go.Proofs.YtkfiahemgdppfaaGreatDoor.Bt

/- Messages that the source draws. -/
namespace Go.Proofs.YtkfiahemgdppfaaGreatDoor.Gn
open Go.RowKit Go.Proofs.YtkfiahemgdppfaaGreatDoor.Sl Go.Proofs.YtkfiahemgdppfaaGreatDoor.By Go.Proofs.YtkfiahemgdppfaaGreatDoor.Ap Go.Proofs.YtkfiahemgdppfaaGreatDoor.Rq Go.Proofs.YtkfiahemgdppfaaGreatDoor.Rr Go.Proofs.YtkfiahemgdppfaaGreatDoor.Ty Go.Proofs.YtkfiahemgdppfaaGreatDoor.Gr Go.Proofs.YtkfiahemgdppfaaGreatDoor.Bo Go.Proofs.YtkfiahemgdppfaaGreatDoor.Tkb Go.Proofs.YtkfiahemgdppfaaGreatDoor.Bt Go.Proofs.YtkfiahemgdppfaaGreatDoor.Lb Go.Proofs.YtkfiahemgdppfaaGreatDoor.Ms Go.Proofs.YtkfiahemgdppfaaGreatDoor.Pu Go.Proofs.YtkfiahemgdppfaaGreatDoor.Rp
open Go.Proofs.YtkfiahemgdppfaaGreatDoor.Rg (RowG RowG.slice RowG.at lt_at mem_at bel_new)

theorem Src.below {B p K : Nat} {w w' : World} {xs : List Int} (h : Src B w p xs K) (hB : B ≤ p) (hb : Below w.heap.size w w') : Src B w' p xs K :=
  h.kept (hb.block p h.lt) (fun k hk => hb.block k (by have := h.lt; omega))
theorem grown_below {w w1 w2 : World} {r : Option Nat} (h : w.grownBy w1 r) (hb : Below w1.heap.size w1 w2) : w.grownBy w2 r :=
  grown_trans h ⟨hb.os, hb.tape, hb.output, hb.size, fun k hk _ => hb.block k hk⟩
def l12 : List ByteArray := [⟨#[111, 110, 101]⟩, ⟨#[116, 119, 111]⟩]
theorem l12_len : ∀ k, k ≤ l12.length → lenTo l12 k ≤ 65536 := by
  intro k hk
  match k, hk with
  | 0, _ => decide
  | 1, _ => decide
  | 2, _ => decide
theorem l12_size : (strOfNums (listTo l12 l12.length)).size ≤ 20000 := by
  rw [strOfNums_size, listTo_length]; decide
theorem bat_size {nl : Bool} {c st k l : Int} {n : ByteArray} {rs : List Rd} (h : bOK nl c st k l n rs = true) : 0 < (strOfNums (batBs nl c st k l n rs)).size ∧ (strOfNums (batBs nl c st k l n rs)).size ≤ 20000 := by
  rw [strOfNums_size]
  cases nl with
  | true => exact ⟨(by show 0 < 1; decide), (by show 1 ≤ 20000; decide)⟩
  | false =>
    obtain ⟨h12, h7, h8, _, _⟩ := bOK_parts h
    have e : (batBs false c st k l n rs).length = 1 + 13 * rs.length + (7 + n.size) := by
      show (nums ((rs.length : Int) + 1) 1 1 ++ rsBs rs ++ reqBs c st k l n).length = _
      rw [List.length_append, List.length_append, nums_length, rsBs_len rs h8, reqBs_length]
    rw [e]
    omega
theorem bat_use {nl : Bool} {c st k l : Int} {n : ByteArray} {rs : List Rd} (h : bOK nl c st k l n rs = true) (hz : nl = true → c = 0 ∧ st = 0 ∧ k = 0 ∧ l = 0 ∧ n = ⟨#[]⟩ ∧ rs = []) : rs.length ≤ 7 ∧ (∀ x ∈ rs, x.m.size = 8) ∧ n.size ≤ 12 := by
  cases nl with
  | true => obtain ⟨_, _, _, _, rfl, rfl⟩ := hz rfl; exact ⟨by decide, (fun x hx => by cases hx), by decide⟩
  | false => obtain ⟨h12, h7, h8, _, _⟩ := bOK_parts h; exact ⟨h7, h8, h12⟩
theorem not_empty {s : ByteArray} (h : 0 < s.size) : (!s.toList.isEmpty) = true := by rw [Mp.empty_size, decide_eq_false (by omega)]; rfl
theorem msg_ok {kd vw sq fr : Int} {dg bd mc : ByteArray} (h1 : 0 ≤ vw ∧ vw ≤ 20) (h2 : 0 ≤ fr ∧ fr ≤ 6) (h3 : mc.size = 8) (h4 : bd.size ≤ 20000) (h5 : kindB kd sq dg bd = true) : msgB kd vw sq fr dg bd mc = true := by
  have e1 : inB vw 0 20 = true := decide_eq_true h1
  have e2 : inB fr 0 6 = true := decide_eq_true h2
  have e4 : decide ((bd.size : Int) ≤ 20000) = true := decide_eq_true (by omega)
  unfold msgB
  rw [e1, e2, h3, e4, h5]
  rfl
theorem place_ok {sq : Nat} {dg : ByteArray} (h1 : sq < 4) (h2 : dg.size = 32) : placeB (1 + (sq : Int)) dg = true := by
  have e1 : inB (1 + (sq : Int)) 1 8 = true := decide_eq_true ⟨by omega, by omega⟩
  unfold placeB
  rw [e1, h2]
  rfl
end Go.Proofs.YtkfiahemgdppfaaGreatDoor.Gn

/- Drawn certificates. -/
namespace Go.Proofs.YtkfiahemgdppfaaGreatDoor.Dc
open Go.RowKit Go.Proofs.YtkfiahemgdppfaaGreatDoor.Sl Go.Proofs.YtkfiahemgdppfaaGreatDoor.By Go.Proofs.YtkfiahemgdppfaaGreatDoor.Ap Go.Proofs.YtkfiahemgdppfaaGreatDoor.Rr Go.Proofs.YtkfiahemgdppfaaGreatDoor.Gn
open Go.Proofs.YtkfiahemgdppfaaGreatDoor.Gm (Mg Row)
open Go.Proofs.YtkfiahemgdppfaaGreatDoor.Tm (fCode fOut)
open Go.Proofs.YtkfiahemgdppfaaGreatDoor.Vt (crtB q_pos)
open Go.Proofs.YtkfiahemgdppfaaGreatDoor.Bd (dig l06Digest_any)
open Go.Proofs.YtkfiahemgdppfaaGreatDoor.Bw (bdP)
open Go.Proofs.YtkfiahemgdppfaaGreatDoor.Qm (qOut l06Quorum_any)
open Go.Proofs.YtkfiahemgdppfaaGreatDoor.Tkb (OwnR OwnR.row)
open Go.Proofs.YtkfiahemgdppfaaGreatDoor.Cb (crtV mOK)
open Go.Proofs.YtkfiahemgdppfaaGreatDoor.Rc (OwnM OwnM.row OwnM.kept OwnM.lt OwnM.below OwnM.mono OwnM.made cl cl_one info_m)
open Go.Proofs.YtkfiahemgdppfaaGreatDoor.Si (mmk l06Sign_any)
open Go.Proofs.YtkfiahemgdppfaaGreatDoor.Rg (RowG.slice lt_at mem_at bel_new)

theorem n_of {n f : Nat} (hn : n = 3 * f + 1) (hf : f ≤ 2) : fCode (n : Int) = 0 ∧ fOut (n : Int) = f ∧ qOut (n : Int) = 2 * (f : Int) + 1 := by
  have : f = 0 ∨ f = 1 ∨ f = 2 := by omega
  rcases this with rfl | rfl | rfl <;> subst hn <;> exact ⟨rfl, rfl, rfl⟩
theorem bel_grown {w w' : World} {p : Nat} (b : Below w.heap.size w w') : w.grownBy w' (some p) := ⟨b.os, b.tape, b.output, b.size, fun k hk _ => b.block k hk⟩
theorem src_bel {B p K : Nat} {w w' : World} {xs : List Int} (h : Gn.Src B w p xs K) (hB : B ≤ p) (b : Below w.heap.size w w') : Gn.Src B w' p xs K := h.kept (b.block p h.lt) (fun k hk => b.block k (by have := h.lt; omega))
set_option maxRecDepth 100000 in
set_option maxHeartbeats 1600000 in
theorem body_any (n f p B K : Nat) (xs : List Int) (w : World) (h : Gn.Src B w p xs K) (hB : B ≤ p) (hK : K ≤ 100000) (hx : xs.length ≤ 1048600) (hn : n = 3 * f + 1) (hf : f ≤ 2) :
    Calls Tryz.prog 82 #[.pointer (some ⟨p, 0, none⟩), .int .i64 n] w fun e w' => ∃ s, e = .returned (.string s) ∧ bdP n s = true ∧ Gn.Src B w' p xs (K + 15) ∧ w.grownBy w' (some p) := by
  obtain ⟨hf0, hf1, _⟩ := n_of hn hf
  have HN : Hid (∀ _ : Unit, n = 3 * f + 1) := fun _ => hn
  have HS : Hid (Gn.Src B w p xs K) := h
  have HFF : Hid (fCode (n : Int) = 0 ∧ fOut (n : Int) = f) := ⟨hf0, hf1⟩
  clear hn h hf0 hf1
  go_enter Tryz.func82, Tryz.ntmps82
  go_wp2_with fail
  refine (chance_any 6 p B K xs _ HS.out hB (by omega) hx (by decide) (by decide)).mono ?_
  rintro e w1 ⟨b, rfl, s1, g1⟩
  have S1 : Hid (Gn.Src B w1 p xs (K + 1) ∧ w.grownBy w1 (some p)) := ⟨s1, g1⟩
  clear s1 g1
  cases b with
  | true =>
    have HE : Hid (bdP n ⟨#[0]⟩ = true ∧ Gn.Src B w1 p xs (K + 15)) := ⟨body_null n, S1.out.1.le (by omega)⟩
    go_wp2_with fail
    go_ret
    exact ⟨_, rfl, HE.out.1, HE.out.2, S1.out.2⟩
  | false =>
    go_wp2_with fail
    refine (request_any p B (K + 1) xs _ S1.out.1 hB (by omega) hx).mono ?_
    rintro e w2 ⟨c, st, k, l, nm, rfl, hq, s2, g2⟩
    have S2 : Hid (Gn.Src B w2 p xs (K + 1 + 5) ∧ w.grownBy w2 (some p)) := ⟨s2, grown_trans S1.out.2 g2⟩
    have HQ : Hid (Rq.reqB c st k l nm = true) := hq
    clear s2 g2 S1 hq
    go_wp2_with fail
    refine (Ag.readings_any n f p B (K + 1 + 5) xs _ S2.out.1 hB (by omega) hx (HN.out ()) hf).mono ?_
    rintro e w3 ⟨v3, us, rfl, o3, hl, hfi, s3, g3⟩
    have S3 : Hid (Gn.Src B w3 p xs (K + 1 + 5 + 9) ∧ w.grownBy w3 (some p)) := ⟨s3, grown_trans S2.out.2 g3⟩
    obtain ⟨hbd, hbk⟩ := body_ok HFF.out.1 HQ.out hfi (by rw [HFF.out.2]; omega)
    obtain ⟨p1, p2, p3, _, _⟩ := Bt.bOK_parts hbk
    have HB := Bt.l02Batch_any false c st k l nm v3 us w3 (OwnR.row o3) p2 p3 p1
    have HBD : Hid (bdP n (strOfNums (Bt.batBs false c st k l nm us)) = true) := hbd
    have HBR : Hid (∀ z ∈ Bt.batBs false c st k l nm us, 0 ≤ z ∧ z ≤ 255) := Bt.batBs_range _ _ _ _ _ _ _
    obtain ⟨ra, rcap, rfl⟩ := RowG.slice (OwnR.row o3)
    generalize Bt.batBs false c st k l nm us = bs at HB HBD HBR
    unfold Bo.batV at HB
    clear o3 hl hfi s3 g3 S2 hbd hbk p1 p2 p3
    go_wp2_with fail
    refine HB.mono ?_
    rintro e w4 ⟨v4, rfl, o4, b4⟩
    have hc := run_convert_row (P := Tryz.prog) w4 w4.heap.size 22 5 9 Tryz.underlying22 Tryz.underlying5 Tryz.underlying9 v4 bs (RowU.of (own_rowB o4 HBR.out))
    have S4 : Hid (Gn.Src B w4 p xs (K + 15) ∧ w.grownBy w4 (some p)) := ⟨(src_bel S3.out.1 hB b4).le (by omega), grown_trans S3.out.2 (bel_grown b4)⟩
    clear o4 b4 HB
    go_wp2_with fail
    go_ret
    exact ⟨_, rfl, HBD.out, S4.out.1, S4.out.2⟩
end Go.Proofs.YtkfiahemgdppfaaGreatDoor.Dc

/- Drawn certificates: the walk. -/
namespace Go.Proofs.YtkfiahemgdppfaaGreatDoor.Dc
open Go.RowKit Go.Proofs.YtkfiahemgdppfaaGreatDoor.Sl Go.Proofs.YtkfiahemgdppfaaGreatDoor.By Go.Proofs.YtkfiahemgdppfaaGreatDoor.Ap Go.Proofs.YtkfiahemgdppfaaGreatDoor.Rr Go.Proofs.YtkfiahemgdppfaaGreatDoor.Gn
open Go.Proofs.YtkfiahemgdppfaaGreatDoor.Gm (Mg Row)
open Go.Proofs.YtkfiahemgdppfaaGreatDoor.Tm (fCode fOut)
open Go.Proofs.YtkfiahemgdppfaaGreatDoor.Vt (crtB q_pos)
open Go.Proofs.YtkfiahemgdppfaaGreatDoor.Bd (dig l06Digest_any)
open Go.Proofs.YtkfiahemgdppfaaGreatDoor.Bw (bdP)
open Go.Proofs.YtkfiahemgdppfaaGreatDoor.Qm (qOut l06Quorum_any)
open Go.Proofs.YtkfiahemgdppfaaGreatDoor.Cb (crtV mOK)
open Go.Proofs.YtkfiahemgdppfaaGreatDoor.Rc (OwnM OwnM.row OwnM.kept OwnM.lt OwnM.below OwnM.mono OwnM.made OwnM.alloc cl cl_one info_m)
open Go.Proofs.YtkfiahemgdppfaaGreatDoor.Si (mmk l06Sign_any)
open Go.Proofs.YtkfiahemgdppfaaGreatDoor.Rg (RowG.slice lt_at mem_at bel_new size_new)

theorem ownm_ne {w : World} {B x : Nat} {v : Value} {ms : List Mg} {cs : Array Value} (h : OwnM w B v ms) (hx : w.heap[x]? = some (.cells cs 37 (0, 0))) : some x ≠ v.ownBlock := by
  intro e
  obtain ⟨_, h | ⟨g', cap', cur, he, _, hgg, _⟩⟩ := h
  · rw [h.1] at e; simp [Value.ownBlock] at e
  · rw [he] at e
    simp [Value.ownBlock] at e
    subst e
    rw [hx] at hgg
    simp at hgg
theorem ownm_kept {w w' : World} {B p : Nat} {v : Value} {ms : List Mg} (h : OwnM w B v ms) (hg : w.grownBy w' (some p)) (hp : p < B) : OwnM w' B v ms :=
  h.kept fun g hb => hg.block g (h.lt g hb).2 (fun e => by have := (h.lt g hb).1; simp at e; omega)
theorem ownm_set {w : World} {B b : Nat} {v : Value} {ms : List Mg} (h : OwnM w B v ms) (hb : b < B) (i : Nat) (x : Value) : OwnM (w.setCell ⟨b, i, none⟩ x) B v ms :=
  h.kept fun g hg => blk_far (by have := (h.lt g hg).1; omega) i x
/-- While a certificate is drawn: its box x, the answer's box, the prepares so far (in blocks from y on), the source. -/
structure Dq (w w' : World) (p B x y : Nat) (bd : ByteArray) (v : Value) (ms : List Mg) (xs : List Int) (K : Nat) : Prop where
  hx : w'.heap[x]? = some (.cells #[.string bd, v] 37 (0, 0))
  ha : w'.heap[w.heap.size]? = some (.cells #[.string ⟨#[]⟩, .slice none 0 0] 37 (0, 0))
  own : OwnM w' y v ms
  rd : Gn.Src B w' p xs K
  gr : w.grownBy w' (some p)
  lt : w.heap.size < x ∧ w.heap.size < y ∧ y ≤ x ∧ p < w.heap.size ∧ B ≤ p
theorem Dq.drew {w w' : World} {p B x y : Nat} {bd : ByteArray} {v : Value} {ms : List Mg} {xs : List Int} {K : Nat} (h : Dq w w' p B x y bd v ms xs K) : Dq w w'.drew p B x y bd v ms xs K :=
  ⟨h.hx, h.ha, h.own, h.rd, ⟨h.gr.os, h.gr.tape, h.gr.output, h.gr.size, h.gr.block⟩, h.lt⟩
theorem Dq.grown {w w' w2 : World} {p B x y : Nat} {bd : ByteArray} {v : Value} {ms : List Mg} {xs : List Int} {K K2 : Nat} (h : Dq w w' p B x y bd v ms xs K) (hg : w'.grownBy w2 (some p)) (hr : Gn.Src B w2 p xs K2) : Dq w w2 p B x y bd v ms xs K2 :=
  ⟨blk_kept h.hx hg (by have := h.lt; omega), blk_kept h.ha hg (by have := h.lt; omega), ownm_kept h.own hg (by have := h.lt; omega), hr, grown_trans h.gr hg, h.lt⟩
theorem Dq.below {w w' w2 : World} {p B x y : Nat} {bd : ByteArray} {v : Value} {ms : List Mg} {xs : List Int} {K : Nat} (h : Dq w w' p B x y bd v ms xs K) (hb : Below w'.heap.size w' w2) : Dq w w2 p B x y bd v ms xs K :=
  h.grown ⟨hb.os, hb.tape, hb.output, hb.size, fun k hk _ => hb.block k hk⟩ (h.rd.kept (hb.block p h.rd.lt) (fun k hk => hb.block k (by have := h.rd.lt; have := h.lt; omega)))
theorem Dq.alloc {w w' : World} {p B x y : Nat} {bd : ByteArray} {v : Value} {ms : List Mg} {xs : List Int} {K : Nat} (h : Dq w w' p B x y bd v ms xs K) (o : Obj) : Dq w (w'.alloc o) p B x y bd v ms xs K :=
  h.below (bel_new _ _)
theorem Dq.c0 {w w' : World} {p B x y : Nat} {bd : ByteArray} {v : Value} {ms : List Mg} {xs : List Int} {K : Nat} (h : Dq w w' p B x y bd v ms xs K) : w'.cell? ⟨x, 0, none⟩ = some (.string bd) := (blk_cell h.hx 0 (x := .string bd) rfl).1
theorem Dq.c1 {w w' : World} {p B x y : Nat} {bd : ByteArray} {v : Value} {ms : List Mg} {xs : List Int} {K : Nat} (h : Dq w w' p B x y bd v ms xs K) : w'.cell? ⟨x, 1, none⟩ = some v := (blk_cell h.hx 1 (x := v) rfl).1
structure Dr (w w' : World) (p B x y : Nat) (bd : ByteArray) (v v' : Value) (ms : List Mg) (xs : List Int) (K : Nat) : Prop where
  hx : w'.heap[x]? = some (.cells #[.string bd, v] 37 (0, 0))
  ha : w'.heap[w.heap.size]? = some (.cells #[.string ⟨#[]⟩, .slice none 0 0] 37 (0, 0))
  own : OwnM w' y v' ms
  rd : Gn.Src B w' p xs K
  gr : w.grownBy w' (some p)
  lt : w.heap.size < x ∧ w.heap.size < y ∧ y ≤ x ∧ p < w.heap.size ∧ B ≤ p
theorem Dr.c1 {w w' : World} {p B x y : Nat} {bd : ByteArray} {v v' : Value} {ms : List Mg} {xs : List Int} {K : Nat} (h : Dr w w' p B x y bd v v' ms xs K) : w'.cell? ⟨x, 1, none⟩ = some v ∧ w'.frozen? ⟨x, 1, none⟩ = false := blk_cell h.hx 1 (x := v) rfl
theorem Dr.c0 {w w' : World} {p B x y : Nat} {bd : ByteArray} {v v' : Value} {ms : List Mg} {xs : List Int} {K : Nat} (h : Dr w w' p B x y bd v v' ms xs K) : w'.cell? ⟨x, 0, none⟩ = some (.string bd) := (blk_cell h.hx 0 (x := .string bd) rfl).1
theorem Dr.set {w w' : World} {p B x y : Nat} {bd : ByteArray} {v v' : Value} {ms : List Mg} {xs : List Int} {K : Nat} (h : Dr w w' p B x y bd v v' ms xs K) : Dq w (w'.setCell ⟨x, 1, none⟩ v') p B x y bd v' ms xs K :=
  ⟨blk_set h.hx 1 v', (blk_far (by have := h.lt; omega) 1 v').trans h.ha, h.own.kept (fun g hg => blk_far (fun e => ownm_ne h.own h.hx (by rw [hg, e])) 1 v'), Gn.Src.set h.rd (by have := h.lt; omega) (by have := h.lt; omega) 1 v', grown_new h.gr (by have := h.lt; omega) 1 v', h.lt⟩
theorem step_dq {P : Program} {ops : Array Oper} {o : Oper} {a : Act} {K : Act → World → Prop} {Q : Exit → Act → World → Prop} {E : Prop} {i : TypeInfo} (hgd : o.guard = none) (s z : Operand) (t : TypeId) (ho : o.op = .call { callee := .builtin .append, args := #[s, z], argTypes := #[t, t] }) (ht : P.underlying t = some (.slice 26)) (hi : P.info? 26 = some i) (hz : i.zero = some (.agg #[.int .i64 0, .int .i64 0, .int .i64 0, .int .i64 0, .string ⟨#[]⟩, .string ⟨#[]⟩, .string ⟨#[]⟩]))
    (hsize : i.size = 7) (hby : i.bytes = 80) (W w : World) (p B x y : Nat) (bd : ByteArray) (v : Value) (ms : List Mg) (xs : List Int) (K0 : Nat) (m : Mg) (hs : a.eval s = v) (gx : Nat) (hx : a.eval z = .slice (some ⟨gx, 0, none⟩) 1 1) (hbx : W.heap[gx]? = some (.cells #[.int .i64 m.kd, .int .i64 m.vw, .int .i64 m.sq, .int .i64 m.fr, .string m.dg, .string m.bd, .string m.mc] 26 (0, 0)))
    (htb : Dq w W p B x y bd v ms xs K0) (hlen : ms.length ≤ 1000000)
    (h : ∀ v' w', Dr w w' p B x y bd v v' (ms ++ [m]) xs K0 → K (a.put o.dst v') w') : if Region.wanted o (yielded ops a.tmps) = true then Oper.wp P o a W K Q else E := by
  have hw : Region.wanted o (yielded ops a.tmps) = true := by simp [Region.wanted, hgd]
  rw [if_pos hw]
  have hxl := (Array.getElem?_eq_some_iff.1 htb.hx).1
  obtain ⟨v', w', hr, h2, h3, _, h5⟩ := run_append_own_at (P := P) W y t o.type 26 i _ 7 80 ht hi hz hsize hby rfl (by decide) v ms.length _ htb.own ⟨gx, 0, none⟩ 1 1 (cl m) rfl (by
    intro j u hj
    have e2 : (⟨gx, 0, none⟩ : Addr).add j = ⟨gx, j, none⟩ := by unfold Addr.add; split <;> simp_all
    rw [e2, Joins.cell_of_block hbx, ← hj]
    simp [cl]) (cl_one m) (by unfold maxLen; omega) (by have := htb.lt; omega) (by have := htb.lt; omega)
  have far : ∀ k, k < y ∨ k = x → k < W.heap.size → w'.heap[k]? = W.heap[k]? := fun k hk hkl => h3.block k hkl (fun e => by
    rcases hk with hk | rfl
    · have := (htb.own.lt k e.symm).1; omega
    · exact ownm_ne htb.own htb.hx e)
  refine wp_app ho hs hx hr (h v' w' ⟨(far x (.inr rfl) hxl).trans htb.hx, (far _ (.inl (by have := htb.lt; omega)) (Nat.lt_of_lt_of_le htb.lt.1 (Nat.le_of_lt hxl))).trans htb.ha, by unfold OwnM; rw [List.flatMap_append, List.length_append]; simpa using h2, htb.rd.kept (far p (.inl (by have := htb.lt; omega)) htb.rd.lt) (fun k hk => far k (.inl (by have := htb.lt; omega)) (by have := htb.lt; have := htb.rd.lt; omega)), ⟨h3.os.trans htb.gr.os, h3.tape.trans htb.gr.tape, h3.output.trans htb.gr.output, Nat.le_trans htb.gr.size h3.size, fun k hk hn => (far k (.inl (by have := htb.lt; omega)) (Nat.lt_of_lt_of_le hk htb.gr.size)).trans (htb.gr.block k hk hn)⟩, htb.lt⟩)
theorem body_size {n : Int} {s : ByteArray} (h : bdP n s = true) : s.size ≤ 20000 := by
  unfold bdP at h
  rw [Bool.and_eq_true] at h
  exact of_decide_eq_true h.1
theorem dig_size {s : ByteArray} (h : s.size ≤ 20000) : (dig s).size = 32 := by
  unfold dig Sh.hashS
  have hl : (bys Bd.bBt ++ bys s).length = 5 + s.size := by rw [List.length_append, bys_length, bys_length]; rfl
  rw [if_neg (by omega)]
  exact Gn.sha_size _
end Go.Proofs.YtkfiahemgdppfaaGreatDoor.Dc

/- Drawn certificates: the walk. -/
namespace Go.Proofs.YtkfiahemgdppfaaGreatDoor.Dc
open Go.RowKit Go.Proofs.YtkfiahemgdppfaaGreatDoor.Sl Go.Proofs.YtkfiahemgdppfaaGreatDoor.By Go.Proofs.YtkfiahemgdppfaaGreatDoor.Ap Go.Proofs.YtkfiahemgdppfaaGreatDoor.Rr Go.Proofs.YtkfiahemgdppfaaGreatDoor.Gn
open Go.Proofs.YtkfiahemgdppfaaGreatDoor.Gm (Mg Row)
open Go.Proofs.YtkfiahemgdppfaaGreatDoor.Tm (fCode fOut)
open Go.Proofs.YtkfiahemgdppfaaGreatDoor.Vt (crtB q_pos)
open Go.Proofs.YtkfiahemgdppfaaGreatDoor.Bd (dig l06Digest_any)
open Go.Proofs.YtkfiahemgdppfaaGreatDoor.Bw (bdP)
open Go.Proofs.YtkfiahemgdppfaaGreatDoor.Qm (qOut l06Quorum_any)
open Go.Proofs.YtkfiahemgdppfaaGreatDoor.Cb (crtV mOK)
open Go.Proofs.YtkfiahemgdppfaaGreatDoor.Rc (OwnM OwnM.row OwnM.kept OwnM.lt OwnM.below OwnM.mono OwnM.made OwnM.alloc cl cl_one info_m)
open Go.Proofs.YtkfiahemgdppfaaGreatDoor.Si (mmk l06Sign_any)
open Go.Proofs.YtkfiahemgdppfaaGreatDoor.Rg (RowG.slice lt_at mem_at bel_new size_new)

theorem Vs8.le {n vw sq : Int} {d : ByteArray} {i i' : Nat} {ms : List Mg} (h : Vs8 n vw sq d i ms) (hi : i ≤ i') : Vs8 n vw sq d i' ms := ⟨fun x hx => by obtain ⟨j, h1, h2, h3⟩ := h.all x hx; exact ⟨j, h1, by omega, h3⟩, h.rise⟩
set_option maxRecDepth 100000 in
set_option maxHeartbeats 3200000 in
theorem cert_any (n f p B K : Nat) (vw sq : Int) (xs : List Int) (w : World) (h : Gn.Src B w p xs K) (hB : B ≤ p) (hK : K ≤ 50000) (hx : xs.length ≤ 1048600) (hn : n = 3 * f + 1) (hf : f ≤ 2) (hv : 0 ≤ vw ∧ vw ≤ 20) (hs : 1 ≤ sq ∧ sq ≤ 8) :
    Calls Tryz.prog 52 #[.pointer (some ⟨p, 0, none⟩), .int .i64 n, .int .i64 vw, .int .i64 sq] w fun e w' => ∃ bd v ms, e = .returned (.agg #[.string bd, v]) ∧ OwnM w' w.heap.size v ms ∧ bdP n bd = true ∧ ms.length = 2 * f + 1 ∧ Vs8 n vw sq (dig bd) 7 ms ∧ Gn.Src B w' p xs (K + 16) ∧ w.grownBy w' (some p) := by
  have hp := h.lt
  obtain ⟨i0, hi0, hz0, hz1, hz2⟩ := info_parts info_m
  obtain ⟨hf0, hf1, hf2⟩ := n_of hn hf
  have HQM : Hid (∀ W, Calls Tryz.prog 24 #[.int .i64 n] W fun e w' => e = .returned (.int .i64 (2 * (f : Int) + 1)) ∧ W = w') := fun W => by
    have := l06Quorum_any n W hf0
    rw [hf2] at this
    exact this
  have hn7 : n ≤ 7 := by omega
  have hn1 : 1 ≤ n := by omega
  have HN : Hid (∀ _ : Unit, n = 3 * f + 1) := fun _ => hn
  have HV : Hid ((0 ≤ vw ∧ vw ≤ 20) ∧ (1 ≤ sq ∧ sq ≤ 8)) := ⟨hv, hs⟩
  have S0 : Hid (Gn.Src B (w.alloc (.cells #[.string ⟨#[]⟩, .slice none 0 0] 37)) p xs K) := h.alloc hB _
  have G0 : Hid (w.grownBy (w.alloc (.cells #[.string ⟨#[]⟩, .slice none 0 0] 37)) (some p)) := grown_alloc (grown_refl _ _) _
  have A0 : Hid ((w.alloc (.cells #[.string ⟨#[]⟩, .slice none 0 0] 37)).heap[w.heap.size]? = some (.cells #[.string ⟨#[]⟩, .slice none 0 0] 37 (0, 0))) := blk_new _ _ _
  clear h hn hf0 hf1 hf2 hv hs
  go_enter Tryz.func52, Tryz.ntmps52
  go_wp2_with fail
  refine (body_any n f p B K xs _ S0.out hB (by omega) hx (HN.out ()) hf).mono ?_
  rintro e w1 ⟨bd, rfl, hbd, s1, g1⟩
  have a1 := blk_kept A0.out g1 (by omega)
  have l1 : w.heap.size < w1.heap.size := (Array.getElem?_eq_some_iff.1 a1).1
  have HBD : Hid (bdP n bd = true) := hbd
  have T0 : Hid (Dq w ((w1.alloc (.cells #[] 26)).alloc (.cells #[.string bd, .slice (some ⟨w1.heap.size, 0, none⟩) 0 0] 37)) p B (w1.heap.size + 1) (w.heap.size + 1) bd (.slice (some ⟨w1.heap.size, 0, none⟩) 0 0) [] xs (K + 15)) := by
    refine ⟨?_, ?_, ?_, ?_, ?_, ?_⟩
    · have := blk_new (w1.alloc (.cells #[] 26)) #[.string bd, .slice (some ⟨w1.heap.size, 0, none⟩) 0 0] 37
      rw [size_new] at this
      exact this
    · exact ((Below.heap_alloc _ _ _ (by rw [size_new]; omega)).trans (Below.heap_alloc _ _ _ l1)).trans a1
    · exact (OwnM.made w1 (w.heap.size + 1) l1).alloc _
    · exact (s1.alloc hB _).alloc hB _
    · exact grown_alloc (grown_alloc (grown_trans G0.out g1) _) _
    · exact ⟨by omega, by omega, by omega, hp, hB⟩
  clear a1 s1 g1 S0 G0 A0 hbd
  go_upto_region 2 with fail
  generalize (w1.alloc (.cells #[] 26)).alloc (.cells #[.string bd, .slice (some ⟨w1.heap.size, 0, none⟩) 0 0] 37) = w2 at T0 ⊢
  generalize w1.heap.size + 1 = x at T0 ⊢
  go_wp2_with fail
  refine (next_any n p B (K + 15) xs _ T0.out.rd hB (by omega) hx (by omega) (by omega)).mono ?_
  rintro e w3 ⟨sk, rfl, hsk, s3, g3⟩
  have T3 : Hid (Dq w w3 p B x (w.heap.size + 1) bd (.slice (some ⟨w1.heap.size, 0, none⟩) 0 0) [] xs (K + 16)) := T0.out.grown g3 s3
  clear T0 s3 g3
  generalize Value.slice (some ⟨w1.heap.size, 0, none⟩) 0 0 = v3 at T3
  clear l1
  have HD : Hid (∃ D, dig bd = D ∧ D.size = 32) := ⟨_, rfl, dig_size (body_size HBD.out)⟩
  obtain ⟨D, hD, hD2⟩ := HD.out
  have HDD : Hid (dig bd = D ∧ D.size = 32) := ⟨hD, hD2⟩
  clear HD hD hD2
  go_upto_region 4 with fail
  go_loopw [11] (fun i wr => ∃ (j : Nat) (v : Value) (ms : List Mg), i = .int .i64 (j : Int) ∧ Hid (Dq w wr p B x (w.heap.size + 1) bd v ms xs (K + 16)) ∧ Hid (ms.length + (if sk < j ∧ 1 < n then 1 else 0) = j ∧ ms.length ≤ 2 * f + 1) ∧ Hid (Vs8 n vw sq D j ms)) (fun i _ => 8 - (intOf i).toNat)
  case atStart => exact ⟨0, _, [], rfl, T3, ⟨by simp, by simp⟩, Vs8.nil _ _ _ _⟩
  case round =>
    clear T3
    obtain ⟨j, v, ms, rfl, HT, HC, HF⟩ := hrel
    obtain ⟨ao, co, rfl⟩ := RowG.slice (OwnM.row HT.out.own)
    have hc1 := HC.out.1
    have hc2 := HC.out.2
    have t1 := HT.out.c1
    obtain ⟨X, hX, W, QI0, QO0⟩ := Qc.klass wr
    have QI : Hid (∀ w', Below wr.heap.size wr w' → ∃ x, w' = W x) := QI0
    have QO : Hid (∀ x, Below wr.heap.size wr (W x)) := QO0
    clear QI0 QO0
    have y1 := Qc.cell_all QO.out t1
    clear t1
    go_upto_region 4 with fail
    refine Qc.region_class (W := W) (by kernel_rfl) (by kernel_rfl) (QI.out _ Qc.from_drew) ?_
    repeat (go_big_quiet_step (first | (go_at_call 24; refine (HQM.out _).mono ?_; rintro e w2 ⟨rfl, rfl⟩; exact ⟨rfl, ⟨_, rfl⟩⟩)))
    refine wpQuiet_nil ?_
    rintro _ ⟨xq, rfl⟩
    have T4 : Hid (Dq w (W xq) p B x (w.heap.size + 1) bd (.slice ao ms.length co) ms xs (K + 16)) := HT.out.below (QO.out xq)
    clear y1 QI QO HT
    generalize W xq = w4 at T4 ⊢

    by_cases hlt : ms.length < 2 * f + 1
    · have hlt' : (ms.length : Int) < 2 * (f : Int) + 1 := by omega
      have hj6 : j ≤ 6 ∧ (j < n ∨ j = sk) := by
        have hn := HN.out ()
        by_cases hs : sk < j ∧ 1 < n
        · rw [if_pos hs] at hc1; omega
        · rw [if_neg hs] at hc1; omega
      by_cases hsk2 : j = sk ∧ 1 < n
      · obtain ⟨rfl, h1n⟩ := hsk2
        have q2 : ((n : Int) == 1) = false := by simp; omega
        have hj6' := hj6.1
        have HC2 : Hid (ms.length + (if j < j + 1 ∧ 1 < n then 1 else 0) = j + 1 ∧ ms.length ≤ 2 * f + 1) := by
          refine ⟨?_, hc2⟩
          rw [if_neg (by omega)] at hc1
          rw [if_pos (by omega)]
          omega
        have HF2 : Hid (Vs8 n vw sq D (j + 1) ms) := HF.out.skip
        clear hc1 hc2 HC HF hj6
        go_wp2_with fail
        exact ⟨⟨j + 1, _, ms, by go_num, T4, HC2, HF2⟩, by simp [intOf]; omega⟩
      · have hjn : j < n := by
          have hn := HN.out ()
          by_cases hs : sk < j ∧ 1 < n
          · rw [if_pos hs] at hc1; omega
          · rw [if_neg hs] at hc1; omega
        have HC2 : Hid (∀ z : Mg, (ms ++ [z]).length + (if sk < j + 1 ∧ 1 < n then 1 else 0) = j + 1 ∧ (ms ++ [z]).length ≤ 2 * f + 1) := fun z => by
          rw [List.length_append]
          simp only [List.length_cons, List.length_nil]
          by_cases hs : sk < j ∧ 1 < n
          · rw [if_pos hs] at hc1; rw [if_pos (by omega)]; omega
          · rw [if_neg hs] at hc1; rw [if_neg (by omega)]; omega
        have HJ : Hid (∀ _ : Unit, j ≤ 6 ∧ j < n) := fun _ => ⟨hj6.1, hjn⟩
        have hjb := hj6.1
        have HLN : Hid (ms.length ≤ 1000000) := by show _ ≤ _; omega
        have hF2 : Vs8 n vw sq D (j + 1) (ms ++ [pm vw sq D j]) := HF.out.snoc (by omega) (by omega)
        have HSG0 := fun W => l06Sign_any 2 vw sq j 0 D ⟨#[]⟩ ⟨#[]⟩ W (by omega) (by have := HDD.out.2; omega) (by decide)
        unfold pm at hF2
        unfold Ms.msgV at HSG0
        obtain ⟨mk, HM⟩ : ∃ mk, Hid (mmk 2 vw sq j D ⟨#[]⟩ = mk) := ⟨_, rfl⟩
        rw [HM.out] at hF2
        have HF2 : Hid (Vs8 n vw sq D (j + 1) (ms ++ [⟨2, vw, sq, (j : Int), D, ⟨#[]⟩, mk⟩])) := hF2
        have HSG : Hid (∀ W, Dq w W p B x (w.heap.size + 1) bd (.slice ao ms.length co) ms xs (K + 16) → Calls Tryz.prog 54 #[.int .i64 j, .agg #[.int .i64 2, .int .i64 vw, .int .i64 sq, .int .i64 0, .string D, .string ⟨#[]⟩, .string ⟨#[]⟩]] W fun e w' => e = .returned (.agg #[.int .i64 2, .int .i64 vw, .int .i64 sq, .int .i64 j, .string D, .string ⟨#[]⟩, .string mk]) ∧ Dq w w' p B x (w.heap.size + 1) bd (.slice ao ms.length co) ms xs (K + 16)) := fun W hW => by
          refine (HSG0 W).mono ?_
          rintro e w' ⟨rfl, b⟩
          rw [HM.out]
          exact ⟨rfl, hW.below b⟩
        have HDG : Hid (∀ W, Dq w W p B x (w.heap.size + 1) bd (.slice ao ms.length co) ms xs (K + 16) → Calls Tryz.prog 67 #[.string bd] W fun e w' => e = .returned (.string D) ∧ Dq w w' p B x (w.heap.size + 1) bd (.slice ao ms.length co) ms xs (K + 16)) := fun W hW => by
          refine (l06Digest_any bd W (by have := body_size HBD.out; omega)).mono ?_
          rintro e w' ⟨rfl, b⟩
          rw [HDD.out.1]
          exact ⟨rfl, hW.below b⟩
        have T5b := T4.out
        have u0 := And.intro T5b.c0 T5b.c1
        have u1 := And.intro (Dq.c0 T5b.drew) (Dq.c1 T5b.drew)
        clear hc1 hc2 HC hF2 HSG0 T4
        by_cases e : j = sk
        · have q2 : ((n : Int) == 1) = true := by simp; omega
          subst e
          clear hsk2 hjn hlt hj6 hsk hn7 hn1 hp hK hx
          go_upto_region 7 with fail
          go_region_law
            (first
              | (go_simp; go_at_call 67; (with_reducible refine (HDG.out _ (by first | assumption | exact Dq.drew (by assumption) | exact Dq.alloc (by assumption) _ | exact Dq.drew (Dq.alloc (by assumption) _) | exact Dq.alloc (Dq.drew (by assumption)) _)).mono ?_); rintro e wn ⟨rfl, tn⟩; have qn0 := tn.c0; have qn1 := tn.c1; have qa0 := fun o => Dq.c0 (tn.alloc o); have qa1 := fun o => Dq.c1 (tn.alloc o); have qd0 := Dq.c0 tn.drew; have qd1 := Dq.c1 tn.drew; try go_simp)
              | (go_simp; go_at_call 54; (with_reducible refine (HSG.out _ (by first | assumption | exact Dq.drew (by assumption) | exact Dq.alloc (by assumption) _ | exact Dq.drew (Dq.alloc (by assumption) _) | exact Dq.alloc (Dq.drew (by assumption)) _)).mono ?_); rintro e wh ⟨rfl, th⟩; have qh0 := th.c0; have qh1 := th.c1; have qha0 := fun o => Dq.c0 (th.alloc o); have qha1 := fun o => Dq.c1 (th.alloc o); have qhd0 := Dq.c0 th.drew; have qhd1 := Dq.c1 th.drew; try go_simp)
              | (refine step_dq (by rfl) _ _ 24 (by rfl) Tryz.underlying24 hi0 hz0 hz1 hz2 _ w p B x _ _ _ ms xs _ ⟨2, vw, sq, (j : Int), D, ⟨#[]⟩, mk⟩ (by rfl) _ (by rfl) (by first | exact heap_alloc_new _ _ | exact (heap_alloc_new _ _ : (World.alloc _ _).drew.heap[_]? = _)) (by first | assumption | exact Dq.drew (by assumption) | exact Dq.alloc (by assumption) _ | exact Dq.drew (Dq.alloc (by assumption) _) | exact Dq.alloc (Dq.drew (by assumption)) _) HLN.out ?_; intro v5 w5 t5; obtain ⟨a5, cap5, rfl⟩ := RowG.slice (OwnM.row t5.own); obtain ⟨s5, f5⟩ := t5.c1; try go_simp))
          all_goals
            rw [show (ms ++ [(⟨2, vw, sq, (j : Int), D, ⟨#[]⟩, mk⟩ : Mg)]).length = ms.length + 1 by simp] at t5
            have T5 : Hid (Dq w (w5.setCell ⟨x, 1, none⟩ (.slice a5 (ms.length + 1) cap5)) p B x (w.heap.size + 1) bd (.slice a5 (ms.length + 1) cap5) (ms ++ [⟨2, vw, sq, (j : Int), D, ⟨#[]⟩, mk⟩]) xs (K + 16)) := t5.set
            clear t5 T5b u0 u1 tn th qn0 qn1 qa0 qa1 qd0 qd1 qh0 qh1 qha0 qha1 qhd0 qhd1 s5 f5
            generalize w5.setCell ⟨x, 1, none⟩ (.slice a5 (ms.length + 1) cap5) = w6 at T5 ⊢
            go_wp2_with fail
            exact ⟨⟨j + 1, _, _, by go_num, T5, HC2.out _, HF2⟩, by have := (HJ.out ()).1; simp [intOf]; omega⟩
        · have q1 : ((j : Int) == (sk : Int)) = false := by simp; omega
          have q1' : ((j : Int) != (sk : Int)) = true := by simp; omega
          clear hsk2 hjn hlt e hj6 hsk hn7 hn1 hp hK hx
          go_upto_region 7 with fail
          go_region_law
            (first
              | (go_simp; go_at_call 67; (with_reducible refine (HDG.out _ (by first | assumption | exact Dq.drew (by assumption) | exact Dq.alloc (by assumption) _ | exact Dq.drew (Dq.alloc (by assumption) _) | exact Dq.alloc (Dq.drew (by assumption)) _)).mono ?_); rintro e wn ⟨rfl, tn⟩; have qn0 := tn.c0; have qn1 := tn.c1; have qa0 := fun o => Dq.c0 (tn.alloc o); have qa1 := fun o => Dq.c1 (tn.alloc o); have qd0 := Dq.c0 tn.drew; have qd1 := Dq.c1 tn.drew; try go_simp)
              | (go_simp; go_at_call 54; (with_reducible refine (HSG.out _ (by first | assumption | exact Dq.drew (by assumption) | exact Dq.alloc (by assumption) _ | exact Dq.drew (Dq.alloc (by assumption) _) | exact Dq.alloc (Dq.drew (by assumption)) _)).mono ?_); rintro e wh ⟨rfl, th⟩; have qh0 := th.c0; have qh1 := th.c1; have qha0 := fun o => Dq.c0 (th.alloc o); have qha1 := fun o => Dq.c1 (th.alloc o); have qhd0 := Dq.c0 th.drew; have qhd1 := Dq.c1 th.drew; try go_simp)
              | (refine step_dq (by rfl) _ _ 24 (by rfl) Tryz.underlying24 hi0 hz0 hz1 hz2 _ w p B x _ _ _ ms xs _ ⟨2, vw, sq, (j : Int), D, ⟨#[]⟩, mk⟩ (by rfl) _ (by rfl) (by first | exact heap_alloc_new _ _ | exact (heap_alloc_new _ _ : (World.alloc _ _).drew.heap[_]? = _)) (by first | assumption | exact Dq.drew (by assumption) | exact Dq.alloc (by assumption) _ | exact Dq.drew (Dq.alloc (by assumption) _) | exact Dq.alloc (Dq.drew (by assumption)) _) HLN.out ?_; intro v5 w5 t5; obtain ⟨a5, cap5, rfl⟩ := RowG.slice (OwnM.row t5.own); obtain ⟨s5, f5⟩ := t5.c1; try go_simp))
          all_goals
            rw [show (ms ++ [(⟨2, vw, sq, (j : Int), D, ⟨#[]⟩, mk⟩ : Mg)]).length = ms.length + 1 by simp] at t5
            have T5 : Hid (Dq w (w5.setCell ⟨x, 1, none⟩ (.slice a5 (ms.length + 1) cap5)) p B x (w.heap.size + 1) bd (.slice a5 (ms.length + 1) cap5) (ms ++ [⟨2, vw, sq, (j : Int), D, ⟨#[]⟩, mk⟩]) xs (K + 16)) := t5.set
            clear t5 T5b u0 u1 tn th qn0 qn1 qa0 qa1 qd0 qd1 qh0 qh1 qha0 qha1 qhd0 qhd1 s5 f5
            generalize w5.setCell ⟨x, 1, none⟩ (.slice a5 (ms.length + 1) cap5) = w6 at T5 ⊢
            go_wp2_with fail
            exact ⟨⟨j + 1, _, _, by go_num, T5, HC2.out _, HF2⟩, by have := (HJ.out ()).1; simp [intOf]; omega⟩
    · have hlt' : ¬ (ms.length : Int) < 2 * (f : Int) + 1 := by omega
      have HL : Hid (ms.length = 2 * f + 1) := by show _ = _; omega
      have HFN : Hid (Vs8 n vw sq (dig bd) 7 ms) := by
        show Vs8 _ _ _ _ _ _
        rw [HDD.out.1]
        refine HF.out.le ?_
        by_cases hs : sk < j ∧ 1 < n
        · rw [if_pos hs] at hc1; omega
        · rw [if_neg hs] at hc1; omega
      have AZ : Hid (w4.heap[w.heap.size]? = some (.cells #[.string ⟨#[]⟩, .slice none 0 0] 37 (0, 0))) := T4.out.ha
      have BZ : Hid (w4.heap[x]? = some (.cells #[.string bd, .slice ao ms.length co] 37 (0, 0))) := T4.out.hx
      have SZ : Hid (Gn.Src B w4 p xs (K + 16)) := T4.out.rd
      have GZ : Hid (w.grownBy w4 (some p)) := T4.out.gr
      have OZ : Hid (OwnM w4 (w.heap.size + 1) (.slice ao ms.length co) ms) := T4.out.own
      clear hc1 hc2 HC HF T4
      go_upto_region 8 with fail
      obtain ⟨ca0, fa0⟩ := blk_cell AZ.out 0 (x := .string ⟨#[]⟩) rfl
      have cb0 := (blk_cell BZ.out 0 (x := .string bd) rfl).1
      obtain ⟨ca1, fa1⟩ := blk_cell AZ.out 1 (x := .slice none 0 0) rfl
      have cb1 := (blk_cell BZ.out 1 (x := .slice ao ms.length co) rfl).1
      have AF : ((w4.setCell ⟨w.heap.size, 0, none⟩ (.string bd)).setCell ⟨w.heap.size, 1, none⟩ (.slice ao ms.length co)).heap[w.heap.size]? = some (.cells #[.string bd, .slice ao ms.length co] 37 (0, 0)) := blk_set (blk_set AZ.out 0 (.string bd)) 1 (.slice ao ms.length co)
      have GF : Hid (w.grownBy ((w4.setCell ⟨w.heap.size, 0, none⟩ (.string bd)).setCell ⟨w.heap.size, 1, none⟩ (.slice ao ms.length co)) (some p)) := grown_new (grown_new GZ.out (Nat.le_refl _) 0 (.string bd)) (Nat.le_refl _) 1 (.slice ao ms.length co)
      have SF : Hid (Gn.Src B ((w4.setCell ⟨w.heap.size, 0, none⟩ (.string bd)).setCell ⟨w.heap.size, 1, none⟩ (.slice ao ms.length co)) p xs (K + 16)) := Gn.Src.set (Gn.Src.set SZ.out (by omega) (by omega) 0 (.string bd)) (by omega) (by omega) 1 (.slice ao ms.length co)
      have OF : Hid (OwnM ((w4.setCell ⟨w.heap.size, 0, none⟩ (.string bd)).setCell ⟨w.heap.size, 1, none⟩ (.slice ao ms.length co)) (w.heap.size + 1) (.slice ao ms.length co) ms) := ownm_set (ownm_set OZ.out (by omega) 0 (.string bd)) (by omega) 1 (.slice ao ms.length co)
      go_wp2_with fail
      generalize (w4.setCell ⟨w.heap.size, 0, none⟩ (.string bd)).setCell ⟨w.heap.size, 1, none⟩ (.slice ao ms.length co) = wf at AF GF SF OF ⊢
      have d0 := (blk_cell AF 0 (x := .string bd) rfl).1
      have d1 := (blk_cell AF 1 (x := .slice ao ms.length co) rfl).1
      exact bodyPost_ret (v := .agg #[.string bd, .slice ao ms.length co]) (by simp [results, Tryz.results52, go_sem, d0, d1]) rfl ⟨_, _, rfl, ms, OwnM.mono OF.out (by omega), HBD.out, HL.out, HFN.out, SF.out, GF.out⟩
end Go.Proofs.YtkfiahemgdppfaaGreatDoor.Dc
