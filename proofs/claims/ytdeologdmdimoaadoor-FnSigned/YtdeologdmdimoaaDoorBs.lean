/- Batches' bytes: the specification. -/
import Derived.Test.YtdeologdmdimoaaDoorBt
import Derived.Deep.RegionHeldLaw
namespace Go.Proofs.YtdeologdmdimoaaDoor.Bt
open Go.RowKit Go.Proofs.YtdeologdmdimoaaDoor.Sl Go.Proofs.YtdeologdmdimoaaDoor.By Go.Proofs.YtdeologdmdimoaaDoor.Rg Go.Proofs.YtdeologdmdimoaaDoor.Gr Go.Proofs.YtdeologdmdimoaaDoor.Rq Go.Proofs.YtdeologdmdimoaaDoor.Ap Go.Proofs.YtdeologdmdimoaaDoor.Pu Go.Proofs.YtdeologdmdimoaaDoor.Rp Go.Proofs.YtdeologdmdimoaaDoor.Bo

theorem kdrew {w w1 : World} {v v1 : Value} (h : Kp w w1 v v1) : Kp w w1.drew v v1 := ⟨h.os, h.tape, h.output, h.size, h.block, h.away⟩
theorem ble {B : Nat} {w w1 : World} {v v1 : Value} (hB : B ≤ w.heap.size) (h : Kp w w1 v v1) : B ≤ w1.heap.size := Nat.le_trans hB h.size
theorem num4 (x : Int) (w : World) : Calls Tryd.prog 56 #[.int .i64 x, .int .i64 4] w fun e w' => ∃ v', e = .returned v' ∧ OwnB 5 w' w.heap.size v' (nums x 4 4) ∧ Below w.heap.size w w' := l02Number_any x 4 w (by decide)
theorem call_all {e : TypeId} {B : Nat} {w0 X wn : World} {v0 v : Value} {zs : List Int} (bn : Below X.heap.size X wn) (o : OwnB e X B v zs) (k : Kp w0 X v0 v) : OwnB e wn B v zs ∧ Kp w0 wn v0 v ∧ ∀ g, v.ownBlock = some g → g < X.heap.size := ⟨own_below o bn, k.trans (Kp.of_below _ bn), own_lt o⟩
theorem one_num {x : Int} (h : 0 ≤ x ∧ x ≤ 255) : [x] = nums x 1 1 := by simp [nums, nb]; omega
theorem wrap1 (x : Int) : [IntKind.u8.wrap x] = nums x 1 1 := by simp [nums, nb, IntKind.wrap_u8]
set_option maxRecDepth 100000 in
set_option maxHeartbeats 800000 in
theorem l02Batch_null (c st k l : Int) (n : ByteArray) (vr : Value) (rs : List Rd) (w : World) (h : Row w vr rs) :
    Calls Tryd.prog 44 #[batV true c st k l n vr] w fun e w' => ∃ v, e = .returned v ∧ OwnB 5 w' w.heap.size v (batBs true c st k l n rs) ∧ Below w.heap.size w w' := by
  obtain ⟨a, cap, rfl⟩ := RowG.slice h
  clear h
  unfold batV
  have HO : Hid (batBs true c st k l n rs = [0]) := rfl
  have HB : Hid (Below w.heap.size w (w.alloc (.cells #[.bool true, .int .i64 c, .int .i64 st, .int .i64 k, .int .i64 l, .string n, .slice a rs.length cap] 73))) := bel_new _ _
  go_enter Tryd.func44, Tryd.ntmps44
  go_wp2_with fail
  go_ret
  refine ⟨_, rfl, ?_, HB.out.alloc HB.out.size _⟩
  rw [HO.out]
  have hw := own_lit 5 (w.alloc (.cells #[.bool true, .int .i64 c, .int .i64 st, .int .i64 k, .int .i64 l, .string n, .slice a rs.length cap] 73)) w.heap.size [0] 1 rfl HB.out.size (by decide)
  rw [Rg.size_new] at hw
  exact hw
set_option maxRecDepth 100000 in
set_option maxHeartbeats 6400000 in
theorem l02Batch_any (nl : Bool) (c st k l : Int) (n : ByteArray) (vr : Value) (rs : List Rd) (w : World) (h : Row w vr rs) (hl : rs.length ≤ 7) (hm8 : ∀ x ∈ rs, x.m.size = 8) (hn : n.size ≤ 12) :
    Calls Tryd.prog 44 #[batV nl c st k l n vr] w fun e w' => ∃ v, e = .returned v ∧ OwnB 5 w' w.heap.size v (batBs nl c st k l n rs) ∧ Below w.heap.size w w' := by
  obtain ⟨i0, hi, hz0, hz1, hz2⟩ := info_parts Sl.info5
  have HR : Hid (Row w vr rs) := h
  obtain ⟨a, cap, rfl⟩ := RowG.slice h
  clear h
  have HM : Hid (∀ x ∈ rs, x.m.size = 8) := hm8
  clear hm8
  unfold batV
  cases nl with
  | true =>
    have HO : Hid (batBs true c st k l n rs = [0]) := rfl
    have HB : Hid (Below w.heap.size w (w.alloc (.cells #[.bool true, .int .i64 c, .int .i64 st, .int .i64 k, .int .i64 l, .string n, .slice a rs.length cap] 73))) := bel_new _ _
    go_enter Tryd.func44, Tryd.ntmps44
    go_wp2_with fail
    go_ret
    refine ⟨_, rfl, ?_, HB.out.alloc HB.out.size _⟩
    rw [HO.out]
    have hw := own_lit 5 (w.alloc (.cells #[.bool true, .int .i64 c, .int .i64 st, .int .i64 k, .int .i64 l, .string n, .slice a rs.length cap] 73)) w.heap.size [0] 1 rfl HB.out.size (by decide)
    rw [Rg.size_new] at hw
    exact hw
  | false =>
    have HO : Hid (batBs false c st k l n rs = nums ((rs.length : Int) + 1) 1 1 ++ rsBs rs ++ reqBs c st k l n) := rfl
    have HX : Hid (∀ W, Below (w.alloc (.cells #[.bool false, .int .i64 c, .int .i64 st, .int .i64 k, .int .i64 l, .string n, .slice a rs.length cap] 73)).heap.size (w.alloc (.cells #[.bool false, .int .i64 c, .int .i64 st, .int .i64 k, .int .i64 l, .string n, .slice a rs.length cap] 73)) W → ((W.cell? ⟨w.heap.size, 1, none⟩ = some (.int .i64 c) ∧ W.cell? ⟨w.heap.size, 2, none⟩ = some (.int .i64 st) ∧ W.cell? ⟨w.heap.size, 3, none⟩ = some (.int .i64 k) ∧ W.cell? ⟨w.heap.size, 4, none⟩ = some (.int .i64 l) ∧ W.cell? ⟨w.heap.size, 5, none⟩ = some (.string n) ∧ W.cell? ⟨w.heap.size, 6, none⟩ = some (.slice a rs.length cap)) ∧ Row W (.slice a rs.length cap) rs ∧ Below w.heap.size w W)) := fun W hW => by
      obtain ⟨_, q1, q2, q3, q4, q5, q6, b0⟩ := bat_box hW
      exact ⟨⟨q1, q2, q3, q4, q5, q6⟩, HR.out.below b0, b0⟩
    have hlr : (0 : Int) ≤ (rs.length : Int) + 1 ∧ (rs.length : Int) + 1 ≤ 255 := by omega
    have hl1 : (1 : Int) + (rs.length : Int) = (rs.length : Int) + 1 := by omega
    have HN1 : Hid (OwnB 5 ((w.alloc (.cells #[.bool false, .int .i64 c, .int .i64 st, .int .i64 k, .int .i64 l, .string n, .slice a rs.length cap] 73)).alloc (.cells #[.int .u8 ((rs.length : Int) + 1)] 5)) (w.alloc (.cells #[.bool false, .int .i64 c, .int .i64 st, .int .i64 k, .int .i64 l, .string n, .slice a rs.length cap] 73)).heap.size (.slice (some ⟨(w.alloc (.cells #[.bool false, .int .i64 c, .int .i64 st, .int .i64 k, .int .i64 l, .string n, .slice a rs.length cap] 73)).heap.size, 0, none⟩) 1 1) (nums ((rs.length : Int) + 1) 1 1) ∧ Below (w.alloc (.cells #[.bool false, .int .i64 c, .int .i64 st, .int .i64 k, .int .i64 l, .string n, .slice a rs.length cap] 73)).heap.size (w.alloc (.cells #[.bool false, .int .i64 c, .int .i64 st, .int .i64 k, .int .i64 l, .string n, .slice a rs.length cap] 73)) ((w.alloc (.cells #[.bool false, .int .i64 c, .int .i64 st, .int .i64 k, .int .i64 l, .string n, .slice a rs.length cap] 73)).alloc (.cells #[.int .u8 ((rs.length : Int) + 1)] 5))) := ⟨by rw [← one_num hlr]; exact own_one 5 _ _ _ (Nat.le_refl _), bel_new _ _⟩
    have hwrap : ((rs.length : Int) + 1) % 256 = (rs.length : Int) + 1 := by omega
    have hwrap2 : ((1 : Int) + (rs.length : Int)) % 256 = (rs.length : Int) + 1 := by omega
    go_enter Tryd.func44, Tryd.ntmps44
    go_upto_region 1 with fail
    have HWS : Hid (w.heap.size ≤ (w.alloc (.cells #[.bool false, .int .i64 c, .int .i64 st, .int .i64 k, .int .i64 l, .string n, .slice a rs.length cap] 73)).heap.size) := by show _ ≤ _; simp
    generalize HWB : w.alloc (.cells #[.bool false, .int .i64 c, .int .i64 st, .int .i64 k, .int .i64 l, .string n, .slice a rs.length cap] 73) = wb at HX HN1 HWS ⊢
    obtain ⟨⟨_, _, _, _, _, q6⟩, _, _⟩ := HX.out wb (Below.refl _ _)
    have q0 : wb.cell? ⟨w.heap.size, 0, none⟩ = some (.bool false) := by rw [← HWB]; exact (bat_box (Below.refl _ _)).1
    clear HWB
    obtain ⟨bx, HBX⟩ : ∃ bx, Hid (w.heap.size = bx) := ⟨_, rfl⟩
    rw [HBX.out] at HX q6 q0 ⊢
    obtain ⟨B, HB⟩ : ∃ B, Hid (wb.heap.size = B) := ⟨_, rfl⟩
    rw [HB.out] at HX HN1
    have HBL : Hid (B ≤ wb.heap.size) := Nat.le_of_eq HB.out.symm
    go_wp2_with fail
    clear q0 q6
    rw [HB.out]
    go_loopw [3, 4] (fun b i wr => ∃ m : Nat, m ≤ rs.length ∧ i = .int .i64 m ∧ Hid (OwnB 5 wr B b (nums ((rs.length : Int) + 1) 1 1 ++ rsBs (rs.take m)) ∧ Below B wb wr)) (fun _ i _ => rs.length - (intOf i).toNat)
    case atStart => exact ⟨0, by omega, rfl, ⟨by simpa [rsBs] using HN1.out.1, HN1.out.2⟩⟩
    case round =>
      clear HN1
      rename World => wi
      obtain ⟨m, hm, rfl, HM2⟩ := hrel
      obtain ⟨v0, rfl⟩ : ∃ v0, v0 = u3 := ⟨_, rfl⟩
      obtain ⟨⟨q1, q2, q3, q4, q5, q6⟩, hrow, hbw⟩ := HX.out wi HM2.out.2
      have HLN : Hid ((nums ((rs.length : Int) + 1) 1 1 ++ rsBs (rs.take m)).length ≤ 1000) := by
        show _ ≤ _
        rw [List.length_append, nums_length, rsBs_len _ (fun x hx => HM.out x (List.mem_of_mem_take hx)), List.length_take]
        omega
      by_cases hlt : m < rs.length
      · obtain ⟨x, hx⟩ := Rg.get_at hlt
        obtain ⟨b2, off2, rfl, hbl, c0, c1, c2⟩ := RowG.at hrow rfl hx
        have HT : Hid (rsBs (rs.take (m + 1)) = rsBs (rs.take m) ++ rdBs x) := rs_step hx
        have HX8 : Hid (x.m.size = 8) := HM.out x (mem_at hx)
        have HL2 : Hid (∀ W v', Kp wi W v0 v' → (W.cell? ⟨bx, 6, none⟩ = some (.slice (some ⟨b2, off2, none⟩) rs.length cap) ∧ W.cell? ⟨b2, off2 + m * 3, none⟩ = some (.int .i64 x.f) ∧ W.cell? ⟨b2, off2 + m * 3 + 1, none⟩ = some (.int .i64 x.x) ∧ W.cell? ⟨b2, off2 + m * 3 + 2, none⟩ = some (.string x.m)) ∧ Below B wb W) := fun W v' h => by
          have h2 := HM2.out.2.trans (h.below HM2.out.1 (Nat.le_trans HBL.out HM2.out.2.size))
          obtain ⟨⟨_, _, _, _, _, p6⟩, pr, _⟩ := HX.out W h2
          obtain ⟨b', off', e, _, d0, d1, d2⟩ := RowG.at pr rfl hx
          cases e
          exact ⟨⟨p6, d0, d1, d2⟩, h2⟩
        obtain ⟨zs, HZS⟩ : ∃ zs, Hid (nums ((rs.length : Int) + 1) 1 1 ++ rsBs (rs.take m) = zs) := ⟨_, rfl⟩
        rw [HZS.out] at HM2 HLN
        have o1 := HM2.out.1
        have k1 := Kp.refl wi v0
        have HB0 : Hid (B ≤ wi.heap.size) := Nat.le_trans HBL.out HM2.out.2.size
        have l1 : (0 : Int) ≤ (m : Int) := by omega
        have l2 : (m : Int) < (rs.length : Int) := by omega
        clear hx hrow hbw q1 q2 q3 q4 q5
        go_upto_region 7 with fail
        clear c0 c1 c2 q6
        go_cut [3] (fun s3 wx => OwnB 5 wx B s3 (zs ++ nums x.f 1 1 ++ nums x.x 4 4) ∧ Kp wi wx v0 s3)
        case first =>
          go_region_held_law (fun W => W.cell? ⟨bx, 6, none⟩ = some (.slice (some ⟨b2, off2, none⟩) rs.length cap) ∧ W.cell? ⟨b2, off2 + m * 3, none⟩ = some (.int .i64 x.f) ∧ W.cell? ⟨b2, off2 + m * 3 + 1, none⟩ = some (.int .i64 x.x) ∧ W.cell? ⟨b2, off2 + m * 3 + 2, none⟩ = some (.string x.m)) (first | exact (HL2.out _ _ (by first | assumption | exact kdrew (by assumption) | exact Kp.alloc (by assumption) _ | exact kdrew (Kp.alloc (by assumption) _) | exact Kp.alloc (kdrew (by assumption)) _)).1)
            (first
              | (go_simp; go_at_call 56; (with_reducible refine (num4 (x.x) _).mono ?_); rintro e wn ⟨vnf1, rfl, f1, bn⟩; obtain ⟨on, kn, h1⟩ := call_all bn (by first | assumption | exact own_drew (by assumption) | exact own_alloc (by assumption) _ | exact own_drew (own_alloc (by assumption) _) | exact own_alloc (own_drew (by assumption)) _) (by first | assumption | exact kdrew (by assumption) | exact Kp.alloc (by assumption) _ | exact kdrew (Kp.alloc (by assumption) _) | exact Kp.alloc (kdrew (by assumption)) _); (first | (have fb := own_below (own_one 5 _ _ _ (Nat.le_refl _)) bn; have hb := own_lt o1) | (have fb := own_below (own_drew (own_one 5 _ _ _ (Nat.le_refl _))) bn; have hb := own_lt o1) | skip); clear bn; try go_simp)
              | (refine step_row (by rfl) _ _ 22 (by rfl) Tryd.underlying22 hi hz0 hz1 hz2 B _ _ _ _ _ (by rfl) (by rfl) (by first | assumption | exact own_drew (by assumption) | exact own_alloc (by assumption) _ | exact own_drew (own_alloc (by assumption) _) | exact own_alloc (own_drew (by assumption)) _) (ble HB0.out (by first | assumption | exact kdrew (by assumption) | exact Kp.alloc (by assumption) _ | exact kdrew (Kp.alloc (by assumption) _) | exact Kp.alloc (kdrew (by assumption)) _)) (by first | exact own_rowB fb (one_range (wrap_range _)) | exact own_rowB (own_one 5 _ _ _ (Nat.le_refl _)) (one_range (wrap_range _)) | exact rowB_drew (own_rowB (own_one 5 _ _ _ (Nat.le_refl _)) (one_range (wrap_range _))) | exact own_rowB (own_drew (own_one 5 _ _ _ (Nat.le_refl _))) (one_range (wrap_range _))) (by have := HLN.out; first | (simp; omega) | (simp [nums_length]; omega)) ?_; intro v8 w8 o8 k8x; have k8 := Kp.trans (by first | assumption | exact kdrew (by assumption) | exact Kp.alloc (by assumption) _ | exact kdrew (Kp.alloc (by assumption) _) | exact Kp.alloc (kdrew (by assumption)) _) k8x; (first | (have f1 := own_kp f1 k8x h1) | (have f1 := own_kp (own_alloc f1 _) k8x h1) | skip); try go_simp)
              | (refine step_row (by rfl) _ _ 22 (by rfl) Tryd.underlying22 hi hz0 hz1 hz2 B _ _ _ _ _ (by rfl) (by rfl) (by first | assumption | exact own_drew (by assumption) | exact own_alloc (by assumption) _ | exact own_drew (own_alloc (by assumption) _) | exact own_alloc (own_drew (by assumption)) _) (ble HB0.out (by first | assumption | exact kdrew (by assumption) | exact Kp.alloc (by assumption) _ | exact kdrew (Kp.alloc (by assumption) _) | exact Kp.alloc (kdrew (by assumption)) _)) (by first | exact own_rowB f1 (nums_range _ _ _) | exact own_rowB (own_alloc f1 _) (nums_range _ _ _)) (by have := HLN.out; first | (simp; omega) | (simp [nums_length]; omega)) ?_; intro v9 w9 o9 k9x; have k9 := Kp.trans (by first | assumption | exact kdrew (by assumption) | exact Kp.alloc (by assumption) _ | exact kdrew (Kp.alloc (by assumption) _) | exact Kp.alloc (kdrew (by assumption)) _) k9x; try go_simp))
          all_goals
            rw [wrap1] at o9
            go_wp2_with fail
            go_meet
            exact ⟨o9, k9⟩
        case rest =>
        clear o1 k1
        obtain ⟨o1, k1⟩ := hcut
        obtain ⟨w1, rfl⟩ : ∃ w1, w1 = wc := ⟨_, rfl⟩
        obtain ⟨v1, rfl⟩ : ∃ v1, v1 = u3 := ⟨_, rfl⟩
        obtain ⟨⟨p6, p0, p1, p2⟩, pb⟩ := HL2.out _ _ k1
        have HLS : Hid ((zs ++ nums x.f 1 1 ++ nums x.x 4 4).length + x.m.size ≤ 140737488355328) := by show _ ≤ _; simp only [List.length_append, nums_length]; have := HLN.out; have := HX8.out; omega
        have O1 : Hid (OwnB 5 w1 B v1 (zs ++ nums x.f 1 1 ++ nums x.x 4 4) ∧ Kp wi w1 v0 v1 ∧ B ≤ w1.heap.size) := ⟨o1, k1, Nat.le_trans HB0.out k1.size⟩
        clear o1 k1 pb
        go_wp2_with (at_builtin; go_must (refine list_str (by rfl) _ _ 22 9 (by rfl) Tryd.underlying22 Tryd.underlying9 hi hz0 hz1 hz2 B _ _ x.m _ (by rfl) (by rfl) O1.out.1 O1.out.2.2 HLS.out ?_; intro v5 w5 o5 k5))
        have O5 : Hid (OwnB 5 w5 B v5 (nums ((rs.length : Int) + 1) 1 1 ++ rsBs (rs.take (m + 1))) ∧ Below B wb w5) := ⟨by rw [HT.out, ← List.append_assoc, HZS.out]; unfold rdBs; simpa [List.append_assoc] using o5, (HL2.out _ _ (O1.out.2.1.trans k5)).2⟩
        exact ⟨⟨m + 1, by omega, by go_num, O5⟩, by simp [intOf]; omega⟩
      · obtain rfl : m = rs.length := by omega
        rw [List.take_length] at HM2 HLN
        clear hrow
        have HBW : Hid (Below bx w wi) := hbw
        clear hbw
        go_wp2_with fail
        refine (l02Request_any c st k l n wi (by omega)).mono ?_
        rintro e w3 ⟨v3, rfl, o3, b3⟩
        have b4 := box_old b3
        have O3 : Hid (OwnB 5 w3 B v0 (nums ((rs.length : Int) + 1) 1 1 ++ rsBs rs) ∧ B ≤ w3.heap.size ∧ RowB w3 v3 (reqBs c st k l n) ∧ Below bx w w3) := ⟨own_below HM2.out.1 b4, Nat.le_trans (Nat.le_trans HBL.out HM2.out.2.size) b4.size, own_rowB o3 (reqBs_range _ _ _ _ _), HBW.out.trans (b4.mono (by rw [← HBX.out]; exact (by rw [HBX.out]; exact HBW.out : Below w.heap.size w wi).size))⟩
        have HLE : Hid ((nums ((rs.length : Int) + 1) 1 1 ++ rsBs rs).length + (reqBs c st k l n).length ≤ 140737488355328) := by show _ ≤ _; have := HLN.out; rw [reqBs_length]; omega
        have HBB : Hid (bx ≤ B) := by show _ ≤ _; rw [← HBX.out, ← HB.out]; exact HWS.out
        clear o3 b3 b4 q1 q2 q3 q4 q5 q6
        go_wp2_with (at_builtin; go_must (refine list_row (by rfl) _ _ 22 (by rfl) Tryd.underlying22 hi hz0 hz1 hz2 B _ _ _ _ _ (by rfl) (by rfl) O3.out.1 O3.out.2.1 O3.out.2.2.1 HLE.out ?_; intro v5 w5 o5 k5))
        go_ret
        rw [HO.out, HBX.out]
        exact ⟨_, rfl, own_le o5 HBB.out, O3.out.2.2.2.trans ((k5.below O3.out.1 O3.out.2.1).mono HBB.out)⟩
end Go.Proofs.YtdeologdmdimoaaDoor.Bt
