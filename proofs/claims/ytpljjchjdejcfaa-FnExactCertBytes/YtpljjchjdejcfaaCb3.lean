/- Certificates' bytes: the specification. -/
import Derived.Test.YtpljjchjdejcfaaCb2
namespace Go.Proofs.Ytpljjchjdejcfaa.Cb
open Go.RowKit Go.Proofs.Ytpljjchjdejcfaa.Sl Go.Proofs.Ytpljjchjdejcfaa.By Go.Proofs.Ytpljjchjdejcfaa.Ap Go.Proofs.Ytpljjchjdejcfaa.Rq Go.Proofs.Ytpljjchjdejcfaa.Ms Go.Proofs.Ytpljjchjdejcfaa.Mp Go.Proofs.Ytpljjchjdejcfaa.Rp Go.Proofs.Ytpljjchjdejcfaa.Lb Go.Proofs.Ytpljjchjdejcfaa.Gm
open Go.Proofs.Ytpljjchjdejcfaa.Tx (RowT tnth)
open Go.Proofs.Ytpljjchjdejcfaa.Tl (OwnS)
open Go.Proofs.Ytpljjchjdejcfaa.Rg (RowG RowG.slice RowG.at lt_at mem_at blk_cell bel_new)

set_option maxRecDepth 100000 in
set_option maxHeartbeats 1600000 in
theorem l06Bytes_any (bd : ByteArray) (vr : Value) (ms : List Mg) (w : World) (h : Row w vr ms) (hq : cfB ms = true) (hb : bd.size ≤ 20000) :
    Calls Try.prog 60 #[crtV bd vr] w fun e w' => ∃ v, e = .returned v ∧ OwnB 5 w' w.heap.size v (listTo (cTs bd ms) (cTs bd ms).length) ∧ Below w.heap.size w w' := by
  obtain ⟨i0, hi0, hz0, hz1, hz2⟩ := info_parts info_s
  have HR : Hid (Row w vr ms) := h
  obtain ⟨a, cap, rfl⟩ := RowG.slice h
  clear h
  have h7 := (cf_all hq).1
  have HM : Hid (∀ x ∈ ms, mOK x = true) := (cf_all hq).2
  have HLE : Hid (∀ k, k ≤ (cTs bd ms).length → lenTo (cTs bd ms) k ≤ 65536) := lenTo_ok bd ms hq hb
  unfold crtV
  have HX : Hid (∀ W, Below (w.alloc (.cells #[.string bd, .slice a ms.length cap] 40)).heap.size (w.alloc (.cells #[.string bd, .slice a ms.length cap] 40)) W → (W.cell? ⟨w.heap.size, 0, none⟩ = some (.string bd) ∧ W.cell? ⟨w.heap.size, 1, none⟩ = some (.slice a ms.length cap)) ∧ Row W (.slice a ms.length cap) ms ∧ Below w.heap.size w W) := fun W hW => by
    have h1 := (hW.block w.heap.size (by simp)).trans (heap_alloc_new w _)
    have hb := (bel_new w (.cells #[.string bd, .slice a ms.length cap] 40)).trans (hW.mono (by simp))
    exact ⟨⟨(blk_cell h1 0 rfl).1, (blk_cell h1 1 rfl).1⟩, HR.out.below hb, hb⟩
  clear hq
  go_enter Try.func60, Try.ntmps60
  go_upto_region 1 with fail
  generalize w.alloc (.cells #[.string bd, .slice a ms.length cap] 40) = w1 at HX ⊢
  obtain ⟨⟨q0, q1⟩, _, _⟩ := HX.out w1 (Below.refl _ _)
  have HB1 : Hid (Below w.heap.size w w1) := (HX.out w1 (Below.refl _ _)).2.2
  have O1 : Hid (OwnS (w1.alloc (.cells #[.string bd] 9)) w1.heap.size (.slice (some ⟨w1.heap.size, 0, none⟩) 1 1) (cTs bd (ms.take 0)) ∧ Below w1.heap.size w1 (w1.alloc (.cells #[.string bd] 9))) := ⟨own_txt1 w1 w1.heap.size bd (Nat.le_refl _), bel_new _ _⟩
  go_wp2_with fail
  clear q0 q1
  go_loopw [3, 4] (fun b i wr => ∃ m : Nat, m ≤ ms.length ∧ i = .int .i64 m ∧ Hid (OwnS wr w1.heap.size b (cTs bd (ms.take m)) ∧ Below w1.heap.size w1 wr)) (fun _ i _ => ms.length - (intOf i).toNat)
  case atStart => exact ⟨0, by omega, rfl, O1⟩
  case round =>
    clear O1
    obtain ⟨m, hm, rfl, HO⟩ := hrel
    obtain ⟨v0, rfl⟩ : ∃ v0, v0 = u3 := ⟨_, rfl⟩
    obtain ⟨⟨q0, q1⟩, hrow, _⟩ := HX.out wr HO.out.2
    by_cases hlt : m < ms.length
    · obtain ⟨x, hx⟩ := Rg.get_at hlt
      obtain ⟨b, off, rfl, hbl, c0, c1, c2, c3, c4, c5, c6⟩ := RowG.at hrow rfl hx
      have HT : Hid (cTs bd (ms.take (m + 1)) = cTs bd (ms.take m) ++ [mTx x]) := cTs_step hx
      have HMX := (ok_size (HM.out x (mem_at hx))).2
      obtain ⟨s1, s2, s3⟩ := msg_small (show msgB x.kd x.vw x.sq x.fr x.dg x.bd x.mc = true from HMX)
      have HMB := l02Message_any x.kd x.vw x.sq x.fr x.dg x.bd x.mc wr (by omega) (by omega) (by omega)
      unfold msgV at HMB
      have HLN : Hid ((cTs bd (ms.take m)).length ≤ 8) := by show _ ≤ _; rw [cTs_len, List.length_take]; omega
      have HTX : Hid (strOfNums (msgBs x.kd x.vw x.sq x.fr x.dg x.bd x.mc) = mTx x) := rfl
      clear hx HMX hrow s1 s2 s3 q0
      go_wp2_with fail
      clear c0 c1 c2 c3 c4 c5 c6 q1
      refine HMB.mono ?_
      rintro e w3 ⟨v3, rfl, o3, b3⟩
      have hcv := By.run_convert_own (P := Try.prog) w3 _ 27 5 9 Try.underlying27 Try.underlying5 Try.underlying9 v3 _ o3
      rw [HTX.out] at hcv
      have b4 := box_old b3
      have O3 : Hid (OwnS w3 w1.heap.size v0 (cTs bd (ms.take m)) ∧ Below w1.heap.size w1 w3) := ⟨Rl.OwnS.below HO.out.1 b4, HO.out.2.trans (b4.mono HO.out.2.size)⟩
      clear o3 b3 b4 HMB HO
      go_wp2_with (at_builtin; go_must (refine list_txt (by rfl) _ _ 86 (by rfl) i0 Try.underlying86 hi0 hz0 hz1 hz2 w1.heap.size w1 w3 _ _ (mTx x) (by rfl) O3.out.1 O3.out.2 O3.out.2.size (by rfl) (by have := HLN.out; omega) ?_; intro v5 w5 o5 b5))
      exact ⟨⟨m + 1, by omega, by go_num, ⟨by rw [HT.out]; exact o5, b5⟩⟩, by simp [intOf]; omega⟩
    · obtain rfl : m = ms.length := by omega
      rw [List.take_length] at HO
      have HLB := l02List_any v0 (cTs bd ms) wr (Tl.OwnS.row HO.out.1) (by rw [cTs_len]; omega) HLE.out
      clear HX hrow q0
      go_wp2_with fail
      refine HLB.mono ?_
      rintro e w3 ⟨v3, rfl, o3, b3⟩
      have HF : Hid (OwnB 5 w3 wr.heap.size v3 (listTo (cTs bd ms) (cTs bd ms).length) ∧ Below w.heap.size w w3 ∧ w.heap.size ≤ wr.heap.size) := ⟨o3, (HB1.out.trans (HO.out.2.mono HB1.out.size)).trans (b3.mono (Nat.le_trans HB1.out.size HO.out.2.size)), Nat.le_trans HB1.out.size HO.out.2.size⟩
      clear o3 b3 HLB q1
      go_wp2_with fail
      go_ret
      exact ⟨_, rfl, own_le HF.out.1 HF.out.2.2, HF.out.2.1⟩
set_option maxRecDepth 100000 in
set_option maxHeartbeats 1600000 in
theorem specCertBytes_any (bd : ByteArray) (vr : Value) (ms : List Mg) (w : World) (h : Row w vr ms) (hl : ms.length ≤ 1048576) (hb : bd.size ≤ 1048576) :
    Calls Try.prog 20 #[crtV bd vr] w fun e w' => ∃ v, e = .returned (.tuple #[v, .int .i64 (cCode bd ms)]) ∧ OwnB 5 w' w.heap.size v (cOut bd ms) ∧ Below w.heap.size w w' := by
  have HR : Hid (Row w vr ms) := h
  obtain ⟨a, cap, rfl⟩ := RowG.slice h
  clear h
  have D := l06Bytes_any bd (.slice a ms.length cap) ms
  unfold crtV at D ⊢
  have HD : Hid (∀ W, Row W (.slice a ms.length cap) ms → cfB ms = true → bd.size ≤ 20000 → Calls Try.prog 60 #[.agg #[.string bd, .slice a ms.length cap]] W fun e w' => ∃ v, e = .returned v ∧ OwnB 5 w' W.heap.size v (listTo (cTs bd ms) (cTs bd ms).length) ∧ Below W.heap.size W w') := D
  clear D
  have HX : Hid (∀ W, Below (w.alloc (.cells #[.string bd, .slice a ms.length cap] 40)).heap.size (w.alloc (.cells #[.string bd, .slice a ms.length cap] 40)) W → (W.cell? ⟨w.heap.size, 0, none⟩ = some (.string bd) ∧ W.cell? ⟨w.heap.size, 1, none⟩ = some (.slice a ms.length cap)) ∧ Row W (.slice a ms.length cap) ms ∧ Below w.heap.size w W) := fun W hW => by
    have h1 := (hW.block w.heap.size (by simp)).trans (heap_alloc_new w _)
    have hb := (bel_new w (.cells #[.string bd, .slice a ms.length cap] 40)).trans (hW.mono (by simp))
    exact ⟨⟨(blk_cell h1 0 rfl).1, (blk_cell h1 1 rfl).1⟩, HR.out.below hb, hb⟩
  have hbad : ∀ (W : World), Below w.heap.size w W → cCode bd ms = 1 → cOut bd ms = [] → OwnB 5 (W.alloc (.cells #[] 5)) w.heap.size (.slice (some ⟨W.heap.size, 0, none⟩) 0 0) (cOut bd ms) ∧ Below w.heap.size w (W.alloc (.cells #[] 5)) := fun W hW _ e => by
    rw [e]
    exact ⟨own_made _ _ _ _ _ hW.size (by simp [maxLen]) rfl, hW.alloc hW.size _⟩
  have HBAD : Hid (∀ (W : World), Below w.heap.size w W → cCode bd ms = 1 → cOut bd ms = [] → OwnB 5 (W.alloc (.cells #[] 5)) w.heap.size (.slice (some ⟨W.heap.size, 0, none⟩) 0 0) (cOut bd ms) ∧ Below w.heap.size w (W.alloc (.cells #[] 5))) := hbad
  clear hbad
  go_enter Try.func20, Try.ntmps20
  go_upto_region 1 with fail
  generalize w.alloc (.cells #[.string bd, .slice a ms.length cap] 40) = w1 at HX ⊢
  obtain ⟨⟨q0, q1⟩, _, _⟩ := HX.out w1 (Below.refl _ _)
  have HB1 : Hid (Below w.heap.size w w1) := (HX.out w1 (Below.refl _ _)).2.2
  have HCF : Hid (cfB ms = (decide (ms.length ≤ 7) && ms.all mOK)) := rfl
  by_cases h7 : (7 : Int) < (ms.length : Int)
  · have hq : cfB ms = false := by rw [HCF.out, decide_eq_false (by omega)]; rfl
    have HE : Hid (cCode bd ms = 1 ∧ cOut bd ms = []) := c_no bd ms hq
    clear hq
    go_wp2_with fail
    go_ret2
    obtain ⟨k1, k2⟩ := HBAD.out _ HB1.out HE.out.1 HE.out.2
    exact ⟨_, ret_tup HE.out.1.symm, k1, k2⟩
  by_cases hbb : (20000 : Int) < (bd.size : Int)
  · have HE : Hid (cCode bd ms = 1 ∧ cOut bd ms = []) := c_big bd ms (by omega)
    go_wp2_with fail
    go_ret2
    obtain ⟨k1, k2⟩ := HBAD.out _ HB1.out HE.out.1 HE.out.2
    exact ⟨_, ret_tup HE.out.1.symm, k1, k2⟩
  rw [decide_eq_true (by omega : ms.length ≤ 7), Bool.true_and] at HCF
  go_wp2_with fail
  clear q0 q1
  go_loopw [4] (fun i wr => ∃ k : Nat, k ≤ ms.length ∧ i = .int .i64 k ∧ Hid (ms.all mOK = (ms.drop k).all mOK ∧ Below w1.heap.size w1 wr)) (fun i _ => ms.length - (intOf i).toNat)
  case atStart => exact ⟨0, by omega, rfl, ⟨by rw [List.drop_zero], Below.refl _ _⟩⟩
  case round =>
    obtain ⟨k, hk, rfl, HZ⟩ := hrel
    obtain ⟨⟨q0, q1⟩, hrow, hbw⟩ := HX.out wr HZ.out.2
    have HBW : Hid (Below w.heap.size w wr) := hbw
    clear hbw
    by_cases hlt : k < ms.length
    · obtain ⟨x, hx⟩ := Rg.get_at hlt
      obtain ⟨b, off, rfl, hbl, c0, c1, c2, c3, c4, c5, c6⟩ := RowG.at hrow rfl hx
      have HAX : Hid (ms.all mOK = (mOK x && (ms.drop (k + 1)).all mOK)) := HZ.out.1.trans (all_step hx)
      have HMO : Hid (Calls Try.prog 59 #[.agg #[.int .i64 x.kd, .int .i64 x.vw, .int .i64 x.sq, .int .i64 x.fr, .string x.dg, .string x.bd, .string x.mc]] wr fun e w' => e = .returned (.bool (mB x)) ∧ Below wr.heap.size wr w') := specMessageOK_any x.kd x.vw x.sq x.fr x.dg x.bd x.mc _
      have HOE : Hid (mOK x = ((x.kd == 2) && mB x)) := rfl
      have HKX : Hid (∀ W, Below wr.heap.size wr W → W.cell? ⟨w.heap.size, 1, none⟩ = some (.slice (some ⟨b, off, none⟩) ms.length cap) ∧ W.cell? ⟨b, off + k * 7, none⟩ = some (.int .i64 x.kd) ∧ Below w1.heap.size w1 W ∧ Below w.heap.size w W) := fun W hW => ⟨(hW.cell (p := ⟨w.heap.size, 1, none⟩) (World.block_lt_of_cell? _ _ q1)).trans q1, (hW.cell (p := ⟨b, off + k * 7, none⟩) hbl).trans c0, HZ.out.2.trans (hW.mono HZ.out.2.size), HBW.out.trans (hW.mono HBW.out.size)⟩
      clear hx HZ hrow q0
      go_wp2_with fail
      refine HMO.out.mono ?_
      rintro e w2 ⟨rfl, b2⟩
      obtain ⟨p1, p2, p3, p4⟩ := HKX.out w2 b2
      have B2 : Hid (Below w1.heap.size w1 w2 ∧ Below w.heap.size w w2) := ⟨p3, p4⟩
      clear b2 c0 c1 c2 c3 c4 c5 c6 q1 p3 p4 HMO
      cases hm : mB x with
      | false =>
        rw [hm, Bool.and_false] at HOE
        have HF : Hid (cCode bd ms = 1 ∧ cOut bd ms = []) := c_no bd ms (by rw [HCF.out, HAX.out, HOE.out]; rfl)
        go_wp2_with fail
        go_ret2
        obtain ⟨k1, k2⟩ := HBAD.out _ B2.out.2 HF.out.1 HF.out.2
        exact ⟨_, ret_tup HF.out.1.symm, k1, k2⟩
      | true =>
        rw [hm, Bool.and_true] at HOE
        by_cases hkd : x.kd = 2
        · have hk1 : (x.kd != 2) = false := by simp [hkd]
          have HF : Hid (ms.all mOK = (ms.drop (k + 1)).all mOK) := by show _ = _; rw [HAX.out, HOE.out, hkd]; rfl
          clear hkd
          go_wp2_with fail
          exact ⟨⟨k + 1, by omega, by go_num, ⟨HF.out, B2.out.1⟩⟩, by simp [intOf]; omega⟩
        · have hk1 : (x.kd != 2) = true := by simp [hkd]
          have HF : Hid (cCode bd ms = 1 ∧ cOut bd ms = []) := c_no bd ms (by rw [HCF.out, HAX.out, HOE.out]; simp [hkd])
          clear hkd
          go_wp2_with fail
          go_ret2
          obtain ⟨k1, k2⟩ := HBAD.out _ B2.out.2 HF.out.1 HF.out.2
          exact ⟨_, ret_tup HF.out.1.symm, k1, k2⟩
    · obtain rfl : k = ms.length := by omega
      have hq : cfB ms = true := by rw [HCF.out]; exact HZ.out.1.trans all_end
      have HE : Hid (cCode bd ms = 0 ∧ cOut bd ms = listTo (cTs bd ms) (cTs bd ms).length) := c_good bd ms hq (by omega)
      have HD2 := HD.out wr hrow hq (by omega)
      clear hrow hq
      go_wp2_with fail
      refine HD2.mono ?_
      rintro e w3 ⟨v3, rfl, o3, b3⟩
      have HF : Hid (OwnB 5 w3 wr.heap.size v3 (listTo (cTs bd ms) (cTs bd ms).length) ∧ Below w.heap.size w w3) := ⟨o3, HBW.out.trans (b3.mono HBW.out.size)⟩
      clear o3 b3 HD2 q0 q1
      go_wp2_with fail
      go_ret2
      exact ⟨_, ret_tup HE.out.1.symm, by rw [HE.out.2]; exact own_le HF.out.1 HBW.out.size, HF.out.2⟩
end Go.Proofs.Ytpljjchjdejcfaa.Cb
