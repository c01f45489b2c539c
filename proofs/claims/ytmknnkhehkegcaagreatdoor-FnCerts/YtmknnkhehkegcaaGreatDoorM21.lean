/- Texts put together: Cb3, Dh, La, SlRow, Ob. -/
import Derived.Test.YtmknnkhehkegcaaGreatDoorM14
import Derived.Test.YtmknnkhehkegcaaGreatDoorM20
import Derived.Test.YtmknnkhehkegcaaGreatDoorM0
import Derived.OpenShut
import Derived.WalkKit
import Derived.ProofKit
/- Certificates' bytes: the specification. -/
namespace Go.Proofs.YtmknnkhehkegcaaGreatDoor.Cb
open Go.RowKit Go.Proofs.YtmknnkhehkegcaaGreatDoor.Sl Go.Proofs.YtmknnkhehkegcaaGreatDoor.By Go.Proofs.YtmknnkhehkegcaaGreatDoor.Ap Go.Proofs.YtmknnkhehkegcaaGreatDoor.Rq Go.Proofs.YtmknnkhehkegcaaGreatDoor.Ms Go.Proofs.YtmknnkhehkegcaaGreatDoor.Mp Go.Proofs.YtmknnkhehkegcaaGreatDoor.Rp Go.Proofs.YtmknnkhehkegcaaGreatDoor.Lb Go.Proofs.YtmknnkhehkegcaaGreatDoor.Gm
open Go.Proofs.YtmknnkhehkegcaaGreatDoor.Ty (RowT tnth)
open Go.Proofs.YtmknnkhehkegcaaGreatDoor.Tl (OwnS)
open Go.Proofs.YtmknnkhehkegcaaGreatDoor.Rg (RowG RowG.slice RowG.at lt_at mem_at blk_cell bel_new)

set_option maxRecDepth 100000 in
set_option maxHeartbeats 1600000 in
theorem l06Bytes_any (bd : ByteArray) (vr : Value) (ms : List Mg) (w : World) (h : Row w vr ms) (hq : cfB ms = true) (hb : bd.size ≤ 20000) :
    Calls Tryz.prog 19 #[crtV bd vr] w fun e w' => ∃ v, e = .returned v ∧ OwnB 5 w' w.heap.size v (listTo (cTs bd ms) (cTs bd ms).length) ∧ Below w.heap.size w w' := by
  obtain ⟨i0, hi0, hz0, hz1, hz2⟩ := info_parts info_s
  have HR : Hid (Row w vr ms) := h
  obtain ⟨a, cap, rfl⟩ := RowG.slice h
  clear h
  have h7 := (cf_all hq).1
  have HM : Hid (∀ x ∈ ms, mOK x = true) := (cf_all hq).2
  have HLE : Hid (∀ k, k ≤ (cTs bd ms).length → lenTo (cTs bd ms) k ≤ 65536) := lenTo_ok bd ms hq hb
  unfold crtV
  have HX : Hid (∀ W, Below (w.alloc (.cells #[.string bd, .slice a ms.length cap] 27)).heap.size (w.alloc (.cells #[.string bd, .slice a ms.length cap] 27)) W → (W.cell? ⟨w.heap.size, 0, none⟩ = some (.string bd) ∧ W.cell? ⟨w.heap.size, 1, none⟩ = some (.slice a ms.length cap)) ∧ Row W (.slice a ms.length cap) ms ∧ Below w.heap.size w W) := fun W hW => by
    have h1 := (hW.block w.heap.size (by simp)).trans (heap_alloc_new w _)
    have hb := (bel_new w (.cells #[.string bd, .slice a ms.length cap] 27)).trans (hW.mono (by simp))
    exact ⟨⟨(blk_cell h1 0 rfl).1, (blk_cell h1 1 rfl).1⟩, HR.out.below hb, hb⟩
  clear hq
  go_enter Tryz.func19, Tryz.ntmps19
  go_upto_region 1 with fail
  generalize w.alloc (.cells #[.string bd, .slice a ms.length cap] 27) = w1 at HX ⊢
  obtain ⟨⟨q0, q1⟩, _, _⟩ := HX.out w1 (Below.refl _ _)
  have HB1 : Hid (Below w.heap.size w w1) := (HX.out w1 (Below.refl _ _)).2.2
  have O1 : Hid (OwnS (w1.alloc (.cells #[.string bd] 9)) w1.heap.size (.slice (some ⟨w1.heap.size, 0, none⟩) 1 1) (cTs bd (ms.take 0)) ∧ Below w1.heap.size w1 (w1.alloc (.cells #[.string bd] 9))) := ⟨own_txt1 w1 w1.heap.size bd (Nat.le_refl _), bel_new _ _⟩
  go_wp2_with fail
  clear q0 q1
  go_loopw [3, 4] (fun b i wr => ∃ m : Nat, m ≤ ms.length ∧ i = .int .i64 m ∧ Hid (OwnS wr w1.heap.size b (cTs bd (ms.take m)) ∧ Below w1.heap.size w1 wr)) (fun _ i _ => ms.length - (intOf i).toNat)
  case atStart => exact ⟨0, by omega, rfl, O1⟩
  case round =>
    clear O1
    obtain ⟨m, hm, rfl, HO⟩ := hrel
    obtain ⟨v0, rfl⟩ : ∃ v0, v0 = u3 := ⟨_, rfl⟩
    obtain ⟨⟨q0, q1⟩, hrow, _⟩ := HX.out wr HO.out.2
    by_cases hlt : m < ms.length
    · obtain ⟨x, hx⟩ := Rg.get_at hlt
      obtain ⟨b, off, rfl, hbl, c0, c1, c2, c3, c4, c5, c6⟩ := RowG.at hrow rfl hx
      have HT : Hid (cTs bd (ms.take (m + 1)) = cTs bd (ms.take m) ++ [mTx x]) := cTs_step hx
      have HMX := (ok_size (HM.out x (mem_at hx))).2
      obtain ⟨s1, s2, s3⟩ := msg_small (show msgB x.kd x.vw x.sq x.fr x.dg x.bd x.mc = true from HMX)
      have HMB := l02Message_any x.kd x.vw x.sq x.fr x.dg x.bd x.mc wr (by omega) (by omega) (by omega)
      unfold msgV at HMB
      have HLN : Hid ((cTs bd (ms.take m)).length ≤ 8) := by show _ ≤ _; rw [cTs_len, List.length_take]; omega
      have HTX : Hid (strOfNums (msgBs x.kd x.vw x.sq x.fr x.dg x.bd x.mc) = mTx x) := rfl
      clear hx HMX hrow s1 s2 s3 q0
      go_wp2_with fail
      clear c0 c1 c2 c3 c4 c5 c6 q1
      refine HMB.mono ?_
      rintro e w3 ⟨v3, rfl, o3, b3⟩
      have hcv := By.run_convert_own (P := Tryz.prog) w3 _ 22 5 9 Tryz.underlying22 Tryz.underlying5 Tryz.underlying9 v3 _ o3
      rw [HTX.out] at hcv
      have b4 := box_old b3
      have O3 : Hid (OwnS w3 w1.heap.size v0 (cTs bd (ms.take m)) ∧ Below w1.heap.size w1 w3) := ⟨Rl.OwnS.below HO.out.1 b4, HO.out.2.trans (b4.mono HO.out.2.size)⟩
      clear o3 b3 b4 HMB HO
      go_wp2_with (at_builtin; go_must (refine list_txt (by rfl) _ _ 45 (by rfl) i0 Tryz.underlying45 hi0 hz0 hz1 hz2 w1.heap.size w1 w3 _ _ (mTx x) (by rfl) O3.out.1 O3.out.2 O3.out.2.size (by rfl) (by have := HLN.out; omega) ?_; intro v5 w5 o5 b5))
      exact ⟨⟨m + 1, by omega, by go_num, ⟨by rw [HT.out]; exact o5, b5⟩⟩, by simp [intOf]; omega⟩
    · obtain rfl : m = ms.length := by omega
      rw [List.take_length] at HO
      have HLB := l02List_any v0 (cTs bd ms) wr (Tl.OwnS.row HO.out.1) (by rw [cTs_len]; omega) HLE.out
      clear HX hrow q0
      go_wp2_with fail
      refine HLB.mono ?_
      rintro e w3 ⟨v3, rfl, o3, b3⟩
      have HF : Hid (OwnB 5 w3 wr.heap.size v3 (listTo (cTs bd ms) (cTs bd ms).length) ∧ Below w.heap.size w w3 ∧ w.heap.size ≤ wr.heap.size) := ⟨o3, (HB1.out.trans (HO.out.2.mono HB1.out.size)).trans (b3.mono (Nat.le_trans HB1.out.size HO.out.2.size)), Nat.le_trans HB1.out.size HO.out.2.size⟩
      clear o3 b3 HLB q1
      go_wp2_with fail
      go_ret
      exact ⟨_, rfl, own_le HF.out.1 HF.out.2.2, HF.out.2.1⟩
set_option maxRecDepth 100000 in
set_option maxHeartbeats 1600000 in
theorem specCertBytes_any (bd : ByteArray) (vr : Value) (ms : List Mg) (w : World) (h : Row w vr ms) (hl : ms.length ≤ 1048576) (hb : bd.size ≤ 1048576) :
    Calls Tryz.prog 7 #[crtV bd vr] w fun e w' => ∃ v, e = .returned (.tuple #[v, .int .i64 (cCode bd ms)]) ∧ OwnB 5 w' w.heap.size v (cOut bd ms) ∧ Below w.heap.size w w' := by
  have HR : Hid (Row w vr ms) := h
  obtain ⟨a, cap, rfl⟩ := RowG.slice h
  clear h
  have D := l06Bytes_any bd (.slice a ms.length cap) ms
  unfold crtV at D ⊢
  have HD : Hid (∀ W, Row W (.slice a ms.length cap) ms → cfB ms = true → bd.size ≤ 20000 → Calls Tryz.prog 19 #[.agg #[.string bd, .slice a ms.length cap]] W fun e w' => ∃ v, e = .returned v ∧ OwnB 5 w' W.heap.size v (listTo (cTs bd ms) (cTs bd ms).length) ∧ Below W.heap.size W w') := D
  clear D
  have HX : Hid (∀ W, Below (w.alloc (.cells #[.string bd, .slice a ms.length cap] 27)).heap.size (w.alloc (.cells #[.string bd, .slice a ms.length cap] 27)) W → (W.cell? ⟨w.heap.size, 0, none⟩ = some (.string bd) ∧ W.cell? ⟨w.heap.size, 1, none⟩ = some (.slice a ms.length cap)) ∧ Row W (.slice a ms.length cap) ms ∧ Below w.heap.size w W) := fun W hW => by
    have h1 := (hW.block w.heap.size (by simp)).trans (heap_alloc_new w _)
    have hb := (bel_new w (.cells #[.string bd, .slice a ms.length cap] 27)).trans (hW.mono (by simp))
    exact ⟨⟨(blk_cell h1 0 rfl).1, (blk_cell h1 1 rfl).1⟩, HR.out.below hb, hb⟩
  have hbad : ∀ (W : World), Below w.heap.size w W → cCode bd ms = 1 → cOut bd ms = [] → OwnB 5 (W.alloc (.cells #[] 5)) w.heap.size (.slice (some ⟨W.heap.size, 0, none⟩) 0 0) (cOut bd ms) ∧ Below w.heap.size w (W.alloc (.cells #[] 5)) := fun W hW _ e => by
    rw [e]
    exact ⟨own_made _ _ _ _ _ hW.size (by simp [maxLen]) rfl, hW.alloc hW.size _⟩
  have HBAD : Hid (∀ (W : World), Below w.heap.size w W → cCode bd ms = 1 → cOut bd ms = [] → OwnB 5 (W.alloc (.cells #[] 5)) w.heap.size (.slice (some ⟨W.heap.size, 0, none⟩) 0 0) (cOut bd ms) ∧ Below w.heap.size w (W.alloc (.cells #[] 5))) := hbad
  clear hbad
  go_enter Tryz.func7, Tryz.ntmps7
  go_upto_region 1 with fail
  generalize w.alloc (.cells #[.string bd, .slice a ms.length cap] 27) = w1 at HX ⊢
  obtain ⟨⟨q0, q1⟩, _, _⟩ := HX.out w1 (Below.refl _ _)
  have HB1 : Hid (Below w.heap.size w w1) := (HX.out w1 (Below.refl _ _)).2.2
  have HCF : Hid (cfB ms = (decide (ms.length ≤ 7) && ms.all mOK)) := rfl
  by_cases h7 : (7 : Int) < (ms.length : Int)
  · have hq : cfB ms = false := by rw [HCF.out, decide_eq_false (by omega)]; rfl
    have HE : Hid (cCode bd ms = 1 ∧ cOut bd ms = []) := c_no bd ms hq
    clear hq
    go_wp2_with fail
    go_ret2
    obtain ⟨k1, k2⟩ := HBAD.out _ HB1.out HE.out.1 HE.out.2
    exact ⟨_, ret_tup HE.out.1.symm, k1, k2⟩
  by_cases hbb : (20000 : Int) < (bd.size : Int)
  · have HE : Hid (cCode bd ms = 1 ∧ cOut bd ms = []) := c_big bd ms (by omega)
    go_wp2_with fail
    go_ret2
    obtain ⟨k1, k2⟩ := HBAD.out _ HB1.out HE.out.1 HE.out.2
    exact ⟨_, ret_tup HE.out.1.symm, k1, k2⟩
  rw [decide_eq_true (by omega : ms.length ≤ 7), Bool.true_and] at HCF
  go_wp2_with fail
  clear q0 q1
  go_loopw [4] (fun i wr => ∃ k : Nat, k ≤ ms.length ∧ i = .int .i64 k ∧ Hid (ms.all mOK = (ms.drop k).all mOK ∧ Below w1.heap.size w1 wr)) (fun i _ => ms.length - (intOf i).toNat)
  case atStart => exact ⟨0, by omega, rfl, ⟨by rw [List.drop_zero], Below.refl _ _⟩⟩
  case round =>
    obtain ⟨k, hk, rfl, HZ⟩ := hrel
    obtain ⟨⟨q0, q1⟩, hrow, hbw⟩ := HX.out wr HZ.out.2
    have HBW : Hid (Below w.heap.size w wr) := hbw
    clear hbw
    by_cases hlt : k < ms.length
    · obtain ⟨x, hx⟩ := Rg.get_at hlt
      obtain ⟨b, off, rfl, hbl, c0, c1, c2, c3, c4, c5, c6⟩ := RowG.at hrow rfl hx
      have HAX : Hid (ms.all mOK = (mOK x && (ms.drop (k + 1)).all mOK)) := HZ.out.1.trans (all_step hx)
      have HMO : Hid (Calls Tryz.prog 18 #[.agg #[.int .i64 x.kd, .int .i64 x.vw, .int .i64 x.sq, .int .i64 x.fr, .string x.dg, .string x.bd, .string x.mc]] wr fun e w' => e = .returned (.bool (mB x)) ∧ Below wr.heap.size wr w') := specMessageOK_any x.kd x.vw x.sq x.fr x.dg x.bd x.mc _
      have HOE : Hid (mOK x = ((x.kd == 2) && mB x)) := rfl
      have HKX : Hid (∀ W, Below wr.heap.size wr W → W.cell? ⟨w.heap.size, 1, none⟩ = some (.slice (some ⟨b, off, none⟩) ms.length cap) ∧ W.cell? ⟨b, off + k * 7, none⟩ = some (.int .i64 x.kd) ∧ Below w1.heap.size w1 W ∧ Below w.heap.size w W) := fun W hW => ⟨(hW.cell (p := ⟨w.heap.size, 1, none⟩) (World.block_lt_of_cell? _ _ q1)).trans q1, (hW.cell (p := ⟨b, off + k * 7, none⟩) hbl).trans c0, HZ.out.2.trans (hW.mono HZ.out.2.size), HBW.out.trans (hW.mono HBW.out.size)⟩
      clear hx HZ hrow q0
      go_wp2_with fail
      refine HMO.out.mono ?_
      rintro e w2 ⟨rfl, b2⟩
      obtain ⟨p1, p2, p3, p4⟩ := HKX.out w2 b2
      have B2 : Hid (Below w1.heap.size w1 w2 ∧ Below w.heap.size w w2) := ⟨p3, p4⟩
      clear b2 c0 c1 c2 c3 c4 c5 c6 q1 p3 p4 HMO
      cases hm : mB x with
      | false =>
        rw [hm, Bool.and_false] at HOE
        have HF : Hid (cCode bd ms = 1 ∧ cOut bd ms = []) := c_no bd ms (by rw [HCF.out, HAX.out, HOE.out]; rfl)
        go_wp2_with fail
        go_ret2
        obtain ⟨k1, k2⟩ := HBAD.out _ B2.out.2 HF.out.1 HF.out.2
        exact ⟨_, ret_tup HF.out.1.symm, k1, k2⟩
      | true =>
        rw [hm, Bool.and_true] at HOE
        by_cases hkd : x.kd = 2
        · have hk1 : (x.kd != 2) = false := by simp [hkd]
          have HF : Hid (ms.all mOK = (ms.drop (k + 1)).all mOK) := by show _ = _; rw [HAX.out, HOE.out, hkd]; rfl
          clear hkd
          go_wp2_with fail
          exact ⟨⟨k + 1, by omega, by go_num, ⟨HF.out, B2.out.1⟩⟩, by simp [intOf]; omega⟩
        · have hk1 : (x.kd != 2) = true := by simp [hkd]
          have HF : Hid (cCode bd ms = 1 ∧ cOut bd ms = []) := c_no bd ms (by rw [HCF.out, HAX.out, HOE.out]; simp [hkd])
          clear hkd
          go_wp2_with fail
          go_ret2
          obtain ⟨k1, k2⟩ := HBAD.out _ B2.out.2 HF.out.1 HF.out.2
          exact ⟨_, ret_tup HF.out.1.symm, k1, k2⟩
    · obtain rfl : k = ms.length := by omega
      have hq : cfB ms = true := by rw [HCF.out]; exact HZ.out.1.trans all_end
      have HE : Hid (cCode bd ms = 0 ∧ cOut bd ms = listTo (cTs bd ms) (cTs bd ms).length) := c_good bd ms hq (by omega)
      have HD2 := HD.out wr hrow hq (by omega)
      clear hrow hq
      go_wp2_with fail
      refine HD2.mono ?_
      rintro e w3 ⟨v3, rfl, o3, b3⟩
      have HF : Hid (OwnB 5 w3 wr.heap.size v3 (listTo (cTs bd ms) (cTs bd ms).length) ∧ Below w.heap.size w w3) := ⟨o3, HBW.out.trans (b3.mono HBW.out.size)⟩
      clear o3 b3 HD2 q0 q1
      go_wp2_with fail
      go_ret2
      exact ⟨_, ret_tup HE.out.1.symm, by rw [HE.out.2]; exact own_le HF.out.1 HBW.out.size, HF.out.2⟩
end Go.Proofs.YtmknnkhehkegcaaGreatDoor.Cb

/- Drawn certificates: what the law needs of one. -/
namespace Go.Proofs.YtmknnkhehkegcaaGreatDoor.Dc
open Go.RowKit Go.Proofs.YtmknnkhehkegcaaGreatDoor.Sl Go.Proofs.YtmknnkhehkegcaaGreatDoor.By Go.Proofs.YtmknnkhehkegcaaGreatDoor.Ap
open Go.Proofs.YtmknnkhehkegcaaGreatDoor.Gm (Mg Row)
open Go.Proofs.YtmknnkhehkegcaaGreatDoor.Tm (fCode fOut)
open Go.Proofs.YtmknnkhehkegcaaGreatDoor.Vt (crtB)
open Go.Proofs.YtmknnkhehkegcaaGreatDoor.Bd (dig dOut dCode)
open Go.Proofs.YtmknnkhehkegcaaGreatDoor.Bw (bdP)
open Go.Proofs.YtmknnkhehkegcaaGreatDoor.Cb (cOut cCode cTs cfB)
open Go.Proofs.YtmknnkhehkegcaaGreatDoor.Rc (rcCode rcBd rcMs)
theorem row_take {w : World} {a : Option Addr} {n cap : Nat} {ms : List Mg} {k : Nat} (h : Row w (.slice a n cap) ms) (hk : k ≤ ms.length) : Row w (.slice a k cap) (ms.take k) := by
  obtain ⟨a', cap', e, h⟩ := h
  cases e
  refine ⟨a, cap, by rw [List.length_take, Nat.min_eq_left hk], ?_⟩
  rcases h with rfl | ⟨b, off, rfl, hc, hlt, h⟩
  · exact .inl (by simp)
  · refine .inr ⟨b, off, rfl, by rw [List.length_take]; omega, hlt, fun i x hi => ?_⟩
    rw [List.getElem?_take] at hi
    split at hi
    · exact h i x hi
    · cases hi
theorem row_cap {w : World} {a : Option Addr} {n cap : Nat} {ms : List Mg} (h : Row w (.slice a n cap) ms) (hk : 0 < ms.length) : ms.length ≤ cap := by
  obtain ⟨a', cap', e, h⟩ := h
  cases e
  rcases h with rfl | ⟨b, off, rfl, hc, hlt, h⟩
  · simp at hk
  · exact hc
theorem cOut_range (bd : ByteArray) (ms : List Mg) (h : cfB ms = true) (hb : bd.size ≤ 20000) : ∀ z ∈ cOut bd ms, 0 ≤ z ∧ z ≤ 255 := by
  rw [(Cb.c_good bd ms h hb).2]
  exact Lb.listTo_range _ _
theorem good_cert {n f : Nat} {bd : ByteArray} {vw sq : Int} {ms : List Mg} (hn : n = 3 * f + 1) (hf : f ≤ 2) (hv : 0 ≤ vw ∧ vw ≤ 20) (hs : 1 ≤ sq ∧ sq ≤ 8) (hb : bdP n bd = true) (hl : ms.length = 2 * f + 1) (h : Vs8 n vw sq (dig bd) 7 ms) :
    crtB n bd ms = true ∧ cCode bd ms = 0 ∧ rcCode (cOut bd ms) = 0 ∧ rcBd (cOut bd ms) = bd ∧ rcMs (cOut bd ms) = ms ∧ (cOut bd ms).length ≤ 65536 ∧ (∀ z ∈ cOut bd ms, 0 ≤ z ∧ z ≤ 255) ∧ dOut bd = dig bd ∧ dCode bd = 0 ∧ (∀ x ∈ ms, x.dg = dig bd) ∧ crtB n bd (ms.take (2 * f)) = false := by
  obtain ⟨hf0, _, hf2⟩ := n_of hn hf
  have hsz := body_size hb
  obtain ⟨c1, c2⟩ := cert_ok (n := n) hf0 hv hs (dig_size hsz) hb h (by rw [hf2]; omega)
  obtain ⟨b1, b2, b3, b4, b5⟩ := cert_back hsz c2 (by omega)
  refine ⟨c1, b1, b2, b3, b4, b5, cOut_range bd ms (by unfold cfB; rw [decide_eq_true (by omega), c2]; rfl) hsz, Vt.dig_out hb, ?_, ?_, less_no c1 (by rw [List.length_take]; omega)⟩
  · unfold dCode; rw [if_neg (by omega)]
  · intro x hx
    obtain ⟨j, e, _⟩ := h.all x hx
    rw [e]; rfl
end Go.Proofs.YtmknnkhehkegcaaGreatDoor.Dc

/- The laws' own choices: at; a number in a list: hasInt. -/
namespace Go.Proofs.YtmknnkhehkegcaaGreatDoor.La
open Go.RowKit Go.Proofs.YtmknnkhehkegcaaGreatDoor.Sl

/-- What at answers. -/
def atN (xs : List Int) (i n : Nat) : Nat := if n ≤ 1 then 0 else if xs.length = 0 then i * 7 % n else ((nth xs (i % xs.length)).toNat * 31 + (nth xs ((i + 1) % xs.length)).toNat + i / xs.length) % n
theorem atN_lt (xs : List Int) (i n : Nat) (h : 0 < n) : atN xs i n < n := by
  unfold atN
  by_cases h1 : n ≤ 1
  · rw [if_pos h1]; exact h
  · rw [if_neg h1]
    split
    · exact Nat.mod_lt _ h
    · exact Nat.mod_lt _ h
theorem ret_n {a b : Nat} (h : a = b) : Ending.returned (.int .i64 (a : Int)) = .returned (.int .i64 (b : Int)) := by rw [h]
set_option maxRecDepth 100000 in
set_option maxHeartbeats 800000 in
theorem atN_any (v : Value) (xs : List Int) (i n : Nat) (w : World) (h : RowB w v xs) (hx : xs.length ≤ 1048576) (hi : i ≤ 1000) (hn : 0 < n) (hn2 : n ≤ 1000000) :
    Calls Tryz.prog 4 #[v, .int .i64 i, .int .i64 n] w fun e w' => e = .returned (.int .i64 (atN xs i n : Nat)) ∧ Below w.heap.size w w' := by
  obtain ⟨a, cap, rfl, h, hr⟩ := h
  by_cases hone : n = 1
  · subst hone
    go_enter Tryz.func4, Tryz.ntmps4
    go_wp2_with fail
    go_ret
    exact ⟨rfl, Below.refl _ _⟩
  have h1 : ¬ (n : Int) ≤ 1 := by omega
  have h1z : ¬ (n : Int) = 0 := by omega
  by_cases h0 : xs = []
  · subst h0
    go_enter Tryz.func4, Tryz.ntmps4
    go_wp2_with fail
    go_ret
    exact ⟨ret_n (by unfold atN; rw [if_neg (by omega)]; simp), Below.refl _ _⟩
  · rcases h with h | ⟨b, off, rfl, hc, hb, hcell⟩
    · exact absurd h h0
    have hpos : 0 < xs.length := by cases xs with | nil => exact absurd rfl h0 | cons x l => simp
    have e0 : ((xs.length : Int) == 0) = false := by simp; omega
    have e1 : ¬ (xs.length : Int) = 0 := by omega
    have j1 : i % xs.length < xs.length := Nat.mod_lt _ hpos
    have j2 : (i + 1) % xs.length < xs.length := Nat.mod_lt _ hpos
    have c1 := hcell _ j1
    have c2 := hcell _ j2
    have r1 := range_at hr (i % xs.length)
    have r2 := range_at hr ((i + 1) % xs.length)
    have k1 : (i : Int) % (xs.length : Int) = ((i % xs.length : Nat) : Int) := by omega
    have k2 : ((i : Int) + 1) % (xs.length : Int) = (((i + 1) % xs.length : Nat) : Int) := by rw [Int.natCast_emod, Int.natCast_add]; rfl
    have k3 : (i : Int) / (xs.length : Int) = ((i / xs.length : Nat) : Int) := by rw [Int.natCast_ediv]
    have k4 : i / xs.length ≤ i := Nat.div_le_self _ _
    have q1 : ((i % xs.length : Nat) : Int) < (xs.length : Int) := by omega
    have q2 : (((i + 1) % xs.length : Nat) : Int) < (xs.length : Int) := by omega
    obtain ⟨y1, hy1⟩ : ∃ y1 : Nat, nth xs (i % xs.length) = y1 := ⟨(nth xs (i % xs.length)).toNat, by omega⟩
    obtain ⟨y2, hy2⟩ : ∃ y2 : Nat, nth xs ((i + 1) % xs.length) = y2 := ⟨(nth xs ((i + 1) % xs.length)).toNat, by omega⟩
    rw [hy1] at c1 r1
    rw [hy2] at c2 r2
    have z1 : (y1 : Int) ≤ 255 := r1.2
    have z2 : (y2 : Int) ≤ 255 := r2.2
    have z3 : ((i / xs.length : Nat) : Int) ≤ 1000 := by omega
    have HE : Hid ((y1 * 31 + y2 + i / xs.length) % n = atN xs i n) := by show _ = _; unfold atN; rw [if_neg (by omega), if_neg (by omega), hy1, hy2]; rfl
    clear hcell hr h0 hy1 hy2 r1 r2 j1 j2
    generalize i % xs.length = p at c1 k1 q1
    generalize (i + 1) % xs.length = q at c2 k2 q2
    generalize i / xs.length = d at k3 k4 z3 HE
    go_enter Tryz.func4, Tryz.ntmps4
    go_wp2_with fail
    go_quiet (fail)
    go_wp2_with fail
    go_ret
    exact ⟨ret_n HE.out, ⟨rfl, rfl, rfl, Nat.le_refl _, fun _ _ => rfl⟩⟩

theorem at_any (v : Value) (xs : List Int) (i n : Nat) (w : World) (h : RowB w v xs) (hx : xs.length ≤ 1048576) (hi : i ≤ 1000) (hn : 0 < n) (hn2 : n ≤ 1000000) :
    Calls Tryz.prog 4 #[v, .int .i64 i, .int .i64 n] w fun e w' => ∃ r : Nat, e = .returned (.int .i64 r) ∧ r < n ∧ Below w.heap.size w w' := by
  refine (atN_any v xs i n w h hx hi hn hn2).mono ?_
  rintro e w' ⟨rfl, b⟩
  exact ⟨_, rfl, atN_lt xs i n hn, b⟩
end Go.Proofs.YtmknnkhehkegcaaGreatDoor.La

/- From a slice of bytes that came in, as the row opens it, to what the walks ask. -/
namespace Go.Proofs.YtmknnkhehkegcaaGreatDoor.Sl
open Go.RowKit

/-- A slice of integers that came in: it is nil; or it leads to a row of 'cap' cells, the numbers 'zs' (the first 'len' are its elements), each fitting its kind. -/
def IsRow (k : IntKind) (w : World) (a : Option Addr) (len cap : Nat) (zs : List Int) : Prop :=
  (a = none ∧ len = 0 ∧ cap = 0 ∧ zs = []) ∨
  ∃ x, a = some x ∧ len ≤ cap ∧ cap ≤ maxLen ∧ zs.length = cap ∧ (∀ i, i < zs.length → w.cell? (x.add i) = some (.int k (zs.getD i 0))) ∧ ∀ n ∈ zs, (Lit.int k n).wf = true

theorem rowB_of {w : World} {a : Option Addr} {len cap : Nat} {zs : List Int} (h : IsRow .u8 w a len cap zs) : ∃ xs : List Int, xs.length = len ∧ RowB w (.slice a len cap) xs := by
  rcases h with ⟨rfl, rfl, rfl, rfl⟩ | ⟨x, rfl, hl, _, hz, hcell, hwz⟩
  · exact ⟨[], rfl, none, 0, rfl, .inl rfl, fun x hx => by cases hx⟩
  · have hlen : (zs.take len).length = len := by rw [List.length_take]; omega
    refine ⟨zs.take len, hlen, some x, cap, by rw [hlen], ?_, ?_⟩
    · by_cases h0 : len = 0
      · exact .inl (by rw [h0]; rfl)
      · obtain ⟨b, off, spot⟩ := x
        have hc := hcell 0 (by omega)
        have hspot : spot = none := by simpa [Addr.add] using World.cell?_spot hc
        subst hspot
        have hc0 : w.cell? ⟨b, off, none⟩ = some (.int .u8 (zs.getD 0 0)) := by simpa [Addr.add] using hc
        refine .inr ⟨b, off, rfl, by omega, World.block_lt_of_cell? w _ hc0, fun i hi => ?_⟩
        have h1 := hcell i (by omega)
        have h2 : (⟨b, off, none⟩ : Addr).add i = ⟨b, off + i, none⟩ := by unfold Addr.add; split <;> simp_all
        rw [h2] at h1
        rw [h1]
        unfold nth
        rw [List.getD_eq_getElem?_getD, List.getD_eq_getElem?_getD, List.getElem?_take_of_lt (by omega)]
    · intro n hn
      have := hwz n (List.mem_of_mem_take hn)
      simpa [Lit.wf, IntKind.min, IntKind.max, IntKind.signed, IntKind.bits] using this
end Go.Proofs.YtmknnkhehkegcaaGreatDoor.Sl

/- A slice of bytes, as the row opens it. -/
namespace Go.Proofs.YtmknnkhehkegcaaGreatDoor.Op
open Go.ChangeShapes Go.WideShapes Go.ChangeAt Go.RowKit
set_option maxRecDepth 100000 in
theorem open_bytes {H : Type} {enc : TypeId × Value → H} {w : World} {base : Nat} {spare : Nat → Bool} {r : Reach} {b0 : Nat} {v : Value} {d : DataW H} {p : List MemPlace}
    (hv : Value.okWide Tryz.prog w r b0 22 v) (h : DataW.Trod enc Tryz.prog w base spare true 22 v d p) (hs : ∀ b, spare b = true) :
    ∃ xs : List Int, Sl.RowB w v xs := by
  obtain ⟨a0, len0, cap0, rfl⟩ := okWide_slice Tryz.underlying22 hv
  obtain ⟨fuel, hf⟩ := h
  have hsp : spare = fun _ => true := funext hs
  subst hsp
  have : ∃ zs, Sl.IsRow .u8 w a0 len0 cap0 zs := by
    rcases open_ints Tryz.underlying22 Tryz.underlying5 (by kernel_rfl) hf with ⟨hcs, _⟩ | ⟨x, l, c, zs, hcs, _, hl, hm, hz, _, hcell, hwz⟩
    · simp [Value.cells] at hcs
      obtain ⟨rfl, rfl, rfl⟩ := hcs
      exact ⟨[], .inl ⟨rfl, rfl, rfl, rfl⟩⟩
    · simp [Value.cells] at hcs
      obtain ⟨rfl, rfl, rfl⟩ := hcs
      exact ⟨zs, .inr ⟨_, rfl, hl, hm, by simpa using hz, hcell, hwz⟩⟩
  obtain ⟨zs, hz⟩ := this
  obtain ⟨xs, _, hx⟩ := Sl.rowB_of hz
  exact ⟨xs, hx⟩
end Go.Proofs.YtmknnkhehkegcaaGreatDoor.Op
