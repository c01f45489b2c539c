/- Texts put together: Cb3, Di, Do, Dr, Pq. -/
import Derived.Test.YtkfiahemgdppfaaGreatDoorM14
import Derived.Test.YtkfiahemgdppfaaGreatDoorM22
import Derived.Test.YtkfiahemgdppfaaGreatDoorM20
import Derived.Test.YtkfiahemgdppfaaGreatDoorM13
import Derived.Test.YtkfiahemgdppfaaGreatDoorM21
import Derived.Test.YtkfiahemgdppfaaGreatDoorM18
/- Certificates' bytes: the specification. -/
namespace Go.Proofs.YtkfiahemgdppfaaGreatDoor.Cb
open Go.RowKit Go.Proofs.YtkfiahemgdppfaaGreatDoor.Sl Go.Proofs.YtkfiahemgdppfaaGreatDoor.By Go.Proofs.YtkfiahemgdppfaaGreatDoor.Ap Go.Proofs.YtkfiahemgdppfaaGreatDoor.Rq Go.Proofs.YtkfiahemgdppfaaGreatDoor.Ms Go.Proofs.YtkfiahemgdppfaaGreatDoor.Mp Go.Proofs.YtkfiahemgdppfaaGreatDoor.Rp Go.Proofs.YtkfiahemgdppfaaGreatDoor.Lb Go.Proofs.YtkfiahemgdppfaaGreatDoor.Gm
open Go.Proofs.YtkfiahemgdppfaaGreatDoor.Ty (RowT tnth)
open Go.Proofs.YtkfiahemgdppfaaGreatDoor.Tl (OwnS)
open Go.Proofs.YtkfiahemgdppfaaGreatDoor.Rg (RowG RowG.slice RowG.at lt_at mem_at blk_cell bel_new)

set_option maxRecDepth 100000 in
set_option maxHeartbeats 1600000 in
theorem l06Bytes_any (bd : ByteArray) (vr : Value) (ms : List Mg) (w : World) (h : Row w vr ms) (hq : cfB ms = true) (hb : bd.size ≤ 20000) :
    Calls Tryz.prog 51 #[crtV bd vr] w fun e w' => ∃ v, e = .returned v ∧ OwnB 5 w' w.heap.size v (listTo (cTs bd ms) (cTs bd ms).length) ∧ Below w.heap.size w w' := by
  obtain ⟨i0, hi0, hz0, hz1, hz2⟩ := info_parts info_s
  have HR : Hid (Row w vr ms) := h
  obtain ⟨a, cap, rfl⟩ := RowG.slice h
  clear h
  have h7 := (cf_all hq).1
  have HM : Hid (∀ x ∈ ms, mOK x = true) := (cf_all hq).2
  have HLE : Hid (∀ k, k ≤ (cTs bd ms).length → lenTo (cTs bd ms) k ≤ 65536) := lenTo_ok bd ms hq hb
  unfold crtV
  have HX : Hid (∀ W, Below (w.alloc (.cells #[.string bd, .slice a ms.length cap] 37)).heap.size (w.alloc (.cells #[.string bd, .slice a ms.length cap] 37)) W → (W.cell? ⟨w.heap.size, 0, none⟩ = some (.string bd) ∧ W.cell? ⟨w.heap.size, 1, none⟩ = some (.slice a ms.length cap)) ∧ Row W (.slice a ms.length cap) ms ∧ Below w.heap.size w W) := fun W hW => by
    have h1 := (hW.block w.heap.size (by simp)).trans (heap_alloc_new w _)
    have hb := (bel_new w (.cells #[.string bd, .slice a ms.length cap] 37)).trans (hW.mono (by simp))
    exact ⟨⟨(blk_cell h1 0 rfl).1, (blk_cell h1 1 rfl).1⟩, HR.out.below hb, hb⟩
  clear hq
  go_enter Tryz.func51, Tryz.ntmps51
  go_upto_region 1 with fail
  generalize w.alloc (.cells #[.string bd, .slice a ms.length cap] 37) = w1 at HX ⊢
  obtain ⟨⟨q0, q1⟩, _, _⟩ := HX.out w1 (Below.refl _ _)
  have HB1 : Hid (Below w.heap.size w w1) := (HX.out w1 (Below.refl _ _)).2.2
  have O1 : Hid (OwnS (w1.alloc (.cells #[.string bd] 9)) w1.heap.size (.slice (some ⟨w1.heap.size, 0, none⟩) 1 1) (cTs bd (ms.take 0)) ∧ Below w1.heap.size w1 (w1.alloc (.cells #[.string bd] 9))) := ⟨own_txt1 w1 w1.heap.size bd (Nat.le_refl _), bel_new _ _⟩
  go_wp2_with fail
  clear q0 q1
  go_loopw [3, 4] (fun b i wr => ∃ m : Nat, m ≤ ms.length ∧ i = .int .i64 m ∧ Hid (OwnS wr w1.heap.size b (cTs bd (ms.take m)) ∧ Below w1.heap.size w1 wr)) (fun _ i _ => ms.length - (intOf i).toNat)
  case atStart => exact ⟨0, by omega, rfl, O1⟩
  case round =>
    clear O1
    obtain ⟨m, hm, rfl, HO⟩ := hrel
    obtain ⟨v0, rfl⟩ : ∃ v0, v0 = u3 := ⟨_, rfl⟩
    obtain ⟨⟨q0, q1⟩, hrow, _⟩ := HX.out wr HO.out.2
    by_cases hlt : m < ms.length
    · obtain ⟨x, hx⟩ := Rg.get_at hlt
      obtain ⟨b, off, rfl, hbl, c0, c1, c2, c3, c4, c5, c6⟩ := RowG.at hrow rfl hx
      have HT : Hid (cTs bd (ms.take (m + 1)) = cTs bd (ms.take m) ++ [mTx x]) := cTs_step hx
      have HMX := (ok_size (HM.out x (mem_at hx))).2
      obtain ⟨s1, s2, s3⟩ := msg_small (show msgB x.kd x.vw x.sq x.fr x.dg x.bd x.mc = true from HMX)
      have HMB := l02Message_any x.kd x.vw x.sq x.fr x.dg x.bd x.mc wr (by omega) (by omega) (by omega)
      unfold msgV at HMB
      have HLN : Hid ((cTs bd (ms.take m)).length ≤ 8) := by show _ ≤ _; rw [cTs_len, List.length_take]; omega
      have HTX : Hid (strOfNums (msgBs x.kd x.vw x.sq x.fr x.dg x.bd x.mc) = mTx x) := rfl
      clear hx HMX hrow s1 s2 s3 q0
      go_wp2_with fail
      clear c0 c1 c2 c3 c4 c5 c6 q1
      refine HMB.mono ?_
      rintro e w3 ⟨v3, rfl, o3, b3⟩
      have hcv := By.run_convert_own (P := Tryz.prog) w3 _ 22 5 9 Tryz.underlying22 Tryz.underlying5 Tryz.underlying9 v3 _ o3
      rw [HTX.out] at hcv
      have b4 := box_old b3
      have O3 : Hid (OwnS w3 w1.heap.size v0 (cTs bd (ms.take m)) ∧ Below w1.heap.size w1 w3) := ⟨Rl.OwnS.below HO.out.1 b4, HO.out.2.trans (b4.mono HO.out.2.size)⟩
      clear o3 b3 b4 HMB HO
      go_wp2_with (at_builtin; go_must (refine list_txt (by rfl) _ _ 28 (by rfl) i0 Tryz.underlying28 hi0 hz0 hz1 hz2 w1.heap.size w1 w3 _ _ (mTx x) (by rfl) O3.out.1 O3.out.2 O3.out.2.size (by rfl) (by have := HLN.out; omega) ?_; intro v5 w5 o5 b5))
      exact ⟨⟨m + 1, by omega, by go_num, ⟨by rw [HT.out]; exact o5, b5⟩⟩, by simp [intOf]; omega⟩
    · obtain rfl : m = ms.length := by omega
      rw [List.take_length] at HO
      have HLB := l02List_any v0 (cTs bd ms) wr (Tl.OwnS.row HO.out.1) (by rw [cTs_len]; omega) HLE.out
      clear HX hrow q0
      go_wp2_with fail
      refine HLB.mono ?_
      rintro e w3 ⟨v3, rfl, o3, b3⟩
      have HF : Hid (OwnB 5 w3 wr.heap.size v3 (listTo (cTs bd ms) (cTs bd ms).length) ∧ Below w.heap.size w w3 ∧ w.heap.size ≤ wr.heap.size) := ⟨o3, (HB1.out.trans (HO.out.2.mono HB1.out.size)).trans (b3.mono (Nat.le_trans HB1.out.size HO.out.2.size)), Nat.le_trans HB1.out.size HO.out.2.size⟩
      clear o3 b3 HLB q1
      go_wp2_with fail
      go_ret
      exact ⟨_, rfl, own_le HF.out.1 HF.out.2.2, HF.out.2.1⟩
end Go.Proofs.YtkfiahemgdppfaaGreatDoor.Cb

/- Drawn view changes: the walk. -/
namespace Go.Proofs.YtkfiahemgdppfaaGreatDoor.Dc
open Go.RowKit Go.Proofs.YtkfiahemgdppfaaGreatDoor.Sl Go.Proofs.YtkfiahemgdppfaaGreatDoor.By Go.Proofs.YtkfiahemgdppfaaGreatDoor.Ap Go.Proofs.YtkfiahemgdppfaaGreatDoor.Rr Go.Proofs.YtkfiahemgdppfaaGreatDoor.Gn
open Go.Proofs.YtkfiahemgdppfaaGreatDoor.Gm (Mg Row)
open Go.Proofs.YtkfiahemgdppfaaGreatDoor.Tm (fCode fOut)
open Go.Proofs.YtkfiahemgdppfaaGreatDoor.Bd (dig)
open Go.Proofs.YtkfiahemgdppfaaGreatDoor.Bw (bdP)
open Go.Proofs.YtkfiahemgdppfaaGreatDoor.Qm (qOut)
open Go.Proofs.YtkfiahemgdppfaaGreatDoor.Cb (crtV cOut cTs l06Bytes_any)
open Go.Proofs.YtkfiahemgdppfaaGreatDoor.Lb (listTo lenTo l02List_any)
open Go.Proofs.YtkfiahemgdppfaaGreatDoor.Tl (OwnS list_text)
open Go.Proofs.YtkfiahemgdppfaaGreatDoor.Rc (OwnM OwnM.row)
open Go.Proofs.YtkfiahemgdppfaaGreatDoor.Si (mmk l06Sign_any)
open Go.Proofs.YtkfiahemgdppfaaGreatDoor.Rg (RowG.slice lt_at mem_at bel_new size_new)

theorem dTs_snoc (ds : List Dn) (d : Dn) : dTs (ds ++ [d]) = dTs ds ++ [d.tx] := by unfold dTs; rw [List.map_append]; rfl
theorem dTs_nil : dTs [] = [] := rfl
theorem Dl.le {n view j j' : Int} {ds : List Dn} (h : Dl n view j ds) (hj : j ≤ j') : Dl n view j' ds := ⟨fun d hd => ⟨(h.all d hd).1, by have := (h.all d hd).2; omega⟩, h.rise, by have := h.len; omega⟩
set_option maxRecDepth 100000 in
set_option maxHeartbeats 3200000 in
theorem change_any (n f i view p B K : Nat) (xs : List Int) (w : World) (h : Gn.Src B w p xs K) (hB : B ≤ p) (hK : K ≤ 10000) (hx : xs.length ≤ 1048600) (hn : n = 3 * f + 1) (hf : f ≤ 2) (hv : 1 ≤ view ∧ view ≤ 20) (hi : i < 7) :
    Calls Tryz.prog 17 #[.pointer (some ⟨p, 0, none⟩), .int .i64 n, .int .i64 i, .int .i64 view] w fun e w' => ∃ ds, e = .returned (.agg #[.int .i64 4, .int .i64 view, .int .i64 0, .int .i64 i, .string ⟨#[]⟩, .string (dBd ds), .string (mmk 4 view 0 i ⟨#[]⟩ (dBd ds))]) ∧ Dl n view 4 ds ∧ Gn.Src B w' p xs (K + 54) ∧ w.grownBy w' (some p) := by
  have hp := h.lt
  obtain ⟨i0, hi0, hz0, hz1, hz2⟩ := info_parts (Ty.info9)
  obtain ⟨hf0, hf1, hf2⟩ := n_of hn hf
  have HFC : Hid (fCode (n : Int) = 0 ∧ qOut (n : Int) = 2 * (f : Int) + 1) := ⟨hf0, hf2⟩
  have HN : Hid (∀ _ : Unit, n = 3 * f + 1) := fun _ => hn
  have S0 : Hid (Gn.Src B (w.alloc (.cells #[.int .i64 0, .int .i64 0, .int .i64 0, .int .i64 0, .string ⟨#[]⟩, .string ⟨#[]⟩, .string ⟨#[]⟩] 26)) p xs K) := h.alloc hB _
  have G0 : Hid (w.grownBy (w.alloc (.cells #[.int .i64 0, .int .i64 0, .int .i64 0, .int .i64 0, .string ⟨#[]⟩, .string ⟨#[]⟩, .string ⟨#[]⟩] 26)) (some p)) := grown_alloc (grown_refl _ _) _
  have A0 : Hid ((w.alloc (.cells #[.int .i64 0, .int .i64 0, .int .i64 0, .int .i64 0, .string ⟨#[]⟩, .string ⟨#[]⟩, .string ⟨#[]⟩] 26)).heap[w.heap.size]? = some (.cells #[.int .i64 0, .int .i64 0, .int .i64 0, .int .i64 0, .string ⟨#[]⟩, .string ⟨#[]⟩, .string ⟨#[]⟩] 26 (0, 0))) := blk_new _ _ _
  clear h hn hf0 hf1 hf2
  go_enter Tryz.func17, Tryz.ntmps17
  go_upto_region 1 with fail
  generalize w.alloc (.cells #[.int .i64 0, .int .i64 0, .int .i64 0, .int .i64 0, .string ⟨#[]⟩, .string ⟨#[]⟩, .string ⟨#[]⟩] 26) = wa at S0 G0 A0 ⊢
  have hpa : p < wa.heap.size := S0.out.lt
  have hwa : w.heap.size < wa.heap.size := (Array.getElem?_eq_some_iff.1 A0.out).1
  have O0 : Hid (OwnS (wa.alloc (.cells #[] 9)) wa.heap.size (.slice (some ⟨wa.heap.size, 0, none⟩) 0 0) []) := World.ownsRow_made wa #[] 0 (Nat.le_refl _) (by decide) rfl
  have S1 : Hid (Gn.Src B (wa.alloc (.cells #[] 9)) p xs K) := S0.out.alloc hB _
  have G1 : Hid (wa.grownBy (wa.alloc (.cells #[] 9)) (some p)) := grown_alloc (grown_refl _ _) _
  clear S0
  go_wp2_with fail
  go_loopw [9, 10] (fun out k wr => ∃ (j : Nat) (ds : List Dn), 1 ≤ j ∧ j ≤ 4 ∧ k = .int .i64 (j : Int) ∧ Hid (OwnS wr wa.heap.size out (dTs ds)) ∧ Hid (Dl n view j ds) ∧ Hid (Gn.Src B wr p xs (K + 18 * (j - 1))) ∧ Hid (wa.grownBy wr (some p))) (fun _ k _ => 4 - (intOf k).toNat)
  case atStart => exact ⟨1, [], by omega, by omega, rfl, O0, Dl.nil _ _, S1, G1⟩
  case round =>
    clear O0 S1 G1
    obtain ⟨j, ds, hj1, hj4, rfl, HO, HD, HS, HG⟩ := hrel
    by_cases hlt : j < 4
    · have hlt' : (j : Int) < 4 := by omega
      go_wp2_with fail
      refine (chance_any 2 p B (K + 18 * (j - 1)) xs _ HS.out hB (by omega) hx (by decide) (by decide)).mono ?_
      rintro e w1 ⟨b, rfl, s1, g1⟩
      have O1 : Hid (OwnS w1 wa.heap.size u9 (dTs ds)) := Tl.OwnS.kept HO.out g1 hpa
      have S1 : Hid (Gn.Src B w1 p xs (K + 18 * (j - 1) + 1)) := s1
      have G1 : Hid (wa.grownBy w1 (some p)) := grown_trans HG.out g1
      clear s1 g1 HO HS HG
      cases b with
      | false =>
        have S2 : Hid (Gn.Src B w1 p xs (K + 18 * (j + 1 - 1))) := S1.out.le (by omega)
        have D2 : Hid (Dl n view ((j + 1 : Nat) : Int) ds) := HD.out.le (by omega)
        go_wp2_with fail
        exact ⟨⟨j + 1, ds, by omega, by omega, by go_num, O1, D2, S2, G1⟩, by simp [intOf]; omega⟩
      | true =>
        go_wp2_with fail
        refine (next_any view p B (K + 18 * (j - 1) + 1) xs _ S1.out hB (by omega) hx (by omega) (by omega)).mono ?_
        rintro e w2 ⟨r, rfl, hr, s2, g2⟩
        have O2 : Hid (OwnS w2 wa.heap.size u9 (dTs ds)) := Tl.OwnS.kept O1.out g2 hpa
        have S2 : Hid (Gn.Src B w2 p xs (K + 18 * (j - 1) + 1 + 1)) := s2
        have G2 : Hid (wa.grownBy w2 (some p)) := grown_trans G1.out g2
        clear s2 g2 O1 S1 G1
        go_wp2_with fail
        refine (cert_any n f p B (K + 18 * (j - 1) + 1 + 1) (r : Int) (j : Int) xs _ S2.out hB (by omega) hx (HN.out ()) hf ⟨by omega, by omega⟩ ⟨by omega, by omega⟩).mono ?_
        rintro e w3 ⟨bd, u, ms, rfl, o3, hbd, hl, hvs, s3, g3⟩
        have O3 : Hid (OwnS w3 wa.heap.size u9 (dTs ds)) := Tl.OwnS.kept O2.out g3 hpa
        have S3 : Hid (Gn.Src B w3 p xs (K + 18 * (j - 1) + 1 + 1 + 16)) := s3
        have G3 : Hid (wa.grownBy w3 (some p)) := grown_trans G2.out g3
        have hone : OneD n view ⟨r, j, bd, ms⟩ := ⟨⟨by dsimp only; omega, by dsimp only; omega⟩, ⟨by dsimp only; omega, by dsimp only; omega⟩, hbd, by rw [HFC.out.2]; show ((ms.length : Nat) : Int) = _; omega, hvs⟩
        have hcf := (one_ok HFC.out.1 (by omega) hone).2.2.2.2.2
        have hsz : bd.size ≤ 20000 := by have := bd_small hbd; omega
        have D3 : Hid (Dl n view ((j + 1 : Nat) : Int) (ds ++ [⟨r, j, bd, ms⟩])) := by
          have := HD.out.snoc hone rfl
          show Dl _ _ _ _
          rw [show ((j + 1 : Nat) : Int) = (j : Int) + 1 by omega]
          exact this
        have HB0 := l06Bytes_any bd u ms w3 (OwnM.row o3) hcf hsz
        have hz : strOfNums (listTo (cTs bd ms) (cTs bd ms).length) = Dn.tx ⟨r, j, bd, ms⟩ := by unfold Dn.tx; rw [(Cb.c_good bd ms hcf hsz).2]
        have hrg : ∀ z ∈ listTo (cTs bd ms) (cTs bd ms).length, 0 ≤ z ∧ z ≤ 255 := Lb.listTo_range _ _
        have hlen : (dTs ds).length ≤ 1000000 := by unfold dTs; rw [List.length_map]; have := HD.out.len; omega
        have HT : Hid (dTs (ds ++ [⟨r, j, bd, ms⟩]) = dTs ds ++ [Dn.tx ⟨r, j, bd, ms⟩]) := dTs_snoc _ _
        obtain ⟨ua, ucap, rfl⟩ := RowG.slice (OwnM.row o3)
        unfold crtV at HB0
        generalize (⟨r, j, bd, ms⟩ : Dn) = d at D3 hz HT
        generalize listTo (cTs bd ms) (cTs bd ms).length = bs at HB0 hz hrg
        clear o3 hbd hl hvs s3 g3 O2 S2 G2 hone hcf hsz HD
        go_wp2_with fail
        refine HB0.mono ?_
        rintro e w4 ⟨v4, rfl, o4, b4⟩
        have hc := run_convert_row (P := Tryz.prog) w4 w4.heap.size 22 5 9 Tryz.underlying22 Tryz.underlying5 Tryz.underlying9 v4 bs (RowU.of (own_rowB o4 hrg))
        rw [hz] at hc
        have O4 : OwnS w4 wa.heap.size u9 (dTs ds) := Rl.OwnS.below O3.out b4
        have S4 : Hid (Gn.Src B w4 p xs (K + 18 * (j - 1) + 1 + 1 + 16)) := src_bel S3.out hB b4
        have G4 : wa.grownBy w4 (some p) := grown_trans G3.out (bel_grown b4)
        generalize d.tx = z at hc HT
        clear o4 b4 O3 S3 G3 HB0 hz hrg
        go_wp2_with (at_builtin; go_must (refine list_text (by rfl) _ _ 28 (by rfl) i0 Tryz.underlying28 hi0 hz0 hz1 hz2 wa.heap.size p wa w4 _ _ _ (by rfl) O4 G4 rfl (by rfl) hlen ?_; intro v5 w5 o5 g5 k5))
        have S5 : Hid (Gn.Src B w5 p xs (K + 18 * (j + 1 - 1))) := (S4.out.kept (k5 p hpa) (fun k hk => k5 k (by omega))).le (by omega)
        have O5 : Hid (OwnS w5 wa.heap.size v5 (dTs (ds ++ [d]))) := by show OwnS _ _ _ _; rw [HT.out]; exact o5
        exact ⟨⟨j + 1, _, by omega, by omega, by go_num, O5, D3, S5, g5⟩, by simp [intOf]; omega⟩
    · obtain rfl : j = 4 := by omega
      obtain ⟨hl, h3, ht, hk, hb⟩ := change_sz HFC.out.1 (by omega) (Int.le_refl _) HD.out
      have HL0 := l02List_any u9 (dTs ds) wr (Tl.OwnS.row HO.out) (by omega) (fun k hk0 => by have := hk k hk0; omega)
      have hrg : ∀ z ∈ listTo (dTs ds) (dTs ds).length, 0 ≤ z ∧ z ≤ 255 := Lb.listTo_range _ _
      have HSG := fun W => l06Sign_any 4 view 0 i 0 ⟨#[]⟩ (dBd ds) ⟨#[]⟩ W hi (by decide) (by omega)
      unfold Ms.msgV at HSG
      have hbd : strOfNums (listTo (dTs ds) (dTs ds).length) = dBd ds := rfl
      have A1 : Hid (wr.heap[w.heap.size]? = some (.cells #[.int .i64 0, .int .i64 0, .int .i64 0, .int .i64 0, .string ⟨#[]⟩, .string ⟨#[]⟩, .string ⟨#[]⟩] 26 (0, 0))) := blk_kept A0.out HG.out (by omega)
      have G1 : Hid (w.grownBy wr (some p)) := grown_trans G0.out HG.out
      have S1 : Hid (Gn.Src B wr p xs (K + 54)) := HS.out.le (by omega)
      have HE : Hid (∃ bo mk, bo = dBd ds ∧ mk = mmk 4 view 0 i ⟨#[]⟩ (dBd ds)) := ⟨_, _, rfl, rfl⟩
      obtain ⟨bo, mk, hbo, hmk⟩ := HE.out
      have HBM : Hid (bo = dBd ds ∧ mk = mmk 4 view 0 i ⟨#[]⟩ (dBd ds)) := ⟨hbo, hmk⟩
      rw [← hmk, ← hbo] at HSG
      rw [← hbo] at hbd
      generalize listTo (dTs ds) (dTs ds).length = bs at HL0 hrg hbd
      clear hl h3 ht hk hb HO HS HG HE hbo hmk
      go_wp2_with fail
      refine HL0.mono ?_
      rintro e w1 ⟨v1, rfl, o1, b1⟩
      have hc := run_convert_row (P := Tryz.prog) w1 w1.heap.size 22 5 9 Tryz.underlying22 Tryz.underlying5 Tryz.underlying9 v1 bs (RowU.of (own_rowB o1 hrg))
      rw [hbd] at hc
      have A2 : Hid (w1.heap[w.heap.size]? = some (.cells #[.int .i64 0, .int .i64 0, .int .i64 0, .int .i64 0, .string ⟨#[]⟩, .string ⟨#[]⟩, .string ⟨#[]⟩] 26 (0, 0))) := (b1.block _ (Array.getElem?_eq_some_iff.1 A1.out).1).trans A1.out
      have G2 : Hid (w.grownBy w1 (some p)) := grown_trans G1.out (bel_grown b1)
      have S2 : Hid (Gn.Src B w1 p xs (K + 54)) := src_bel S1.out hB b1
      clear o1 b1 A1 G1 S1 HL0
      go_wp2_with fail
      refine (HSG _).mono ?_
      rintro e w2 ⟨rfl, b2⟩
      have A3 : Hid (w2.heap[w.heap.size]? = some (.cells #[.int .i64 0, .int .i64 0, .int .i64 0, .int .i64 0, .string ⟨#[]⟩, .string ⟨#[]⟩, .string ⟨#[]⟩] 26 (0, 0))) := (b2.block _ (Array.getElem?_eq_some_iff.1 A2.out).1).trans A2.out
      have G3 : Hid (w.grownBy w2 (some p)) := grown_trans G2.out (bel_grown b2)
      have S3 : Hid (Gn.Src B w2 p xs (K + 54)) := src_bel S2.out hB b2
      clear b2 A2 G2 S2 HSG hc
      obtain ⟨ca0, fa0⟩ := blk_cell A3.out 0 (x := .int .i64 0) rfl
      obtain ⟨ca1, fa1⟩ := blk_cell A3.out 1 (x := .int .i64 0) rfl
      obtain ⟨ca2, fa2⟩ := blk_cell A3.out 2 (x := .int .i64 0) rfl
      obtain ⟨ca3, fa3⟩ := blk_cell A3.out 3 (x := .int .i64 0) rfl
      obtain ⟨ca4, fa4⟩ := blk_cell A3.out 4 (x := .string ⟨#[]⟩) rfl
      obtain ⟨ca5, fa5⟩ := blk_cell A3.out 5 (x := .string ⟨#[]⟩) rfl
      obtain ⟨ca6, fa6⟩ := blk_cell A3.out 6 (x := .string ⟨#[]⟩) rfl
      have AF : (((((((w2.setCell ⟨w.heap.size, 0, none⟩ (.int .i64 4)).setCell ⟨w.heap.size, 1, none⟩ (.int .i64 (view : Int))).setCell ⟨w.heap.size, 2, none⟩ (.int .i64 0)).setCell ⟨w.heap.size, 3, none⟩ (.int .i64 (i : Int))).setCell ⟨w.heap.size, 4, none⟩ (.string ⟨#[]⟩)).setCell ⟨w.heap.size, 5, none⟩ (.string bo)).setCell ⟨w.heap.size, 6, none⟩ (.string mk)).heap[w.heap.size]? = some (.cells #[.int .i64 4, .int .i64 (view : Int), .int .i64 0, .int .i64 (i : Int), .string ⟨#[]⟩, .string bo, .string mk] 26 (0, 0)) := (blk_set (blk_set (blk_set (blk_set (blk_set (blk_set (blk_set A3.out 0 (.int .i64 4)) 1 (.int .i64 (view : Int))) 2 (.int .i64 0)) 3 (.int .i64 (i : Int))) 4 (.string ⟨#[]⟩)) 5 (.string bo)) 6 (.string mk))
      have GF : Hid (w.grownBy (((((((w2.setCell ⟨w.heap.size, 0, none⟩ (.int .i64 4)).setCell ⟨w.heap.size, 1, none⟩ (.int .i64 (view : Int))).setCell ⟨w.heap.size, 2, none⟩ (.int .i64 0)).setCell ⟨w.heap.size, 3, none⟩ (.int .i64 (i : Int))).setCell ⟨w.heap.size, 4, none⟩ (.string ⟨#[]⟩)).setCell ⟨w.heap.size, 5, none⟩ (.string bo)).setCell ⟨w.heap.size, 6, none⟩ (.string mk)) (some p)) := (grown_new (grown_new (grown_new (grown_new (grown_new (grown_new (grown_new G3.out (Nat.le_refl _) 0 (.int .i64 4)) (Nat.le_refl _) 1 (.int .i64 (view : Int))) (Nat.le_refl _) 2 (.int .i64 0)) (Nat.le_refl _) 3 (.int .i64 (i : Int))) (Nat.le_refl _) 4 (.string ⟨#[]⟩)) (Nat.le_refl _) 5 (.string bo)) (Nat.le_refl _) 6 (.string mk))
      have SF : Hid (Gn.Src B (((((((w2.setCell ⟨w.heap.size, 0, none⟩ (.int .i64 4)).setCell ⟨w.heap.size, 1, none⟩ (.int .i64 (view : Int))).setCell ⟨w.heap.size, 2, none⟩ (.int .i64 0)).setCell ⟨w.heap.size, 3, none⟩ (.int .i64 (i : Int))).setCell ⟨w.heap.size, 4, none⟩ (.string ⟨#[]⟩)).setCell ⟨w.heap.size, 5, none⟩ (.string bo)).setCell ⟨w.heap.size, 6, none⟩ (.string mk)) p xs (K + 54)) := (Gn.Src.set (Gn.Src.set (Gn.Src.set (Gn.Src.set (Gn.Src.set (Gn.Src.set (Gn.Src.set S3.out (by omega) (by omega) 0 (.int .i64 4)) (by omega) (by omega) 1 (.int .i64 (view : Int))) (by omega) (by omega) 2 (.int .i64 0)) (by omega) (by omega) 3 (.int .i64 (i : Int))) (by omega) (by omega) 4 (.string ⟨#[]⟩)) (by omega) (by omega) 5 (.string bo)) (by omega) (by omega) 6 (.string mk))
      go_wp2_with fail
      generalize (((((((w2.setCell ⟨w.heap.size, 0, none⟩ (.int .i64 4)).setCell ⟨w.heap.size, 1, none⟩ (.int .i64 (view : Int))).setCell ⟨w.heap.size, 2, none⟩ (.int .i64 0)).setCell ⟨w.heap.size, 3, none⟩ (.int .i64 (i : Int))).setCell ⟨w.heap.size, 4, none⟩ (.string ⟨#[]⟩)).setCell ⟨w.heap.size, 5, none⟩ (.string bo)).setCell ⟨w.heap.size, 6, none⟩ (.string mk)) = wf at AF GF SF ⊢
      have d0 := (blk_cell AF 0 (x := .int .i64 4) rfl).1
      have d1 := (blk_cell AF 1 (x := .int .i64 (view : Int)) rfl).1
      have d2 := (blk_cell AF 2 (x := .int .i64 0) rfl).1
      have d3 := (blk_cell AF 3 (x := .int .i64 (i : Int)) rfl).1
      have d4 := (blk_cell AF 4 (x := .string ⟨#[]⟩) rfl).1
      have d5 := (blk_cell AF 5 (x := .string bo) rfl).1
      have d6 := (blk_cell AF 6 (x := .string mk) rfl).1
      exact bodyPost_ret (v := .agg #[.int .i64 4, .int .i64 (view : Int), .int .i64 0, .int .i64 (i : Int), .string ⟨#[]⟩, .string bo, .string mk]) (by simp [results, Tryz.results17, go_sem, d0, d1, d2, d3, d4, d5, d6]) rfl ⟨ds, by rw [HBM.out.1, HBM.out.2], HD.out, SF.out, GF.out⟩
set_option maxHeartbeats 800000 in
theorem ChangeOf_any (n f i view : Nat) (v : Value) (xs : List Int) (w : World) (h : RowB w v xs) (hx : xs.length ≤ 1048600) (hn : n = 3 * f + 1) (hf : f ≤ 2) (hv : 1 ≤ view ∧ view ≤ 20) (hi : i < 7) :
    Calls Tryz.prog 6 #[v, .int .i64 n, .int .i64 i, .int .i64 view] w fun e w' => ∃ ds, e = .returned (.agg #[.int .i64 4, .int .i64 view, .int .i64 0, .int .i64 i, .string ⟨#[]⟩, .string (dBd ds), .string (mmk 4 view 0 i ⟨#[]⟩ (dBd ds))]) ∧ Dl n view 4 ds ∧ Below w.heap.size w w' := by
  have B0 : Below w.heap.size w (w.alloc (.cells #[.int .i64 0, .int .i64 0, .int .i64 0, .int .i64 0, .string ⟨#[]⟩, .string ⟨#[]⟩, .string ⟨#[]⟩] 26)) := bel_new _ _
  have R0 : Hid (RowB (w.alloc (.cells #[.int .i64 0, .int .i64 0, .int .i64 0, .int .i64 0, .string ⟨#[]⟩, .string ⟨#[]⟩, .string ⟨#[]⟩] 26)) v xs) := h.below B0
  have A0 : Hid ((w.alloc (.cells #[.int .i64 0, .int .i64 0, .int .i64 0, .int .i64 0, .string ⟨#[]⟩, .string ⟨#[]⟩, .string ⟨#[]⟩] 26)).heap[w.heap.size]? = some (.cells #[.int .i64 0, .int .i64 0, .int .i64 0, .int .i64 0, .string ⟨#[]⟩, .string ⟨#[]⟩, .string ⟨#[]⟩] 26 (0, 0))) := blk_new _ _ _
  have hsz0 : (w.alloc (.cells #[.int .i64 0, .int .i64 0, .int .i64 0, .int .i64 0, .string ⟨#[]⟩, .string ⟨#[]⟩, .string ⟨#[]⟩] 26)).heap.size = w.heap.size + 1 := size_new _ _
  have HN : Hid (∀ _ : Unit, n = 3 * f + 1) := fun _ => hn
  have HV : Hid ((1 ≤ view ∧ view ≤ 20) ∧ i < 7) := ⟨hv, hi⟩
  clear h hn hv hi
  go_enter Tryz.func6, Tryz.ntmps6
  go_wp2_with fail
  refine (source_any _ xs _ R0.out hx).mono ?_
  rw [hsz0]
  rintro e w1 ⟨rfl, s1, b1⟩
  have l1 := s1.lt
  have A1 : Hid (w1.heap[w.heap.size]? = some (.cells #[.int .i64 0, .int .i64 0, .int .i64 0, .int .i64 0, .string ⟨#[]⟩, .string ⟨#[]⟩, .string ⟨#[]⟩] 26 (0, 0))) := (b1.block _ (by omega)).trans A0.out
  have S1 : Hid (Gn.Src (w.heap.size + 1) w1 (w.heap.size + 1) xs 0) := s1
  have B1 : Hid (Below w.heap.size w w1) := B0.trans (b1.mono (by omega))
  clear s1 b1 B0 R0 A0 hsz0
  go_wp2_with fail
  refine (change_any n f i view (w.heap.size + 1) (w.heap.size + 1) 0 xs _ S1.out (Nat.le_refl _) (by decide) hx (HN.out ()) hf HV.out.1 HV.out.2).mono ?_
  rintro e w2 ⟨ds, rfl, hd, s2, g2⟩
  have A2 : Hid (w2.heap[w.heap.size]? = some (.cells #[.int .i64 0, .int .i64 0, .int .i64 0, .int .i64 0, .string ⟨#[]⟩, .string ⟨#[]⟩, .string ⟨#[]⟩] 26 (0, 0))) := blk_kept A1.out g2 (by omega)
  have B2 : Hid (Below w.heap.size w w2) := ⟨g2.os.trans B1.out.os, g2.tape.trans B1.out.tape, g2.output.trans B1.out.output, Nat.le_trans B1.out.size g2.size, fun k hk => (g2.block k (Nat.lt_of_lt_of_le hk B1.out.size) (by simp; omega)).trans (B1.out.block k hk)⟩
  have HD : Hid (Dl n view 4 ds) := hd
  clear hd s2 g2 A1 S1 B1
  have HE : Hid (∃ bo mk, bo = dBd ds ∧ mk = mmk 4 view 0 i ⟨#[]⟩ (dBd ds)) := ⟨_, _, rfl, rfl⟩
  obtain ⟨bo, mk, hbo, hmk⟩ := HE.out
  have HBM : Hid (bo = dBd ds ∧ mk = mmk 4 view 0 i ⟨#[]⟩ (dBd ds)) := ⟨hbo, hmk⟩
  rw [← hmk, ← hbo]
  clear HE hbo hmk
  obtain ⟨ca0, fa0⟩ := blk_cell A2.out 0 (x := .int .i64 0) rfl
  obtain ⟨ca1, fa1⟩ := blk_cell A2.out 1 (x := .int .i64 0) rfl
  obtain ⟨ca2, fa2⟩ := blk_cell A2.out 2 (x := .int .i64 0) rfl
  obtain ⟨ca3, fa3⟩ := blk_cell A2.out 3 (x := .int .i64 0) rfl
  obtain ⟨ca4, fa4⟩ := blk_cell A2.out 4 (x := .string ⟨#[]⟩) rfl
  obtain ⟨ca5, fa5⟩ := blk_cell A2.out 5 (x := .string ⟨#[]⟩) rfl
  obtain ⟨ca6, fa6⟩ := blk_cell A2.out 6 (x := .string ⟨#[]⟩) rfl
  have AF : (((((((w2.setCell ⟨w.heap.size, 0, none⟩ (.int .i64 4)).setCell ⟨w.heap.size, 1, none⟩ (.int .i64 (view : Int))).setCell ⟨w.heap.size, 2, none⟩ (.int .i64 0)).setCell ⟨w.heap.size, 3, none⟩ (.int .i64 (i : Int))).setCell ⟨w.heap.size, 4, none⟩ (.string ⟨#[]⟩)).setCell ⟨w.heap.size, 5, none⟩ (.string bo)).setCell ⟨w.heap.size, 6, none⟩ (.string mk)).heap[w.heap.size]? = some (.cells #[.int .i64 4, .int .i64 (view : Int), .int .i64 0, .int .i64 (i : Int), .string ⟨#[]⟩, .string bo, .string mk] 26 (0, 0)) := (blk_set (blk_set (blk_set (blk_set (blk_set (blk_set (blk_set A2.out 0 (.int .i64 4)) 1 (.int .i64 (view : Int))) 2 (.int .i64 0)) 3 (.int .i64 (i : Int))) 4 (.string ⟨#[]⟩)) 5 (.string bo)) 6 (.string mk))
  have GF : Hid (Below w.heap.size w (((((((w2.setCell ⟨w.heap.size, 0, none⟩ (.int .i64 4)).setCell ⟨w.heap.size, 1, none⟩ (.int .i64 (view : Int))).setCell ⟨w.heap.size, 2, none⟩ (.int .i64 0)).setCell ⟨w.heap.size, 3, none⟩ (.int .i64 (i : Int))).setCell ⟨w.heap.size, 4, none⟩ (.string ⟨#[]⟩)).setCell ⟨w.heap.size, 5, none⟩ (.string bo)).setCell ⟨w.heap.size, 6, none⟩ (.string mk))) := (Below.setCell (Below.setCell (Below.setCell (Below.setCell (Below.setCell (Below.setCell (Below.setCell B2.out (p := ⟨w.heap.size, 0, none⟩) (Nat.le_refl _) (.int .i64 4)) (p := ⟨w.heap.size, 1, none⟩) (Nat.le_refl _) (.int .i64 (view : Int))) (p := ⟨w.heap.size, 2, none⟩) (Nat.le_refl _) (.int .i64 0)) (p := ⟨w.heap.size, 3, none⟩) (Nat.le_refl _) (.int .i64 (i : Int))) (p := ⟨w.heap.size, 4, none⟩) (Nat.le_refl _) (.string ⟨#[]⟩)) (p := ⟨w.heap.size, 5, none⟩) (Nat.le_refl _) (.string bo)) (p := ⟨w.heap.size, 6, none⟩) (Nat.le_refl _) (.string mk))
  go_wp2_with fail
  generalize (((((((w2.setCell ⟨w.heap.size, 0, none⟩ (.int .i64 4)).setCell ⟨w.heap.size, 1, none⟩ (.int .i64 (view : Int))).setCell ⟨w.heap.size, 2, none⟩ (.int .i64 0)).setCell ⟨w.heap.size, 3, none⟩ (.int .i64 (i : Int))).setCell ⟨w.heap.size, 4, none⟩ (.string ⟨#[]⟩)).setCell ⟨w.heap.size, 5, none⟩ (.string bo)).setCell ⟨w.heap.size, 6, none⟩ (.string mk)) = wf at AF GF ⊢
  have d0 := (blk_cell AF 0 (x := .int .i64 4) rfl).1
  have d1 := (blk_cell AF 1 (x := .int .i64 (view : Int)) rfl).1
  have d2 := (blk_cell AF 2 (x := .int .i64 0) rfl).1
  have d3 := (blk_cell AF 3 (x := .int .i64 (i : Int)) rfl).1
  have d4 := (blk_cell AF 4 (x := .string ⟨#[]⟩) rfl).1
  have d5 := (blk_cell AF 5 (x := .string bo) rfl).1
  have d6 := (blk_cell AF 6 (x := .string mk) rfl).1
  exact bodyPost_ret (v := .agg #[.int .i64 4, .int .i64 (view : Int), .int .i64 0, .int .i64 (i : Int), .string ⟨#[]⟩, .string bo, .string mk]) (by simp [results, Tryz.results6, go_sem, d0, d1, d2, d3, d4, d5, d6]) rfl ⟨ds, by rw [HBM.out.1, HBM.out.2], HD.out, GF.out⟩
end Go.Proofs.YtkfiahemgdppfaaGreatDoor.Dc

/- Three drawn view changes: memory. -/
namespace Go.Proofs.YtkfiahemgdppfaaGreatDoor.Dc
open Go.RowKit Go.Proofs.YtkfiahemgdppfaaGreatDoor.Sl Go.Proofs.YtkfiahemgdppfaaGreatDoor.By Go.Proofs.YtkfiahemgdppfaaGreatDoor.Ap Go.Proofs.YtkfiahemgdppfaaGreatDoor.Gm Go.Proofs.YtkfiahemgdppfaaGreatDoor.Rr
open Go.Proofs.YtkfiahemgdppfaaGreatDoor.Wc (Ct hd crts OwnC row_kept)
open Go.Proofs.YtkfiahemgdppfaaGreatDoor.Rc (OwnM OwnM.row OwnM.kept OwnM.lt)
theorem ownc_set {w : World} {B b : Nat} {v : Value} {ps : List (Ct × Value)} (h : OwnC w B v ps) (hb : b < B) (i : Nat) (x : Value) : OwnC (w.setCell ⟨b, i, none⟩ x) B v ps :=
  ⟨row_kept h.row fun g hg => blk_far (by have := (h.lt g hg).1; omega) i x, fun p hp => ownm_set (h.mem p hp) hb i x, h.apart⟩
/-- One byte, made anew. -/
theorem own_byte (w : World) (B : Nat) (x : Int) (hB : B ≤ w.heap.size) : OwnB 5 (w.alloc (.cells #[.int .u8 x] 5)) B (.slice (some ⟨w.heap.size, 0, none⟩) 1 1) [x] := by
  refine ⟨rfl, .inr ⟨w.heap.size, 1, #[.int .u8 x], rfl, hB, heap_alloc_new _ _, Nat.le_refl _, by decide, rfl, rfl⟩⟩
theorem make9 (w : World) : Sem.run Tryz.prog (Instr.makeSlice 32 (.int .i64 9) (.int .i64 9)) w = .ok (.slice (some ⟨w.heap.size, 0, none⟩) 9 9) (w.alloc (.cells #[.int .i64 0, .int .i64 0, .int .i64 0, .int .i64 0, .int .i64 0, .int .i64 0, .int .i64 0, .int .i64 0, .int .i64 0] 3)) := by kernel_rfl
end Go.Proofs.YtkfiahemgdppfaaGreatDoor.Dc

/- Plans: the law's search for each place. -/
namespace Go.Proofs.YtkfiahemgdppfaaGreatDoor.Dc
open Go.RowKit Go.Proofs.YtkfiahemgdppfaaGreatDoor.Wc Go.Proofs.YtkfiahemgdppfaaGreatDoor.Gm Go.Proofs.YtkfiahemgdppfaaGreatDoor.Sh
open Go.Proofs.YtkfiahemgdppfaaGreatDoor.Pl (stp st0 stOf lastOf ent nulB planL)

/-- Found at the start, or among the certificates so far. -/
def fo (f0 : Bool) (s b : Int) (t : ByteArray) (D : List Ct) : Bool := f0 || D.any (fnd s b t)
theorem fo_nil (f0 : Bool) (s b : Int) (t : ByteArray) : fo f0 s b t [] = f0 := by unfold fo; simp
theorem fo_true {f0 : Bool} {s b : Int} {t : ByteArray} {D : List Ct} {c : Ct} (h : fo f0 s b t D = true) : fo f0 s b t (D ++ [c]) = true := by
  unfold fo at h ⊢
  rw [List.any_append, ← Bool.or_assoc, h]; rfl
theorem fo_false {f0 : Bool} {s b : Int} {t : ByteArray} {D : List Ct} {c : Ct} (h : fo f0 s b t D = false) : fo f0 s b t (D ++ [c]) = fnd s b t c := by
  unfold fo at h ⊢
  rw [List.any_append, ← Bool.or_assoc, h]; simp
theorem fnd_no1 {s b : Int} {t : ByteArray} {c : Ct} (h : ¬ (hd c).sq = s) : fnd s b t c = false := by unfold fnd; rw [decide_eq_false h]; rfl
theorem fnd_no2 {s b : Int} {t : ByteArray} {c : Ct} (h : ¬ (hd c).vw + 1 = b) : fnd s b t c = false := by unfold fnd; rw [decide_eq_false h]; simp
theorem fnd_yes {s b : Int} {t : ByteArray} {c : Ct} (h1 : (hd c).sq = s) (h2 : (hd c).vw + 1 = b) : fnd s b t c = (c.bd.toList == t.toList) := by
  unfold fnd
  rw [decide_eq_true h1, decide_eq_true h2, Vt.list_eq_bytes]
  by_cases e : c.bd = t
  · rw [decide_eq_true e, Vt.bOf_true e]; rfl
  · rw [decide_eq_false e, Vt.bOf_false e]; rfl
theorem ent_zero {st : Nat → ByteArray × Int} {i : Nat} (h : (st i).2 = 0) : ent st i = nulB := by unfold ent; rw [if_pos h]
theorem fo_end {cs : List Ct} (hR : ∀ c ∈ cs, 0 ≤ (hd c).vw) (i : Nat) {f0 : Bool} (hf : (stOf cs i).2 = 0 → f0 = true) : fo f0 ((i : Int) + 1) (stOf cs i).2 (ent (stOf cs) i) cs = true := by
  rcases plan_from hR i with h | h
  · unfold fo; rw [hf h.1]; rfl
  · unfold fo; rw [h]; simp
end Go.Proofs.YtkfiahemgdppfaaGreatDoor.Dc

/- The plan of a quorum: the specification makes it. -/
namespace Go.Proofs.YtkfiahemgdppfaaGreatDoor.Pl
open Go.RowKit Go.Proofs.YtkfiahemgdppfaaGreatDoor.Sl Go.Proofs.YtkfiahemgdppfaaGreatDoor.By Go.Proofs.YtkfiahemgdppfaaGreatDoor.Ap Go.Proofs.YtkfiahemgdppfaaGreatDoor.Gm Go.Proofs.YtkfiahemgdppfaaGreatDoor.Sh Go.Proofs.YtkfiahemgdppfaaGreatDoor.Vt Go.Proofs.YtkfiahemgdppfaaGreatDoor.Tm Go.Proofs.YtkfiahemgdppfaaGreatDoor.Wc
open Go.Proofs.YtkfiahemgdppfaaGreatDoor.Rc (OwnM OwnM.row OwnM.kept OwnM.lt OwnM.below OwnM.mono Kq)
open Go.Proofs.YtkfiahemgdppfaaGreatDoor.Tl (OwnS)
open Go.Proofs.YtkfiahemgdppfaaGreatDoor.Qm (qOut inB)
open Go.Proofs.YtkfiahemgdppfaaGreatDoor.Rg (RowG RowG.slice RowG.at lt_at mem_at blk_cell blk_set blk_far bel_new)

/-- What is asked of one view change. -/
def One2 (n view : Int) (ms : List Mg) (j : Nat) (x : Mg) : Prop := (cfB n x.vw x = true ∧ x.vw = view) ∧ ∀ m y, j = m + 1 → ms[m]? = some y → y.fr < x.fr
theorem cf_view {n view : Int} {x : Mg} (h : cfB n view x = true) : cfB n x.vw x = true ∧ x.vw = view := by
  have e := (bOf_iff.1 h).2.2.1
  exact ⟨by rw [e]; exact h, e⟩
theorem ca_no {n view : Int} {ms : List Mg} {j : Nat} {x : Mg} (hx : ms[j]? = some x) (h : ¬ One2 n view ms j x) : caB n view ms = false := by
  cases e : caB n view ms with
  | false => rfl
  | true =>
    unfold caB at e
    rw [Bool.and_eq_true, List.all_eq_true] at e
    refine absurd ⟨cf_view (e.2 x (mem_at hx)), fun m y hm hy => ?_⟩ h
    subst hm
    exact (qv_iff.1 e.1).2.2.2 m y x (lt_at hx) hy hx
theorem ca_yes {n view : Int} {ms : List Mg} (hf : fCode n = 0) (hl : (ms.length : Int) = qOut n) (h : ∀ j x, j < ms.length → ms[j]? = some x → One2 n view ms j x) : caB n view ms = true := by
  unfold caB
  have ha : ∀ x ∈ ms, cfB n view x = true := fun x hx => by
    obtain ⟨j, hj, e⟩ := List.getElem_of_mem hx
    obtain ⟨⟨h1, h2⟩, _⟩ := h j x hj (by rw [List.getElem?_eq_getElem hj, e])
    rw [h2] at h1
    exact h1
  rw [Bool.and_eq_true, List.all_eq_true]
  refine ⟨qv_iff.2 ⟨hf, hl, fun x hx => ?_, fun j x y hj hx hy => (h (j + 1) y hj hy).2 j x rfl hx⟩, ha⟩
  have := bOf_iff.1 (ha x hx)
  unfold isV
  rw [this.1, this.2.1]; rfl
noncomputable def psL (n view : Int) (ms : List Mg) : List ByteArray := if caB n view ms then planL (caL ms) else []
theorem psL_no {n view : Int} {ms : List Mg} (h : caB n view ms = false) : psL n view ms = [] := by unfold psL; rw [h]; rfl
theorem psL_yes {n view : Int} {ms : List Mg} (h : caB n view ms = true) : psL n view ms = planL (caL ms) := by unfold psL; rw [h]; rfl
/-- The two arrays of the specification. -/
def vi (st : Nat → ByteArray × Int) (i : Nat) : Int := if (st i).2 = 0 then 0 else (st i).2 - 1
def bodA (st : Nat → ByteArray × Int) : Array Value := #[.string (st 0).1, .string (st 1).1, .string (st 2).1, .string (st 3).1, .string (st 4).1, .string (st 5).1, .string (st 6).1, .string (st 7).1]
def vieA (st : Nat → ByteArray × Int) : Array Value := #[.int .i64 (vi st 0), .int .i64 (vi st 1), .int .i64 (vi st 2), .int .i64 (vi st 3), .int .i64 (vi st 4), .int .i64 (vi st 5), .int .i64 (vi st 6), .int .i64 (vi st 7)]
theorem j8 {j : Nat} (h : j < 8) : j = 0 ∨ j = 1 ∨ j = 2 ∨ j = 3 ∨ j = 4 ∨ j = 5 ∨ j = 6 ∨ j = 7 := by omega
theorem bodA_at (st : Nat → ByteArray × Int) {j : Nat} (h : j < 8) : (bodA st)[j]? = some (.string (st j).1) := by
  rcases j8 h with rfl | rfl | rfl | rfl | rfl | rfl | rfl | rfl <;> rfl
theorem vieA_at (st : Nat → ByteArray × Int) {j : Nat} (h : j < 8) : (vieA st)[j]? = some (.int .i64 (vi st j)) := by
  rcases j8 h with rfl | rfl | rfl | rfl | rfl | rfl | rfl | rfl <;> rfl
theorem bodA_set {st st' : Nat → ByteArray × Int} {j : Nat} (h8 : j < 8) (h : ∀ i, i ≠ j → (st' i).1 = (st i).1) : bodA st' = (bodA st).setIfInBounds j (.string (st' j).1) := by
  apply Array.ext_getElem?
  intro i
  by_cases hi : i < 8
  · rw [bodA_at _ hi, Array.getElem?_setIfInBounds]
    by_cases e : j = i
    · subst e
      rw [if_pos rfl, if_pos (by show j < 8; exact h8)]
    · rw [if_neg e, bodA_at _ hi, h i (Ne.symm e)]
  · rw [Array.getElem?_eq_none (by show 8 ≤ i; omega), Array.getElem?_eq_none (by rw [Array.size_setIfInBounds]; show 8 ≤ i; omega)]
theorem vieA_set {st st' : Nat → ByteArray × Int} {j : Nat} (h8 : j < 8) (h : ∀ i, i ≠ j → st' i = st i) : vieA st' = (vieA st).setIfInBounds j (.int .i64 (vi st' j)) := by
  apply Array.ext_getElem?
  intro i
  by_cases hi : i < 8
  · rw [vieA_at _ hi, Array.getElem?_setIfInBounds]
    by_cases e : j = i
    · subst e
      rw [if_pos rfl, if_pos (by show j < 8; exact h8)]
    · rw [if_neg e, vieA_at _ hi]
      unfold vi
      rw [h i (Ne.symm e)]
  · rw [Array.getElem?_eq_none (by show 8 ≤ i; omega), Array.getElem?_eq_none (by rw [Array.size_setIfInBounds]; show 8 ≤ i; omega)]
structure Qst (w wr : World) (st : Nat → ByteArray × Int) : Prop where
  hb : wr.heap[w.heap.size]? = some (.cells (bodA st) 9 (0, 0))
  hv : wr.heap[w.heap.size + 1]? = some (.cells (vieA st) 3 (0, 0))
  bel : Below w.heap.size w wr
theorem Qst.below {w wr w' : World} {st : Nat → ByteArray × Int} (h : Qst w wr st) (hb : Below wr.heap.size wr w') : Qst w w' st :=
  ⟨(hb.block _ (Array.getElem?_eq_some_iff.1 h.hb).1).trans h.hb, (hb.block _ (Array.getElem?_eq_some_iff.1 h.hv).1).trans h.hv, h.bel.trans (hb.mono h.bel.size)⟩
theorem Qst.size {w wr : World} {st : Nat → ByteArray × Int} (h : Qst w wr st) : w.heap.size + 2 ≤ wr.heap.size := (Array.getElem?_eq_some_iff.1 h.hv).1
theorem Qst.put {w wr : World} {st : Nat → ByteArray × Int} {c : Ct} {j : Nat} (h : Qst w wr st) (hj : (hd c).sq = (j : Int) + 1) (h8 : j < 8) (hv : 0 ≤ (hd c).vw) (hle : (st j).2 ≤ (hd c).vw) :
    Qst w ((wr.setCell ⟨w.heap.size, j, none⟩ (.string c.bd)).setCell ⟨w.heap.size + 1, j, none⟩ (.int .i64 (hd c).vw)) (stp st c) := by
  have e1 := bodA_set (st := st) (st' := stp st c) h8 (fun i hi => by rw [stp_miss hj (Ne.symm hi)])
  have e2 := vieA_set (st := st) (st' := stp st c) h8 (fun i hi => stp_miss hj (Ne.symm hi))
  have e3 : vi (stp st c) j = (hd c).vw := by
    unfold vi
    rw [stp_hit hj hle]
    show (if (hd c).vw + 1 = 0 then (0 : Int) else (hd c).vw + 1 - 1) = _
    rw [if_neg (by omega)]
    omega
  rw [stp_hit hj hle] at e1
  rw [e3] at e2
  refine ⟨?_, ?_, ?_⟩
  · rw [e1]; exact (blk_far (by omega) _ _).trans (blk_set h.hb j _)
  · rw [e2]; exact blk_set ((blk_far (by omega) _ _).trans h.hv) j _
  · exact Below.setCell (Below.setCell h.bel (p := ⟨w.heap.size, j, none⟩) (Nat.le_refl _) _) (p := ⟨w.heap.size + 1, j, none⟩) (Nat.le_succ _) _
theorem own_far {w : World} {B : Nat} {v : Value} {ps : List (Ct × Value)} (h : RdC w B v ps) {g : Nat} (hg : g < B) (i : Nat) (x : Value) : RdC (w.setCell ⟨g, i, none⟩ x) B v ps :=
  ⟨row_kept h.row fun k hk => blk_far (by have := (h.lt k hk).1; omega) _ _, fun p hp => (h.mem p hp).kept fun k hk => blk_far (by have := ((h.mem p hp).lt k hk).1; omega) _ _⟩
theorem empty_iff {s : ByteArray} : s.toList.isEmpty = decide (s.size = 0) := by
  rw [Lib.toList_data]
  rw [Bool.eq_iff_iff, List.isEmpty_iff, decide_eq_true_eq]
  constructor
  · intro h; show s.data.size = 0; rw [← Array.length_toList, h]; rfl
  · intro h; exact List.eq_nil_of_length_eq_zero (by rw [Array.length_toList]; exact h)
theorem makeT (w : World) : Sem.run Tryz.prog (Instr.makeSlice 28 (.int .i64 8) (.int .i64 8)) w = .ok (.slice (some ⟨w.heap.size, 0, none⟩) 8 8) (w.alloc (.cells (bodA st0) 9)) := by kernel_rfl
theorem makeI (w : World) : Sem.run Tryz.prog (Instr.makeSlice 32 (.int .i64 8) (.int .i64 8)) w = .ok (.slice (some ⟨w.heap.size, 0, none⟩) 8 8) (w.alloc (.cells (vieA st0) 3)) := by kernel_rfl
/-- The bodies while noughts are laid: those ahead of k are the plan's. -/
def fill (st : Nat → ByteArray × Int) (k : Nat) : Nat → ByteArray × Int := fun i => if i < k then (ent st i, (st i).2) else st i
theorem fill_lt {st : Nat → ByteArray × Int} {k i : Nat} (h : i < k) : fill st k i = (ent st i, (st i).2) := if_pos h
theorem fill_ge {st : Nat → ByteArray × Int} {k i : Nat} (h : ¬ i < k) : fill st k i = st i := if_neg h
theorem fill_next {st : Nat → ByteArray × Int} {k : Nat} (h8 : k < 8) : bodA (fill st (k + 1)) = (bodA (fill st k)).setIfInBounds k (.string (ent st k)) := by
  have := bodA_set (st := fill st k) (st' := fill st (k + 1)) h8 (fun i hi => by
    by_cases h : i < k
    · rw [fill_lt (show i < k + 1 by omega), fill_lt h]
    · rw [fill_ge (show ¬ i < k + 1 by omega), fill_ge h])
  rw [fill_lt (Nat.lt_succ_self k)] at this
  exact this
theorem fill_same {st : Nat → ByteArray × Int} {k : Nat} (h : (st k).2 ≠ 0) : bodA (fill st (k + 1)) = bodA (fill st k) := by
  have e : ∀ i, (fill st (k + 1) i).1 = (fill st k i).1 := fun i => by
    by_cases h1 : i < k
    · rw [fill_lt (show i < k + 1 by omega), fill_lt h1]
    · by_cases h2 : i = k
      · subst h2
        rw [fill_lt (Nat.lt_succ_self _), fill_ge (Nat.lt_irrefl _)]
        show ent st i = _
        unfold ent
        rw [if_neg h]
      · rw [fill_ge (show ¬ i < k + 1 by omega), fill_ge h1]
  unfold bodA
  rw [e 0, e 1, e 2, e 3, e 4, e 5, e 6, e 7]
theorem ents_more (st : Nat → ByteArray × Int) (k : Nat) : ents st (k + 1) = ents st k ++ [ent st k] := by
  unfold ents; rw [List.range_succ, List.map_append]; rfl
end Go.Proofs.YtkfiahemgdppfaaGreatDoor.Pl
