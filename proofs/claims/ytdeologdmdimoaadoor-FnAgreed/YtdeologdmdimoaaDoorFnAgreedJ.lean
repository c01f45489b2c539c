/-
  Whatever f of the readings tell, the time that is agreed on lies between those of the others; it never goes back.
  Conditions: none beyond the given row's own; the package variable that it reads starts as the program's text lays it (the card ties it).
-/
import Derived.Test.YtdeologdmdimoaaDoorLa
import Derived.Test.YtdeologdmdimoaaDoorJFnAgreed2
import Derived.Test.YtdeologdmdimoaaDoorJFnAgreed3
import Derived.WalkKit
namespace Go.Proofs.YtdeologdmdimoaaDoor.fnAgreed
open Go.ChangeShapes Go.WideShapes Go.ChangeAt Go.RowKit
open Go.ChangeMaps (open_string shut_string)
open Go.Proofs.YtdeologdmdimoaaDoor.Hl (own laidOut rowed door_met)

open Go.Proofs.YtdeologdmdimoaaDoor.Sl Go.Proofs.YtdeologdmdimoaaDoor.By Go.Proofs.YtdeologdmdimoaaDoor.Ap Go.Proofs.YtdeologdmdimoaaDoor.Rq Go.Proofs.YtdeologdmdimoaaDoor.Rr Go.Proofs.YtdeologdmdimoaaDoor.Sh Go.Proofs.YtdeologdmdimoaaDoor.Gn Go.Proofs.YtdeologdmdimoaaDoor.La
open Go.Proofs.YtdeologdmdimoaaDoor.Rg (bel_new)
set_option maxRecDepth 100000 in
set_option maxHeartbeats 3200000 in
theorem walk (v0 : Value) (xs0 : List Int) {w : World} (r0 : RowB w v0 xs0) (v1 : Value) (xs1 : List Int) (r1 : RowB w v1 xs1) (hK : KTab w) (hp : 0 < w.heap.size) :
    Calls Tryd.prog 4 #[v0, v1] w fun e w' => e = .returned (.bool true) ∧ Below w.heap.size w w' := by
  have GK : Hid (KTab w ∧ 0 < w.heap.size) := ⟨hK, hp⟩
  have HR : Hid (RowB w v0 xs0 ∧ RowB w v1 xs1) := ⟨r0, r1⟩
  obtain ⟨a0, cA, rfl, _, _⟩ := r0
  obtain ⟨a1, cB, rfl, _, _⟩ := r1
  clear hK hp
  by_cases hb0 : (1048576 : Int) < (xs0.length : Int)
  · go_enter Tryd.func4, Tryd.ntmps4
    go_wp2
    go_ret
    exact ⟨rfl, Below.refl _ _⟩
  by_cases hb1 : (1048576 : Int) < (xs1.length : Int)
  · go_enter Tryd.func4, Tryd.ntmps4
    go_wp2
    go_ret
    exact ⟨rfl, Below.refl _ _⟩
  have HL : Hid (∀ _ : Unit, xs0.length ≤ 1048576 ∧ xs1.length ≤ 1048576) := fun _ => ⟨by omega, by omega⟩
  go_enter Tryd.func4, Tryd.ntmps4
  go_wp2_with fail
  have B0 : Below w.heap.size w (w.alloc (.cells #[.int .i64 1, .int .i64 4, .int .i64 7] 3)) := bel_new _ _
  refine (atN_any _ xs1 0 3 _ (HR.out.2.below B0) (HL.out ()).2 (by decide) (by decide) (by decide)).mono ?_
  rintro e w1 ⟨rfl, b1⟩
  have hf := atN_lt xs1 0 3 (by decide)
  generalize atN xs1 0 3 = f at hf ⊢
  have W1 : Below w.heap.size w w1 := B0.trans (b1.mono (by simp))
  have N1 : w1.heap[w.heap.size]? = some (.cells #[.int .i64 1, .int .i64 4, .int .i64 7] 3 (0, 0)) := (b1.block _ (by simp)).trans (heap_alloc_new _ _)
  obtain ⟨n, HN⟩ : ∃ n : Nat, Hid (3 * f + 1 = n) := ⟨_, rfl⟩
  have cN : w1.cell? ⟨w.heap.size, f, none⟩ = some (.int .i64 (n : Int)) := by
    refine (blk_cell N1 f ?_).1
    rw [← HN.out]
    match f, hf with
    | 0, _ => rfl
    | 1, _ => rfl
    | 2, _ => rfl
  have HFN : Hid (Tm.fOut (n : Int) = (f : Int) ∧ Tm.fCode (n : Int) = 0 ∧ ((n : Int) - 1).tdiv 3 = (f : Int) ∧ 1 ≤ n ∧ n ≤ 7) := by
    show _ ∧ _
    rw [← HN.out]
    match f, hf with
    | 0, _ => exact ⟨rfl, rfl, rfl, by decide, by decide⟩
    | 1, _ => exact ⟨rfl, rfl, rfl, by decide, by decide⟩
    | 2, _ => exact ⟨rfl, rfl, rfl, by decide, by decide⟩
  have hf0 : (0 : Int) ≤ (f : Int) := by omega
  have hf3 : (f : Int) < 3 := by omega
  have HFA : Hid (∀ W, Calls Tryd.prog 12 #[.int .i64 (n : Int)] W fun e w' => e = .returned (.tuple #[.int .i64 (f : Int), .int .i64 0]) ∧ w' = W) := fun W => by
    have h := Tm.implFaultsOf_any (n : Int) W
    rw [HFN.out.1, HFN.out.2.1] at h
    exact h
  clear b1 B0 N1
  go_wp2_with fail
  refine (HFA.out _).mono ?_
  rintro e w1' ⟨rfl, hw1⟩
  rw [hw1]
  clear hw1 cN
  go_wp2_with fail
  refine (Ag.ReadingsOf_any n f _ xs0 w1 (HR.out.1.below W1) (HL.out ()).1 HN.out.symm (by omega)).mono ?_
  rintro e w2 ⟨v2, us, rfl, o2, hul, hfi, b2⟩
  obtain ⟨g, cap, rfl, hBg, hcap, k2⟩ := Ag.BlkR.of o2 (fun e => by rw [e] at hul; simp at hul)
  have W2 := W1.trans (b2.mono W1.size)
  have HG : Hid (w.heap.size ≤ g) := Nat.le_trans W1.size hBg
  obtain ⟨L, HLL⟩ : ∃ L : Nat, Hid (us.length = L) := ⟨_, rfl⟩
  have HL2 : Hid (L = 2 * f + 1 ∧ L ≤ cap) := ⟨by rw [← HLL.out]; exact hul, by rw [← HLL.out]; exact hcap⟩
  have HML : Hid ((us.map Ag.cv).length = L) := by show _ = _; rw [List.length_map]; exact HLL.out
  have HFI : Hid (Ag.Fine (n : Int) (n : Int) (us.map Ag.cv)) := hfi
  rw [HLL.out]
  generalize us.map Ag.cv = rs0 at k2 HML HFI
  clear o2 hul hfi b2 hBg hcap W1 HFA HLL
  have hq : ((n : Int) - 1).tdiv 3 = (f : Int) := HFN.out.2.2.1
  have hff : ((f : Int) != (f : Int)) = false := by simp
  have hlen : ((L : Int) != 2 * (f : Int) + 1) = false := by have := HL2.out.1; simp; omega
  have hn1 : (1 : Int) ≤ (n : Int) := by have := HFN.out.2.2.2.1; omega
  have hn7 : (n : Int) ≤ 7 := by have := HFN.out.2.2.2.2; omega
  have K2 : Hid (Ag.BlkR (w2.alloc (.cells #[] 3)) g rs0) := k2.below (bel_new _ _)
  have lg2 := k2.lt
  have W3 : Hid (Below w.heap.size w (w2.alloc (.cells #[] 3))) := W2.alloc W2.size _
  have O3 : Hid (Is.OwnI (w2.alloc (.cells #[] 3)) (g + 1) (.slice (some ⟨w2.heap.size, 0, none⟩) 0 0) []) := So.OwnI.made w2 (g + 1) lg2
  clear k2 lg2
  obtain ⟨i0, hi0, hz0, hz1, hz2⟩ := info_parts Is.info3
  go_upto_region 9 with fail
  generalize w2.alloc (.cells #[] 3) = w3 at K2 W3 O3 ⊢
  generalize w2.heap.size = gl at O3 ⊢
  clear W2 hq hff hlen
  go_wp2_with fail
  go_loopw [9, 10] (fun lie i wr => ∃ (j : Nat) (ls : List Int) (rs : List Rw.Rd), i = .int .i64 (j : Int) ∧ j ≤ f ∧ Hid (Is.OwnI wr (g + 1) lie ls) ∧ Hid (ls.length = j ∧ ∀ z ∈ ls, 0 ≤ z ∧ z ≤ 1000) ∧ Hid (rs.length = L) ∧ Hid (Ag.Fine (n : Int) (n : Int) rs) ∧ Hid (Ag.BlkR wr g rs) ∧ Hid (Below w.heap.size w wr)) (fun _ i _ => f - (intOf i).toNat)
  case atStart => exact ⟨0, [], rs0, rfl, by omega, O3, ⟨rfl, fun z hz => by cases hz⟩, HML, HFI, K2, W3⟩
  case round =>
    clear O3 K2 W3 HML HFI
    obtain ⟨j, ls, rs, rfl, hjf, HO, HLS, HRL, HF, HK, HW⟩ := hrel
    rename World => wr
    obtain ⟨lie, HLIE⟩ : ∃ lie, lie = u9 := ⟨_, rfl⟩
    subst HLIE
    have HA : Hid (∀ (c m : Nat) W, Below w.heap.size w W → c ≤ 100 → 0 < m → m ≤ 1000 → Calls Tryd.prog 6 #[.slice a1 xs1.length cB, .int .i64 ((j : Int) + (c : Int)), .int .i64 (m : Int)] W fun e w' => ∃ r : Nat, e = .returned (.int .i64 (r : Int)) ∧ r < m ∧ Below W.heap.size W w') := fun c m W hW hc hm hm2 => by
      have h := atN_any (.slice a1 xs1.length cB) xs1 (j + c) m W (HR.out.2.below hW) (HL.out ()).2 (by omega) hm (by omega)
      rw [show ((j + c : Nat) : Int) = (j : Int) + (c : Int) by omega] at h
      exact h.mono (fun e w' ⟨h1, h2⟩ => ⟨_, h1, atN_lt _ _ _ hm, h2⟩)
    by_cases hlt : j < f
    · have hlt' : (j : Int) < (f : Int) := by omega
      have hL7 : L ≤ 7 ∧ 0 < L := by have := HL2.out.1; omega
      have HA1 := HA.out 1 L wr HW.out (by decide) hL7.2 (by omega)
      go_wp2_with fail
      refine HA1.mono ?_
      rintro e w4 ⟨k, rfl, hk, b4⟩
      have W4 := HW.out.trans (b4.mono HW.out.size)
      have K4 := HK.out.below b4
      have O4 : Is.OwnI w4 (g + 1) lie ls := So.OwnI.below HO.out b4
      have HA9 := HA.out 9 200 w4 W4 (by decide) (by decide) (by decide)
      clear b4 HA1 HO HK HW
      go_wp2_with fail
      refine HA9.mono ?_
      rintro e w5 ⟨y, rfl, hy, b5⟩
      have W5 := (W4.trans (b5.mono W4.size)).alloc (o := .cells #[.int .i64 0, .int .i64 1000000000, .int .i64 (y : Int)] 3) (W4.trans (b5.mono W4.size)).size
      have K5 := (K4.below b5).below (bel_new w5 (.cells #[.int .i64 0, .int .i64 1000000000, .int .i64 (y : Int)] 3))
      have O5 : Is.OwnI (w5.alloc (.cells #[.int .i64 0, .int .i64 1000000000, .int .i64 (y : Int)] 3)) (g + 1) lie ls := So.OwnI.below (So.OwnI.below O4 b5) (bel_new _ _)
      have HA5 := HA.out 5 3 _ W5 (by decide) (by decide) (by decide)
      clear b5 HA9 W4 K4 O4
      go_wp2_with fail
      refine HA5.mono ?_
      rintro e w6 ⟨r3, rfl, hr3, b6⟩
      have W6 := W5.trans (b6.mono W5.size)
      have K6 := K5.below b6
      have O6 : Is.OwnI w6 (g + 1) lie ls := So.OwnI.below O5 b6
      obtain ⟨vv, hvv, hcv⟩ : ∃ vv : Int, (0 ≤ vv ∧ vv ≤ 1000000000) ∧ w6.cell? ⟨w5.heap.size, r3, none⟩ = some (.int .i64 vv) := by
        have hb6 : w6.heap[w5.heap.size]? = some (.cells #[.int .i64 0, .int .i64 1000000000, .int .i64 (y : Int)] 3 (0, 0)) := (b6.block _ (by simp)).trans (heap_alloc_new _ _)
        match r3, hr3 with
        | 0, _ => exact ⟨0, ⟨by decide, by decide⟩, (blk_cell hb6 0 rfl).1⟩
        | 1, _ => exact ⟨1000000000, ⟨by decide, by decide⟩, (blk_cell hb6 1 rfl).1⟩
        | 2, _ => exact ⟨(y : Int), ⟨by omega, by omega⟩, (blk_cell hb6 2 rfl).1⟩
      have hr0 : (0 : Int) ≤ (r3 : Int) := by omega
      have hr1 : (r3 : Int) < 3 := by omega
      have hk0 : (0 : Int) ≤ (k : Int) := by omega
      have hk1 : (k : Int) < (L : Int) := by omega
      have hkr : k < rs.length := by rw [HRL.out]; exact hk
      obtain ⟨⟨c0, f0⟩, ⟨c1, f1⟩, c2, f2⟩ := K6.cells hkr
      obtain ⟨q1, q2, _, _⟩ := Rs.okI_f HF.out.1 hkr
      have HV : Hid (0 ≤ vv ∧ vv ≤ 1000000000) := hvv
      have HFS : Hid (Ag.Fine (n : Int) (n : Int) (rs.set k ⟨(Rw.rn rs k).f, vv, Mr.rmk (Rw.rn rs k).f.toNat vv⟩)) := HF.out.set hkr hvv
      have HKS : Hid (∀ W (z : Rw.Rd), Ag.BlkR W g rs → Ag.BlkR (((W.setCell ⟨g, k * 3, none⟩ (.int .i64 z.f)).setCell ⟨g, k * 3 + 1, none⟩ (.int .i64 z.x)).setCell ⟨g, k * 3 + 2, none⟩ (.string z.m)) g (rs.set k z)) := fun W z hW => hW.set hkr z
      have HSL : Hid (∀ z : Rw.Rd, (rs.set k z).length = L) := fun z => by rw [List.length_set]; exact HRL.out
      have hokm : Rm.okM (Rw.rn rs k).f vv = true := by unfold Rm.okM; rw [Ag.inR_of q1 q2, Ag.inR_of hvv.1 hvv.2]; rfl
      have HMI : Hid (∀ W, Below w.heap.size w W → Calls Tryd.prog 14 #[.int .i64 (Rw.rn rs k).f, .int .i64 vv] W fun e w' => e = .returned (.tuple #[.string (Mr.rmk (Rw.rn rs k).f.toNat vv), .int .i64 0]) ∧ Below W.heap.size W w') := fun W hW => by
        have h := Rm.implReadingMac_any (Rw.rn rs k).f vv W (GK.out.1.below hW GK.out.2) (Nat.lt_of_lt_of_le GK.out.2 hW.size)
        unfold Rm.rmOut Rm.rmCode at h
        rw [hokm, if_pos rfl, if_pos rfl] at h
        exact h
      have HMS : Hid (∀ W, Calls Tryd.prog 15 #[.int .i64 (Rw.rn rs k).f, .int .i64 vv] W fun e w' => e = .returned (.tuple #[.string (Mr.rmk (Rw.rn rs k).f.toNat vv), .int .i64 0]) ∧ Below W.heap.size W w') := fun W => by
        have h := Rm.specReadingMac_any (Rw.rn rs k).f vv W
        unfold Rm.rmOut Rm.rmCode at h
        rw [hokm, if_pos rfl, if_pos rfl] at h
        exact h
      clear hokm q1 q2 hvv HA5 b6 W5 K5 O5 HF hkr HA hy hr3
      have HCR : Hid (∀ W, Ag.BlkR W g rs → (W.cell? ⟨g, k * 3, none⟩ = some (.int .i64 (Rw.rn rs k).f) ∧ W.frozen? ⟨g, k * 3, none⟩ = false) ∧ (W.cell? ⟨g, k * 3 + 1, none⟩ = some (.int .i64 (Rw.rn rs k).x) ∧ W.frozen? ⟨g, k * 3 + 1, none⟩ = false) ∧ W.cell? ⟨g, k * 3 + 2, none⟩ = some (.string (Rw.rn rs k).m) ∧ W.frozen? ⟨g, k * 3 + 2, none⟩ = false) := fun W hW => hW.cells (by rw [HRL.out]; exact hk)
      obtain ⟨mk, HMK⟩ : ∃ mk, Hid (Mr.rmk (Rw.rn rs k).f.toNat vv = mk) := ⟨_, rfl⟩
      obtain ⟨ff, HFF⟩ : ∃ ff, Hid ((Rw.rn rs k).f = ff) := ⟨_, rfl⟩
      rw [HMK.out] at HMI HMS HFS
      rw [HFF.out] at HMI HMS HFS HCR c0
      go_wp2_with fail
      refine (HMI.out _ W6).mono ?_
      rintro e w7 ⟨rfl, b7⟩
      have W7 := W6.trans (b7.mono W6.size)
      have K7 := K6.below b7
      have O7 : Is.OwnI w7 (g + 1) lie ls := So.OwnI.below O6 b7
      clear b7 W6 K6 O6 c0 f0 c1 f1 c2 f2 hcv HMI
      obtain ⟨⟨c0, f0⟩, ⟨c1, f1⟩, c2, f2⟩ := HCR.out _ K7
      go_wp2_with fail
      refine (HMS.out _).mono ?_
      rintro e w8 ⟨rfl, b8⟩
      have W8 := W7.trans (b8.mono W7.size)
      have K8 := K7.below b8
      have O8 : Is.OwnI w8 (g + 1) lie ls := So.OwnI.below O7 b8
      clear b8 W7 K7 O7 c0 f0 c1 f1 c2 f2 HMS
      obtain ⟨⟨c0, f0⟩, ⟨c1, f1⟩, c2, f2⟩ := HCR.out _ K8
      have hmm : (mk.toList != mk.toList) = false := by simp
      have K9 : Hid (Ag.BlkR (((w8.setCell ⟨g, k * 3, none⟩ (.int .i64 ff)).setCell ⟨g, k * 3 + 1, none⟩ (.int .i64 vv)).setCell ⟨g, k * 3 + 2, none⟩ (.string mk)) g (rs.set k ⟨ff, vv, mk⟩)) := HKS.out w8 ⟨ff, vv, mk⟩ K8
      have W9 : Hid (Below w.heap.size w (((w8.setCell ⟨g, k * 3, none⟩ (.int .i64 ff)).setCell ⟨g, k * 3 + 1, none⟩ (.int .i64 vv)).setCell ⟨g, k * 3 + 2, none⟩ (.string mk))) := Below.setCell (Below.setCell (Below.setCell W8 (p := ⟨g, k * 3, none⟩) HG.out _) (p := ⟨g, k * 3 + 1, none⟩) HG.out _) (p := ⟨g, k * 3 + 2, none⟩) HG.out _
      have O9 : Hid (Is.OwnI (((w8.setCell ⟨g, k * 3, none⟩ (.int .i64 ff)).setCell ⟨g, k * 3 + 1, none⟩ (.int .i64 vv)).setCell ⟨g, k * 3 + 2, none⟩ (.string mk)) (g + 1) lie ls) := Ag.ownI_set (Ag.ownI_set (Ag.ownI_set O8 (Nat.lt_succ_self _) _ _) (Nat.lt_succ_self _) _ _) (Nat.lt_succ_self _) _ _
      go_upto_region 19 with fail
      generalize ((w8.setCell ⟨g, k * 3, none⟩ (.int .i64 ff)).setCell ⟨g, k * 3 + 1, none⟩ (.int .i64 vv)).setCell ⟨g, k * 3 + 2, none⟩ (.string mk) = w9 at K9 W9 O9 ⊢
      clear W8 K8 O8 c0 f0 c1 f1 c2 f2 hmm HCR
      have lg9 : g + 1 ≤ w9.heap.size := K9.out.lt
      have o9 := O9.out
      have hls : ls.length + 1 ≤ 1000000 := by have := HLS.out.1; omega
      go_wp2_with (at_builtin; go_must (refine So.list_int1 (by rfl) _ _ 32 (by rfl) i0 Tryd.underlying32 hi0 hz0 hz1 hz2 (g + 1) w9 w9 _ ls (k : Int) (by rfl) o9 (Below.refl _ _) lg9 (by rfl) hls ?_; intro v10 w10 o10 b10 n10))
      have K10 : Hid (Ag.BlkR w10 g (rs.set k ⟨ff, vv, mk⟩)) := K9.out.kept (b10.block g (Nat.lt_succ_self _))
      have W10 : Hid (Below w.heap.size w w10) := ⟨b10.os.trans W9.out.os, b10.tape.trans W9.out.tape, b10.output.trans W9.out.output, Nat.le_trans W9.out.size b10.size, fun q hq => (b10.block q (Nat.lt_of_lt_of_le hq (Nat.le_trans HG.out (Nat.le_succ _)))).trans (W9.out.block q hq)⟩
      refine ⟨⟨j + 1, ls ++ [(k : Int)], rs.set k ⟨ff, vv, mk⟩, by go_num, by omega, o10, ⟨by rw [List.length_append, HLS.out.1]; rfl, fun z hz => ?_⟩, HSL.out _, HFS, K10, W10⟩, by simp [intOf]; omega⟩
      rcases List.mem_append.1 hz with h | h
      · exact HLS.out.2 z h
      · simp at h; subst h; omega
    · obtain rfl : j = f := by omega
      obtain ⟨hc0, ho0⟩ := HF.out.code HFN.out.2.1 (by rw [HRL.out, HL2.out.1, HFN.out.1]; omega) (by rw [HRL.out, HL2.out.1]; omega)
      obtain ⟨qa, qb⟩ := Ag.liars (Ti.vals rs rs.length) ls j (by rw [Ti.vals_length (Nat.le_refl _), HRL.out, HL2.out.1]) (by rw [HLS.out.1]; exact Nat.le_refl _)
      rw [Ti.vals_length (Nat.le_refl _), ← ho0] at qa qb
      have HQ : Hid ((∃ q, q < L ∧ (q : Int) ∉ ls ∧ (Rw.rn rs q).x ≤ Ti.tOut (n : Int) rs) ∧ ∃ q, q < L ∧ (q : Int) ∉ ls ∧ Ti.tOut (n : Int) rs ≤ (Rw.rn rs q).x) := by
        obtain ⟨q1, h1, h2, h3⟩ := qa
        obtain ⟨q2, g1, g2, g3⟩ := qb
        rw [Ag.vals_nth h1] at h3
        rw [Ag.vals_nth g1] at g3
        rw [HRL.out] at h1 g1
        exact ⟨⟨q1, h1, h2, h3⟩, q2, g1, g2, g3⟩
      have HTC : Hid (Ti.tCode (n : Int) rs = 0) := hc0
      have HXR : Hid (∀ q, q < L → 0 ≤ (Rw.rn rs q).x ∧ (Rw.rn rs q).x ≤ 1000000000) := fun q hq => (Rs.okI_f HF.out.1 (by rw [HRL.out]; exact hq)).2.2.1
      have HOR : Hid (∀ z ∈ ls, -9223372036854775808 ≤ z ∧ z ≤ 9223372036854775807) := fun z hz => by have := HLS.out.2 z hz; omega
      have HLZ : Hid (ls.length ≤ 1048576) := by show _ ≤ _; rw [HLS.out.1]; omega
      clear qa qb hc0 ho0 HA hlt
      have hjj : ¬ (j : Int) < (j : Int) := by omega
      have hL7 : L ≤ 7 := by have := HL2.out.1; omega
      go_wp2_with fail
      rename World => wk
      go_loopw [17, 18, 19] (fun lo hi i wr => ∃ (q : Nat) (a b : Int), i = .int .i64 (q : Int) ∧ lo = .int .i64 a ∧ hi = .int .i64 b ∧ q ≤ L ∧ Hid ((-1 ≤ a ∧ a ≤ 2000000000) ∧ (-1 ≤ b ∧ b ≤ 2000000000) ∧ ∀ z, z < q → (z : Int) ∉ ls → a ≤ (Rw.rn rs z).x ∧ (Rw.rn rs z).x ≤ b) ∧ Hid (Is.OwnI wr (g + 1) lie ls) ∧ Hid (Ag.BlkR wr g rs) ∧ Hid (Below w.heap.size w wr)) (fun _ _ i _ => L - (intOf i).toNat)
      case atStart => exact ⟨0, 2000000000, -1, rfl, rfl, rfl, by omega, ⟨⟨by decide, by decide⟩, ⟨by decide, by decide⟩, fun z hz => absurd hz (by omega)⟩, HO, HK, HW⟩
      case round =>
        clear HO HK HW
        obtain ⟨q, a, b, rfl, rfl, rfl, hq, HB, HO, HK, HW⟩ := hrel
        by_cases hql : q < L
        · have hql' : (q : Int) < (L : Int) := by omega
          have hq0 : (0 : Int) ≤ (q : Int) := by omega
          have HH := Hi.hasInt_any lie ls (q : Int) wr (Is.OwnI.row HO.out HOR.out) HLZ.out
          go_wp2_with fail
          refine HH.mono ?_
          rintro e w4 ⟨rfl, b4⟩
          have W4 : Hid (Below w.heap.size w w4) := HW.out.trans (b4.mono HW.out.size)
          have K4 : Hid (Ag.BlkR w4 g rs) := HK.out.below b4
          have O4 : Hid (Is.OwnI w4 (g + 1) lie ls) := So.OwnI.below HO.out b4
          clear b4 HH HW HK HO
          by_cases hm : (q : Int) ∈ ls
          · rw [decide_eq_true hm]
            have HB2 : Hid ((-1 ≤ a ∧ a ≤ 2000000000) ∧ (-1 ≤ b ∧ b ≤ 2000000000) ∧ ∀ z, z < q + 1 → (z : Int) ∉ ls → a ≤ (Rw.rn rs z).x ∧ (Rw.rn rs z).x ≤ b) := ⟨HB.out.1, HB.out.2.1, fun z hz hn => HB.out.2.2 z (by
              by_cases e : z = q
              · subst e; exact absurd hm hn
              · omega) hn⟩
            clear hm HB
            go_wp2_with fail
            exact ⟨⟨q + 1, a, b, by go_num, rfl, rfl, by omega, HB2, O4, K4, W4⟩, by simp [intOf]; omega⟩
          · rw [decide_eq_false hm]
            have hx := HXR.out q hql
            have HB2 : Hid ((-1 ≤ min a (Rw.rn rs q).x ∧ min a (Rw.rn rs q).x ≤ 2000000000) ∧ (-1 ≤ max b (Rw.rn rs q).x ∧ max b (Rw.rn rs q).x ≤ 2000000000) ∧ ∀ z, z < q + 1 → (z : Int) ∉ ls → min a (Rw.rn rs q).x ≤ (Rw.rn rs z).x ∧ (Rw.rn rs z).x ≤ max b (Rw.rn rs q).x) := by
              obtain ⟨h1, h2, h3⟩ := HB.out
              refine ⟨⟨by omega, by omega⟩, ⟨by omega, by omega⟩, fun z hz hn => ?_⟩
              by_cases e : z = q
              · subst e; exact ⟨by omega, by omega⟩
              · have := h3 z (by omega) hn
                exact ⟨by omega, by omega⟩
            obtain ⟨⟨c0, f0⟩, ⟨c1, f1⟩, c2, f2⟩ := K4.out.cells (by rw [HRL.out]; exact hql)
            clear hm HB hx c0 f0 c2 f2 f1
            generalize (Rw.rn rs q).x = xq at c1 HB2
            go_wp2_with fail
            exact ⟨⟨q + 1, min a xq, max b xq, by go_num, rfl, rfl, by omega, HB2, O4, K4, W4⟩, by simp [intOf]; omega⟩
        · obtain rfl : q = L := by omega
          have hqq : ¬ (q : Int) < (q : Int) := by omega
          have hLH : a ≤ Ti.tOut (n : Int) rs ∧ Ti.tOut (n : Int) rs ≤ b := by
            obtain ⟨⟨q1, h1, h2, h3⟩, q2, g1, g2, g3⟩ := HQ.out
            have z1 := HB.out.2.2 q1 h1 h2
            have z2 := HB.out.2.2 q2 g1 g2
            exact ⟨by omega, by omega⟩
          have hcap : rs.length ≤ cap := by rw [HRL.out]; exact HL2.out.2
          have HRR : Hid (∀ W, Ag.BlkR W g rs → Rw.RowR W (.slice (some ⟨g, 0, none⟩) q cap) rs) := fun W hW => by
            have h := Ag.BlkR.row (cap := cap) hW hcap
            rw [HRL.out] at h
            exact h
          have HR8 : Hid (rs.length ≤ 1048576) := by show _ ≤ _; rw [HRL.out, HL2.out.1]; omega
          have HTI : Hid (∀ W, Below w.heap.size w W → Ag.BlkR W g rs → Calls Tryd.prog 17 #[.int .i64 (n : Int), .slice (some ⟨g, 0, none⟩) q cap] W fun e w' => e = .returned (.tuple #[.int .i64 (Ti.tOut (n : Int) rs), .int .i64 0]) ∧ Below W.heap.size W w') := fun W hW hK => by
            have h := Ti.implReadingsTime_any (n : Int) _ rs W (HRR.out W hK) HR8.out (GK.out.1.below hW GK.out.2) (Nat.lt_of_lt_of_le GK.out.2 hW.size)
            rw [HTC.out] at h
            exact h
          have HTS : Hid (∀ W, Ag.BlkR W g rs → Calls Tryd.prog 18 #[.int .i64 (n : Int), .slice (some ⟨g, 0, none⟩) q cap] W fun e w' => e = .returned (.tuple #[.int .i64 (Ti.tOut (n : Int) rs), .int .i64 0]) ∧ Below W.heap.size W w') := fun W hK => by
            have h := Ts.specReadingsTime_any (n : Int) _ rs W (HRR.out W hK) HR8.out
            rw [HTC.out] at h
            exact h
          have HAG : Hid (∀ W (b : Nat), Below w.heap.size w W → Ag.BlkR W g rs → Calls Tryd.prog 19 #[.int .i64 (b : Int), .int .i64 (n : Int), .slice (some ⟨g, 0, none⟩) q cap] W fun e w' => e = .returned (.tuple #[.int .i64 (max (b : Int) (Ti.tOut (n : Int) rs)), .int .i64 0]) ∧ Below W.heap.size W w') := fun W b hW hK => by
            have h := Ta.implAgreedTime_any (b : Int) (n : Int) _ rs W (HRR.out W hK) HR8.out (GK.out.1.below hW GK.out.2) (Nat.lt_of_lt_of_le GK.out.2 hW.size)
            unfold Ta.aOut at h
            rw [HTC.out, if_pos rfl] at h
            exact h
          generalize Ti.tOut (n : Int) rs = tt at hLH HTI HTS HAG
          clear HQ HB hcap HRR HR8 HXR HTC hql
          go_wp2_with fail
          refine (HTI.out _ HW.out HK.out).mono ?_
          rintro e w5 ⟨rfl, b5⟩
          have W5 := HW.out.trans (b5.mono HW.out.size)
          have K5 := HK.out.below b5
          clear b5 HTI
          go_wp2_with fail
          refine (HTS.out _ K5).mono ?_
          rintro e w6 ⟨rfl, b6⟩
          have W6 := W5.trans (b6.mono W5.size)
          have K6 := K5.below b6
          clear b6 HTS W5 K5
          go_wp2_with fail
          refine (atN_any _ xs1 20 100 _ (HR.out.2.below W6) (HL.out ()).2 (by decide) (by decide) (by decide)).mono ?_
          rintro e w7 ⟨rfl, b7⟩
          generalize atN xs1 20 100 = be
          have W7 := W6.trans (b7.mono W6.size)
          have K7 := K6.below b7
          clear b7 W6 K6
          go_wp2_with fail
          refine (HAG.out _ be W7 K7).mono ?_
          rintro e w8 ⟨rfl, b8⟩
          have W8 := W7.trans (b8.mono W7.size)
          clear b8 W7 K7 HAG
          have htt : (tt == tt) = true := by simp
          have h1 := hLH.1
          have h2 := hLH.2
          have h3 : (be : Int) ≤ max (be : Int) tt := by omega
          clear hLH
          by_cases hc : tt ≤ (be : Int)
          · rw [show max (be : Int) tt = (be : Int) by omega] at h3 ⊢
            have hbb : ((be : Int) == (be : Int)) = true := by simp
            clear hc
            go_wp2_with fail
            all_goals
              go_ret
              exact ⟨by simp, W8⟩
          · rw [show max (be : Int) tt = tt by omega] at h3 ⊢
            clear hc
            go_wp2_with fail
            all_goals
              go_ret
              exact ⟨by simp, W8⟩

set_option maxRecDepth 100000 in
theorem lifted (os : Os) (started : os.Started) (H : Type) (enc : TypeId × Value → H) :
    ReturnsInHanded {} Tryd.checked os 4 .any (fun w args => (Rows.fnAgreedSpec.pre enc Tryd.prog Tryd.f4 [] false w args ∧ laidMetH Tryd.prog Rows.fnAgreedRow.laid w) ∧ sizedMet enc Tryd.prog Tryd.f4 (OpenSpec.ofChange Rows.fnAgreedSpec) false w args)
      (Rows.fnAgreedSpec.post enc Tryd.prog Tryd.f4 false true false false) := by
  refine returnsInHanded_of_change_and (C := Tryd.checked) (X := fun w _ => laidMetH Tryd.prog Rows.fnAgreedRow.laid w) (fun _ _ _ hh h => h.of_heap hh) own started (by kernel_rfl) Tryd.func4
    (ChangeSpec.witness_shaped (enc := enc) (C := Tryd.checked) (os := os) (X := fun w _ => laidMetH Tryd.prog Rows.fnAgreedRow.laid w) false (World.doorLaid Tryd.prog 400 os) #[.slice none 0 0, .slice none 0 0] 8 rfl (World.shaped_of_RefB (by kernel_rfl) (by kernel_rfl)) (by kernel_rfl) (by kernel_rfl) (by kernel_rfl) (door_met os _)) ?_
  intro W base args ds gs before hval0 hW _ _ hL _
  have hval : ∀ (j : Nat) t v, Tryd.f4.params[j]? = some t → args[j]? = some v → Value.okWide Tryd.prog W .any base t v := hval0
  have hW' := hW
  obtain ⟨p, q, hA0, hV0, rfl, hfz, hnd⟩ := hW
  have hA : DataW.TrodAll enc Tryd.prog W 0 (fun _ => true) true Tryd.f4.params.toList args.toList ds p := hA0
  have hV : DataW.TrodVars enc Tryd.prog W (fun _ => true) ["loop.example/g00292/impl.roundWords"] gs q := hV0
  rw [Tryd.params4] at hA hval
  obtain ⟨v0, vs0, d0, ds0, p0, q0, hargs, rfl, rfl, h0, r0⟩ := trodAll_cons hA
  obtain ⟨v1, vs1, d1, ds1, p1, q1, rfl, rfl, rfl, h1, r1⟩ := trodAll_cons r0
  obtain ⟨rfl, rfl, rfl⟩ := trodAll_nil r1
  obtain rfl : args = #[v0, v1] := by cases args; simp_all
  obtain ⟨_, _, _, _, dv, _, rfl, _⟩ := trodVars_one hV
  have k00 := h0
  have lt0 : ∀ x ∈ p0, x.block < W.heap.size := by obtain ⟨m, hm⟩ := k00; exact DataW.trod_lt m _ _ _ hm
  obtain ⟨xs0, w0⟩ := Op.open_bytes (hval 0 22 v0 rfl rfl) h0 (fun _ => rfl)
  have k10 := h1
  have lt1 : ∀ x ∈ p1, x.block < W.heap.size := by obtain ⟨m, hm⟩ := k10; exact DataW.trod_lt m _ _ _ hm
  obtain ⟨xs1, w1⟩ := Op.open_bytes (hval 1 22 v1 rfl rfl) h1 (fun _ => rfl)
  clear hA0 hval0 hV0
  have hT := Hl.tab_of hL
  refine (walk v0 xs0 w0 v1 xs1 w1 hT.1 hT.2).mono fun e W' ⟨he, bel⟩ => ?_
  subst he
  exact ⟨_, rfl, _, _, _, [], _, q, hW', trodAll_mk1 (shut_bool Tryd.underlying4 _), (trodAll_cons_mk (Below.trod laidOut (by kernel_rfl) (of_decide_eq_true (by kernel_rfl)) k00 bel lt0) (trodAll_cons_mk (Below.trod laidOut (by kernel_rfl) (of_decide_eq_true (by kernel_rfl)) k10 bel lt1) trodAll_mk0)), Below.trodVars laidOut bel rowed hV, bel.frame _, fun h => by cases h⟩

theorem said : Rows.FnAgreedSaid :=
  OpenClaim.holds_of_wide 4 Tryd.f4 rfl rfl rfl rfl rfl rfl rfl ⟨rfl, rfl, rfl, rfl, rfl⟩ rfl rfl rfl rfl rfl (by kernel_rfl) Tryd.func4 (by kernel_rfl)
    (of_decide_eq_true (by kernel_rfl)) (by unfold Func.isWrapper; first | (rw [if_pos (by decide +kernel)]; kernel_rfl) | (rw [if_neg (by decide +kernel)]; exact ⟨rfl, rfl⟩))
    (fun os started H enc _ => lifted os started H enc)

/-- No parameter wants a stand-in; the program's own looks are off. -/
theorem plain (f : FuncId) (fn : Func) (hf : Tryd.pinned.checked.prog.funcNamed "loop.example/g00292/laws.FnAgreed" = some f) (hfn : Tryd.pinned.checked.prog.funcs[f]? = some fn) :
    false = Tryd.pinned.checked.prog.looks [] ∧ ∀ (j : Nat) t, fn.params[j]? = some t → Tryd.pinned.checked.prog.wantsStandIn t = false := by
  obtain rfl : f = 4 := Option.some.inj ((show Tryd.prog.funcNamed "loop.example/g00292/laws.FnAgreed" = some 4 by kernel_rfl).symm.trans hf) |>.symm
  obtain rfl : fn = Tryd.f4 := (Option.some.inj (Tryd.func4.symm.trans hfn)).symm
  refine ⟨by kernel_rfl, fun j t ht => ?_⟩
  rw [Tryd.params4] at ht
  have hm := Array.mem_of_getElem? ht
  have hl : t ∈ [22, 22] := by simpa using hm
  have hall : ∀ x ∈ [22, 22], Tryd.prog.wantsStandIn x = false := by
    intro x hx
    simp only [List.mem_cons, List.not_mem_nil, or_false] at hx
    rcases hx with rfl | rfl <;> kernel_rfl
  exact hall t hl
end Go.Proofs.YtdeologdmdimoaaDoor.fnAgreed
namespace Go.Proofs.YtdeologdmdimoaaDoor
/-- THE STATEMENT: the card. -/
theorem fnAgreed_holds : Rows.FnAgreedCardSaid :=
  Claim7.holds_tied_plain_at .later [] _ _ _ _ fnAgreed.said (fun _ h => by cases h) (by kernel_rfl) (fun _ h => by cases h) fnAgreed_row_tie rfl ⟨rfl, rfl⟩ (by kernel_rfl) rfl fnAgreed.plain (by kernel_rfl)
end Go.Proofs.YtdeologdmdimoaaDoor
