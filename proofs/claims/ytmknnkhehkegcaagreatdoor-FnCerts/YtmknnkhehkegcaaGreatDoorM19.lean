/- Texts put together: Ah, Gd, Gb, Bs, Gw. -/
import Derived.Test.YtmknnkhehkegcaaGreatDoorM10
import Derived.Test.YtmknnkhehkegcaaGreatDoorM2
import Derived.Test.YtmknnkhehkegcaaGreatDoorM12
import Derived.Test.YtmknnkhehkegcaaGreatDoorM3
import Derived.Test.YtmknnkhehkegcaaGreatDoorM6
import Derived.Test.YtmknnkhehkegcaaGreatDoorM17
import Derived.Deep.RegionHeldLaw
import Derived.Test.YtmknnkhehkegcaaGreatDoorM13
/- Readings that are drawn. -/
namespace Go.Proofs.YtmknnkhehkegcaaGreatDoor.Ag
open Go.RowKit Go.Proofs.YtmknnkhehkegcaaGreatDoor.Sl Go.Proofs.YtmknnkhehkegcaaGreatDoor.By Go.Proofs.YtmknnkhehkegcaaGreatDoor.Ap Go.Proofs.YtmknnkhehkegcaaGreatDoor.Rr Go.Proofs.YtmknnkhehkegcaaGreatDoor.Gn Go.Proofs.YtmknnkhehkegcaaGreatDoor.Sh Go.Proofs.YtmknnkhehkegcaaGreatDoor.Mr Go.Proofs.YtmknnkhehkegcaaGreatDoor.Rw Go.Proofs.YtmknnkhehkegcaaGreatDoor.Rs Go.Proofs.YtmknnkhehkegcaaGreatDoor.Rm Go.Proofs.YtmknnkhehkegcaaGreatDoor.Cn Go.Proofs.YtmknnkhehkegcaaGreatDoor.Md Go.Proofs.YtmknnkhehkegcaaGreatDoor.Is
open Go.Proofs.YtmknnkhehkegcaaGreatDoor.Tkb (OwnR info_r list_rd OwnR.made OwnR.below OwnR.lt own_kept OwnR.mono OwnR.alloc cl fm_at)
open Go.Proofs.YtmknnkhehkegcaaGreatDoor.Rg (bel_new lt_at)

/-! draws -/
theorem quo_n {n : Int} (h : n = 1 ∨ n = 4 ∨ n = 7) : ∃ f : Nat, (n - 1).tdiv 3 = (f : Int) ∧ n = 3 * (f : Int) + 1 ∧ f ≤ 2 := by
  rcases h with rfl | rfl | rfl
  · exact ⟨0, by decide, by decide, by decide⟩
  · exact ⟨1, by decide, by decide, by decide⟩
  · exact ⟨2, by decide, by decide, by decide⟩
set_option maxRecDepth 100000 in
set_option maxHeartbeats 1600000 in
theorem readings_any (n f p B K : Nat) (xs : List Int) (w : World) (h : Gn.Src B w p xs K) (hB : B ≤ p) (hK : K ≤ 1000000) (hx : xs.length ≤ 1048576) (hn : n = 3 * f + 1) (hf : f ≤ 2) :
    Calls Tryz.prog 59 #[.pointer (some ⟨p, 0, none⟩), .int .i64 n] w fun e w' => ∃ v us, e = .returned v ∧ OwnR w' w.heap.size v us ∧ us.length = 2 * f + 1 ∧ Fine n n (us.map cv) ∧ Gn.Src B w' p xs (K + 9) ∧ w.grownBy w' (some p) := by
  have hp := h.lt
  have hq : ((n : Int) - 1).tdiv 3 = (f : Int) := by subst hn; rw [show (((3 * f + 1 : Nat)) : Int) - 1 = 3 * (f : Int) by omega]; rw [Int.mul_tdiv_cancel_left _ (by decide)]
  obtain ⟨i0, hi0, hz0, hz1, hz2⟩ := info_parts info_r
  have hn7 : n ≤ 7 := by omega
  have hn1 : 1 ≤ n := by omega
  have HN : Hid (∀ _ : Unit, n = 3 * f + 1) := fun _ => hn
  clear hn
  have S0 : Hid (Gn.Src B (w.alloc (.cells #[] 105)) p xs K) := h.alloc hB _
  have G0 : Hid (w.grownBy (w.alloc (.cells #[] 105)) (some p)) := grown_alloc (grown_refl _ _) _
  have O0 : Hid (OwnR (w.alloc (.cells #[] 105)) w.heap.size (.slice (some ⟨w.heap.size, 0, none⟩) 0 0) []) := OwnR.made w _ (Nat.le_refl _)
  clear h
  go_enter Tryz.func59, Tryz.ntmps59
  go_wp2_with fail
  refine (next_any n p B K xs _ S0.out hB (by omega) hx (by omega) (by omega)).mono ?_
  rintro e w1 ⟨sk, rfl, hsk, s1, g1⟩
  have S1 : Hid (Gn.Src B w1 p xs (K + 1)) := s1
  have G1 : Hid (w.grownBy w1 (some p)) := grown_trans G0.out g1
  have O1 : Hid (OwnR w1 w.heap.size (.slice (some ⟨w.heap.size, 0, none⟩) 0 0) []) := own_kept O0.out g1 hp
  clear s1 g1 S0 G0 O0
  go_wp2_with fail
  go_loopw [6, 8] (fun out i wr => ∃ (j : Nat) (us : List Gr.Rd), i = .int .i64 (j : Int) ∧ Hid (OwnR wr w.heap.size out us) ∧ Hid (us.length + (if sk < j ∧ 1 < n then 1 else 0) = j ∧ us.length ≤ 2 * f + 1) ∧ Hid (Fine n j (us.map cv)) ∧ Hid (Gn.Src B wr p xs (K + 1 + us.length)) ∧ Hid (w.grownBy wr (some p))) (fun _ i _ => 8 - (intOf i).toNat)
  case atStart => exact ⟨0, [], rfl, O1, ⟨by simp, by simp⟩, Fine.nil _ _, S1, G1⟩
  case round =>
    clear S1 G1 O1
    obtain ⟨j, us, rfl, HO, HC, HF, HS, HG⟩ := hrel
    obtain ⟨ao, co, rfl⟩ := Rg.RowG.slice (Tkb.OwnR.row HO.out)
    have hc1 := HC.out.1
    have hc2 := HC.out.2
    by_cases hlt : us.length < 2 * f + 1
    · have hlt' : (us.length : Int) < 2 * (f : Int) + 1 := by omega
      have hj6 : j ≤ 6 ∧ (j < n ∨ j = sk) := by
        have hn := HN.out ()
        by_cases hs : sk < j ∧ 1 < n
        · rw [if_pos hs] at hc1; omega
        · rw [if_neg hs] at hc1; omega
      by_cases hsk2 : j = sk ∧ 1 < n
      · have q1 : ((j : Int) == (sk : Int)) = true := by simp; omega
        have q2 : (1 : Int) < (n : Int) := by omega
        have hj6' := hj6.1
        have HC2 : Hid (us.length + (if sk < j + 1 ∧ 1 < n then 1 else 0) = j + 1 ∧ us.length ≤ 2 * f + 1) := by
          refine ⟨?_, hc2⟩
          rw [if_neg (by omega)] at hc1
          rw [if_pos (by omega)]
          omega
        have HF2 : Hid (Fine n ((j : Int) + 1) (us.map cv)) := HF.out.le (by omega)
        clear hc1 hc2 HC HF hsk2 hj6
        go_wp2_with fail
        exact ⟨⟨j + 1, us, by go_num, HO, HC2, by show Fine _ _ _; rw [show ((j + 1 : Nat) : Int) = (j : Int) + 1 by omega]; exact HF2.out, HS, HG⟩, by simp [intOf]; omega⟩
      · have hjn : j < n := by
          have hn := HN.out ()
          by_cases hs : sk < j ∧ 1 < n
          · rw [if_pos hs] at hc1; omega
          · rw [if_neg hs] at hc1; omega
        have q0 : (((j : Int) == (sk : Int)) && decide ((1 : Int) < (n : Int))) = false := by
          rw [Bool.and_eq_false_iff]
          by_cases e : j = sk
          · right; simp; omega
          · left; simp; omega
        have HC2 : Hid (∀ z : Gr.Rd, (us ++ [z]).length + (if sk < j + 1 ∧ 1 < n then 1 else 0) = j + 1 ∧ (us ++ [z]).length ≤ 2 * f + 1) := fun z => by
          rw [List.length_append]
          simp only [List.length_cons, List.length_nil]
          by_cases hs : sk < j ∧ 1 < n
          · rw [if_pos hs] at hc1; rw [if_pos (by omega)]; omega
          · rw [if_neg hs] at hc1; rw [if_neg (by omega)]; omega
        have HJ : Hid (∀ _ : Unit, j ≤ 6 ∧ j < n) := fun _ => ⟨hj6.1, hjn⟩
        have hul : us.length ≤ 1000000 := by omega
        have hKu : K + 1 + us.length ≤ 1000000000 := by omega
        clear hc1 hc2 HC
        by_cases e : j = sk
        · have q2 : ¬ (1 : Int) < (n : Int) := by omega
          subst e
          have q1 : ((j : Int) == (j : Int)) = true := by simp
          clear hsk2 hjn q0 hlt
          go_wp2_with fail
          refine (next_any 100 p B (K + 1 + us.length) xs _ HS.out hB hKu hx (by decide) (by decide)).mono ?_
          rintro e w2 ⟨x, rfl, hxx, s2, g2⟩
          have S2 : Hid (Gn.Src B w2 p xs (K + 1 + us.length + 1)) := s2
          have G2 : Hid (w.grownBy w2 (some p)) := grown_trans HG.out g2
          have O2 : Hid (OwnR w2 w.heap.size (.slice ao us.length co) us) := own_kept HO.out g2 hp
          have HFS : Hid (Fine n ((j : Int) + 1) ((us ++ [(⟨(j : Int), (x : Int), rmk j x⟩ : Gr.Rd)]).map cv)) := by
            show Fine _ _ _
            rw [List.map_append]
            exact HF.out.snoc (x := (x : Int)) (HJ.out ()).1 (by have := (HJ.out ()).2; omega) ⟨by omega, by omega⟩
          have HMK := l04Reading_any j (x : Int) w2 (by have := (HJ.out ()).1; omega)
          obtain ⟨mk, HM⟩ : ∃ mk, Hid (rmk j (x : Int) = mk) := ⟨_, rfl⟩
          rw [HM.out] at HMK HFS
          clear s2 g2 HO HF HS HG
          go_wp2_with fail
          refine HMK.mono ?_
          rintro e w3 ⟨rfl, b3⟩
          have S3 : Hid (Gn.Src B w3 p xs (K + 1 + us.length + 1)) := S2.out.kept (b3.block p S2.out.lt) (fun k hk => b3.block k (by have := S2.out.lt; omega))
          have G3 : Hid (w.grownBy w3 (some p)) := grown_trans G2.out ⟨b3.os, b3.tape, b3.output, b3.size, fun k hk _ => b3.block k hk⟩
          have O3 : OwnR w3 w.heap.size (.slice ao us.length co) us := O2.out.below b3
          have hw3 : w.heap.size ≤ w3.heap.size := G3.out.size
          clear b3 S2 G2 O2 HMK
          go_wp2_with (at_builtin; go_must (refine list_rd (by rfl) _ _ 64 (by rfl) i0 Tryz.underlying64 hi0 hz0 hz1 hz2 w.heap.size w3 w3 _ us ⟨(j : Int), (x : Int), mk⟩ (by rfl) O3 (Below.refl _ _) hw3 _ (by rfl) rfl hul ?_; intro v4 w4 o4 b4 k4))
          have S4 : Hid (Gn.Src B w4 p xs (K + 1 + (us ++ [(⟨(j : Int), (x : Int), mk⟩ : Gr.Rd)]).length)) := by
            rw [List.length_append]
            exact S3.out.kept (b4.block p hp) (fun k hk => b4.block k (by omega))
          have G4 : Hid (w.grownBy w4 (some p)) := ⟨b4.os.trans G3.out.os, b4.tape.trans G3.out.tape, b4.output.trans G3.out.output, Nat.le_trans G3.out.size b4.size, fun k hk hne => (b4.block k hk).trans (G3.out.block k hk hne)⟩
          exact ⟨⟨j + 1, _, by go_num, o4, HC2.out _, by show Fine _ _ _; rw [show ((j + 1 : Nat) : Int) = (j : Int) + 1 by omega]; exact HFS.out, S4, G4⟩, by have := (HJ.out ()).1; simp [intOf]; omega⟩
        · have q1 : ((j : Int) == (sk : Int)) = false := by simp; omega
          clear hsk2 hjn q0 hlt e
          go_wp2_with fail
          refine (next_any 100 p B (K + 1 + us.length) xs _ HS.out hB hKu hx (by decide) (by decide)).mono ?_
          rintro e w2 ⟨x, rfl, hxx, s2, g2⟩
          have S2 : Hid (Gn.Src B w2 p xs (K + 1 + us.length + 1)) := s2
          have G2 : Hid (w.grownBy w2 (some p)) := grown_trans HG.out g2
          have O2 : Hid (OwnR w2 w.heap.size (.slice ao us.length co) us) := own_kept HO.out g2 hp
          have HFS : Hid (Fine n ((j : Int) + 1) ((us ++ [(⟨(j : Int), (x : Int), rmk j x⟩ : Gr.Rd)]).map cv)) := by
            show Fine _ _ _
            rw [List.map_append]
            exact HF.out.snoc (x := (x : Int)) (HJ.out ()).1 (by have := (HJ.out ()).2; omega) ⟨by omega, by omega⟩
          have HMK := l04Reading_any j (x : Int) w2 (by have := (HJ.out ()).1; omega)
          obtain ⟨mk, HM⟩ : ∃ mk, Hid (rmk j (x : Int) = mk) := ⟨_, rfl⟩
          rw [HM.out] at HMK HFS
          clear s2 g2 HO HF HS HG
          go_wp2_with fail
          refine HMK.mono ?_
          rintro e w3 ⟨rfl, b3⟩
          have S3 : Hid (Gn.Src B w3 p xs (K + 1 + us.length + 1)) := S2.out.kept (b3.block p S2.out.lt) (fun k hk => b3.block k (by have := S2.out.lt; omega))
          have G3 : Hid (w.grownBy w3 (some p)) := grown_trans G2.out ⟨b3.os, b3.tape, b3.output, b3.size, fun k hk _ => b3.block k hk⟩
          have O3 : OwnR w3 w.heap.size (.slice ao us.length co) us := O2.out.below b3
          have hw3 : w.heap.size ≤ w3.heap.size := G3.out.size
          clear b3 S2 G2 O2 HMK
          go_wp2_with (at_builtin; go_must (refine list_rd (by rfl) _ _ 64 (by rfl) i0 Tryz.underlying64 hi0 hz0 hz1 hz2 w.heap.size w3 w3 _ us ⟨(j : Int), (x : Int), mk⟩ (by rfl) O3 (Below.refl _ _) hw3 _ (by rfl) rfl hul ?_; intro v4 w4 o4 b4 k4))
          have S4 : Hid (Gn.Src B w4 p xs (K + 1 + (us ++ [(⟨(j : Int), (x : Int), mk⟩ : Gr.Rd)]).length)) := by
            rw [List.length_append]
            exact S3.out.kept (b4.block p hp) (fun k hk => b4.block k (by omega))
          have G4 : Hid (w.grownBy w4 (some p)) := ⟨b4.os.trans G3.out.os, b4.tape.trans G3.out.tape, b4.output.trans G3.out.output, Nat.le_trans G3.out.size b4.size, fun k hk hne => (b4.block k hk).trans (G3.out.block k hk hne)⟩
          exact ⟨⟨j + 1, _, by go_num, o4, HC2.out _, by show Fine _ _ _; rw [show ((j + 1 : Nat) : Int) = (j : Int) + 1 by omega]; exact HFS.out, S4, G4⟩, by have := (HJ.out ()).1; simp [intOf]; omega⟩
    · have hlt' : ¬ (us.length : Int) < 2 * (f : Int) + 1 := by omega
      have HL : Hid (us.length = 2 * f + 1) := by show _ = _; omega
      have HFN : Hid (Fine n n (us.map cv)) := HF.out.le (by
        have hn := HN.out ()
        by_cases hs : sk < j ∧ 1 < n
        · rw [if_pos hs] at hc1; omega
        · rw [if_neg hs] at hc1; omega)
      have HSE : Hid (Gn.Src B wr p xs (K + 9)) := by
        obtain ⟨v, a, s, q1, q2, q3, q4⟩ := HS.out
        exact ⟨v, a, s, q1, q2, by omega, q4⟩
      clear hc1 hc2
      go_wp2_with fail
      go_ret
      exact ⟨_, rfl, us, HO.out, HL.out, HFN.out, HSE.out, HG.out⟩
end Go.Proofs.YtmknnkhehkegcaaGreatDoor.Ag

/- Requests that the source draws. -/
namespace Go.Proofs.YtmknnkhehkegcaaGreatDoor.Gn
open Go.RowKit Go.Proofs.YtmknnkhehkegcaaGreatDoor.Sl Go.Proofs.YtmknnkhehkegcaaGreatDoor.By Go.Proofs.YtmknnkhehkegcaaGreatDoor.Ap Go.Proofs.YtmknnkhehkegcaaGreatDoor.Rq Go.Proofs.YtmknnkhehkegcaaGreatDoor.Rr Go.Proofs.YtmknnkhehkegcaaGreatDoor.Ty

theorem Src.set {B p b K : Nat} {w : World} {xs : List Int} (h : Src B w p xs K) (hb : p ≠ b) (hB : B ≤ b) (i : Nat) (x : Value) : Src B (w.setCell ⟨b, i, none⟩ x) p xs K :=
  h.kept (blk_far hb i x) (fun k hk => blk_far (by omega) i x)
theorem req_ok {c st k l : Int} {n : ByteArray} (h1 : inB c 0 255 = true) (h2 : inB st 1 65535 = true) (h3 : leB k l = true) (h4 : opB n = true) : reqB c st k l n = true := by
  unfold reqB; rw [h1, h2, h3, h4]; rfl
theorem Src.le {B p K K' : Nat} {w : World} {xs : List Int} (h : Src B w p xs K) (hk : K ≤ K') : Src B w p xs K' := by
  obtain ⟨v, a, s, q1, q2, q3, q4⟩ := h
  exact ⟨v, a, s, q1, q2, by omega, q4⟩
set_option maxHeartbeats 400000 in
theorem chance_any (n p B K : Nat) (xs : List Int) (w : World) (h : Src B w p xs K) (hB : B ≤ p) (hK : K ≤ 1000000000) (hx : xs.length ≤ 1048576) (hn : 0 < n) (hn2 : n ≤ 256) :
    Calls Tryz.prog 56 #[.pointer (some ⟨p, 0, none⟩), .int .i64 n] w fun e w' => ∃ b : Bool, e = .returned (.bool b) ∧ Src B w' p xs (K + 1) ∧ w.grownBy w' (some p) := by
  have hn3 : (n : Int) ≤ 256 := by omega
  go_enter Tryz.func56, Tryz.ntmps56
  go_wp2_with fail
  refine (next_any n p B K xs _ h hB hK hx hn hn2).mono ?_
  rintro e w1 ⟨r, rfl, hr, s1, g1⟩
  have S1 : Hid (Src B w1 p xs (K + 1)) := s1
  clear s1 h
  go_wp2_with fail
  go_ret
  exact ⟨_, rfl, S1.out, g1⟩
def lk3 : List ByteArray := [⟨#[97]⟩, ⟨#[98]⟩, ⟨#[108, 111, 99, 107]⟩]
theorem lk3_ok (r : Nat) (h : r < 3) : opB (tnth lk3 r) = true := by
  match r, h with
  | 0, _ => decide
  | 1, _ => decide
  | 2, _ => decide
set_option maxRecDepth 100000 in
set_option maxHeartbeats 1600000 in
theorem request_any (p B K : Nat) (xs : List Int) (w : World) (h : Src B w p xs K) (hB : B ≤ p) (hK : K ≤ 1000000) (hx : xs.length ≤ 1048576) :
    Calls Tryz.prog 58 #[.pointer (some ⟨p, 0, none⟩)] w fun e w' => ∃ (c st k l : Int) (n : ByteArray), e = .returned (.agg #[.int .i64 c, .int .i64 st, .int .i64 k, .int .i64 l, .string n]) ∧ reqB c st k l n = true ∧ Src B w' p xs (K + 5) ∧ w.grownBy w' (some p) := by
  have hp := h.lt
  have S0 : Hid (Src B (w.alloc (.cells zreq 63)) p xs K) := h.alloc hB _
  have G0 : Hid (w.grownBy (w.alloc (.cells zreq 63)) (some p)) := grown_alloc (grown_refl _ _) _
  have A0 : Hid ((w.alloc (.cells zreq 63)).heap[w.heap.size]? = some (.cells zreq 63 (0, 0))) := blk_new _ _ _
  clear h
  go_enter Tryz.func58, Tryz.ntmps58
  go_wp2_with fail
  refine (next_any 3 p B K xs _ S0.out hB (by omega) hx (by decide) (by decide)).mono ?_
  rintro e w1 ⟨c, rfl, hc, s1, g1⟩
  have S1 : Hid (Src B w1 p xs (K + 1)) := s1
  have G1 : Hid (w.grownBy w1 (some p)) := grown_trans G0.out g1
  have A1 : Hid (w1.heap[w.heap.size]? = some (.cells zreq 63 (0, 0))) := blk_kept A0.out g1 (by omega)
  clear s1 g1 S0 G0 A0
  go_wp2_with fail
  refine (next_any 5 p B (K + 1) xs _ S1.out hB (by omega) hx (by decide) (by decide)).mono ?_
  rintro e w2 ⟨st, rfl, hst, s2, g2⟩
  have S2 : Hid (Src B w2 p xs (K + 2)) := s2
  have G2 : Hid (w.grownBy w2 (some p)) := grown_trans G1.out g2
  have A2 : Hid (w2.heap[w.heap.size]? = some (.cells zreq 63 (0, 0))) := blk_kept A1.out g2 (by omega)
  clear s2 g2 S1 G1 A1
  go_wp2_with fail
  refine (next_any 4 p B (K + 2) xs _ S2.out hB (by omega) hx (by decide) (by decide)).mono ?_
  rintro e w3 ⟨k, rfl, hk, s3, g3⟩
  have S3 : Hid (Src B (w3.alloc (.cells #[.string ⟨#[97]⟩, .string ⟨#[98]⟩, .string ⟨#[108, 111, 99, 107]⟩] 9)) p xs (K + 3)) := s3.alloc hB _
  have G3 : Hid (w.grownBy (w3.alloc (.cells #[.string ⟨#[97]⟩, .string ⟨#[98]⟩, .string ⟨#[108, 111, 99, 107]⟩] 9)) (some p)) := grown_alloc (grown_trans G2.out g3) _
  have l3 : w.heap.size < w3.heap.size := (Array.getElem?_eq_some_iff.1 (blk_kept A2.out g3 (by omega))).1
  have A3 : Hid ((w3.alloc (.cells #[.string ⟨#[97]⟩, .string ⟨#[98]⟩, .string ⟨#[108, 111, 99, 107]⟩] 9)).heap[w.heap.size]? = some (.cells zreq 63 (0, 0))) := (Below.heap_alloc _ _ _ l3).trans (blk_kept A2.out g3 (by omega))
  have hp3 := s3.lt
  clear s3 g3 S2 G2 A2
  go_wp2_with fail
  refine (pick_any w3.heap.size 3 p B (K + 3) _ lk3 xs _ S3.out hB (by omega) hx (by decide) (by decide) (blk_new _ _ _) (by omega) ?_).mono ?_
  · intro j hj
    match j, hj with
    | 0, _ => rfl
    | 1, _ => rfl
    | 2, _ => rfl
  rintro e w4 ⟨r, rfl, hr, s4, g4⟩
  have S4 : Hid (Src B w4 p xs (K + 4)) := s4
  have G4 : Hid (w.grownBy w4 (some p)) := grown_trans G3.out g4
  have A4 : Hid (w4.heap[w.heap.size]? = some (.cells zreq 63 (0, 0))) := blk_kept A3.out g4 (by omega)
  have HO : Hid (opB (tnth lk3 r) = true) := lk3_ok r hr
  have l4 : w.heap.size < w4.heap.size := (Array.getElem?_eq_some_iff.1 A4.out).1
  have hp4 := s4.lt
  clear s4 g4 S3 G3 A3 hp3 l3
  generalize tnth lk3 r = n at HO ⊢
  have A5 : Hid ((w4.alloc (.cells #[.int .i64 c, .int .i64 (1 + st), .int .i64 (1 + k), .int .i64 0, .string n] 63)).heap[w.heap.size]? = some (.cells zreq 63 (0, 0))) := (Below.heap_alloc _ _ _ l4).trans A4.out
  have B5 : Hid ((w4.alloc (.cells #[.int .i64 c, .int .i64 (1 + st), .int .i64 (1 + k), .int .i64 0, .string n] 63)).heap[w4.heap.size]? = some (.cells #[.int .i64 c, .int .i64 (1 + st), .int .i64 (1 + k), .int .i64 0, .string n] 63 (0, 0))) := blk_new _ _ _
  have S5 : Hid (Src B (w4.alloc (.cells #[.int .i64 c, .int .i64 (1 + st), .int .i64 (1 + k), .int .i64 0, .string n] 63)) p xs (K + 4)) := S4.out.alloc hB _
  have G5 : Hid (w.grownBy (w4.alloc (.cells #[.int .i64 c, .int .i64 (1 + st), .int .i64 (1 + k), .int .i64 0, .string n] 63)) (some p)) := grown_alloc G4.out _
  go_upto_region 2 with fail
  generalize w4.alloc (.cells #[.int .i64 c, .int .i64 (1 + st), .int .i64 (1 + k), .int .i64 0, .string n] 63) = w5 at A5 B5 S5 G5 ⊢
  clear A4 S4 G4
  generalize w4.heap.size = x at B5 l4 hp4 ⊢
  have HC : Hid (inB c 0 255 = true) := decide_eq_true ⟨by omega, by omega⟩
  have HT : Hid (inB (1 + (st : Int)) 1 65535 = true) := decide_eq_true ⟨by omega, by omega⟩
  obtain ⟨kd, hkd⟩ : ∃ kd : Int, (1 : Int) + (k : Int) = kd := ⟨_, rfl⟩
  rw [hkd] at B5 ⊢
  have hkr : 1 ≤ kd ∧ kd ≤ 4 := by omega
  clear hkd
  have x2 := (blk_cell B5.out 2 (x := .int .i64 kd) rfl).1
  by_cases hle : kd = 1 ∨ kd = 3
  · have HL : Hid (∀ l : Nat, l < 30 → leB kd (1 + (l : Int)) = true) := fun l hl => decide_eq_true (.inl ⟨hle, by omega, by omega⟩)
    have hq : (kd == 1 || kd == 3) = true := by rcases hle with h | h <;> simp [h]
    obtain ⟨x3, y3⟩ := blk_cell B5.out 3 (x := .int .i64 0) rfl
    rcases hle with rfl | rfl
    · clear hq
      go_wp2_with fail
      refine (next_any 30 p B (K + 4) xs _ S5.out hB (by omega) hx (by decide) (by decide)).mono ?_
      rintro e w6 ⟨l, rfl, hl, s6, g6⟩
      have a6 := blk_kept A5.out g6 (by omega)
      have b6 := blk_kept B5.out g6 (by omega)
      obtain ⟨z3, t3⟩ := blk_cell b6 3 (x := .int .i64 0) rfl
      have AZ : Hid ((w6.setCell ⟨x, 3, none⟩ (.int .i64 (1 + l))).heap[w.heap.size]? = some (.cells zreq 63 (0, 0))) := (blk_far (by omega) 3 _).trans a6
      have BZ : Hid ((w6.setCell ⟨x, 3, none⟩ (.int .i64 (1 + l))).heap[x]? = some (.cells #[.int .i64 c, .int .i64 (1 + st), .int .i64 1, .int .i64 (1 + l), .string n] 63 (0, 0))) := blk_set b6 3 _
      have SZ : Hid (Src B (w6.setCell ⟨x, 3, none⟩ (.int .i64 (1 + l))) p xs (K + 5)) := Src.set s6 (by omega) (by omega) 3 _
      have GZ : Hid (w.grownBy (w6.setCell ⟨x, 3, none⟩ (.int .i64 (1 + l))) (some p)) := grown_new (grown_trans G5.out g6) (by omega) 3 _
      clear a6 b6 s6 g6 A5 B5 S5 G5 x2 x3 y3
      go_upto_region 4 with fail
      generalize w6.setCell ⟨x, 3, none⟩ (.int .i64 (1 + l)) = wz at AZ BZ SZ GZ ⊢
      clear z3 t3
      obtain ⟨ca0, fa0⟩ := blk_cell AZ.out 0 (x := .int .i64 0) rfl
      have cb0 := (blk_cell BZ.out 0 (x := .int .i64 c) rfl).1
      obtain ⟨ca1, fa1⟩ := blk_cell AZ.out 1 (x := .int .i64 0) rfl
      have cb1 := (blk_cell BZ.out 1 (x := .int .i64 (1 + st)) rfl).1
      obtain ⟨ca2, fa2⟩ := blk_cell AZ.out 2 (x := .int .i64 0) rfl
      have cb2 := (blk_cell BZ.out 2 (x := .int .i64 1) rfl).1
      obtain ⟨ca3, fa3⟩ := blk_cell AZ.out 3 (x := .int .i64 0) rfl
      have cb3 := (blk_cell BZ.out 3 (x := .int .i64 (1 + l)) rfl).1
      obtain ⟨ca4, fa4⟩ := blk_cell AZ.out 4 (x := .string ⟨#[]⟩) rfl
      have cb4 := (blk_cell BZ.out 4 (x := .string n) rfl).1
      have AF : ((((((wz.setCell ⟨w.heap.size, 0, none⟩ (.int .i64 c)).setCell ⟨w.heap.size, 1, none⟩ (.int .i64 (1 + st))).setCell ⟨w.heap.size, 2, none⟩ (.int .i64 1)).setCell ⟨w.heap.size, 3, none⟩ (.int .i64 (1 + l))).setCell ⟨w.heap.size, 4, none⟩ (.string n))).heap[w.heap.size]? = some (.cells #[.int .i64 c, .int .i64 (1 + st), .int .i64 1, .int .i64 (1 + l), .string n] 63 (0, 0)) := (blk_set (blk_set (blk_set (blk_set (blk_set AZ.out 0 (.int .i64 c)) 1 (.int .i64 (1 + st))) 2 (.int .i64 1)) 3 (.int .i64 (1 + l))) 4 (.string n))
      have GF : Hid (w.grownBy (((((wz.setCell ⟨w.heap.size, 0, none⟩ (.int .i64 c)).setCell ⟨w.heap.size, 1, none⟩ (.int .i64 (1 + st))).setCell ⟨w.heap.size, 2, none⟩ (.int .i64 1)).setCell ⟨w.heap.size, 3, none⟩ (.int .i64 (1 + l))).setCell ⟨w.heap.size, 4, none⟩ (.string n)) (some p)) := (grown_new (grown_new (grown_new (grown_new (grown_new GZ.out (Nat.le_refl _) 0 (.int .i64 c)) (Nat.le_refl _) 1 (.int .i64 (1 + st))) (Nat.le_refl _) 2 (.int .i64 1)) (Nat.le_refl _) 3 (.int .i64 (1 + l))) (Nat.le_refl _) 4 (.string n))
      have SF : Hid (Src B (((((wz.setCell ⟨w.heap.size, 0, none⟩ (.int .i64 c)).setCell ⟨w.heap.size, 1, none⟩ (.int .i64 (1 + st))).setCell ⟨w.heap.size, 2, none⟩ (.int .i64 1)).setCell ⟨w.heap.size, 3, none⟩ (.int .i64 (1 + l))).setCell ⟨w.heap.size, 4, none⟩ (.string n)) p xs (K + 5)) := (Src.set (Src.set (Src.set (Src.set (Src.set SZ.out (by omega) (by omega) 0 (.int .i64 c)) (by omega) (by omega) 1 (.int .i64 (1 + st))) (by omega) (by omega) 2 (.int .i64 1)) (by omega) (by omega) 3 (.int .i64 (1 + l))) (by omega) (by omega) 4 (.string n))
      go_wp2_with fail
      generalize (((((wz.setCell ⟨w.heap.size, 0, none⟩ (.int .i64 c)).setCell ⟨w.heap.size, 1, none⟩ (.int .i64 (1 + st))).setCell ⟨w.heap.size, 2, none⟩ (.int .i64 1)).setCell ⟨w.heap.size, 3, none⟩ (.int .i64 (1 + l))).setCell ⟨w.heap.size, 4, none⟩ (.string n)) = wf at AF GF SF ⊢
      have d0 := (blk_cell AF 0 (x := .int .i64 c) rfl).1
      have d1 := (blk_cell AF 1 (x := .int .i64 (1 + st)) rfl).1
      have d2 := (blk_cell AF 2 (x := .int .i64 1) rfl).1
      have d3 := (blk_cell AF 3 (x := .int .i64 (1 + l)) rfl).1
      have d4 := (blk_cell AF 4 (x := .string n) rfl).1
      exact bodyPost_ret (v := .agg #[.int .i64 c, .int .i64 (1 + st), .int .i64 1, .int .i64 (1 + l), .string n]) (by simp [results, Tryz.results58, go_sem, d0, d1, d2, d3, d4]) rfl ⟨_, _, _, _, _, rfl, req_ok HC.out HT.out (HL.out l hl) HO.out, SF.out, GF.out⟩
    · clear hq
      go_wp2_with fail
      refine (next_any 30 p B (K + 4) xs _ S5.out hB (by omega) hx (by decide) (by decide)).mono ?_
      rintro e w6 ⟨l, rfl, hl, s6, g6⟩
      have a6 := blk_kept A5.out g6 (by omega)
      have b6 := blk_kept B5.out g6 (by omega)
      obtain ⟨z3, t3⟩ := blk_cell b6 3 (x := .int .i64 0) rfl
      have AZ : Hid ((w6.setCell ⟨x, 3, none⟩ (.int .i64 (1 + l))).heap[w.heap.size]? = some (.cells zreq 63 (0, 0))) := (blk_far (by omega) 3 _).trans a6
      have BZ : Hid ((w6.setCell ⟨x, 3, none⟩ (.int .i64 (1 + l))).heap[x]? = some (.cells #[.int .i64 c, .int .i64 (1 + st), .int .i64 3, .int .i64 (1 + l), .string n] 63 (0, 0))) := blk_set b6 3 _
      have SZ : Hid (Src B (w6.setCell ⟨x, 3, none⟩ (.int .i64 (1 + l))) p xs (K + 5)) := Src.set s6 (by omega) (by omega) 3 _
      have GZ : Hid (w.grownBy (w6.setCell ⟨x, 3, none⟩ (.int .i64 (1 + l))) (some p)) := grown_new (grown_trans G5.out g6) (by omega) 3 _
      clear a6 b6 s6 g6 A5 B5 S5 G5 x2 x3 y3
      go_upto_region 4 with fail
      generalize w6.setCell ⟨x, 3, none⟩ (.int .i64 (1 + l)) = wz at AZ BZ SZ GZ ⊢
      clear z3 t3
      obtain ⟨ca0, fa0⟩ := blk_cell AZ.out 0 (x := .int .i64 0) rfl
      have cb0 := (blk_cell BZ.out 0 (x := .int .i64 c) rfl).1
      obtain ⟨ca1, fa1⟩ := blk_cell AZ.out 1 (x := .int .i64 0) rfl
      have cb1 := (blk_cell BZ.out 1 (x := .int .i64 (1 + st)) rfl).1
      obtain ⟨ca2, fa2⟩ := blk_cell AZ.out 2 (x := .int .i64 0) rfl
      have cb2 := (blk_cell BZ.out 2 (x := .int .i64 3) rfl).1
      obtain ⟨ca3, fa3⟩ := blk_cell AZ.out 3 (x := .int .i64 0) rfl
      have cb3 := (blk_cell BZ.out 3 (x := .int .i64 (1 + l)) rfl).1
      obtain ⟨ca4, fa4⟩ := blk_cell AZ.out 4 (x := .string ⟨#[]⟩) rfl
      have cb4 := (blk_cell BZ.out 4 (x := .string n) rfl).1
      have AF : ((((((wz.setCell ⟨w.heap.size, 0, none⟩ (.int .i64 c)).setCell ⟨w.heap.size, 1, none⟩ (.int .i64 (1 + st))).setCell ⟨w.heap.size, 2, none⟩ (.int .i64 3)).setCell ⟨w.heap.size, 3, none⟩ (.int .i64 (1 + l))).setCell ⟨w.heap.size, 4, none⟩ (.string n))).heap[w.heap.size]? = some (.cells #[.int .i64 c, .int .i64 (1 + st), .int .i64 3, .int .i64 (1 + l), .string n] 63 (0, 0)) := (blk_set (blk_set (blk_set (blk_set (blk_set AZ.out 0 (.int .i64 c)) 1 (.int .i64 (1 + st))) 2 (.int .i64 3)) 3 (.int .i64 (1 + l))) 4 (.string n))
      have GF : Hid (w.grownBy (((((wz.setCell ⟨w.heap.size, 0, none⟩ (.int .i64 c)).setCell ⟨w.heap.size, 1, none⟩ (.int .i64 (1 + st))).setCell ⟨w.heap.size, 2, none⟩ (.int .i64 3)).setCell ⟨w.heap.size, 3, none⟩ (.int .i64 (1 + l))).setCell ⟨w.heap.size, 4, none⟩ (.string n)) (some p)) := (grown_new (grown_new (grown_new (grown_new (grown_new GZ.out (Nat.le_refl _) 0 (.int .i64 c)) (Nat.le_refl _) 1 (.int .i64 (1 + st))) (Nat.le_refl _) 2 (.int .i64 3)) (Nat.le_refl _) 3 (.int .i64 (1 + l))) (Nat.le_refl _) 4 (.string n))
      have SF : Hid (Src B (((((wz.setCell ⟨w.heap.size, 0, none⟩ (.int .i64 c)).setCell ⟨w.heap.size, 1, none⟩ (.int .i64 (1 + st))).setCell ⟨w.heap.size, 2, none⟩ (.int .i64 3)).setCell ⟨w.heap.size, 3, none⟩ (.int .i64 (1 + l))).setCell ⟨w.heap.size, 4, none⟩ (.string n)) p xs (K + 5)) := (Src.set (Src.set (Src.set (Src.set (Src.set SZ.out (by omega) (by omega) 0 (.int .i64 c)) (by omega) (by omega) 1 (.int .i64 (1 + st))) (by omega) (by omega) 2 (.int .i64 3)) (by omega) (by omega) 3 (.int .i64 (1 + l))) (by omega) (by omega) 4 (.string n))
      go_wp2_with fail
      generalize (((((wz.setCell ⟨w.heap.size, 0, none⟩ (.int .i64 c)).setCell ⟨w.heap.size, 1, none⟩ (.int .i64 (1 + st))).setCell ⟨w.heap.size, 2, none⟩ (.int .i64 3)).setCell ⟨w.heap.size, 3, none⟩ (.int .i64 (1 + l))).setCell ⟨w.heap.size, 4, none⟩ (.string n)) = wf at AF GF SF ⊢
      have d0 := (blk_cell AF 0 (x := .int .i64 c) rfl).1
      have d1 := (blk_cell AF 1 (x := .int .i64 (1 + st)) rfl).1
      have d2 := (blk_cell AF 2 (x := .int .i64 3) rfl).1
      have d3 := (blk_cell AF 3 (x := .int .i64 (1 + l)) rfl).1
      have d4 := (blk_cell AF 4 (x := .string n) rfl).1
      exact bodyPost_ret (v := .agg #[.int .i64 c, .int .i64 (1 + st), .int .i64 3, .int .i64 (1 + l), .string n]) (by simp [results, Tryz.results58, go_sem, d0, d1, d2, d3, d4]) rfl ⟨_, _, _, _, _, rfl, req_ok HC.out HT.out (HL.out l hl) HO.out, SF.out, GF.out⟩
  · have HL : Hid (leB kd 0 = true) := decide_eq_true (.inr ⟨by omega, rfl⟩)
    have q1 : (kd == 1) = false := by simp; omega
    have q3 : (kd == 3) = false := by simp; omega
    have SZ : Hid (Src B w5 p xs (K + 5)) := S5.out.le (by omega)
    clear hle S5
    go_upto_region 4 with fail
    obtain ⟨ca0, fa0⟩ := blk_cell A5.out 0 (x := .int .i64 0) rfl
    have cb0 := (blk_cell B5.out 0 (x := .int .i64 c) rfl).1
    obtain ⟨ca1, fa1⟩ := blk_cell A5.out 1 (x := .int .i64 0) rfl
    have cb1 := (blk_cell B5.out 1 (x := .int .i64 (1 + st)) rfl).1
    obtain ⟨ca2, fa2⟩ := blk_cell A5.out 2 (x := .int .i64 0) rfl
    have cb2 := (blk_cell B5.out 2 (x := .int .i64 kd) rfl).1
    obtain ⟨ca3, fa3⟩ := blk_cell A5.out 3 (x := .int .i64 0) rfl
    have cb3 := (blk_cell B5.out 3 (x := .int .i64 0) rfl).1
    obtain ⟨ca4, fa4⟩ := blk_cell A5.out 4 (x := .string ⟨#[]⟩) rfl
    have cb4 := (blk_cell B5.out 4 (x := .string n) rfl).1
    have AF : ((((((w5.setCell ⟨w.heap.size, 0, none⟩ (.int .i64 c)).setCell ⟨w.heap.size, 1, none⟩ (.int .i64 (1 + st))).setCell ⟨w.heap.size, 2, none⟩ (.int .i64 kd)).setCell ⟨w.heap.size, 3, none⟩ (.int .i64 0)).setCell ⟨w.heap.size, 4, none⟩ (.string n))).heap[w.heap.size]? = some (.cells #[.int .i64 c, .int .i64 (1 + st), .int .i64 kd, .int .i64 0, .string n] 63 (0, 0)) := (blk_set (blk_set (blk_set (blk_set (blk_set A5.out 0 (.int .i64 c)) 1 (.int .i64 (1 + st))) 2 (.int .i64 kd)) 3 (.int .i64 0)) 4 (.string n))
    have GF : Hid (w.grownBy (((((w5.setCell ⟨w.heap.size, 0, none⟩ (.int .i64 c)).setCell ⟨w.heap.size, 1, none⟩ (.int .i64 (1 + st))).setCell ⟨w.heap.size, 2, none⟩ (.int .i64 kd)).setCell ⟨w.heap.size, 3, none⟩ (.int .i64 0)).setCell ⟨w.heap.size, 4, none⟩ (.string n)) (some p)) := (grown_new (grown_new (grown_new (grown_new (grown_new G5.out (Nat.le_refl _) 0 (.int .i64 c)) (Nat.le_refl _) 1 (.int .i64 (1 + st))) (Nat.le_refl _) 2 (.int .i64 kd)) (Nat.le_refl _) 3 (.int .i64 0)) (Nat.le_refl _) 4 (.string n))
    have SF : Hid (Src B (((((w5.setCell ⟨w.heap.size, 0, none⟩ (.int .i64 c)).setCell ⟨w.heap.size, 1, none⟩ (.int .i64 (1 + st))).setCell ⟨w.heap.size, 2, none⟩ (.int .i64 kd)).setCell ⟨w.heap.size, 3, none⟩ (.int .i64 0)).setCell ⟨w.heap.size, 4, none⟩ (.string n)) p xs (K + 5)) := (Src.set (Src.set (Src.set (Src.set (Src.set SZ.out (by omega) (by omega) 0 (.int .i64 c)) (by omega) (by omega) 1 (.int .i64 (1 + st))) (by omega) (by omega) 2 (.int .i64 kd)) (by omega) (by omega) 3 (.int .i64 0)) (by omega) (by omega) 4 (.string n))
    go_wp2_with fail
    generalize (((((w5.setCell ⟨w.heap.size, 0, none⟩ (.int .i64 c)).setCell ⟨w.heap.size, 1, none⟩ (.int .i64 (1 + st))).setCell ⟨w.heap.size, 2, none⟩ (.int .i64 kd)).setCell ⟨w.heap.size, 3, none⟩ (.int .i64 0)).setCell ⟨w.heap.size, 4, none⟩ (.string n)) = wf at AF GF SF ⊢
    have d0 := (blk_cell AF 0 (x := .int .i64 c) rfl).1
    have d1 := (blk_cell AF 1 (x := .int .i64 (1 + st)) rfl).1
    have d2 := (blk_cell AF 2 (x := .int .i64 kd) rfl).1
    have d3 := (blk_cell AF 3 (x := .int .i64 0) rfl).1
    have d4 := (blk_cell AF 4 (x := .string n) rfl).1
    exact bodyPost_ret (v := .agg #[.int .i64 c, .int .i64 (1 + st), .int .i64 kd, .int .i64 0, .string n]) (by simp [results, Tryz.results58, go_sem, d0, d1, d2, d3, d4]) rfl ⟨_, _, _, _, _, rfl, req_ok HC.out HT.out HL.out HO.out, SF.out, GF.out⟩
end Go.Proofs.YtmknnkhehkegcaaGreatDoor.Gn

/- Batches that the source draws. -/
namespace Go.Proofs.YtmknnkhehkegcaaGreatDoor.Gn
open Go.RowKit Go.Proofs.YtmknnkhehkegcaaGreatDoor.Sl Go.Proofs.YtmknnkhehkegcaaGreatDoor.By Go.Proofs.YtmknnkhehkegcaaGreatDoor.Ap Go.Proofs.YtmknnkhehkegcaaGreatDoor.Rq Go.Proofs.YtmknnkhehkegcaaGreatDoor.Rr Go.Proofs.YtmknnkhehkegcaaGreatDoor.Ty Go.Proofs.YtmknnkhehkegcaaGreatDoor.Gr Go.Proofs.YtmknnkhehkegcaaGreatDoor.Bo Go.Proofs.YtmknnkhehkegcaaGreatDoor.Tkb
open Go.Proofs.YtmknnkhehkegcaaGreatDoor.Rg (RowG RowG.slice RowG.at lt_at mem_at bel_new)

theorem sha_size (ys : List Int) : (strOfNums (Sh.sha ys)).size = 32 := by
  rw [strOfNums_size]
  show (Sh.outTo _ 8).length = 32
  rw [Sh.outTo_length]
/-- A hash of one byte: a text of 32 bytes. -/
theorem hash1_any (x : Int) (w : World) (h0 : 0 ≤ x ∧ x ≤ 255) (g : Nat) (hg : w.heap[g]? = some (.cells #[.int .u8 x] 5 (0, 0))) :
    Calls Tryz.prog 63 #[.slice (some ⟨g, 0, none⟩) 1 1] w fun e w' => ∃ s : ByteArray, e = .returned (.string s) ∧ s.size = 32 ∧ Below w.heap.size w w' := by
  have hr : RowB w (.slice (some ⟨g, 0, none⟩) 1 1) [x] := ⟨some ⟨g, 0, none⟩, 1, rfl, .inr ⟨g, 0, rfl, by simp, (Array.getElem?_eq_some_iff.1 hg).1, fun i hi => by
    obtain rfl : i = 0 := by simp at hi; exact hi
    exact (blk_cell hg 0 (x := .int .u8 x) rfl).1⟩, fun z hz => by simp at hz; subst hz; exact h0⟩
  refine (Sh.l01Hash_any _ [x] w hr (by simp)).mono ?_
  rintro e w' ⟨rfl, b⟩
  exact ⟨_, rfl, sha_size _, b⟩

/-- While a batch is drawn: its box x, the answer's box, the readings so far (in blocks from y on), the source. -/
structure Tc (w w' : World) (p B x y : Nat) (a1 a2 a3 a4 a5 : Value) (v : Value) (ms : List Rd) (xs : List Int) (K : Nat) : Prop where
  hx : w'.heap[x]? = some (.cells #[.bool false, a1, a2, a3, a4, a5, v] 66 (0, 0))
  ha : w'.heap[w.heap.size]? = some (.cells #[.bool false, .int .i64 0, .int .i64 0, .int .i64 0, .int .i64 0, .string ⟨#[]⟩, .slice none 0 0] 66 (0, 0))
  own : OwnR w' y v ms
  rd : Src B w' p xs K
  gr : w.grownBy w' (some p)
  lt : w.heap.size < x ∧ w.heap.size < y ∧ y ≤ x ∧ p < w.heap.size ∧ B ≤ p
theorem Tc.drew {w w' : World} {p B x y : Nat} {a1 a2 a3 a4 a5 v : Value} {ms : List Rd} {xs : List Int} {K : Nat} (h : Tc w w' p B x y a1 a2 a3 a4 a5 v ms xs K) : Tc w w'.drew p B x y a1 a2 a3 a4 a5 v ms xs K :=
  ⟨h.hx, h.ha, h.own, h.rd, ⟨h.gr.os, h.gr.tape, h.gr.output, h.gr.size, h.gr.block⟩, h.lt⟩
theorem Tc.grown {w w' w2 : World} {p B x y : Nat} {a1 a2 a3 a4 a5 v : Value} {ms : List Rd} {xs : List Int} {K K2 : Nat} (h : Tc w w' p B x y a1 a2 a3 a4 a5 v ms xs K) (hg : w'.grownBy w2 (some p)) (hr : Src B w2 p xs K2) : Tc w w2 p B x y a1 a2 a3 a4 a5 v ms xs K2 :=
  ⟨blk_kept h.hx hg (by have := h.lt; omega), blk_kept h.ha hg (by have := h.lt; omega), own_kept h.own hg (by have := h.lt; omega), hr, grown_trans h.gr hg, h.lt⟩
theorem Tc.below {w w' w2 : World} {p B x y : Nat} {a1 a2 a3 a4 a5 v : Value} {ms : List Rd} {xs : List Int} {K : Nat} (h : Tc w w' p B x y a1 a2 a3 a4 a5 v ms xs K) (hb : Below w'.heap.size w' w2) : Tc w w2 p B x y a1 a2 a3 a4 a5 v ms xs K :=
  h.grown ⟨hb.os, hb.tape, hb.output, hb.size, fun k hk _ => hb.block k hk⟩ (h.rd.kept (hb.block p h.rd.lt) (fun k hk => hb.block k (by have := h.rd.lt; have := h.lt; omega)))
theorem Tc.alloc {w w' : World} {p B x y : Nat} {a1 a2 a3 a4 a5 v : Value} {ms : List Rd} {xs : List Int} {K : Nat} (h : Tc w w' p B x y a1 a2 a3 a4 a5 v ms xs K) (o : Obj) : Tc w (w'.alloc o) p B x y a1 a2 a3 a4 a5 v ms xs K :=
  h.below (bel_new _ _)
theorem Tc.c6 {w w' : World} {p B x y : Nat} {a1 a2 a3 a4 a5 v : Value} {ms : List Rd} {xs : List Int} {K : Nat} (h : Tc w w' p B x y a1 a2 a3 a4 a5 v ms xs K) : w'.cell? ⟨x, 6, none⟩ = some v := (blk_cell h.hx 6 (x := v) rfl).1
structure Te (w w' : World) (p B x y : Nat) (a1 a2 a3 a4 a5 : Value) (v v' : Value) (ms : List Rd) (xs : List Int) (K : Nat) : Prop where
  hx : w'.heap[x]? = some (.cells #[.bool false, a1, a2, a3, a4, a5, v] 66 (0, 0))
  ha : w'.heap[w.heap.size]? = some (.cells #[.bool false, .int .i64 0, .int .i64 0, .int .i64 0, .int .i64 0, .string ⟨#[]⟩, .slice none 0 0] 66 (0, 0))
  own : OwnR w' y v' ms
  rd : Src B w' p xs K
  gr : w.grownBy w' (some p)
  lt : w.heap.size < x ∧ w.heap.size < y ∧ y ≤ x ∧ p < w.heap.size ∧ B ≤ p
theorem Te.c6 {w w' : World} {p B x y : Nat} {a1 a2 a3 a4 a5 v v' : Value} {ms : List Rd} {xs : List Int} {K : Nat} (h : Te w w' p B x y a1 a2 a3 a4 a5 v v' ms xs K) : w'.cell? ⟨x, 6, none⟩ = some v ∧ w'.frozen? ⟨x, 6, none⟩ = false := blk_cell h.hx 6 (x := v) rfl
theorem Te.set {w w' : World} {p B x y : Nat} {a1 a2 a3 a4 a5 v v' : Value} {ms : List Rd} {xs : List Int} {K : Nat} (h : Te w w' p B x y a1 a2 a3 a4 a5 v v' ms xs K) : Tc w (w'.setCell ⟨x, 6, none⟩ v') p B x y a1 a2 a3 a4 a5 v' ms xs K :=
  ⟨blk_set h.hx 6 v', (blk_far (by have := h.lt; omega) 6 v').trans h.ha, h.own.kept (fun g hg => blk_far (fun e => own_ne h.own h.hx (by rw [hg, e])) 6 v'), Src.set h.rd (by have := h.lt; omega) (by have := h.lt; omega) 6 v', grown_new h.gr (by have := h.lt; omega) 6 v', h.lt⟩
theorem step_tc {P : Program} {ops : Array Oper} {o : Oper} {a : Act} {K : Act → World → Prop} {Q : Exit → Act → World → Prop} {E : Prop} {i : TypeInfo} (hgd : o.guard = none) (s z : Operand) (t : TypeId) (ho : o.op = .call { callee := .builtin .append, args := #[s, z], argTypes := #[t, t] }) (ht : P.underlying t = some (.slice 105)) (hi : P.info? 105 = some i) (hz : i.zero = some (.agg #[.int .i64 0, .int .i64 0, .string ⟨#[]⟩]))
    (hsize : i.size = 3) (hby : i.bytes = 32) (W w : World) (p B x y : Nat) (a1 a2 a3 a4 a5 v : Value) (ms : List Rd) (xs : List Int) (K0 : Nat) (m : Rd) (hs : a.eval s = v) (gx : Nat) (hx : a.eval z = .slice (some ⟨gx, 0, none⟩) 1 1) (hbx : W.heap[gx]? = some (.cells #[.int .i64 m.f, .int .i64 m.x, .string m.m] 105 (0, 0)))
    (htb : Tc w W p B x y a1 a2 a3 a4 a5 v ms xs K0) (hlen : ms.length ≤ 1000000)
    (h : ∀ v' w', Te w w' p B x y a1 a2 a3 a4 a5 v v' (ms ++ [m]) xs K0 → K (a.put o.dst v') w') : if Region.wanted o (yielded ops a.tmps) = true then Oper.wp P o a W K Q else E := by
  have hw : Region.wanted o (yielded ops a.tmps) = true := by simp [Region.wanted, hgd]
  rw [if_pos hw]
  have hxl := (Array.getElem?_eq_some_iff.1 htb.hx).1
  obtain ⟨v', w', hr, h2, h3, _, h5⟩ := run_append_own_at (P := P) W y t o.type 105 i _ 3 32 ht hi hz hsize hby rfl (by decide) v ms.length _ htb.own ⟨gx, 0, none⟩ 1 1 (cl m) rfl (by
    intro j u hj
    have e2 : (⟨gx, 0, none⟩ : Addr).add j = ⟨gx, j, none⟩ := by unfold Addr.add; split <;> simp_all
    rw [e2, Joins.cell_of_block hbx, ← hj]
    simp [cl]) (cl_one m) (by unfold maxLen; omega) (by have := htb.lt; omega) (by have := htb.lt; omega)
  have far : ∀ k, k < y ∨ k = x → k < W.heap.size → w'.heap[k]? = W.heap[k]? := fun k hk hkl => h3.block k hkl (fun e => by
    rcases hk with hk | rfl
    · have := (htb.own.lt k e.symm).1; omega
    · exact own_ne htb.own htb.hx e)
  refine wp_app ho hs hx hr (h v' w' ⟨(far x (.inr rfl) hxl).trans htb.hx, (far _ (.inl (by have := htb.lt; omega)) (Nat.lt_of_lt_of_le htb.lt.1 (Nat.le_of_lt hxl))).trans htb.ha, by unfold OwnR; rw [List.flatMap_append, List.length_append]; simpa using h2, htb.rd.kept (far p (.inl (by have := htb.lt; omega)) htb.rd.lt) (fun k hk => far k (.inl (by have := htb.lt; omega)) (by have := htb.lt; have := htb.rd.lt; omega)), ⟨h3.os.trans htb.gr.os, h3.tape.trans htb.gr.tape, h3.output.trans htb.gr.output, Nat.le_trans htb.gr.size h3.size, fun k hk hn => (far k (.inl (by have := htb.lt; omega)) (Nat.lt_of_lt_of_le hk htb.gr.size)).trans (htb.gr.block k hk hn)⟩, htb.lt⟩)

theorem rOK_snoc (m : Rd) (hm : m.f ≤ 6 ∧ 0 ≤ m.x ∧ m.x ≤ 1000000000 ∧ m.m.size = 8) : ∀ (ms : List Rd) (l : Int), rOK l ms = true → (∀ x ∈ ms, x.f < m.f) → l ≤ m.f → rOK l (ms ++ [m]) = true
  | [], l, _, _, hl => by
    show (r1 l m && true) = true
    have h1 : inB m.f l 6 = true := decide_eq_true ⟨hl, hm.1⟩
    have h2 : inB m.x 0 1000000000 = true := decide_eq_true ⟨hm.2.1, hm.2.2.1⟩
    unfold r1
    rw [h1, h2, hm.2.2.2]
    rfl
  | y :: ys, l, h, hx, hl => by
    have h' : (r1 l y && rOK (y.f + 1) ys) = true := h
    rw [Bool.and_eq_true] at h'
    show (r1 l y && rOK (y.f + 1) (ys ++ [m])) = true
    rw [h'.1, rOK_snoc m hm ys (y.f + 1) h'.2 (fun x hx' => hx x (List.mem_cons_of_mem _ hx')) (by have := hx y (by simp); omega)]
    rfl

theorem own_set {w : World} {B b : Nat} {v : Value} {ms : List Rd} (h : OwnR w B v ms) (hb : b < B) (i : Nat) (x : Value) : OwnR (w.setCell ⟨b, i, none⟩ x) B v ms :=
  h.kept fun g hg => blk_far (by have := (h.lt g hg).1; omega) i x

theorem null_ok : bOK true 0 0 0 0 ⟨#[]⟩ [] = true := by
  have hz : zB 0 0 0 0 ⟨#[]⟩ = true := by unfold zB; simp
  show (zB 0 0 0 0 ⟨#[]⟩ && ((([] : List Rd).length : Int) == 0)) = true
  rw [hz]
  rfl
end Go.Proofs.YtmknnkhehkegcaaGreatDoor.Gn

/- Batches' bytes: the specification. -/
namespace Go.Proofs.YtmknnkhehkegcaaGreatDoor.Bt
open Go.RowKit Go.Proofs.YtmknnkhehkegcaaGreatDoor.Sl Go.Proofs.YtmknnkhehkegcaaGreatDoor.By Go.Proofs.YtmknnkhehkegcaaGreatDoor.Rg Go.Proofs.YtmknnkhehkegcaaGreatDoor.Gr Go.Proofs.YtmknnkhehkegcaaGreatDoor.Rq Go.Proofs.YtmknnkhehkegcaaGreatDoor.Ap Go.Proofs.YtmknnkhehkegcaaGreatDoor.Pu Go.Proofs.YtmknnkhehkegcaaGreatDoor.Rp Go.Proofs.YtmknnkhehkegcaaGreatDoor.Bo

theorem kdrew {w w1 : World} {v v1 : Value} (h : Kp w w1 v v1) : Kp w w1.drew v v1 := ⟨h.os, h.tape, h.output, h.size, h.block, h.away⟩
theorem ble {B : Nat} {w w1 : World} {v v1 : Value} (hB : B ≤ w.heap.size) (h : Kp w w1 v v1) : B ≤ w1.heap.size := Nat.le_trans hB h.size
theorem num4 (x : Int) (w : World) : Calls Tryz.prog 67 #[.int .i64 x, .int .i64 4] w fun e w' => ∃ v', e = .returned v' ∧ OwnB 5 w' w.heap.size v' (nums x 4 4) ∧ Below w.heap.size w w' := l02Number_any x 4 w (by decide)
theorem call_all {e : TypeId} {B : Nat} {w0 X wn : World} {v0 v : Value} {zs : List Int} (bn : Below X.heap.size X wn) (o : OwnB e X B v zs) (k : Kp w0 X v0 v) : OwnB e wn B v zs ∧ Kp w0 wn v0 v ∧ ∀ g, v.ownBlock = some g → g < X.heap.size := ⟨own_below o bn, k.trans (Kp.of_below _ bn), own_lt o⟩
theorem one_num {x : Int} (h : 0 ≤ x ∧ x ≤ 255) : [x] = nums x 1 1 := by simp [nums, nb]; omega
theorem wrap1 (x : Int) : [IntKind.u8.wrap x] = nums x 1 1 := by simp [nums, nb, IntKind.wrap_u8]
set_option maxRecDepth 100000 in
set_option maxHeartbeats 800000 in
theorem l02Batch_null (c st k l : Int) (n : ByteArray) (vr : Value) (rs : List Rd) (w : World) (h : Row w vr rs) :
    Calls Tryz.prog 57 #[batV true c st k l n vr] w fun e w' => ∃ v, e = .returned v ∧ OwnB 5 w' w.heap.size v (batBs true c st k l n rs) ∧ Below w.heap.size w w' := by
  obtain ⟨a, cap, rfl⟩ := RowG.slice h
  clear h
  unfold batV
  have HO : Hid (batBs true c st k l n rs = [0]) := rfl
  have HB : Hid (Below w.heap.size w (w.alloc (.cells #[.bool true, .int .i64 c, .int .i64 st, .int .i64 k, .int .i64 l, .string n, .slice a rs.length cap] 66))) := bel_new _ _
  go_enter Tryz.func57, Tryz.ntmps57
  go_wp2_with fail
  go_ret
  refine ⟨_, rfl, ?_, HB.out.alloc HB.out.size _⟩
  rw [HO.out]
  have hw := own_lit 5 (w.alloc (.cells #[.bool true, .int .i64 c, .int .i64 st, .int .i64 k, .int .i64 l, .string n, .slice a rs.length cap] 66)) w.heap.size [0] 1 rfl HB.out.size (by decide)
  rw [Rg.size_new] at hw
  exact hw
set_option maxRecDepth 100000 in
set_option maxHeartbeats 6400000 in
theorem l02Batch_any (nl : Bool) (c st k l : Int) (n : ByteArray) (vr : Value) (rs : List Rd) (w : World) (h : Row w vr rs) (hl : rs.length ≤ 7) (hm8 : ∀ x ∈ rs, x.m.size = 8) (hn : n.size ≤ 12) :
    Calls Tryz.prog 57 #[batV nl c st k l n vr] w fun e w' => ∃ v, e = .returned v ∧ OwnB 5 w' w.heap.size v (batBs nl c st k l n rs) ∧ Below w.heap.size w w' := by
  obtain ⟨i0, hi, hz0, hz1, hz2⟩ := info_parts Sl.info5
  have HR : Hid (Row w vr rs) := h
  obtain ⟨a, cap, rfl⟩ := RowG.slice h
  clear h
  have HM : Hid (∀ x ∈ rs, x.m.size = 8) := hm8
  clear hm8
  unfold batV
  cases nl with
  | true =>
    have HO : Hid (batBs true c st k l n rs = [0]) := rfl
    have HB : Hid (Below w.heap.size w (w.alloc (.cells #[.bool true, .int .i64 c, .int .i64 st, .int .i64 k, .int .i64 l, .string n, .slice a rs.length cap] 66))) := bel_new _ _
    go_enter Tryz.func57, Tryz.ntmps57
    go_wp2_with fail
    go_ret
    refine ⟨_, rfl, ?_, HB.out.alloc HB.out.size _⟩
    rw [HO.out]
    have hw := own_lit 5 (w.alloc (.cells #[.bool true, .int .i64 c, .int .i64 st, .int .i64 k, .int .i64 l, .string n, .slice a rs.length cap] 66)) w.heap.size [0] 1 rfl HB.out.size (by decide)
    rw [Rg.size_new] at hw
    exact hw
  | false =>
    have HO : Hid (batBs false c st k l n rs = nums ((rs.length : Int) + 1) 1 1 ++ rsBs rs ++ reqBs c st k l n) := rfl
    have HX : Hid (∀ W, Below (w.alloc (.cells #[.bool false, .int .i64 c, .int .i64 st, .int .i64 k, .int .i64 l, .string n, .slice a rs.length cap] 66)).heap.size (w.alloc (.cells #[.bool false, .int .i64 c, .int .i64 st, .int .i64 k, .int .i64 l, .string n, .slice a rs.length cap] 66)) W → ((W.cell? ⟨w.heap.size, 1, none⟩ = some (.int .i64 c) ∧ W.cell? ⟨w.heap.size, 2, none⟩ = some (.int .i64 st) ∧ W.cell? ⟨w.heap.size, 3, none⟩ = some (.int .i64 k) ∧ W.cell? ⟨w.heap.size, 4, none⟩ = some (.int .i64 l) ∧ W.cell? ⟨w.heap.size, 5, none⟩ = some (.string n) ∧ W.cell? ⟨w.heap.size, 6, none⟩ = some (.slice a rs.length cap)) ∧ Row W (.slice a rs.length cap) rs ∧ Below w.heap.size w W)) := fun W hW => by
      obtain ⟨_, q1, q2, q3, q4, q5, q6, b0⟩ := bat_box hW
      exact ⟨⟨q1, q2, q3, q4, q5, q6⟩, HR.out.below b0, b0⟩
    have hlr : (0 : Int) ≤ (rs.length : Int) + 1 ∧ (rs.length : Int) + 1 ≤ 255 := by omega
    have hl1 : (1 : Int) + (rs.length : Int) = (rs.length : Int) + 1 := by omega
    have HN1 : Hid (OwnB 5 ((w.alloc (.cells #[.bool false, .int .i64 c, .int .i64 st, .int .i64 k, .int .i64 l, .string n, .slice a rs.length cap] 66)).alloc (.cells #[.int .u8 ((rs.length : Int) + 1)] 5)) (w.alloc (.cells #[.bool false, .int .i64 c, .int .i64 st, .int .i64 k, .int .i64 l, .string n, .slice a rs.length cap] 66)).heap.size (.slice (some ⟨(w.alloc (.cells #[.bool false, .int .i64 c, .int .i64 st, .int .i64 k, .int .i64 l, .string n, .slice a rs.length cap] 66)).heap.size, 0, none⟩) 1 1) (nums ((rs.length : Int) + 1) 1 1) ∧ Below (w.alloc (.cells #[.bool false, .int .i64 c, .int .i64 st, .int .i64 k, .int .i64 l, .string n, .slice a rs.length cap] 66)).heap.size (w.alloc (.cells #[.bool false, .int .i64 c, .int .i64 st, .int .i64 k, .int .i64 l, .string n, .slice a rs.length cap] 66)) ((w.alloc (.cells #[.bool false, .int .i64 c, .int .i64 st, .int .i64 k, .int .i64 l, .string n, .slice a rs.length cap] 66)).alloc (.cells #[.int .u8 ((rs.length : Int) + 1)] 5))) := ⟨by rw [← one_num hlr]; exact own_one 5 _ _ _ (Nat.le_refl _), bel_new _ _⟩
    have hwrap : ((rs.length : Int) + 1) % 256 = (rs.length : Int) + 1 := by omega
    have hwrap2 : ((1 : Int) + (rs.length : Int)) % 256 = (rs.length : Int) + 1 := by omega
    go_enter Tryz.func57, Tryz.ntmps57
    go_upto_region 1 with fail
    have HWS : Hid (w.heap.size ≤ (w.alloc (.cells #[.bool false, .int .i64 c, .int .i64 st, .int .i64 k, .int .i64 l, .string n, .slice a rs.length cap] 66)).heap.size) := by show _ ≤ _; simp
    generalize HWB : w.alloc (.cells #[.bool false, .int .i64 c, .int .i64 st, .int .i64 k, .int .i64 l, .string n, .slice a rs.length cap] 66) = wb at HX HN1 HWS ⊢
    obtain ⟨⟨_, _, _, _, _, q6⟩, _, _⟩ := HX.out wb (Below.refl _ _)
    have q0 : wb.cell? ⟨w.heap.size, 0, none⟩ = some (.bool false) := by rw [← HWB]; exact (bat_box (Below.refl _ _)).1
    clear HWB
    obtain ⟨bx, HBX⟩ : ∃ bx, Hid (w.heap.size = bx) := ⟨_, rfl⟩
    rw [HBX.out] at HX q6 q0 ⊢
    obtain ⟨B, HB⟩ : ∃ B, Hid (wb.heap.size = B) := ⟨_, rfl⟩
    rw [HB.out] at HX HN1
    have HBL : Hid (B ≤ wb.heap.size) := Nat.le_of_eq HB.out.symm
    go_wp2_with fail
    clear q0 q6
    rw [HB.out]
    go_loopw [3, 4] (fun b i wr => ∃ m : Nat, m ≤ rs.length ∧ i = .int .i64 m ∧ Hid (OwnB 5 wr B b (nums ((rs.length : Int) + 1) 1 1 ++ rsBs (rs.take m)) ∧ Below B wb wr)) (fun _ i _ => rs.length - (intOf i).toNat)
    case atStart => exact ⟨0, by omega, rfl, ⟨by simpa [rsBs] using HN1.out.1, HN1.out.2⟩⟩
    case round =>
      clear HN1
      rename World => wi
      obtain ⟨m, hm, rfl, HM2⟩ := hrel
      obtain ⟨v0, rfl⟩ : ∃ v0, v0 = u3 := ⟨_, rfl⟩
      obtain ⟨⟨q1, q2, q3, q4, q5, q6⟩, hrow, hbw⟩ := HX.out wi HM2.out.2
      have HLN : Hid ((nums ((rs.length : Int) + 1) 1 1 ++ rsBs (rs.take m)).length ≤ 1000) := by
        show _ ≤ _
        rw [List.length_append, nums_length, rsBs_len _ (fun x hx => HM.out x (List.mem_of_mem_take hx)), List.length_take]
        omega
      by_cases hlt : m < rs.length
      · obtain ⟨x, hx⟩ := Rg.get_at hlt
        obtain ⟨b2, off2, rfl, hbl, c0, c1, c2⟩ := RowG.at hrow rfl hx
        have HT : Hid (rsBs (rs.take (m + 1)) = rsBs (rs.take m) ++ rdBs x) := rs_step hx
        have HX8 : Hid (x.m.size = 8) := HM.out x (mem_at hx)
        have HL2 : Hid (∀ W v', Kp wi W v0 v' → (W.cell? ⟨bx, 6, none⟩ = some (.slice (some ⟨b2, off2, none⟩) rs.length cap) ∧ W.cell? ⟨b2, off2 + m * 3, none⟩ = some (.int .i64 x.f) ∧ W.cell? ⟨b2, off2 + m * 3 + 1, none⟩ = some (.int .i64 x.x) ∧ W.cell? ⟨b2, off2 + m * 3 + 2, none⟩ = some (.string x.m)) ∧ Below B wb W) := fun W v' h => by
          have h2 := HM2.out.2.trans (h.below HM2.out.1 (Nat.le_trans HBL.out HM2.out.2.size))
          obtain ⟨⟨_, _, _, _, _, p6⟩, pr, _⟩ := HX.out W h2
          obtain ⟨b', off', e, _, d0, d1, d2⟩ := RowG.at pr rfl hx
          cases e
          exact ⟨⟨p6, d0, d1, d2⟩, h2⟩
        obtain ⟨zs, HZS⟩ : ∃ zs, Hid (nums ((rs.length : Int) + 1) 1 1 ++ rsBs (rs.take m) = zs) := ⟨_, rfl⟩
        rw [HZS.out] at HM2 HLN
        have o1 := HM2.out.1
        have k1 := Kp.refl wi v0
        have HB0 : Hid (B ≤ wi.heap.size) := Nat.le_trans HBL.out HM2.out.2.size
        have l1 : (0 : Int) ≤ (m : Int) := by omega
        have l2 : (m : Int) < (rs.length : Int) := by omega
        clear hx hrow hbw q1 q2 q3 q4 q5
        go_upto_region 7 with fail
        clear c0 c1 c2 q6
        go_cut [3] (fun s3 wx => OwnB 5 wx B s3 (zs ++ nums x.f 1 1 ++ nums x.x 4 4) ∧ Kp wi wx v0 s3)
        case first =>
          go_region_held_law (fun W => W.cell? ⟨bx, 6, none⟩ = some (.slice (some ⟨b2, off2, none⟩) rs.length cap) ∧ W.cell? ⟨b2, off2 + m * 3, none⟩ = some (.int .i64 x.f) ∧ W.cell? ⟨b2, off2 + m * 3 + 1, none⟩ = some (.int .i64 x.x) ∧ W.cell? ⟨b2, off2 + m * 3 + 2, none⟩ = some (.string x.m)) (first | exact (HL2.out _ _ (by first | assumption | exact kdrew (by assumption) | exact Kp.alloc (by assumption) _ | exact kdrew (Kp.alloc (by assumption) _) | exact Kp.alloc (kdrew (by assumption)) _)).1)
            (first
              | (go_simp; go_at_call 67; (with_reducible refine (num4 (x.x) _).mono ?_); rintro e wn ⟨vnf1, rfl, f1, bn⟩; obtain ⟨on, kn, h1⟩ := call_all bn (by first | assumption | exact own_drew (by assumption) | exact own_alloc (by assumption) _ | exact own_drew (own_alloc (by assumption) _) | exact own_alloc (own_drew (by assumption)) _) (by first | assumption | exact kdrew (by assumption) | exact Kp.alloc (by assumption) _ | exact kdrew (Kp.alloc (by assumption) _) | exact Kp.alloc (kdrew (by assumption)) _); (first | (have fb := own_below (own_one 5 _ _ _ (Nat.le_refl _)) bn; have hb := own_lt o1) | (have fb := own_below (own_drew (own_one 5 _ _ _ (Nat.le_refl _))) bn; have hb := own_lt o1) | skip); clear bn; try go_simp)
              | (refine step_row (by rfl) _ _ 22 (by rfl) Tryz.underlying22 hi hz0 hz1 hz2 B _ _ _ _ _ (by rfl) (by rfl) (by first | assumption | exact own_drew (by assumption) | exact own_alloc (by assumption) _ | exact own_drew (own_alloc (by assumption) _) | exact own_alloc (own_drew (by assumption)) _) (ble HB0.out (by first | assumption | exact kdrew (by assumption) | exact Kp.alloc (by assumption) _ | exact kdrew (Kp.alloc (by assumption) _) | exact Kp.alloc (kdrew (by assumption)) _)) (by first | exact own_rowB fb (one_range (wrap_range _)) | exact own_rowB (own_one 5 _ _ _ (Nat.le_refl _)) (one_range (wrap_range _)) | exact rowB_drew (own_rowB (own_one 5 _ _ _ (Nat.le_refl _)) (one_range (wrap_range _))) | exact own_rowB (own_drew (own_one 5 _ _ _ (Nat.le_refl _))) (one_range (wrap_range _))) (by have := HLN.out; first | (simp; omega) | (simp [nums_length]; omega)) ?_; intro v8 w8 o8 k8x; have k8 := Kp.trans (by first | assumption | exact kdrew (by assumption) | exact Kp.alloc (by assumption) _ | exact kdrew (Kp.alloc (by assumption) _) | exact Kp.alloc (kdrew (by assumption)) _) k8x; (first | (have f1 := own_kp f1 k8x h1) | (have f1 := own_kp (own_alloc f1 _) k8x h1) | skip); try go_simp)
              | (refine step_row (by rfl) _ _ 22 (by rfl) Tryz.underlying22 hi hz0 hz1 hz2 B _ _ _ _ _ (by rfl) (by rfl) (by first | assumption | exact own_drew (by assumption) | exact own_alloc (by assumption) _ | exact own_drew (own_alloc (by assumption) _) | exact own_alloc (own_drew (by assumption)) _) (ble HB0.out (by first | assumption | exact kdrew (by assumption) | exact Kp.alloc (by assumption) _ | exact kdrew (Kp.alloc (by assumption) _) | exact Kp.alloc (kdrew (by assumption)) _)) (by first | exact own_rowB f1 (nums_range _ _ _) | exact own_rowB (own_alloc f1 _) (nums_range _ _ _)) (by have := HLN.out; first | (simp; omega) | (simp [nums_length]; omega)) ?_; intro v9 w9 o9 k9x; have k9 := Kp.trans (by first | assumption | exact kdrew (by assumption) | exact Kp.alloc (by assumption) _ | exact kdrew (Kp.alloc (by assumption) _) | exact Kp.alloc (kdrew (by assumption)) _) k9x; try go_simp))
          all_goals
            rw [wrap1] at o9
            go_wp2_with fail
            go_meet
            exact ⟨o9, k9⟩
        case rest =>
        clear o1 k1
        obtain ⟨o1, k1⟩ := hcut
        obtain ⟨w1, rfl⟩ : ∃ w1, w1 = wc := ⟨_, rfl⟩
        obtain ⟨v1, rfl⟩ : ∃ v1, v1 = u3 := ⟨_, rfl⟩
        obtain ⟨⟨p6, p0, p1, p2⟩, pb⟩ := HL2.out _ _ k1
        have HLS : Hid ((zs ++ nums x.f 1 1 ++ nums x.x 4 4).length + x.m.size ≤ 140737488355328) := by show _ ≤ _; simp only [List.length_append, nums_length]; have := HLN.out; have := HX8.out; omega
        have O1 : Hid (OwnB 5 w1 B v1 (zs ++ nums x.f 1 1 ++ nums x.x 4 4) ∧ Kp wi w1 v0 v1 ∧ B ≤ w1.heap.size) := ⟨o1, k1, Nat.le_trans HB0.out k1.size⟩
        clear o1 k1 pb
        go_wp2_with (at_builtin; go_must (refine list_str (by rfl) _ _ 22 9 (by rfl) Tryz.underlying22 Tryz.underlying9 hi hz0 hz1 hz2 B _ _ x.m _ (by rfl) (by rfl) O1.out.1 O1.out.2.2 HLS.out ?_; intro v5 w5 o5 k5))
        have O5 : Hid (OwnB 5 w5 B v5 (nums ((rs.length : Int) + 1) 1 1 ++ rsBs (rs.take (m + 1))) ∧ Below B wb w5) := ⟨by rw [HT.out, ← List.append_assoc, HZS.out]; unfold rdBs; simpa [List.append_assoc] using o5, (HL2.out _ _ (O1.out.2.1.trans k5)).2⟩
        exact ⟨⟨m + 1, by omega, by go_num, O5⟩, by simp [intOf]; omega⟩
      · obtain rfl : m = rs.length := by omega
        rw [List.take_length] at HM2 HLN
        clear hrow
        have HBW : Hid (Below bx w wi) := hbw
        clear hbw
        go_wp2_with fail
        refine (l02Request_any c st k l n wi (by omega)).mono ?_
        rintro e w3 ⟨v3, rfl, o3, b3⟩
        have b4 := box_old b3
        have O3 : Hid (OwnB 5 w3 B v0 (nums ((rs.length : Int) + 1) 1 1 ++ rsBs rs) ∧ B ≤ w3.heap.size ∧ RowB w3 v3 (reqBs c st k l n) ∧ Below bx w w3) := ⟨own_below HM2.out.1 b4, Nat.le_trans (Nat.le_trans HBL.out HM2.out.2.size) b4.size, own_rowB o3 (reqBs_range _ _ _ _ _), HBW.out.trans (b4.mono (by rw [← HBX.out]; exact (by rw [HBX.out]; exact HBW.out : Below w.heap.size w wi).size))⟩
        have HLE : Hid ((nums ((rs.length : Int) + 1) 1 1 ++ rsBs rs).length + (reqBs c st k l n).length ≤ 140737488355328) := by show _ ≤ _; have := HLN.out; rw [reqBs_length]; omega
        have HBB : Hid (bx ≤ B) := by show _ ≤ _; rw [← HBX.out, ← HB.out]; exact HWS.out
        clear o3 b3 b4 q1 q2 q3 q4 q5 q6
        go_wp2_with (at_builtin; go_must (refine list_row (by rfl) _ _ 22 (by rfl) Tryz.underlying22 hi hz0 hz1 hz2 B _ _ _ _ _ (by rfl) (by rfl) O3.out.1 O3.out.2.1 O3.out.2.2.1 HLE.out ?_; intro v5 w5 o5 k5))
        go_ret
        rw [HO.out, HBX.out]
        exact ⟨_, rfl, own_le o5 HBB.out, O3.out.2.2.2.trans ((k5.below O3.out.1 O3.out.2.1).mono HBB.out)⟩
end Go.Proofs.YtmknnkhehkegcaaGreatDoor.Bt

/- Messages that the source draws. -/
namespace Go.Proofs.YtmknnkhehkegcaaGreatDoor.Gn
open Go.RowKit Go.Proofs.YtmknnkhehkegcaaGreatDoor.Sl Go.Proofs.YtmknnkhehkegcaaGreatDoor.By Go.Proofs.YtmknnkhehkegcaaGreatDoor.Ap Go.Proofs.YtmknnkhehkegcaaGreatDoor.Rq Go.Proofs.YtmknnkhehkegcaaGreatDoor.Rr Go.Proofs.YtmknnkhehkegcaaGreatDoor.Ty Go.Proofs.YtmknnkhehkegcaaGreatDoor.Gr Go.Proofs.YtmknnkhehkegcaaGreatDoor.Bo Go.Proofs.YtmknnkhehkegcaaGreatDoor.Tkb Go.Proofs.YtmknnkhehkegcaaGreatDoor.Bt Go.Proofs.YtmknnkhehkegcaaGreatDoor.Lb Go.Proofs.YtmknnkhehkegcaaGreatDoor.Ms Go.Proofs.YtmknnkhehkegcaaGreatDoor.Pu Go.Proofs.YtmknnkhehkegcaaGreatDoor.Rp
open Go.Proofs.YtmknnkhehkegcaaGreatDoor.Rg (RowG RowG.slice RowG.at lt_at mem_at bel_new)

theorem Src.below {B p K : Nat} {w w' : World} {xs : List Int} (h : Src B w p xs K) (hB : B ≤ p) (hb : Below w.heap.size w w') : Src B w' p xs K :=
  h.kept (hb.block p h.lt) (fun k hk => hb.block k (by have := h.lt; omega))
theorem grown_below {w w1 w2 : World} {r : Option Nat} (h : w.grownBy w1 r) (hb : Below w1.heap.size w1 w2) : w.grownBy w2 r :=
  grown_trans h ⟨hb.os, hb.tape, hb.output, hb.size, fun k hk _ => hb.block k hk⟩
def l12 : List ByteArray := [⟨#[111, 110, 101]⟩, ⟨#[116, 119, 111]⟩]
theorem l12_len : ∀ k, k ≤ l12.length → lenTo l12 k ≤ 65536 := by
  intro k hk
  match k, hk with
  | 0, _ => decide
  | 1, _ => decide
  | 2, _ => decide
theorem l12_size : (strOfNums (listTo l12 l12.length)).size ≤ 20000 := by
  rw [strOfNums_size, listTo_length]; decide
theorem bat_size {nl : Bool} {c st k l : Int} {n : ByteArray} {rs : List Rd} (h : bOK nl c st k l n rs = true) : 0 < (strOfNums (batBs nl c st k l n rs)).size ∧ (strOfNums (batBs nl c st k l n rs)).size ≤ 20000 := by
  rw [strOfNums_size]
  cases nl with
  | true => exact ⟨(by show 0 < 1; decide), (by show 1 ≤ 20000; decide)⟩
  | false =>
    obtain ⟨h12, h7, h8, _, _⟩ := bOK_parts h
    have e : (batBs false c st k l n rs).length = 1 + 13 * rs.length + (7 + n.size) := by
      show (nums ((rs.length : Int) + 1) 1 1 ++ rsBs rs ++ reqBs c st k l n).length = _
      rw [List.length_append, List.length_append, nums_length, rsBs_len rs h8, reqBs_length]
    rw [e]
    omega
theorem bat_use {nl : Bool} {c st k l : Int} {n : ByteArray} {rs : List Rd} (h : bOK nl c st k l n rs = true) (hz : nl = true → c = 0 ∧ st = 0 ∧ k = 0 ∧ l = 0 ∧ n = ⟨#[]⟩ ∧ rs = []) : rs.length ≤ 7 ∧ (∀ x ∈ rs, x.m.size = 8) ∧ n.size ≤ 12 := by
  cases nl with
  | true => obtain ⟨_, _, _, _, rfl, rfl⟩ := hz rfl; exact ⟨by decide, (fun x hx => by cases hx), by decide⟩
  | false => obtain ⟨h12, h7, h8, _, _⟩ := bOK_parts h; exact ⟨h7, h8, h12⟩
theorem not_empty {s : ByteArray} (h : 0 < s.size) : (!s.toList.isEmpty) = true := by rw [Mp.empty_size, decide_eq_false (by omega)]; rfl
theorem msg_ok {kd vw sq fr : Int} {dg bd mc : ByteArray} (h1 : 0 ≤ vw ∧ vw ≤ 20) (h2 : 0 ≤ fr ∧ fr ≤ 6) (h3 : mc.size = 8) (h4 : bd.size ≤ 20000) (h5 : kindB kd sq dg bd = true) : msgB kd vw sq fr dg bd mc = true := by
  have e1 : inB vw 0 20 = true := decide_eq_true h1
  have e2 : inB fr 0 6 = true := decide_eq_true h2
  have e4 : decide ((bd.size : Int) ≤ 20000) = true := decide_eq_true (by omega)
  unfold msgB
  rw [e1, e2, h3, e4, h5]
  rfl
theorem place_ok {sq : Nat} {dg : ByteArray} (h1 : sq < 4) (h2 : dg.size = 32) : placeB (1 + (sq : Int)) dg = true := by
  have e1 : inB (1 + (sq : Int)) 1 8 = true := decide_eq_true ⟨by omega, by omega⟩
  unfold placeB
  rw [e1, h2]
  rfl
end Go.Proofs.YtmknnkhehkegcaaGreatDoor.Gn
