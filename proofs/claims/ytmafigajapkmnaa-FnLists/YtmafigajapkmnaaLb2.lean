/- A list's bytes: the specification's ListBytes. -/
import Derived.Test.YtmafigajapkmnaaLb
namespace Go.Proofs.Ytmafigajapkmnaa.Lb
open Go.RowKit Go.Proofs.Ytmafigajapkmnaa.Sl Go.Proofs.Ytmafigajapkmnaa.By Go.Proofs.Ytmafigajapkmnaa.Rq Go.Proofs.Ytmafigajapkmnaa.Ap Go.Proofs.Ytmafigajapkmnaa.Pu Go.Proofs.Ytmafigajapkmnaa.Tx Go.Proofs.Ytmafigajapkmnaa.Rp Go.Proofs.Ytmafigajapkmnaa.Rr

set_option maxRecDepth 100000 in
set_option maxHeartbeats 1600000 in
theorem l02List_any (v : Value) (ts : List ByteArray) (w : World) (h : RowT w v ts) (hl : ts.length ≤ 100) (hf : ∀ k, k ≤ ts.length → lenTo ts k ≤ 65536) :
    Calls Try.prog 86 #[v] w fun e w' => ∃ v', e = .returned v' ∧ OwnB 5 w' w.heap.size v' (listTo ts ts.length) ∧ Below w.heap.size w w' := by
  obtain ⟨i0, hi, hz0, hz1, hz2⟩ := info_parts Sl.info5
  obtain ⟨a, cap, rfl, h⟩ := h
  have HF : Hid (∀ k, k ≤ ts.length → lenTo ts k ≤ 65536) := hf
  have hl' : (ts.length : Int) ≤ 100 := by omega
  clear hf
  go_enter Try.func86, Try.ntmps86
  go_wp2_with fail
  go_loopw [3, 4] (fun b i wr => ∃ k : Nat, k ≤ ts.length ∧ i = .int .i64 k ∧ OwnB 5 wr w.heap.size b (listTo ts k) ∧ Below w.heap.size w wr) (fun _ i _ => ts.length - (intOf i).toNat)
  case atStart =>
    refine ⟨0, by omega, rfl, ?_, (Below.refl _ _).alloc (Nat.le_refl _) _⟩
    have := own_one 5 w w.heap.size (ts.length : Int) (Nat.le_refl _)
    have e : listTo ts 0 = [(ts.length : Int)] := by simp [listTo, nums, nb]; omega
    rw [e]
    exact this
  case round =>
    obtain ⟨k, hk, rfl, ho, hbel⟩ := hrel
    have hB := hbel.size
    by_cases hlt : k < ts.length
    · rcases h with h | ⟨b, off, rfl, hc, hb, hcell⟩
      · exact absurd hlt (by rw [h]; simp)
      have hp0 : (0 : Int) ≤ (k : Int) := by omega
      have hp1 : (k : Int) < (ts.length : Int) := by omega
      have HC : Hid (∀ W, Below w.heap.size w W → W.cell? ⟨b, off + k, none⟩ = some (.string (tnth ts k))) := fun W hW => (hW.cell (p := ⟨b, off + k, none⟩) hb).trans (hcell k hlt)
      have hc1 := HC.out wr hbel
      have HL0 : Hid ((listTo ts k).length = lenTo ts k) := listTo_length ts k
      have HLT : Hid (listTo ts (k + 1) = listTo ts k ++ (nums ((tnth ts k).size : Int) 2 2 ++ bys (tnth ts k))) := rfl
      have HLL : Hid (lenTo ts k + (2 + (tnth ts k).size) ≤ 65536) := HF.out (k + 1) hlt
      have HW : Hid (∀ g, u3.ownBlock = some g → g < wr.heap.size) := own_lt ho
      clear hcell
      generalize tnth ts k = t at hc1 HC HLT HLL
      go_wp2_with fail
      go_region_law (first
        | (go_simp; go_at_call 97; refine (l02Number_any (t.size : Int) 2 _ (by decide)).mono ?_; rintro e w3 ⟨v3, rfl, o3, b3⟩; with_reducible (have hA := ordB2 ho hbel hB b3); obtain ⟨f15, g3, B3⟩ := hA; have r21 := own_rowB o3 (nums_range _ _ _); have y1 := HC.out w3 g3; clear o3 b3; try go_simp)
        | (refine step_row (by rfl) _ _ 29 (by rfl) Try.underlying29 hi hz0 hz1 hz2 w.heap.size _ _ _ _ _ (by rfl) (by rfl) f15 B3 r21 (by rw [HL0.out, nums_length]; have := HLL.out; omega) ?_; intro v2 w2 o2 k2; have g2 := g3.trans (k2.below f15 B3); have B2 : w.heap.size ≤ w2.heap.size := Nat.le_trans B3 k2.size; have x1 := HC.out w2 g2)
        | (refine step_str (by rfl) _ _ 29 9 (by rfl) Try.underlying29 Try.underlying9 hi hz0 hz1 hz2 w.heap.size _ _ t _ (by rfl) (by rfl) o2 B2 (by rw [List.length_append, HL0.out, nums_length]; have := HLL.out; omega) ?_; intro v5 w5 o5 k5; have g5 := g2.trans (k5.below o2 B2)))
      all_goals
        rw [List.append_assoc, ← HLT.out] at o5
        go_wp2_with fail
        exact ⟨⟨k + 1, by omega, by go_num, o5, g5⟩, by simp [intOf]; omega⟩
    · obtain rfl : k = ts.length := by omega
      go_wp2
      go_ret
      exact ⟨_, rfl, ho, hbel⟩

theorem own_none (w w1 : World) (hb : Below w.heap.size w w1) : OwnB 5 (w1.alloc (.cells #[] 5)) w.heap.size (.slice (some ⟨w1.heap.size, 0, none⟩) 0 0) [] := own_made _ _ _ _ _ hb.size (by simp [maxLen]) rfl
set_option maxRecDepth 100000 in
set_option maxHeartbeats 1600000 in
theorem specListBytes_any (v : Value) (ts : List ByteArray) (w : World) (h : RowT w v ts) (hl : ts.length ≤ 1048576) (hs : ∀ i, i < ts.length → (tnth ts i).size ≤ 1048576) :
    Calls Try.prog 47 #[v] w fun e w' => ∃ v', e = .returned (.tuple #[v', .int .i64 (lbCode ts)]) ∧ OwnB 5 w' w.heap.size v' (lbOut ts) ∧ Below w.heap.size w w' := by
  have HR : Hid (RowT w v ts) := h
  obtain ⟨a, cap, rfl, h⟩ := h
  by_cases h1 : 4096 < ts.length
  · have h1' : (4096 : Int) < (ts.length : Int) := by omega
    have HC : Hid (lbCode ts = 2) := if_pos h1
    have HO : Hid (lbOut ts = []) := by show _ = _; unfold lbOut; rw [HC.out]; rfl
    go_enter Try.func47, Try.ntmps47
    go_wp2
    go_ret2
    exact ⟨_, ret_tup HC.out.symm, by rw [HO.out]; exact own_none w w (Below.refl _ _), (Below.refl _ _).alloc (Nat.le_refl _) _⟩
  have h1' : (ts.length : Int) ≤ 4096 := by omega
  by_cases h2 : 100 < ts.length
  · have h2' : (100 : Int) < (ts.length : Int) := by omega
    have HC : Hid (lbCode ts = 1) := by show _ = _; unfold lbCode; rw [if_neg h1, if_pos h2]
    have HO : Hid (lbOut ts = []) := by show _ = _; unfold lbOut; rw [HC.out]; rfl
    go_enter Try.func47, Try.ntmps47
    go_wp2
    go_ret2
    exact ⟨_, ret_tup HC.out.symm, by rw [HO.out]; exact own_none w w (Below.refl _ _), (Below.refl _ _).alloc (Nat.le_refl _) _⟩
  have h2' : (ts.length : Int) ≤ 100 := by omega
  have HS : Hid (∀ i, i < ts.length → (tnth ts i).size ≤ 1048576) := hs
  clear hs hl h1
  go_enter Try.func47, Try.ntmps47
  go_wp2_with fail
  go_loopw [4, 5] (fun n i wr => ∃ k : Nat, k ≤ ts.length ∧ i = .int .i64 k ∧ n = .int .i64 (lenTo ts k : Nat) ∧ wr = w ∧ Hid ((∀ q, q ≤ k → lenTo ts q ≤ 65536) ∧ ∀ j, j < k → bad ts j = false)) (fun _ i _ => ts.length - (intOf i).toNat)
  case atStart => exact ⟨0, by omega, rfl, rfl, rfl, ⟨fun q hq => by (obtain rfl : q = 0 := by omega); unfold lenTo; omega, fun j hj => absurd hj (by omega)⟩⟩
  case round =>
    obtain ⟨k, hk, rfl, rfl, hwr, HB⟩ := hrel
    subst hwr
    by_cases hlt : k < ts.length
    · rcases h with h | ⟨b, off, rfl, hc, hb, hcell⟩
      · exact absurd hlt (by rw [h]; simp)
      have hc1 := hcell k hlt
      have hsz := HS.out k hlt
      have hL0 : lenTo ts k ≤ 65536 := HB.out.1 k (Nat.le_refl _)
      have HL : Hid (lenTo ts (k + 1) = lenTo ts k + (2 + (tnth ts k).size)) := rfl
      by_cases hbig : 20000 < (tnth ts k).size
      · have hbig' : (20000 : Int) < ((tnth ts k).size : Int) := by omega
        obtain ⟨e1, e2⟩ := lb_bad ts k (by omega) hlt HB.out.2 (by unfold bad; simp [hbig])
        have HC : Hid (lbCode ts = 1) := by show _ = _; rw [e1]; unfold cd; rw [if_pos hbig]
        have HO : Hid (lbOut ts = []) := e2
        clear e1 e2 hcell
        go_wp2
        go_ret2
        exact ⟨_, ret_tup HC.out.symm, by rw [HO.out]; exact own_none _ _ (Below.refl _ _), (Below.refl _ _).alloc (Nat.le_refl _) _⟩
      have hbig' : ((tnth ts k).size : Int) ≤ 20000 := by omega
      by_cases hfull : 65536 < lenTo ts (k + 1)
      · obtain ⟨e1, e2⟩ := lb_bad ts k (by omega) hlt HB.out.2 (by unfold bad; simp [hfull])
        have HC : Hid (lbCode ts = 7) := by show _ = _; rw [e1]; unfold cd; rw [if_neg hbig]
        have HO : Hid (lbOut ts = []) := e2
        have hfull' : (65536 : Int) < ((lenTo ts k : Nat) : Int) + (2 + ((tnth ts k).size : Int)) := by rw [HL.out] at hfull; omega
        clear e1 e2 hcell hfull
        generalize lenTo ts k = q at hL0 hfull' HL ⊢
        go_wp2
        go_ret2
        exact ⟨_, ret_tup HC.out.symm, by rw [HO.out]; exact own_none _ _ (Below.refl _ _), (Below.refl _ _).alloc (Nat.le_refl _) _⟩
      · have hfull' : ((lenTo ts k : Nat) : Int) + (2 + ((tnth ts k).size : Int)) ≤ 65536 := by rw [HL.out] at hfull; omega
        have HG : Hid (bad ts k = false) := by show _ = _; unfold bad; simp; omega
        have HFU : Hid (lenTo ts (k + 1) ≤ 65536) := by show _ ≤ _; omega
        clear hcell hfull
        go_wp2
        exact ⟨⟨k + 1, by omega, by go_num, val_eq (by rw [HL.out]; omega), trivial, ⟨fun q hq => by by_cases e : q ≤ k; exact HB.out.1 q e; (obtain rfl : q = k + 1 := by omega); exact HFU.out, fun j hj => by by_cases e : j < k; exact HB.out.2 j e; (obtain rfl : j = k := by omega); exact HG.out⟩⟩, by simp [intOf]; omega⟩
    · obtain rfl : k = ts.length := by omega
      obtain ⟨e1, e2⟩ := lb_good ts (by omega) HB.out.2
      have HC : Hid (lbCode ts = 0) := e1
      have HO : Hid (lbOut ts = listTo ts ts.length) := e2
      clear e1 e2
      go_wp2_with fail
      refine (l02List_any _ ts _ HR.out (by omega) HB.out.1).mono ?_
      rintro e w2 ⟨v2, rfl, o2, b2⟩
      go_wp2_with fail
      go_ret2
      exact ⟨_, ret_tup HC.out.symm, by rw [HO.out]; exact o2, b2⟩
end Go.Proofs.Ytmafigajapkmnaa.Lb
