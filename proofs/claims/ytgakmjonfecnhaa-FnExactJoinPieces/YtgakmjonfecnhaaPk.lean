/- The specification's JoinPieces. -/
import Derived.Test.YtgakmjonfecnhaaPj
namespace Go.Proofs.Ytgakmjonfecnhaa.Pj
open Go.RowKit Go.Proofs.Ytgakmjonfecnhaa.Sl Go.Proofs.Ytgakmjonfecnhaa.By Go.Proofs.Ytgakmjonfecnhaa.Ap Go.Proofs.Ytgakmjonfecnhaa.Tx Go.Proofs.Ytgakmjonfecnhaa.Pf Go.Proofs.Ytgakmjonfecnhaa.Mk

def catTo (ts : List ByteArray) (k : Nat) : List Int := cat (ts.take k)
theorem catTo_succ {ts : List ByteArray} {k : Nat} (h : k < ts.length) : catTo ts (k + 1) = catTo ts k ++ bys (tnth ts k) := by
  unfold catTo
  rw [List.take_add_one, tnth_at h, Option.toList_some, cat_append]
  unfold cat
  simp
theorem catTo_all (ts : List ByteArray) : catTo ts ts.length = cat ts := by unfold catTo; rw [List.take_length]
theorem catTo_le {ts : List ByteArray} (k : Nat) : (catTo ts k).length ≤ (cat ts).length := by
  have h : cat ts = catTo ts k ++ cat (ts.drop k) := by
    unfold catTo
    rw [← cat_append, List.take_append_drop]
  rw [h, List.length_append]
  omega
set_option maxRecDepth 100000 in
set_option maxHeartbeats 800000 in
theorem l09Join_any (v : Value) (ts : List ByteArray) (w : World) (h : RowT w v ts) (hl : ts.length ≤ 64) (hs : (cat ts).length ≤ 2048) :
    Calls Try.prog 22 #[v] w fun e w' => ∃ v', e = .returned v' ∧ OwnB 5 w' w.heap.size v' (cat ts) ∧ Below w.heap.size w w' := by
  obtain ⟨i0, hi0, hz0, hz1, hz2⟩ := info_parts info5
  obtain ⟨a, cap, rfl, h⟩ := h
  have HS : Hid (∀ _ : Unit, (cat ts).length ≤ 2048) := fun _ => hs
  have O0 : Hid (OwnB 5 (w.alloc (.cells #[] 5)) w.heap.size (.slice (some ⟨w.heap.size, 0, none⟩) 0 0) []) := own_made _ _ _ _ _ (Nat.le_refl _) (by simp [maxLen]) rfl
  have B0 : Below w.heap.size w (w.alloc (.cells #[] 5)) := bel_new _ _
  clear hs
  go_enter Try.func22, Try.ntmps22
  go_wp2_with fail
  go_loopw [3, 4] (fun l i wr => ∃ k : Nat, k ≤ ts.length ∧ i = .int .i64 k ∧ OwnB 5 wr w.heap.size l (catTo ts k) ∧ Below w.heap.size w wr) (fun _ i _ => ts.length - (intOf i).toNat)
  case atStart => exact ⟨0, by omega, rfl, by have := O0.out; simpa [catTo, cat] using this, B0⟩
  case round =>
    clear O0 B0
    obtain ⟨k, hk, rfl, ho, hb⟩ := hrel
    by_cases hlt : k < ts.length
    · rcases h with h | ⟨b, off, rfl, hc, hbw, hcell⟩
      · exact absurd hlt (by rw [h]; simp)
      have c1 : wr.cell? ⟨b, off + k, none⟩ = some (.string (tnth ts k)) := (hb.cell (p := ⟨b, off + k, none⟩) hbw).trans (hcell k hlt)
      have hp1 : (k : Int) < (ts.length : Int) := by omega
      have HE : Hid (catTo ts (k + 1) = catTo ts k ++ bys (tnth ts k)) := catTo_succ hlt
      have HLN : Hid ((catTo ts k).length + (tnth ts k).size ≤ 100000) := by
        have h1 := catTo_le (ts := ts) (k + 1)
        rw [HE.out, List.length_append, bys_length] at h1
        have := HS.out ()
        show _ ≤ _
        omega
      have HO : Hid (OwnB 5 wr w.heap.size u3 (catTo ts k)) := ho
      have hB : w.heap.size ≤ wr.heap.size := hb.size
      clear hcell ho
      generalize tnth ts k = t at c1 HE HLN
      go_wp2_with (at_builtin; go_must (refine list_str (by rfl) _ _ 22 9 (by rfl) Try.underlying22 Try.underlying9 hi0 hz0 hz1 hz2 w.heap.size wr _ t (catTo ts k) (by rfl) (by rfl) HO.out hB (by have := HLN.out; omega) ?_; intro v5 w5 o5 k5))
      have b5 := k5.below HO.out hB
      exact ⟨⟨k + 1, by omega, by go_num, by rw [HE.out]; exact o5, hb.trans b5⟩, by simp [intOf]; omega⟩
    · obtain rfl : k = ts.length := by omega
      have HO : Hid (OwnB 5 wr w.heap.size u3 (cat ts)) := by rw [catTo_all] at ho; exact ho
      clear ho
      go_wp2_with fail
      go_ret
      exact ⟨_, rfl, HO.out, hb⟩
set_option maxRecDepth 100000 in
set_option maxHeartbeats 800000 in
theorem specJoinPieces_any (v : Value) (ts : List ByteArray) (w : World) (h : RowT w v ts) (hl : ts.length ≤ 1048576) :
    Calls Try.prog 14 #[v] w fun e w' => ∃ v', e = .returned (.tuple #[v', .int .i64 (pcC ts)]) ∧ OwnB 5 w' w.heap.size v' (jnL ts) ∧ Below w.heap.size w w' := by
  have HF : Hid (Calls Try.prog 21 #[v] w fun e w' => e = .returned (.bool (pcB ts)) ∧ w = w') := l09OK_any v ts w h (by unfold maxLen; omega)
  have hrow := h
  obtain ⟨a, cap, rfl, _⟩ := h
  have HB0 : Hid (OwnB 5 (w.alloc (.cells #[] 5)) w.heap.size (.slice (some ⟨w.heap.size, 0, none⟩) 0 0) []) := own_made _ _ _ _ _ (Nat.le_refl _) (by simp [maxLen]) rfl
  by_cases h1 : 4096 < ts.length
  · have h1' : (4096 : Int) < (ts.length : Int) := by omega
    have HC : Hid (pcC ts = 2) := by show _ = _; unfold pcC; rw [if_pos h1]
    have HE : Hid (jnL ts = []) := by show _ = _; unfold jnL; rw [if_neg (by rw [HC.out]; decide)]
    clear h1 hrow HF
    go_enter Try.func14, Try.ntmps14
    go_wp2_with fail
    go_ret2
    rw [HC.out, HE.out]
    exact ⟨_, rfl, HB0.out, bel_new _ _⟩
  have h1' : ¬ (4096 : Int) < (ts.length : Int) := by omega
  cases hb : pcB ts
  case false =>
    have HC : Hid (pcC ts = 1) := by show _ = _; unfold pcC; rw [if_neg h1, hb]; rfl
    have HE : Hid (jnL ts = []) := by show _ = _; unfold jnL; rw [if_neg (by rw [HC.out]; decide)]
    rw [hb] at HF
    clear h1 hrow hb
    go_enter Try.func14, Try.ntmps14
    go_wp2_with fail
    refine HF.out.mono ?_
    rintro e w1 ⟨rfl, rfl⟩
    go_wp2_with fail
    go_ret2
    rw [HC.out, HE.out]
    exact ⟨_, rfl, HB0.out, bel_new _ _⟩
  case true =>
    have HP := pcB_get hb
    have HC : Hid (pcC ts = 0) := pcC_ok HP
    have HE : Hid (jnL ts = cat ts) := by show _ = _; unfold jnL; rw [if_pos HC.out]
    have HJ := l09Join_any _ ts w hrow HP.1 (pc_cat HP)
    have HJ' : Hid (Calls Try.prog 22 #[.slice a ts.length cap] w fun e w' => ∃ v', e = .returned v' ∧ OwnB 5 w' w.heap.size v' (cat ts) ∧ Below w.heap.size w w') := HJ
    rw [hb] at HF
    clear h1 hrow hb HP HB0 HJ
    go_enter Try.func14, Try.ntmps14
    go_wp2_with fail
    refine HF.out.mono ?_
    rintro e w1 ⟨rfl, rfl⟩
    go_wp2_with fail
    refine HJ'.out.mono ?_
    rintro e w2 ⟨v2, rfl, o2, b2⟩
    have O2 : Hid (OwnB 5 w2 w.heap.size v2 (cat ts)) := o2
    clear o2
    go_wp2_with fail
    go_ret2
    rw [HC.out, HE.out]
    exact ⟨_, rfl, O2.out, b2⟩
end Go.Proofs.Ytgakmjonfecnhaa.Pj
