/- Texts that the source draws to be signed. -/
import Derived.Test.YtgakmjonfecnhaaDoorGn3
namespace Go.Proofs.YtgakmjonfecnhaaDoor.Gn
open Go.RowKit Go.Proofs.YtgakmjonfecnhaaDoor.Sl Go.Proofs.YtgakmjonfecnhaaDoor.By Go.Proofs.YtgakmjonfecnhaaDoor.Ap Go.Proofs.YtgakmjonfecnhaaDoor.Tx

theorem Src.below {B p K : Nat} {w w' : World} {xs : List Int} (h : Src B w p xs K) (hB : B ≤ p) (hb : Below w.heap.size w w') : Src B w' p xs K :=
  h.kept (hb.block p h.lt) (fun k hk => hb.block k (by have := h.lt; omega))
theorem own_grown {e : TypeId} {w w' : World} {B p : Nat} {v : Value} {zs : List Int} (h : OwnB e w B v zs) (hg : w.grownBy w' (some p)) (hp : p < B) : OwnB e w' B v zs := by
  obtain ⟨hl, h⟩ := h
  refine ⟨hl, ?_⟩
  rcases h with h | ⟨g, cap, cur, rfl, h1, hg1, h2⟩
  · exact .inl h
  · exact .inr ⟨g, cap, cur, rfl, h1, (hg.block g (Array.getElem?_eq_some_iff.1 hg1).1 (by simp; omega)).trans hg1, h2⟩
theorem gb {w w' : World} {p : Nat} (hg : w.grownBy w' (some p)) (hp : p < w.heap.size) : Below p w w' := ⟨hg.os, hg.tape, hg.output, hg.size, fun k hk => hg.block k (by omega) (by simp; omega)⟩
set_option maxRecDepth 100000 in
set_option maxHeartbeats 800000 in
theorem bytes_any (p B K : Nat) (xs : List Int) (w : World) (h : Src B w p xs K) (hB : B ≤ p) (hK : K ≤ 1000000) (hx : xs.length ≤ 1048576) :
    Calls Tryd.prog 82 #[.pointer (some ⟨p, 0, none⟩), .int .i64 20] w fun e w' => ∃ v zs, e = .returned v ∧ OwnB 5 w' (p + 1) v zs ∧ zs.length ≤ 20 ∧ (∀ z ∈ zs, 0 ≤ z ∧ z ≤ 255) ∧ Src B w' p xs (K + 21) ∧ Below p w w' := by
  obtain ⟨i0, hi0, hz0, hz1, hz2⟩ := info_parts info5
  have hp := h.lt
  have S0 : Hid (Src B (w.alloc (.cells #[] 5)) p xs K) := h.kept (Below.heap_alloc _ _ _ hp) (fun k hk => Below.heap_alloc _ _ _ (by omega))
  have G0 : Hid (Below p w (w.alloc (.cells #[] 5))) := (bel_new w _).mono (by omega)
  have O0 : Hid (OwnB 5 (w.alloc (.cells #[] 5)) (p + 1) (.slice (some ⟨w.heap.size, 0, none⟩) 0 0) []) := own_made _ _ _ _ _ (by omega) (by simp [maxLen]) rfl
  clear h
  go_enter Tryd.func82, Tryd.ntmps82
  go_wp2_with fail
  refine (next_any 21 p B K xs _ S0.out hB (by omega) hx (by decide) (by decide)).mono ?_
  rintro e w1 ⟨r, rfl, hr, s1, g1⟩
  have S1 : Hid (Src B w1 p xs (K + 1)) := s1
  have G1 : Hid (Below p w w1) := G0.out.trans (gb g1 S0.out.lt)
  have O1 : Hid (OwnB 5 w1 (p + 1) (.slice (some ⟨w.heap.size, 0, none⟩) 0 0) []) := own_grown O0.out g1 (by omega)
  clear s1 g1
  go_wp2_with fail
  go_loopw [5, 6] (fun u j wr => ∃ (k : Nat) (zs : List Int), k ≤ 20 ∧ j = .int .i64 k ∧ zs.length + k ≤ 20 ∧ (∀ z ∈ zs, 0 ≤ z ∧ z ≤ 255) ∧ OwnB 5 wr (p + 1) u zs ∧ Src B wr p xs (K + 21 - k) ∧ Below p w wr) (fun _ j _ => (intOf j).toNat)
  case atStart =>
    obtain ⟨v, a, s, q1, q2, q3, q4⟩ := S1.out
    exact ⟨r, [], by omega, rfl, by simp; omega, (fun z hz => by cases hz), O1.out, ⟨v, a, s, q1, q2, by omega, q4⟩, G1.out⟩
  case round =>
    clear S1 G1 O1
    obtain ⟨k, zs, hk, rfl, hl, hz, ho, hs, hg⟩ := hrel
    by_cases h0 : 0 < k
    · have h0' : (0 : Int) < (k : Int) := by omega
      have HS : Hid (Src B wr p xs (K + 21 - k)) := hs
      have HO : Hid (OwnB 5 wr (p + 1) u5 zs) := ho
      have HZ : Hid (∀ z ∈ zs, 0 ≤ z ∧ z ≤ 255) := hz
      clear hs ho hz
      go_wp2_with fail
      refine (next_any 256 p B (K + 21 - k) xs wr HS.out hB (by omega) hx (by decide) (by decide)).mono ?_
      rintro e w2 ⟨r2, rfl, hr2, s2, g2⟩
      have hr3 : (r2 : Int) < 256 := by omega
      have o2 := own_grown HO.out g2 (by omega)
      have G2 : Hid (Below p w w2 ∧ Src B w2 p xs (K + 21 - k + 1) ∧ p < w2.heap.size) := ⟨hg.trans (gb g2 HS.out.lt), s2, s2.lt⟩
      have HLN : Hid (zs.length + 1 ≤ 140737488355328) := by show _ ≤ _; omega
      clear s2 g2 hg HO
      go_wp2_with (at_builtin; go_must (refine list_one (by rfl) _ _ 22 (by rfl) Tryd.underlying22 hi0 hz0 hz1 hz2 (p + 1) w2 _ (r2 : Int) zs (by rfl) (by rfl) o2 (by have := G2.out.2.2; omega) (by omega) HLN.out ?_; intro v5 w5 o5 k5))
      have hbl := k5.below o2 (by have := G2.out.2.2; omega)
      have g5 : Below p w w5 := G2.out.1.trans (hbl.mono (by omega))
      have s5 : Src B w5 p xs (K + 21 - (k - 1)) := by
        obtain ⟨v, a, s, q1, q2, q3, q4⟩ := G2.out.2.1
        exact ⟨v, a, s, (hbl.block p (by omega)).trans q1, q2.kept (fun q hq => hbl.block q (by omega)), by omega, q4⟩
      have z5 : ∀ z ∈ zs ++ [(r2 : Int)], 0 ≤ z ∧ z ≤ 255 := by
        intro z hz
        rcases List.mem_append.1 hz with hz | hz
        · exact HZ.out z hz
        · rw [List.mem_singleton.1 hz]; omega
      exact ⟨⟨k - 1, zs ++ [(r2 : Int)], by omega, val_eq (by omega), by rw [List.length_append]; show _ + 1 + _ ≤ _; omega, z5, o5, s5, g5⟩, by simp [intOf]; omega⟩
    · obtain rfl : k = 0 := by omega
      go_wp2_with fail
      go_ret
      exact ⟨_, zs, rfl, ho, by omega, hz, hs, hg⟩
set_option maxRecDepth 100000 in
set_option maxHeartbeats 800000 in
theorem MsgOf_any (v : Value) (xs : List Int) (w : World) (h : RowB w v xs) (hx : xs.length ≤ 1048576) :
    Calls Tryd.prog 9 #[v] w fun e w' => ∃ s : ByteArray, e = .returned (.string s) ∧ s.size ≤ 20 ∧ Below w.heap.size w w' := by
  have HM : Hid (∀ (w1 : World), Src w.heap.size w1 w.heap.size xs 0 → Calls Tryd.prog 38 #[.pointer (some ⟨w.heap.size, 0, none⟩)] w1 fun e w' => ∃ s : ByteArray, e = .returned (.string s) ∧ s.size ≤ 20 ∧ Below w.heap.size w1 w') := fun w1 s1 => by
    go_enter Tryd.func38, Tryd.ntmps38
    go_wp2_with fail
    refine (bytes_any w.heap.size w.heap.size 0 xs w1 s1 (Nat.le_refl _) (by decide) hx).mono ?_
    rintro e w2 ⟨v2, zs, rfl, o2, l2, z2, s2, b2⟩
    have hcv := By.run_convert_own (P := Tryd.prog) w2 (w.heap.size + 1) 22 5 9 Tryd.underlying22 Tryd.underlying5 Tryd.underlying9 v2 zs o2
    have HZS : Hid ((strOfNums zs).size ≤ 20) := by show _ ≤ _; rw [strOfNums_size]; exact l2
    have S2 : Hid (Src w.heap.size w2 w.heap.size xs 21 ∧ Below w.heap.size w1 w2 ∧ w.heap.size < w2.heap.size) := ⟨s2, b2, s2.lt⟩
    clear o2 l2 z2 s2 b2 s1
    generalize strOfNums zs = st at hcv HZS
    go_wp2_with fail
    refine (pick_any w2.heap.size 5 w.heap.size w.heap.size 21 _ [⟨#[]⟩, ⟨#[109, 101, 115, 115, 97, 103, 101]⟩, ⟨#[97, 110, 111, 116, 104, 101, 114]⟩, ⟨#[103, 114, 97, 110, 116, 32, 97, 32, 49]⟩, st] xs _ (S2.out.1.alloc (Nat.le_refl _) _) (Nat.le_refl _) (by decide) hx (by decide) (by decide) (blk_new _ _ _) (by have := S2.out.2.2; omega) (fun j hj => by
      match j, hj with
      | 0, _ => rfl
      | 1, _ => rfl
      | 2, _ => rfl
      | 3, _ => rfl
      | 4, _ => rfl)).mono ?_
    rintro e w3 ⟨r, rfl, hr, s3, g3⟩
    have b3 : Below w.heap.size w1 w3 := (S2.out.2.1.alloc (by have := S2.out.2.2; omega) _).trans (gb g3 (by rw [size_new]; have := S2.out.2.2; omega))
    have HSZ : Hid ((tnth [⟨#[]⟩, ⟨#[109, 101, 115, 115, 97, 103, 101]⟩, ⟨#[97, 110, 111, 116, 104, 101, 114]⟩, ⟨#[103, 114, 97, 110, 116, 32, 97, 32, 49]⟩, st] r).size ≤ 20) := by
      show _ ≤ _
      match r, hr with
      | 0, _ => exact (show (0 : Nat) ≤ 20 by decide)
      | 1, _ => exact (show (7 : Nat) ≤ 20 by decide)
      | 2, _ => exact (show (7 : Nat) ≤ 20 by decide)
      | 3, _ => exact (show (9 : Nat) ≤ 20 by decide)
      | 4, _ => exact HZS.out
    clear s3 g3
    generalize tnth [⟨#[]⟩, ⟨#[109, 101, 115, 115, 97, 103, 101]⟩, ⟨#[97, 110, 111, 116, 104, 101, 114]⟩, ⟨#[103, 114, 97, 110, 116, 32, 97, 32, 49]⟩, st] r = q at HSZ
    go_wp2_with fail
    go_ret
    exact ⟨_, rfl, HSZ.out, b3⟩
  go_enter Tryd.func9, Tryd.ntmps9
  go_wp2_with fail
  refine (source_any v xs w h hx).mono ?_
  rintro e w1 ⟨rfl, s1, b1⟩
  go_wp2_with fail
  refine (HM.out w1 s1).mono ?_
  rintro e w2 ⟨s, rfl, hs, b2⟩
  have HS : Hid (s.size ≤ 20) := hs
  clear hs
  go_wp2_with fail
  go_ret
  exact ⟨s, rfl, HS.out, b1.trans b2⟩
end Go.Proofs.YtgakmjonfecnhaaDoor.Gn
