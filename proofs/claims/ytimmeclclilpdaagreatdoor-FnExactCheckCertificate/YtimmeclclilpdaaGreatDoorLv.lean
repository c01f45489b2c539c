/- A row of the tree above another: impl.rowAbove, the specification's l03Level and l03Keys. -/
import Derived.Test.YtimmeclclilpdaaGreatDoorKx
import Derived.Deep.RegionLaw
namespace Go.Proofs.YtimmeclclilpdaaGreatDoor.Lv
open Go.RowKit Go.Proofs.YtimmeclclilpdaaGreatDoor.Sl Go.Proofs.YtimmeclclilpdaaGreatDoor.By Go.Proofs.YtimmeclclilpdaaGreatDoor.Ap Go.Proofs.YtimmeclclilpdaaGreatDoor.Tx Go.Proofs.YtimmeclclilpdaaGreatDoor.Sh Go.Proofs.YtimmeclclilpdaaGreatDoor.Ho Go.Proofs.YtimmeclclilpdaaGreatDoor.Se Go.Proofs.YtimmeclclilpdaaGreatDoor.Ka Go.Proofs.YtimmeclclilpdaaGreatDoor.Sx Go.Proofs.YtimmeclclilpdaaGreatDoor.Hf Go.Proofs.YtimmeclclilpdaaGreatDoor.Sa Go.Proofs.YtimmeclclilpdaaGreatDoor.Kx

def lvlTo (ts : List ByteArray) : Nat → List ByteArray
  | 0 => []
  | k + 1 => lvlTo ts k ++ [node (tnth ts (2 * k)) (tnth ts (2 * k + 1))]
theorem lvlTo_length (ts : List ByteArray) : ∀ k, (lvlTo ts k).length = k
  | 0 => rfl
  | k + 1 => by unfold lvlTo; rw [List.length_append, lvlTo_length ts k]; rfl
theorem lvlTo_all (ts : List ByteArray) (h : ∀ t ∈ ts, t.size = 32) : ∀ k, 2 * k ≤ ts.length → ∀ t ∈ lvlTo ts k, t.size = 32
  | 0, _, t, ht => by cases ht
  | k + 1, hk, t, ht => by
    unfold lvlTo at ht
    rcases List.mem_append.1 ht with ht | ht
    · exact lvlTo_all ts h k (by omega) t ht
    · rw [List.mem_singleton.1 ht]
      have h1 := h _ (tnth_mem (show 2 * k < ts.length by omega))
      have h2 := h _ (tnth_mem (show 2 * k + 1 < ts.length by omega))
      exact node_size _ _ (by omega) (by omega)

set_option maxRecDepth 100000 in
set_option maxHeartbeats 1600000 in
theorem rowAbove_any (v : Value) (ts : List ByteArray) (n : Nat) (w : World) (h : RowT w v ts) (hn : ts.length = 2 * n) (hn2 : n ≤ 1000) (ha : ∀ t ∈ ts, t.size = 32) (hK : KTab w) (hp : 0 < w.heap.size) :
    Calls Tryz.prog 109 #[v] w fun e w' => ∃ u, e = .returned u ∧ OwnS w' w.heap.size u (lvlTo ts n) ∧ Below w.heap.size w w' := by
  obtain ⟨i0, hi0, hz0, hz1, hz2⟩ := info_parts info9
  obtain ⟨a, cap, rfl, h⟩ := h
  have GK : Hid (KTab w) := hK
  have HA : Hid (∀ t ∈ ts, t.size = 32) := ha
  have HN : Hid (ts.length = 2 * n) := hn
  have hl1 : (ts.length : Int) ≤ 2 * (n : Int) := by omega
  have hl2 : 2 * (n : Int) ≤ (ts.length : Int) := by omega
  clear hK ha hn
  go_enter Tryz.func109, Tryz.ntmps109
  go_wp2_with fail
  go_loopw [3, 4] (fun u j wr => ∃ k : Nat, k ≤ n ∧ j = .int .i64 (2 * (k : Int)) ∧ OwnS wr w.heap.size u (lvlTo ts k) ∧ Below w.heap.size w wr ∧ w.heap.size ≤ wr.heap.size) (fun _ j _ => 2 * n - (intOf j).toNat)
  case atStart => exact ⟨0, by omega, rfl, OwnS.nil _ _, Below.refl _ _, Nat.le_refl _⟩
  case round =>
    obtain ⟨k, hk, rfl, ho, hb, hB⟩ := hrel
    by_cases hlt : k < n
    · rcases h with h | ⟨b, off, rfl, hc, hbw, hcell⟩
      · exact absurd (show ts.length = 0 by rw [h]; rfl) (by have := HN.out; omega)
      have q0 : (0 : Int) ≤ 2 * (k : Int) := by omega
      have q1 : 2 * (k : Int) < (ts.length : Int) := by omega
      have q2 : (0 : Int) ≤ 2 * (k : Int) + 1 := by omega
      have q3 : 2 * (k : Int) + 1 < (ts.length : Int) := by omega
      have qw : IntKind.i64.wrap (2 * (k : Int) + 1) = 2 * (k : Int) + 1 := by rw [IntKind.wrap_i64]; omega
      have HX : Hid (∀ W, Below w.heap.size w W → W.cell? ⟨b, off + 2 * k, none⟩ = some (.string (tnth ts (2 * k))) ∧ W.cell? ⟨b, off + (2 * k + 1), none⟩ = some (.string (tnth ts (2 * k + 1)))) := fun W hW =>
        ⟨(hW.cell (p := ⟨b, off + 2 * k, none⟩) hbw).trans (hcell (2 * k) (by have := HN.out; omega)), (hW.cell (p := ⟨b, off + (2 * k + 1), none⟩) hbw).trans (hcell (2 * k + 1) (by have := HN.out; omega))⟩
      obtain ⟨d1, d2⟩ := HX.out wr hb
      have c1 : wr.cell? ⟨b, off + (2 * (k : Int)).toNat, none⟩ = some (.string (tnth ts (2 * k))) := by rw [show (2 * (k : Int)).toNat = 2 * k by omega]; exact d1
      have c2 : wr.cell? ⟨b, off + (2 * (k : Int) + 1).toNat, none⟩ = some (.string (tnth ts (2 * k + 1))) := by rw [show (2 * (k : Int) + 1).toNat = 2 * k + 1 by omega]; exact d2
      clear d1 d2 HX
      have HE : Hid (lvlTo ts (k + 1) = lvlTo ts k ++ [node (tnth ts (2 * k)) (tnth ts (2 * k + 1))]) := rfl
      have HL : Hid ((lvlTo ts k).length ≤ 1000000) := by show _ ≤ _; rw [lvlTo_length]; omega
      have HZ : Hid ((tnth ts (2 * k)).size ≤ 100000 ∧ (tnth ts (2 * k + 1)).size ≤ 100000) := by
        have h1 := HA.out _ (tnth_mem (show 2 * k < ts.length by have := HN.out; omega))
        have h2 := HA.out _ (tnth_mem (show 2 * k + 1 < ts.length by have := HN.out; omega))
        exact ⟨by omega, by omega⟩
      clear hcell
      generalize tnth ts (2 * k) = l at c1 HE HZ
      generalize tnth ts (2 * k + 1) = r at c2 HE HZ
      have KD : Hid (KTab wr.drew ∧ 0 < wr.drew.heap.size) := ⟨GK.out.below hb.drew hp, Nat.lt_of_lt_of_le hp hB⟩
      go_wp2_with fail
      go_region_law (first
        | (go_simp; go_at_call 123; refine (nodeOf_any l r _ HZ.out.1 HZ.out.2 KD.out.1 KD.out.2).mono ?_; rintro e w3 ⟨rfl, b3⟩; with_reducible (have hA := ordS ho hb hB b3); obtain ⟨o3, g3, B3⟩ := hA; clear b3; try go_simp)
        | (refine step_txt (by rfl) _ _ 35 (by rfl) Tryz.underlying35 hi0 hz0 hz1 hz2 w.heap.size _ _ _ _ [node l r] (by rfl) (by rfl) (OwnS.below o3 (bel_new _ _)) (by rw [size_new]; omega) (row_lit w3 9 [node l r] _ 1 rfl rfl) (by have := HL.out; show _ + 1 ≤ _; omega) ?_; intro v5 w5 o5 b5))
      all_goals
        rw [← HE.out] at o5
        have g5 := (g3.alloc B3 _).trans b5
        go_wp2_with fail
        exact ⟨⟨k + 1, by omega, val_eq (by omega), o5, g5, Nat.le_trans (by rw [size_new]; omega) b5.size⟩, by simp [intOf]; omega⟩
    · obtain rfl : k = n := by omega
      go_wp2_with fail
      go_ret
      exact ⟨_, rfl, ho, hb⟩

set_option maxRecDepth 100000 in
set_option maxHeartbeats 1600000 in
theorem l03Level_any (v : Value) (ts : List ByteArray) (n : Nat) (w : World) (h : RowT w v ts) (hn : ts.length = 2 * n) (hn2 : n ≤ 1000) (ha : ∀ t ∈ ts, t.size = 32) :
    Calls Tryz.prog 75 #[v] w fun e w' => ∃ u, e = .returned u ∧ OwnS w' w.heap.size u (lvlTo ts n) ∧ Below w.heap.size w w' := by
  obtain ⟨i0, hi0, hz0, hz1, hz2⟩ := info_parts info9
  obtain ⟨a, cap, rfl, h⟩ := h
  have HA : Hid (∀ t ∈ ts, t.size = 32) := ha
  have HN : Hid (ts.length = 2 * n) := hn
  have hl1 : (ts.length : Int) ≤ 2 * (n : Int) := by omega
  have hl2 : 2 * (n : Int) ≤ (ts.length : Int) := by omega
  clear ha hn
  go_enter Tryz.func75, Tryz.ntmps75
  go_wp2_with fail
  go_loopw [3, 4] (fun u j wr => ∃ k : Nat, k ≤ n ∧ j = .int .i64 (2 * (k : Int)) ∧ OwnS wr w.heap.size u (lvlTo ts k) ∧ Below w.heap.size w wr ∧ w.heap.size ≤ wr.heap.size) (fun _ j _ => 2 * n - (intOf j).toNat)
  case atStart => exact ⟨0, by omega, rfl, OwnS.made _ _ (Nat.le_refl _), bel_new _ _, by rw [size_new]; omega⟩
  case round =>
    obtain ⟨k, hk, rfl, ho, hb, hB⟩ := hrel
    by_cases hlt : k < n
    · rcases h with h | ⟨b, off, rfl, hc, hbw, hcell⟩
      · exact absurd (show ts.length = 0 by rw [h]; rfl) (by have := HN.out; omega)
      have q0 : (0 : Int) ≤ 2 * (k : Int) := by omega
      have q1 : 2 * (k : Int) < (ts.length : Int) := by omega
      have q2 : (0 : Int) ≤ 2 * (k : Int) + 1 := by omega
      have q3 : 2 * (k : Int) + 1 < (ts.length : Int) := by omega
      have qw : IntKind.i64.wrap (2 * (k : Int) + 1) = 2 * (k : Int) + 1 := by rw [IntKind.wrap_i64]; omega
      have HX : Hid (∀ W, Below w.heap.size w W → W.cell? ⟨b, off + 2 * k, none⟩ = some (.string (tnth ts (2 * k))) ∧ W.cell? ⟨b, off + (2 * k + 1), none⟩ = some (.string (tnth ts (2 * k + 1)))) := fun W hW =>
        ⟨(hW.cell (p := ⟨b, off + 2 * k, none⟩) hbw).trans (hcell (2 * k) (by have := HN.out; omega)), (hW.cell (p := ⟨b, off + (2 * k + 1), none⟩) hbw).trans (hcell (2 * k + 1) (by have := HN.out; omega))⟩
      obtain ⟨d1, d2⟩ := HX.out wr hb
      have c1 : wr.cell? ⟨b, off + (2 * (k : Int)).toNat, none⟩ = some (.string (tnth ts (2 * k))) := by rw [show (2 * (k : Int)).toNat = 2 * k by omega]; exact d1
      have c2 : wr.cell? ⟨b, off + (2 * (k : Int) + 1).toNat, none⟩ = some (.string (tnth ts (2 * k + 1))) := by rw [show (2 * (k : Int) + 1).toNat = 2 * k + 1 by omega]; exact d2
      clear d1 d2 HX
      have HE : Hid (lvlTo ts (k + 1) = lvlTo ts k ++ [node (tnth ts (2 * k)) (tnth ts (2 * k + 1))]) := rfl
      have HL : Hid ((lvlTo ts k).length ≤ 300000) := by show _ ≤ _; rw [lvlTo_length]; omega
      have HZ : Hid ((tnth ts (2 * k)).size ≤ 30000 ∧ (tnth ts (2 * k + 1)).size ≤ 30000) := by
        have h1 := HA.out _ (tnth_mem (show 2 * k < ts.length by have := HN.out; omega))
        have h2 := HA.out _ (tnth_mem (show 2 * k + 1 < ts.length by have := HN.out; omega))
        exact ⟨by omega, by omega⟩
      clear hcell
      generalize tnth ts (2 * k) = l at c1 HE HZ
      generalize tnth ts (2 * k + 1) = r at c2 HE HZ
      go_wp2_with fail
      go_region_law (first
        | (go_simp; go_at_call 81; refine (l03Node_any l r _ HZ.out.1 HZ.out.2).mono ?_; rintro e w3 ⟨rfl, b3⟩; with_reducible (have hA := ordS ho hb hB b3); obtain ⟨o3, g3, B3⟩ := hA; clear b3; try go_simp)
        | (refine step_txt (by rfl) _ _ 35 (by rfl) Tryz.underlying35 hi0 hz0 hz1 hz2 w.heap.size _ _ _ _ [node l r] (by rfl) (by rfl) (OwnS.below o3 (bel_new _ _)) (by rw [size_new]; omega) (row_lit w3 9 [node l r] _ 1 rfl rfl) (by have := HL.out; show _ + 1 ≤ _; omega) ?_; intro v5 w5 o5 b5))
      all_goals
        rw [← HE.out] at o5
        have g5 := (g3.alloc B3 _).trans b5
        go_wp2_with fail
        exact ⟨⟨k + 1, by omega, val_eq (by omega), o5, g5, Nat.le_trans (by rw [size_new]; omega) b5.size⟩, by simp [intOf]; omega⟩
    · obtain rfl : k = n := by omega
      go_wp2_with fail
      go_ret
      exact ⟨_, rfl, ho, hb⟩

set_option maxRecDepth 100000 in
set_option maxHeartbeats 800000 in
theorem l03Keys_any (seed : ByteArray) (w : World) (hs : seed.size ≤ 60000) :
    Calls Tryz.prog 39 #[.string seed] w fun e w' => ∃ v, e = .returned v ∧ OwnS w' w.heap.size v (keysTo seed 8) ∧ Below w.heap.size w w' := by
  obtain ⟨i0, hi0, hz0, hz1, hz2⟩ := info_parts info9
  have HS : Hid (seed.size ≤ 60000) := hs
  clear hs
  go_enter Tryz.func39, Tryz.ntmps39
  go_wp2_with fail
  go_loopw [3, 4] (fun u j wr => ∃ k : Nat, k ≤ 8 ∧ j = .int .i64 k ∧ OwnS wr w.heap.size u (keysTo seed k) ∧ Below w.heap.size w wr) (fun _ j _ => 8 - (intOf j).toNat)
  case atStart => exact ⟨0, by omega, rfl, OwnS.made _ _ (Nat.le_refl _), bel_new _ _⟩
  case round =>
    obtain ⟨k, hk, rfl, ho, hb⟩ := hrel
    by_cases hlt : k < 8
    · have HE : Hid (keysTo seed (k + 1) = keysTo seed k ++ [keyS seed k]) := rfl
      have HN : Hid ((keysTo seed k).length ≤ 1000000) := by show _ ≤ _; rw [keysTo_length]; omega
      go_wp2_with fail
      refine (l03Key_any seed k _ HS.out (by omega)).mono ?_
      rintro e w4 ⟨rfl, b4⟩
      have hb4 := hb.trans (b4.mono hb.size)
      have ho4 := OwnS.below ho b4
      clear b4 ho hb
      generalize keyS seed k = y at HE
      go_wp2_with (at_builtin; go_must (refine list_texts (by rfl) _ _ 35 (by rfl) i0 Tryz.underlying35 hi0 hz0 hz1 hz2 w.heap.size w w4 _ _ [y] _ 1 rfl rfl (by decide) (by rfl) ho4 hb4 hb4.size (by rfl) HN.out ?_; intro v5 w5 o5 b5 _ _))
      rw [← HE.out] at o5
      exact ⟨⟨k + 1, by omega, by go_num, o5, b5⟩, by simp [intOf]; omega⟩
    · obtain rfl : k = 8 := by omega
      go_wp2_with fail
      go_ret
      exact ⟨_, rfl, ho, hb⟩
end Go.Proofs.YtimmeclclilpdaaGreatDoor.Lv
