/- impl.signedKey: the key that a signature shows. -/
import Derived.Test.YtiflfcpoajijaaaGreatDoorJMakeCertificate18
namespace Go.Proofs.YtiflfcpoajijaaaGreatDoor.Cs
open Go.RowKit Go.Proofs.YtiflfcpoajijaaaGreatDoor.Sl Go.Proofs.YtiflfcpoajijaaaGreatDoor.By Go.Proofs.YtiflfcpoajijaaaGreatDoor.Ap Go.Proofs.YtiflfcpoajijaaaGreatDoor.Tx Go.Proofs.YtiflfcpoajijaaaGreatDoor.Sh Go.Proofs.YtiflfcpoajijaaaGreatDoor.Ho Go.Proofs.YtiflfcpoajijaaaGreatDoor.Se Go.Proofs.YtiflfcpoajijaaaGreatDoor.Ka Go.Proofs.YtiflfcpoajijaaaGreatDoor.Sx Go.Proofs.YtiflfcpoajijaaaGreatDoor.Hf Go.Proofs.YtiflfcpoajijaaaGreatDoor.Sa Go.Proofs.YtiflfcpoajijaaaGreatDoor.Kx Go.Proofs.YtiflfcpoajijaaaGreatDoor.Mb Go.Proofs.YtiflfcpoajijaaaGreatDoor.Sg

/-- Two hashes, in the order that a bit tells. -/
def pl0 (a c : ByteArray) (b : Nat) : ByteArray := if b = 0 then a else c
def pl1 (a c : ByteArray) (b : Nat) : ByteArray := if b = 0 then c else a
def pairTo (d : ByteArray) (ta tb : List ByteArray) : Nat → List ByteArray
  | 0 => []
  | k + 1 => pairTo d ta tb k ++ [pl0 (hashS (bys (tnth ta k))) (tnth tb k) (bn d k), pl1 (hashS (bys (tnth ta k))) (tnth tb k) (bn d k)]
theorem pairTo_length (d : ByteArray) (ta tb : List ByteArray) : ∀ k, (pairTo d ta tb k).length = 2 * k
  | 0 => rfl
  | k + 1 => by unfold pairTo; rw [List.length_append, pairTo_length d ta tb k]; rfl
theorem pl_size {a c : ByteArray} (b : Nat) (ha : a.size = 32) (hc : c.size = 32) : (pl0 a c b).size = 32 ∧ (pl1 a c b).size = 32 := by
  unfold pl0 pl1
  split
  · exact ⟨ha, hc⟩
  · exact ⟨hc, ha⟩
theorem hash32 {t : ByteArray} (h : t.size = 32) : (hashS (bys t)).size = 32 := hash_size _ (by rw [bys_length, h]; decide)
theorem pairTo_all (d : ByteArray) (ta tb : List ByteArray) (ha : ∀ t ∈ ta, t.size = 32) (hb : ∀ t ∈ tb, t.size = 32) : ∀ k, k ≤ ta.length → k ≤ tb.length → ∀ t ∈ pairTo d ta tb k, t.size = 32
  | 0, _, _, t, ht => by cases ht
  | k + 1, h1, h2, t, ht => by
    unfold pairTo at ht
    have e := pl_size (bn d k) (hash32 (ha _ (tnth_mem (show k < ta.length by omega)))) (hb _ (tnth_mem (show k < tb.length by omega)))
    rcases List.mem_append.1 ht with ht | ht
    · exact pairTo_all d ta tb ha hb k (by omega) (by omega) t ht
    · rcases List.mem_cons.1 ht with e1 | ht
      · rw [e1]; exact e.1
      · rw [List.mem_singleton.1 ht]; exact e.2
set_option maxRecDepth 100000 in
theorem placed_any (a c : ByteArray) (b : Nat) (w : World) : Calls Tryz.prog 112 #[.string a, .string c, .int .i64 b] w fun e w' => e = .returned (.tuple #[.string (pl0 a c b), .string (pl1 a c b)]) ∧ w = w' := by
  by_cases h : b = 0
  · have HE : Hid (pl0 a c b = a ∧ pl1 a c b = c) := ⟨if_pos h, if_pos h⟩
    have h' : ((b : Int) == 0) = true := by simp; omega
    clear h
    go_enter Tryz.func112, Tryz.ntmps112
    go_wp2
    go_ret2
    rw [HE.out.1, HE.out.2]
    exact ⟨rfl, rfl⟩
  · have HE : Hid (pl0 a c b = c ∧ pl1 a c b = a) := ⟨if_neg h, if_neg h⟩
    have h' : ((b : Int) == 0) = false := by simp; omega
    clear h
    go_enter Tryz.func112, Tryz.ntmps112
    go_wp2
    go_ret2
    rw [HE.out.1, HE.out.2]
    exact ⟨rfl, rfl⟩
theorem RowT.drew' {w : World} {v : Value} {ts : List ByteArray} (h : RowT w v ts) : RowT w.drew v ts := h

set_option maxRecDepth 100000 in
set_option maxHeartbeats 3200000 in
theorem signedKey_any (msg bs : ByteArray) (i : Int) (ua ub uc : Value) (ta tb tc : List ByteArray) (w : World) (hbs : bs = mbits msg) (ra : RowT w ua ta) (rb : RowT w ub tb) (rc : RowT w uc tc) (la : ta.length = 32) (lb : tb.length = 32) (za : ∀ t ∈ ta, t.size = 32) (zb : ∀ t ∈ tb, t.size = 32) (hK : KTab w) (hp : 0 < w.heap.size) :
    Calls Tryz.prog 91 #[.string bs, .agg #[.int .i64 i, ua, ub, uc]] w fun e w' => e = .returned (.string (keyH (pairTo (dig msg) ta tb 32))) ∧ Below w.heap.size w w' := by
  obtain ⟨i0, hi0, hz0, hz1, hz2⟩ := info_parts info9
  have HBS : Hid (bs = mbits msg) := hbs
  obtain ⟨a1, c1, rfl, ra⟩ := ra
  obtain ⟨a2, c2, rfl, rb⟩ := rb
  obtain ⟨a3, c3, rfl, _⟩ := rc
  rcases ra with ra | ⟨b1, o1, rfl, hc1, hw1, hcell1⟩
  · rw [ra] at la; cases la
  rcases rb with rb | ⟨b2, o2, rfl, hc2, hw2, hcell2⟩
  · rw [rb] at lb; cases lb
  have HC : Hid ((∀ j, j < 32 → w.cell? ⟨b1, o1 + j, none⟩ = some (.string (tnth ta j))) ∧ (∀ j, j < 32 → w.cell? ⟨b2, o2 + j, none⟩ = some (.string (tnth tb j))) ∧ b1 < w.heap.size ∧ b2 < w.heap.size) := ⟨fun j hj => hcell1 j (by omega), fun j hj => hcell2 j (by omega), hw1, hw2⟩
  have HZ : Hid ((∀ t ∈ ta, t.size = 32) ∧ (∀ t ∈ tb, t.size = 32) ∧ ta.length = 32 ∧ tb.length = 32) := ⟨za, zb, la, lb⟩
  have GK : Hid (KTab w ∧ 0 < w.heap.size) := ⟨hK, hp⟩
  rw [la, lb]
  have HB : Hid (∀ W, Below (w.heap.size + 1) (w.alloc (.cells #[.int .i64 i, .slice (some ⟨b1, o1, none⟩) 32 c1, .slice (some ⟨b2, o2, none⟩) 32 c2, .slice a3 tc.length c3] 37)) W → W.heap[w.heap.size]? = some (.cells #[.int .i64 i, .slice (some ⟨b1, o1, none⟩) 32 c1, .slice (some ⟨b2, o2, none⟩) 32 c2, .slice a3 tc.length c3] 37 (0, 0)) ∧ Below w.heap.size w W ∧ w.heap.size + 1 ≤ W.heap.size) := fun W hW => by
    have hs := hW.size
    rw [size_new] at hs
    exact ⟨(hW.block _ (by omega)).trans (blk_new _ _ _), (bel_new w _).trans (hW.mono (by omega)), hs⟩
  have H0 : Hid (Below (w.heap.size + 1) (w.alloc (.cells #[.int .i64 i, .slice (some ⟨b1, o1, none⟩) 32 c1, .slice (some ⟨b2, o2, none⟩) 32 c2, .slice a3 tc.length c3] 37)) (w.alloc (.cells #[.int .i64 i, .slice (some ⟨b1, o1, none⟩) 32 c1, .slice (some ⟨b2, o2, none⟩) 32 c2, .slice a3 tc.length c3] 37))) := Below.refl _ _
  clear hbs hcell1 hcell2 hw1 hw2 za zb hK hp la lb hc1 hc2
  go_enter Tryz.func91, Tryz.ntmps91
  go_wp2_with fail
  generalize w.alloc (.cells #[.int .i64 i, .slice (some ⟨b1, o1, none⟩) 32 c1, .slice (some ⟨b2, o2, none⟩) 32 c2, .slice a3 tc.length c3] 37) = wz at HB H0 ⊢
  go_loopw [5, 9] (fun u j wr => ∃ k : Nat, k ≤ 32 ∧ j = .int .i64 k ∧ OwnS wr (w.heap.size + 1) u (pairTo (dig msg) ta tb k) ∧ Below (w.heap.size + 1) wz wr) (fun _ j _ => 32 - (intOf j).toNat)
  case atStart => exact ⟨0, by omega, rfl, OwnS.nil _ _, H0.out⟩
  case round =>
    obtain ⟨k, hk, rfl, ho, hb⟩ := hrel
    obtain ⟨X0, G0, L0⟩ := HB.out wr hb
    by_cases hlt : k < 32
    · have hlt' : decide ((k : Int) < 32) = true := by rw [decide_eq_true_eq]; omega
      have hk32 : (k : Int) < 32 := by omega
      have HF : Hid (∀ W, Below (w.heap.size + 1) wz W → W.cell? ⟨w.heap.size, 1, none⟩ = some (.slice (some ⟨b1, o1, none⟩) 32 c1) ∧ W.cell? ⟨w.heap.size, 2, none⟩ = some (.slice (some ⟨b2, o2, none⟩) 32 c2) ∧ W.cell? ⟨b1, o1 + k, none⟩ = some (.string (tnth ta k)) ∧ W.cell? ⟨b2, o2 + k, none⟩ = some (.string (tnth tb k))) := fun W hW => by
        obtain ⟨Y0, Y1, _⟩ := HB.out W hW
        exact ⟨(blk_cell Y0 1 rfl).1, (blk_cell Y0 2 rfl).1, (Y1.cell (p := ⟨b1, o1 + k, none⟩) HC.out.2.2.1).trans (HC.out.1 k hlt), (Y1.cell (p := ⟨b2, o2 + k, none⟩) HC.out.2.2.2).trans (HC.out.2.1 k hlt)⟩
      have HE : Hid (pairTo (dig msg) ta tb (k + 1) = pairTo (dig msg) ta tb k ++ [pl0 (hashS (bys (tnth ta k))) (tnth tb k) (bn (dig msg) k), pl1 (hashS (bys (tnth ta k))) (tnth tb k) (bn (dig msg) k)]) := rfl
      have HL : Hid ((pairTo (dig msg) ta tb k).length ≤ 1000000) := by show _ ≤ _; rw [pairTo_length]; omega
      have HT : Hid (cat [tnth ta k] = bys (tnth ta k) ∧ (bys (tnth ta k)).length ≤ 1000000000) := ⟨by unfold cat; simp only [List.flatMap_cons, List.flatMap_nil, List.append_nil], by rw [bys_length, HZ.out.1 _ (tnth_mem (show k < ta.length by have := HZ.out; omega))]; decide⟩
      have HBT : Hid (∀ W, Calls Tryz.prog 94 #[.string bs, .int .i64 k] W fun e w' => e = .returned (.int .i64 (bn (dig msg) k : Int)) ∧ W = w') := fun W => bitAt_any msg bs k W HBS.out hlt
      obtain ⟨x1, x2, x3, x4⟩ := HF.out wr hb
      have x1a : ∀ o, (wr.alloc o).cell? ⟨w.heap.size, 1, none⟩ = some (.slice (some ⟨b1, o1, none⟩) 32 c1) := fun o => (HF.out _ (hb.alloc L0 o)).1
      have x2a : ∀ o, (wr.alloc o).cell? ⟨w.heap.size, 2, none⟩ = some (.slice (some ⟨b2, o2, none⟩) 32 c2) := fun o => (HF.out _ (hb.alloc L0 o)).2.1
      have x4a : ∀ o, (wr.alloc o).cell? ⟨b2, o2 + k, none⟩ = some (.string (tnth tb k)) := fun o => (HF.out _ (hb.alloc L0 o)).2.2.2
      generalize bn (dig msg) k = bb at HE HBT
      generalize tnth ta k = t1 at x3 HF HE HT
      generalize tnth tb k = t2 at x4 x4a HF HE
      have HH : Hid (∀ o : Unit, Calls Tryz.prog 33 #[.slice (some ⟨wr.heap.size, 0, none⟩) 1 1] (wr.alloc (.cells #[.string t1] 9)).drew fun e w' => e = .returned (.string (hashS (bys t1))) ∧ Below wr.heap.size wr w') := fun _ => by
        have hd := (bel_new wr (.cells #[.string t1] 9)).drew
        have hKd : KTab (wr.alloc (.cells #[.string t1] 9)).drew := GK.out.1.below (G0.trans (hd.mono G0.size)) GK.out.2
        refine (hashOf_any _ [t1] _ (RowT.drew' (row_lit wr 9 [t1] _ 1 rfl rfl)) (by simp) (by simp) (by rw [HT.out.1]; exact HT.out.2) hKd (Nat.lt_of_lt_of_le GK.out.2 (G0.trans (hd.mono G0.size)).size)).mono ?_
        rintro e w' ⟨rfl, b'⟩
        rw [HT.out.1]
        exact ⟨rfl, hd.trans (b'.mono hd.size)⟩
      clear X0
      go_wp2_with fail
      go_region_law (first
        | (go_simp; go_at_call 33; refine (HH.out ()).mono ?_; rintro e w3 ⟨rfl, b3⟩; have g3 := hb.trans (b3.mono L0); have q3 := OwnS.below ho b3; obtain ⟨y1, y2, y3, y4⟩ := HF.out w3 g3; clear b3; try go_simp)
        | (go_simp; go_at_call 94; refine (HBT.out _).mono ?_; rintro e w9 ⟨rfl, rfl⟩; try go_simp)
        | (go_simp; go_at_call 112; refine (placed_any _ _ _ _).mono ?_; rintro e w9 ⟨rfl, rfl⟩; try go_simp))
      all_goals
        go_wp2_with (at_builtin; go_must (refine list_texts (by rfl) _ _ 35 (by rfl) i0 Tryz.underlying35 hi0 hz0 hz1 hz2 (w.heap.size + 1) wz w3 _ _ [pl0 (hashS (bys t1)) t2 bb, pl1 (hashS (bys t1)) t2 bb] _ 2 rfl rfl (by decide) (by rfl) q3 g3 (HB.out w3 g3).2.2 (by rfl) HL.out ?_; intro v5 w5 o5 b5 _ _))
        rw [← HE.out] at o5
        exact ⟨⟨k + 1, by omega, by go_num, o5, b5⟩, by simp [intOf]; omega⟩
    · obtain rfl : k = 32 := by omega
      have HN : Hid ((pairTo (dig msg) ta tb 32).length = 64 ∧ (cat (pairTo (dig msg) ta tb 32)).length ≤ 60000) := ⟨pairTo_length _ _ _ 32, by rw [cat_len _ (pairTo_all _ ta tb HZ.out.1 HZ.out.2.1 32 (by have := HZ.out; omega) (by have := HZ.out; omega)), pairTo_length]; decide⟩
      obtain ⟨ts, HTS⟩ : ∃ ts, Hid (pairTo (dig msg) ta tb 32 = ts) := ⟨_, rfl⟩
      rw [HTS.out] at ho HN
      go_wp2_with fail
      refine (keyOf_any _ ts _ ho.row (fun e => by have := HN.out.1; rw [e] at this; simp at this) (by have := HN.out.1; omega) HN.out.2 (GK.out.1.below G0 GK.out.2) (Nat.lt_of_lt_of_le GK.out.2 G0.size)).mono ?_
      rintro e w3 ⟨rfl, b3⟩
      go_wp2_with fail
      go_ret
      exact ⟨Tx.ret_str (by rw [HTS.out]), G0.trans (b3.mono G0.size)⟩
end Go.Proofs.YtiflfcpoajijaaaGreatDoor.Cs
