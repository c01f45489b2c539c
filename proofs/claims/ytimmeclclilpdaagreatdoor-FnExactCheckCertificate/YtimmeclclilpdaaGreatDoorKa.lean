/- impl.keyAt, keysOf: the keys of a seed. -/
import Derived.Test.YtimmeclclilpdaaGreatDoorSe
namespace Go.Proofs.YtimmeclclilpdaaGreatDoor.Ka
open Go.RowKit Go.Proofs.YtimmeclclilpdaaGreatDoor.Sl Go.Proofs.YtimmeclclilpdaaGreatDoor.By Go.Proofs.YtimmeclclilpdaaGreatDoor.Ap Go.Proofs.YtimmeclclilpdaaGreatDoor.Tx Go.Proofs.YtimmeclclilpdaaGreatDoor.Sh Go.Proofs.YtimmeclclilpdaaGreatDoor.Ho Go.Proofs.YtimmeclclilpdaaGreatDoor.Se

/-- The hash of a secret; those of one bit; those of the bits below k. -/
def hh (seed : ByteArray) (i b v : Nat) : ByteArray := hashS (bys (sec seed i b v))
def hin (seed : ByteArray) (i b : Nat) : Nat → List ByteArray
  | 0 => []
  | m + 1 => hin seed i b m ++ [hh seed i b m]
def hidTo (seed : ByteArray) (i : Nat) : Nat → List ByteArray
  | 0 => []
  | k + 1 => hidTo seed i k ++ hin seed i k 2
def keyS (seed : ByteArray) (i : Nat) : ByteArray := keyH (hidTo seed i 32)
def keysTo (seed : ByteArray) : Nat → List ByteArray
  | 0 => []
  | k + 1 => keysTo seed k ++ [keyS seed k]
theorem hh_size (seed : ByteArray) (i b v : Nat) (hs : seed.size ≤ 60000) : (hh seed i b v).size = 32 := hash_size _ (by rw [bys_length, sec_size seed i b v hs]; decide)
theorem hin_length (seed : ByteArray) (i b : Nat) : ∀ m, (hin seed i b m).length = m
  | 0 => rfl
  | m + 1 => by unfold hin; rw [List.length_append, hin_length seed i b m]; rfl
theorem hidTo_length (seed : ByteArray) (i : Nat) : ∀ k, (hidTo seed i k).length = 2 * k
  | 0 => rfl
  | k + 1 => by unfold hidTo; rw [List.length_append, hidTo_length seed i k, hin_length]; omega
theorem hidTo_all (seed : ByteArray) (i : Nat) (hs : seed.size ≤ 60000) : ∀ k, ∀ t ∈ hidTo seed i k, t.size = 32
  | 0, t, h => by cases h
  | k + 1, t, h => by
    unfold hidTo at h
    rcases List.mem_append.1 h with h | h
    · exact hidTo_all seed i hs k t h
    · simp [hin] at h
      rcases h with rfl | rfl <;> exact hh_size _ _ _ _ hs
theorem hid_len (seed : ByteArray) (i : Nat) (hs : seed.size ≤ 60000) (k : Nat) : (cat (hidTo seed i k)).length = 64 * k := by rw [cat_len _ (hidTo_all seed i hs k), hidTo_length]; omega
theorem keyS_size (seed : ByteArray) (i : Nat) (hs : seed.size ≤ 60000) : (keyS seed i).size = 32 := keyH_size _ (by rw [hid_len seed i hs]; decide)
theorem keysTo_length (seed : ByteArray) : ∀ k, (keysTo seed k).length = k
  | 0 => rfl
  | k + 1 => by unfold keysTo; rw [List.length_append, keysTo_length seed k]; rfl
theorem keysTo_all (seed : ByteArray) (hs : seed.size ≤ 60000) : ∀ k, ∀ t ∈ keysTo seed k, t.size = 32
  | 0, t, h => by cases h
  | k + 1, t, h => by
    unfold keysTo at h
    rcases List.mem_append.1 h with h | h
    · exact keysTo_all seed hs k t h
    · rw [List.mem_singleton.1 h]
      exact keyS_size _ _ hs

set_option maxRecDepth 100000 in
set_option maxHeartbeats 800000 in
theorem keyAt_any (seed : ByteArray) (i : Nat) (w : World) (hs : seed.size ≤ 60000) (hi : i < 256) (hK : KTab w) (hp : 0 < w.heap.size) :
    Calls Tryz.prog 110 #[.string seed, .int .i64 i] w fun e w' => e = .returned (.string (keyS seed i)) ∧ Below w.heap.size w w' := by
  obtain ⟨i0, hi0, hz0, hz1, hz2⟩ := info_parts info9
  have GK : Hid (KTab w) := hK
  have HS : Hid (∀ _ : Unit, seed.size ≤ 60000 ∧ i < 256) := fun _ => ⟨hs, hi⟩
  clear hK hs hi
  go_enter Tryz.func110, Tryz.ntmps110
  go_wp2_with fail
  go_loopw [5, 8] (fun u j wr => ∃ k : Nat, k ≤ 32 ∧ j = .int .i64 k ∧ OwnS wr w.heap.size u (hidTo seed i k) ∧ Below w.heap.size w wr) (fun _ j _ => 32 - (intOf j).toNat)
  case atStart => exact ⟨0, by omega, rfl, OwnS.nil _ _, Below.refl _ _⟩
  case round =>
    obtain ⟨k, hk, rfl, ho, hb⟩ := hrel
    by_cases hlt : k < 32
    · have hlt' : decide ((k : Int) < 32) = true := by rw [decide_eq_true_eq]; omega
      have HE : Hid (hidTo seed i (k + 1) = hidTo seed i k ++ hin seed i k 2) := rfl
      have HN : Hid ((hidTo seed i k).length = 2 * k) := hidTo_length seed i k
      have ho' : OwnS wr w.heap.size u5 (hidTo seed i k ++ hin seed i k 0) := by unfold hin; rw [List.append_nil]; exact ho
      have HO : Hid (OwnS wr w.heap.size u5 (hidTo seed i k ++ hin seed i k 0)) := ho'
      clear ho ho'
      go_wp2_with fail
      go_loopw [5, 11] (fun u j wr => ∃ m : Nat, m ≤ 2 ∧ j = .int .i64 m ∧ OwnS wr w.heap.size u (hidTo seed i k ++ hin seed i k m) ∧ Below w.heap.size w wr) (fun _ j _ => 2 - (intOf j).toNat)
      case atStart => exact ⟨0, by omega, rfl, HO.out, hb⟩
      case round =>
        clear HO hb
        obtain ⟨m, hm, rfl, ho, hb⟩ := hrel
        by_cases hm2 : m < 2
        · have HI : Hid (hidTo seed i k ++ hin seed i k (m + 1) = (hidTo seed i k ++ hin seed i k m) ++ [hashS (bys (sec seed i k m))]) := by show _ = _; rw [List.append_assoc]; rfl
          have HL : Hid ((hidTo seed i k ++ hin seed i k m).length ≤ 1000000) := by show _ ≤ _; rw [List.length_append, hin_length, HN.out]; omega
          go_wp2_with fail
          refine (secretOf_any seed i k m _ (HS.out ()).1 (HS.out ()).2 (by omega) (by omega) (GK.out.below hb hp) (Nat.lt_of_lt_of_le hp hb.size)).mono ?_
          rintro e w3 ⟨rfl, b3⟩
          have hb3 := hb.trans (b3.mono hb.size)
          have ho3 := OwnS.below ho b3
          have HC : Hid (cat [sec seed i k m] = bys (sec seed i k m)) := by show _ = _; unfold cat; simp only [List.flatMap_cons, List.flatMap_nil, List.append_nil]
          have HC2 : Hid ((bys (sec seed i k m)).length ≤ 1000000000) := by show _ ≤ _; rw [bys_length, sec_size seed i k m (HS.out ()).1]; decide
          clear b3 ho hb
          generalize sec seed i k m = z at HI HC HC2
          go_wp2_with fail
          refine (hashOf_lit w3 _ 1 rfl _ [z] rfl rfl (by decide) (by decide) (by rw [HC.out]; exact HC2.out) (GK.out.below hb3 hp) (Nat.lt_of_lt_of_le hp hb3.size)).mono ?_
          rintro e w4 ⟨rfl, b4⟩
          have hb4 := hb3.trans (b4.mono hb3.size)
          have ho4 := OwnS.below ho3 b4
          rw [HC.out]
          clear b4 ho3 hb3 HC HC2
          generalize hashS (bys z) = y at HI
          go_wp2_with (at_builtin; go_must (refine list_texts (by rfl) _ _ 35 (by rfl) i0 Tryz.underlying35 hi0 hz0 hz1 hz2 w.heap.size w w4 _ _ [y] _ 1 rfl rfl (by decide) (by rfl) ho4 hb4 hb4.size (by rfl) HL.out ?_; intro v5 w5 o5 b5 _ _))
          rw [← HI.out] at o5
          go_roundw
          case rel => exact ⟨m + 1, by omega, by go_num, o5, b5⟩
          case measure => simp [intOf]; omega
        · obtain rfl : m = 2 := by omega
          rw [← HE.out] at ho
          go_wp2_with fail
          exact ⟨⟨k + 1, by omega, by go_num, ho, hb⟩, by simp [intOf]; omega⟩
    · obtain rfl : k = 32 := by omega
      have HN : Hid ((hidTo seed i 32).length = 64 ∧ (cat (hidTo seed i 32)).length ≤ 60000) := ⟨hidTo_length seed i 32, by rw [hid_len seed i (HS.out ()).1]; decide⟩
      have HR : Hid (keyS seed i = keyH (hidTo seed i 32)) := rfl
      generalize hidTo seed i 32 = ts at ho HN HR
      go_wp2_with fail
      refine (keyOf_any _ ts _ ho.row (fun e => by have := HN.out.1; rw [e] at this; simp at this) (by have := HN.out.1; omega) HN.out.2 (GK.out.below hb hp) (Nat.lt_of_lt_of_le hp hb.size)).mono ?_
      rintro e w3 ⟨rfl, b3⟩
      go_wp2_with fail
      go_ret
      exact ⟨Tx.ret_str HR.out.symm, hb.trans (b3.mono hb.size)⟩

set_option maxRecDepth 100000 in
set_option maxHeartbeats 800000 in
theorem keysOf_any (seed : ByteArray) (w : World) (hs : seed.size ≤ 60000) (hK : KTab w) (hp : 0 < w.heap.size) :
    Calls Tryz.prog 73 #[.string seed] w fun e w' => ∃ v, e = .returned v ∧ OwnS w' w.heap.size v (keysTo seed 8) ∧ Below w.heap.size w w' := by
  obtain ⟨i0, hi0, hz0, hz1, hz2⟩ := info_parts info9
  have GK : Hid (KTab w) := hK
  have HS : Hid (seed.size ≤ 60000) := hs
  clear hK hs
  go_enter Tryz.func73, Tryz.ntmps73
  go_wp2_with fail
  go_loopw [3, 5] (fun u j wr => ∃ k : Nat, k ≤ 8 ∧ j = .int .i64 k ∧ OwnS wr w.heap.size u (keysTo seed k) ∧ Below w.heap.size w wr) (fun _ j _ => 8 - (intOf j).toNat)
  case atStart => exact ⟨0, by omega, rfl, OwnS.nil _ _, Below.refl _ _⟩
  case round =>
    obtain ⟨k, hk, rfl, ho, hb⟩ := hrel
    by_cases hlt : k < 8
    · have HE : Hid (keysTo seed (k + 1) = keysTo seed k ++ [keyS seed k]) := rfl
      have HN : Hid ((keysTo seed k).length ≤ 1000000) := by show _ ≤ _; rw [keysTo_length]; omega
      go_wp2_with fail
      refine (keyAt_any seed k _ HS.out (by omega) (GK.out.below hb hp) (Nat.lt_of_lt_of_le hp hb.size)).mono ?_
      rintro e w4 ⟨rfl, b4⟩
      have hb4 := hb.trans (b4.mono hb.size)
      have ho4 := OwnS.below ho b4
      clear b4 ho hb
      generalize keyS seed k = y at HE
      go_wp2_with (at_builtin; go_must (refine list_texts (by rfl) _ _ 35 (by rfl) i0 Tryz.underlying35 hi0 hz0 hz1 hz2 w.heap.size w w4 _ _ [y] _ 1 rfl rfl (by decide) (by rfl) ho4 hb4 hb4.size (by rfl) HN.out ?_; intro v5 w5 o5 b5 _ _))
      rw [← HE.out] at o5
      exact ⟨⟨k + 1, by omega, by go_num, o5, b5⟩, by simp [intOf]; omega⟩
    · obtain rfl : k = 8 := by omega
      go_wp2_with fail
      go_ret
      exact ⟨_, rfl, ho, hb⟩
end Go.Proofs.YtimmeclclilpdaaGreatDoor.Ka
