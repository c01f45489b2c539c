/- The specification's keys; OneTimeKey, of both. -/
import Derived.Test.YtimmeclclilpdaaGreatDoorSa
import Derived.Test.YtimmeclclilpdaaGreatDoorFu
namespace Go.Proofs.YtimmeclclilpdaaGreatDoor.Kx
open Go.RowKit Go.Proofs.YtimmeclclilpdaaGreatDoor.Sl Go.Proofs.YtimmeclclilpdaaGreatDoor.By Go.Proofs.YtimmeclclilpdaaGreatDoor.Ap Go.Proofs.YtimmeclclilpdaaGreatDoor.Tx Go.Proofs.YtimmeclclilpdaaGreatDoor.Sh Go.Proofs.YtimmeclclilpdaaGreatDoor.Ho Go.Proofs.YtimmeclclilpdaaGreatDoor.Se Go.Proofs.YtimmeclclilpdaaGreatDoor.Ka Go.Proofs.YtimmeclclilpdaaGreatDoor.Sx Go.Proofs.YtimmeclclilpdaaGreatDoor.Hf Go.Proofs.YtimmeclclilpdaaGreatDoor.Sa Go.Proofs.YtimmeclclilpdaaGreatDoor.Fu

theorem cat_range (ts : List ByteArray) : ∀ z ∈ cat ts, 0 ≤ z ∧ z ≤ 255 := by
  intro z hz
  unfold cat at hz
  obtain ⟨t, _, h⟩ := List.mem_flatMap.1 hz
  exact bys_range t z h
def allTo (ts : List ByteArray) : List Int := bys bKey ++ cat ts
theorem allTo_range (ts : List ByteArray) : ∀ z ∈ allTo ts, 0 ≤ z ∧ z ≤ 255 := by
  intro z hz
  rcases List.mem_append.1 hz with h | h
  · exact bys_range _ z h
  · exact cat_range ts z h
theorem allTo_snoc (ts : List ByteArray) (t : ByteArray) : allTo (ts ++ [t]) = allTo ts ++ bys t := by
  unfold allTo
  rw [cat_append, ← List.append_assoc]
  congr 1
  unfold cat
  simp only [List.flatMap_cons, List.flatMap_nil, List.append_nil]
theorem allTo_len (ts : List ByteArray) (h : ∀ t ∈ ts, t.size = 32) : (allTo ts).length = 3 + 32 * ts.length := by
  unfold allTo
  rw [List.length_append, bys_length, cat_len ts h]
  rfl
theorem hin_all (seed : ByteArray) (i k : Nat) (hs : seed.size ≤ 60000) : ∀ m, ∀ t ∈ hin seed i k m, t.size = 32
  | 0, t, h => by cases h
  | m + 1, t, h => by
    unfold hin at h
    rcases List.mem_append.1 h with h | h
    · exact hin_all seed i k hs m t h
    · rw [List.mem_singleton.1 h]
      exact hh_size _ _ _ _ hs
theorem both_len (seed : ByteArray) (i k m : Nat) (hs : seed.size ≤ 60000) : (allTo (hidTo seed i k ++ hin seed i k m)).length = 3 + 32 * (2 * k + m) := by
  rw [allTo_len, List.length_append, hidTo_length, hin_length]
  intro t ht
  rcases List.mem_append.1 ht with h | h
  · exact hidTo_all seed i hs k t h
  · exact hin_all seed i k hs m t h

set_option maxRecDepth 100000 in
set_option maxHeartbeats 800000 in
theorem l03Key_any (seed : ByteArray) (i : Nat) (w : World) (hs : seed.size ≤ 60000) (hi : i < 256) :
    Calls Tryz.prog 76 #[.string seed, .int .i64 i] w fun e w' => e = .returned (.string (keyS seed i)) ∧ Below w.heap.size w w' := by
  obtain ⟨i0, hi0, hz0, hz1, hz2⟩ := info_parts info5
  have HS : Hid (∀ _ : Unit, seed.size ≤ 60000 ∧ i < 256) := fun _ => ⟨hs, hi⟩
  have H0 : Hid (OwnF (w.alloc (.cells #[.int .u8 107, .int .u8 101, .int .u8 121] 5 (3, 4))) w.heap.size (.slice (some ⟨w.heap.size, 0, none⟩) 3 3) (allTo (hidTo seed i 0))) := full_lit w [107, 101, 121] 3 rfl _ rfl _
  have hk0 := Lib.run_convert_bytes_const (P := Tryz.prog) w 22 5 #[.int .u8 107, .int .u8 101, .int .u8 121] 3 3 Tryz.underlying22 Tryz.underlying5
  clear hs hi
  go_enter Tryz.func76, Tryz.ntmps76
  go_wp2_with fail
  clear hk0
  go_loopw [5, 6] (fun u j wr => ∃ k : Nat, k ≤ 32 ∧ j = .int .i64 k ∧ OwnF wr w.heap.size u (allTo (hidTo seed i k)) ∧ Below w.heap.size w wr) (fun _ j _ => 32 - (intOf j).toNat)
  case atStart => exact ⟨0, by omega, rfl, H0.out, bel_new _ _⟩
  case round =>
    clear H0
    obtain ⟨k, hk, rfl, ho, hb⟩ := hrel
    by_cases hlt : k < 32
    · have hlt' : decide ((k : Int) < 32) = true := by rw [decide_eq_true_eq]; omega
      have HE : Hid (hidTo seed i (k + 1) = hidTo seed i k ++ hin seed i k 2) := rfl
      have ho' : OwnF wr w.heap.size u5 (allTo (hidTo seed i k ++ hin seed i k 0)) := by unfold hin; rw [List.append_nil]; exact ho
      have HO : Hid (OwnF wr w.heap.size u5 (allTo (hidTo seed i k ++ hin seed i k 0))) := ho'
      clear ho ho'
      go_wp2_with fail
      go_loopw [5, 7] (fun u j wr => ∃ m : Nat, m ≤ 2 ∧ j = .int .i64 m ∧ OwnF wr w.heap.size u (allTo (hidTo seed i k ++ hin seed i k m)) ∧ Below w.heap.size w wr) (fun _ j _ => 2 - (intOf j).toNat)
      case atStart => exact ⟨0, by omega, rfl, HO.out, hb⟩
      case round =>
        clear HO hb
        obtain ⟨m, hm, rfl, ho, hb⟩ := hrel
        by_cases hm2 : m < 2
        · have HI : Hid (allTo (hidTo seed i k ++ hin seed i k (m + 1)) = allTo (hidTo seed i k ++ hin seed i k m) ++ bys (hashS (bys (sec seed i k m)))) := by show _ = _; rw [← allTo_snoc, List.append_assoc]; rfl
          have HL : Hid ((allTo (hidTo seed i k ++ hin seed i k m)).length ≤ 100000) := by show _ ≤ _; rw [both_len seed i k m (HS.out ()).1]; omega
          go_wp2_with fail
          refine (l03Secret_any seed i k m _ (HS.out ()).1 (HS.out ()).2 (by omega) (by omega)).mono ?_
          rintro e w3 ⟨rfl, b3⟩
          have HC2 : Hid ((bys (sec seed i k m)).length ≤ 65536) := by show _ ≤ _; rw [bys_length, sec_size seed i k m (HS.out ()).1]; decide
          generalize sec seed i k m = z at HI HC2
          obtain ⟨v4, w4, hcv, r4, b4⟩ := bytes_run z w3
          have hb4 := hb.trans ((b3.trans (b4.mono b3.size)).mono hb.size)
          have ho4 := OwnF.below ho (b3.trans (b4.mono b3.size))
          have R4 : Hid (RowB w4 v4 (bys z)) := r4
          clear b3 b4 ho hb r4
          go_wp2_with fail
          refine (hash1_any v4 _ w4 R4.out HC2.out).mono ?_
          rintro e w5 ⟨rfl, b5⟩
          have hb5 := hb4.trans (b5.mono hb4.size)
          have ho5 := OwnF.below ho4 b5
          have HZ : Hid ((hashS (bys z)).size ≤ 100000 ∧ 0 < (hashS (bys z)).size) := by show _ ∧ _; rw [hash_size _ HC2.out]; decide
          clear b5 hb4 ho4 R4 HC2 hcv
          generalize hashS (bys z) = y at HI HZ
          go_wp2_with (at_builtin; go_must (refine list_strF (by rfl) _ _ 22 9 (by rfl) Tryz.underlying22 Tryz.underlying9 hi0 hz0 hz1 hz2 w.heap.size w5 _ y _ (by rfl) (by rfl) ho5 hb5.size (by have := HL.out; have := HZ.out.1; omega) HZ.out.2 ?_; intro v6 w6 o6 k6))
          rw [← HI.out] at o6
          have b6 := hb5.trans k6
          go_roundw
          case rel => exact ⟨m + 1, by omega, by go_num, o6, b6⟩
          case measure => simp [intOf]; omega
        · obtain rfl : m = 2 := by omega
          rw [← HE.out] at ho
          go_wp2_with fail
          exact ⟨⟨k + 1, by omega, by go_num, ho, hb⟩, by simp [intOf]; omega⟩
    · obtain rfl : k = 32 := by omega
      have HN : Hid ((allTo (hidTo seed i 32)).length ≤ 65536) := by show _ ≤ _; rw [allTo_len _ (hidTo_all seed i (HS.out ()).1 32), hidTo_length]; decide
      have HR : Hid (keyS seed i = hashS (allTo (hidTo seed i 32))) := rfl
      have HG : Hid (∀ z ∈ allTo (hidTo seed i 32), 0 ≤ z ∧ z ≤ 255) := allTo_range _
      generalize allTo (hidTo seed i 32) = ts at ho HN HR HG
      go_wp2_with fail
      refine (hash1_any _ ts _ (OwnF.rowB ho HG.out) HN.out).mono ?_
      rintro e w3 ⟨rfl, b3⟩
      go_wp2_with fail
      go_ret
      exact ⟨Tx.ret_str HR.out.symm, hb.trans (b3.mono hb.size)⟩

/-- What OneTimeKey answers. -/
def kOut (s : ByteArray) (i : Int) : ByteArray := if kf s i = 0 then keyS s i.toNat else ⟨#[]⟩
end Go.Proofs.YtimmeclclilpdaaGreatDoor.Kx
