/- Texts put together: Se, Ka, Sx, Hf, Sa. -/
import Derived.Test.YtiflfcpoajijaaaGreatDoorJMakeCertificate5
import Derived.Test.YtiflfcpoajijaaaGreatDoorJMakeCertificate9
import Derived.Test.YtiflfcpoajijaaaGreatDoorRows
import Derived.WalkKit
import Derived.ProofKit
import Derived.WalkSpells
import Derived.Laws.NewBlocks
/- impl.secretOf, nodeOf, keyOf: what they answer. -/
namespace Go.Proofs.YtiflfcpoajijaaaGreatDoor.Se
open Go.RowKit Go.Proofs.YtiflfcpoajijaaaGreatDoor.Sl Go.Proofs.YtiflfcpoajijaaaGreatDoor.By Go.Proofs.YtiflfcpoajijaaaGreatDoor.Ap Go.Proofs.YtiflfcpoajijaaaGreatDoor.Tx Go.Proofs.YtiflfcpoajijaaaGreatDoor.Sh Go.Proofs.YtiflfcpoajijaaaGreatDoor.Ho

def bSecret : ByteArray := ⟨#[115, 101, 99, 114, 101, 116]⟩
def bNode : ByteArray := ⟨#[110, 111, 100, 101]⟩
def bKey : ByteArray := ⟨#[107, 101, 121]⟩
def bDigest : ByteArray := ⟨#[100, 105, 103, 101, 115, 116]⟩
/-- The secret of one value of one bit under one key. -/
def sec (seed : ByteArray) (i b v : Nat) : ByteArray := hashS (bys bSecret ++ bys seed ++ [(i : Int), (b : Int), (v : Int)])
def node (l r : ByteArray) : ByteArray := hashS (bys bNode ++ bys l ++ bys r)
def keyH (ts : List ByteArray) : ByteArray := hashS (bys bKey ++ cat ts)
theorem hash_size (xs : List Int) (h : xs.length ≤ 65536) : (hashS xs).size = 32 := by
  unfold hashS
  rw [if_neg (by omega), strOfNums_size]
  show (outTo _ 8).length = 32
  rw [outTo_length]
theorem sec_size (seed : ByteArray) (i b v : Nat) (hs : seed.size ≤ 60000) : (sec seed i b v).size = 32 := by
  unfold sec
  apply hash_size
  rw [List.length_append, List.length_append, bys_length, bys_length]
  have : bSecret.size = 6 := rfl
  simp only [List.length_cons, List.length_nil]
  omega
theorem node_size (l r : ByteArray) (hl : l.size ≤ 32) (hr : r.size ≤ 32) : (node l r).size = 32 := by
  unfold node
  apply hash_size
  rw [List.length_append, List.length_append, bys_length, bys_length, bys_length]
  have : bNode.size = 4 := rfl
  omega
theorem keyH_size (ts : List ByteArray) (h : (cat ts).length ≤ 60000) : (keyH ts).size = 32 := by
  unfold keyH
  apply hash_size
  rw [List.length_append, bys_length]
  have : bKey.size = 3 := rfl
  omega

set_option maxHeartbeats 400000 in
theorem secretOf_any (seed : ByteArray) (i b v : Nat) (w : World) (hs : seed.size ≤ 60000) (hi : i < 256) (hb : b < 256) (hv : v < 256) (hK : KTab w) (hp : 0 < w.heap.size) :
    Calls Tryz.prog 95 #[.string seed, .int .i64 i, .int .i64 b, .int .i64 v] w fun e w' => e = .returned (.string (sec seed i b v)) ∧ Below w.heap.size w w' := by
  have hr : ∀ z ∈ [(i : Int), (b : Int), (v : Int)], 0 ≤ z ∧ z ≤ 255 := by
    intro z hz
    simp at hz
    rcases hz with rfl | rfl | rfl <;> omega
  have hcv : ∀ W : World, (convert 22 9 (.slice (some ⟨W.heap.size, 0, none⟩) 3 3)).run Tryz.prog (W.alloc (.cells #[.int .u8 i, .int .u8 b, .int .u8 v] 5)) = .ok (.string (strOfNums [(i : Int), b, v])) (W.alloc (.cells #[.int .u8 i, .int .u8 b, .int .u8 v] 5)) := fun W =>
    By.run_convert_own (P := Tryz.prog) _ W.heap.size 22 5 9 Tryz.underlying22 Tryz.underlying5 Tryz.underlying9 _ [(i : Int), b, v] (own_lit 5 W W.heap.size [(i : Int), b, v] 3 rfl (Nat.le_refl _) (by decide))
  have w1 : ((i : Int) % 256) = i := by omega
  have w2 : ((b : Int) % 256) = b := by omega
  have w3 : ((v : Int) % 256) = v := by omega
  have HE : Hid (cat [bSecret, seed, strOfNums [(i : Int), (b : Int), (v : Int)]] = bys bSecret ++ bys seed ++ [(i : Int), (b : Int), (v : Int)]) := by
    show _ = _
    unfold cat
    simp only [List.flatMap_cons, List.flatMap_nil, List.append_nil]
    rw [bys_str _ hr, List.append_assoc]
  have HL : Hid ((bys bSecret ++ bys seed ++ [(i : Int), (b : Int), (v : Int)]).length ≤ 65536) := by
    show _ ≤ _
    rw [List.length_append, List.length_append, bys_length, bys_length]
    have : bSecret.size = 6 := rfl
    simp only [List.length_cons, List.length_nil]
    omega
  have GK : Hid (KTab w) := hK
  clear hK hr
  generalize strOfNums [(i : Int), (b : Int), (v : Int)] = z at hcv HE
  go_enter Tryz.func95, Tryz.ntmps95
  go_wp2_with fail
  refine (hashOf_lit (w.alloc (.cells #[.int .u8 i, .int .u8 b, .int .u8 v] 5)) _ 3 (size_new _ _) _ [bSecret, seed, z] rfl rfl (by decide) (by decide) (by rw [HE.out]; have := HL.out; omega) (GK.out.below (bel_new _ _) hp) (by rw [size_new]; omega)).mono ?_
  rintro e w3 ⟨rfl, b3⟩
  rw [HE.out]
  go_wp2_with fail
  go_ret
  exact ⟨rfl, (bel_new w _).trans (b3.mono (by rw [size_new]; omega))⟩

set_option maxHeartbeats 400000 in
theorem nodeOf_any (l r : ByteArray) (w : World) (hl : l.size ≤ 100000) (hr : r.size ≤ 100000) (hK : KTab w) (hp : 0 < w.heap.size) :
    Calls Tryz.prog 113 #[.string l, .string r] w fun e w' => e = .returned (.string (node l r)) ∧ Below w.heap.size w w' := by
  have HE : Hid (cat [bNode, l, r] = bys bNode ++ bys l ++ bys r) := by
    show _ = _
    unfold cat
    simp only [List.flatMap_cons, List.flatMap_nil, List.append_nil]
    rw [List.append_assoc]
  have HL : Hid ((bys bNode ++ bys l ++ bys r).length ≤ 1000000000) := by
    show _ ≤ _
    rw [List.length_append, List.length_append, bys_length, bys_length, bys_length]
    have : bNode.size = 4 := rfl
    omega
  have GK : Hid (KTab w) := hK
  clear hK hl hr
  go_enter Tryz.func113, Tryz.ntmps113
  go_wp2_with fail
  refine (hashOf_lit w _ 3 rfl _ [bNode, l, r] rfl rfl (by decide) (by decide) (by rw [HE.out]; exact HL.out) GK.out hp).mono ?_
  rintro e w3 ⟨rfl, b3⟩
  rw [HE.out]
  go_wp2_with fail
  go_ret
  exact ⟨rfl, b3⟩

set_option maxHeartbeats 400000 in
theorem keyOf_any (v : Value) (ts : List ByteArray) (w : World) (h : RowT w v ts) (hne : ts ≠ []) (hl : ts.length ≤ 1000000) (hs : (cat ts).length ≤ 60000) (hK : KTab w) (hp : 0 < w.heap.size) :
    Calls Tryz.prog 114 #[v] w fun e w' => e = .returned (.string (keyH ts)) ∧ Below w.heap.size w w' := by
  have HJ := join_any v ts w h hne hl (by omega)
  have HE : Hid (cat [bKey, catS ts] = bys bKey ++ cat ts) := by
    show _ = _
    unfold cat
    simp only [List.flatMap_cons, List.flatMap_nil, List.append_nil]
    rw [bys_catS]
    rfl
  have HL : Hid ((bys bKey ++ cat ts).length ≤ 1000000000) := by
    show _ ≤ _
    rw [List.length_append, bys_length]
    have : bKey.size = 3 := rfl
    omega
  have GK : Hid (KTab w) := hK
  clear hK h hl hs hne
  go_enter Tryz.func114, Tryz.ntmps114
  go_wp2_with fail
  refine HJ.mono ?_
  rintro e w1 ⟨rfl, b1⟩
  have B1 : Hid (Below w.heap.size w w1) := b1
  clear b1
  go_wp2_with fail
  refine (hashOf_lit w1 _ 2 rfl _ [bKey, catS ts] rfl rfl (by decide) (by decide) (by rw [HE.out]; exact HL.out) (GK.out.below B1.out hp) (Nat.lt_of_lt_of_le hp B1.out.size)).mono ?_
  rintro e w3 ⟨rfl, b3⟩
  rw [HE.out]
  go_wp2_with fail
  go_ret
  exact ⟨rfl, B1.out.trans (b3.mono B1.out.size)⟩
end Go.Proofs.YtiflfcpoajijaaaGreatDoor.Se

/- impl.keyAt, keysOf: the keys of a seed. -/
namespace Go.Proofs.YtiflfcpoajijaaaGreatDoor.Ka
open Go.RowKit Go.Proofs.YtiflfcpoajijaaaGreatDoor.Sl Go.Proofs.YtiflfcpoajijaaaGreatDoor.By Go.Proofs.YtiflfcpoajijaaaGreatDoor.Ap Go.Proofs.YtiflfcpoajijaaaGreatDoor.Tx Go.Proofs.YtiflfcpoajijaaaGreatDoor.Sh Go.Proofs.YtiflfcpoajijaaaGreatDoor.Ho Go.Proofs.YtiflfcpoajijaaaGreatDoor.Se

/-- The hash of a secret; those of one bit; those of the bits below k. -/
def hh (seed : ByteArray) (i b v : Nat) : ByteArray := hashS (bys (sec seed i b v))
def hin (seed : ByteArray) (i b : Nat) : Nat → List ByteArray
  | 0 => []
  | m + 1 => hin seed i b m ++ [hh seed i b m]
def hidTo (seed : ByteArray) (i : Nat) : Nat → List ByteArray
  | 0 => []
  | k + 1 => hidTo seed i k ++ hin seed i k 2
def keyS (seed : ByteArray) (i : Nat) : ByteArray := keyH (hidTo seed i 32)
def keysTo (seed : ByteArray) : Nat → List ByteArray
  | 0 => []
  | k + 1 => keysTo seed k ++ [keyS seed k]
theorem hh_size (seed : ByteArray) (i b v : Nat) (hs : seed.size ≤ 60000) : (hh seed i b v).size = 32 := hash_size _ (by rw [bys_length, sec_size seed i b v hs]; decide)
theorem hin_length (seed : ByteArray) (i b : Nat) : ∀ m, (hin seed i b m).length = m
  | 0 => rfl
  | m + 1 => by unfold hin; rw [List.length_append, hin_length seed i b m]; rfl
theorem hidTo_length (seed : ByteArray) (i : Nat) : ∀ k, (hidTo seed i k).length = 2 * k
  | 0 => rfl
  | k + 1 => by unfold hidTo; rw [List.length_append, hidTo_length seed i k, hin_length]; omega
theorem hidTo_all (seed : ByteArray) (i : Nat) (hs : seed.size ≤ 60000) : ∀ k, ∀ t ∈ hidTo seed i k, t.size = 32
  | 0, t, h => by cases h
  | k + 1, t, h => by
    unfold hidTo at h
    rcases List.mem_append.1 h with h | h
    · exact hidTo_all seed i hs k t h
    · simp [hin] at h
      rcases h with rfl | rfl <;> exact hh_size _ _ _ _ hs
theorem hid_len (seed : ByteArray) (i : Nat) (hs : seed.size ≤ 60000) (k : Nat) : (cat (hidTo seed i k)).length = 64 * k := by rw [cat_len _ (hidTo_all seed i hs k), hidTo_length]; omega
theorem keyS_size (seed : ByteArray) (i : Nat) (hs : seed.size ≤ 60000) : (keyS seed i).size = 32 := keyH_size _ (by rw [hid_len seed i hs]; decide)
theorem keysTo_length (seed : ByteArray) : ∀ k, (keysTo seed k).length = k
  | 0 => rfl
  | k + 1 => by unfold keysTo; rw [List.length_append, keysTo_length seed k]; rfl
theorem keysTo_all (seed : ByteArray) (hs : seed.size ≤ 60000) : ∀ k, ∀ t ∈ keysTo seed k, t.size = 32
  | 0, t, h => by cases h
  | k + 1, t, h => by
    unfold keysTo at h
    rcases List.mem_append.1 h with h | h
    · exact keysTo_all seed hs k t h
    · rw [List.mem_singleton.1 h]
      exact keyS_size _ _ hs

set_option maxRecDepth 100000 in
set_option maxHeartbeats 800000 in
theorem keyAt_any (seed : ByteArray) (i : Nat) (w : World) (hs : seed.size ≤ 60000) (hi : i < 256) (hK : KTab w) (hp : 0 < w.heap.size) :
    Calls Tryz.prog 102 #[.string seed, .int .i64 i] w fun e w' => e = .returned (.string (keyS seed i)) ∧ Below w.heap.size w w' := by
  obtain ⟨i0, hi0, hz0, hz1, hz2⟩ := info_parts info9
  have GK : Hid (KTab w) := hK
  have HS : Hid (∀ _ : Unit, seed.size ≤ 60000 ∧ i < 256) := fun _ => ⟨hs, hi⟩
  clear hK hs hi
  go_enter Tryz.func102, Tryz.ntmps102
  go_wp2_with fail
  go_loopw [5, 8] (fun u j wr => ∃ k : Nat, k ≤ 32 ∧ j = .int .i64 k ∧ OwnS wr w.heap.size u (hidTo seed i k) ∧ Below w.heap.size w wr) (fun _ j _ => 32 - (intOf j).toNat)
  case atStart => exact ⟨0, by omega, rfl, OwnS.nil _ _, Below.refl _ _⟩
  case round =>
    obtain ⟨k, hk, rfl, ho, hb⟩ := hrel
    by_cases hlt : k < 32
    · have hlt' : decide ((k : Int) < 32) = true := by rw [decide_eq_true_eq]; omega
      have HE : Hid (hidTo seed i (k + 1) = hidTo seed i k ++ hin seed i k 2) := rfl
      have HN : Hid ((hidTo seed i k).length = 2 * k) := hidTo_length seed i k
      have ho' : OwnS wr w.heap.size u5 (hidTo seed i k ++ hin seed i k 0) := by unfold hin; rw [List.append_nil]; exact ho
      have HO : Hid (OwnS wr w.heap.size u5 (hidTo seed i k ++ hin seed i k 0)) := ho'
      clear ho ho'
      go_wp2_with fail
      go_loopw [5, 11] (fun u j wr => ∃ m : Nat, m ≤ 2 ∧ j = .int .i64 m ∧ OwnS wr w.heap.size u (hidTo seed i k ++ hin seed i k m) ∧ Below w.heap.size w wr) (fun _ j _ => 2 - (intOf j).toNat)
      case atStart => exact ⟨0, by omega, rfl, HO.out, hb⟩
      case round =>
        clear HO hb
        obtain ⟨m, hm, rfl, ho, hb⟩ := hrel
        by_cases hm2 : m < 2
        · have HI : Hid (hidTo seed i k ++ hin seed i k (m + 1) = (hidTo seed i k ++ hin seed i k m) ++ [hashS (bys (sec seed i k m))]) := by show _ = _; rw [List.append_assoc]; rfl
          have HL : Hid ((hidTo seed i k ++ hin seed i k m).length ≤ 1000000) := by show _ ≤ _; rw [List.length_append, hin_length, HN.out]; omega
          go_wp2_with fail
          refine (secretOf_any seed i k m _ (HS.out ()).1 (HS.out ()).2 (by omega) (by omega) (GK.out.below hb hp) (Nat.lt_of_lt_of_le hp hb.size)).mono ?_
          rintro e w3 ⟨rfl, b3⟩
          have hb3 := hb.trans (b3.mono hb.size)
          have ho3 := OwnS.below ho b3
          have HC : Hid (cat [sec seed i k m] = bys (sec seed i k m)) := by show _ = _; unfold cat; simp only [List.flatMap_cons, List.flatMap_nil, List.append_nil]
          have HC2 : Hid ((bys (sec seed i k m)).length ≤ 1000000000) := by show _ ≤ _; rw [bys_length, sec_size seed i k m (HS.out ()).1]; decide
          clear b3 ho hb
          generalize sec seed i k m = z at HI HC HC2
          go_wp2_with fail
          refine (hashOf_lit w3 _ 1 rfl _ [z] rfl rfl (by decide) (by decide) (by rw [HC.out]; exact HC2.out) (GK.out.below hb3 hp) (Nat.lt_of_lt_of_le hp hb3.size)).mono ?_
          rintro e w4 ⟨rfl, b4⟩
          have hb4 := hb3.trans (b4.mono hb3.size)
          have ho4 := OwnS.below ho3 b4
          rw [HC.out]
          clear b4 ho3 hb3 HC HC2
          generalize hashS (bys z) = y at HI
          go_wp2_with (at_builtin; go_must (refine list_texts (by rfl) _ _ 35 (by rfl) i0 Tryz.underlying35 hi0 hz0 hz1 hz2 w.heap.size w w4 _ _ [y] _ 1 rfl rfl (by decide) (by rfl) ho4 hb4 hb4.size (by rfl) HL.out ?_; intro v5 w5 o5 b5 _ _))
          rw [← HI.out] at o5
          go_roundw
          case rel => exact ⟨m + 1, by omega, by go_num, o5, b5⟩
          case measure => simp [intOf]; omega
        · obtain rfl : m = 2 := by omega
          rw [← HE.out] at ho
          go_wp2_with fail
          exact ⟨⟨k + 1, by omega, by go_num, ho, hb⟩, by simp [intOf]; omega⟩
    · obtain rfl : k = 32 := by omega
      have HN : Hid ((hidTo seed i 32).length = 64 ∧ (cat (hidTo seed i 32)).length ≤ 60000) := ⟨hidTo_length seed i 32, by rw [hid_len seed i (HS.out ()).1]; decide⟩
      have HR : Hid (keyS seed i = keyH (hidTo seed i 32)) := rfl
      generalize hidTo seed i 32 = ts at ho HN HR
      go_wp2_with fail
      refine (keyOf_any _ ts _ ho.row (fun e => by have := HN.out.1; rw [e] at this; simp at this) (by have := HN.out.1; omega) HN.out.2 (GK.out.below hb hp) (Nat.lt_of_lt_of_le hp hb.size)).mono ?_
      rintro e w3 ⟨rfl, b3⟩
      go_wp2_with fail
      go_ret
      exact ⟨Tx.ret_str HR.out.symm, hb.trans (b3.mono hb.size)⟩

set_option maxRecDepth 100000 in
set_option maxHeartbeats 800000 in
theorem keysOf_any (seed : ByteArray) (w : World) (hs : seed.size ≤ 60000) (hK : KTab w) (hp : 0 < w.heap.size) :
    Calls Tryz.prog 67 #[.string seed] w fun e w' => ∃ v, e = .returned v ∧ OwnS w' w.heap.size v (keysTo seed 8) ∧ Below w.heap.size w w' := by
  obtain ⟨i0, hi0, hz0, hz1, hz2⟩ := info_parts info9
  have GK : Hid (KTab w) := hK
  have HS : Hid (seed.size ≤ 60000) := hs
  clear hK hs
  go_enter Tryz.func67, Tryz.ntmps67
  go_wp2_with fail
  go_loopw [3, 5] (fun u j wr => ∃ k : Nat, k ≤ 8 ∧ j = .int .i64 k ∧ OwnS wr w.heap.size u (keysTo seed k) ∧ Below w.heap.size w wr) (fun _ j _ => 8 - (intOf j).toNat)
  case atStart => exact ⟨0, by omega, rfl, OwnS.nil _ _, Below.refl _ _⟩
  case round =>
    obtain ⟨k, hk, rfl, ho, hb⟩ := hrel
    by_cases hlt : k < 8
    · have HE : Hid (keysTo seed (k + 1) = keysTo seed k ++ [keyS seed k]) := rfl
      have HN : Hid ((keysTo seed k).length ≤ 1000000) := by show _ ≤ _; rw [keysTo_length]; omega
      go_wp2_with fail
      refine (keyAt_any seed k _ HS.out (by omega) (GK.out.below hb hp) (Nat.lt_of_lt_of_le hp hb.size)).mono ?_
      rintro e w4 ⟨rfl, b4⟩
      have hb4 := hb.trans (b4.mono hb.size)
      have ho4 := OwnS.below ho b4
      clear b4 ho hb
      generalize keyS seed k = y at HE
      go_wp2_with (at_builtin; go_must (refine list_texts (by rfl) _ _ 35 (by rfl) i0 Tryz.underlying35 hi0 hz0 hz1 hz2 w.heap.size w w4 _ _ [y] _ 1 rfl rfl (by decide) (by rfl) ho4 hb4 hb4.size (by rfl) HN.out ?_; intro v5 w5 o5 b5 _ _))
      rw [← HE.out] at o5
      exact ⟨⟨k + 1, by omega, by go_num, o5, b5⟩, by simp [intOf]; omega⟩
    · obtain rfl : k = 8 := by omega
      go_wp2_with fail
      go_ret
      exact ⟨_, rfl, ho, hb⟩
end Go.Proofs.YtiflfcpoajijaaaGreatDoor.Ka

/- The specification's secrets, nodes and keys. -/
namespace Go.Proofs.YtiflfcpoajijaaaGreatDoor.Sx
open Go.RowKit Go.Proofs.YtiflfcpoajijaaaGreatDoor.Sl Go.Proofs.YtiflfcpoajijaaaGreatDoor.By Go.Proofs.YtiflfcpoajijaaaGreatDoor.Ap Go.Proofs.YtiflfcpoajijaaaGreatDoor.Tx Go.Proofs.YtiflfcpoajijaaaGreatDoor.Sh Go.Proofs.YtiflfcpoajijaaaGreatDoor.Ho Go.Proofs.YtiflfcpoajijaaaGreatDoor.Se Go.Proofs.YtiflfcpoajijaaaGreatDoor.Ka

theorem hash1_any (v : Value) (xs : List Int) (w : World) (h : RowB w v xs) (hl : xs.length ≤ 65536) :
    Calls Tryz.prog 74 #[v] w fun e w' => e = .returned (.string (hashS xs)) ∧ Below w.heap.size w w' := by
  have e : hashS xs = strOfNums (sha xs) := if_neg (by omega)
  rw [e]
  exact l01Hash_any v xs w h hl

set_option maxRecDepth 100000 in
set_option maxHeartbeats 400000 in
theorem l03Secret_any (seed : ByteArray) (i b v : Nat) (w : World) (hs : seed.size ≤ 60000) (hi : i < 256) (hb : b < 256) (hv : v < 256) :
    Calls Tryz.prog 77 #[.string seed, .int .i64 i, .int .i64 b, .int .i64 v] w fun e w' => e = .returned (.string (sec seed i b v)) ∧ Below w.heap.size w w' := by
  have hr : ∀ z ∈ [(i : Int), (b : Int), (v : Int)], 0 ≤ z ∧ z ≤ 255 := by
    intro z hz
    simp at hz
    rcases hz with rfl | rfl | rfl <;> omega
  have hcv : ∀ W : World, (convert 22 9 (.slice (some ⟨W.heap.size, 0, none⟩) 3 3)).run Tryz.prog (W.alloc (.cells #[.int .u8 i, .int .u8 b, .int .u8 v] 5)) = .ok (.string (strOfNums [(i : Int), b, v])) (W.alloc (.cells #[.int .u8 i, .int .u8 b, .int .u8 v] 5)) := fun W =>
    By.run_convert_own (P := Tryz.prog) _ W.heap.size 22 5 9 Tryz.underlying22 Tryz.underlying5 Tryz.underlying9 _ [(i : Int), b, v] (own_lit 5 W W.heap.size [(i : Int), b, v] 3 rfl (Nat.le_refl _) (by decide))
  have w1 : ((i : Int) % 256) = i := by omega
  have w2 : ((b : Int) % 256) = b := by omega
  have w3 : ((v : Int) % 256) = v := by omega
  have HE : Hid (bys ((bSecret ++ seed) ++ strOfNums [(i : Int), (b : Int), (v : Int)]) = bys bSecret ++ bys seed ++ [(i : Int), (b : Int), (v : Int)]) := by
    show _ = _
    rw [bys_append, bys_append, bys_str _ hr]
  have HL : Hid ((bys bSecret ++ bys seed ++ [(i : Int), (b : Int), (v : Int)]).length ≤ 65536) := by
    show _ ≤ _
    rw [List.length_append, List.length_append, bys_length, bys_length]
    have : bSecret.size = 6 := rfl
    simp only [List.length_cons, List.length_nil]
    omega
  have hz3 : (strOfNums [(i : Int), (b : Int), (v : Int)]).size = 3 := by rw [strOfNums_size]; rfl
  have hA : ¬ 9223372036854775807 < (⟨#[115, 101, 99, 114, 101, 116]⟩ : ByteArray).size + seed.size := by have : (⟨#[115, 101, 99, 114, 101, 116]⟩ : ByteArray).size = 6 := rfl; omega
  have hA' : ¬ 9223372036854775807 < 6 + seed.size := by omega
  have hB : ¬ 9223372036854775807 < ((⟨#[115, 101, 99, 114, 101, 116]⟩ : ByteArray) ++ seed).size + (strOfNums [(i : Int), (b : Int), (v : Int)]).size := by
    rw [ByteArray.size_append, hz3]; have : (⟨#[115, 101, 99, 114, 101, 116]⟩ : ByteArray).size = 6 := rfl; omega
  have hB' : ¬ 9223372036854775807 < 6 + seed.size + (strOfNums [(i : Int), (b : Int), (v : Int)]).size := by omega
  clear hr hz3
  generalize strOfNums [(i : Int), (b : Int), (v : Int)] = z at hcv HE hB hB'
  obtain ⟨v2, w2, hc2, r2, b2⟩ := bytes_run ((bSecret ++ seed) ++ z) (w.alloc (.cells #[.int .u8 i, .int .u8 b, .int .u8 v] 5))
  have hc2' : (convert 9 22 (.string (((⟨#[115, 101, 99, 114, 101, 116]⟩ : ByteArray) ++ seed) ++ z))).run Tryz.prog (w.alloc (.cells #[.int .u8 i, .int .u8 b, .int .u8 v] 5)) = .ok v2 w2 := hc2
  have R2 : Hid (RowB w2 v2 (bys ((bSecret ++ seed) ++ z))) := r2
  have B2 : Hid (Below w.heap.size w w2) := (bel_new w _).trans (b2.mono (by rw [size_new]; omega))
  clear hc2 r2 b2
  go_enter Tryz.func77, Tryz.ntmps77
  go_wp2_with fail
  refine (hash1_any v2 _ w2 R2.out (by rw [HE.out]; exact HL.out)).mono ?_
  rintro e w3 ⟨rfl, b3⟩
  rw [HE.out]
  go_wp2_with fail
  go_ret
  exact ⟨rfl, B2.out.trans (b3.mono B2.out.size)⟩

set_option maxRecDepth 100000 in
set_option maxHeartbeats 400000 in
theorem l03Node_any (l r : ByteArray) (w : World) (hl : l.size ≤ 30000) (hr : r.size ≤ 30000) :
    Calls Tryz.prog 75 #[.string l, .string r] w fun e w' => e = .returned (.string (node l r)) ∧ Below w.heap.size w w' := by
  have HE : Hid (bys ((bNode ++ l) ++ r) = bys bNode ++ bys l ++ bys r) := by
    show _ = _
    rw [bys_append, bys_append]
  have HL : Hid ((bys bNode ++ bys l ++ bys r).length ≤ 65536) := by
    show _ ≤ _
    rw [List.length_append, List.length_append, bys_length, bys_length, bys_length]
    have : bNode.size = 4 := rfl
    omega
  have hA : ¬ 9223372036854775807 < (⟨#[110, 111, 100, 101]⟩ : ByteArray).size + l.size := by have : (⟨#[110, 111, 100, 101]⟩ : ByteArray).size = 4 := rfl; omega
  have hA' : ¬ 9223372036854775807 < 4 + l.size := by omega
  have hB : ¬ 9223372036854775807 < ((⟨#[110, 111, 100, 101]⟩ : ByteArray) ++ l).size + r.size := by
    rw [ByteArray.size_append]; have : (⟨#[110, 111, 100, 101]⟩ : ByteArray).size = 4 := rfl; omega
  have hB' : ¬ 9223372036854775807 < 4 + l.size + r.size := by omega
  obtain ⟨v2, w2, hc2, r2, b2⟩ := bytes_run ((bNode ++ l) ++ r) w
  have hc2' : (convert 9 22 (.string (((⟨#[110, 111, 100, 101]⟩ : ByteArray) ++ l) ++ r))).run Tryz.prog w = .ok v2 w2 := hc2
  have R2 : Hid (RowB w2 v2 (bys ((bNode ++ l) ++ r))) := r2
  have B2 : Hid (Below w.heap.size w w2) := b2
  clear hc2 r2 b2
  go_enter Tryz.func75, Tryz.ntmps75
  go_wp2_with fail
  refine (hash1_any v2 _ w2 R2.out (by rw [HE.out]; exact HL.out)).mono ?_
  rintro e w3 ⟨rfl, b3⟩
  rw [HE.out]
  go_wp2_with fail
  go_ret
  exact ⟨rfl, B2.out.trans (b3.mono B2.out.size)⟩
end Go.Proofs.YtiflfcpoajijaaaGreatDoor.Sx

/- impl.hashFault and keyFault, and what stands in a range. -/
namespace Go.Proofs.YtiflfcpoajijaaaGreatDoor.Hf
open Go.RowKit

/-- What hashFault answers. -/
def hf (s : ByteArray) : Int := if 65536 < s.size then 2 else if s.size = 32 then 0 else 1
theorem hf_ok {s : ByteArray} (h : s.size = 32) : hf s = 0 := by unfold hf; rw [if_neg (by omega), if_pos h]
theorem hf_long {s : ByteArray} (h : 65536 < s.size) : hf s = 2 := if_pos h
theorem hf_bad {s : ByteArray} (h : ¬ 65536 < s.size) (h2 : s.size ≠ 32) : hf s = 1 := by unfold hf; rw [if_neg h, if_neg h2]
theorem ret_int {a b : Int} (h : a = b) : Ending.returned (.int .i64 a) = .returned (.int .i64 b) := by rw [h]
theorem hashFault_any (s : ByteArray) (w : World) : Calls Tryz.prog 65 #[.string s] w fun e w' => e = .returned (.int .i64 (hf s)) ∧ w = w' := by
  by_cases h1 : 65536 < s.size
  · have HE : Hid (hf s = 2) := hf_long h1
    have h1' : (65536 : Int) < (s.size : Int) := by omega
    go_enter Tryz.func65, Tryz.ntmps65
    go_wp2
    go_ret
    exact ⟨ret_int HE.out.symm, rfl⟩
  · have h1' : (s.size : Int) ≤ 65536 := by omega
    by_cases h2 : s.size = 32
    · have HE : Hid (hf s = 0) := hf_ok h2
      have h2' : ((s.size : Int) != 32) = false := by simp; omega
      clear h2
      go_enter Tryz.func65, Tryz.ntmps65
      go_wp2
      go_ret
      exact ⟨ret_int HE.out.symm, rfl⟩
    · have HE : Hid (hf s = 1) := hf_bad h1 h2
      have h2' : ((s.size : Int) != 32) = true := by simp; omega
      clear h2
      go_enter Tryz.func65, Tryz.ntmps65
      go_wp2
      go_ret
      exact ⟨ret_int HE.out.symm, rfl⟩
theorem hashFault_ok (s : ByteArray) (w : World) (h : s.size = 32) : Calls Tryz.prog 65 #[.string s] w fun e w' => e = .returned (.int .i64 0) ∧ w = w' := by
  rw [← hf_ok h]; exact hashFault_any s w
/-- What keyFault answers. -/
def inR (n a b : Int) : Bool := decide (a ≤ n) && decide (n ≤ b)
def kf (s : ByteArray) (i : Int) : Int := if hf s = 0 then (if inR i 0 7 then 0 else 4) else hf s
theorem ret_bool {a b : Bool} (h : a = b) : Ending.returned (.bool a) = .returned (.bool b) := by rw [h]
theorem within_any (n a b : Int) (w : World) : Calls Tryz.prog 62 #[.int .i64 n, .int .i64 a, .int .i64 b] w fun e w' => e = .returned (.bool (inR n a b)) ∧ w = w' := by
  by_cases h1 : a ≤ n
  · by_cases h2 : n ≤ b
    · have HE : Hid (inR n a b = true) := by show _ = _; unfold inR; rw [decide_eq_true h1, decide_eq_true h2]; rfl
      go_enter Tryz.func62, Tryz.ntmps62
      go_wp2
      go_ret
      exact ⟨ret_bool HE.out.symm, rfl⟩
    · have HE : Hid (inR n a b = false) := by show _ = _; unfold inR; rw [decide_eq_false h2, Bool.and_false]
      go_enter Tryz.func62, Tryz.ntmps62
      go_wp2
      go_ret
      exact ⟨ret_bool HE.out.symm, rfl⟩
  · have HE : Hid (inR n a b = false) := by show _ = _; unfold inR; rw [decide_eq_false h1, Bool.false_and]
    go_enter Tryz.func62, Tryz.ntmps62
    go_wp2
    go_ret
    exact ⟨ret_bool HE.out.symm, rfl⟩
theorem l01In_any (n a b : Int) (w : World) : Calls Tryz.prog 44 #[.int .i64 n, .int .i64 a, .int .i64 b] w fun e w' => e = .returned (.bool (inR n a b)) ∧ w = w' := by
  by_cases h1 : a ≤ n
  · by_cases h2 : n ≤ b
    · have HE : Hid (inR n a b = true) := by show _ = _; unfold inR; rw [decide_eq_true h1, decide_eq_true h2]; rfl
      go_enter Tryz.func44, Tryz.ntmps44
      go_wp2
      go_ret
      exact ⟨ret_bool HE.out.symm, rfl⟩
    · have HE : Hid (inR n a b = false) := by show _ = _; unfold inR; rw [decide_eq_false h2, Bool.and_false]
      go_enter Tryz.func44, Tryz.ntmps44
      go_wp2
      go_ret
      exact ⟨ret_bool HE.out.symm, rfl⟩
  · have HE : Hid (inR n a b = false) := by show _ = _; unfold inR; rw [decide_eq_false h1, Bool.false_and]
    go_enter Tryz.func44, Tryz.ntmps44
    go_wp2
    go_ret
    exact ⟨ret_bool HE.out.symm, rfl⟩
theorem keyIndexOK_any (i : Int) (w : World) : Calls Tryz.prog 54 #[.int .i64 i] w fun e w' => e = .returned (.bool (inR i 0 7)) ∧ w = w' := by
  go_enter Tryz.func54, Tryz.ntmps54
  go_wp2_with fail
  refine (within_any i 0 7 w).mono ?_
  rintro e w1 ⟨rfl, rfl⟩
  go_wp2_with fail
  go_ret
  exact ⟨rfl, rfl⟩
theorem keyFault_any (s : ByteArray) (i : Int) (w : World) : Calls Tryz.prog 60 #[.string s, .int .i64 i] w fun e w' => e = .returned (.int .i64 (kf s i)) ∧ w = w' := by
  by_cases h : hf s = 0
  · cases hb : inR i 0 7 with
    | true =>
      have HE : Hid (kf s i = 0) := by show _ = _; unfold kf; rw [if_pos h, hb]; rfl
      go_enter Tryz.func60, Tryz.ntmps60
      go_wp2_with fail
      refine (hashFault_any s w).mono ?_
      rintro e w1 ⟨rfl, rfl⟩
      rw [h]
      go_wp2_with fail
      refine (keyIndexOK_any i w).mono ?_
      rintro e w1 ⟨rfl, rfl⟩
      rw [hb]
      go_wp2_with fail
      go_ret
      exact ⟨ret_int HE.out.symm, rfl⟩
    | false =>
      have HE : Hid (kf s i = 4) := by show _ = _; unfold kf; rw [if_pos h, hb]; rfl
      go_enter Tryz.func60, Tryz.ntmps60
      go_wp2_with fail
      refine (hashFault_any s w).mono ?_
      rintro e w1 ⟨rfl, rfl⟩
      rw [h]
      go_wp2_with fail
      refine (keyIndexOK_any i w).mono ?_
      rintro e w1 ⟨rfl, rfl⟩
      rw [hb]
      go_wp2_with fail
      go_ret
      exact ⟨ret_int HE.out.symm, rfl⟩
  · have HE : Hid (kf s i = hf s) := if_neg h
    have h' : (hf s != 0) = true := by simpa using h
    go_enter Tryz.func60, Tryz.ntmps60
    go_wp2_with fail
    refine (hashFault_any s w).mono ?_
    rintro e w1 ⟨rfl, rfl⟩
    clear h
    generalize hf s = c at HE h'
    go_wp2_with fail
    go_ret
    exact ⟨ret_int HE.out.symm, rfl⟩
end Go.Proofs.YtiflfcpoajijaaaGreatDoor.Hf

/- SecretAt, of the program and of the specification. -/
namespace Go.Proofs.YtiflfcpoajijaaaGreatDoor.Sa
open Go.RowKit Go.Proofs.YtiflfcpoajijaaaGreatDoor.Sl Go.Proofs.YtiflfcpoajijaaaGreatDoor.By Go.Proofs.YtiflfcpoajijaaaGreatDoor.Ap Go.Proofs.YtiflfcpoajijaaaGreatDoor.Tx Go.Proofs.YtiflfcpoajijaaaGreatDoor.Sh Go.Proofs.YtiflfcpoajijaaaGreatDoor.Ho Go.Proofs.YtiflfcpoajijaaaGreatDoor.Se Go.Proofs.YtiflfcpoajijaaaGreatDoor.Ka Go.Proofs.YtiflfcpoajijaaaGreatDoor.Sx Go.Proofs.YtiflfcpoajijaaaGreatDoor.Hf

theorem ret_sc {s t : ByteArray} {a b : Int} (h : s = t ∧ a = b) : Ending.returned (.tuple #[.string s, .int .i64 a]) = .returned (.tuple #[.string t, .int .i64 b]) := by rw [h.1, h.2]
theorem inR_nat {n a b : Int} (h : inR n a b = true) : a ≤ n ∧ n ≤ b := by unfold inR at h; simpa using h
/-- What SecretAt answers. -/
def sCode (s : ByteArray) (i b v : Int) : Int := if kf s i = 0 then (if inR b 0 31 && inR v 0 1 then 0 else 4) else kf s i
def sOut (s : ByteArray) (i b v : Int) : ByteArray := if sCode s i b v = 0 then sec s i.toNat b.toNat v.toNat else ⟨#[]⟩
theorem kf_cases (s : ByteArray) (i : Int) : (65536 < s.size ∧ kf s i = 2) ∨ (¬ 65536 < s.size ∧ s.size ≠ 32 ∧ kf s i = 1) ∨ (s.size = 32 ∧ inR i 0 7 = false ∧ kf s i = 4) ∨ (s.size = 32 ∧ inR i 0 7 = true ∧ kf s i = 0) := by
  unfold kf
  by_cases h1 : 65536 < s.size
  · rw [hf_long h1]; exact .inl ⟨h1, rfl⟩
  · by_cases h2 : s.size = 32
    · rw [hf_ok h2]
      cases inR i 0 7 with
      | true => exact .inr (.inr (.inr ⟨h2, rfl, rfl⟩))
      | false => exact .inr (.inr (.inl ⟨h2, rfl, rfl⟩))
    · rw [hf_bad h1 h2]; exact .inr (.inl ⟨h1, h2, rfl⟩)
theorem kf_good {s : ByteArray} {i : Int} (h : kf s i = 0) : s.size = 32 ∧ inR i 0 7 = true := by
  rcases kf_cases s i with ⟨_, hk⟩ | ⟨_, _, hk⟩ | ⟨_, _, hk⟩ | ⟨h2, h3, _⟩
  · omega
  · omega
  · omega
  · exact ⟨h2, h3⟩

end Go.Proofs.YtiflfcpoajijaaaGreatDoor.Sa
