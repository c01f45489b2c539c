/- Texts put together: Px, Se, Ka, Sx, Py, Pz. -/
import Derived.Test.YtnebohdlndiejaaGreatDoorJMakeStable2
import Derived.Lib.Strings
import Derived.Lib.Small
import Derived.Lib.Walk
import Derived.Lib.BitFns
import Derived.Test.YtnebohdlndiejaaGreatDoorHo
import Derived.Test.YtnebohdlndiejaaGreatDoorShaL
import Derived.Deep.RegionLaw
import Derived.Lib.SlBytesConst
/- Where a tree of pieces forks: impl.forkOf, the specification's l09Half. -/
namespace Go.Proofs.YtnebohdlndiejaaGreatDoor.Px
open Go.RowKit Go.Proofs.YtnebohdlndiejaaGreatDoor.Pf

/-- The highest power of 2 below n. -/
def half (n : Nat) : Nat := if n ≤ 2 then 1 else if n ≤ 4 then 2 else if n ≤ 8 then 4 else if n ≤ 16 then 8 else if n ≤ 32 then 16 else 32
theorem half_lt {n : Nat} (h : 2 ≤ n) : 1 ≤ half n ∧ half n < n ∧ half n ≤ 32 := by
  unfold half
  repeat' split
  all_goals omega
theorem bit_half : ∀ x : Fin 64, 1 ≤ x.val → (Lib.bitLen x.val = 1 ∧ half (x.val + 1) = 1) ∨ (Lib.bitLen x.val = 2 ∧ half (x.val + 1) = 2) ∨ (Lib.bitLen x.val = 3 ∧ half (x.val + 1) = 4) ∨ (Lib.bitLen x.val = 4 ∧ half (x.val + 1) = 8) ∨ (Lib.bitLen x.val = 5 ∧ half (x.val + 1) = 16) ∨ (Lib.bitLen x.val = 6 ∧ half (x.val + 1) = 32) := by decide +kernel
theorem tab64 : ∀ (x : Fin 64) (h : x.val < Lib.len8tab.size), wrap64 (wrap64 ((Lib.len8tab[x.val]'h).toNat : Int)) = (Lib.bitLen x.val : Int) := by decide +kernel
set_option maxRecDepth 100000 in
set_option maxHeartbeats 1000000 in
theorem len64_any (x : Int) (w : World) (h0 : 0 ≤ x) (h1 : x < 64) : Calls Tryz.prog 175 #[.int .u64 x] w fun e w' => e = .returned (.int .i64 (Lib.bitLen x.toNat)) ∧ w = w' := by
  have q1 : ¬ 4294967296 ≤ x := by omega
  have q2 : ¬ 65536 ≤ x := by omega
  have q3 : ¬ 256 ≤ x := by omega
  have hsz : x < (Lib.len8tab.size : Int) := by have : Lib.len8tab.size = 256 := by decide +kernel
                                                omega
  go_enter Tryz.func175, Tryz.ntmps175
  go_wp2
  go_ret
  refine ⟨congrArg Ending.returned (congrArg (Value.int IntKind.i64) ?_), rfl⟩
  exact tab64 ⟨x.toNat, by omega⟩ (by show x.toNat < _; omega)
set_option maxRecDepth 100000 in
theorem len_any (x : Int) (w : World) (h0 : 0 ≤ x) (h1 : x < 64) : Calls Tryz.prog 161 #[.int .u64 x] w fun e w' => e = .returned (.int .i64 (Lib.bitLen x.toNat)) ∧ w = w' := by
  have HL : Hid (Calls Tryz.prog 175 #[.int .u64 x] w fun e w' => e = .returned (.int .i64 (Lib.bitLen x.toNat)) ∧ w = w') := len64_any x w h0 h1
  generalize (Lib.bitLen x.toNat : Int) = z at HL
  go_enter Tryz.func161, Tryz.ntmps161
  go_wp2_with fail
  refine HL.out.mono ?_
  rintro e w1 ⟨rfl, rfl⟩
  go_wp2_with fail
  go_ret
  exact ⟨rfl, rfl⟩
set_option maxRecDepth 100000 in
set_option maxHeartbeats 1000000 in
theorem forkOf_any (n : Nat) (w : World) (h2 : 2 ≤ n) (h64 : n ≤ 64) : Calls Tryz.prog 142 #[.int .i64 n] w fun e w' => e = .returned (.int .i64 (half n)) ∧ w = w' := by
  have HL0 := len_any ((n : Int) - 1) w (by omega) (by omega)
  have hb := bit_half ⟨n - 1, by omega⟩ (by show 1 ≤ n - 1; omega)
  have e1 : n - 1 + 1 = n := by omega
  have e2 : ((n : Int) - 1).toNat = n - 1 := by omega
  have hm : ((n : Int) - 1) % 18446744073709551616 = (n : Int) - 1 := by omega
  simp only [e1] at hb
  rw [e2] at HL0
  obtain ⟨b, HB⟩ : ∃ b, Hid (Lib.bitLen (n - 1) = b) := ⟨_, rfl⟩
  obtain ⟨z, HZ⟩ : ∃ z, Hid (half n = z) := ⟨_, rfl⟩
  rw [HB.out] at HL0 hb
  rw [HZ.out] at hb ⊢
  have HL : Hid (Calls Tryz.prog 161 #[.int .u64 ((n : Int) - 1)] w fun e w' => e = .returned (.int .i64 b) ∧ w = w') := HL0
  clear HL0 e1 e2 HB HZ
  rcases hb with ⟨rfl, rfl⟩ | ⟨rfl, rfl⟩ | ⟨rfl, rfl⟩ | ⟨rfl, rfl⟩ | ⟨rfl, rfl⟩ | ⟨rfl, rfl⟩
  all_goals
    go_enter Tryz.func142, Tryz.ntmps142
    go_wp2_with fail
    refine HL.out.mono ?_
    rintro e w1 ⟨rfl, rfl⟩
    go_wp2_with fail
    go_ret
    exact ⟨rfl, rfl⟩
theorem half_step : ∀ k : Fin 6, ∀ n : Fin 65, 2 ≤ n.val → (k.val = 0 ∨ 2 ^ k.val < n.val) → ¬ 2 * 2 ^ k.val < n.val → half n.val = 2 ^ k.val := by decide +kernel
set_option maxRecDepth 100000 in
set_option maxHeartbeats 1000000 in
theorem l09Half_any (n : Nat) (w : World) (h2 : 2 ≤ n) (h64 : n ≤ 64) : Calls Tryz.prog 96 #[.int .i64 n] w fun e w' => e = .returned (.int .i64 (half n)) ∧ w = w' := by
  go_enter Tryz.func96, Tryz.ntmps96
  go_wp2_with fail
  go_loop [3] (fun i => ∃ k : Nat, k ≤ 5 ∧ i = .int .i64 ((2 ^ k : Nat) : Int) ∧ (k = 0 ∨ 2 ^ k < n)) (fun i => n - (intOf i).toNat)
  case atStart => exact ⟨0, by omega, rfl, .inl rfl⟩
  case round =>
    obtain ⟨k, hk, rfl, hlt⟩ := hrel
    have HE : Hid (¬ 2 * 2 ^ k < n → half n = 2 ^ k) := half_step ⟨k, by omega⟩ ⟨n, by omega⟩ h2 hlt
    have HP : Hid (2 ^ (k + 1) = 2 * 2 ^ k) := by show _ = _; rw [Nat.pow_succ]; omega
    have HQ : Hid (2 * 2 ^ k < n → k + 1 ≤ 5) := fun h => by
      by_cases h5 : k = 5
      · subst h5; simp at h; omega
      · omega
    have hpos : 1 ≤ 2 ^ k := Nat.one_le_two_pow
    have hpb : 2 ^ k ≤ 32 := Nat.pow_le_pow_right (n := 2) (by decide) hk
    generalize 2 ^ k = p at hlt HE HP HQ hpos hpb
    by_cases hl : 2 * p < n
    · have hl' : 2 * (p : Int) < (n : Int) := by omega
      go_wp2_with fail
      exact ⟨⟨k + 1, HQ.out hl, Tx.val_eq (by rw [HP.out]; omega), .inr (by rw [HP.out]; exact hl)⟩, by simp [intOf]; omega⟩
    · have hl' : ¬ 2 * (p : Int) < (n : Int) := by omega
      go_wp2_with fail
      go_ret
      exact ⟨retI (by rw [HE.out hl]), rfl⟩
end Go.Proofs.YtnebohdlndiejaaGreatDoor.Px

/- impl.secretOf, nodeOf, keyOf: what they answer. -/
namespace Go.Proofs.YtnebohdlndiejaaGreatDoor.Se
open Go.RowKit Go.Proofs.YtnebohdlndiejaaGreatDoor.Sl Go.Proofs.YtnebohdlndiejaaGreatDoor.By Go.Proofs.YtnebohdlndiejaaGreatDoor.Ap Go.Proofs.YtnebohdlndiejaaGreatDoor.Tx Go.Proofs.YtnebohdlndiejaaGreatDoor.Sh Go.Proofs.YtnebohdlndiejaaGreatDoor.Ho

def bSecret : ByteArray := ⟨#[115, 101, 99, 114, 101, 116]⟩
def bNode : ByteArray := ⟨#[110, 111, 100, 101]⟩
def bKey : ByteArray := ⟨#[107, 101, 121]⟩
def bDigest : ByteArray := ⟨#[100, 105, 103, 101, 115, 116]⟩
/-- The secret of one value of one bit under one key. -/
def sec (seed : ByteArray) (i b v : Nat) : ByteArray := hashS (bys bSecret ++ bys seed ++ [(i : Int), (b : Int), (v : Int)])
def node (l r : ByteArray) : ByteArray := hashS (bys bNode ++ bys l ++ bys r)
def keyH (ts : List ByteArray) : ByteArray := hashS (bys bKey ++ cat ts)
theorem hash_size (xs : List Int) (h : xs.length ≤ 65536) : (hashS xs).size = 32 := by
  unfold hashS
  rw [if_neg (by omega), strOfNums_size]
  show (outTo _ 8).length = 32
  rw [outTo_length]
theorem sec_size (seed : ByteArray) (i b v : Nat) (hs : seed.size ≤ 60000) : (sec seed i b v).size = 32 := by
  unfold sec
  apply hash_size
  rw [List.length_append, List.length_append, bys_length, bys_length]
  have : bSecret.size = 6 := rfl
  simp only [List.length_cons, List.length_nil]
  omega
theorem node_size (l r : ByteArray) (hl : l.size ≤ 32) (hr : r.size ≤ 32) : (node l r).size = 32 := by
  unfold node
  apply hash_size
  rw [List.length_append, List.length_append, bys_length, bys_length, bys_length]
  have : bNode.size = 4 := rfl
  omega
theorem keyH_size (ts : List ByteArray) (h : (cat ts).length ≤ 60000) : (keyH ts).size = 32 := by
  unfold keyH
  apply hash_size
  rw [List.length_append, bys_length]
  have : bKey.size = 3 := rfl
  omega

set_option maxHeartbeats 400000 in
theorem nodeOf_any (l r : ByteArray) (w : World) (hl : l.size ≤ 100000) (hr : r.size ≤ 100000) (hK : KTab w) (hp : 10 < w.heap.size) :
    Calls Tryz.prog 143 #[.string l, .string r] w fun e w' => e = .returned (.string (node l r)) ∧ Below w.heap.size w w' := by
  have HE : Hid (cat [bNode, l, r] = bys bNode ++ bys l ++ bys r) := by
    show _ = _
    unfold cat
    simp only [List.flatMap_cons, List.flatMap_nil, List.append_nil]
    rw [List.append_assoc]
  have HL : Hid ((bys bNode ++ bys l ++ bys r).length ≤ 1000000000) := by
    show _ ≤ _
    rw [List.length_append, List.length_append, bys_length, bys_length, bys_length]
    have : bNode.size = 4 := rfl
    omega
  have GK : Hid (KTab w) := hK
  clear hK hl hr
  go_enter Tryz.func143, Tryz.ntmps143
  go_wp2_with fail
  refine (hashOf_lit w _ 3 rfl _ [bNode, l, r] rfl rfl (by decide) (by decide) (by rw [HE.out]; exact HL.out) GK.out hp).mono ?_
  rintro e w3 ⟨rfl, b3⟩
  rw [HE.out]
  go_wp2_with fail
  go_ret
  exact ⟨rfl, b3⟩

end Go.Proofs.YtnebohdlndiejaaGreatDoor.Se

/- impl.keyAt, keysOf: the keys of a seed. -/
namespace Go.Proofs.YtnebohdlndiejaaGreatDoor.Ka
open Go.RowKit Go.Proofs.YtnebohdlndiejaaGreatDoor.Sl Go.Proofs.YtnebohdlndiejaaGreatDoor.By Go.Proofs.YtnebohdlndiejaaGreatDoor.Ap Go.Proofs.YtnebohdlndiejaaGreatDoor.Tx Go.Proofs.YtnebohdlndiejaaGreatDoor.Sh Go.Proofs.YtnebohdlndiejaaGreatDoor.Ho Go.Proofs.YtnebohdlndiejaaGreatDoor.Se

/-- The hash of a secret; those of one bit; those of the bits below k. -/
def hh (seed : ByteArray) (i b v : Nat) : ByteArray := hashS (bys (sec seed i b v))
def hin (seed : ByteArray) (i b : Nat) : Nat → List ByteArray
  | 0 => []
  | m + 1 => hin seed i b m ++ [hh seed i b m]
def hidTo (seed : ByteArray) (i : Nat) : Nat → List ByteArray
  | 0 => []
  | k + 1 => hidTo seed i k ++ hin seed i k 2
def keyS (seed : ByteArray) (i : Nat) : ByteArray := keyH (hidTo seed i 32)
def keysTo (seed : ByteArray) : Nat → List ByteArray
  | 0 => []
  | k + 1 => keysTo seed k ++ [keyS seed k]
theorem hh_size (seed : ByteArray) (i b v : Nat) (hs : seed.size ≤ 60000) : (hh seed i b v).size = 32 := hash_size _ (by rw [bys_length, sec_size seed i b v hs]; decide)
theorem hin_length (seed : ByteArray) (i b : Nat) : ∀ m, (hin seed i b m).length = m
  | 0 => rfl
  | m + 1 => by unfold hin; rw [List.length_append, hin_length seed i b m]; rfl
theorem hidTo_length (seed : ByteArray) (i : Nat) : ∀ k, (hidTo seed i k).length = 2 * k
  | 0 => rfl
  | k + 1 => by unfold hidTo; rw [List.length_append, hidTo_length seed i k, hin_length]; omega
theorem hidTo_all (seed : ByteArray) (i : Nat) (hs : seed.size ≤ 60000) : ∀ k, ∀ t ∈ hidTo seed i k, t.size = 32
  | 0, t, h => by cases h
  | k + 1, t, h => by
    unfold hidTo at h
    rcases List.mem_append.1 h with h | h
    · exact hidTo_all seed i hs k t h
    · simp [hin] at h
      rcases h with rfl | rfl <;> exact hh_size _ _ _ _ hs
theorem hid_len (seed : ByteArray) (i : Nat) (hs : seed.size ≤ 60000) (k : Nat) : (cat (hidTo seed i k)).length = 64 * k := by rw [cat_len _ (hidTo_all seed i hs k), hidTo_length]; omega
theorem keyS_size (seed : ByteArray) (i : Nat) (hs : seed.size ≤ 60000) : (keyS seed i).size = 32 := keyH_size _ (by rw [hid_len seed i hs]; decide)
theorem keysTo_length (seed : ByteArray) : ∀ k, (keysTo seed k).length = k
  | 0 => rfl
  | k + 1 => by unfold keysTo; rw [List.length_append, keysTo_length seed k]; rfl
theorem keysTo_all (seed : ByteArray) (hs : seed.size ≤ 60000) : ∀ k, ∀ t ∈ keysTo seed k, t.size = 32
  | 0, t, h => by cases h
  | k + 1, t, h => by
    unfold keysTo at h
    rcases List.mem_append.1 h with h | h
    · exact keysTo_all seed hs k t h
    · rw [List.mem_singleton.1 h]
      exact keyS_size _ _ hs

end Go.Proofs.YtnebohdlndiejaaGreatDoor.Ka

/- The specification's secrets, nodes and keys. -/
namespace Go.Proofs.YtnebohdlndiejaaGreatDoor.Sx
open Go.RowKit Go.Proofs.YtnebohdlndiejaaGreatDoor.Sl Go.Proofs.YtnebohdlndiejaaGreatDoor.By Go.Proofs.YtnebohdlndiejaaGreatDoor.Ap Go.Proofs.YtnebohdlndiejaaGreatDoor.Tx Go.Proofs.YtnebohdlndiejaaGreatDoor.Sh Go.Proofs.YtnebohdlndiejaaGreatDoor.Ho Go.Proofs.YtnebohdlndiejaaGreatDoor.Se Go.Proofs.YtnebohdlndiejaaGreatDoor.Ka

theorem hash1_any (v : Value) (xs : List Int) (w : World) (h : RowB w v xs) (hl : xs.length ≤ 65536) :
    Calls Tryz.prog 95 #[v] w fun e w' => e = .returned (.string (hashS xs)) ∧ Below w.heap.size w w' := by
  have e : hashS xs = strOfNums (sha xs) := if_neg (by omega)
  rw [e]
  exact l01Hash_any v xs w h hl

set_option maxRecDepth 100000 in
set_option maxHeartbeats 400000 in
theorem l03Node_any (l r : ByteArray) (w : World) (hl : l.size ≤ 30000) (hr : r.size ≤ 30000) :
    Calls Tryz.prog 97 #[.string l, .string r] w fun e w' => e = .returned (.string (node l r)) ∧ Below w.heap.size w w' := by
  have HE : Hid (bys ((bNode ++ l) ++ r) = bys bNode ++ bys l ++ bys r) := by
    show _ = _
    rw [bys_append, bys_append]
  have HL : Hid ((bys bNode ++ bys l ++ bys r).length ≤ 65536) := by
    show _ ≤ _
    rw [List.length_append, List.length_append, bys_length, bys_length, bys_length]
    have : bNode.size = 4 := rfl
    omega
  have hA : ¬ 9223372036854775807 < (⟨#[110, 111, 100, 101]⟩ : ByteArray).size + l.size := by have : (⟨#[110, 111, 100, 101]⟩ : ByteArray).size = 4 := rfl; omega
  have hA' : ¬ 9223372036854775807 < 4 + l.size := by omega
  have hB : ¬ 9223372036854775807 < ((⟨#[110, 111, 100, 101]⟩ : ByteArray) ++ l).size + r.size := by
    rw [ByteArray.size_append]; have : (⟨#[110, 111, 100, 101]⟩ : ByteArray).size = 4 := rfl; omega
  have hB' : ¬ 9223372036854775807 < 4 + l.size + r.size := by omega
  obtain ⟨v2, w2, hc2, r2, b2⟩ := bytes_run ((bNode ++ l) ++ r) w
  have hc2' : (convert 9 86 (.string (((⟨#[110, 111, 100, 101]⟩ : ByteArray) ++ l) ++ r))).run Tryz.prog w = .ok v2 w2 := hc2
  have R2 : Hid (RowB w2 v2 (bys ((bNode ++ l) ++ r))) := r2
  have B2 : Hid (Below w.heap.size w w2) := b2
  clear hc2 r2 b2
  go_enter Tryz.func97, Tryz.ntmps97
  go_wp2_with fail
  refine (hash1_any v2 _ w2 R2.out (by rw [HE.out]; exact HL.out)).mono ?_
  rintro e w3 ⟨rfl, b3⟩
  rw [HE.out]
  go_wp2_with fail
  go_ret
  exact ⟨rfl, B2.out.trans (b3.mono B2.out.size)⟩
end Go.Proofs.YtnebohdlndiejaaGreatDoor.Sx

/- Leaves and roots of pieces: impl.pieceRoot, rootOf, the specification's l09Leaf, l09Root. -/
namespace Go.Proofs.YtnebohdlndiejaaGreatDoor.Py
open Go.RowKit Go.Proofs.YtnebohdlndiejaaGreatDoor.Sl Go.Proofs.YtnebohdlndiejaaGreatDoor.By Go.Proofs.YtnebohdlndiejaaGreatDoor.Ap Go.Proofs.YtnebohdlndiejaaGreatDoor.Tx Go.Proofs.YtnebohdlndiejaaGreatDoor.Sh Go.Proofs.YtnebohdlndiejaaGreatDoor.Ho Go.Proofs.YtnebohdlndiejaaGreatDoor.Se Go.Proofs.YtnebohdlndiejaaGreatDoor.Ka Go.Proofs.YtnebohdlndiejaaGreatDoor.Sx Go.Proofs.YtnebohdlndiejaaGreatDoor.Pf Go.Proofs.YtnebohdlndiejaaGreatDoor.Px

def bPiece : ByteArray := ⟨#[112, 105, 101, 99, 101]⟩
def bNothing : ByteArray := ⟨#[110, 111, 116, 104, 105, 110, 103]⟩
def leaf (t : ByteArray) : ByteArray := hashS (bys bPiece ++ bys t)
theorem leaf_size (t : ByteArray) (h : t.size ≤ 60000) : (leaf t).size = 32 := by
  unfold leaf
  apply hash_size
  rw [List.length_append, bys_length, bys_length]
  have : bPiece.size = 5 := rfl
  omega
/-- The root of some pieces (at most f). -/
def rootF : Nat → List ByteArray → ByteArray
  | 0, _ => ⟨#[]⟩
  | f + 1, ts => if ts.length = 1 then leaf (tnth ts 0) else node (rootF f (ts.take (half ts.length))) (rootF f (ts.drop (half ts.length)))
theorem rootF_one {f : Nat} {ts : List ByteArray} (h : ts.length = 1) : rootF (f + 1) ts = leaf (tnth ts 0) := if_pos h
theorem rootF_more {f : Nat} {ts : List ByteArray} (h : ts.length ≠ 1) : rootF (f + 1) ts = node (rootF f (ts.take (half ts.length))) (rootF f (ts.drop (half ts.length))) := if_neg h
theorem rootF_size : ∀ (f : Nat) (ts : List ByteArray), 1 ≤ ts.length → ts.length ≤ f → (∀ t ∈ ts, t.size ≤ 32) → (rootF f ts).size = 32
  | 0, ts, h1, h2, _ => by omega
  | f + 1, ts, h1, h2, hs => by
    by_cases h : ts.length = 1
    · rw [rootF_one h]
      exact leaf_size _ (by have := hs _ (tnth_mem (show 0 < ts.length by omega)); omega)
    · rw [rootF_more h]
      obtain ⟨q1, q2, _⟩ := half_lt (show 2 ≤ ts.length by omega)
      have a1 := rootF_size f (ts.take (half ts.length)) (by rw [List.length_take]; omega) (by rw [List.length_take]; omega) (fun t ht => hs t (List.mem_of_mem_take ht))
      have a2 := rootF_size f (ts.drop (half ts.length)) (by rw [List.length_drop]; omega) (by rw [List.length_drop]; omega) (fun t ht => hs t (List.mem_of_mem_drop ht))
      exact node_size _ _ (by omega) (by omega)
theorem tnth_take {ts : List ByteArray} {n i : Nat} (h : i < n) : tnth (ts.take n) i = tnth ts i := by
  unfold tnth; rw [List.getD_eq_getElem?_getD, List.getD_eq_getElem?_getD, List.getElem?_take, if_pos h]
theorem tnth_drop (ts : List ByteArray) (n i : Nat) : tnth (ts.drop n) i = tnth ts (n + i) := by
  unfold tnth; rw [List.getD_eq_getElem?_getD, List.getD_eq_getElem?_getD, List.getElem?_drop]
theorem rowT_take {w : World} {a : Option Addr} {cap n : Nat} {ts : List ByteArray} (h : RowT w (.slice a ts.length cap) ts) (hn : n ≤ ts.length) : RowT w (.slice a n cap) (ts.take n) := by
  obtain ⟨a', cap', e, h⟩ := h
  simp only [Value.slice.injEq, true_and] at e
  obtain ⟨rfl, rfl⟩ := e
  have hl : (ts.take n).length = n := by rw [List.length_take]; omega
  refine ⟨a, cap, by rw [hl], ?_⟩
  rcases h with rfl | ⟨b, off, rfl, hc, hlt, h⟩
  · exact .inl (by simp)
  · refine .inr ⟨b, off, rfl, by rw [hl]; omega, hlt, fun i hi => ?_⟩
    rw [hl] at hi
    rw [tnth_take hi]
    exact h i (by omega)
theorem rowT_drop {w : World} {a : Option Addr} {cap n : Nat} {ts : List ByteArray} (h : RowT w (.slice a ts.length cap) ts) (hn : n < ts.length) : RowT w (.slice (a.map (·.add n)) (ts.length - n) (cap - n)) (ts.drop n) := by
  obtain ⟨a', cap', e, h⟩ := h
  simp only [Value.slice.injEq, true_and] at e
  obtain ⟨rfl, rfl⟩ := e
  refine ⟨_, cap - n, by rw [List.length_drop], ?_⟩
  rcases h with rfl | ⟨b, off, rfl, hc, hlt, h⟩
  · simp at hn
  · refine .inr ⟨b, off + n, by simp [Ap.addr_add], by rw [List.length_drop]; omega, hlt, fun i hi => ?_⟩
    rw [List.length_drop] at hi
    rw [tnth_drop, Nat.add_assoc]
    exact h (n + i) (by omega)
theorem rowT_cap {w : World} {a : Option Addr} {cap : Nat} {ts : List ByteArray} (h : RowT w (.slice a ts.length cap) ts) (hn : 1 ≤ ts.length) : ts.length ≤ cap := by
  obtain ⟨a', cap', e, h⟩ := h
  simp only [Value.slice.injEq, true_and] at e
  obtain ⟨rfl, rfl⟩ := e
  rcases h with rfl | ⟨b, off, rfl, hc, _⟩
  · simp at hn
  · exact hc

set_option maxHeartbeats 400000 in
theorem pieceRoot_any (t : ByteArray) (w : World) (ht : t.size ≤ 60000) (hK : KTab w) (hp : 10 < w.heap.size) :
    Calls Tryz.prog 141 #[.string t] w fun e w' => e = .returned (.string (leaf t)) ∧ Below w.heap.size w w' := by
  have HE : Hid (cat [bPiece, t] = bys bPiece ++ bys t) := by
    show _ = _
    unfold cat
    simp only [List.flatMap_cons, List.flatMap_nil, List.append_nil]
  have HL : Hid ((bys bPiece ++ bys t).length ≤ 1000000000) := by
    show _ ≤ _
    rw [List.length_append, bys_length, bys_length]
    have : bPiece.size = 5 := rfl
    omega
  have GK : Hid (KTab w) := hK
  clear hK ht
  go_enter Tryz.func141, Tryz.ntmps141
  go_wp2_with fail
  refine (hashOf_lit w _ 2 rfl _ [bPiece, t] rfl rfl (by decide) (by decide) (by rw [HE.out]; exact HL.out) GK.out hp).mono ?_
  rintro e w3 ⟨rfl, b3⟩
  rw [HE.out]
  go_wp2_with fail
  go_ret
  exact ⟨rfl, b3⟩
set_option maxRecDepth 100000 in
set_option maxHeartbeats 400000 in
theorem l09Leaf_any (t : ByteArray) (w : World) (ht : t.size ≤ 60000) :
    Calls Tryz.prog 81 #[.string t] w fun e w' => e = .returned (.string (leaf t)) ∧ Below w.heap.size w w' := by
  have HE : Hid (bys (bPiece ++ t) = bys bPiece ++ bys t) := by
    show _ = _
    rw [bys_append]
  have HL : Hid ((bys bPiece ++ bys t).length ≤ 65536) := by
    show _ ≤ _
    rw [List.length_append, bys_length, bys_length]
    have : bPiece.size = 5 := rfl
    omega
  have hA : ¬ 9223372036854775807 < (⟨#[112, 105, 101, 99, 101]⟩ : ByteArray).size + t.size := by have : (⟨#[112, 105, 101, 99, 101]⟩ : ByteArray).size = 5 := rfl; omega
  have hA' : ¬ 9223372036854775807 < 5 + t.size := by omega
  obtain ⟨v2, w2, hc2, r2, b2⟩ := bytes_run (bPiece ++ t) w
  have hc2' : (convert 9 86 (.string ((⟨#[112, 105, 101, 99, 101]⟩ : ByteArray) ++ t))).run Tryz.prog w = .ok v2 w2 := hc2
  have R2 : Hid (RowB w2 v2 (bys (bPiece ++ t))) := r2
  have B2 : Hid (Below w.heap.size w w2) := b2
  clear hc2 r2 b2
  go_enter Tryz.func81, Tryz.ntmps81
  go_wp2_with fail
  refine (hash1_any v2 _ w2 R2.out (by rw [HE.out]; exact HL.out)).mono ?_
  rintro e w3 ⟨rfl, b3⟩
  rw [HE.out]
  go_wp2_with fail
  go_ret
  exact ⟨rfl, B2.out.trans (b3.mono B2.out.size)⟩

set_option maxRecDepth 100000 in
set_option maxHeartbeats 1600000 in
theorem rootOf_any : ∀ (f : Nat) (ts : List ByteArray) (v : Value) (w : World), RowT w v ts → 1 ≤ ts.length → ts.length ≤ f → ts.length ≤ 64 → (∀ t ∈ ts, t.size ≤ 32) → KTab w → 10 < w.heap.size →
    Calls Tryz.prog 110 #[v] w fun e w' => e = .returned (.string (rootF f ts)) ∧ Below w.heap.size w w'
  | 0, ts, v, w, _, h1, h2, _, _, _, _ => by omega
  | f + 1, ts, v, w, hr, h1, h2, h64, hs, hK, hp => by
    have HR : Hid (RowT w v ts) := hr
    obtain ⟨a, cap, rfl, h⟩ := hr
    have GK : Hid (KTab w ∧ 10 < w.heap.size) := ⟨hK, hp⟩
    by_cases hone : ts.length = 1
    · rcases h with h | ⟨b, off, rfl, hc, hb, hcell⟩
      · rw [h] at h1; exact absurd h1 (by simp)
      have c1 := hcell 0 (by omega)
      rw [Nat.add_zero] at c1
      have HE : Hid (rootF (f + 1) ts = leaf (tnth ts 0)) := rootF_one hone
      have HL : Hid (Calls Tryz.prog 141 #[.string (tnth ts 0)] w fun e w' => e = .returned (.string (leaf (tnth ts 0))) ∧ Below w.heap.size w w') := pieceRoot_any _ w (by have := hs _ (tnth_mem (show 0 < ts.length by omega)); omega) hK hp
      rw [hone] at hc ⊢
      clear hs hcell hone h2 h64 h1 hK hp
      generalize tnth ts 0 = t at c1 HE HL
      go_enter Tryz.func110, Tryz.ntmps110
      go_wp2_with fail
      refine HL.out.mono ?_
      rintro e w1 ⟨rfl, b1⟩
      go_wp2_with fail
      go_ret
      exact ⟨Tx.ret_str HE.out.symm, b1⟩
    · have hcap := rowT_cap HR.out h1
      obtain ⟨q1, q2, q3⟩ := half_lt (show 2 ≤ ts.length by omega)
      have HE : Hid (rootF (f + 1) ts = node (rootF f (ts.take (half ts.length))) (rootF f (ts.drop (half ts.length)))) := rootF_more hone
      have HF : Hid (∀ W, Calls Tryz.prog 142 #[.int .i64 ts.length] W fun e w' => e = .returned (.int .i64 (half ts.length)) ∧ W = w') := fun W => forkOf_any ts.length W (by omega) h64
      have z1 := rootF_size f (ts.take (half ts.length)) (by rw [List.length_take]; omega) (by rw [List.length_take]; omega) (fun t ht => hs t (List.mem_of_mem_take ht))
      have z2 := rootF_size f (ts.drop (half ts.length)) (by rw [List.length_drop]; omega) (by rw [List.length_drop]; omega) (fun t ht => hs t (List.mem_of_mem_drop ht))
      have HL : Hid (∀ W, Below w.heap.size w W → Calls Tryz.prog 110 #[.slice a (half ts.length) cap] W fun e w' => e = .returned (.string (rootF f (ts.take (half ts.length)))) ∧ Below w.heap.size w w') := fun W hW =>
        (rootOf_any f (ts.take (half ts.length)) _ W ((rowT_take HR.out (by omega)).below hW) (by rw [List.length_take]; omega) (by rw [List.length_take]; omega) (by rw [List.length_take]; omega) (fun t ht => hs t (List.mem_of_mem_take ht)) (hK.below hW hp) (Nat.lt_of_lt_of_le hp hW.size)).mono
          fun e w' ⟨h1, h2⟩ => ⟨h1, hW.trans (h2.mono hW.size)⟩
      have HD : Hid (∀ W, Below w.heap.size w W → Calls Tryz.prog 110 #[.slice (a.map (·.add (half ts.length))) (ts.length - half ts.length) (cap - half ts.length)] W fun e w' => e = .returned (.string (rootF f (ts.drop (half ts.length)))) ∧ Below w.heap.size w w') := fun W hW =>
        (rootOf_any f (ts.drop (half ts.length)) _ W ((rowT_drop HR.out (by omega)).below hW) (by rw [List.length_drop]; omega) (by rw [List.length_drop]; omega) (by rw [List.length_drop]; omega) (fun t ht => hs t (List.mem_of_mem_drop ht)) (hK.below hW hp) (Nat.lt_of_lt_of_le hp hW.size)).mono
          fun e w' ⟨h1, h2⟩ => ⟨h1, hW.trans (h2.mono hW.size)⟩
      have hn1 : ((ts.length : Int) == 1) = false := by simp; omega
      obtain ⟨l, Hl⟩ : ∃ l, Hid (rootF f (ts.take (half ts.length)) = l) := ⟨_, rfl⟩
      obtain ⟨r, Hr⟩ : ∃ r, Hid (rootF f (ts.drop (half ts.length)) = r) := ⟨_, rfl⟩
      rw [Hl.out] at z1 HL HE
      rw [Hr.out] at z2 HD HE
      have HN : Hid (∀ W, Below w.heap.size w W → Calls Tryz.prog 143 #[.string l, .string r] W fun e w' => e = .returned (.string (node l r)) ∧ Below w.heap.size w w') := fun W hW =>
        (nodeOf_any l r W (by omega) (by omega) (hK.below hW hp) (Nat.lt_of_lt_of_le hp hW.size)).mono fun e w' ⟨h1, h2⟩ => ⟨h1, hW.trans (h2.mono hW.size)⟩
      clear Hl Hr z1 z2 hs hone h HR h2 GK
      generalize half ts.length = k at q1 q2 q3 HF HL HD
      generalize ts.length = n at hcap q2 HF HD hn1 h1 h64
      have G0 : Hid (Below w.heap.size w w.drew) := (Below.refl _ _).drew
      have p1 : (k : Int) ≤ (n : Int) := by omega
      have p2 : (k : Int) ≤ (cap : Int) := by omega
      have p3 : (n : Int) ≤ (cap : Int) := by omega
      have p4 : ¬ cap = k := by omega
      go_enter Tryz.func110, Tryz.ntmps110
      go_wp2_with (first | (go_at_call 142; refine (HF.out _).mono ?_; rintro e w1 ⟨rfl, rfl⟩) | fail)
      go_region_law (first
        | (go_simp; go_at_call 143; refine (HN.out _ g3).mono ?_; rintro e w3 ⟨rfl, g3⟩; try go_simp)
        | (go_simp; go_at_call 110; (with_reducible refine (HL.out _ (by first | exact g3 | exact G0.out)).mono ?_); rintro e w3 ⟨rfl, g3⟩; try go_simp)
        | (go_simp; go_at_call 110; (with_reducible refine (HD.out _ (by first | exact g3 | exact G0.out)).mono ?_); rintro e w3 ⟨rfl, g3⟩; try go_simp))
      all_goals
        go_wp2_with fail
        go_ret
        exact ⟨Tx.ret_str HE.out.symm, g3⟩
end Go.Proofs.YtnebohdlndiejaaGreatDoor.Py

/- PiecesRoot: both functions. -/
namespace Go.Proofs.YtnebohdlndiejaaGreatDoor.Py
open Go.RowKit Go.Proofs.YtnebohdlndiejaaGreatDoor.Sl Go.Proofs.YtnebohdlndiejaaGreatDoor.By Go.Proofs.YtnebohdlndiejaaGreatDoor.Ap Go.Proofs.YtnebohdlndiejaaGreatDoor.Tx Go.Proofs.YtnebohdlndiejaaGreatDoor.Sh Go.Proofs.YtnebohdlndiejaaGreatDoor.Ho Go.Proofs.YtnebohdlndiejaaGreatDoor.Se Go.Proofs.YtnebohdlndiejaaGreatDoor.Ka Go.Proofs.YtnebohdlndiejaaGreatDoor.Sx Go.Proofs.YtnebohdlndiejaaGreatDoor.Pf Go.Proofs.YtnebohdlndiejaaGreatDoor.Px

set_option maxRecDepth 100000 in
set_option maxHeartbeats 1600000 in
theorem l09Root_any : ∀ (f : Nat) (ts : List ByteArray) (v : Value) (w : World), RowT w v ts → 1 ≤ ts.length → ts.length ≤ f → ts.length ≤ 64 → (∀ t ∈ ts, t.size ≤ 32) →
    Calls Tryz.prog 61 #[v] w fun e w' => e = .returned (.string (rootF f ts)) ∧ Below w.heap.size w w'
  | 0, ts, v, w, _, h1, h2, _, _ => by omega
  | f + 1, ts, v, w, hr, h1, h2, h64, hs => by
    have HR : Hid (RowT w v ts) := hr
    obtain ⟨a, cap, rfl, h⟩ := hr
    by_cases hone : ts.length = 1
    · rcases h with h | ⟨b, off, rfl, hc, hb, hcell⟩
      · rw [h] at h1; exact absurd h1 (by simp)
      have c1 := hcell 0 (by omega)
      rw [Nat.add_zero] at c1
      have HE : Hid (rootF (f + 1) ts = leaf (tnth ts 0)) := rootF_one hone
      have HL : Hid (Calls Tryz.prog 81 #[.string (tnth ts 0)] w fun e w' => e = .returned (.string (leaf (tnth ts 0))) ∧ Below w.heap.size w w') := l09Leaf_any _ w (by have := hs _ (tnth_mem (show 0 < ts.length by omega)); omega)
      rw [hone] at hc ⊢
      clear hs hcell hone h2 h64 h1
      generalize tnth ts 0 = t at c1 HE HL
      go_enter Tryz.func61, Tryz.ntmps61
      go_wp2_with fail
      refine HL.out.mono ?_
      rintro e w1 ⟨rfl, b1⟩
      go_wp2_with fail
      go_ret
      exact ⟨Tx.ret_str HE.out.symm, b1⟩
    · have hcap := rowT_cap HR.out h1
      obtain ⟨q1, q2, q3⟩ := half_lt (show 2 ≤ ts.length by omega)
      have HE : Hid (rootF (f + 1) ts = node (rootF f (ts.take (half ts.length))) (rootF f (ts.drop (half ts.length)))) := rootF_more hone
      have HF : Hid (∀ W, Calls Tryz.prog 96 #[.int .i64 ts.length] W fun e w' => e = .returned (.int .i64 (half ts.length)) ∧ W = w') := fun W => l09Half_any ts.length W (by omega) h64
      have z1 := rootF_size f (ts.take (half ts.length)) (by rw [List.length_take]; omega) (by rw [List.length_take]; omega) (fun t ht => hs t (List.mem_of_mem_take ht))
      have z2 := rootF_size f (ts.drop (half ts.length)) (by rw [List.length_drop]; omega) (by rw [List.length_drop]; omega) (fun t ht => hs t (List.mem_of_mem_drop ht))
      have HL : Hid (∀ W, Below w.heap.size w W → Calls Tryz.prog 61 #[.slice a (half ts.length) cap] W fun e w' => e = .returned (.string (rootF f (ts.take (half ts.length)))) ∧ Below w.heap.size w w') := fun W hW =>
        (l09Root_any f (ts.take (half ts.length)) _ W ((rowT_take HR.out (by omega)).below hW) (by rw [List.length_take]; omega) (by rw [List.length_take]; omega) (by rw [List.length_take]; omega) (fun t ht => hs t (List.mem_of_mem_take ht))).mono
          fun e w' ⟨h1, h2⟩ => ⟨h1, hW.trans (h2.mono hW.size)⟩
      have HD : Hid (∀ W, Below w.heap.size w W → Calls Tryz.prog 61 #[.slice (a.map (·.add (half ts.length))) (ts.length - half ts.length) (cap - half ts.length)] W fun e w' => e = .returned (.string (rootF f (ts.drop (half ts.length)))) ∧ Below w.heap.size w w') := fun W hW =>
        (l09Root_any f (ts.drop (half ts.length)) _ W ((rowT_drop HR.out (by omega)).below hW) (by rw [List.length_drop]; omega) (by rw [List.length_drop]; omega) (by rw [List.length_drop]; omega) (fun t ht => hs t (List.mem_of_mem_drop ht))).mono
          fun e w' ⟨h1, h2⟩ => ⟨h1, hW.trans (h2.mono hW.size)⟩
      have hn0 : ((ts.length : Int) == 0) = false := by rw [beq_eq_false_iff_ne]; omega
      have hn1 : ((ts.length : Int) == 1) = false := by simp; omega
      obtain ⟨l, Hl⟩ : ∃ l, Hid (rootF f (ts.take (half ts.length)) = l) := ⟨_, rfl⟩
      obtain ⟨r, Hr⟩ : ∃ r, Hid (rootF f (ts.drop (half ts.length)) = r) := ⟨_, rfl⟩
      rw [Hl.out] at z1 HL HE
      rw [Hr.out] at z2 HD HE
      have HN : Hid (∀ W, Below w.heap.size w W → Calls Tryz.prog 97 #[.string l, .string r] W fun e w' => e = .returned (.string (node l r)) ∧ Below w.heap.size w w') := fun W hW =>
        (l03Node_any l r W (by omega) (by omega)).mono fun e w' ⟨h1, h2⟩ => ⟨h1, hW.trans (h2.mono hW.size)⟩
      clear Hl Hr z1 z2 hs hone h HR h2
      generalize half ts.length = k at q1 q2 q3 HF HL HD
      generalize ts.length = n at hcap q2 HF HD hn0 hn1 h1 h64
      have G0 : Hid (Below w.heap.size w w.drew) := (Below.refl _ _).drew
      have p1 : (k : Int) ≤ (n : Int) := by omega
      have p2 : (k : Int) ≤ (cap : Int) := by omega
      have p3 : (n : Int) ≤ (cap : Int) := by omega
      have p4 : ¬ cap = k := by omega
      go_enter Tryz.func61, Tryz.ntmps61
      go_wp2_with (first | (go_at_call 96; refine (HF.out _).mono ?_; rintro e w1 ⟨rfl, rfl⟩) | fail)
      go_region_law (first
        | (go_simp; go_at_call 97; refine (HN.out _ g3).mono ?_; rintro e w3 ⟨rfl, g3⟩; try go_simp)
        | (go_simp; go_at_call 61; (with_reducible refine (HL.out _ (by first | exact g3 | exact G0.out)).mono ?_); rintro e w3 ⟨rfl, g3⟩; try go_simp)
        | (go_simp; go_at_call 61; (with_reducible refine (HD.out _ (by first | exact g3 | exact G0.out)).mono ?_); rintro e w3 ⟨rfl, g3⟩; try go_simp))
      all_goals
        go_wp2_with fail
        go_ret
        exact ⟨Tx.ret_str HE.out.symm, g3⟩
/-- The root of none. -/
def rootE : ByteArray := hashS (bys bNothing)
theorem row_const (w : World) (xs : List Int) (n : Nat) (hn : xs.length = n) (cs : Array Value) (hcs : cs = (xs.map (Value.int .u8)).toArray) (fz : Nat × Nat) (hr : ∀ x ∈ xs, 0 ≤ x ∧ x ≤ 255) : RowB (w.alloc (.cells cs 5 fz)) (.slice (some ⟨w.heap.size, 0, none⟩) n n) xs := by
  subst hn hcs
  refine ⟨_, _, rfl, .inr ⟨w.heap.size, 0, rfl, Nat.le_refl _, by simp, fun i hi => ?_⟩, hr⟩
  rw [Nat.zero_add, Joins.cell_of_block (heap_alloc_new w _) i, List.getElem?_toArray, List.getElem?_map]
  unfold nth
  rw [List.getD_eq_getElem?_getD, List.getElem?_eq_getElem hi]
  rfl
set_option maxRecDepth 100000 in
set_option maxHeartbeats 800000 in
theorem l09Root_none (a : Option Addr) (cap : Nat) (w : World) :
    Calls Tryz.prog 61 #[.slice a 0 cap] w fun e w' => e = .returned (.string rootE) ∧ Below w.heap.size w w' := by
  have hk0 := Lib.run_convert_bytes_const (P := Tryz.prog) w 86 5 #[.int .u8 110, .int .u8 111, .int .u8 116, .int .u8 104, .int .u8 105, .int .u8 110, .int .u8 103] 7 7 Tryz.underlying86 Tryz.underlying5
  have R0 : Hid (RowB (w.alloc (.cells #[.int .u8 110, .int .u8 111, .int .u8 116, .int .u8 104, .int .u8 105, .int .u8 110, .int .u8 103] 5 (7, 8))) (.slice (some ⟨w.heap.size, 0, none⟩) 7 7) (bys bNothing)) := row_const w [110, 111, 116, 104, 105, 110, 103] 7 rfl _ rfl _ (by decide)
  have B0 : Hid (Below w.heap.size w (w.alloc (.cells #[.int .u8 110, .int .u8 111, .int .u8 116, .int .u8 104, .int .u8 105, .int .u8 110, .int .u8 103] 5 (7, 8)))) := bel_new _ _
  go_enter Tryz.func61, Tryz.ntmps61
  go_wp2_with fail
  refine (hash1_any _ _ _ R0.out (by decide)).mono ?_
  rintro e w3 ⟨rfl, b3⟩
  have HE : Hid (hashS (bys bNothing) = rootE) := rfl
  rw [HE.out]
  go_wp2_with fail
  go_ret
  exact ⟨rfl, B0.out.trans (b3.mono B0.out.size)⟩
/-- What PiecesRoot answers. -/
noncomputable def prO (ts : List ByteArray) : ByteArray := if pcC ts = 0 then (if ts.length = 0 then rootE else rootF 64 ts) else ⟨#[]⟩
theorem prO_bad {ts : List ByteArray} (h : pcC ts ≠ 0) : prO ts = ⟨#[]⟩ := if_neg h
theorem prO_none {ts : List ByteArray} (h : pcC ts = 0) (h0 : ts.length = 0) : prO ts = rootE := by unfold prO; rw [if_pos h, if_pos h0]
theorem prO_some {ts : List ByteArray} (h : pcC ts = 0) (h0 : ts.length ≠ 0) : prO ts = rootF 64 ts := by unfold prO; rw [if_pos h, if_neg h0]
theorem ret_si {a b : ByteArray} {c d : Int} (h1 : a = b) (h2 : c = d) : Ending.returned (.tuple #[.string a, .int .i64 c]) = .returned (.tuple #[.string b, .int .i64 d]) := by rw [h1, h2]
end Go.Proofs.YtnebohdlndiejaaGreatDoor.Py
