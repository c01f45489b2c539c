/- impl.keyAt, keysOf: the keys of a seed. -/
import Derived.Test.YtnebohdlndiejaaGreatDoorSe
namespace Go.Proofs.YtnebohdlndiejaaGreatDoor.Ka
open Go.RowKit Go.Proofs.YtnebohdlndiejaaGreatDoor.Sl Go.Proofs.YtnebohdlndiejaaGreatDoor.By Go.Proofs.YtnebohdlndiejaaGreatDoor.Ap Go.Proofs.YtnebohdlndiejaaGreatDoor.Tx Go.Proofs.YtnebohdlndiejaaGreatDoor.Sh Go.Proofs.YtnebohdlndiejaaGreatDoor.Ho Go.Proofs.YtnebohdlndiejaaGreatDoor.Se

/-- The hash of a secret; those of one bit; those of the bits below k. -/
def hh (seed : ByteArray) (i b v : Nat) : ByteArray := hashS (bys (sec seed i b v))
def hin (seed : ByteArray) (i b : Nat) : Nat → List ByteArray
  | 0 => []
  | m + 1 => hin seed i b m ++ [hh seed i b m]
def hidTo (seed : ByteArray) (i : Nat) : Nat → List ByteArray
  | 0 => []
  | k + 1 => hidTo seed i k ++ hin seed i k 2
def keyS (seed : ByteArray) (i : Nat) : ByteArray := keyH (hidTo seed i 32)
def keysTo (seed : ByteArray) : Nat → List ByteArray
  | 0 => []
  | k + 1 => keysTo seed k ++ [keyS seed k]
theorem hh_size (seed : ByteArray) (i b v : Nat) (hs : seed.size ≤ 60000) : (hh seed i b v).size = 32 := hash_size _ (by rw [bys_length, sec_size seed i b v hs]; decide)
theorem hin_length (seed : ByteArray) (i b : Nat) : ∀ m, (hin seed i b m).length = m
  | 0 => rfl
  | m + 1 => by unfold hin; rw [List.length_append, hin_length seed i b m]; rfl
theorem hidTo_length (seed : ByteArray) (i : Nat) : ∀ k, (hidTo seed i k).length = 2 * k
  | 0 => rfl
  | k + 1 => by unfold hidTo; rw [List.length_append, hidTo_length seed i k, hin_length]; omega
theorem hidTo_all (seed : ByteArray) (i : Nat) (hs : seed.size ≤ 60000) : ∀ k, ∀ t ∈ hidTo seed i k, t.size = 32
  | 0, t, h => by cases h
  | k + 1, t, h => by
    unfold hidTo at h
    rcases List.mem_append.1 h with h | h
    · exact hidTo_all seed i hs k t h
    · simp [hin] at h
      rcases h with rfl | rfl <;> exact hh_size _ _ _ _ hs
theorem hid_len (seed : ByteArray) (i : Nat) (hs : seed.size ≤ 60000) (k : Nat) : (cat (hidTo seed i k)).length = 64 * k := by rw [cat_len _ (hidTo_all seed i hs k), hidTo_length]; omega
theorem keyS_size (seed : ByteArray) (i : Nat) (hs : seed.size ≤ 60000) : (keyS seed i).size = 32 := keyH_size _ (by rw [hid_len seed i hs]; decide)
theorem keysTo_length (seed : ByteArray) : ∀ k, (keysTo seed k).length = k
  | 0 => rfl
  | k + 1 => by unfold keysTo; rw [List.length_append, keysTo_length seed k]; rfl
theorem keysTo_all (seed : ByteArray) (hs : seed.size ≤ 60000) : ∀ k, ∀ t ∈ keysTo seed k, t.size = 32
  | 0, t, h => by cases h
  | k + 1, t, h => by
    unfold keysTo at h
    rcases List.mem_append.1 h with h | h
    · exact keysTo_all seed hs k t h
    · rw [List.mem_singleton.1 h]
      exact keyS_size _ _ hs

end Go.Proofs.YtnebohdlndiejaaGreatDoor.Ka
