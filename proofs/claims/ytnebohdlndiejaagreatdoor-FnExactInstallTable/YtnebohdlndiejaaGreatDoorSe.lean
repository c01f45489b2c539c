/- impl.secretOf, nodeOf, keyOf: what they answer. -/
import Derived.Test.YtnebohdlndiejaaGreatDoorHo
namespace Go.Proofs.YtnebohdlndiejaaGreatDoor.Se
open Go.RowKit Go.Proofs.YtnebohdlndiejaaGreatDoor.Sl Go.Proofs.YtnebohdlndiejaaGreatDoor.By Go.Proofs.YtnebohdlndiejaaGreatDoor.Ap Go.Proofs.YtnebohdlndiejaaGreatDoor.Tx Go.Proofs.YtnebohdlndiejaaGreatDoor.Sh Go.Proofs.YtnebohdlndiejaaGreatDoor.Ho

def bSecret : ByteArray := ⟨#[115, 101, 99, 114, 101, 116]⟩
def bNode : ByteArray := ⟨#[110, 111, 100, 101]⟩
def bKey : ByteArray := ⟨#[107, 101, 121]⟩
def bDigest : ByteArray := ⟨#[100, 105, 103, 101, 115, 116]⟩
/-- The secret of one value of one bit under one key. -/
def sec (seed : ByteArray) (i b v : Nat) : ByteArray := hashS (bys bSecret ++ bys seed ++ [(i : Int), (b : Int), (v : Int)])
def node (l r : ByteArray) : ByteArray := hashS (bys bNode ++ bys l ++ bys r)
def keyH (ts : List ByteArray) : ByteArray := hashS (bys bKey ++ cat ts)
theorem hash_size (xs : List Int) (h : xs.length ≤ 65536) : (hashS xs).size = 32 := by
  unfold hashS
  rw [if_neg (by omega), strOfNums_size]
  show (outTo _ 8).length = 32
  rw [outTo_length]
theorem sec_size (seed : ByteArray) (i b v : Nat) (hs : seed.size ≤ 60000) : (sec seed i b v).size = 32 := by
  unfold sec
  apply hash_size
  rw [List.length_append, List.length_append, bys_length, bys_length]
  have : bSecret.size = 6 := rfl
  simp only [List.length_cons, List.length_nil]
  omega
theorem node_size (l r : ByteArray) (hl : l.size ≤ 32) (hr : r.size ≤ 32) : (node l r).size = 32 := by
  unfold node
  apply hash_size
  rw [List.length_append, List.length_append, bys_length, bys_length, bys_length]
  have : bNode.size = 4 := rfl
  omega
theorem keyH_size (ts : List ByteArray) (h : (cat ts).length ≤ 60000) : (keyH ts).size = 32 := by
  unfold keyH
  apply hash_size
  rw [List.length_append, bys_length]
  have : bKey.size = 3 := rfl
  omega

set_option maxHeartbeats 400000 in
theorem nodeOf_any (l r : ByteArray) (w : World) (hl : l.size ≤ 100000) (hr : r.size ≤ 100000) (hK : KTab w) (hp : 10 < w.heap.size) :
    Calls Tryz.prog 143 #[.string l, .string r] w fun e w' => e = .returned (.string (node l r)) ∧ Below w.heap.size w w' := by
  have HE : Hid (cat [bNode, l, r] = bys bNode ++ bys l ++ bys r) := by
    show _ = _
    unfold cat
    simp only [List.flatMap_cons, List.flatMap_nil, List.append_nil]
    rw [List.append_assoc]
  have HL : Hid ((bys bNode ++ bys l ++ bys r).length ≤ 1000000000) := by
    show _ ≤ _
    rw [List.length_append, List.length_append, bys_length, bys_length, bys_length]
    have : bNode.size = 4 := rfl
    omega
  have GK : Hid (KTab w) := hK
  clear hK hl hr
  go_enter Tryz.func143, Tryz.ntmps143
  go_wp2_with fail
  refine (hashOf_lit w _ 3 rfl _ [bNode, l, r] rfl rfl (by decide) (by decide) (by rw [HE.out]; exact HL.out) GK.out hp).mono ?_
  rintro e w3 ⟨rfl, b3⟩
  rw [HE.out]
  go_wp2_with fail
  go_ret
  exact ⟨rfl, b3⟩

end Go.Proofs.YtnebohdlndiejaaGreatDoor.Se
