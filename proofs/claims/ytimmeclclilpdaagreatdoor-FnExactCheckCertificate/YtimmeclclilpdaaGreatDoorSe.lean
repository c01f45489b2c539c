/- impl.secretOf, nodeOf, keyOf: what they answer. -/
import Derived.Test.YtimmeclclilpdaaGreatDoorHo
namespace Go.Proofs.YtimmeclclilpdaaGreatDoor.Se
open Go.RowKit Go.Proofs.YtimmeclclilpdaaGreatDoor.Sl Go.Proofs.YtimmeclclilpdaaGreatDoor.By Go.Proofs.YtimmeclclilpdaaGreatDoor.Ap Go.Proofs.YtimmeclclilpdaaGreatDoor.Tx Go.Proofs.YtimmeclclilpdaaGreatDoor.Sh Go.Proofs.YtimmeclclilpdaaGreatDoor.Ho

def bSecret : ByteArray := ⟨#[115, 101, 99, 114, 101, 116]⟩
def bNode : ByteArray := ⟨#[110, 111, 100, 101]⟩
def bKey : ByteArray := ⟨#[107, 101, 121]⟩
def bDigest : ByteArray := ⟨#[100, 105, 103, 101, 115, 116]⟩
/-- The secret of one value of one bit under one key. -/
def sec (seed : ByteArray) (i b v : Nat) : ByteArray := hashS (bys bSecret ++ bys seed ++ [(i : Int), (b : Int), (v : Int)])
def node (l r : ByteArray) : ByteArray := hashS (bys bNode ++ bys l ++ bys r)
def keyH (ts : List ByteArray) : ByteArray := hashS (bys bKey ++ cat ts)
theorem hash_size (xs : List Int) (h : xs.length ≤ 65536) : (hashS xs).size = 32 := by
  unfold hashS
  rw [if_neg (by omega), strOfNums_size]
  show (outTo _ 8).length = 32
  rw [outTo_length]
theorem sec_size (seed : ByteArray) (i b v : Nat) (hs : seed.size ≤ 60000) : (sec seed i b v).size = 32 := by
  unfold sec
  apply hash_size
  rw [List.length_append, List.length_append, bys_length, bys_length]
  have : bSecret.size = 6 := rfl
  simp only [List.length_cons, List.length_nil]
  omega
theorem node_size (l r : ByteArray) (hl : l.size ≤ 32) (hr : r.size ≤ 32) : (node l r).size = 32 := by
  unfold node
  apply hash_size
  rw [List.length_append, List.length_append, bys_length, bys_length, bys_length]
  have : bNode.size = 4 := rfl
  omega
theorem keyH_size (ts : List ByteArray) (h : (cat ts).length ≤ 60000) : (keyH ts).size = 32 := by
  unfold keyH
  apply hash_size
  rw [List.length_append, bys_length]
  have : bKey.size = 3 := rfl
  omega

set_option maxHeartbeats 400000 in
theorem secretOf_any (seed : ByteArray) (i b v : Nat) (w : World) (hs : seed.size ≤ 60000) (hi : i < 256) (hb : b < 256) (hv : v < 256) (hK : KTab w) (hp : 0 < w.heap.size) :
    Calls Tryz.prog 103 #[.string seed, .int .i64 i, .int .i64 b, .int .i64 v] w fun e w' => e = .returned (.string (sec seed i b v)) ∧ Below w.heap.size w w' := by
  have hr : ∀ z ∈ [(i : Int), (b : Int), (v : Int)], 0 ≤ z ∧ z ≤ 255 := by
    intro z hz
    simp at hz
    rcases hz with rfl | rfl | rfl <;> omega
  have hcv : ∀ W : World, (convert 22 9 (.slice (some ⟨W.heap.size, 0, none⟩) 3 3)).run Tryz.prog (W.alloc (.cells #[.int .u8 i, .int .u8 b, .int .u8 v] 5)) = .ok (.string (strOfNums [(i : Int), b, v])) (W.alloc (.cells #[.int .u8 i, .int .u8 b, .int .u8 v] 5)) := fun W =>
    By.run_convert_own (P := Tryz.prog) _ W.heap.size 22 5 9 Tryz.underlying22 Tryz.underlying5 Tryz.underlying9 _ [(i : Int), b, v] (own_lit 5 W W.heap.size [(i : Int), b, v] 3 rfl (Nat.le_refl _) (by decide))
  have w1 : ((i : Int) % 256) = i := by omega
  have w2 : ((b : Int) % 256) = b := by omega
  have w3 : ((v : Int) % 256) = v := by omega
  have HE : Hid (cat [bSecret, seed, strOfNums [(i : Int), (b : Int), (v : Int)]] = bys bSecret ++ bys seed ++ [(i : Int), (b : Int), (v : Int)]) := by
    show _ = _
    unfold cat
    simp only [List.flatMap_cons, List.flatMap_nil, List.append_nil]
    rw [bys_str _ hr, List.append_assoc]
  have HL : Hid ((bys bSecret ++ bys seed ++ [(i : Int), (b : Int), (v : Int)]).length ≤ 65536) := by
    show _ ≤ _
    rw [List.length_append, List.length_append, bys_length, bys_length]
    have : bSecret.size = 6 := rfl
    simp only [List.length_cons, List.length_nil]
    omega
  have GK : Hid (KTab w) := hK
  clear hK hr
  generalize strOfNums [(i : Int), (b : Int), (v : Int)] = z at hcv HE
  go_enter Tryz.func103, Tryz.ntmps103
  go_wp2_with fail
  refine (hashOf_lit (w.alloc (.cells #[.int .u8 i, .int .u8 b, .int .u8 v] 5)) _ 3 (size_new _ _) _ [bSecret, seed, z] rfl rfl (by decide) (by decide) (by rw [HE.out]; have := HL.out; omega) (GK.out.below (bel_new _ _) hp) (by rw [size_new]; omega)).mono ?_
  rintro e w3 ⟨rfl, b3⟩
  rw [HE.out]
  go_wp2_with fail
  go_ret
  exact ⟨rfl, (bel_new w _).trans (b3.mono (by rw [size_new]; omega))⟩

set_option maxHeartbeats 400000 in
theorem nodeOf_any (l r : ByteArray) (w : World) (hl : l.size ≤ 100000) (hr : r.size ≤ 100000) (hK : KTab w) (hp : 0 < w.heap.size) :
    Calls Tryz.prog 123 #[.string l, .string r] w fun e w' => e = .returned (.string (node l r)) ∧ Below w.heap.size w w' := by
  have HE : Hid (cat [bNode, l, r] = bys bNode ++ bys l ++ bys r) := by
    show _ = _
    unfold cat
    simp only [List.flatMap_cons, List.flatMap_nil, List.append_nil]
    rw [List.append_assoc]
  have HL : Hid ((bys bNode ++ bys l ++ bys r).length ≤ 1000000000) := by
    show _ ≤ _
    rw [List.length_append, List.length_append, bys_length, bys_length, bys_length]
    have : bNode.size = 4 := rfl
    omega
  have GK : Hid (KTab w) := hK
  clear hK hl hr
  go_enter Tryz.func123, Tryz.ntmps123
  go_wp2_with fail
  refine (hashOf_lit w _ 3 rfl _ [bNode, l, r] rfl rfl (by decide) (by decide) (by rw [HE.out]; exact HL.out) GK.out hp).mono ?_
  rintro e w3 ⟨rfl, b3⟩
  rw [HE.out]
  go_wp2_with fail
  go_ret
  exact ⟨rfl, b3⟩

set_option maxHeartbeats 400000 in
theorem keyOf_any (v : Value) (ts : List ByteArray) (w : World) (h : RowT w v ts) (hne : ts ≠ []) (hl : ts.length ≤ 1000000) (hs : (cat ts).length ≤ 60000) (hK : KTab w) (hp : 0 < w.heap.size) :
    Calls Tryz.prog 124 #[v] w fun e w' => e = .returned (.string (keyH ts)) ∧ Below w.heap.size w w' := by
  have HJ := join_any v ts w h hne hl (by omega)
  have HE : Hid (cat [bKey, catS ts] = bys bKey ++ cat ts) := by
    show _ = _
    unfold cat
    simp only [List.flatMap_cons, List.flatMap_nil, List.append_nil]
    rw [bys_catS]
    rfl
  have HL : Hid ((bys bKey ++ cat ts).length ≤ 1000000000) := by
    show _ ≤ _
    rw [List.length_append, bys_length]
    have : bKey.size = 3 := rfl
    omega
  have GK : Hid (KTab w) := hK
  clear hK h hl hs hne
  go_enter Tryz.func124, Tryz.ntmps124
  go_wp2_with fail
  refine HJ.mono ?_
  rintro e w1 ⟨rfl, b1⟩
  have B1 : Hid (Below w.heap.size w w1) := b1
  clear b1
  go_wp2_with fail
  refine (hashOf_lit w1 _ 2 rfl _ [bKey, catS ts] rfl rfl (by decide) (by decide) (by rw [HE.out]; exact HL.out) (GK.out.below B1.out hp) (Nat.lt_of_lt_of_le hp B1.out.size)).mono ?_
  rintro e w3 ⟨rfl, b3⟩
  rw [HE.out]
  go_wp2_with fail
  go_ret
  exact ⟨rfl, B1.out.trans (b3.mono B1.out.size)⟩
end Go.Proofs.YtimmeclclilpdaaGreatDoor.Se
