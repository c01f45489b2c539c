/- The specification's secrets, nodes and keys. -/
import Derived.Test.YtimmeclclilpdaaGreatDoorKa
import Derived.Test.YtimmeclclilpdaaGreatDoorShaL
namespace Go.Proofs.YtimmeclclilpdaaGreatDoor.Sx
open Go.RowKit Go.Proofs.YtimmeclclilpdaaGreatDoor.Sl Go.Proofs.YtimmeclclilpdaaGreatDoor.By Go.Proofs.YtimmeclclilpdaaGreatDoor.Ap Go.Proofs.YtimmeclclilpdaaGreatDoor.Tx Go.Proofs.YtimmeclclilpdaaGreatDoor.Sh Go.Proofs.YtimmeclclilpdaaGreatDoor.Ho Go.Proofs.YtimmeclclilpdaaGreatDoor.Se Go.Proofs.YtimmeclclilpdaaGreatDoor.Ka

theorem hash1_any (v : Value) (xs : List Int) (w : World) (h : RowB w v xs) (hl : xs.length ≤ 65536) :
    Calls Tryz.prog 80 #[v] w fun e w' => e = .returned (.string (hashS xs)) ∧ Below w.heap.size w w' := by
  have e : hashS xs = strOfNums (sha xs) := if_neg (by omega)
  rw [e]
  exact l01Hash_any v xs w h hl

set_option maxRecDepth 100000 in
set_option maxHeartbeats 400000 in
theorem l03Secret_any (seed : ByteArray) (i b v : Nat) (w : World) (hs : seed.size ≤ 60000) (hi : i < 256) (hb : b < 256) (hv : v < 256) :
    Calls Tryz.prog 83 #[.string seed, .int .i64 i, .int .i64 b, .int .i64 v] w fun e w' => e = .returned (.string (sec seed i b v)) ∧ Below w.heap.size w w' := by
  have hr : ∀ z ∈ [(i : Int), (b : Int), (v : Int)], 0 ≤ z ∧ z ≤ 255 := by
    intro z hz
    simp at hz
    rcases hz with rfl | rfl | rfl <;> omega
  have hcv : ∀ W : World, (convert 22 9 (.slice (some ⟨W.heap.size, 0, none⟩) 3 3)).run Tryz.prog (W.alloc (.cells #[.int .u8 i, .int .u8 b, .int .u8 v] 5)) = .ok (.string (strOfNums [(i : Int), b, v])) (W.alloc (.cells #[.int .u8 i, .int .u8 b, .int .u8 v] 5)) := fun W =>
    By.run_convert_own (P := Tryz.prog) _ W.heap.size 22 5 9 Tryz.underlying22 Tryz.underlying5 Tryz.underlying9 _ [(i : Int), b, v] (own_lit 5 W W.heap.size [(i : Int), b, v] 3 rfl (Nat.le_refl _) (by decide))
  have w1 : ((i : Int) % 256) = i := by omega
  have w2 : ((b : Int) % 256) = b := by omega
  have w3 : ((v : Int) % 256) = v := by omega
  have HE : Hid (bys ((bSecret ++ seed) ++ strOfNums [(i : Int), (b : Int), (v : Int)]) = bys bSecret ++ bys seed ++ [(i : Int), (b : Int), (v : Int)]) := by
    show _ = _
    rw [bys_append, bys_append, bys_str _ hr]
  have HL : Hid ((bys bSecret ++ bys seed ++ [(i : Int), (b : Int), (v : Int)]).length ≤ 65536) := by
    show _ ≤ _
    rw [List.length_append, List.length_append, bys_length, bys_length]
    have : bSecret.size = 6 := rfl
    simp only [List.length_cons, List.length_nil]
    omega
  have hz3 : (strOfNums [(i : Int), (b : Int), (v : Int)]).size = 3 := by rw [strOfNums_size]; rfl
  have hA : ¬ 9223372036854775807 < (⟨#[115, 101, 99, 114, 101, 116]⟩ : ByteArray).size + seed.size := by have : (⟨#[115, 101, 99, 114, 101, 116]⟩ : ByteArray).size = 6 := rfl; omega
  have hA' : ¬ 9223372036854775807 < 6 + seed.size := by omega
  have hB : ¬ 9223372036854775807 < ((⟨#[115, 101, 99, 114, 101, 116]⟩ : ByteArray) ++ seed).size + (strOfNums [(i : Int), (b : Int), (v : Int)]).size := by
    rw [ByteArray.size_append, hz3]; have : (⟨#[115, 101, 99, 114, 101, 116]⟩ : ByteArray).size = 6 := rfl; omega
  have hB' : ¬ 9223372036854775807 < 6 + seed.size + (strOfNums [(i : Int), (b : Int), (v : Int)]).size := by omega
  clear hr hz3
  generalize strOfNums [(i : Int), (b : Int), (v : Int)] = z at hcv HE hB hB'
  obtain ⟨v2, w2, hc2, r2, b2⟩ := bytes_run ((bSecret ++ seed) ++ z) (w.alloc (.cells #[.int .u8 i, .int .u8 b, .int .u8 v] 5))
  have hc2' : (convert 9 22 (.string (((⟨#[115, 101, 99, 114, 101, 116]⟩ : ByteArray) ++ seed) ++ z))).run Tryz.prog (w.alloc (.cells #[.int .u8 i, .int .u8 b, .int .u8 v] 5)) = .ok v2 w2 := hc2
  have R2 : Hid (RowB w2 v2 (bys ((bSecret ++ seed) ++ z))) := r2
  have B2 : Hid (Below w.heap.size w w2) := (bel_new w _).trans (b2.mono (by rw [size_new]; omega))
  clear hc2 r2 b2
  go_enter Tryz.func83, Tryz.ntmps83
  go_wp2_with fail
  refine (hash1_any v2 _ w2 R2.out (by rw [HE.out]; exact HL.out)).mono ?_
  rintro e w3 ⟨rfl, b3⟩
  rw [HE.out]
  go_wp2_with fail
  go_ret
  exact ⟨rfl, B2.out.trans (b3.mono B2.out.size)⟩

set_option maxRecDepth 100000 in
set_option maxHeartbeats 400000 in
theorem l03Node_any (l r : ByteArray) (w : World) (hl : l.size ≤ 30000) (hr : r.size ≤ 30000) :
    Calls Tryz.prog 81 #[.string l, .string r] w fun e w' => e = .returned (.string (node l r)) ∧ Below w.heap.size w w' := by
  have HE : Hid (bys ((bNode ++ l) ++ r) = bys bNode ++ bys l ++ bys r) := by
    show _ = _
    rw [bys_append, bys_append]
  have HL : Hid ((bys bNode ++ bys l ++ bys r).length ≤ 65536) := by
    show _ ≤ _
    rw [List.length_append, List.length_append, bys_length, bys_length, bys_length]
    have : bNode.size = 4 := rfl
    omega
  have hA : ¬ 9223372036854775807 < (⟨#[110, 111, 100, 101]⟩ : ByteArray).size + l.size := by have : (⟨#[110, 111, 100, 101]⟩ : ByteArray).size = 4 := rfl; omega
  have hA' : ¬ 9223372036854775807 < 4 + l.size := by omega
  have hB : ¬ 9223372036854775807 < ((⟨#[110, 111, 100, 101]⟩ : ByteArray) ++ l).size + r.size := by
    rw [ByteArray.size_append]; have : (⟨#[110, 111, 100, 101]⟩ : ByteArray).size = 4 := rfl; omega
  have hB' : ¬ 9223372036854775807 < 4 + l.size + r.size := by omega
  obtain ⟨v2, w2, hc2, r2, b2⟩ := bytes_run ((bNode ++ l) ++ r) w
  have hc2' : (convert 9 22 (.string (((⟨#[110, 111, 100, 101]⟩ : ByteArray) ++ l) ++ r))).run Tryz.prog w = .ok v2 w2 := hc2
  have R2 : Hid (RowB w2 v2 (bys ((bNode ++ l) ++ r))) := r2
  have B2 : Hid (Below w.heap.size w w2) := b2
  clear hc2 r2 b2
  go_enter Tryz.func81, Tryz.ntmps81
  go_wp2_with fail
  refine (hash1_any v2 _ w2 R2.out (by rw [HE.out]; exact HL.out)).mono ?_
  rintro e w3 ⟨rfl, b3⟩
  rw [HE.out]
  go_wp2_with fail
  go_ret
  exact ⟨rfl, B2.out.trans (b3.mono B2.out.size)⟩
end Go.Proofs.YtimmeclclilpdaaGreatDoor.Sx
