/- The specification's secrets, nodes and keys. -/
import Derived.Test.YtnebohdlndiejaaGreatDoorKa
import Derived.Test.YtnebohdlndiejaaGreatDoorShaL
namespace Go.Proofs.YtnebohdlndiejaaGreatDoor.Sx
open Go.RowKit Go.Proofs.YtnebohdlndiejaaGreatDoor.Sl Go.Proofs.YtnebohdlndiejaaGreatDoor.By Go.Proofs.YtnebohdlndiejaaGreatDoor.Ap Go.Proofs.YtnebohdlndiejaaGreatDoor.Tx Go.Proofs.YtnebohdlndiejaaGreatDoor.Sh Go.Proofs.YtnebohdlndiejaaGreatDoor.Ho Go.Proofs.YtnebohdlndiejaaGreatDoor.Se Go.Proofs.YtnebohdlndiejaaGreatDoor.Ka

theorem hash1_any (v : Value) (xs : List Int) (w : World) (h : RowB w v xs) (hl : xs.length ≤ 65536) :
    Calls Tryz.prog 95 #[v] w fun e w' => e = .returned (.string (hashS xs)) ∧ Below w.heap.size w w' := by
  have e : hashS xs = strOfNums (sha xs) := if_neg (by omega)
  rw [e]
  exact l01Hash_any v xs w h hl

set_option maxRecDepth 100000 in
set_option maxHeartbeats 400000 in
theorem l03Node_any (l r : ByteArray) (w : World) (hl : l.size ≤ 30000) (hr : r.size ≤ 30000) :
    Calls Tryz.prog 97 #[.string l, .string r] w fun e w' => e = .returned (.string (node l r)) ∧ Below w.heap.size w w' := by
  have HE : Hid (bys ((bNode ++ l) ++ r) = bys bNode ++ bys l ++ bys r) := by
    show _ = _
    rw [bys_append, bys_append]
  have HL : Hid ((bys bNode ++ bys l ++ bys r).length ≤ 65536) := by
    show _ ≤ _
    rw [List.length_append, List.length_append, bys_length, bys_length, bys_length]
    have : bNode.size = 4 := rfl
    omega
  have hA : ¬ 9223372036854775807 < (⟨#[110, 111, 100, 101]⟩ : ByteArray).size + l.size := by have : (⟨#[110, 111, 100, 101]⟩ : ByteArray).size = 4 := rfl; omega
  have hA' : ¬ 9223372036854775807 < 4 + l.size := by omega
  have hB : ¬ 9223372036854775807 < ((⟨#[110, 111, 100, 101]⟩ : ByteArray) ++ l).size + r.size := by
    rw [ByteArray.size_append]; have : (⟨#[110, 111, 100, 101]⟩ : ByteArray).size = 4 := rfl; omega
  have hB' : ¬ 9223372036854775807 < 4 + l.size + r.size := by omega
  obtain ⟨v2, w2, hc2, r2, b2⟩ := bytes_run ((bNode ++ l) ++ r) w
  have hc2' : (convert 9 86 (.string (((⟨#[110, 111, 100, 101]⟩ : ByteArray) ++ l) ++ r))).run Tryz.prog w = .ok v2 w2 := hc2
  have R2 : Hid (RowB w2 v2 (bys ((bNode ++ l) ++ r))) := r2
  have B2 : Hid (Below w.heap.size w w2) := b2
  clear hc2 r2 b2
  go_enter Tryz.func97, Tryz.ntmps97
  go_wp2_with fail
  refine (hash1_any v2 _ w2 R2.out (by rw [HE.out]; exact HL.out)).mono ?_
  rintro e w3 ⟨rfl, b3⟩
  rw [HE.out]
  go_wp2_with fail
  go_ret
  exact ⟨rfl, B2.out.trans (b3.mono B2.out.size)⟩
end Go.Proofs.YtnebohdlndiejaaGreatDoor.Sx
