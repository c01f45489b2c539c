/- BodyDigest of the program and of the specification. -/
import Derived.Test.YtddmdnljfnimbaaGreatDoorHo
import Derived.Test.YtddmdnljfnimbaaGreatDoorShaL
import Derived.Lib.FrozenHead
namespace Go.Proofs.YtddmdnljfnimbaaGreatDoor.Bd
open Go.RowKit Go.Proofs.YtddmdnljfnimbaaGreatDoor.Sl Go.Proofs.YtddmdnljfnimbaaGreatDoor.By Go.Proofs.YtddmdnljfnimbaaGreatDoor.Ap Go.Proofs.YtddmdnljfnimbaaGreatDoor.Tx Go.Proofs.YtddmdnljfnimbaaGreatDoor.Sh Go.Proofs.YtddmdnljfnimbaaGreatDoor.Ho

def bBt : ByteArray := ⟨#[98, 97, 116, 99, 104]⟩
/-- The digest of a body. -/
def dig (s : ByteArray) : ByteArray := hashS (bys bBt ++ bys s)
def dOut (s : ByteArray) : ByteArray := if (65531 : Int) < (s.size : Int) then ⟨#[]⟩ else dig s
def dCode (s : ByteArray) : Int := if (65531 : Int) < (s.size : Int) then 2 else 0
theorem ret_sc {s t : ByteArray} {a b : Int} (h : s = t ∧ a = b) : Ending.returned (.tuple #[.string s, .int .i64 a]) = .returned (.tuple #[.string t, .int .i64 b]) := by rw [h.1, h.2]
theorem bt_len (s : ByteArray) : (bys bBt ++ bys s).length = 5 + s.size := by
  rw [List.length_append, bys_length, bys_length]; rfl
theorem hash1_any (v : Value) (xs : List Int) (w : World) (h : RowB w v xs) (hl : xs.length ≤ 65536) :
    Calls Tryz.prog 66 #[v] w fun e w' => e = .returned (.string (hashS xs)) ∧ Below w.heap.size w w' := by
  have e : hashS xs = strOfNums (sha xs) := if_neg (by omega)
  rw [e]
  exact l01Hash_any v xs w h hl
set_option maxRecDepth 100000 in
set_option maxHeartbeats 400000 in
theorem implBodyDigest_any (s : ByteArray) (w : World) (hK : KTab w) (hp : 0 < w.heap.size) :
    Calls Tryz.prog 55 #[.string s] w fun e w' => e = .returned (.tuple #[.string (dOut s), .int .i64 (dCode s)]) ∧ Below w.heap.size w w' := by
  have GK : Hid (KTab w) := hK
  clear hK
  by_cases h : (65531 : Int) < (s.size : Int)
  · have HE : Hid (⟨#[]⟩ = dOut s ∧ 2 = dCode s) := ⟨by unfold dOut; rw [if_pos h], by unfold dCode; rw [if_pos h]⟩
    go_enter Tryz.func55, Tryz.ntmps55
    go_wp2_with fail
    go_ret2
    exact ⟨ret_sc HE.out, Below.refl _ _⟩
  · have HE : Hid (dig s = dOut s ∧ 0 = dCode s) := ⟨by unfold dOut; rw [if_neg h], by unfold dCode; rw [if_neg h]⟩
    have HCT : Hid (cat [bBt, s] = bys bBt ++ bys s) := by
      show _ = _
      unfold cat
      simp only [List.flatMap_cons, List.flatMap_nil, List.append_nil]
    have HD : Hid (hashS (bys bBt ++ bys s) = dig s) := rfl
    go_enter Tryz.func55, Tryz.ntmps55
    go_wp2_with fail
    refine (hashOf_lit w _ 2 rfl _ [bBt, s] rfl rfl (by decide) (by decide) (by rw [HCT.out, bt_len]; omega) GK.out hp).mono ?_
    rintro e w1 ⟨rfl, b1⟩
    rw [HCT.out, HD.out]
    go_wp2_with fail
    go_ret2
    exact ⟨ret_sc HE.out, b1⟩
set_option maxRecDepth 100000 in
set_option maxHeartbeats 400000 in
theorem l06Digest_any (s : ByteArray) (w : World) (h : s.size ≤ 65531) :
    Calls Tryz.prog 49 #[.string s] w fun e w' => e = .returned (.string (dig s)) ∧ Below w.heap.size w w' := by
  have hA : ¬ 9223372036854775807 < (⟨#[98, 97, 116, 99, 104]⟩ : ByteArray).size + s.size := by have : (⟨#[98, 97, 116, 99, 104]⟩ : ByteArray).size = 5 := rfl; omega
  have hA' : ¬ 9223372036854775807 < 5 + s.size := by omega
  obtain ⟨v2, w2, hc2, r2, b2⟩ := bytes_run (bBt ++ s) w
  have hc2' : (convert 9 91 (.string ((⟨#[98, 97, 116, 99, 104]⟩ : ByteArray) ++ s))).run Tryz.prog w = .ok v2 w2 := hc2
  have R2 : Hid (RowB w2 v2 (bys bBt ++ bys s)) := by rw [bys_append] at r2; exact r2
  have B2 : Hid (Below w.heap.size w w2) := b2
  have HD : Hid (hashS (bys bBt ++ bys s) = dig s) := rfl
  clear hc2 r2 b2
  go_enter Tryz.func49, Tryz.ntmps49
  go_wp2_with fail
  refine (hash1_any v2 _ w2 R2.out (by rw [bt_len]; omega)).mono ?_
  rintro e w3 ⟨rfl, b3⟩
  rw [HD.out]
  go_wp2_with fail
  go_ret
  exact ⟨rfl, B2.out.trans (b3.mono B2.out.size)⟩
end Go.Proofs.YtddmdnljfnimbaaGreatDoor.Bd
