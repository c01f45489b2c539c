/- ChainRoot, of the program and of the specification. -/
import Derived.Test.YtimmeclclilpdaaGreatDoorRt3
namespace Go.Proofs.YtimmeclclilpdaaGreatDoor.Cr
open Go.RowKit Go.Proofs.YtimmeclclilpdaaGreatDoor.Sl Go.Proofs.YtimmeclclilpdaaGreatDoor.By Go.Proofs.YtimmeclclilpdaaGreatDoor.Ap Go.Proofs.YtimmeclclilpdaaGreatDoor.Tx Go.Proofs.YtimmeclclilpdaaGreatDoor.Sh Go.Proofs.YtimmeclclilpdaaGreatDoor.Ho Go.Proofs.YtimmeclclilpdaaGreatDoor.Se Go.Proofs.YtimmeclclilpdaaGreatDoor.Ka Go.Proofs.YtimmeclclilpdaaGreatDoor.Sx Go.Proofs.YtimmeclclilpdaaGreatDoor.Hf Go.Proofs.YtimmeclclilpdaaGreatDoor.Sa Go.Proofs.YtimmeclclilpdaaGreatDoor.Kx Go.Proofs.YtimmeclclilpdaaGreatDoor.Lv

/-- The root of a seed. -/
def rootS (seed : ByteArray) : ByteArray := rootN 3 (keysTo seed 8)
theorem keys32 (seed : ByteArray) (hs : seed.size ≤ 60000) : Row32 3 (keysTo seed 8) := ⟨keysTo_length _ _, keysTo_all seed hs 8⟩
theorem rootS_size (seed : ByteArray) (hs : seed.size ≤ 60000) : (rootS seed).size = 32 := rootN_size 3 _ (keys32 seed hs)
def rOut (s : ByteArray) : ByteArray := if hf s = 0 then rootS s else ⟨#[]⟩
theorem hf_cases (s : ByteArray) : (65536 < s.size ∧ hf s = 2) ∨ (¬ 65536 < s.size ∧ s.size ≠ 32 ∧ hf s = 1) ∨ (s.size = 32 ∧ hf s = 0) := by
  by_cases h1 : 65536 < s.size
  · exact .inl ⟨h1, hf_long h1⟩
  · by_cases h2 : s.size = 32
    · exact .inr (.inr ⟨h2, hf_ok h2⟩)
    · exact .inr (.inl ⟨h1, h2, hf_bad h1 h2⟩)
set_option maxRecDepth 100000 in
set_option maxHeartbeats 400000 in
theorem implChainRoot_any (s : ByteArray) (w : World) (hK : KTab w) (hp : 0 < w.heap.size) :
    Calls Tryz.prog 37 #[.string s] w fun e w' => e = .returned (.tuple #[.string (rOut s), .int .i64 (hf s)]) ∧ Below w.heap.size w w' := by
  have GK : Hid (KTab w) := hK
  clear hK
  by_cases hk : hf s = 0
  · have hsz : s.size = 32 := by rcases hf_cases s with ⟨_, h⟩ | ⟨_, _, h⟩ | ⟨h, _⟩ <;> omega
    have HS : Hid (s.size ≤ 60000) := by show _ ≤ _; omega
    have HC : Hid (hf s = 0 ∧ rOut s = rootN 3 (keysTo s 8)) := ⟨hk, if_pos hk⟩
    clear hsz
    go_enter Tryz.func37, Tryz.ntmps37
    go_wp2_with (first | (go_at_call 71; refine (hashFault_any s _).mono ?_; rintro e w1 ⟨rfl, rfl⟩; rw [hk]) | fail)
    refine (keysOf_any s w HS.out GK.out hp).mono ?_
    rintro e w1 ⟨v1, rfl, o1, b1⟩
    have O1 : Hid (OwnS w1 w.heap.size v1 (keysTo s 8)) := o1
    have B1 : Hid (Below w.heap.size w w1) := b1
    clear o1 b1
    go_wp2_with fail
    refine (foldStr_any 3 (keysTo s 8) v1 _ w1 (by decide) (keys32 s HS.out) O1.out.row (GK.out.below B1.out hp) (Nat.lt_of_lt_of_le hp B1.out.size)).mono ?_
    rintro e w2 ⟨rfl, b2⟩
    go_wp2_with fail
    go_ret2
    exact ⟨ret_sc ⟨HC.out.2.symm, HC.out.1.symm⟩, B1.out.trans (b2.mono B1.out.size)⟩
  · have HC : Hid (rOut s = ⟨#[]⟩) := if_neg hk
    have hk' : (hf s != 0) = true := by simpa using hk
    clear hk
    go_enter Tryz.func37, Tryz.ntmps37
    go_wp2_with (go_at_call 71; refine (hashFault_any s _).mono ?_; rintro e w1 ⟨rfl, rfl⟩)
    go_ret2
    exact ⟨ret_sc ⟨HC.out.symm, rfl⟩, Below.refl _ _⟩
set_option maxRecDepth 100000 in
set_option maxHeartbeats 400000 in
theorem specChainRoot_any (s : ByteArray) (w : World) :
    Calls Tryz.prog 13 #[.string s] w fun e w' => e = .returned (.tuple #[.string (rOut s), .int .i64 (hf s)]) ∧ Below w.heap.size w w' := by
  rcases hf_cases s with ⟨h1, hk⟩ | ⟨h1, h2, hk⟩ | ⟨h2, hk⟩
  · have HC : Hid (hf s = 2 ∧ rOut s = ⟨#[]⟩) := ⟨hk, if_neg (by omega)⟩
    have h1' : (65536 : Int) < (s.size : Int) := by omega
    go_enter Tryz.func13, Tryz.ntmps13
    go_wp2_with fail
    go_ret2
    exact ⟨ret_sc ⟨HC.out.2.symm, HC.out.1.symm⟩, Below.refl _ _⟩
  · have HC : Hid (hf s = 1 ∧ rOut s = ⟨#[]⟩) := ⟨hk, if_neg (by omega)⟩
    have h1' : (s.size : Int) ≤ 65536 := by omega
    have h2' : ((s.size : Int) != 32) = true := by simp; omega
    clear h2
    go_enter Tryz.func13, Tryz.ntmps13
    go_wp2_with fail
    go_ret2
    exact ⟨ret_sc ⟨HC.out.2.symm, HC.out.1.symm⟩, Below.refl _ _⟩
  · have h1' : (s.size : Int) ≤ 65536 := by omega
    have h2' : ((s.size : Int) != 32) = false := by simp; omega
    have HS : Hid (s.size ≤ 60000) := by show _ ≤ _; omega
    have HC : Hid (hf s = 0 ∧ rOut s = rootN 3 (keysTo s 8)) := ⟨hk, if_pos hk⟩
    clear h2
    go_enter Tryz.func13, Tryz.ntmps13
    go_wp2_with fail
    refine (l03Keys_any s w HS.out).mono ?_
    rintro e w1 ⟨v1, rfl, o1, b1⟩
    have O1 : Hid (OwnS w1 w.heap.size v1 (keysTo s 8)) := o1
    have B1 : Hid (Below w.heap.size w w1) := b1
    clear o1 b1
    go_wp2_with fail
    refine (l03Root_any (keysTo s 8) v1 w1 (keys32 s HS.out) O1.out.row).mono ?_
    rintro e w2 ⟨rfl, b2⟩
    go_wp2_with fail
    go_ret2
    exact ⟨ret_sc ⟨HC.out.2.symm, HC.out.1.symm⟩, B1.out.trans (b2.mono B1.out.size)⟩
end Go.Proofs.YtimmeclclilpdaaGreatDoor.Cr
