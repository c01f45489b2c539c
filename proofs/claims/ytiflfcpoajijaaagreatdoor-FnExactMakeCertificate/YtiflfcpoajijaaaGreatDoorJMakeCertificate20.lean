/- What CheckSignature answers. -/
import Derived.Test.YtiflfcpoajijaaaGreatDoorJMakeCertificate19
namespace Go.Proofs.YtiflfcpoajijaaaGreatDoor.Cs
open Go.RowKit Go.Proofs.YtiflfcpoajijaaaGreatDoor.Sl Go.Proofs.YtiflfcpoajijaaaGreatDoor.By Go.Proofs.YtiflfcpoajijaaaGreatDoor.Ap Go.Proofs.YtiflfcpoajijaaaGreatDoor.Tx Go.Proofs.YtiflfcpoajijaaaGreatDoor.Sh Go.Proofs.YtiflfcpoajijaaaGreatDoor.Ho Go.Proofs.YtiflfcpoajijaaaGreatDoor.Se Go.Proofs.YtiflfcpoajijaaaGreatDoor.Ka Go.Proofs.YtiflfcpoajijaaaGreatDoor.Sx Go.Proofs.YtiflfcpoajijaaaGreatDoor.Hf Go.Proofs.YtiflfcpoajijaaaGreatDoor.Sa Go.Proofs.YtiflfcpoajijaaaGreatDoor.Kx Go.Proofs.YtiflfcpoajijaaaGreatDoor.Mb Go.Proofs.YtiflfcpoajijaaaGreatDoor.Sg

/-- The root that a signature leads to. -/
def upR (msg : ByteArray) (k : Nat) (ta tb tc : List ByteArray) : ByteArray := climb (keyH (pairTo (dig msg) ta tb 32)) k tc
/-- What CheckSignature answers. -/
def vC (root msg : ByteArray) (i : Int) (ta tb tc : List ByteArray) : Int :=
  if 65530 < msg.size ∨ 65536 < root.size then 2 else if root.size = 32 ∧ hsB ta 32 = true ∧ hsB tb 32 = true ∧ hsB tc 3 = true then (if inR i 0 7 = true then (if (upR msg i.toNat ta tb tc).toList = root.toList then 0 else 12) else 4) else 1
theorem key_size (msg : ByteArray) {ta tb : List ByteArray} (ha : hsB ta 32 = true) (hb : hsB tb 32 = true) : (keyH (pairTo (dig msg) ta tb 32)).size = 32 := by
  obtain ⟨h1, h2⟩ := hs_get ha
  obtain ⟨h3, h4⟩ := hs_get hb
  exact keyH_size _ (by rw [cat_len _ (pairTo_all _ ta tb h2 h4 32 (by omega) (by omega)), pairTo_length]; decide)

end Go.Proofs.YtiflfcpoajijaaaGreatDoor.Cs
