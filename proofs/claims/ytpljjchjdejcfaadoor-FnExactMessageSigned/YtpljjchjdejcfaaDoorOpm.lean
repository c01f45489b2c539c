/- A message by value, as the row opens it. -/
import Derived.Test.YtpljjchjdejcfaaDoorOpn
import Derived.Test.YtpljjchjdejcfaaDoorMsg2
namespace Go.Proofs.YtpljjchjdejcfaaDoor.Op
open Go.ChangeShapes Go.WideShapes Go.ChangeAt Go.RowKit Go.Deep
theorem cellsMsg : Tryd.prog.cellsOf 26 = 7 := by kernel_rfl

set_option maxRecDepth 100000 in
theorem open_msg {H : Type} {enc : TypeId × Value → H} {w : World} {base : Nat} {spare : Nat → Bool} {held : Bool} {r : Reach} {b0 : Nat} {v : Value} {d : DataW H} {p : List MemPlace}
    (hv : Value.okWide Tryd.prog w r b0 26 v) (h : DataW.Trod enc Tryd.prog w base spare held 26 v d p) :
    ∃ (kd vw sq fr : Int) (dg bd mc : ByteArray), v = Ms.msgV kd vw sq fr dg bd mc ∧ dg.size ≤ maxLen ∧ bd.size ≤ maxLen ∧ mc.size ≤ maxLen := by
  obtain ⟨cs, rfl, hsz, hf⟩ := open_cells Tryd.underlying26 (by kernel_rfl) hv h
  obtain ⟨c0, c1, c2, c3, c4, c5, c6, rfl⟩ := array7 (hsz.trans cellsMsg)
  obtain ⟨a0, rfl, _⟩ := cell_int Tryd.underlying3 (hf 0 _ _ rfl rfl)
  obtain ⟨a1, rfl, _⟩ := cell_int Tryd.underlying3 (hf 1 _ _ rfl rfl)
  obtain ⟨a2, rfl, _⟩ := cell_int Tryd.underlying3 (hf 2 _ _ rfl rfl)
  obtain ⟨a3, rfl, _⟩ := cell_int Tryd.underlying3 (hf 3 _ _ rfl rfl)
  obtain ⟨s0, rfl, h0⟩ := cell_string Tryd.underlying9 (hf 4 _ _ rfl rfl)
  obtain ⟨s1, rfl, h1⟩ := cell_string Tryd.underlying9 (hf 5 _ _ rfl rfl)
  obtain ⟨s2, rfl, h2⟩ := cell_string Tryd.underlying9 (hf 6 _ _ rfl rfl)
  exact ⟨a0, a1, a2, a3, s0, s1, s2, rfl, h0, h1, h2⟩
end Go.Proofs.YtpljjchjdejcfaaDoor.Op
