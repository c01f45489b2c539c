/- The specification's Hash. -/
import Derived.Test.YtjggfholjdplbabDoorShaL
namespace Go.Proofs.YtjggfholjdplbabDoor.Sh
open Go.RowKit Go.Proofs.YtjggfholjdplbabDoor.Sl Go.Proofs.YtjggfholjdplbabDoor.Me

set_option maxRecDepth 100000 in
set_option maxHeartbeats 400000 in
theorem specHash_any (v : Value) (xs : List Int) (w : World) (h : RowB w v xs) :
    Calls Tryd.prog 7 #[v] w fun e w' => e = .returned (.string (hashS xs)) ∧ Below w.heap.size w w' := by
  by_cases hb : 65536 < xs.length
  · have HE : Hid (hashS xs = ⟨#[]⟩) := if_pos hb
    have hb' : (65536 : Int) < (xs.length : Int) := by omega
    obtain ⟨a, cap, rfl, _, _⟩ := h
    go_enter Tryd.func7, Tryd.ntmps7
    go_wp2
    go_ret
    exact ⟨ret_str HE.out.symm, Below.refl _ _⟩
  · have HE : Hid (hashS xs = strOfNums (sha xs)) := if_neg hb
    have hb' : (xs.length : Int) ≤ 65536 := by omega
    have h' := h
    obtain ⟨a, cap, rfl, _, _⟩ := h
    have HR : Hid (RowB w (.slice a xs.length cap) xs) := h'
    clear h'
    go_enter Tryd.func7, Tryd.ntmps7
    go_wp2_with fail
    refine (l01Hash_any _ xs _ HR.out (by omega)).mono ?_
    rintro e w1 ⟨rfl, b1⟩
    go_wp2_with fail
    go_ret
    exact ⟨ret_str HE.out.symm, b1⟩
end Go.Proofs.YtjggfholjdplbabDoor.Sh
