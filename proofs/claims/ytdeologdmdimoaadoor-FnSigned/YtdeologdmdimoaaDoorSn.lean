/- What a drawn message is when it is signed. -/
import Derived.Test.YtdeologdmdimoaaDoorSi4
namespace Go.Proofs.YtdeologdmdimoaaDoor.Si
open Go.RowKit Go.Proofs.YtdeologdmdimoaaDoor.Sl Go.Proofs.YtdeologdmdimoaaDoor.By Go.Proofs.YtdeologdmdimoaaDoor.Rq Go.Proofs.YtdeologdmdimoaaDoor.Ap Go.Proofs.YtdeologdmdimoaaDoor.Sh Go.Proofs.YtdeologdmdimoaaDoor.Ho Go.Proofs.YtdeologdmdimoaaDoor.Mr Go.Proofs.YtdeologdmdimoaaDoor.Ms Go.Proofs.YtdeologdmdimoaaDoor.Mp Go.Proofs.YtdeologdmdimoaaDoor.Rp Go.Proofs.YtdeologdmdimoaaDoor.Pu

theorem sgn_ok {kd vw sq fr : Int} {dg bd mc : ByteArray} {i : Nat} (h : msgB kd vw sq fr dg bd mc = true) (hi : i < 4) :
    sCode (i : Int) kd vw sq dg bd = 0 ∧ sV (i : Int) kd vw sq dg bd = msgV kd vw sq i dg bd (mmk kd vw sq i dg bd) ∧ gB 4 kd vw sq i dg bd (mmk kd vw sq i dg bd) = true := by
  obtain ⟨hd, hb, _⟩ := Mp.msg_small h
  have h8 : msgB kd vw sq i dg bd b8 = true := by
    have e : inB (i : Int) 0 6 = true := decide_eq_true ⟨by omega, by omega⟩
    unfold msgB at h ⊢
    simp only [Bool.and_eq_true] at h
    rw [h.1, e, h.2.2.2.1, h.2.2.2.2]
    rfl
  have hi6 : inB (i : Int) 0 6 = true := decide_eq_true ⟨by omega, by omega⟩
  have ho : sOK (i : Int) kd vw sq dg bd = true := h8
  refine ⟨?_, ?_, ?_⟩
  · unfold sCode; rw [hi6, ho]; rfl
  · unfold sV; rw [hi6, ho]; rfl
  · unfold gB lB
    rw [msgB_mac kd vw sq i dg bd (mc' := b8) (mmk_size kd vw sq i dg bd hd hb), h8, decide_eq_true (show (i : Int) < 4 by omega)]
    show (decide _ && (true && (true && (_ == _)))) = true
    rw [decide_eq_true (show Tm.fCode 4 = 0 from rfl)]
    simp
end Go.Proofs.YtdeologdmdimoaaDoor.Si
