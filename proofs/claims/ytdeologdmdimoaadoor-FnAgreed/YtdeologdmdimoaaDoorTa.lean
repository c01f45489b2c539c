/- AgreedTime of the program and of the specification. -/
import Derived.Test.YtdeologdmdimoaaDoorTs
namespace Go.Proofs.YtdeologdmdimoaaDoor.Ta
open Go.RowKit Go.Proofs.YtdeologdmdimoaaDoor.Sl Go.Proofs.YtdeologdmdimoaaDoor.By Go.Proofs.YtdeologdmdimoaaDoor.Ap Go.Proofs.YtdeologdmdimoaaDoor.Tx Go.Proofs.YtdeologdmdimoaaDoor.Sh Go.Proofs.YtdeologdmdimoaaDoor.Is Go.Proofs.YtdeologdmdimoaaDoor.So Go.Proofs.YtdeologdmdimoaaDoor.Md Go.Proofs.YtdeologdmdimoaaDoor.Mr Go.Proofs.YtdeologdmdimoaaDoor.Rm Go.Proofs.YtdeologdmdimoaaDoor.Rw Go.Proofs.YtdeologdmdimoaaDoor.Rs Go.Proofs.YtdeologdmdimoaaDoor.Tm Go.Proofs.YtdeologdmdimoaaDoor.Ti Go.Proofs.YtdeologdmdimoaaDoor.Ts

/-- What AgreedTime answers beside ReadingsTime's code. -/
def aOut (b n : Int) (rs : List Rd) : Int := if tCode n rs = 0 then max b (tOut n rs) else 0
theorem t_code_long {n : Int} {rs : List Rd} (h : 4096 < rs.length) : tCode n rs = 2 := by unfold tCode; rw [if_pos h]
set_option maxRecDepth 100000 in
set_option maxHeartbeats 800000 in
theorem implAgreedTime_any (b n : Int) (v : Value) (rs : List Rd) (w : World) (h : RowR w v rs) (hl : rs.length ≤ 1048576) (hK : KTab w) (hp : 0 < w.heap.size) :
    Calls Tryd.prog 19 #[.int .i64 b, .int .i64 n, v] w fun e w' => e = .returned (.tuple #[.int .i64 (aOut b n rs), .int .i64 (tCode n rs)]) ∧ Below w.heap.size w w' := by
  have HR : Hid (RowR w v rs ∧ KTab w) := ⟨h, hK⟩
  have HA : Hid (aOut b n rs = if tCode n rs = 0 then max b (tOut n rs) else 0) := rfl
  clear h hK
  by_cases hc : tCode n rs = 0
  · have hc' : (tCode n rs != 0) = false := by simpa using hc
    have HA2 : Hid (aOut b n rs = max b (tOut n rs) ∧ tCode n rs = 0) := ⟨by rw [HA.out, if_pos hc], hc⟩
    clear HA hc
    go_enter Tryd.func19, Tryd.ntmps19
    go_wp2_with fail
    refine (implReadingsTime_any n v rs w HR.out.1 hl HR.out.2 hp).mono ?_
    rintro e w1 ⟨rfl, b1⟩
    generalize tOut n rs = t at HA2 ⊢
    obtain ⟨c, HCC⟩ : ∃ c, Hid (tCode n rs = c) := ⟨_, rfl⟩
    rw [HCC.out] at hc' ⊢
    go_wp2_with fail
    go_ret2
    exact ⟨Md.ret_ii ⟨HA2.out.1.symm, HA2.out.2.symm⟩, b1⟩
  · have hc' : (tCode n rs != 0) = true := by simpa using hc
    have HA2 : Hid (aOut b n rs = 0) := by show _ = _; rw [HA.out, if_neg hc]
    clear HA hc
    go_enter Tryd.func19, Tryd.ntmps19
    go_wp2_with fail
    refine (implReadingsTime_any n v rs w HR.out.1 hl HR.out.2 hp).mono ?_
    rintro e w1 ⟨rfl, b1⟩
    generalize tOut n rs = t
    obtain ⟨c, HCC⟩ : ∃ c, Hid (tCode n rs = c) := ⟨_, rfl⟩
    rw [HCC.out] at hc' ⊢
    go_wp2_with fail
    go_ret2
    exact ⟨Md.ret_ii ⟨HA2.out.symm, HCC.out.symm⟩, b1⟩
end Go.Proofs.YtdeologdmdimoaaDoor.Ta
