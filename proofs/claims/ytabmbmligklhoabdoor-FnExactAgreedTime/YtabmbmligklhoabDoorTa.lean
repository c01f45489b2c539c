/- AgreedTime of the program and of the specification. -/
import Derived.Test.YtabmbmligklhoabDoorTs
namespace Go.Proofs.YtabmbmligklhoabDoor.Ta
open Go.RowKit Go.Proofs.YtabmbmligklhoabDoor.Sl Go.Proofs.YtabmbmligklhoabDoor.By Go.Proofs.YtabmbmligklhoabDoor.Ap Go.Proofs.YtabmbmligklhoabDoor.Tx Go.Proofs.YtabmbmligklhoabDoor.Sh Go.Proofs.YtabmbmligklhoabDoor.Is Go.Proofs.YtabmbmligklhoabDoor.So Go.Proofs.YtabmbmligklhoabDoor.Md Go.Proofs.YtabmbmligklhoabDoor.Mr Go.Proofs.YtabmbmligklhoabDoor.Rm Go.Proofs.YtabmbmligklhoabDoor.Rw Go.Proofs.YtabmbmligklhoabDoor.Rs Go.Proofs.YtabmbmligklhoabDoor.Tm Go.Proofs.YtabmbmligklhoabDoor.Ti Go.Proofs.YtabmbmligklhoabDoor.Ts

/-- What AgreedTime answers beside ReadingsTime's code. -/
def aOut (b n : Int) (rs : List Rd) : Int := if tCode n rs = 0 then max b (tOut n rs) else 0
theorem t_code_long {n : Int} {rs : List Rd} (h : 4096 < rs.length) : tCode n rs = 2 := by unfold tCode; rw [if_pos h]
set_option maxRecDepth 100000 in
set_option maxHeartbeats 800000 in
theorem implAgreedTime_any (b n : Int) (v : Value) (rs : List Rd) (w : World) (h : RowR w v rs) (hl : rs.length ≤ 1048576) (hK : KTab w) (hp : 0 < w.heap.size) :
    Calls Tryd.prog 14 #[.int .i64 b, .int .i64 n, v] w fun e w' => e = .returned (.tuple #[.int .i64 (aOut b n rs), .int .i64 (tCode n rs)]) ∧ Below w.heap.size w w' := by
  have HR : Hid (RowR w v rs ∧ KTab w) := ⟨h, hK⟩
  have HA : Hid (aOut b n rs = if tCode n rs = 0 then max b (tOut n rs) else 0) := rfl
  clear h hK
  by_cases hc : tCode n rs = 0
  · have hc' : (tCode n rs != 0) = false := by simpa using hc
    have HA2 : Hid (aOut b n rs = max b (tOut n rs) ∧ tCode n rs = 0) := ⟨by rw [HA.out, if_pos hc], hc⟩
    clear HA hc
    go_enter Tryd.func14, Tryd.ntmps14
    go_wp2_with fail
    refine (implReadingsTime_any n v rs w HR.out.1 hl HR.out.2 hp).mono ?_
    rintro e w1 ⟨rfl, b1⟩
    generalize tOut n rs = t at HA2 ⊢
    obtain ⟨c, HCC⟩ : ∃ c, Hid (tCode n rs = c) := ⟨_, rfl⟩
    rw [HCC.out] at hc' ⊢
    go_wp2_with fail
    go_ret2
    exact ⟨Md.ret_ii ⟨HA2.out.1.symm, HA2.out.2.symm⟩, b1⟩
  · have hc' : (tCode n rs != 0) = true := by simpa using hc
    have HA2 : Hid (aOut b n rs = 0) := by show _ = _; rw [HA.out, if_neg hc]
    clear HA hc
    go_enter Tryd.func14, Tryd.ntmps14
    go_wp2_with fail
    refine (implReadingsTime_any n v rs w HR.out.1 hl HR.out.2 hp).mono ?_
    rintro e w1 ⟨rfl, b1⟩
    generalize tOut n rs = t
    obtain ⟨c, HCC⟩ : ∃ c, Hid (tCode n rs = c) := ⟨_, rfl⟩
    rw [HCC.out] at hc' ⊢
    go_wp2_with fail
    go_ret2
    exact ⟨Md.ret_ii ⟨HA2.out.symm, HCC.out.symm⟩, b1⟩
set_option maxRecDepth 100000 in
set_option maxHeartbeats 800000 in
theorem specAgreedTime_any (b n : Int) (v : Value) (rs : List Rd) (w : World) (h : RowR w v rs) (hl : rs.length ≤ 1048576) :
    Calls Tryd.prog 18 #[.int .i64 b, .int .i64 n, v] w fun e w' => e = .returned (.tuple #[.int .i64 (aOut b n rs), .int .i64 (tCode n rs)]) ∧ Below w.heap.size w w' := by
  have HR : Hid (RowR w v rs) := h
  obtain ⟨a, cap, rfl, _⟩ := h
  have HA : Hid (aOut b n rs = if tCode n rs = 0 then max b (tOut n rs) else 0) := rfl
  by_cases hb : 4096 < rs.length
  · have hb' : (4096 : Int) < (rs.length : Int) := by omega
    have HA2 : Hid (aOut b n rs = 0 ∧ tCode n rs = 2) := ⟨by rw [HA.out, t_code_long hb]; rfl, t_code_long hb⟩
    clear hb HA
    go_enter Tryd.func18, Tryd.ntmps18
    go_wp2_with fail
    go_ret2
    exact ⟨Md.ret_ii ⟨HA2.out.1.symm, HA2.out.2.symm⟩, Below.refl _ _⟩
  have hb' : ¬ (4096 : Int) < (rs.length : Int) := by omega
  by_cases hc : tCode n rs = 0
  · have hc' : (tCode n rs != 0) = false := by simpa using hc
    have HA2 : Hid (aOut b n rs = max b (tOut n rs) ∧ tCode n rs = 0) := ⟨by rw [HA.out, if_pos hc], hc⟩
    clear HA hc
    go_enter Tryd.func18, Tryd.ntmps18
    go_wp2_with fail
    refine (specReadingsTime_any n _ rs w HR.out hl).mono ?_
    rintro e w1 ⟨rfl, b1⟩
    generalize tOut n rs = t at HA2 ⊢
    obtain ⟨c, HCC⟩ : ∃ c, Hid (tCode n rs = c) := ⟨_, rfl⟩
    rw [HCC.out] at hc' ⊢
    go_wp2_with fail
    go_ret2
    exact ⟨Md.ret_ii ⟨HA2.out.1.symm, HA2.out.2.symm⟩, b1⟩
  · have hc' : (tCode n rs != 0) = true := by simpa using hc
    have HA2 : Hid (aOut b n rs = 0) := by show _ = _; rw [HA.out, if_neg hc]
    clear HA hc
    go_enter Tryd.func18, Tryd.ntmps18
    go_wp2_with fail
    refine (specReadingsTime_any n _ rs w HR.out hl).mono ?_
    rintro e w1 ⟨rfl, b1⟩
    generalize tOut n rs = t
    obtain ⟨c, HCC⟩ : ∃ c, Hid (tCode n rs = c) := ⟨_, rfl⟩
    rw [HCC.out] at hc' ⊢
    go_wp2_with fail
    go_ret2
    exact ⟨Md.ret_ii ⟨HA2.out.symm, HCC.out.symm⟩, b1⟩
end Go.Proofs.YtabmbmligklhoabDoor.Ta
