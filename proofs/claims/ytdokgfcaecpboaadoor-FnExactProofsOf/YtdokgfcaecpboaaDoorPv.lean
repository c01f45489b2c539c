/- ProvePiece: what both functions answer. -/
import Derived.Test.YtdokgfcaecpboaaDoorPu
namespace Go.Proofs.YtdokgfcaecpboaaDoor.Py
open Go.RowKit Go.Proofs.YtdokgfcaecpboaaDoor.Sl Go.Proofs.YtdokgfcaecpboaaDoor.By Go.Proofs.YtdokgfcaecpboaaDoor.Ap Go.Proofs.YtdokgfcaecpboaaDoor.Tx Go.Proofs.YtdokgfcaecpboaaDoor.Sh Go.Proofs.YtdokgfcaecpboaaDoor.Ho Go.Proofs.YtdokgfcaecpboaaDoor.Se Go.Proofs.YtdokgfcaecpboaaDoor.Ka Go.Proofs.YtdokgfcaecpboaaDoor.Sx Go.Proofs.YtdokgfcaecpboaaDoor.Pf Go.Proofs.YtdokgfcaecpboaaDoor.Px

noncomputable def pvC (ts : List ByteArray) (i : Int) : Int := if pcC ts = 0 then (if inP i 0 ((ts.length : Int) - 1) = true then 0 else 4) else pcC ts
noncomputable def pvL (ts : List ByteArray) (i : Int) : List ByteArray := if pvC ts i = 0 then pathF 64 ts i.toNat else []
theorem pv_bad {ts : List ByteArray} {i : Int} (h : pcC ts ≠ 0) : pvC ts i = pcC ts ∧ pvL ts i = [] := by
  have e : pvC ts i = pcC ts := if_neg h
  exact ⟨e, by unfold pvL; rw [e, if_neg h]⟩
theorem pv_out {ts : List ByteArray} {i : Int} (h : pcC ts = 0) (hi : inP i 0 ((ts.length : Int) - 1) = false) : pvC ts i = 4 ∧ pvL ts i = [] := by
  have e : pvC ts i = 4 := by unfold pvC; rw [if_pos h, hi]; rfl
  exact ⟨e, by unfold pvL; rw [e]; rfl⟩
theorem pv_ok {ts : List ByteArray} {i : Int} (h : pcC ts = 0) (hi : inP i 0 ((ts.length : Int) - 1) = true) : pvC ts i = 0 ∧ pvL ts i = pathF 64 ts i.toNat := by
  have e : pvC ts i = 0 := by unfold pvC; rw [if_pos h, hi]; rfl
  exact ⟨e, by unfold pvL; rw [if_pos e]⟩
theorem inP_get {n a b : Int} (h : inP n a b = true) : a ≤ n ∧ n ≤ b := by
  unfold inP at h
  rw [Bool.and_eq_true, decide_eq_true_eq, decide_eq_true_eq] at h
  exact h
theorem pv_small (ts : List ByteArray) (i : Int) : (pvL ts i).length ≤ 64 := by
  unfold pvL
  split
  · exact pathF_length 64 ts _
  · simp
end Go.Proofs.YtdokgfcaecpboaaDoor.Py
