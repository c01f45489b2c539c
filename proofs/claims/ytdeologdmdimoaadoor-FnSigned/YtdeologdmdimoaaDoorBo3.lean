/- Batches that are right: the specification. -/
import Derived.Test.YtdeologdmdimoaaDoorBo2
namespace Go.Proofs.YtdeologdmdimoaaDoor.Bo
open Go.RowKit Go.Proofs.YtdeologdmdimoaaDoor.Rg Go.Proofs.YtdeologdmdimoaaDoor.Gr Go.Proofs.YtdeologdmdimoaaDoor.Rq

/-- The least number that the next node may have. -/
def lst (rs : List Rd) (k : Nat) : Int := if k = 0 then 0 else (match rs[k - 1]? with | some x => x.f + 1 | none => 0)
theorem lst_zero (rs : List Rd) : lst rs 0 = 0 := rfl
theorem lst_succ {rs : List Rd} {k : Nat} {x : Rd} (h : rs[k]? = some x) : lst rs (k + 1) = x.f + 1 := by
  unfold lst
  rw [if_neg (by omega), Nat.add_sub_cancel, h]
end Go.Proofs.YtdeologdmdimoaaDoor.Bo
