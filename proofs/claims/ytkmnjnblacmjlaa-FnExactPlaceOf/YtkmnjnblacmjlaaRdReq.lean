/- What is taken is read: impl. -/
import Derived.Test.YtkmnjnblacmjlaaTakeReq
import Derived.Test.YtkmnjnblacmjlaaMsg2
import Derived.Deep.CutRange
import Derived.Deep.DeepCutAuto
namespace Go.Proofs.Ytkmnjnblacmjlaa.Rr
open Go.RowKit Go.Proofs.Ytkmnjnblacmjlaa.Sl Go.Proofs.Ytkmnjnblacmjlaa.By Go.Proofs.Ytkmnjnblacmjlaa.Ap Go.Proofs.Ytkmnjnblacmjlaa.Rq Go.Proofs.Ytkmnjnblacmjlaa.Ms

theorem ret_val {a b : Value} (h : a = b) : Ending.returned a = .returned b := by rw [h]
/-- What a reader answers: too long, no such thing, or the thing. -/
def rjV (z vals : Array Value) (long ok : Bool) : Value := if long then .tuple #[.agg z, .int .i64 2] else if ok then .tuple #[.agg vals, .int .i64 0] else .tuple #[.agg z, .int .i64 3]

end Go.Proofs.Ytkmnjnblacmjlaa.Rr
