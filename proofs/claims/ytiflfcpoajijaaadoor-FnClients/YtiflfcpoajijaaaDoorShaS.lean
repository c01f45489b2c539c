/- The specification's constants of SHA-256. -/
import Derived.Test.YtiflfcpoajijaaaDoorShaH
namespace Go.Proofs.YtiflfcpoajijaaaDoor.Sh
open Go.RowKit Go.Proofs.YtiflfcpoajijaaaDoor.Sl Go.Proofs.YtiflfcpoajijaaaDoor.Me

def kArr : Array Value := (kList.map fun x => Value.int .u32 (nat x)).toArray
theorem kArr_at (i : Nat) (h : i < 64) : kArr[i]? = some (.int .u32 (nat (kt i))) := by
  have hl : kList.length = 64 := by decide
  unfold kArr kt
  rw [List.getElem?_toArray, List.getElem?_map, List.getElem?_eq_getElem (by omega), List.getD_eq_getElem?_getD, List.getElem?_eq_getElem (by omega)]
  rfl
end Go.Proofs.YtiflfcpoajijaaaDoor.Sh
