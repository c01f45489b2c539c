/- The specification's constants of SHA-256. -/
import Derived.Test.YtiflfcpoajijaaaGreatDoorJMakeCertificate4
namespace Go.Proofs.YtiflfcpoajijaaaGreatDoor.Sh
open Go.RowKit Go.Proofs.YtiflfcpoajijaaaGreatDoor.Sl Go.Proofs.YtiflfcpoajijaaaGreatDoor.Me

def kArr : Array Value := (kList.map fun x => Value.int .u32 (nat x)).toArray
theorem kArr_at (i : Nat) (h : i < 64) : kArr[i]? = some (.int .u32 (nat (kt i))) := by
  have hl : kList.length = 64 := by decide
  unfold kArr kt
  rw [List.getElem?_toArray, List.getElem?_map, List.getElem?_eq_getElem (by omega), List.getD_eq_getElem?_getD, List.getElem?_eq_getElem (by omega)]
  rfl
set_option maxRecDepth 100000 in
set_option maxHeartbeats 1600000 in
theorem l01Consts_any (w : World) :
    Calls Tryz.prog 104 #[] w fun e w' => e = .returned (.slice (some ⟨w.heap.size, 0, none⟩) 64 64) ∧ w' = w.alloc (.cells kArr 115) := by
  go_enter Tryz.func104, Tryz.ntmps104
  go_wp2
  go_ret
  exact ⟨rfl, by kernel_rfl⟩
end Go.Proofs.YtiflfcpoajijaaaGreatDoor.Sh
