/- SignMessage of the specification. -/
import Derived.Test.YtddmdnljfnimbaaGreatDoorSi2
namespace Go.Proofs.YtddmdnljfnimbaaGreatDoor.Si
open Go.RowKit Go.Proofs.YtddmdnljfnimbaaGreatDoor.Sl Go.Proofs.YtddmdnljfnimbaaGreatDoor.By Go.Proofs.YtddmdnljfnimbaaGreatDoor.Rq Go.Proofs.YtddmdnljfnimbaaGreatDoor.Ap Go.Proofs.YtddmdnljfnimbaaGreatDoor.Sh Go.Proofs.YtddmdnljfnimbaaGreatDoor.Ho Go.Proofs.YtddmdnljfnimbaaGreatDoor.Mr Go.Proofs.YtddmdnljfnimbaaGreatDoor.Ms Go.Proofs.YtddmdnljfnimbaaGreatDoor.Mp Go.Proofs.YtddmdnljfnimbaaGreatDoor.Rp Go.Proofs.YtddmdnljfnimbaaGreatDoor.Pu
open Go.Proofs.YtddmdnljfnimbaaGreatDoor.Tx (blk_cell blk_set blk_far blk_new bel_new)

def b9 : ByteArray := ⟨#[49, 50, 51, 52, 53, 54, 55, 56]⟩
theorem b9_b8 (kd vw sq fr : Int) (dg bd : ByteArray) : msgB kd vw sq fr dg bd b9 = msgB kd vw sq fr dg bd b8 := msgB_mac kd vw sq fr dg bd rfl
end Go.Proofs.YtddmdnljfnimbaaGreatDoor.Si
