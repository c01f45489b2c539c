/- Texts put together: Tm, Qm, Is. -/
import Derived.Below
import Derived.Test.YtakfniknkejgpaaGreatDoorMi1
import Derived.OpenShut
import Derived.ShutString
import Derived.Deep.Fields
namespace Go.Proofs.YtakfniknkejgpaaGreatDoor.Tm
open Go.RowKit
def fOut (n:Int):Int:=if n=1 then 0 else if n=4 then 1 else if n=7 then 2 else 0
def zAz (n:Int):Int:=if n=1 ∨ n=4 ∨ n=7 then 0 else 4
def adT (a b:Int):Int:=min (max a 0+max b 0) 9223372036854775807
theorem ret_i {a b:Int} (h:a=b):Ending.returned (.int .i64 a)=.returned (.int .i64 b):=by rw [h]
theorem ret_ii {a b c d:Int} (h:a=c∧b=d):Ending.returned (.tuple #[.int .i64 a,.int .i64 b])=.returned (.tuple #[.int .i64 c,.int .i64 d]):=by rw [h.1,h.2]
theorem f_cases (n:Int):n=1 ∨ n=4 ∨ n=7 ∨ (n ≠ 1∧n ≠ 4∧n ≠ 7∧fOut n=0∧zAz n=4):=by
 by_cases h1:n=1
 ·exact .inl h1
 by_cases h2:n=4
 ·exact .inr (.inl h2)
 by_cases h3:n=7
 ·exact .inr (.inr (.inl h3))
 refine .inr (.inr (.inr ⟨h1,h2,h3,?_,?_⟩))
 ·unfold fOut;rw [if_neg h1,if_neg h2,if_neg h3]
 ·unfold zAz;rw [if_neg (by omega)]
set_option maxRecDepth 100000 in
set_option maxHeartbeats 400000 in
theorem zAX (n:Int) (w:World):Calls Tryz.prog 64 #[.int .i64 n] w fun e w'=>e=.returned (.tuple #[.int .i64 (fOut n),.int .i64 (zAz n)])∧w'=w:=by
 rcases f_cases n with rfl | rfl | rfl | ⟨h1,h2,h3,e1,e2⟩
 ·go_enter Tryz.func64,Tryz.ntmps64
  go_wp2
  go_ret2
  exact ⟨ret_ii ⟨by decide,by decide⟩,rfl⟩
 ·go_enter Tryz.func64,Tryz.ntmps64
  go_wp2
  go_ret2
  exact ⟨ret_ii ⟨by decide,by decide⟩,rfl⟩
 ·go_enter Tryz.func64,Tryz.ntmps64
  go_wp2
  go_ret2
  exact ⟨ret_ii ⟨by decide,by decide⟩,rfl⟩
 ·have HE:Hid (fOut n=0∧zAz n=4):=⟨e1,e2⟩
  have b1:(n == 1)=false:=by simpa using h1
  have b2:(n == 4)=false:=by simpa using h2
  have b3:(n == 7)=false:=by simpa using h3
  clear h1 h2 h3 e1 e2
  go_enter Tryz.func64,Tryz.ntmps64
  go_wp2
  go_ret2
  exact ⟨ret_ii ⟨HE.out.1.symm,HE.out.2.symm⟩,rfl⟩
set_option maxRecDepth 100000 in
set_option maxHeartbeats 400000 in
theorem specAddTime_any (a b:Int) (w:World) (ha : -9223372036854775808≤a∧a≤9223372036854775807) (hb : -9223372036854775808≤b∧b≤9223372036854775807) :
 Calls Tryz.prog 112 #[.int .i64 a,.int .i64 b] w fun e w'=>e=.returned (.int .i64 (adT a b))∧w'=w:=by
 go_enter Tryz.func112,Tryz.ntmps112
 go_wp2_with fail
 all_goals (go_ret;exact ⟨ret_i (by unfold adT;omega),rfl⟩)
end Go.Proofs.YtakfniknkejgpaaGreatDoor.Tm
namespace Go.Proofs.YtakfniknkejgpaaGreatDoor.Qm
open Go.RowKit Tm
def qOut (n:Int):Int:=if n=1 then 1 else if n=4 then 3 else if n=7 then 5 else 0
def inB (x a b:Int):Bool:=decide (a≤x∧x≤b)
theorem zAG {a b:Bool} (h:a=b):Ending.returned (.bool a)=.returned (.bool b):=by rw [h]
theorem zAR (x a b:Int) (w:World) :
 Calls Tryz.prog 33 #[.int .i64 x,.int .i64 a,.int .i64 b] w fun e w'=>e=.returned (.bool (inB x a b))∧w=w':=by
 by_cases h1:a≤x
 ·by_cases h2:x≤b
  all_goals
   go_enter Tryz.func33,Tryz.ntmps33
   go_wp2
   go_ret
   exact ⟨zAG (by unfold inB;rw [Bool.eq_iff_iff];simp;try omega),rfl⟩
 ·go_enter Tryz.func33,Tryz.ntmps33
  go_wp2
  go_ret
  exact ⟨zAG (by unfold inB;rw [Bool.eq_iff_iff];simp;try omega),rfl⟩
theorem q_none {n:Int} (h1:n ≠ 1) (h2:n ≠ 4) (h3:n ≠ 7):qOut n=0:=by unfold qOut;rw [if_neg h1,if_neg h2,if_neg h3]
set_option maxRecDepth 100000 in
set_option maxHeartbeats 400000 in
theorem implQuorumOf_any (n:Int) (w:World):Calls Tryz.prog 79 #[.int .i64 n] w fun e w'=>e=.returned (.tuple #[.int .i64 (qOut n),.int .i64 (zAz n)])∧w=w':=by
 rcases f_cases n with rfl | rfl | rfl | ⟨h1,h2,h3,e1,e2⟩
 ·have C:Calls Tryz.prog 64 #[.int .i64 1] w fun e w'=>e=.returned (.tuple #[.int .i64 0,.int .i64 0])∧w'=w:=zAX 1 w
  go_enter Tryz.func79,Tryz.ntmps79
  go_wp2_with fail
  refine C.mono ?_
  rintro e w1 ⟨rfl,rfl⟩
  go_wp2_with fail
  go_ret2
  exact ⟨ret_ii ⟨by decide,by decide⟩,rfl⟩
 ·have C:Calls Tryz.prog 64 #[.int .i64 4] w fun e w'=>e=.returned (.tuple #[.int .i64 1,.int .i64 0])∧w'=w:=zAX 4 w
  go_enter Tryz.func79,Tryz.ntmps79
  go_wp2_with fail
  refine C.mono ?_
  rintro e w1 ⟨rfl,rfl⟩
  go_wp2_with fail
  go_ret2
  exact ⟨ret_ii ⟨by decide,by decide⟩,rfl⟩
 ·have C:Calls Tryz.prog 64 #[.int .i64 7] w fun e w'=>e=.returned (.tuple #[.int .i64 2,.int .i64 0])∧w'=w:=zAX 7 w
  go_enter Tryz.func79,Tryz.ntmps79
  go_wp2_with fail
  refine C.mono ?_
  rintro e w1 ⟨rfl,rfl⟩
  go_wp2_with fail
  go_ret2
  exact ⟨ret_ii ⟨by decide,by decide⟩,rfl⟩
 ·have C:Calls Tryz.prog 64 #[.int .i64 n] w fun e w'=>e=.returned (.tuple #[.int .i64 0,.int .i64 4])∧w'=w:=by have:=zAX n w;rwa [e1,e2] at this
  have HE:Hid (qOut n=0∧zAz n=4):=⟨q_none h1 h2 h3,e2⟩
  clear h1 h2 h3 e1 e2
  go_enter Tryz.func79,Tryz.ntmps79
  go_wp2_with fail
  refine C.mono ?_
  rintro e w1 ⟨rfl,rfl⟩
  go_wp2_with fail
  go_ret2
  exact ⟨ret_ii ⟨HE.out.1.symm,HE.out.2.symm⟩,rfl⟩
end Go.Proofs.YtakfniknkejgpaaGreatDoor.Qm
namespace Go.Proofs.YtakfniknkejgpaaGreatDoor.Is
open Go.RowKit Sl
theorem info3:(Tryz.prog.info? 3).map (fun i=>(i.zero,i.size,i.bytes))=some (some (.int .i64 0),1,8):=by kernel_rfl
def OwnI (w:World) (B:Nat) (v:Value) (xs:List Int):Prop:=w.ownsRow B 3 1 v xs.length (xs.map (Value.int .i64))
end Go.Proofs.YtakfniknkejgpaaGreatDoor.Is
