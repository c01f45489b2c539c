/- Texts put together: Gr, Bo, Gd. -/
import Derived.Laws.StructEq
import Derived.Test.YtakfniknkejgpaaGreatDoorMi40
namespace Go.Proofs.YtakfniknkejgpaaGreatDoor.Gr
open Go.RowKit Sl Ap Rg
structure Rd where
 f:Int
 x:Int
 m:ByteArray
instance:Inhabited Rd:=⟨⟨0,0,⟨#[]⟩⟩⟩
end Go.Proofs.YtakfniknkejgpaaGreatDoor.Gr
namespace Go.Proofs.YtakfniknkejgpaaGreatDoor.Op
open Go.ChangeShapes Go.WideShapes Go.ChangeAt Go.RowKit Go.Deep Rg Gr
end Go.Proofs.YtakfniknkejgpaaGreatDoor.Op
namespace Go.Proofs.YtakfniknkejgpaaGreatDoor.Bo
open Go.RowKit Rg Gr Rq
def r1 (least:Int) (x:Rd):Bool:=inB x.f least 6 && (inB x.x 0 1000000000 && ((x.m.size:Int) == 8))
end Go.Proofs.YtakfniknkejgpaaGreatDoor.Bo
namespace Go.Proofs.YtakfniknkejgpaaGreatDoor.Gn
open Go.RowKit Sl By Ap Rq Rr Ty
theorem Src.set {B p b K:Nat} {w:World} {xs:List Int} (h:Src B w p xs K) (hb:p ≠ b) (hB:B≤b) (i:Nat) (x:Value):Src B (w.setCell ⟨b,i,none⟩ x) p xs K :=
 h.kept (zAB hb i x) (fun k hk=>zAB (by omega) i x)
theorem req_ok {c st k l:Int} {n:ByteArray} (h1:inB c 0 255=true) (h2:inB st 1 65535=true) (h3:leB k l=true) (h4:opB n=true):reqB c st k l n=true:=by
 unfold reqB;rw [h1,h2,h3,h4];rfl
theorem Src.le {B p K K':Nat} {w:World} {xs:List Int} (h:Src B w p xs K) (hk:K≤K'):Src B w p xs K':=by
 obtain ⟨v,a,s,q1,q2,q3,q4⟩:=h
 exact ⟨v,a,s,q1,q2,by omega,q4⟩
set_option maxHeartbeats 400000 in
theorem chance_any (n p B K:Nat) (xs:List Int) (w:World) (h:Src B w p xs K) (hB:B≤p) (hK:K≤1000000000) (hx:xs.length≤1048600) (hn:0<n) (hn2:n≤256) :
 Calls Tryz.prog 59 #[.pointer (some ⟨p,0,none⟩),.int .i64 n] w fun e w'=>∃ b:Bool,e=.returned (.bool b)∧Src B w' p xs (K+1)∧w.grownBy w' (some p):=by
 have hn3:(n:Int)≤256:=by omega
 go_enter Tryz.func59,Tryz.ntmps59
 go_wp2_with fail
 refine (zBD n p B K xs _ h hB hK hx hn hn2).mono ?_
 rintro e w1 ⟨r,rfl,hr,s1,g1⟩
 have S1:Hid (Src B w1 p xs (K+1)):=s1
 clear s1 h
 go_wp2_with fail
 go_ret
 exact ⟨_,rfl,S1.out,g1⟩
def lk3:List ByteArray:=[⟨#[97]⟩,⟨#[98]⟩,⟨#[108,111,99,107]⟩]
theorem lk3_ok (r:Nat) (h:r<3):opB (tnth lk3 r)=true:=by
 match r,h with
 | 0,_=>decide
 | 1,_=>decide
 | 2,_=>decide
end Go.Proofs.YtakfniknkejgpaaGreatDoor.Gn
