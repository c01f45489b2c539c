/- Texts put together: Px, Se, Ka. -/
import Derived.Test.YtakfniknkejgpaaGreatDoorMi17
import Derived.Lib.Strings
import Derived.Lib.Small
import Derived.Lib.Walk
import Derived.Lib.BitFns
import Derived.Test.YtakfniknkejgpaaGreatDoorMi9
namespace Go.Proofs.YtakfniknkejgpaaGreatDoor.Px
open Go.RowKit Pf
def half (n:Nat):Nat:=if n≤2 then 1 else if n≤4 then 2 else if n≤8 then 4 else if n≤16 then 8 else if n≤32 then 16 else 32
theorem half_lt {n:Nat} (h:2≤n):1≤half n∧half n<n∧half n≤32:=by
 unfold half
 repeat' split
 all_goals omega
theorem bit_half:∀ x:Fin 64,1≤x.val→(Lib.bitLen x.val=1∧half (x.val+1)=1) ∨ (Lib.bitLen x.val=2∧half (x.val+1)=2) ∨ (Lib.bitLen x.val=3∧half (x.val+1)=4) ∨ (Lib.bitLen x.val=4∧half (x.val+1)=8) ∨ (Lib.bitLen x.val=5∧half (x.val+1)=16) ∨ (Lib.bitLen x.val=6∧half (x.val+1)=32):=by decide +kernel
theorem tab64:∀ (x:Fin 64) (h:x.val<Lib.len8tab.size),wrap64 (wrap64 ((Lib.len8tab[x.val]'h).toNat:Int))=(Lib.bitLen x.val:Int):=by decide +kernel
set_option maxRecDepth 100000 in
set_option maxHeartbeats 1000000 in
theorem len64_any (x:Int) (w:World) (h0:0≤x) (h1:x<64):Calls Tryz.prog 98 #[.int .u64 x] w fun e w'=>e=.returned (.int .i64 (Lib.bitLen x.toNat))∧w=w':=by
 have q1:¬ 4294967296≤x:=by omega
 have q2:¬ 65536≤x:=by omega
 have q3:¬ 256≤x:=by omega
 have hsz:x<(Lib.len8tab.size:Int):=by have:Lib.len8tab.size=256:=by decide +kernel
                                       omega
 go_enter Tryz.func98,Tryz.ntmps98
 go_wp2
 go_ret
 refine ⟨congrArg Ending.returned (congrArg (Value.int IntKind.i64) ?_),rfl⟩
 exact tab64 ⟨x.toNat,by omega⟩ (by show x.toNat<_;omega)
set_option maxRecDepth 100000 in
theorem len_any (x:Int) (w:World) (h0:0≤x) (h1:x<64):Calls Tryz.prog 73 #[.int .u64 x] w fun e w'=>e=.returned (.int .i64 (Lib.bitLen x.toNat))∧w=w':=by
 have HL:Hid (Calls Tryz.prog 98 #[.int .u64 x] w fun e w'=>e=.returned (.int .i64 (Lib.bitLen x.toNat))∧w=w'):=len64_any x w h0 h1
 generalize (Lib.bitLen x.toNat:Int)=z at HL
 go_enter Tryz.func73,Tryz.ntmps73
 go_wp2_with fail
 refine HL.out.mono ?_
 rintro e w1 ⟨rfl,rfl⟩
 go_wp2_with fail
 go_ret
 exact ⟨rfl,rfl⟩
set_option maxRecDepth 100000 in
set_option maxHeartbeats 1000000 in
theorem forkOf_any (n:Nat) (w:World) (h2:2≤n) (h64:n≤64):Calls Tryz.prog 47 #[.int .i64 n] w fun e w'=>e=.returned (.int .i64 (half n))∧w=w':=by
 have HL0:=len_any ((n:Int) - 1) w (by omega) (by omega)
 have hb:=bit_half ⟨n - 1,by omega⟩ (by show 1≤n - 1;omega)
 have e1:n - 1+1=n:=by omega
 have e2:((n:Int) - 1).toNat=n - 1:=by omega
 have hm:((n:Int) - 1) % 18446744073709551616=(n:Int) - 1:=by omega
 simp only [e1] at hb
 rw [e2] at HL0
 obtain ⟨b,HB⟩ : ∃ b,Hid (Lib.bitLen (n - 1)=b):=⟨_,rfl⟩
 obtain ⟨z,HZ⟩ : ∃ z,Hid (half n=z):=⟨_,rfl⟩
 rw [HB.out] at HL0 hb
 rw [HZ.out] at hb ⊢
 have HL:Hid (Calls Tryz.prog 73 #[.int .u64 ((n:Int) - 1)] w fun e w'=>e=.returned (.int .i64 b)∧w=w'):=HL0
 clear HL0 e1 e2 HB HZ
 rcases hb with ⟨rfl,rfl⟩ | ⟨rfl,rfl⟩ | ⟨rfl,rfl⟩ | ⟨rfl,rfl⟩ | ⟨rfl,rfl⟩ | ⟨rfl,rfl⟩
 all_goals
  go_enter Tryz.func47,Tryz.ntmps47
  go_wp2_with fail
  refine HL.out.mono ?_
  rintro e w1 ⟨rfl,rfl⟩
  go_wp2_with fail
  go_ret
  exact ⟨rfl,rfl⟩
end Go.Proofs.YtakfniknkejgpaaGreatDoor.Px
namespace Go.Proofs.YtakfniknkejgpaaGreatDoor.Se
open Go.RowKit Sl By Ap Tx Sh Ho
def bSecret:ByteArray:=⟨#[115,101,99,114,101,116]⟩
def bNode:ByteArray:=⟨#[110,111,100,101]⟩
def sec (seed:ByteArray) (i b v:Nat):ByteArray:=zCO (bys bSecret ++ bys seed ++ [(i:Int),(b:Int),(v:Int)])
def node (l r:ByteArray):ByteArray:=zCO (bys bNode ++ bys l ++ bys r)
theorem hash_size (xs:List Int) (h:xs.length≤65536):(zCO xs).size=32:=by
 unfold zCO
 rw [if_neg (by omega),strOfNums_size]
 show (outTo _ 8).length=32
 rw [outTo_length]
theorem node_size (l r:ByteArray) (hl:l.size≤32) (hr:r.size≤32):(node l r).size=32:=by
 unfold node
 apply hash_size
 rw [List.length_append,List.length_append,zAV,zAV,zAV]
 have:bNode.size=4:=rfl
 omega
set_option maxHeartbeats 400000 in
theorem nodeOf_any (l r:ByteArray) (w:World) (hl:l.size≤100000) (hr:r.size≤100000) (hK:KTab w) (hp:9<w.heap.size) :
 Calls Tryz.prog 75 #[.string l,.string r] w fun e w'=>e=.returned (.string (node l r))∧Below w.heap.size w w':=by
 have HE:Hid (cat [bNode,l,r]=bys bNode ++ bys l ++ bys r):=by
  show _=_
  unfold cat
  simp only [List.flatMap_cons,List.flatMap_nil,List.append_nil]
  rw [List.append_assoc]
 have HL:Hid ((bys bNode ++ bys l ++ bys r).length≤1000000000):=by
  show _≤_
  rw [List.length_append,List.length_append,zAV,zAV,zAV]
  have:bNode.size=4:=rfl
  omega
 have GK:Hid (KTab w):=hK
 clear hK hl hr
 go_enter Tryz.func75,Tryz.ntmps75
 go_wp2_with fail
 refine (hashOf_lit w _ 3 rfl _ [bNode,l,r] rfl rfl (by decide) (by decide) (by rw [HE.out];exact HL.out) GK.out hp).mono ?_
 rintro e w3 ⟨rfl,b3⟩
 rw [HE.out]
 go_wp2_with fail
 go_ret
 exact ⟨rfl,b3⟩
end Go.Proofs.YtakfniknkejgpaaGreatDoor.Se
namespace Go.Proofs.YtakfniknkejgpaaGreatDoor.Ka
open Go.RowKit Sl By Ap Tx Sh Ho Se
def hh (seed:ByteArray) (i b v:Nat):ByteArray:=zCO (bys (sec seed i b v))
def hin (seed:ByteArray) (i b:Nat):Nat→List ByteArray
 | 0=>[]
 | m+1=>hin seed i b m ++ [hh seed i b m]
end Go.Proofs.YtakfniknkejgpaaGreatDoor.Ka
