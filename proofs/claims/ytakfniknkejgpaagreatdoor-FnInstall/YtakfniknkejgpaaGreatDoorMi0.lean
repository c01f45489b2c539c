/- Texts put together: ShaM, ShaT, By. -/
import Derived.WalkKit
import Derived.ProofKit
import Derived.Test.YtakfniknkejgpaaGreatDoorRows
import Derived.WalkSpells
import Derived.Laws.BytesArg
import Derived.Deep.AppendLies
namespace Go.Proofs.YtakfniknkejgpaaGreatDoor.Sh
open Go.RowKit
def nat (x:UInt32):Int:=((x.toNat:Nat):Int)
theorem nat_lo (x:UInt32):0≤nat x:=by unfold nat;omega
theorem nat_hi (x:UInt32):nat x<4294967296:=by unfold nat;have:=x.toNat_lt;omega
theorem nat_add (x y:UInt32):(nat x+nat y) % 4294967296=nat (x+y):=by unfold nat;rw [UInt32.toNat_add];omega
theorem nat_xor (x y:UInt32):bits .xor .u32 (nat x) (nat y)=nat (x ^^^ y):=by
 unfold nat;rw [u32_xor_nat _ _ x.toNat_lt y.toNat_lt,UInt32.toNat_xor]
theorem nat_and (x y:UInt32):bits .and .u32 (nat x) (nat y)=nat (x &&& y):=by
 unfold nat;rw [u32_and_nat _ _ x.toNat_lt y.toNat_lt,UInt32.toNat_and]
theorem nat_or (x y:UInt32):bits .or .u32 (nat x) (nat y)=nat (x ||| y):=by
 unfold nat;rw [u32_or_nat _ _ x.toNat_lt y.toNat_lt,UInt32.toNat_or]
theorem nat_not (x:UInt32):bits .xor .u32 IntKind.u32.max (nat x)=nat (~~~x):=by
 have e:IntKind.u32.max=nat (UInt32.ofNat 4294967295):=rfl
 have h:UInt32.ofNat 4294967295 ^^^ x = ~~~x:=by
  have e2:(UInt32.ofNat 4294967295) = ~~~0:=by decide
  rw [e2]
  exact UInt32.neg_one_xor
 rw [e,nat_xor,h]
theorem nat_wrap (x:UInt32):IntKind.u32.wrap (nat x)=nat x:=by
 have h1:=nat_lo x;have h2:=nat_hi x
 rw [IntKind.wrap_u32];omega
theorem nat_shr (x:UInt32) (k:Nat) (h:k<32):nat x / 2 ^ k=nat (x >>> UInt32.ofNat k):=by
 unfold nat
 have e:(UInt32.ofNat k).toNat % 32=k:=by rw [UInt32.toNat_ofNat_of_lt' (by unfold UInt32.size;omega)];omega
 rw [UInt32.toNat_shiftRight,e,Nat.shiftRight_eq_div_pow]
 norm_cast
theorem nat_shl (x:UInt32) (k:Nat) (h:k<32):nat x * 2 ^ k % 4294967296=nat (x <<< UInt32.ofNat k):=by
 unfold nat
 have e:(UInt32.ofNat k).toNat % 32=k:=by rw [UInt32.toNat_ofNat_of_lt' (by unfold UInt32.size;omega)];omega
 rw [UInt32.toNat_shiftLeft,e,Nat.shiftLeft_eq,Int.natCast_emod,Int.natCast_mul,Int.natCast_pow]
 rfl
def rotr (x:UInt32) (n:Nat):UInt32:=x >>> UInt32.ofNat n ||| x <<< UInt32.ofNat (32 - n)
def up (a:UInt32):UInt32:=rotr a 2 ^^^ rotr a 13 ^^^ rotr a 22
def low (e:UInt32):UInt32:=rotr e 6 ^^^ rotr e 11 ^^^ rotr e 25
def s0 (x:UInt32):UInt32:=rotr x 7 ^^^ rotr x 18 ^^^ x >>> 3
def s1 (x:UInt32):UInt32:=rotr x 17 ^^^ rotr x 19 ^^^ x >>> 10
def ch (e f g:UInt32):UInt32:=(e &&& f) ^^^ (~~~e &&& g)
def maj (a b c:UInt32):UInt32:=(a &&& b) ^^^ (a &&& c) ^^^ (b &&& c)
theorem ch_or (e f g:UInt32):(e &&& f) ||| (~~~e &&& g)=ch e f g:=by
 unfold ch
 apply UInt32.toBitVec_inj.1
 simp only [UInt32.toBitVec_or,UInt32.toBitVec_and,UInt32.toBitVec_not,UInt32.toBitVec_xor]
 apply BitVec.eq_of_getElem_eq
 intro i hi
 simp only [BitVec.getElem_or,BitVec.getElem_and,BitVec.getElem_not,BitVec.getElem_xor]
 cases e.toBitVec[i] <;> cases f.toBitVec[i] <;> cases g.toBitVec[i] <;> rfl
structure R8 where
 a:UInt32
 b:UInt32
 c:UInt32
 d:UInt32
 e:UInt32
 f:UInt32
 g:UInt32
 h:UInt32
def tOf (r:R8) (k w:UInt32):UInt32:=r.h+low r.e+ch r.e r.f r.g+k+w
def uOf (r:R8):UInt32:=up r.a+maj r.a r.b r.c
def rnd (r:R8) (k w:UInt32):R8:=⟨tOf r k w+uOf r,r.a,r.b,r.c,r.d+tOf r k w,r.e,r.f,r.g⟩
def rndTo (kt wt:Nat→UInt32) (r:R8):Nat→R8
 | 0=>r
 | n+1=>rnd (rndTo kt wt r n) (kt n) (wt n)
def addR (x y:R8):R8:=⟨x.a+y.a,x.b+y.b,x.c+y.c,x.d+y.d,x.e+y.e,x.f+y.f,x.g+y.g,x.h+y.h⟩
def at8 (r:R8):Nat→UInt32
 | 0=>r.a
 | 1=>r.b
 | 2=>r.c
 | 3=>r.d
 | 4=>r.e
 | 5=>r.f
 | 6=>r.g
 | _=>r.h
def wb (xs:List Int) (i:Nat):UInt32:=UInt32.ofNat (xs.getD i 0).toNat
def be (xs:List Int) (i:Nat):UInt32:=wb xs (4 * i) <<< 24 ||| wb xs (4 * i+1) <<< 16 ||| wb xs (4 * i+2) <<< 8 ||| wb xs (4 * i+3)
theorem wb_eq (xs:List Int) (i:Nat) (h0:0≤xs.getD i 0) (h1:xs.getD i 0≤255):xs.getD i 0=nat (wb xs i):=by
 unfold nat wb
 rw [UInt32.toNat_ofNat_of_lt' (by unfold UInt32.size;omega)]
 omega
def sched (xs:List Int):Nat→List UInt32
 | 0=>[]
 | n+1=>sched xs n ++ [if n<16 then be xs n else (sched xs n).getD (n - 16) 0+s0 ((sched xs n).getD (n - 15) 0)+(sched xs n).getD (n - 7) 0+s1 ((sched xs n).getD (n - 2) 0)]
theorem zBy (xs:List Int):∀ n,(sched xs n).length=n
 | 0=>rfl
 | n+1=>by rw [sched,List.length_append,zBy xs n];rfl
theorem zCQ (xs:List Int) (j:Nat):∀ n,j<n→(sched xs n).getD j 0=(sched xs (j+1)).getD j 0
 | 0,h=>by omega
 | n+1,h=>by
   by_cases e:j=n
   ·rw [e]
   ·rw [← zCQ xs j n (by omega),sched,List.getD_eq_getElem?_getD,List.getElem?_append_left (by rw [zBy];omega),List.getD_eq_getElem?_getD]
def wt (xs:List Int) (j:Nat):UInt32:=(sched xs (j+1)).getD j 0
theorem wt_def (xs:List Int) (j:Nat):wt xs j=if j<16 then be xs j else wt xs (j - 16)+s0 (wt xs (j - 15))+wt xs (j - 7)+s1 (wt xs (j - 2)):=by
 have e:wt xs j=if j<16 then be xs j else (sched xs j).getD (j - 16) 0+s0 ((sched xs j).getD (j - 15) 0)+(sched xs j).getD (j - 7) 0+s1 ((sched xs j).getD (j - 2) 0):=by
  unfold wt
  rw [sched,List.getD_eq_getElem?_getD,List.getElem?_append_right (by rw [zBy];omega),zBy,Nat.sub_self]
  rfl
 rw [e]
 by_cases h:j<16
 ·rw [if_pos h,if_pos h]
 ·rw [if_neg h,if_neg h,zCQ xs (j - 16) j (by omega),zCQ xs (j - 15) j (by omega),zCQ xs (j - 7) j (by omega),zCQ xs (j - 2) j (by omega)]
  rfl
theorem wt_low (xs:List Int) (j:Nat) (h:j<16):wt xs j=be xs j:=by rw [wt_def,if_pos h]
theorem wt_high (xs:List Int) (j:Nat) (h:¬ j<16):wt xs j=wt xs (j - 16)+s0 (wt xs (j - 15))+wt xs (j - 7)+s1 (wt xs (j - 2)):=by
 conv=>lhs;rw [wt_def,if_neg h]
def kList:List UInt32:=[1116352408,1899447441,3049323471,3921009573,961987163,1508970993,2453635748,2870763221,3624381080,310598401,607225278,1426881987,1925078388,2162078206,2614888103,3248222580,3835390401,4022224774,264347078,604807628,770255983,1249150122,1555081692,1996064986,2554220882,2821834349,2952996808,3210313671,3336571891,3584528711,113926993,338241895,666307205,773529912,1294757372,1396182291,1695183700,1986661051,2177026350,2456956037,2730485921,2820302411,3259730800,3345764771,3516065817,3600352804,4094571909,275423344,430227734,506948616,659060556,883997877,958139571,1322822218,1537002063,1747873779,1955562222,2024104815,2227730452,2361852424,2428436474,2756734187,3204031479,3329325298]
def kt (i:Nat):UInt32:=kList.getD i 0
def r0:R8:=⟨1779033703,3144134277,1013904242,2773480762,1359893119,2600822924,528734635,1541459225⟩
def blk (r:R8) (xs:List Int):R8:=addR r (rndTo kt (wt xs) r 64)
def cut (ps:List Int) (q:Nat):List Int:=(ps.drop (64 * q)).take 64
def blksTo (ps:List Int):Nat→R8
 | 0=>r0
 | q+1=>blk (blksTo ps q) (cut ps q)
def byteOf (x:UInt32) (m:Nat):Int:=nat x / 2 ^ (24 - 8 * m) % 256
def outTo (r:R8) (k:Nat):List Int:=(List.range (4 * k)).map fun j=>byteOf (at8 r (j / 4)) (j % 4)
theorem outTo_length (r:R8) (k:Nat):(outTo r k).length=4 * k:=by simp [outTo]
theorem outTo_at (r:R8) (k j:Nat) (h:j<4 * k):(outTo r k).getD j 0=byteOf (at8 r (j / 4)) (j % 4):=by simp [outTo,List.getD_eq_getElem?_getD,h]
def out (r:R8):List Int:=outTo r 8
def zBl (n:Nat):Nat:=(119 - n % 64) % 64
def zBM (n m:Nat):Int:=((8 * n / 2 ^ (8 * (7 - m)) % 256:Nat):Int)
def lenBytes (n:Nat):List Int:=[zBM n 0,zBM n 1,zBM n 2,zBM n 3,zBM n 4,zBM n 5,zBM n 6,zBM n 7]
def pad (xs:List Int):List Int:=xs ++ [128] ++ List.replicate (zBl xs.length) 0 ++ lenBytes xs.length
theorem pad_length (xs:List Int):(pad xs).length=xs.length+9+zBl xs.length:=by
 unfold pad lenBytes;simp;omega
theorem pad_blocks (xs:List Int):(pad xs).length=64 * ((xs.length+72) / 64):=by
 rw [pad_length];unfold zBl;omega
def sha (xs:List Int):List Int:=out (blksTo (pad xs) ((xs.length+72) / 64))
end Go.Proofs.YtakfniknkejgpaaGreatDoor.Sh
namespace Go.Proofs.YtakfniknkejgpaaGreatDoor.Sh
open Go.RowKit
theorem ret_u32 {a b:Int} (h:a=b):Ending.returned (.int .u32 a)=.returned (.int .u32 b):=by rw [h]
theorem turn_eq (x:UInt32) (n:Int) (h0:0<n) (h1:n<32):bits BinOp.or IntKind.u32 (nat x / 2 ^ n.toNat) (nat x * 2 ^ (32 - n).toNat % 4294967296)=nat (rotr x n.toNat):=by
 rw [nat_shr x _ (by omega),nat_shl x _ (by omega),nat_or,show (32 - n).toNat=32 - n.toNat by omega]
 rfl
theorem turn_eq2 (x:UInt32) (n:Int) (h0:0<n) (h1:n<32):bits BinOp.or IntKind.u32 (nat x * 2 ^ (32 - n).toNat % 4294967296) (nat x / 2 ^ (32 - (32 - n)).toNat)=nat (rotr x n.toNat):=by
 rw [nat_shl x _ (by omega),nat_shr x _ (by omega),nat_or,show (32 - n).toNat=32 - n.toNat by omega,show (32 - (32 - n)).toNat=n.toNat by omega,UInt32.or_comm]
 rfl
theorem mask31 (n:Int) (h0:0<n) (h1:n<32):bits .and .u64 (IntKind.u64.wrap (-n)) 31=32 - n:=by
 have e:(-n) % 18446744073709551616=18446744073709551616 - n:=by omega
 rw [IntKind.wrap_u64,e,u64_and _ _ (by omega) (by omega) (by decide) (by decide)]
 have e2:(31:Int).toNat=2 ^ 5 - 1:=rfl
 rw [e2,Nat.and_two_pow_sub_one_eq_mod]
 omega
theorem zBh (x:UInt32) (n:Int) (w:World) (h0:0<n) (h1:n<32) :
 Calls Tryz.prog 134 #[.int .u32 (nat x),.int .i64 n] w fun e w'=>e=.returned (.int .u32 (nat (rotr x n.toNat)))∧w'=w:=by
 have hm:=mask31 n h0 h1
 go_enter Tryz.func134,Tryz.ntmps134
 go_wp2
 go_ret
 exact ⟨ret_u32 (turn_eq2 x n h0 h1),rfl⟩
theorem mixLower_any (x:UInt32) (w:World) :
 Calls Tryz.prog 132 #[.int .u32 (nat x)] w fun e w'=>e=.returned (.int .u32 (nat (low x)))∧w'=w:=by
 have hx:=nat_xor
 go_enter Tryz.func132,Tryz.ntmps132
 go_wp2_with (go_at_call 134;refine (zBh _ _ _ (by decide) (by decide)).mono ?_;rintro e w' ⟨rfl,rfl⟩)
 go_ret
 exact ⟨rfl,rfl⟩
theorem mixUpper_any (x:UInt32) (w:World) :
 Calls Tryz.prog 133 #[.int .u32 (nat x)] w fun e w'=>e=.returned (.int .u32 (nat (up x)))∧w'=w:=by
 have hx:=nat_xor
 go_enter Tryz.func133,Tryz.ntmps133
 go_wp2_with (go_at_call 134;refine (zBh _ _ _ (by decide) (by decide)).mono ?_;rintro e w' ⟨rfl,rfl⟩)
 go_ret
 exact ⟨rfl,rfl⟩
end Go.Proofs.YtakfniknkejgpaaGreatDoor.Sh
namespace Go.Proofs.YtakfniknkejgpaaGreatDoor.By
open Go.RowKit
def OwnB (e:TypeId) (w:World) (B:Nat) (v:Value) (zs:List Int):Prop:=w.ownsRow B e 1 v zs.length (zs.map (Value.int .u8))
theorem own_made (e:TypeId) (w:World) (B:Nat) (cur:Array Value) (cap:Nat) (hb:B≤w.heap.size) (hm:cap≤maxLen) (hs:cur.size=cap):OwnB e (w.alloc (.cells cur e)) B (.slice (some ⟨w.heap.size,0,none⟩) 0 cap) [] :=
 World.ownsRow_made w cur cap hb hm (by omega)
theorem own_nil (e:TypeId) (w:World) (B:Nat):OwnB e w B (.slice none 0 0) []:=World.ownsRow_nil w B e 1
theorem run_convert_own {P:Program} (w:World) (base:Nat) (src e dst:TypeId) (hs:P.underlying src=some (.slice e)) (he:P.underlying e=some (.int .u8)) (hd:P.underlying dst=some .string)
 (v:Value) (zs:List Int) (h:OwnB e w base v zs):(convert src dst v).run P w=.ok (.string (strOfNums zs)) w:=by
 obtain ⟨hl,h⟩:=h
 obtain ⟨n,hn⟩ : ∃ n,zs.length=n:=⟨_,rfl⟩
 rw [hn] at h
 rcases h with ⟨rfl,h0⟩ | ⟨g,cap,cur,rfl,_,hg,_,_,hcs,htk⟩
 ·obtain rfl:zs=[]:=List.length_eq_zero_iff.1 (by omega)
  rw [run_convert_bytes_nil w src e hs he 0 0 dst hd]
  rfl
 ·refine run_convert_bytes_arg w src e hs he g 0 n cap zs hn (fun i hi=>?_) dst hd
  have h1:(cur.toList.take (n * 1))[i]?=some (.int .u8 (zs.getD i 0)):=by
   rw [htk,List.getElem?_map,List.getElem?_eq_getElem (by omega)]
   simp [List.getD,List.getElem?_eq_getElem (show i<zs.length by omega)]
  have h2:cur[i]?=some (.int .u8 (zs.getD i 0)):=by
   rw [List.getElem?_take] at h1
   split at h1
   ·simpa using h1
   ·cases h1
  simp [World.cell?,hg,h2]
theorem below_own {w0 W w':World} {B e n:Nat} {v:Value} {xs:List Value} (o:Obj) (hown:W.ownsRow B e 1 v n xs) (hbel:Below B w0 W) (hB:B≤W.heap.size) (hg:(W.alloc o).grownBy w' v.ownBlock):Below B w0 w' :=
 (hbel.alloc hB o).grown hg (by simp;omega) (fun k hk=>(hown.lt k hk).1)
theorem wpList_append_byte {P:Program} {ops:Array Oper} {rest:List Oper} {o:Oper} {a:Act} {Q:Exit→Act→World→Prop} (hgd:o.guard=none) (s x:Operand) (t:TypeId)
 (ho:o.op=.call { callee:=.builtin .append,args:=#[s,x],argTypes:=#[t,t] }) (e:TypeId) (i:TypeInfo) (ht:P.underlying t=some (.slice e)) (hi:P.info? e=some i) (hz:i.zero=some (.int .u8 0))
 (hsize:i.size=1) (hby:i.bytes=1) (B:Nat) (w0 W:World) (v:Value) (zs:List Int) (z:Int) (hs:a.eval s=v) (hown:OwnB e W B v zs) (hbel:Below B w0 W) (hB:B≤W.heap.size)
 (hx:a.eval x=.slice (some ⟨W.heap.size,0,none⟩) 1 1) (hlen:zs.length+1≤140737488355328)
 (h:∀ v' w',OwnB e w' B v' (zs ++ [z])→Below B w0 w'→B≤w'.heap.size→wpList P ops Q rest (a.put o.dst v') w'):wpList P ops Q (o :: rest) a (W.alloc (.cells #[.int .u8 z] e)):=by
 refine wpList_append_own _ hgd s x t ho B e i (.int .u8 0) 1 1 ht hi hz hsize hby rfl (by decide) v zs.length _ hs (hown.alloc _) ⟨W.heap.size,0,none⟩ 1 1 [.int .u8 z] hx rfl ?_ ?_ ?_ ?_ ?_ ?_
 ·exact World.news_of_block (cs:=#[.int .u8 z]) (t:=e) (fr:=(0,0)) (heap_alloc_new W _)
 ·simp [Value.oneCell']
 ·unfold maxLen;omega
 ·omega
 ·simp;omega
 ·intro v' w' h1 h2 _
  refine h v' w' (by unfold OwnB;simpa using h1) (below_own _ hown hbel hB h2) ?_
  have:=h2.size
  simp at this
  omega
end Go.Proofs.YtakfniknkejgpaaGreatDoor.By
