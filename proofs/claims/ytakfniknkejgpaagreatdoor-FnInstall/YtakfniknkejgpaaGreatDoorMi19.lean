/- Texts put together: Py, Pz, Xg. -/
import Derived.Test.YtakfniknkejgpaaGreatDoorMi18
import Derived.Test.YtakfniknkejgpaaGreatDoorMi14
import Derived.Test.YtakfniknkejgpaaGreatDoorMi16
namespace Go.Proofs.YtakfniknkejgpaaGreatDoor.Py
open Go.RowKit Sl By Ap Tx Sh Ho Se Ka Pf Px
def bPiece:ByteArray:=⟨#[112,105,101,99,101]⟩
def bNothing:ByteArray:=⟨#[110,111,116,104,105,110,103]⟩
def leaf (t:ByteArray):ByteArray:=zCO (bys bPiece ++ bys t)
theorem leaf_size (t:ByteArray) (h:t.size≤60000):(leaf t).size=32:=by
 unfold leaf
 apply hash_size
 rw [List.length_append,zAV,zAV]
 have:bPiece.size=5:=rfl
 omega
def zAy:Nat→List ByteArray→ByteArray
 | 0,_=>⟨#[]⟩
 | f+1,ts=>if ts.length=1 then leaf (tnth ts 0) else node (zAy f (ts.take (half ts.length))) (zAy f (ts.drop (half ts.length)))
theorem rootF_one {f:Nat} {ts:List ByteArray} (h:ts.length=1):zAy (f+1) ts=leaf (tnth ts 0):=if_pos h
theorem rootF_more {f:Nat} {ts:List ByteArray} (h:ts.length ≠ 1):zAy (f+1) ts=node (zAy f (ts.take (half ts.length))) (zAy f (ts.drop (half ts.length))):=if_neg h
theorem zAn:∀ (f:Nat) (ts:List ByteArray),1≤ts.length→ts.length≤f→(∀ t ∈ ts,t.size≤32)→(zAy f ts).size=32
 | 0,ts,h1,h2,_=>by omega
 | f+1,ts,h1,h2,hs=>by
   by_cases h:ts.length=1
   ·rw [rootF_one h]
    exact leaf_size _ (by have:=hs _ (zBr (show 0<ts.length by omega));omega)
   ·rw [rootF_more h]
    obtain ⟨q1,q2,_⟩:=half_lt (show 2≤ts.length by omega)
    have a1:=zAn f (ts.take (half ts.length)) (by rw [List.length_take];omega) (by rw [List.length_take];omega) (fun t ht=>hs t (List.mem_of_mem_take ht))
    have a2:=zAn f (ts.drop (half ts.length)) (by rw [List.length_drop];omega) (by rw [List.length_drop];omega) (fun t ht=>hs t (List.mem_of_mem_drop ht))
    exact node_size _ _ (by omega) (by omega)
theorem tnth_take {ts:List ByteArray} {n i:Nat} (h:i<n):tnth (ts.take n) i=tnth ts i:=by
 unfold tnth;rw [List.getD_eq_getElem?_getD,List.getD_eq_getElem?_getD,List.getElem?_take,if_pos h]
theorem tnth_drop (ts:List ByteArray) (n i:Nat):tnth (ts.drop n) i=tnth ts (n+i):=by
 unfold tnth;rw [List.getD_eq_getElem?_getD,List.getD_eq_getElem?_getD,List.getElem?_drop]
theorem rowT_take {w:World} {a:Option Addr} {cap n:Nat} {ts:List ByteArray} (h:RowT w (.slice a ts.length cap) ts) (hn:n≤ts.length):RowT w (.slice a n cap) (ts.take n):=by
 obtain ⟨a',cap',e,h⟩:=h
 simp only [Value.slice.injEq,true_and] at e
 obtain ⟨rfl,rfl⟩:=e
 have hl:(ts.take n).length=n:=by rw [List.length_take];omega
 refine ⟨a,cap,by rw [hl],?_⟩
 rcases h with rfl | ⟨b,off,rfl,hc,hlt,h⟩
 ·exact .inl (by simp)
 ·refine .inr ⟨b,off,rfl,by rw [hl];omega,hlt,fun i hi=>?_⟩
  rw [hl] at hi
  rw [tnth_take hi]
  exact h i (by omega)
theorem rowT_drop {w:World} {a:Option Addr} {cap n:Nat} {ts:List ByteArray} (h:RowT w (.slice a ts.length cap) ts) (hn:n<ts.length):RowT w (.slice (a.map (·.add n)) (ts.length - n) (cap - n)) (ts.drop n):=by
 obtain ⟨a',cap',e,h⟩:=h
 simp only [Value.slice.injEq,true_and] at e
 obtain ⟨rfl,rfl⟩:=e
 refine ⟨_,cap - n,by rw [List.length_drop],?_⟩
 rcases h with rfl | ⟨b,off,rfl,hc,hlt,h⟩
 ·simp at hn
 ·refine .inr ⟨b,off+n,by simp [Ap.addr_add],by rw [List.length_drop];omega,hlt,fun i hi=>?_⟩
  rw [List.length_drop] at hi
  rw [tnth_drop,Nat.add_assoc]
  exact h (n+i) (by omega)
theorem rowT_cap {w:World} {a:Option Addr} {cap:Nat} {ts:List ByteArray} (h:RowT w (.slice a ts.length cap) ts) (hn:1≤ts.length):ts.length≤cap:=by
 obtain ⟨a',cap',e,h⟩:=h
 simp only [Value.slice.injEq,true_and] at e
 obtain ⟨rfl,rfl⟩:=e
 rcases h with rfl | ⟨b,off,rfl,hc,_⟩
 ·simp at hn
 ·exact hc
set_option maxHeartbeats 400000 in
theorem pieceRoot_any (t:ByteArray) (w:World) (ht:t.size≤60000) (hK:KTab w) (hp:9<w.heap.size) :
 Calls Tryz.prog 74 #[.string t] w fun e w'=>e=.returned (.string (leaf t))∧Below w.heap.size w w':=by
 have HE:Hid (cat [bPiece,t]=bys bPiece ++ bys t):=by
  show _=_
  unfold cat
  simp only [List.flatMap_cons,List.flatMap_nil,List.append_nil]
 have HL:Hid ((bys bPiece ++ bys t).length≤1000000000):=by
  show _≤_
  rw [List.length_append,zAV,zAV]
  have:bPiece.size=5:=rfl
  omega
 have GK:Hid (KTab w):=hK
 clear hK ht
 go_enter Tryz.func74,Tryz.ntmps74
 go_wp2_with fail
 refine (hashOf_lit w _ 2 rfl _ [bPiece,t] rfl rfl (by decide) (by decide) (by rw [HE.out];exact HL.out) GK.out hp).mono ?_
 rintro e w3 ⟨rfl,b3⟩
 rw [HE.out]
 go_wp2_with fail
 go_ret
 exact ⟨rfl,b3⟩
set_option maxRecDepth 100000 in
set_option maxHeartbeats 1600000 in
theorem zBR:∀ (f:Nat) (ts:List ByteArray) (v:Value) (w:World),RowT w v ts→1≤ts.length→ts.length≤f→ts.length≤64→(∀ t ∈ ts,t.size≤32)→KTab w→9<w.heap.size →
 Calls Tryz.prog 48 #[v] w fun e w'=>e=.returned (.string (zAy f ts))∧Below w.heap.size w w'
 | 0,ts,v,w,_,h1,h2,_,_,_,_=>by omega
 | f+1,ts,v,w,hr,h1,h2,h64,hs,hK,hp=>by
   have HR:Hid (RowT w v ts):=hr
   obtain ⟨a,cap,rfl,h⟩:=hr
   have GK:Hid (KTab w∧9<w.heap.size):=⟨hK,hp⟩
   by_cases hone:ts.length=1
   ·rcases h with h | ⟨b,off,rfl,hc,hb,hcell⟩
    ·rw [h] at h1;exact absurd h1 (by simp)
    have c1:=hcell 0 (by omega)
    rw [Nat.add_zero] at c1
    have HE:Hid (zAy (f+1) ts=leaf (tnth ts 0)):=rootF_one hone
    have HL:Hid (Calls Tryz.prog 74 #[.string (tnth ts 0)] w fun e w'=>e=.returned (.string (leaf (tnth ts 0)))∧Below w.heap.size w w'):=pieceRoot_any _ w (by have:=hs _ (zBr (show 0<ts.length by omega));omega) hK hp
    rw [hone] at hc ⊢
    clear hs hcell hone h2 h64 h1 hK hp
    generalize tnth ts 0=t at c1 HE HL
    go_enter Tryz.func48,Tryz.ntmps48
    go_wp2_with fail
    refine HL.out.mono ?_
    rintro e w1 ⟨rfl,b1⟩
    go_wp2_with fail
    go_ret
    exact ⟨Tx.ret_str HE.out.symm,b1⟩
   ·have hcap:=rowT_cap HR.out h1
    obtain ⟨q1,q2,q3⟩:=half_lt (show 2≤ts.length by omega)
    have HE:Hid (zAy (f+1) ts=node (zAy f (ts.take (half ts.length))) (zAy f (ts.drop (half ts.length)))):=rootF_more hone
    have HF:Hid (∀ W,Calls Tryz.prog 47 #[.int .i64 ts.length] W fun e w'=>e=.returned (.int .i64 (half ts.length))∧W=w'):=fun W=>forkOf_any ts.length W (by omega) h64
    have z1:=zAn f (ts.take (half ts.length)) (by rw [List.length_take];omega) (by rw [List.length_take];omega) (fun t ht=>hs t (List.mem_of_mem_take ht))
    have z2:=zAn f (ts.drop (half ts.length)) (by rw [List.length_drop];omega) (by rw [List.length_drop];omega) (fun t ht=>hs t (List.mem_of_mem_drop ht))
    have HL:Hid (∀ W,Below w.heap.size w W→Calls Tryz.prog 48 #[.slice a (half ts.length) cap] W fun e w'=>e=.returned (.string (zAy f (ts.take (half ts.length))))∧Below w.heap.size w w'):=fun W hW =>
     (zBR f (ts.take (half ts.length)) _ W ((rowT_take HR.out (by omega)).below hW) (by rw [List.length_take];omega) (by rw [List.length_take];omega) (by rw [List.length_take];omega) (fun t ht=>hs t (List.mem_of_mem_take ht)) (hK.below hW hp) (Nat.lt_of_lt_of_le hp hW.size)).mono
       fun e w' ⟨h1,h2⟩=>⟨h1,hW.trans (h2.mono hW.size)⟩
    have HD:Hid (∀ W,Below w.heap.size w W→Calls Tryz.prog 48 #[.slice (a.map (·.add (half ts.length))) (ts.length - half ts.length) (cap - half ts.length)] W fun e w'=>e=.returned (.string (zAy f (ts.drop (half ts.length))))∧Below w.heap.size w w'):=fun W hW =>
     (zBR f (ts.drop (half ts.length)) _ W ((rowT_drop HR.out (by omega)).below hW) (by rw [List.length_drop];omega) (by rw [List.length_drop];omega) (by rw [List.length_drop];omega) (fun t ht=>hs t (List.mem_of_mem_drop ht)) (hK.below hW hp) (Nat.lt_of_lt_of_le hp hW.size)).mono
       fun e w' ⟨h1,h2⟩=>⟨h1,hW.trans (h2.mono hW.size)⟩
    have hn1:((ts.length:Int) == 1)=false:=by simp;omega
    obtain ⟨l,Hl⟩ : ∃ l,Hid (zAy f (ts.take (half ts.length))=l):=⟨_,rfl⟩
    obtain ⟨r,Hr⟩ : ∃ r,Hid (zAy f (ts.drop (half ts.length))=r):=⟨_,rfl⟩
    rw [Hl.out] at z1 HL HE
    rw [Hr.out] at z2 HD HE
    have HN:Hid (∀ W,Below w.heap.size w W→Calls Tryz.prog 75 #[.string l,.string r] W fun e w'=>e=.returned (.string (node l r))∧Below w.heap.size w w'):=fun W hW =>
     (nodeOf_any l r W (by omega) (by omega) (hK.below hW hp) (Nat.lt_of_lt_of_le hp hW.size)).mono fun e w' ⟨h1,h2⟩=>⟨h1,hW.trans (h2.mono hW.size)⟩
    clear Hl Hr z1 z2 hs hone h HR h2 GK
    generalize half ts.length=k at q1 q2 q3 HF HL HD
    generalize ts.length=n at hcap q2 HF HD hn1 h1 h64
    have G0:Hid (Below w.heap.size w w.drew):=(Below.refl _ _).drew
    have p1:(k:Int)≤(n:Int):=by omega
    have p2:(k:Int)≤(cap:Int):=by omega
    have p3:(n:Int)≤(cap:Int):=by omega
    have p4:¬ cap=k:=by omega
    go_enter Tryz.func48,Tryz.ntmps48
    go_wp2_with (first | (go_at_call 47;refine (HF.out _).mono ?_;rintro e w1 ⟨rfl,rfl⟩) | fail)
    go_region_law (first
     | (go_simp;go_at_call 75;refine (HN.out _ g3).mono ?_;rintro e w3 ⟨rfl,g3⟩;try go_simp)
     | (go_simp;go_at_call 48;(with_reducible refine (HL.out _ (by first | exact g3 | exact G0.out)).mono ?_);rintro e w3 ⟨rfl,g3⟩;try go_simp)
     | (go_simp;go_at_call 48;(with_reducible refine (HD.out _ (by first | exact g3 | exact G0.out)).mono ?_);rintro e w3 ⟨rfl,g3⟩;try go_simp))
    all_goals
     go_wp2_with fail
     go_ret
     exact ⟨Tx.ret_str HE.out.symm,g3⟩
end Go.Proofs.YtakfniknkejgpaaGreatDoor.Py
namespace Go.Proofs.YtakfniknkejgpaaGreatDoor.Py
open Go.RowKit Sl By Ap Tx Sh Ho Se Ka Pf Px
def rootE:ByteArray:=zCO (bys bNothing)
noncomputable def prO (ts:List ByteArray):ByteArray:=if pcC ts=0 then (if ts.length=0 then rootE else zAy 64 ts) else ⟨#[]⟩
end Go.Proofs.YtakfniknkejgpaaGreatDoor.Py
namespace Go.Proofs.YtakfniknkejgpaaGreatDoor.Xo
open Go.RowKit Sl Rg Xv
open Gt (Vo)
open Hs (stV)
open Sh (KTab KTab.below)
open Xq (RowJ RowJ.below RowJ.at)
open Tb (Lk Sn Tab RowL RowS RowL.below RowS.below tabV)
open Tp (TOK bOf zAY zAP)
open Pt (zBO Bnd zCY lsBs zCI ssBs zCA tbOut zBQ)
open Ps (zBw)
open Pu (nums zAQ nums_length)
open Sl (RowB)
open Ap (zAT)
open Tx (RowT OwnS)
open Pg (zBF cutN cutL cutC cut_ok zAt pcn)
open Py (zAy zAn zBR)
open Fz (zAU)
def tL (tm nx:Int) (ls:List Lk) (ss:List Sn):List ByteArray:=zBF (zBO tm nx ls ss) (cutN (zBO tm nx ls ss))
def tN (tm nx:Int) (ls:List Lk) (ss:List Sn):Int:=(cutN (zBO tm nx ls ss):Nat)
def tR (tm nx:Int) (ls:List Lk) (ss:List Sn):ByteArray:=zAy 64 (tL tm nx ls ss)
theorem tab_range (tm nx:Int) (ls:List Lk) (ss:List Sn):∀ z ∈ zBO tm nx ls ss,0≤z∧z≤255:=Pt.tabBs_range tm nx ls ss
theorem tab_len {tm nx:Int} {ls:List Lk} {ss:List Sn} (h:Bnd ls ss):9≤(zBO tm nx ls ss).length∧(zBO tm nx ls ss).length≤1000:=by
 obtain ⟨h1,h2,h3,_⟩:=h
 have:=zCI ls fun x hx=>⟨(h3 x hx).1,(h3 x hx).2.1⟩
 unfold zBO
 simp only [List.length_append,nums_length,zCA]
 omega
theorem tL_len {tm nx:Int} {ls:List Lk} {ss:List Sn}:((tL tm nx ls ss).length:Int)=tN tm nx ls ss:=by unfold tL tN;rw [Pg.zAf]
theorem tL_some {tm nx:Int} {ls:List Lk} {ss:List Sn} (h:TOK ⟨tm,nx,ls,ss⟩):1≤(tL tm nx ls ss).length∧(tL tm nx ls ss).length≤64:=by
 have:=tab_len (tm:=tm) (nx:=nx) (zCY h)
 unfold tL
 rw [Pg.zAf]
 unfold cutN
 omega
theorem cut_small (xs:List Int):∀ k,∀ t ∈ zBF xs k,t.size≤32
 | 0=>by intro t ht;simp [zBF] at ht
 | k+1=>by
   intro t ht
   unfold zBF at ht
   rcases List.mem_append.1 ht with ht | ht
   ·exact cut_small xs k t ht
   ·simp at ht
    subst ht
    rw [strOfNums_size]
    unfold pcn
    rw [List.length_take]
    omega
theorem tL_small {tm nx:Int} {ls:List Lk} {ss:List Sn} (_h:TOK ⟨tm,nx,ls,ss⟩):∀ t ∈ tL tm nx ls ss,t.size≤32:=cut_small _ _
theorem tR_size {tm nx:Int} {ls:List Lk} {ss:List Sn} (h:TOK ⟨tm,nx,ls,ss⟩):(tR tm nx ls ss).size≤1000:=by
 unfold tR
 rw [zAn 64 _ (tL_some h).1 (tL_some h).2 (tL_small h)]
 decide
def vtOf (sq sz:Int) (rt:ByteArray) (f:Int):Vo:=⟨f,vmk f.toNat sq sz rt⟩
def vtTo (sq sz:Int) (rt:ByteArray) (fs:List Int) (k:Nat):List Vo:=(fs.take k).map (vtOf sq sz rt)
theorem vtTo_succ {sq sz:Int} {rt:ByteArray} {fs:List Int} {k:Nat} {f:Int} (h:fs[k]?=some f):vtTo sq sz rt fs (k+1)=vtTo sq sz rt fs k ++ [vtOf sq sz rt f]:=by
 unfold vtTo
 rw [List.take_add_one,h,List.map_append]
 rfl
theorem vtTo_len {sq sz:Int} {rt:ByteArray} {fs:List Int} {k:Nat} (h:k≤fs.length):(vtTo sq sz rt fs k).length=k:=by unfold vtTo;rw [List.length_map,List.length_take];omega
set_option maxRecDepth 100000 in
set_option maxHeartbeats 1600000 in
theorem withVotes_any (sq sz:Int) (rt:ByteArray) (u:Value) (fs:List Int) (w:World) (h:RowJ w u fs) (hl:fs.length≤4096) (hN:∀ f ∈ fs,∃ i:Nat,f=i∧i<7) (hs:rt.size≤1000) (hK:KTab w) (hp:9<w.heap.size) :
 Calls Tryz.prog 36 #[stV sq sz rt (.slice none 0 0),u] w fun e w'=>∃ v,e=.returned (stV sq sz rt v)∧OwnV w' w.heap.size v (vtTo sq sz rt fs fs.length)∧Below w.heap.size w w':=by
 obtain ⟨i0,hi0,hz0,hz1,hz2⟩:=info_parts infoV
 have HR:Hid (RowJ w u fs):=h
 have HN:Hid (∀ f ∈ fs,∃ i:Nat,f=i∧i<7):=hN
 have GK:Hid (KTab w∧9<w.heap.size∧rt.size≤1000):=⟨hK,hp,hs⟩
 obtain ⟨a,cap,rfl,_⟩:=h
 have hB0:Below w.heap.size w ((w.alloc (.cells #[.int .i64 sq,.int .i64 sz,.string rt,.slice none 0 0] 33)).alloc (.cells #[.int .i64 0,.int .i64 0,.string ⟨#[]⟩,.slice none 0 0] 33)):=((Below.refl _ _).alloc (Nat.le_refl _) _).alloc (by simp) _
 have HV0:Vb sq sz rt w ((w.alloc (.cells #[.int .i64 sq,.int .i64 sz,.string rt,.slice none 0 0] 33)).alloc (.cells #[.int .i64 0,.int .i64 0,.string ⟨#[]⟩,.slice none 0 0] 33)) w.heap.size (w.heap.size+1) (w.heap.size+1+1) (.slice none 0 0) []:=by
  refine ⟨?_,?_,OwnV.nil _ _,hB0,by rw [zAN,zAN];omega⟩
  ·rw [Below.heap_alloc _ _ _ (by simp)];exact heap_alloc_new w _
  ·have:=heap_alloc_new (w.alloc (.cells #[.int .i64 sq,.int .i64 sz,.string rt,.slice none 0 0] 33)) (.cells #[.int .i64 0,.int .i64 0,.string ⟨#[]⟩,.slice none 0 0] 33)
   rwa [zAN] at this
 clear hN hK hp hs hB0
 unfold stV
 go_enter Tryz.func36,Tryz.ntmps36
 go_upto_region 1 with fail
 generalize (w.alloc (.cells #[.int .i64 sq,.int .i64 sz,.string rt,.slice none 0 0] 33)).alloc (.cells #[.int .i64 0,.int .i64 0,.string ⟨#[]⟩,.slice none 0 0] 33)=wb at HV0 ⊢
 obtain ⟨x,HX⟩ : ∃ x,Hid (w.heap.size=x):=⟨_,rfl⟩
 rw [HX.out] at HV0 ⊢
 obtain ⟨y,HY⟩ : ∃ y,Hid (x+1=y):=⟨_,rfl⟩
 rw [HY.out] at HV0 ⊢
 obtain ⟨B,HBE⟩ : ∃ B,Hid (y+1=B):=⟨_,rfl⟩
 rw [HBE.out] at HV0
 have HBB:Hid (w.heap.size≤B):=by show _≤_;have:=HX.out;have:=HY.out;have:=HBE.out;omega
 go_wp2_with fail
 go_loopw [9] (fun i wr=>∃ (k:Nat) (va:Option Addr) (vc:Nat),k≤fs.length∧i=.int .i64 k∧Hid (Vb sq sz rt w wr x y B (.slice va k vc) (vtTo sq sz rt fs k))) (fun i _=>fs.length - (intOf i).toNat)
 case atStart=>exact ⟨0,none,0,by omega,rfl,HV0⟩
 case round =>
  clear HV0
  obtain ⟨k,va,vc,hk,rfl,HV⟩:=hrel
  by_cases hlt:k<fs.length
  ·obtain ⟨f,hf⟩:=Rg.get_at hlt
   obtain ⟨fb,foff,rfl,hfb,c0⟩:=(HR.out.below HV.out.gr).at hf
   obtain ⟨i,rfl,hi7⟩:=HN.out _ (List.mem_of_getElem? hf)
   have HEQ:Hid (vtTo sq sz rt fs (k+1)=vtTo sq sz rt fs k ++ [⟨(i:Int),vmk i sq sz rt⟩]):=vtTo_succ hf
   have HLN:Hid ((vtTo sq sz rt fs k).length≤1000000):=by show _≤_;rw [vtTo_len hk];omega
   have HLK:Hid ((vtTo sq sz rt fs k).length=k):=vtTo_len hk
   have HL5:Hid ((vtTo sq sz rt fs (k+1)).length=k+1):=vtTo_len (by omega)
   have HVM:Hid (∀ W,Vb sq sz rt w W x y B (.slice va k vc) (vtTo sq sz rt fs k)→Calls Tryz.prog 27 #[.int .i64 i,.agg #[.int .i64 sq,.int .i64 sz,.string rt,.slice va k vc]] W fun e w'=>e=.returned (.string (vmk i sq sz rt))∧Vb sq sz rt w w' x y B (.slice va k vc) (vtTo sq sz rt fs k)):=fun W hW=>(voteMark_any i sq sz rt _ W (by omega) GK.out.2.2 (GK.out.1.below hW.gr GK.out.2.1) (Nat.lt_of_lt_of_le GK.out.2.1 hW.gr.size)).mono fun e w' ⟨h1,h2⟩=>⟨h1,hW.below h2⟩
   have HC0:Hid (∀ W,Below w.heap.size w W→W.cell? ⟨fb,foff+k,none⟩=some (.int .i64 i)):=fun W hW=>by
    obtain ⟨b',off',e,_,q⟩:=(HR.out.below hW).at hf
    cases e
    exact q
   obtain ⟨ms2,HM2⟩ : ∃ ms2,Hid (vtTo sq sz rt fs (k+1)=ms2):=⟨_,rfl⟩
   obtain ⟨ms,HM1⟩ : ∃ ms,Hid (vtTo sq sz rt fs k=ms):=⟨_,rfl⟩
   obtain ⟨mk,HMK⟩ : ∃ mk,Hid (vmk i sq sz rt=mk):=⟨_,rfl⟩
   rw [HMK.out] at HEQ HVM
   rw [HM2.out] at HEQ HL5
   rw [HM1.out] at HLN HEQ HVM HV HLK
   rw [HLK.out] at HLN
   have t0:=HV.out
   obtain ⟨q0,q1,q2,q3⟩:=t0.cells
   clear HV hf HMK
   go_upto_region 4 with fail
   go_region_law
    (first
      | (go_simp;go_at_call 27;(with_reducible refine (HVM.out _ (by first | assumption | exact Vb.drew (by assumption))).mono ?_);rintro e wn ⟨rfl,tn⟩;obtain ⟨e0,e1,e2,e3⟩:=tn.cells;have ea:=fun o=>(Vb.alloc tn o).cells.2.2.2;have ec:=HC0.out _ tn.gr;try go_simp)
      | (refine step_vb (by rfl) _ _ 31 (by rfl) Tryz.underlying31 hi0 hz0 hz1 hz2 sq sz rt _ w x y B _ ms ⟨(i:Int),mk⟩ (by rfl) _ (by rfl) (by first | exact heap_alloc_new _ _ | exact (heap_alloc_new _ _:(World.alloc _ _).drew.heap[_]?=_)) (by first | assumption | exact Vb.drew (by assumption) | exact Vb.alloc (by assumption) _ | exact Vb.drew (Vb.alloc (by assumption) _) | exact Vb.alloc (Vb.drew (by assumption)) _) (by rw [HLK.out];exact HLN.out) ?_;intro v5 w5 t5;obtain ⟨a5,cap5,rfl⟩:=t5.own.slice;obtain ⟨s5,f5⟩:=t5.cells;try go_simp))
   all_goals
    rw [← HEQ.out,HL5.out] at t5
    have T5:Hid (Vb sq sz rt w (w5.setCell ⟨x,3,none⟩ (.slice a5 (k+1) cap5)) x y B (.slice a5 (k+1) cap5) ms2):=t5.set
    rw [HLK.out]
    clear t5 t0 q0 q1 q2 q3
    go_wp2_with fail
    exact ⟨⟨k+1,a5,cap5,by omega,by go_num,by rw [HM2.out];exact T5⟩,by simp [intOf];omega⟩
  ·obtain rfl:k=fs.length:=by omega
   have p0:=(zAA HV.out.hx 0 (x:=.int .i64 sq) rfl).1
   have p1:=(zAA HV.out.hx 1 (x:=.int .i64 sz) rfl).1
   have p2:=(zAA HV.out.hx 2 (x:=.string rt) rfl).1
   have p3:=(zAA HV.out.hx 3 (x:=.slice va fs.length vc) rfl).1
   obtain ⟨m0,n0⟩:=zAA HV.out.hy 0 (x:=.int .i64 0) rfl
   obtain ⟨m1,n1⟩:=zAA HV.out.hy 1 (x:=.int .i64 0) rfl
   obtain ⟨m2,n2⟩:=zAA HV.out.hy 2 (x:=.string ⟨#[]⟩) rfl
   obtain ⟨m3,n3⟩:=zAA HV.out.hy 3 (x:=.slice none 0 0) rfl
   have AF:((((wr.setCell ⟨y,0,none⟩ (.int .i64 sq)).setCell ⟨y,1,none⟩ (.int .i64 sz)).setCell ⟨y,2,none⟩ (.string rt)).setCell ⟨y,3,none⟩ (.slice va fs.length vc)).heap[y]?=some (.cells #[.int .i64 sq,.int .i64 sz,.string rt,.slice va fs.length vc] 33 (0,0)):=(zAE (zAE (zAE (zAE HV.out.hy 0 (.int .i64 sq)) 1 (.int .i64 sz)) 2 (.string rt)) 3 (.slice va fs.length vc))
   have RF:Hid (OwnV ((((wr.setCell ⟨y,0,none⟩ (.int .i64 sq)).setCell ⟨y,1,none⟩ (.int .i64 sz)).setCell ⟨y,2,none⟩ (.string rt)).setCell ⟨y,3,none⟩ (.slice va fs.length vc)) B (.slice va fs.length vc) (vtTo sq sz rt fs fs.length)∧Below w.heap.size w ((((wr.setCell ⟨y,0,none⟩ (.int .i64 sq)).setCell ⟨y,1,none⟩ (.int .i64 sz)).setCell ⟨y,2,none⟩ (.string rt)).setCell ⟨y,3,none⟩ (.slice va fs.length vc))):=⟨HV.out.own.kept (fun g hg=>((zAB (own_ne HV.out.own HV.out.hy g hg) 3 (.slice va fs.length vc)).trans ((zAB (own_ne HV.out.own HV.out.hy g hg) 2 (.string rt)).trans ((zAB (own_ne HV.out.own HV.out.hy g hg) 1 (.int .i64 sz)).trans ((zAB (own_ne HV.out.own HV.out.hy g hg) 0 (.int .i64 sq)).trans (Eq.refl wr.heap[g]?)))))),(Below.setCell (Below.setCell (Below.setCell (Below.setCell HV.out.gr (p:=⟨y,0,none⟩) (by show _≤y;have:=HV.out.lt;omega) (.int .i64 sq)) (p:=⟨y,1,none⟩) (by show _≤y;have:=HV.out.lt;omega) (.int .i64 sz)) (p:=⟨y,2,none⟩) (by show _≤y;have:=HV.out.lt;omega) (.string rt)) (p:=⟨y,3,none⟩) (by show _≤y;have:=HV.out.lt;omega) (.slice va fs.length vc))⟩
   clear HV
   go_wp2_with fail
   generalize ((((wr.setCell ⟨y,0,none⟩ (.int .i64 sq)).setCell ⟨y,1,none⟩ (.int .i64 sz)).setCell ⟨y,2,none⟩ (.string rt)).setCell ⟨y,3,none⟩ (.slice va fs.length vc))=wf at AF RF ⊢
   have d0:=(zAA AF 0 (x:=.int .i64 sq) rfl).1
   have d1:=(zAA AF 1 (x:=.int .i64 sz) rfl).1
   have d2:=(zAA AF 2 (x:=.string rt) rfl).1
   have d3:=(zAA AF 3 (x:=.slice va fs.length vc) rfl).1
   exact bodyPost_ret (v:=stV sq sz rt (.slice va fs.length vc)) (by simp [stV,results,Tryz.results36,go_sem,d0,d1,d2,d3]) rfl ⟨_,rfl,RF.out.1.mono (by have:=HBB.out;omega),RF.out.2⟩
end Go.Proofs.YtakfniknkejgpaaGreatDoor.Xo
