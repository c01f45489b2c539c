/- Texts put together: Xd, Rdt, Mw. -/
import Derived.Test.YtakfniknkejgpaaGreatDoorMi14
import Derived.Test.YtakfniknkejgpaaGreatDoorMi15
namespace Go.Proofs.YtakfniknkejgpaaGreatDoor.Xs
open Go.RowKit Sl Tm Xv Xq
open Sh (KTab KTab.below)
open Hs (stV)
open Gt (Vo)
open Qm (qOut inB)
open Rm (inR inR_nat)
open Rg (RowG RowG.slice RowG.at lt_at zAA zAD)
def MkTo (sq sz:Int) (rt:ByteArray) (vs:List Vo) (k:Nat):Prop:=∀ j x,j<k→vs[j]?=some x→x.m=vmk (frn x.f) sq sz rt
noncomputable def stB (n sq sz:Int) (rt:ByteArray) (vs:List Vo):Bool:=vok sq sz rt && (qvB n (vfs vs) && bOf (MkTo sq sz rt vs vs.length))
theorem vfs_at {vs:List Vo} {k:Nat} {x:Vo} (h:vs[k]?=some x):(vfs vs)[k]?=some x.f:=by unfold vfs;rw [List.getElem?_map,h];rfl
theorem st_no1 {n sq sz:Int} {rt:ByteArray} {vs:List Vo} (h:vok sq sz rt=false):stB n sq sz rt vs=false:=by unfold stB;rw [h];rfl
theorem st_no2 {n sq sz:Int} {rt:ByteArray} {vs:List Vo} (h:qvB n (vfs vs)=false):stB n sq sz rt vs=false:=by unfold stB;rw [h,Bool.false_and,Bool.and_false]
theorem st_no3 {n sq sz:Int} {rt:ByteArray} {vs:List Vo} {k:Nat} {x:Vo} (hx:vs[k]?=some x) (h:x.m ≠ vmk (frn x.f) sq sz rt):stB n sq sz rt vs=false:=by
 unfold stB;rw [zAP (fun hh=>h (hh k x (lt_at hx) hx)),Bool.and_false,Bool.and_false]
theorem st_yes {n sq sz:Int} {rt:ByteArray} {vs:List Vo} (h1:vok sq sz rt=true) (h2:qvB n (vfs vs)=true) (h3:MkTo sq sz rt vs vs.length):stB n sq sz rt vs=true:=by
 unfold stB;rw [h1,h2,zAY h3];rfl
theorem q_isV {n:Int} {vs:List Vo} (h:qvB n (vfs vs)=true) {k:Nat} {x:Vo} (hx:vs[k]?=some x):isV n x.f=true:=(qv_iff.1 h).2.2.1 _ (List.mem_of_getElem? (vfs_at hx))
theorem q_len {n:Int} {vs:List Vo} (h:qvB n (vfs vs)=true):(vs.length:Int)=qOut n:=by have:=(qv_iff.1 h).2.1;rwa [vfs_length] at this
theorem toList_inj {a b:ByteArray} (h:a.toList=b.toList):a=b:=by
 rw [Lib.toList_data,Lib.toList_data] at h
 cases a
 cases b
 have h2:=Array.toList_inj.1 h
 simp only at h2
 rw [h2]
theorem ret_b {a b:Bool} (h:a=b):Ending.returned (.bool a)=.returned (.bool b):=by rw [h]
set_option maxRecDepth 100000 in
set_option maxHeartbeats 1600000 in
theorem zBK (n sq sz:Int) (rt:ByteArray) (vr:Value) (vs:List Vo) (w:World) (h:Gt.Row w vr vs) (hl:vs.length≤1048576) (hK:KTab w) (hp:9<w.heap.size) :
 Calls Tryz.prog 10 #[.int .i64 n,stV sq sz rt vr] w fun e w'=>e=.returned (.bool (stB n sq sz rt vs))∧Below w.heap.size w w':=by
 have HR0:Hid (Gt.Row w vr vs):=h
 obtain ⟨a,cap,rfl⟩:=RowG.slice h
 have HX:Hid (∀ W,Below (w.alloc (.cells #[.int .i64 sq,.int .i64 sz,.string rt,.slice a vs.length cap] 33)).heap.size (w.alloc (.cells #[.int .i64 sq,.int .i64 sz,.string rt,.slice a vs.length cap] 33)) W→(W.cell? ⟨w.heap.size,0,none⟩=some (.int .i64 sq)∧W.cell? ⟨w.heap.size,1,none⟩=some (.int .i64 sz)∧W.cell? ⟨w.heap.size,2,none⟩=some (.string rt)∧W.cell? ⟨w.heap.size,3,none⟩=some (.slice a vs.length cap))∧Gt.Row W (.slice a vs.length cap) vs∧Below w.heap.size w W∧KTab W∧9<W.heap.size):=fun W hW=>by
  have h1:=(hW.block w.heap.size (by simp)).trans (heap_alloc_new w _)
  have b:=(zAD w (.cells #[.int .i64 sq,.int .i64 sz,.string rt,.slice a vs.length cap] 33)).trans (hW.mono (by simp))
  exact ⟨⟨(zAA h1 0 rfl).1,(zAA h1 1 rfl).1,(zAA h1 2 rfl).1,(zAA h1 3 rfl).1⟩,HR0.out.below b,b,hK.below b hp,Nat.lt_of_lt_of_le hp b.size⟩
 clear h hK hp HR0
 unfold stV
 cases hv:vok sq sz rt with
 | false =>
   have HE:Hid (stB n sq sz rt vs=false):=st_no1 hv
   go_enter Tryz.func10,Tryz.ntmps10
   go_wp2_with fail
   refine (zCV sq sz rt _ _).mono ?_
   rintro e w1 ⟨rfl,b1⟩
   rw [hv]
   obtain ⟨_,_,g1,_⟩:=HX.out _ b1
   have G1:Hid (Below w.heap.size w w1):=g1
   clear g1 b1 hv HX
   go_wp2_with fail
   go_ret
   exact ⟨ret_b HE.out.symm,G1.out⟩
 | true =>
   obtain ⟨z1,_⟩:=vok_size hv
   have HV:Hid (vok sq sz rt=true∧rt.size≤1000):=⟨hv,by omega⟩
   have HVT:Hid (∀ W,Calls Tryz.prog 24 #[.agg #[.int .i64 sq,.int .i64 sz,.string rt,.slice a vs.length cap]] W fun e w'=>e=.returned (.bool true)∧Below W.heap.size W w'):=fun W=>by have:=zCV sq sz rt (.slice a vs.length cap) W;rwa [hv] at this
   clear hv z1
   go_enter Tryz.func10,Tryz.ntmps10
   go_upto_region 1 with fail
   generalize w.alloc (.cells #[.int .i64 sq,.int .i64 sz,.string rt,.slice a vs.length cap] 33)=wb at HX ⊢
   obtain ⟨⟨c0,c1,c2,c3⟩,_⟩:=HX.out _ (Below.refl _ _)
   go_wp2_with fail
   refine (HVT.out _).mono ?_
   rintro e w1 ⟨rfl,b1⟩
   clear c0 c1 c2 c3
   obtain ⟨⟨c0,c1,c2,c3⟩,r1,_⟩:=HX.out _ b1
   have R1:Hid (Gt.Row w1 (.slice a vs.length cap) vs):=r1
   have B1:Hid (Below wb.heap.size wb w1):=b1
   clear b1 r1 HVT
   go_wp2_with fail
   refine (votersOf_any _ vs w1 R1.out hl).mono ?_
   rintro e w2 ⟨u,rfl,o2,b2⟩
   have B2:Hid (Below wb.heap.size wb w2):=B1.out.trans (b2.mono B1.out.size)
   have O2:Hid (RowJ w2 u (vfs vs)):=RowJ.of_own o2
   clear o2 b2 B1 R1 c0 c1 c2 c3
   have HRQ:=zBe n u (vfs vs) w2 O2.out (by rw [vfs_length];omega)
   cases hq:qvB n (vfs vs) with
   | false =>
     have HE:Hid (stB n sq sz rt vs=false):=st_no2 hq
     rw [hq] at HRQ
     obtain ⟨_,_,g2,_⟩:=HX.out _ B2.out
     have G2:Hid (Below w.heap.size w w2):=g2
     clear hq O2 B2 HX g2
     go_wp2_with fail
     refine HRQ.mono ?_
     rintro e w3 ⟨rfl,rfl⟩
     go_wp2_with fail
     go_ret
     exact ⟨ret_b HE.out.symm,G2.out⟩
   | true =>
     have HQ:Hid (qvB n (vfs vs)=true):=hq
     rw [hq] at HRQ
     clear hq O2
     obtain ⟨⟨c0,c1,c2,c3⟩,_⟩:=HX.out _ B2.out
     go_wp2_with fail
     refine HRQ.mono ?_
     rintro e w3 ⟨rfl,rfl⟩
     clear HRQ
     go_wp2_with fail
     clear c0 c1 c2 c3
     go_loopw [21] (fun i wr=>∃ k:Nat,k≤vs.length∧i=.int .i64 k∧Hid (MkTo sq sz rt vs k∧Below wb.heap.size wb wr)) (fun i _=>vs.length - (intOf i).toNat)
     case atStart=>exact ⟨0,by omega,rfl,⟨fun j x hj=>by omega,B2.out⟩⟩
     case round =>
      obtain ⟨k,hk,rfl,HZ⟩:=hrel
      by_cases hlt:k<vs.length
      ·obtain ⟨x,hx⟩:=Rg.get_at hlt
       obtain ⟨cc,rr,_⟩:=HX.out _ HZ.out.2
       obtain ⟨b,off,rfl,hbl,d0,d1⟩:=RowG.at rr rfl hx
       clear rr cc
       obtain ⟨e1,e2⟩:=zBZ (q_isV HQ.out hx)
       have HN3:Hid (x.m ≠ vmk (frn x.f) sq sz rt→stB n sq sz rt vs=false):=fun hh=>st_no3 hx hh
       have HS3:Hid (x.m=vmk (frn x.f) sq sz rt→MkTo sq sz rt vs (k+1)):=fun hh j y hj hy=>by
        by_cases e:j=k
        ·subst e;rw [hx] at hy;cases hy;exact hh
        ·exact HZ.out.1 j y (by omega) hy
       have HBN:Hid (Below wb.heap.size wb (wr.alloc (.cells #[.int .i64 x.f,.string x.m] 48))):=HZ.out.2.trans ((zAD wr _).mono HZ.out.2.size)
       have HXX:Hid (∀ W,Below (wr.alloc (.cells #[.int .i64 x.f,.string x.m] 48)).heap.size (wr.alloc (.cells #[.int .i64 x.f,.string x.m] 48)) W→W.cell? ⟨wr.heap.size,0,none⟩=some (.int .i64 x.f)∧W.cell? ⟨wr.heap.size,1,none⟩=some (.string x.m)):=fun W hW=>by
        have h1:=(hW.block wr.heap.size (by simp)).trans (heap_alloc_new wr _)
        exact ⟨(zAA h1 0 rfl).1,(zAA h1 1 rfl).1⟩
       generalize frn x.f=i at e1 e2 HN3 HS3
       generalize x.m=m at d1 HXX HBN HN3 HS3
       rw [e1] at d0 HXX HBN
       clear hx e1
       go_upto_region 6 with fail
       generalize wr.alloc (.cells #[.int .i64 (i:Int),.string m] 48)=wv at HXX HBN ⊢
       obtain ⟨x0,x1⟩:=HXX.out wv (Below.refl _ _)
       obtain ⟨⟨c0,c1,c2,c3⟩,_⟩:=HX.out _ HBN.out
       obtain ⟨X,hX,W,QI0,QO0⟩:=Qc.zAo wv
       have QI:Hid (∀ w',Below wv.heap.size wv w'→∃ x,w'=W x):=QI0
       have QO:Hid (∀ x,Below wv.heap.size wv (W x)):=QO0
       clear QI0 QO0
       have QB:Hid (∀ x,Below wb.heap.size wb (W x)):=fun x=>HBN.out.trans ((QO.out x).mono HBN.out.size)
       have HVM:Hid (∀ x,Calls Tryz.prog 27 #[.int .i64 i,.agg #[.int .i64 sq,.int .i64 sz,.string rt,.slice (some ⟨b,off,none⟩) vs.length cap]] (W x) fun e w'=>e=.returned (.string (vmk i sq sz rt))∧Below (W x).heap.size (W x) w'):=fun xq=>by
        obtain ⟨_,_,_,hK',hp'⟩:=HX.out _ (QB.out xq)
        exact voteMark_any i sq sz rt _ (W xq) (by omega) HV.out.2 hK' hp'
       have y0:=Qc.zAC QO.out x0
       have y1:=Qc.zAC QO.out x1
       have t0:=Qc.zAC QO.out c0
       have t1:=Qc.zAC QO.out c1
       have t2:=Qc.zAC QO.out c2
       have t3:=Qc.zAC QO.out c3
       generalize vmk i sq sz rt=t at HVM HN3 HS3
       cases he:(m.toList == t.toList) with
       | true =>
         have he2:(m.toList != t.toList)=false:=by rw [bne,he];rfl
         have HMM:Hid (m=t):=toList_inj (by simpa using he)
         refine Qc.zAF (W:=W) (by kernel_rfl) (by kernel_rfl) (QI.out _ Qc.zAJ) ?_
         repeat (go_big_quiet_step (first | (go_at_call 27;refine (HVM.out _).mono ?_;rintro e w2 ⟨rfl,b2⟩;exact ⟨rfl,Qc.back QI.out QO.out b2⟩)))
         refine wpQuiet_nil ?_
         rintro _ ⟨xq,rfl⟩
         have G2:Hid (Below wb.heap.size wb (W xq)):=QB.out xq
         clear y0 y1 t0 t1 t2 t3
         generalize W xq=wq at G2 ⊢
         go_wp2_with fail
         exact ⟨⟨k+1,by omega,by go_num,⟨HS3.out HMM.out,G2.out⟩⟩,by simp [intOf];omega⟩
       | false =>
         have he2:(m.toList != t.toList)=true:=by rw [bne,he];rfl
         have HE:Hid (stB n sq sz rt vs=false):=HN3.out (fun hh=>by rw [hh] at he;simp at he)
         refine Qc.zAF (W:=W) (by kernel_rfl) (by kernel_rfl) (QI.out _ Qc.zAJ) ?_
         repeat (go_big_quiet_step (first | (go_at_call 27;refine (HVM.out _).mono ?_;rintro e w2 ⟨rfl,b2⟩;exact ⟨rfl,Qc.back QI.out QO.out b2⟩)))
         refine wpQuiet_nil ?_
         rintro _ ⟨xq,rfl⟩
         obtain ⟨_,_,g2,_⟩:=HX.out _ (QB.out xq)
         have G2:Hid (Below w.heap.size w (W xq)):=g2
         clear y0 y1 t0 t1 t2 t3 g2
         generalize W xq=wq at G2 ⊢
         go_wp2_with fail
         go_ret
         exact ⟨ret_b HE.out.symm,G2.out⟩
      ·obtain rfl:k=vs.length:=by omega
       have HE:Hid (stB n sq sz rt vs=true):=st_yes HV.out.1 HQ.out HZ.out.1
       obtain ⟨_,_,g2,_⟩:=HX.out _ HZ.out.2
       have G2:Hid (Below w.heap.size w wr):=g2
       clear g2
       go_wp2_with fail
       go_ret
       exact ⟨ret_b HE.out.symm,G2.out⟩
theorem st_q {n sq sz:Int} {rt:ByteArray} {vs:List Vo} (h:stB n sq sz rt vs=true):qvB n (vfs vs)=true:=by
 unfold stB at h;rw [Bool.and_eq_true,Bool.and_eq_true] at h;exact h.2.1
end Go.Proofs.YtakfniknkejgpaaGreatDoor.Xs
namespace Go.Proofs.YtakfniknkejgpaaGreatDoor.Rr
open Go.RowKit Sl By Ap
def RowU (B:Nat) (w:World) (v:Value) (xs:List Int):Prop :=
 ∃ a cap,v=.slice a xs.length cap∧xs.length≤cap∧(xs=[] ∨ ∃ b off,a=some ⟨b,off,none⟩∧b<B∧∀ i,i<xs.length→w.cell? ⟨b,off+i,none⟩=some (.int .u8 (nth xs i)))∧∀ x ∈ xs,0≤x∧x≤255
theorem RowU.of {w:World} {v:Value} {xs:List Int} (h:RowB w v xs):RowU w.heap.size w v xs:=by
 obtain ⟨a,cap,rfl,h,hr⟩:=h
 rcases h with rfl | ⟨b,off,rfl,hc,hlt,h⟩
 ·exact ⟨a,cap,rfl,Nat.zero_le _,.inl rfl,hr⟩
 ·exact ⟨_,cap,rfl,hc,.inr ⟨b,off,rfl,hlt,h⟩,hr⟩
theorem RowU.kept {B:Nat} {w w':World} {v:Value} {xs:List Int} (h:RowU B w v xs) (hb:∀ k,k<B→w'.heap[k]?=w.heap[k]?):RowU B w' v xs:=by
 obtain ⟨a,cap,rfl,hc,h,hr⟩:=h
 refine ⟨a,cap,rfl,hc,?_,hr⟩
 rcases h with h | ⟨b,off,rfl,hlt,h⟩
 ·exact .inl h
 ·exact .inr ⟨b,off,rfl,hlt,fun i hi=>(World.cell?_of_block (a:=⟨b,off+i,none⟩) (hb b hlt)).trans (h i hi)⟩
def Rdr (B:Nat) (w:World) (p:Nat) (xs:List Int) (sh:Bool):Prop:=∃ v,w.heap[p]?=some (.cells #[v,.bool sh] 184 (0,0))∧RowU B w v xs
theorem Rdr.kept {B p:Nat} {w w':World} {xs:List Int} {sh:Bool} (h:Rdr B w p xs sh) (hp:w'.heap[p]?=w.heap[p]?) (hb:∀ k,k<B→w'.heap[k]?=w.heap[k]?):Rdr B w' p xs sh:=by
 obtain ⟨v,h1,h2⟩:=h
 exact ⟨v,hp.trans h1,h2.kept hb⟩
theorem Rdr.lt {B p:Nat} {w:World} {xs:List Int} {sh:Bool} (h:Rdr B w p xs sh):p<w.heap.size:=by
 obtain ⟨v,h1,_⟩:=h
 exact (Array.getElem?_eq_some_iff.1 h1).1
def tkB (n:Nat) (xs:List Int):List Int:=if xs.length<n then [] else xs.take n
def tkR (n:Nat) (xs:List Int):List Int:=if xs.length<n then [] else xs.drop n
def tkS (n:Nat) (xs:List Int) (sh:Bool):Bool:=sh || decide (xs.length<n)
theorem zAs {w:World} {p:Nat} (i:Nat) (x:Value):w.grownBy (w.setCell ⟨p,i,none⟩ x) (some p) :=
 ⟨rfl,rfl,rfl,by simp,fun k _ hk=>Below.heap_setCell w ⟨p,i,none⟩ x k (fun e=>hk (by rw [e]))⟩
theorem zAk {w w1 w2:World} {r:Option Nat} (h:w.grownBy w1 r) (g:w1.grownBy w2 r):w.grownBy w2 r :=
 ⟨g.os.trans h.os,g.tape.trans h.tape,g.output.trans h.output,Nat.le_trans h.size g.size,fun k hk hn=>(g.block k (Nat.lt_of_lt_of_le hk h.size) hn).trans (h.block k hk hn)⟩
theorem grown_refl (w:World) (r:Option Nat):w.grownBy w r:=⟨rfl,rfl,rfl,Nat.le_refl _,fun _ _ _=>rfl⟩
theorem zBX {B p:Nat} {w w':World} (h:w.grownBy w' (some p)) (hB:B≤p) (hp:p<w.heap.size):∀ k,k<B→w'.heap[k]?=w.heap[k]? :=
 fun k hk=>h.block k (by omega) (by simp;omega)
theorem nth_take {xs:List Int} {n i:Nat} (h:i<n):nth (xs.take n) i=nth xs i:=by
 unfold nth;rw [List.getD_eq_getElem?_getD,List.getD_eq_getElem?_getD,List.getElem?_take_of_lt h]
theorem nth_drop {xs:List Int} {n i:Nat}:nth (xs.drop n) i=nth xs (n+i):=by
 unfold nth;rw [List.getD_eq_getElem?_getD,List.getD_eq_getElem?_getD,List.getElem?_drop]
theorem set0 {w:World} {p:Nat} {v x y:Value} {t:TypeId} (h:w.heap[p]?=some (.cells #[v,y] t (0,0))):(w.setCell ⟨p,0,none⟩ x).heap[p]?=some (.cells #[x,y] t (0,0)):=Joins.block_setCell (i:=0) h x
theorem set1 {w:World} {p:Nat} {v x y:Value} {t:TypeId} (h:w.heap[p]?=some (.cells #[v,y] t (0,0))):(w.setCell ⟨p,1,none⟩ x).heap[p]?=some (.cells #[v,x] t (0,0)):=Joins.block_setCell (i:=1) h x
theorem len_take {xs:List Int} {n:Nat} (h:n≤xs.length):(xs.take n).length=n:=by rw [List.length_take];omega
theorem row_take {B:Nat} {w:World} {a:Option Addr} {cap n:Nat} {xs:List Int} (h:RowU B w (.slice a xs.length cap) xs) (hn:n≤xs.length):RowU B w (.slice a n cap) (xs.take n):=by
 obtain ⟨a',cap',e,hc,h,hr⟩:=h
 simp only [Value.slice.injEq,true_and] at e
 obtain ⟨rfl,rfl⟩:=e
 refine ⟨a,cap,by rw [len_take hn],by rw [len_take hn];omega,?_,fun x hx=>hr x (List.mem_of_mem_take hx)⟩
 rcases h with rfl | ⟨b,off,rfl,hlt,h⟩
 ·exact .inl (by simp)
 ·refine .inr ⟨b,off,rfl,hlt,fun i hi=>?_⟩
  rw [len_take hn] at hi
  rw [nth_take hi]
  exact h i (by omega)
theorem row_drop {B:Nat} {w:World} {a:Option Addr} {cap n:Nat} {xs:List Int} (h:RowU B w (.slice a xs.length cap) xs) (hn:n≤xs.length):RowU B w (.slice (if cap=n then a else a.map (·.add n)) (xs.length - n) (cap - n)) (xs.drop n):=by
 obtain ⟨a',cap',e,hc,h,hr⟩:=h
 simp only [Value.slice.injEq,true_and] at e
 obtain ⟨rfl,rfl⟩:=e
 refine ⟨_,cap - n,by rw [List.length_drop],by rw [List.length_drop];omega,?_,fun x hx=>hr x (List.mem_of_mem_drop hx)⟩
 by_cases he:xs.length=n
 ·exact .inl (List.drop_eq_nil_of_le (by omega))
 ·rcases h with rfl | ⟨b,off,rfl,hlt,h⟩
  ·exact .inl (by simp)
  ·rw [if_neg (by omega)]
   refine .inr ⟨b,off+n,by simp [addr_add],hlt,fun i hi=>?_⟩
   rw [List.length_drop] at hi
   rw [nth_drop,Nat.add_assoc]
   exact h (n+i) (by omega)
set_option maxHeartbeats 800000 in
theorem take_any (n p B:Nat) (xs:List Int) (sh:Bool) (w:World) (h:Rdr B w p xs sh) (hB:B≤p) (hn:n≤70000) (_hx:xs.length≤70000) :
 Calls Tryz.prog 126 #[.pointer (some ⟨p,0,none⟩),.int .i64 n] w fun e w'=>∃ v',e=.returned v'∧RowU B w' v' (tkB n xs)∧Rdr B w' p (tkR n xs) (tkS n xs sh)∧w.grownBy w' (some p):=by
 have hp:=h.lt
 obtain ⟨v,h1,hu⟩:=h
 have c0:=Joins.cell_of_block h1 0
 have c1:=Joins.cell_of_block h1 1
 have f0:=Joins.unfrozen_of_block h1 0
 have f1:=Joins.unfrozen_of_block h1 1
 have HU:Hid (RowU B w v xs):=hu
 obtain ⟨a,cap,rfl,hcap,hc,hr⟩:=hu
 simp at c0 c1
 have H1:Hid (w.heap[p]?=some (.cells #[.slice a xs.length cap,.bool sh] 184 (0,0))):=h1
 clear h1 hc hr
 by_cases hlt:xs.length<n
 ·have hlt':(xs.length:Int)<(n:Int):=by omega
  have e1:Hid (tkB n xs=[]∧tkR n xs=[]∧tkS n xs sh=true):=⟨if_pos hlt,if_pos hlt,by unfold tkS;simp [hlt]⟩
  clear hlt
  go_enter Tryz.func126,Tryz.ntmps126
  go_wp2
  go_ret
  rw [e1.out.1,e1.out.2.1,e1.out.2.2]
  exact ⟨_,rfl,⟨none,0,rfl,Nat.le_refl _,.inl rfl,fun x hx=>by cases hx⟩,⟨_,set1 (set0 H1.out),none,0,rfl,Nat.le_refl _,.inl rfl,fun x hx=>by cases hx⟩,zAk (zAs _ _) (zAs _ _)⟩
 ·have hlt':(n:Int)≤(xs.length:Int):=by omega
  have e1:Hid (tkB n xs=xs.take n∧tkR n xs=xs.drop n∧tkS n xs sh=sh):=⟨if_neg hlt,if_neg hlt,by unfold tkS;simp [hlt]⟩
  have HT:Hid (RowU B w (.slice a n cap) (xs.take n)):=row_take HU.out (show n≤xs.length by omega)
  have HD:=row_drop HU.out (show n≤xs.length by omega)
  by_cases hcn:cap=n
  ·subst hcn
   rw [if_pos rfl,Nat.sub_self] at HD
   rw [show xs.length - cap=0 by omega] at HD
   have HD':Hid (RowU B w (.slice a 0 0) (xs.drop cap)):=HD
   clear hlt HD
   go_enter Tryz.func126,Tryz.ntmps126
   go_wp2
   go_ret
   rw [e1.out.1,e1.out.2.1,e1.out.2.2]
   refine ⟨_,rfl,RowU.kept HT.out (zBX (zAs _ _) hB hp),⟨_,set0 H1.out,RowU.kept HD'.out (zBX (zAs _ _) hB hp)⟩,zAs _ _⟩
  ·rw [if_neg hcn] at HD
   have HD':Hid (RowU B w (.slice (a.map (·.add n)) (xs.length - n) (cap - n)) (xs.drop n)):=HD
   clear hlt HD
   go_enter Tryz.func126,Tryz.ntmps126
   go_wp2
   go_ret
   rw [e1.out.1,e1.out.2.1,e1.out.2.2]
   refine ⟨_,rfl,RowU.kept HT.out (zBX (zAs _ _) hB hp),⟨_,set0 H1.out,RowU.kept HD'.out (zBX (zAs _ _) hB hp)⟩,zAs _ _⟩
def beN:List Int→Int:=fun xs=>xs.foldl (fun n x=>n * 256+x) 0
theorem beN_snoc (xs:List Int) (x:Int):beN (xs ++ [x])=beN xs * 256+x:=by unfold beN;rw [List.foldl_append];rfl
theorem fold_range:∀ (xs:List Int) (a:Int),(∀ x ∈ xs,0≤x∧x≤255)→0≤a→0≤xs.foldl (fun n x=>n * 256+x) a∧xs.foldl (fun n x=>n * 256+x) a<(a+1) * 256 ^ xs.length
 | [],a,_,h=>by simp;omega
 | x :: xs,a,hr,h=>by
   have hx:=hr x (by simp)
   have ih:=fold_range xs (a * 256+x) (fun y hy=>hr y (by simp [hy])) (by omega)
   refine ⟨ih.1,Int.lt_of_lt_of_le ih.2 ?_⟩
   rw [List.length_cons,Int.pow_succ,Int.mul_comm (256 ^ xs.length) 256,← Int.mul_assoc]
   exact Int.mul_le_mul_of_nonneg_right (by omega) (Int.le_of_lt (Int.pow_pos (by decide)))
theorem beN_range (xs:List Int) (h:∀ x ∈ xs,0≤x∧x≤255):0≤beN xs∧beN xs<256 ^ xs.length:=by
 have:=fold_range xs 0 h (by decide)
 unfold beN
 simpa using this
theorem take_succ_nth {xs:List Int} {k:Nat} (h:k<xs.length):xs.take (k+1)=xs.take k ++ [nth xs k]:=by
 rw [List.take_add_one,List.getElem?_eq_getElem h];simp [nth,List.getElem?_eq_getElem h]
theorem or64 (m x:Int) (h0:0≤m) (h1:m<16777216) (h2:0≤x) (h3:x≤255):bits .or .i64 (m * 256) x=m * 256+x:=by
 obtain ⟨M,rfl⟩ : ∃ M:Nat,m=M:=⟨m.toNat,by omega⟩
 obtain ⟨X,rfl⟩ : ∃ X:Nat,x=X:=⟨x.toNat,by omega⟩
 have e:bits .or .i64 ((M:Int) * 256) (X:Int)=IntKind.i64.wrap (((BitVec.ofInt 64 ((M:Int) * 256) ||| BitVec.ofInt 64 (X:Int)).toNat:Nat):Int):=rfl
 have e1:=ofInt_u64 (M * 256) (by omega)
 have e2:=ofInt_u64 X (by omega)
 have e3:((M:Int) * 256)=((M * 256:Nat):Int):=by omega
 have e4:M * 256 ||| X=M * 256+X:=by
  have:=Nat.two_pow_add_eq_or_of_lt (i:=8) (b:=X) (by omega) M
  rw [Nat.mul_comm]
  exact this.symm
 rw [e,e3,BitVec.toNat_or,e1,e2,e4,IntKind.wrap_i64]
 omega
theorem val_eq {k:IntKind} {a b:Int} (h:a=b):Value.int k a=.int k b:=by rw [h]
theorem tkB_len (n:Nat) (xs:List Int):(tkB n xs).length≤n:=by unfold tkB;split;simp;rw [List.length_take];omega
theorem tkB_range {n:Nat} {xs:List Int} (h:∀ x ∈ xs,0≤x∧x≤255):∀ x ∈ tkB n xs,0≤x∧x≤255:=by
 unfold tkB;split
 ·intro x hx;cases hx
 ·exact fun x hx=>h x (List.mem_of_mem_take hx)
theorem zAh {n:Nat} {xs:List Int} (h:∀ x ∈ xs,0≤x∧x≤255):∀ x ∈ tkR n xs,0≤x∧x≤255:=by
 unfold tkR;split
 ·intro x hx;cases hx
 ·exact fun x hx=>h x (List.mem_of_mem_drop hx)
theorem zAu (n:Nat) (xs:List Int):(tkR n xs).length≤xs.length:=by unfold tkR;split;simp;rw [List.length_drop];omega
set_option maxHeartbeats 800000 in
theorem zAg (n p B:Nat) (xs:List Int) (sh:Bool) (w:World) (h:Rdr B w p xs sh) (hB:B≤p) (hn:n≤4) (hx:xs.length≤70000) (hr:∀ x ∈ xs,0≤x∧x≤255) :
 Calls Tryz.prog 104 #[.pointer (some ⟨p,0,none⟩),.int .i64 n] w fun e w'=>e=.returned (.int .i64 (beN (tkB n xs)))∧Rdr B w' p (tkR n xs) (tkS n xs sh)∧w.grownBy w' (some p):=by
 have hp:=h.lt
 have hl4:=tkB_len n xs
 have hrg:=tkB_range (n:=n) hr
 go_enter Tryz.func104,Tryz.ntmps104
 go_wp2_with fail
 refine (take_any n p B xs sh _ h hB (by omega) hx).mono ?_
 rintro e w1 ⟨v1,rfl,u1,r1,g1⟩
 obtain ⟨ys,HY⟩ : ∃ ys,Hid (tkB n xs=ys):=⟨_,rfl⟩
 rw [HY.out] at u1 hl4 hrg
 have R1:Hid (Rdr B w1 p (tkR n xs) (tkS n xs sh)):=r1
 obtain ⟨a,cap,rfl,hcap,hc,_⟩:=u1
 clear r1 h
 go_wp2_with fail
 go_loop [5,7,12] (fun v _ i=>∃ k:Nat,k≤ys.length∧i=.int .i64 k∧v=.int .i64 (beN (ys.take k))) (fun _ _ i=>ys.length - (intOf i).toNat)
 case atStart=>exact ⟨0,by omega,rfl,rfl⟩
 case round =>
  obtain ⟨k,hk,rfl,rfl⟩:=hrel
  by_cases hlt:k<ys.length
  ·rcases hc with hc | ⟨b,off,rfl,hb,hcell⟩
   ·exact absurd hlt (by rw [hc];simp)
   have hc1:=hcell k hlt
   have hx1:=range_at hrg k
   have HM:Hid (beN (ys.take (k+1))=beN (ys.take k) * 256+nth ys k):=by show _=_;rw [take_succ_nth hlt,beN_snoc]
   have hbn:=beN_range (ys.take k) (fun x hx=>hrg x (List.mem_of_mem_take hx))
   have hb2:beN (ys.take k)<16777216:=by
    have:(256:Int) ^ (ys.take k).length≤256 ^ 3:=by
     have h3:(ys.take k).length≤3:=by rw [List.length_take];omega
     generalize (ys.take k).length=q at h3
     match q,h3 with
     | 0,_=>decide
     | 1,_=>decide
     | 2,_=>decide
     | 3,_=>decide
    have e:(256:Int) ^ 3=16777216:=rfl
    omega
   generalize beN (ys.take k)=m at hbn hb2 HM
   have hb0:=hbn.1
   clear hcell hbn
   go_wp2
   exact ⟨⟨k+1,by omega,by go_num,val_eq (by rw [or64 _ _ hb0 hb2 hx1.1 hx1.2,HM.out])⟩,by simp [intOf];omega⟩
  ·obtain rfl:k=ys.length:=by omega
   go_wp2
   go_ret
   exact ⟨by rw [HY.out];rfl,R1.out,g1⟩
def txtN (n:Nat) (xs:List Int):Nat:=(beN (tkB n xs)).toNat
def txtB (n:Nat) (xs:List Int):ByteArray:=strOfNums (tkB (txtN n xs) (tkR n xs))
def txtR (n:Nat) (xs:List Int):List Int:=tkR (txtN n xs) (tkR n xs)
def txtS (n:Nat) (xs:List Int) (sh:Bool):Bool:=tkS (txtN n xs) (tkR n xs) (tkS n xs sh)
theorem txtN_le (n:Nat) (xs:List Int) (hn:n≤2) (hr:∀ x ∈ xs,0≤x∧x≤255):txtN n xs≤65535∧beN (tkB n xs)=(txtN n xs:Int):=by
 have h1:=beN_range _ (tkB_range (n:=n) hr)
 have h2:=tkB_len n xs
 have h3:(256:Int) ^ (tkB n xs).length≤65536:=by
  generalize (tkB n xs).length=q at h2
  have h3:q≤2:=by omega
  match q,h3 with
  | 0,_=>decide
  | 1,_=>decide
  | 2,_=>decide
 unfold txtN
 omega
theorem run_convert_zero {P:Program} (w:World) (src e:TypeId) (hs:P.underlying src=some (.slice e)) (he:P.underlying e=some (.int .u8)) (a:Option Addr) (c:Nat) (dst:TypeId) (hd:P.underlying dst=some .string) :
 (convert src dst (.slice a 0 c)).run P w=.ok (.string (strOfNums [])) w:=by
 cases a with
 | none=>rw [run_convert_bytes_nil w src e hs he 0 c dst hd];rfl
 | some ad =>
   unfold convert
   simp [run_underlying hs,run_underlying he,run_underlying hd]
   rfl
theorem zBn {P:Program} (w:World) (B:Nat) (src e dst:TypeId) (hs:P.underlying src=some (.slice e)) (he:P.underlying e=some (.int .u8)) (hd:P.underlying dst=some .string)
 (v:Value) (zs:List Int) (h:RowU B w v zs):(convert src dst v).run P w=.ok (.string (strOfNums zs)) w:=by
 obtain ⟨a,cap,rfl,hc,h,_⟩:=h
 rcases h with rfl | ⟨b,off,rfl,hb,h⟩
 ·exact run_convert_zero w src e hs he a cap dst hd
 ·refine run_convert_bytes_arg w src e hs he b off zs.length cap zs rfl (fun i hi=>?_) dst hd
  exact h i hi
set_option maxHeartbeats 800000 in
theorem zAw (n p B:Nat) (xs:List Int) (sh:Bool) (w:World) (h:Rdr B w p xs sh) (hB:B≤p) (hn:n≤2) (hx:xs.length≤70000) (hr:∀ x ∈ xs,0≤x∧x≤255) :
 Calls Tryz.prog 127 #[.pointer (some ⟨p,0,none⟩),.int .i64 n] w fun e w'=>e=.returned (.string (txtB n xs))∧Rdr B w' p (txtR n xs) (txtS n xs sh)∧w.grownBy w' (some p):=by
 have hp:=h.lt
 obtain ⟨t1,t2⟩:=txtN_le n xs hn hr
 have T2:Hid (_):=t2
 clear t2
 go_enter Tryz.func127,Tryz.ntmps127
 go_wp2_with fail
 refine (zAg n p B xs sh _ h hB (by omega) hx hr).mono ?_
 rintro e w1 ⟨rfl,r1,g1⟩
 rw [T2.out]
 go_wp2_with fail
 refine (take_any (txtN n xs) p B _ _ _ r1 hB (by omega) (Nat.le_trans (zAu _ _) hx)).mono ?_
 rintro e w2 ⟨v2,rfl,u2,r2,g2⟩
 have hcv:=zBn (P:=Tryz.prog) w2 B 22 5 9 Tryz.underlying22 Tryz.underlying5 Tryz.underlying9 v2 _ u2
 clear u2 r1
 go_wp2
 go_ret
 exact ⟨rfl,r2,zAk g1 g2⟩
theorem zAA {w:World} {b:Nat} {cs:Array Value} {t:TypeId} (h:w.heap[b]?=some (.cells cs t (0,0))) (i:Nat) {x:Value} (hx:cs[i]?=some x):w.cell? ⟨b,i,none⟩=some x∧w.frozen? ⟨b,i,none⟩=false :=
 ⟨(Joins.cell_of_block h i).trans hx,Joins.unfrozen_of_block h i⟩
theorem zAE {w:World} {b:Nat} {cs:Array Value} {t:TypeId} (h:w.heap[b]?=some (.cells cs t (0,0))) (i:Nat) (x:Value):(w.setCell ⟨b,i,none⟩ x).heap[b]?=some (.cells (cs.setIfInBounds i x) t (0,0)):=Joins.block_setCell h x
theorem zAB {w:World} {b k:Nat} (hk:k ≠ b) (i:Nat) (x:Value):(w.setCell ⟨b,i,none⟩ x).heap[k]?=w.heap[k]?:=Below.heap_setCell w ⟨b,i,none⟩ x k hk
theorem rdr_set {B p b:Nat} {w:World} {xs:List Int} {sh:Bool} (h:Rdr B w p xs sh) (hb:p ≠ b) (hB:B≤b) (i:Nat) (x:Value):Rdr B (w.setCell ⟨b,i,none⟩ x) p xs sh :=
 h.kept (zAB hb i x) (fun k hk=>zAB (by omega) i x)
theorem rdr_alloc {B p:Nat} {w:World} {xs:List Int} {sh:Bool} (h:Rdr B w p xs sh) (hB:B≤p) (o:Obj):Rdr B (w.alloc o) p xs sh :=
 h.kept (Below.heap_alloc w o p h.lt) (fun k hk=>Below.heap_alloc w o k (by have:=h.lt;omega))
theorem zAK (w:World) (cs:Array Value) (t:TypeId):(w.alloc (.cells cs t)).heap[w.heap.size]?=some (.cells cs t (0,0)):=heap_alloc_new w _
theorem zAv {w w':World} {p b:Nat} {o:Obj} (h:w.heap[b]?=some o) (hg:w.grownBy w' (some p)) (hb:b ≠ p):w'.heap[b]?=some o :=
 (hg.block b (Array.getElem?_eq_some_iff.1 h).1 (by simpa using hb)).trans h
theorem zAZ {w w':World} {p b:Nat} (h:w.grownBy w' (some p)) (hb:w.heap.size≤b) (i:Nat) (x:Value):w.grownBy (w'.setCell ⟨b,i,none⟩ x) (some p) :=
 ⟨h.os,h.tape,h.output,by simpa using h.size,fun k hk hn=>(zAB (by omega) i x).trans (h.block k hk hn)⟩
theorem zBP {w w':World} {r:Option Nat} (h:w.grownBy w' r) (o:Obj):w.grownBy (w'.alloc o) r :=
 ⟨h.os,h.tape,h.output,Nat.le_trans h.size (by simp),fun k hk hn=>(Below.heap_alloc w' o k (Nat.lt_of_lt_of_le hk h.size)).trans (h.block k hk hn)⟩
theorem txtR_range {n:Nat} {xs:List Int} (h:∀ x ∈ xs,0≤x∧x≤255):∀ x ∈ txtR n xs,0≤x∧x≤255:=zAh (zAh h)
theorem txtR_len (n:Nat) (xs:List Int):(txtR n xs).length≤xs.length:=Nat.le_trans (zAu _ _) (zAu _ _)
end Go.Proofs.YtakfniknkejgpaaGreatDoor.Rr
namespace Go.Proofs.YtakfniknkejgpaaGreatDoor.Mw
open Go.RowKit Sl By Ap Tx Tb Tw
structure Mid (B C:Nat) (w w':World):Prop where
 os:w'.os=w.os
 tape:w'.tape=w.tape
 output:w'.output=w.output
 size:w.heap.size≤w'.heap.size
 block:∀ k,k<w.heap.size→(k<B ∨ C≤k)→w'.heap[k]?=w.heap[k]?
theorem Mid.trans {B C:Nat} {w w1 w2:World} (h:Mid B C w w1) (g:Mid B C w1 w2):Mid B C w w2 :=
 ⟨g.os.trans h.os,g.tape.trans h.tape,g.output.trans h.output,Nat.le_trans h.size g.size,fun k hk hn=>(g.block k (Nat.lt_of_lt_of_le hk h.size) hn).trans (h.block k hk hn)⟩
theorem Mid.below {B C:Nat} {w w1:World} (h:Mid B C w w1) (hB:B≤w.heap.size):Below B w w1:=⟨h.os,h.tape,h.output,h.size,fun k hk=>h.block k (Nat.lt_of_lt_of_le hk hB) (.inl hk)⟩
def Wr (w:World) (g n:Nat):Prop:=∃ A t,w.heap[g]?=some (.cells A t (0,0))∧n≤A.size
theorem Wr.lt {w:World} {g n:Nat} (h:Wr w g n):g<w.heap.size:=by obtain ⟨A,t,h,_⟩:=h;exact (Array.getElem?_eq_some_iff.1 h).1
theorem Wr.below {w w':World} {g n:Nat} (h:Wr w g n) (hb:Below w.heap.size w w'):Wr w' g n:=by
 obtain ⟨A,t,h,hn⟩:=h
 exact ⟨A,t,(hb.block g (Array.getElem?_eq_some_iff.1 h).1).trans h,hn⟩
theorem Wr.cell {w:World} {g n:Nat} (h:Wr w g n) {j:Nat} (hj:j<n):(∃ x,w.cell? ⟨g,j,none⟩=some x)∧w.frozen? ⟨g,j,none⟩=false:=by
 obtain ⟨A,t,h,hn⟩:=h
 obtain ⟨c,f⟩:=zAA h j (x:=A[j]'(by omega)) (Array.getElem?_eq_getElem (by omega))
 exact ⟨⟨_,c⟩,f⟩
def Kw (w w':World):Prop:=∀ g n,Wr w g n→Wr w' g n
theorem Kw.trans {w w1 w2:World} (h:Kw w w1) (g:Kw w1 w2):Kw w w2:=fun a n x=>g a n (h a n x)
def WrL (B C:Nat) (w:World) (g:Nat) (ns:List Nat):Prop:=Wr w g (ns.length * 5)∧∀ (j m:Nat),ns[j]?=some m→∃ h,w.cell? ⟨g,j * 5+4,none⟩=some (.slice (some ⟨h,0,none⟩) m m)∧B≤h∧h<C∧h ≠ g∧Wr w h (m * 2)
theorem WrL.below {B C:Nat} {w w':World} {g:Nat} {ns:List Nat} (h:WrL B C w g ns) (hb:Below w.heap.size w w'):WrL B C w' g ns :=
 ⟨h.1.below hb,fun j m hj=>by
   obtain ⟨q,h1,h2,h3,h4,h5⟩:=h.2 j m hj
   exact ⟨q,(hb.cell (p:=⟨g,_,none⟩) h.1.lt).trans h1,h2,h3,h4,h5.below hb⟩⟩
def TabW (B C:Nat) (w:World) (gl gs:Nat) (ls:List Lk) (ss:List Sn):Prop:=(B≤gl∧gl<C∧B≤gs∧gs<C)∧WrL B C w gl (ls.map fun x=>x.ws.length)∧Wr w gs (ss.length * 6)
theorem TabW.below {B C:Nat} {w w':World} {gl gs:Nat} {ls:List Lk} {ss:List Sn} (h:TabW B C w gl gs ls ss) (hb:Below w.heap.size w w'):TabW B C w' gl gs ls ss:=⟨h.1,h.2.1.below hb,h.2.2.below hb⟩
end Go.Proofs.YtakfniknkejgpaaGreatDoor.Mw
