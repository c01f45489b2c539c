/- Texts put together: Hta, Hii, Hts. -/
import Derived.Test.YtakfniknkejgpaaGreatDoorMi28
namespace Go.Proofs.YtakfniknkejgpaaGreatDoor.Ht
open Go.RowKit Sl By Ap Rr Tb Tw Tp Pu Pt Ur Rq
theorem tk_yes {n:Nat} {xs:List Int} (h:n≤xs.length):tkB n xs=xs.take n∧tkR n xs=xs.drop n∧∀ sh,tkS n xs sh=sh:=by
 unfold tkB tkR tkS
 rw [if_neg (by omega),if_neg (by omega),decide_eq_false (by omega)]
 exact ⟨rfl,rfl,fun sh=>by simp⟩
theorem tk_app {n:Nat} {a b:List Int} (h:a.length=n):tkB n (a ++ b)=a∧tkR n (a ++ b)=b∧∀ sh,tkS n (a ++ b) sh=sh:=by
 obtain ⟨h1,h2,h3⟩:=tk_yes (n:=n) (xs:=a ++ b) (by rw [List.length_append];omega)
 refine ⟨?_,?_,h3⟩
 ·rw [h1,List.take_append_of_le_length (by omega),List.take_of_length_le (by omega)]
 ·rw [h2,List.drop_append_of_le_length (by omega),List.drop_eq_nil_of_le (by omega)];rfl
theorem be1 {x:Int} (h0:0≤x) (h1:x≤255):beN (nums x 1 1)=x:=by
 have e:nums x 1 1=[nb x 0]:=rfl
 rw [e]
 have e0:nb x 0=x:=by show x / 1 % 256=x;omega
 simp [beN,e0]
theorem be2 {x:Int} (h0:0≤x) (h1:x≤65535):beN (nums x 2 2)=x:=by
 have e:nums x 2 2=[nb x 1,nb x 0]:=rfl
 rw [e]
 have e0:nb x 0=x % 256:=by show x / 1 % 256=_;omega
 have e1:nb x 1=x / 256 % 256:=rfl
 simp [beN,e0,e1]
 omega
theorem be3 {x:Int} (h0:0≤x) (h1:x≤16777215):beN (nums x 3 3)=x:=by
 have e:nums x 3 3=[nb x 2,nb x 1,nb x 0]:=rfl
 rw [e]
 have e0:nb x 0=x % 256:=by show x / 1 % 256=_;omega
 have e1:nb x 1=x / 256 % 256:=rfl
 have e2:nb x 2=x / 65536 % 256:=rfl
 simp [beN,e0,e1,e2]
 omega
theorem be4 {x:Int} (h0:0≤x) (h1:x≤4294967295):beN (nums x 4 4)=x:=by
 have e:nums x 4 4=[nb x 3,nb x 2,nb x 1,nb x 0]:=rfl
 rw [e]
 have e0:nb x 0=x % 256:=by show x / 1 % 256=_;omega
 have e1:nb x 1=x / 256 % 256:=rfl
 have e2:nb x 2=x / 65536 % 256:=rfl
 have e3:nb x 3=x / 16777216 % 256:=rfl
 simp [beN,e0,e1,e2,e3]
 omega
theorem str_bys (s:ByteArray):strOfNums (bys s)=s:=by
 apply ByteArray.ext
 apply Array.ext'
 rw [strOfNums_data]
 unfold bys
 rw [List.map_map]
 conv=>rhs;rw [← List.map_id s.data.toList]
 apply List.map_congr_left
 intro b _
 simp
theorem txt_app {n:Nat} {s:ByteArray} {rest:List Int} (h:beN (nums (s.size:Int) n n)=(s.size:Int)) :
 txtB n (nums (s.size:Int) n n ++ (bys s ++ rest))=s∧txtR n (nums (s.size:Int) n n ++ (bys s ++ rest))=rest∧∀ sh,txtS n (nums (s.size:Int) n n ++ (bys s ++ rest)) sh=sh:=by
 obtain ⟨a1,a2,a3⟩:=tk_app (n:=n) (a:=nums (s.size:Int) n n) (b:=bys s ++ rest) (nums_length _ _ _)
 obtain ⟨b1,b2,b3⟩:=tk_app (n:=s.size) (a:=bys s) (b:=rest) (zAV _)
 have en:txtN n (nums (s.size:Int) n n ++ (bys s ++ rest))=s.size:=by unfold txtN;rw [a1,h];rfl
 unfold txtB txtR txtS
 rw [en,a2,b1,b2,str_bys]
 refine ⟨rfl,rfl,fun sh=>?_⟩
 rw [a3,b3]
theorem zBc {n:Nat} {x:Int} {rest:List Int} (h:beN (nums x n n)=x):nv n (nums x n n ++ rest)=x∧tkR n (nums x n n ++ rest)=rest∧∀ sh,tkS n (nums x n n ++ rest) sh=sh:=by
 obtain ⟨a1,a2,a3⟩:=tk_app (n:=n) (a:=nums x n n) (b:=rest) (nums_length _ _ _)
 refine ⟨?_,a2,a3⟩
 unfold nv;rw [a1,h]
theorem it_back {α:Type} {f:List Int→List Int} {o:List Int→α} {g:List Int→Bool→Bool} {bs:α→List Int} {P:α→Prop}
 (hb:∀ x,P x→∀ rest,o (bs x ++ rest)=x∧f (bs x ++ rest)=rest∧∀ sh,g (bs x ++ rest) sh=sh) (xs:List α) (hP:∀ x ∈ xs,P x) (rest:List Int) :
 ∀ k,k≤xs.length→itL f o k (xs.flatMap bs ++ rest)=xs.take k∧itR f k (xs.flatMap bs ++ rest)=(xs.drop k).flatMap bs ++ rest∧∀ sh,itS f g k (xs.flatMap bs ++ rest) sh=sh
 | 0,_=>⟨rfl,rfl,fun _=>rfl⟩
 | k+1,hk=>by
   obtain ⟨i1,i2,i3⟩:=it_back hb xs hP rest k (by omega)
   have hx:xs[k]?=some xs[k]:=List.getElem?_eq_getElem (by omega)
   have hd:xs.drop k=xs[k] :: xs.drop (k+1):=(List.drop_eq_getElem_cons (by omega))
   have hcat:(xs.drop k).flatMap bs ++ rest=bs xs[k] ++ ((xs.drop (k+1)).flatMap bs ++ rest):=by rw [hd,List.flatMap_cons,List.append_assoc]
   obtain ⟨h1,h2,h3⟩:=hb xs[k] (hP _ (List.getElem_mem _)) ((xs.drop (k+1)).flatMap bs ++ rest)
   refine ⟨?_,?_,fun sh=>?_⟩
   ·show itL f o k _ ++ [o (itR f k _)]=_
    rw [i1,i2,hcat,h1,List.take_add_one,hx]
    rfl
   ·show f (itR f k _)=_
    rw [i2,hcat,h2]
   ·show g (itR f k _) (itS f g k _ sh)=_
    rw [i2,hcat,h3,i3]
theorem it_all {α:Type} {f:List Int→List Int} {o:List Int→α} {g:List Int→Bool→Bool} {bs:α→List Int} {P:α→Prop}
 (hb:∀ x,P x→∀ rest,o (bs x ++ rest)=x∧f (bs x ++ rest)=rest∧∀ sh,g (bs x ++ rest) sh=sh) (xs:List α) (hP:∀ x ∈ xs,P x) (rest:List Int) :
 itL f o xs.length (xs.flatMap bs ++ rest)=xs∧itR f xs.length (xs.flatMap bs ++ rest)=rest∧∀ sh,itS f g xs.length (xs.flatMap bs ++ rest) sh=sh:=by
 obtain ⟨h1,h2,h3⟩:=it_back hb xs hP rest xs.length (Nat.le_refl _)
 refine ⟨by rw [h1,List.take_length],by rw [h2,List.drop_length];rfl,h3⟩
def WtP (x:Wt):Prop:=0≤x.c∧x.c≤255∧0≤x.l∧x.l≤65535
theorem wt_back (x:Wt) (h:WtP x) (rest:List Int):wtO (wtBs x ++ rest)=x∧wtR (wtBs x ++ rest)=rest∧∀ sh,wtS (wtBs x ++ rest) sh=sh:=by
 obtain ⟨h1,h2,h3,h4⟩:=h
 unfold wtBs
 rw [List.append_assoc]
 obtain ⟨a1,a2,a3⟩:=zBc (n:=1) (rest:=nums x.l 2 2 ++ rest) (be1 h1 h2)
 obtain ⟨b1,b2,b3⟩:=zBc (n:=2) (rest:=rest) (be2 h3 h4)
 unfold wtO wtR wtS
 rw [a2,a1,b1,b2]
 exact ⟨rfl,rfl,fun sh=>by rw [a3,b3]⟩
def LkP (x:Lk):Prop:=x.n.size≤255∧(0≤x.t∧x.t≤16777215)∧(0≤x.h+1∧x.h+1≤65535)∧(0≤x.e∧x.e≤4294967295)∧x.ws.length≤255∧∀ y ∈ x.ws,WtP y
theorem cnt_app {k:Nat} {rest:List Int} (h:k≤255):cnt (nums (k:Int) 1 1 ++ rest)=k:=by
 unfold cnt
 rw [(zBc (n:=1) (rest:=rest) (be1 (x:=(k:Int)) (by omega) (by omega))).1]
 rfl
theorem lk_back (x:Lk) (h:LkP x) (rest:List Int):lkO (lkBs x ++ rest)=x∧lkR (lkBs x ++ rest)=rest∧∀ sh,lkS (lkBs x ++ rest) sh=sh:=by
 obtain ⟨h1,⟨h2,h3⟩,⟨h4,h5⟩,⟨h6,h7⟩,h8,h9⟩:=h
 unfold lkBs
 simp only [List.append_assoc]
 obtain ⟨a1,a2,a3⟩:=txt_app (n:=1) (s:=x.n) (rest:=nums x.t 3 3 ++ (nums (x.h+1) 2 2 ++ (nums x.e 4 4 ++ (nums (x.ws.length:Int) 1 1 ++ (wsBs x.ws ++ rest))))) (be1 (by omega) (by omega))
 obtain ⟨b1,b2,b3⟩:=zBc (n:=3) (rest:=nums (x.h+1) 2 2 ++ (nums x.e 4 4 ++ (nums (x.ws.length:Int) 1 1 ++ (wsBs x.ws ++ rest)))) (be3 h2 h3)
 obtain ⟨c1,c2,c3⟩:=zBc (n:=2) (rest:=nums x.e 4 4 ++ (nums (x.ws.length:Int) 1 1 ++ (wsBs x.ws ++ rest))) (be2 h4 h5)
 obtain ⟨d1,d2,d3⟩:=zBc (n:=4) (rest:=nums (x.ws.length:Int) 1 1 ++ (wsBs x.ws ++ rest)) (be4 h6 h7)
 obtain ⟨e1,e2,e3⟩:=zBc (n:=1) (x:=(x.ws.length:Int)) (rest:=wsBs x.ws ++ rest) (be1 (by omega) (by omega))
 obtain ⟨f1,f2,f3⟩:=it_all wt_back x.ws h9 rest
 unfold lkO lkR lkS lkS3 lk3
 rw [a2,b2,c2,d2,cnt_app h8,e2,a1,b1,c1,d1]
 unfold wsBs
 unfold wsBs at e3 d3 c3 b3 a3
 rw [f1,f2]
 refine ⟨?_,rfl,fun sh=>?_⟩
 ·rw [show x.h+1 - 1=x.h by omega]
 ·rw [f3,e3,d3,c3,b3,a3]
def SnP (x:Sn):Prop:=(0≤x.c∧x.c≤255)∧(0≤x.s∧x.s≤65535)∧(0≤x.k∧x.k≤255)∧(0≤x.t∧x.t≤16777215)∧(0≤x.h+1∧x.h+1≤65535)∧(0≤x.e∧x.e≤4294967295)
theorem sn_back (x:Sn) (h:SnP x) (rest:List Int):snO (snBs x ++ rest)=x∧snR (snBs x ++ rest)=rest∧∀ sh,snS (snBs x ++ rest) sh=sh:=by
 obtain ⟨⟨h1,h2⟩,⟨h3,h4⟩,⟨h5,h6⟩,⟨h7,h8⟩,⟨h9,h10⟩,⟨h11,h12⟩⟩:=h
 unfold snBs
 simp only [List.append_assoc]
 obtain ⟨a1,a2,a3⟩:=zBc (n:=1) (rest:=nums x.s 2 2 ++ (nums x.k 1 1 ++ (nums x.t 3 3 ++ (nums (x.h+1) 2 2 ++ (nums x.e 4 4 ++ rest))))) (be1 h1 h2)
 obtain ⟨b1,b2,b3⟩:=zBc (n:=2) (rest:=nums x.k 1 1 ++ (nums x.t 3 3 ++ (nums (x.h+1) 2 2 ++ (nums x.e 4 4 ++ rest)))) (be2 h3 h4)
 obtain ⟨c1,c2,c3⟩:=zBc (n:=1) (rest:=nums x.t 3 3 ++ (nums (x.h+1) 2 2 ++ (nums x.e 4 4 ++ rest))) (be1 h5 h6)
 obtain ⟨d1,d2,d3⟩:=zBc (n:=3) (rest:=nums (x.h+1) 2 2 ++ (nums x.e 4 4 ++ rest)) (be3 h7 h8)
 obtain ⟨e1,e2,e3⟩:=zBc (n:=2) (rest:=nums x.e 4 4 ++ rest) (be2 h9 h10)
 obtain ⟨f1,f2,f3⟩:=zBc (n:=4) (rest:=rest) (be4 h11 h12)
 unfold snO snR snS sn5
 rw [a2,b2,c2,d2,e2,f2,a1,b1,c1,d1,e1,f1]
 refine ⟨?_,rfl,fun sh=>?_⟩
 ·rw [show x.h+1 - 1=x.h by omega]
 ·rw [a3,b3,c3,d3,e3,f3]
theorem in_of {x a b:Int} (h:inB x a b=true):a≤x∧x≤b:=of_decide_eq_true h
theorem ls_p {nx:Int} {ls:List Lk} (h:LsOK nx ls) (hn:nx≤1000000):∀ x ∈ ls,LkP x:=by
 intro x hx
 obtain ⟨i,hi,rfl⟩:=List.mem_iff_getElem.1 hx
 obtain ⟨_,g2,g3,g4⟩:=h i _ (List.getElem?_eq_getElem hi)
 have hs:=op_size g2
 have ht:=in_of g3
 refine ⟨by omega,by omega,?_⟩
 rcases g4 with ⟨g,e,k⟩ | ⟨_,g,e,k,ws⟩
 ·refine ⟨by omega,by omega,by omega,fun y hy=>?_⟩
  have:=List.length_eq_zero_iff.1 k
  rw [this] at hy
  cases hy
 ·have h1:=in_of g
  have h2:=in_of e
  refine ⟨by omega,by omega,by omega,fun y hy=>?_⟩
  obtain ⟨j,hj,rfl⟩:=List.mem_iff_getElem.1 hy
  obtain ⟨w1,w2,_⟩:=ws j _ (List.getElem?_eq_getElem hj)
  have h3:=in_of w1
  have h4:=in_of w2
  exact ⟨h3.1,h3.2,by omega,by omega⟩
theorem ss_p:∀ (ss:List Sn),SsOK ss→∀ x ∈ ss,SnP x:=by
 intro ss h
 have hp:∀ i (x:Sn),ss[i]?=some x→0≤pc ss i:=by
  intro i
  induction i with
  | zero=>intro x _;show (0:Int)≤0;exact Int.le_refl _
  | succ k ih =>
    intro x hx
    have hk:k<ss.length:=by have:=(List.getElem?_eq_some_iff.1 hx).1;omega
    have hy:=List.getElem?_eq_getElem hk
    have h0:=ih _ hy
    obtain ⟨g1,_⟩:=h k _ hy
    have:=in_of g1
    rw [pc_succ hy]
    omega
 intro x hx
 obtain ⟨i,hi,rfl⟩:=List.mem_iff_getElem.1 hx
 have hg:=List.getElem?_eq_getElem hi
 obtain ⟨g1,g2,g3,g4,g5,g6⟩:=h i _ hg
 have h0:=hp i _ hg
 have h1:=in_of g1
 have h2:=in_of g2
 have h3:=in_of g3
 have h4:=in_of g4
 have h5:=in_of g5
 have h6:=in_of g6
 exact ⟨by omega,by omega,by omega,by omega,by omega,by omega⟩
theorem tab_back (t:Tab) (h:TOK t):tbO (tabB t)=t∧tbR (tabB t)=[]∧∀ sh,tbS (tabB t) sh=sh:=by
 obtain ⟨h1,h2,h3,h4,h5,h6⟩:=h
 have i1:=in_of h1
 have i2:=in_of h2
 unfold tabB zBO
 obtain ⟨a1,a2,a3⟩:=zBc (n:=4) (rest:=nums t.nx 3 3 ++ (nums (t.ls.length:Int) 1 1 ++ (lsBs t.ls ++ (nums (t.ss.length:Int) 1 1 ++ ssBs t.ss)))) (be4 (x:=t.tm) (by omega) (by omega))
 obtain ⟨b1,b2,b3⟩:=zBc (n:=3) (rest:=nums (t.ls.length:Int) 1 1 ++ (lsBs t.ls ++ (nums (t.ss.length:Int) 1 1 ++ ssBs t.ss))) (be3 (x:=t.nx) (by omega) (by omega))
 obtain ⟨c1,c2,c3⟩:=zBc (n:=1) (x:=(t.ls.length:Int)) (rest:=lsBs t.ls ++ (nums (t.ss.length:Int) 1 1 ++ ssBs t.ss)) (be1 (by omega) (by omega))
 obtain ⟨d1,d2,d3⟩:=it_all lk_back t.ls (ls_p h4 i2.2) (nums (t.ss.length:Int) 1 1 ++ ssBs t.ss)
 obtain ⟨e1,e2,e3⟩:=zBc (n:=1) (x:=(t.ss.length:Int)) (rest:=ssBs t.ss) (be1 (by omega) (by omega))
 obtain ⟨f1,f2,f3⟩:=it_all sn_back t.ss (ss_p t.ss h6) []
 rw [List.append_nil] at f1 f2 f3
 have C1:cnt (nums (t.ls.length:Int) 1 1 ++ (lsBs t.ls ++ (nums (t.ss.length:Int) 1 1 ++ ssBs t.ss)))=t.ls.length:=cnt_app (by omega)
 have C2:cnt (nums (t.ss.length:Int) 1 1 ++ ssBs t.ss)=t.ss.length:=cnt_app (by omega)
 have E2:tb2 (nums t.tm 4 4 ++ (nums t.nx 3 3 ++ (nums (t.ls.length:Int) 1 1 ++ (lsBs t.ls ++ (nums (t.ss.length:Int) 1 1 ++ ssBs t.ss)))))=nums (t.ls.length:Int) 1 1 ++ (lsBs t.ls ++ (nums (t.ss.length:Int) 1 1 ++ ssBs t.ss)):=by unfold tb2;rw [a2,b2]
 have EA:tbA (nums t.tm 4 4 ++ (nums t.nx 3 3 ++ (nums (t.ls.length:Int) 1 1 ++ (lsBs t.ls ++ (nums (t.ss.length:Int) 1 1 ++ ssBs t.ss)))))=lsBs t.ls ++ (nums (t.ss.length:Int) 1 1 ++ ssBs t.ss):=by unfold tbA;rw [E2,c2]
 have EB:tbB (nums t.tm 4 4 ++ (nums t.nx 3 3 ++ (nums (t.ls.length:Int) 1 1 ++ (lsBs t.ls ++ (nums (t.ss.length:Int) 1 1 ++ ssBs t.ss)))))=nums (t.ss.length:Int) 1 1 ++ ssBs t.ss:=by unfold tbB;rw [E2,EA,C1];exact d2
 have EC:tbC (nums t.tm 4 4 ++ (nums t.nx 3 3 ++ (nums (t.ls.length:Int) 1 1 ++ (lsBs t.ls ++ (nums (t.ss.length:Int) 1 1 ++ ssBs t.ss)))))=ssBs t.ss:=by unfold tbC;rw [EB,e2]
 unfold tbO tbR tbS tbS2 tbS1
 rw [E2,EA,EB,EC,C1,C2,a1,a2,b1]
 unfold ssBs lsBs at *
 rw [d1,f1,f2]
 exact ⟨rfl,rfl,fun sh=>by rw [f3,e3,d3,c3,b3,a3]⟩
theorem rt_back (t:Tab) (h:TOK t):rtC (tabB t)=0∧rtT (tabB t)=t:=by
 obtain ⟨h1,h2,h3⟩:=tab_back t h
 have hl:=tab_len t h
 have hok:rtOK (tabB t)=true:=by
  unfold rtOK
  rw [h1,h2,h3,zAY h]
  rfl
 have hc:rtC (tabB t)=0:=by unfold rtC;rw [if_neg (by omega),hok];rfl
 exact ⟨hc,by unfold rtT;rw [hc,if_pos rfl,h1]⟩
end Go.Proofs.YtakfniknkejgpaaGreatDoor.Ht
namespace Go.Proofs.YtakfniknkejgpaaGreatDoor.Hii
open Go.RowKit Sl By Ap Tx
open Ho (cat catS bys_catS)
open Xp (hsh hsTo chk okT)
open Xl (pfC fbC fb_go itC itT)
open Tb (Tab Lk Sn)
open Tp (TOK bOf)
open Gt (Vo)
theorem catS_data (ts:List ByteArray):(catS ts).data.toList=ts.flatMap fun t=>t.data.toList:=by unfold catS;simp
theorem flat_len:∀ (ts:List ByteArray),(∀ t ∈ ts,t.size=32)→(ts.flatMap fun t=>t.data.toList).length=32 * ts.length
 | [],_=>rfl
 | t :: ts,h=>by
   have h1:t.data.toList.length=32:=by have:=h t (List.mem_cons_self ..);simpa using this
   rw [List.flatMap_cons,List.length_append,flat_len ts (fun x hx=>h x (List.mem_cons_of_mem _ hx)),h1,List.length_cons]
   omega
theorem flat_at:∀ (ts:List ByteArray) (k:Nat) (t:ByteArray),(∀ t ∈ ts,t.size=32)→ts[k]?=some t→((ts.flatMap fun t=>t.data.toList).drop (32 * k)).take 32=t.data.toList
 | [],k,t,_,h=>by simp at h
 | x :: ts,0,t,hs,h=>by
   have h1:x.data.toList.length=32:=by have:=hs x (List.mem_cons_self ..);simpa using this
   simp at h
   subst h
   rw [List.flatMap_cons,Nat.mul_zero,List.drop_zero,List.take_append_of_le_length (by omega),List.take_of_length_le (by omega)]
 | x :: ts,k+1,t,hs,h=>by
   have h1:x.data.toList.length=32:=by have:=hs x (List.mem_cons_self ..);simpa using this
   rw [List.flatMap_cons,show 32 * (k+1)=x.data.toList.length+32 * k by omega,List.drop_append,List.drop_eq_nil_of_le (by omega),List.nil_append,show x.data.toList.length+32 * k - x.data.toList.length=32 * k by omega]
   exact flat_at ts k t (fun y hy=>hs y (List.mem_cons_of_mem _ hy)) (by simpa using h)
theorem catS_size (ts:List ByteArray) (h:∀ t ∈ ts,t.size=32):(catS ts).size=32 * ts.length:=by
 have:=flat_len ts h
 rw [← catS_data] at this
 simpa using this
theorem chk_cat (ts:List ByteArray) (h:∀ t ∈ ts,t.size=32):chk (catS ts)=ts:=by
 unfold chk hsTo
 rw [catS_size ts h,Nat.mul_div_cancel_left _ (by decide)]
 apply List.ext_getElem?
 intro k
 rw [List.getElem?_map]
 rcases Nat.lt_or_ge k ts.length with hk | hk
 ·rw [List.getElem?_range hk]
  have h1:ts[k]?=some ts[k]:=List.getElem?_eq_getElem hk
  rw [h1]
  simp only [Option.map_some]
  congr 1
  have h2:=flat_at ts k _ h h1
  have h3:(hsh (catS ts) k).data.toList=ts[k].data.toList:=by
   unfold hsh
   rw [← h2,← catS_data,ByteArray.data_extract,Array.toList_extract,List.extract_eq_take_drop]
   congr 1
   omega
  exact ByteArray.ext (Array.toList_inj.1 h3)
 ·rw [List.getElem?_eq_none (by rw [List.length_range];exact hk),List.getElem?_eq_none hk]
  rfl
theorem szs:∀ n,n<65→∀ k,k<n→Pw.szP 64 k n≤20:=by decide
def pcs (T:Tab):List ByteArray:=Pg.cutL (Ht.tabB T)
def rtO (T:Tab):ByteArray:=Py.zAy 64 (pcs T)
def vts (sq:Int) (T:Tab) (a b c:Int):List Vo:=[Xo.vtOf sq (pcs T).length (rtO T) a,Xo.vtOf sq (pcs T).length (rtO T) b,Xo.vtOf sq (pcs T).length (rtO T) c]
theorem pf_zero {ts:List ByteArray} (h64:ts.length≤64) (hz:∀ t ∈ ts,t.size≤32) {rt:ByteArray} (hck:∀ k,k<ts.length→Pw.ckC rt (tnth ts k) (k:Int) (ts.length:Int) (Py.zAr 64 ts k)=0) {k:Nat} (hk:k<ts.length) :
 pfC rt (tnth ts k) (k:Int) (ts.length:Int) (Py.prT ts k)=0:=by
 have hs:=Py.zCR 64 ts k hk h64 hz
 have hl:=(Hp.path_ok 64 ts k hk h64 hz).1
 have h20:=szs ts.length (by omega) k hk
 have hsz:=catS_size _ hs
 unfold pfC
 rw [if_pos]
 ·show Pw.ckC _ _ _ _ (chk (catS (Py.zAr 64 ts k)))=0
  rw [chk_cat _ hs]
  exact hck k hk
 ·show okT (catS (Py.zAr 64 ts k))=true
  unfold okT
  rw [decide_eq_true_eq,hsz,hl]
  omega
theorem prTo_nth {ts:List ByteArray} {k m:Nat} (h:k<m):tnth (Py.prTo ts m) k=Py.prT ts k:=by
 unfold tnth Py.prTo
 rw [List.getD_eq_getElem?_getD,List.getElem?_map,List.getElem?_range h]
 rfl
structure Ins (sq:Int) (T:Tab) (a b c:Int):Prop where
 ms:Xo.msC 4 sq T.tm T.nx T.ls T.ss [a,b,c]=0∧Xo.msQ 4 sq T.tm T.nx T.ls T.ss [a,b,c]=sq∧Xo.msZ 4 sq T.tm T.nx T.ls T.ss [a,b,c]=(pcs T).length∧Xo.msR 4 sq T.tm T.nx T.ls T.ss [a,b,c]=rtO T∧Xo.msL 4 sq T.tm T.nx T.ls T.ss [a,b,c]=vts sq T a b c
 st:Xs.stB 4 sq (pcs T).length (rtO T) (vts sq T a b c)=true
 pc:Pf.pcC (pcs T)=0∧Pg.cutC (Ht.tabB T)=0
 po:(Py.poL (pcs T)).length=(pcs T).length∧(∀ t ∈ Py.poL (pcs T),t.size≤1048576)
 ln:1≤(pcs T).length∧(pcs T).length≤64
 vm:Xv.vmCode a sq (pcs T).length (rtO T)=0∧Xv.vmOut a sq (pcs T).length (rtO T)=(Xo.vtOf sq (pcs T).length (rtO T) a).m
 rt:(rtO T).size=32
 it:itC 4 sq (pcs T).length (rtO T) (vts sq T a b c) (pcs T) (Py.poL (pcs T))=0∧itT 4 sq (pcs T).length (rtO T) (vts sq T a b c) (pcs T) (Py.poL (pcs T))=T
 no:itC 4 sq (pcs T).length (rtO T) ((vts sq T a b c).take 2) (pcs T) (Py.poL (pcs T))=12
theorem ins_ok {T:Tab} (hT:TOK T) {sq:Int} (h0:0≤sq) (h1:sq≤65535) {a b c:Int} (ha:0≤a) (hab:a<b) (hbc:b<c) (hc:c≤3):Ins sq T a b c:=by
 obtain ⟨p1,p2,p3,p4,p5,p6,p7,p8⟩:=Hp.pieces_ok (xs:=Ht.tabB T) (Ht.tabB_range T) (by unfold Ht.tabB Pt.zBO;simp only [List.length_append,Pu.nums_length];omega) (by have:=Ht.tab_len T hT;omega)
 have hcut:=(Pg.cut_ok (xs:=Ht.tabB T) (by have:=Ht.tab_len T hT;omega)).2
 have hP:=Pf.pcC_get p2
 have eL:Xo.tL T.tm T.nx T.ls T.ss=pcs T:=by unfold pcs;rw [hcut];rfl
 have eN:Xo.tN T.tm T.nx T.ls T.ss=(pcs T).length:=by rw [← Xo.tL_len,eL]
 have eR:Xo.tR T.tm T.nx T.ls T.ss=rtO T:=by unfold Xo.tR rtO;rw [eL]
 have hp4:1≤(pcs T).length∧(pcs T).length≤64:=p4
 have hrt:(rtO T).size=32:=p7
 have hf4:Tm.zAz 4=0:=by decide
 have hvok:Xv.vok sq (pcs T).length (rtO T)=true:=by
  unfold Xv.vok Rm.inR
  rw [hrt]
  simp
  omega
 have hq:Xq.qvB 4 [a,b,c]=true:=by
  refine Xq.qv_iff.2 ⟨hf4,rfl,fun x hx=>?_,fun j x y hj hx hy=>?_⟩
  ·refine Xq.okN_iff.2 ⟨hf4,?_⟩
   simp at hx
   omega
  ·have hj2:j=0 ∨ j=1:=by simp at hj;omega
   rcases hj2 with rfl | rfl <;> simp at hx hy <;> omega
 have hms:Xo.msC 4 sq T.tm T.nx T.ls T.ss [a,b,c]=0:=by
  unfold Xo.msC
  rw [if_neg (by simp),if_pos ⟨hf4,by unfold Rm.inR;simp;omega⟩,if_pos (by unfold bOf;exact @decide_eq_true _ (Classical.propDecidable _) hT),if_pos hq]
 have hM:=Xo.ms_yes hms
 rw [eN,eR] at hM
 have hst:Xs.stB 4 sq (pcs T).length (rtO T) (vts sq T a b c)=true:=by
  refine Xs.st_yes hvok hq (fun j x hj hx=>?_)
  have:x ∈ vts sq T a b c:=List.mem_of_getElem? hx
  simp only [vts,List.mem_cons,List.not_mem_nil,or_false] at this
  rcases this with rfl | rfl | rfl <;> rfl
 have hpo:Py.poL (pcs T)=Py.prTo (pcs T) (pcs T).length:=by unfold Py.poL;exact if_pos p2
 have hlen:(Py.poL (pcs T)).length=(pcs T).length:=by rw [hpo,Py.prTo_length]
 have hfb:∀ k,k≤(pcs T).length→fbC (rtO T) (pcs T).length (pcs T) (Py.poL (pcs T)) k=0:=by
  intro k
  induction k with
  | zero=>intro _;rfl
  | succ k ih =>
    intro hk
    refine fb_go (ih (by omega)) ?_
    rw [hpo,prTo_nth (by omega)]
    exact pf_zero hp4.2 p5 (fun i hi=>(p8 i hi).2.2) (by omega)
 have hcat:cat (pcs T)=Ht.tabB T:=p3
 have hrtb:=Ht.rt_back T hT
 have hit:itC 4 sq (pcs T).length (rtO T) (vts sq T a b c) (pcs T) (Py.poL (pcs T))=0:=by
  unfold itC
  rw [if_neg (by omega),if_pos hf4,if_pos hst,if_pos ⟨Pf.pcB_yes hP,rfl,by rw [hlen]⟩,if_pos (hfb _ (Nat.le_refl _)),hcat]
  exact hrtb.1
 refine ⟨⟨hms,hM.q,hM.z,hM.r,?_⟩,hst,⟨p2,p1⟩,⟨hlen,fun t ht=>?_⟩,hp4,?_,hrt,⟨hit,?_⟩,?_⟩
 ·rw [hM.l];rfl
 ·rw [hpo] at ht
  obtain ⟨i,hi,rfl⟩:=List.mem_map.1 ht
  have hi2:=List.mem_range.1 hi
  have:=catS_size _ (Py.zCR 64 (pcs T) i hi2 hp4.2 p5)
  have h2:=(Hp.path_ok 64 (pcs T) i hi2 hp4.2 p5).1
  have h3:=szs (pcs T).length (by omega) i hi2
  show (catS (Py.zAr 64 (pcs T) i)).size≤1048576
  omega
 ·rcases Xv.vm_cases a sq (pcs T).length (rtO T) with ⟨h,_⟩ | ⟨_,h,_⟩ | ⟨_,_,h,_⟩ | ⟨i,rfl,_,_,_,_,_,h1,h2⟩
  ·omega
  ·exfalso;unfold Rm.inR at h;simp at h;omega
  ·rw [hvok] at h;cases h
  ·exact ⟨h1,by rw [h2];rfl⟩
 ·unfold itT
  rw [if_pos hit,hcat]
  exact hrtb.2
 ·unfold itC
  rw [if_neg (by omega),if_pos hf4,if_neg]
  intro h
  have:=Xs.q_len (Xs.st_q h)
  simp [vts,Qm.qOut] at this
end Go.Proofs.YtakfniknkejgpaaGreatDoor.Hii
namespace Go.Proofs.YtakfniknkejgpaaGreatDoor.Ht
open Go.RowKit Sl By Ap Rr Tb Tw Tp Pu Pt
open Rg (zAD)
theorem zAK (w:World) (cs:Array Value) (t:TypeId):(w.alloc (.cells cs t)).heap[w.heap.size]?=some (.cells cs t (0,0)):=heap_alloc_new w _
def InT (w:World) (u v:Value) (T:Tab):Prop:=∀ W,Below w.heap.size w W→RowL W u T.ls∧RowS W v T.ss
theorem InT.below {w w':World} {u v:Value} {T:Tab} (h:InT w u v T) (hb:Below w.heap.size w w'):InT w' u v T:=fun W hW=>h W (hb.trans (hW.mono hb.size))
set_option maxRecDepth 100000 in
set_option maxHeartbeats 3200000 in
theorem same_ok {T:Tab} (hT:TOK T) (a c a' c' a2 c2 a3 c3) (W:World) (h1:InT W (.slice a T.ls.length c) (.slice a' T.ss.length c') T) (h2:InT W (.slice a2 T.ls.length c2) (.slice a3 T.ss.length c3) T) :
 Calls Tryz.prog 13 #[tV T (.slice a T.ls.length c) (.slice a' T.ss.length c'),tV T (.slice a2 T.ls.length c2) (.slice a3 T.ss.length c3)] W fun e w'=>e=.returned (.bool true)∧Below W.heap.size W w':=by
 have HI:Hid (∀ V,Below W.heap.size W V→Calls Tryz.prog 7 #[.agg #[.int .i64 T.tm,.int .i64 T.nx,.slice a T.ls.length c,.slice a' T.ss.length c']] V fun e w'=>∃ x,e=.returned (.tuple #[x,.int .i64 0])∧RowB w' x (tabB T)∧Below V.heap.size V w'):=fun V hV=>zBu hT (h1 V hV)
 have HJ:Hid (∀ V,Below W.heap.size W V→Calls Tryz.prog 7 #[.agg #[.int .i64 T.tm,.int .i64 T.nx,.slice a2 T.ls.length c2,.slice a3 T.ss.length c3]] V fun e w'=>∃ x,e=.returned (.tuple #[x,.int .i64 0])∧RowB w' x (tabB T)∧Below V.heap.size V w'):=fun V hV=>zBu hT (h2 V hV)
 unfold tV
 generalize T.ls.length=nl at HI HJ ⊢
 generalize T.ss.length=ns at HI HJ ⊢
 generalize T.tm=tm at HI HJ ⊢
 generalize T.nx=nx at HI HJ ⊢
 generalize tabB T=bs at HI HJ
 clear h1 h2 hT
 have n1:=zAD W (.cells #[.int .i64 tm,.int .i64 nx,.slice a nl c,.slice a' ns c'] 26)
 have n2:=zAD (W.alloc (.cells #[.int .i64 tm,.int .i64 nx,.slice a nl c,.slice a' ns c'] 26)) (.cells #[.int .i64 tm,.int .i64 nx,.slice a2 nl c2,.slice a3 ns c3] 26)
 have s1:(W.alloc (.cells #[.int .i64 tm,.int .i64 nx,.slice a nl c,.slice a' ns c'] 26)).heap.size=W.heap.size+1:=by simp
 have A0:Hid ((((W.alloc (.cells #[.int .i64 tm,.int .i64 nx,.slice a nl c,.slice a' ns c'] 26)).alloc (.cells #[.int .i64 tm,.int .i64 nx,.slice a2 nl c2,.slice a3 ns c3] 26)).heap[W.heap.size]?=some (.cells #[.int .i64 tm,.int .i64 nx,.slice a nl c,.slice a' ns c'] 26 (0,0))∧((W.alloc (.cells #[.int .i64 tm,.int .i64 nx,.slice a nl c,.slice a' ns c'] 26)).alloc (.cells #[.int .i64 tm,.int .i64 nx,.slice a2 nl c2,.slice a3 ns c3] 26)).heap[W.heap.size+1]?=some (.cells #[.int .i64 tm,.int .i64 nx,.slice a2 nl c2,.slice a3 ns c3] 26 (0,0)))∧Below W.heap.size W ((W.alloc (.cells #[.int .i64 tm,.int .i64 nx,.slice a nl c,.slice a' ns c'] 26)).alloc (.cells #[.int .i64 tm,.int .i64 nx,.slice a2 nl c2,.slice a3 ns c3] 26))) :=
  ⟨⟨(n2.block _ (by omega)).trans (zAK _ _ _),by have:=zAK (W.alloc (.cells #[.int .i64 tm,.int .i64 nx,.slice a nl c,.slice a' ns c'] 26)) #[.int .i64 tm,.int .i64 nx,.slice a2 nl c2,.slice a3 ns c3] 26;rw [s1] at this;exact this⟩,n1.trans (n2.mono (by omega))⟩
 clear n1 n2 s1
 go_enter Tryz.func13,Tryz.ntmps13
 go_upto_region 1 with fail
 generalize (W.alloc (.cells #[.int .i64 tm,.int .i64 nx,.slice a nl c,.slice a' ns c'] 26)).alloc (.cells #[.int .i64 tm,.int .i64 nx,.slice a2 nl c2,.slice a3 ns c3] 26)=w0 at A0 ⊢
 have x0:=(zAA A0.out.1.1 0 (x:=.int .i64 tm) rfl).1
 have x1:=(zAA A0.out.1.1 1 (x:=.int .i64 nx) rfl).1
 have x2:=(zAA A0.out.1.1 2 (x:=.slice a nl c) rfl).1
 have x3:=(zAA A0.out.1.1 3 (x:=.slice a' ns c') rfl).1
 go_wp2_with fail
 refine (HI.out _ A0.out.2).mono ?_
 rintro e w1 ⟨v1,rfl,r1,b1⟩
 have R1:Hid (RowB w1 v1 bs):=r1
 have A1:Hid (w1.heap[W.heap.size+1]?=some (.cells #[.int .i64 tm,.int .i64 nx,.slice a2 nl c2,.slice a3 ns c3] 26 (0,0))∧Below W.heap.size W w1):=⟨(b1.block _ (Array.getElem?_eq_some_iff.1 A0.out.1.2).1).trans A0.out.1.2,A0.out.2.trans (b1.mono A0.out.2.size)⟩
 clear x0 x1 x2 x3 r1 b1 A0 HI
 have x0:=(zAA A1.out.1 0 (x:=.int .i64 tm) rfl).1
 have x1:=(zAA A1.out.1 1 (x:=.int .i64 nx) rfl).1
 have x2:=(zAA A1.out.1 2 (x:=.slice a2 nl c2) rfl).1
 have x3:=(zAA A1.out.1 3 (x:=.slice a3 ns c3) rfl).1
 go_wp2_with fail
 refine (HJ.out _ A1.out.2).mono ?_
 rintro e w2 ⟨v2,rfl,r2,b2⟩
 have R2:Hid (RowB w2 v1 bs∧RowB w2 v2 bs):=⟨R1.out.below b2,r2⟩
 have A2:Hid (Below W.heap.size W w2):=A1.out.2.trans (b2.mono A1.out.2.size)
 clear x0 x1 x2 x3 r2 b2 A1 R1 HJ
 have hc1:=zBn (P:=Tryz.prog) w2 w2.heap.size 22 5 9 Tryz.underlying22 Tryz.underlying5 Tryz.underlying9 v1 bs (RowU.of R2.out.1)
 have hc2:=zBn (P:=Tryz.prog) w2 w2.heap.size 22 5 9 Tryz.underlying22 Tryz.underlying5 Tryz.underlying9 v2 bs (RowU.of R2.out.2)
 generalize strOfNums bs=sb at hc1 hc2
 have hsb:(sb.toList == sb.toList)=true:=by simp
 go_wp2_with fail
 go_ret
 exact ⟨rfl,A2.out⟩
end Go.Proofs.YtakfniknkejgpaaGreatDoor.Ht
