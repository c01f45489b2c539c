/- Texts put together: Ep, Eq, Req. -/
import Derived.Test.YtakfniknkejgpaaGreatDoorMiA0
import Derived.Test.YtakfniknkejgpaaGreatDoorMi37
namespace Go.Proofs.YtakfniknkejgpaaGreatDoor.Ea
open Go.RowKit Sl By Ap Tb Tw Wa Tp Da
open Lo (LkA uV clL OwnL OwnL.kept OwnL.lt OwnL.below OwnL.row OwnL.slice zAI zAO Apart lenL atL)
open Tx (zAA zAE zAB zAK zAD)
open Lf (Fnd zAc)
open Lsh
set_option maxRecDepth 100000 in
set_option maxHeartbeats 12800000 in
theorem l05Apply_any (T:Tab) (vl vs:Value) (now:Int) (r:Da.Ask) (w:World) (hl:RowL w vl T.ls) (hs:RowS w vs T.ss) (hT:TOK T) (h0:0≤now) (h1:now≤1000000000) (hn:T.nx≤999990) (hr:AskOK r) :
 Calls Tryz.prog 62 #[.agg #[.int .i64 T.tm,.int .i64 T.nx,vl,vs],.int .i64 now,.agg #[.int .i64 r.cl,.int .i64 r.st,.int .i64 r.kd,.int .i64 r.le,.string r.nm]] w fun e w'=>ApP w (apT T now r) e w':=by
 obtain ⟨si0,hsi0,sz0,sz1,sz2⟩:=info_parts infoS
 have hX:=exT_ok hT h0 h1 hn
 have hXn:=exT_nx T now hT.2.2.1
 have hXs:(exT T now).ss=T.ss:=rfl
 have HE:Hid (∀ W,Below w.heap.size w W→Calls Tryz.prog 89 #[.agg #[.int .i64 T.tm,.int .i64 T.nx,vl,vs],.int .i64 now] W fun e w'=>OwnT w' W.heap.size (exT T now) e∧Below W.heap.size W w'):=fun W hW=>l05Expire_any T vl vs now W (hl.below hW) (hs.below hW) hT h0 h1 hn
 obtain ⟨R,HR⟩ : ∃ R,Hid (apT T now r=R):=⟨_,rfl⟩
 obtain ⟨X,HX0⟩ : ∃ X,Hid (exT T now=X):=⟨_,rfl⟩
 rw [HX0.out] at hX hXn hXs HE
 have HAP0:R=match sidx X.ss r.cl with
  | some k=>if r.st=(X.ss.getD k default).s then (X,ansOf (X.ss.getD k default)) else if r.st<(X.ss.getD k default).s then (X,bare 7) else ({ (doT X r).1 with ss:=X.ss.set k (sn r (doT X r).2) },(doT X r).2)
  | none=>if 6≤X.ss.length then (X,bare 6) else ({ (doT X r).1 with ss:=putAt X.ss (splc X.ss r.cl) (sn r (doT X r).2) },(doT X r).2):=by
  rw [← HR.out,hXs,← HX0.out]
  rfl
 have HAPH:Hid (∀ _:Unit,R=match sidx X.ss r.cl with
  | some k=>if r.st=(X.ss.getD k default).s then (X,ansOf (X.ss.getD k default)) else if r.st<(X.ss.getD k default).s then (X,bare 7) else ({ (doT X r).1 with ss:=X.ss.set k (sn r (doT X r).2) },(doT X r).2)
  | none=>if 6≤X.ss.length then (X,bare 6) else ({ (doT X r).1 with ss:=putAt X.ss (splc X.ss r.cl) (sn r (doT X r).2) },(doT X r).2)):=fun _=>HAP0
 clear HAP0
 rw [HR.out]
 have HDS:Hid ((doT X r).1.ss=X.ss):=(doT_ss X r).1
 have HXO:Hid (TOK X∧X.nx≤999999):=⟨hX,by omega⟩
 have hsl:X.ss.length≤6:=hX.2.2.2.2.1
 have hrc:=zAa hr.1
 have HRO:Hid (AskOK r):=hr
 clear hX hXn hXs HR HX0 hT h0 h1 hn hr
 have HWB:Hid (∀ W,Below ((((w.alloc (.cells #[.int .i64 T.tm,.int .i64 T.nx,vl,vs] 26)).alloc (.cells #[.int .i64 r.cl,.int .i64 r.st,.int .i64 r.kd,.int .i64 r.le,.string r.nm] 123)).alloc (.cells #[.int .i64 0,.int .i64 0,.slice none 0 0,.slice none 0 0] 26)).alloc (.cells #[.int .i64 0,.int .i64 0,.int .i64 0,.int .i64 0] 100)).heap.size ((((w.alloc (.cells #[.int .i64 T.tm,.int .i64 T.nx,vl,vs] 26)).alloc (.cells #[.int .i64 r.cl,.int .i64 r.st,.int .i64 r.kd,.int .i64 r.le,.string r.nm] 123)).alloc (.cells #[.int .i64 0,.int .i64 0,.slice none 0 0,.slice none 0 0] 26)).alloc (.cells #[.int .i64 0,.int .i64 0,.int .i64 0,.int .i64 0] 100)) W→W.heap[w.heap.size]?=some (.cells #[.int .i64 T.tm,.int .i64 T.nx,vl,vs] 26 (0,0))∧W.heap[w.heap.size+1]?=some (.cells #[.int .i64 r.cl,.int .i64 r.st,.int .i64 r.kd,.int .i64 r.le,.string r.nm] 123 (0,0))∧W.heap[w.heap.size+1+1]?=some (.cells #[.int .i64 0,.int .i64 0,.slice none 0 0,.slice none 0 0] 26 (0,0))∧W.heap[w.heap.size+1+1+1]?=some (.cells #[.int .i64 0,.int .i64 0,.int .i64 0,.int .i64 0] 100 (0,0))∧Below w.heap.size w W):=fun W hW=>by
  have s1:(w.alloc (.cells #[.int .i64 T.tm,.int .i64 T.nx,vl,vs] 26)).heap.size=w.heap.size+1:=by simp
  have s2:((w.alloc (.cells #[.int .i64 T.tm,.int .i64 T.nx,vl,vs] 26)).alloc (.cells #[.int .i64 r.cl,.int .i64 r.st,.int .i64 r.kd,.int .i64 r.le,.string r.nm] 123)).heap.size=w.heap.size+1+1:=by simp
  have s3:(((w.alloc (.cells #[.int .i64 T.tm,.int .i64 T.nx,vl,vs] 26)).alloc (.cells #[.int .i64 r.cl,.int .i64 r.st,.int .i64 r.kd,.int .i64 r.le,.string r.nm] 123)).alloc (.cells #[.int .i64 0,.int .i64 0,.slice none 0 0,.slice none 0 0] 26)).heap.size=w.heap.size+1+1+1:=by simp
  have s4:((((w.alloc (.cells #[.int .i64 T.tm,.int .i64 T.nx,vl,vs] 26)).alloc (.cells #[.int .i64 r.cl,.int .i64 r.st,.int .i64 r.kd,.int .i64 r.le,.string r.nm] 123)).alloc (.cells #[.int .i64 0,.int .i64 0,.slice none 0 0,.slice none 0 0] 26)).alloc (.cells #[.int .i64 0,.int .i64 0,.int .i64 0,.int .i64 0] 100)).heap.size=w.heap.size+1+1+1+1:=by simp
  have b1:=zAD w (.cells #[.int .i64 T.tm,.int .i64 T.nx,vl,vs] 26)
  have b2:=zAD (w.alloc (.cells #[.int .i64 T.tm,.int .i64 T.nx,vl,vs] 26)) (.cells #[.int .i64 r.cl,.int .i64 r.st,.int .i64 r.kd,.int .i64 r.le,.string r.nm] 123)
  have b3:=zAD ((w.alloc (.cells #[.int .i64 T.tm,.int .i64 T.nx,vl,vs] 26)).alloc (.cells #[.int .i64 r.cl,.int .i64 r.st,.int .i64 r.kd,.int .i64 r.le,.string r.nm] 123)) (.cells #[.int .i64 0,.int .i64 0,.slice none 0 0,.slice none 0 0] 26)
  have b4:=zAD (((w.alloc (.cells #[.int .i64 T.tm,.int .i64 T.nx,vl,vs] 26)).alloc (.cells #[.int .i64 r.cl,.int .i64 r.st,.int .i64 r.kd,.int .i64 r.le,.string r.nm] 123)).alloc (.cells #[.int .i64 0,.int .i64 0,.slice none 0 0,.slice none 0 0] 26)) (.cells #[.int .i64 0,.int .i64 0,.int .i64 0,.int .i64 0] 100)
  refine ⟨?_,?_,?_,?_,(((b1.trans (b2.mono b1.size)).trans (b3.mono (by omega))).trans (b4.mono (by omega))).trans (hW.mono (by omega))⟩
  ·rw [hW.block _ (by omega),b4.block _ (by omega),b3.block _ (by omega),b2.block _ (by omega)];exact zAK _ _ _
  ·rw [hW.block _ (by omega),b4.block _ (by omega),b3.block _ (by omega),← s1];exact zAK _ _ _
  ·rw [hW.block _ (by omega),b4.block _ (by omega),← s2];exact zAK _ _ _
  ·rw [hW.block _ (by omega),← s3];exact zAK _ _ _
 have hA:((((w.alloc (.cells #[.int .i64 T.tm,.int .i64 T.nx,vl,vs] 26)).alloc (.cells #[.int .i64 r.cl,.int .i64 r.st,.int .i64 r.kd,.int .i64 r.le,.string r.nm] 123)).alloc (.cells #[.int .i64 0,.int .i64 0,.slice none 0 0,.slice none 0 0] 26)).alloc (.cells #[.int .i64 0,.int .i64 0,.int .i64 0,.int .i64 0] 100)).heap.size=w.heap.size+1+1+1+1:=by simp
 clear hl hs
 go_enter Tryz.func62,Tryz.ntmps62
 go_upto_region 1 with fail
 generalize ((((w.alloc (.cells #[.int .i64 T.tm,.int .i64 T.nx,vl,vs] 26)).alloc (.cells #[.int .i64 r.cl,.int .i64 r.st,.int .i64 r.kd,.int .i64 r.le,.string r.nm] 123)).alloc (.cells #[.int .i64 0,.int .i64 0,.slice none 0 0,.slice none 0 0] 26)).alloc (.cells #[.int .i64 0,.int .i64 0,.int .i64 0,.int .i64 0] 100))=wA at HWB hA ⊢
 have HBX:Hid (∀ W,Below wA.heap.size wA W→W.heap[w.heap.size+1]?=some (.cells #[.int .i64 r.cl,.int .i64 r.st,.int .i64 r.kd,.int .i64 r.le,.string r.nm] 123 (0,0))∧W.heap[w.heap.size+1+1]?=some (.cells #[.int .i64 0,.int .i64 0,.slice none 0 0,.slice none 0 0] 26 (0,0))∧W.heap[w.heap.size+1+1+1]?=some (.cells #[.int .i64 0,.int .i64 0,.int .i64 0,.int .i64 0] 100 (0,0))∧Below w.heap.size w W):=fun W hW=>(HWB.out W hW).2
 obtain ⟨q0,_,_,_,q4⟩:=HWB.out wA (Below.refl _ _)
 have c0:=(zAA q0 0 (x:=.int .i64 T.tm) rfl).1
 have c1:=(zAA q0 1 (x:=.int .i64 T.nx) rfl).1
 have c2:=(zAA q0 2 (x:=vl) rfl).1
 have c3:=(zAA q0 3 (x:=vs) rfl).1
 have HE1:=HE.out wA q4
 clear q0 q4 HE HWB
 go_upto_region 2 with (go_at_call 89;refine HE1.mono ?_;rintro e w1 ⟨⟨ul,us,ps,he,o1,o2,o3,o4,o5⟩,b1⟩;obtain ⟨la,lc,rfl⟩:=OwnL.slice o1;obtain ⟨ua,uc,rfl⟩:=OwnS.slice o5;unfold tabV at he;subst he)
 have bb:=zAD w1 (.cells #[.int .i64 X.tm,.int .i64 X.nx,.slice la ps.length lc,.slice ua X.ss.length uc] 26)
 have T2:TM wA (w1.alloc (.cells #[.int .i64 X.tm,.int .i64 X.nx,.slice la ps.length lc,.slice ua X.ss.length uc] 26)) wA.heap.size w1.heap.size X (.slice la ps.length lc) (.slice ua X.ss.length uc) ps:=⟨zAK _ _ _,o1.below bb,o5.below bb,fun p hp=>(o2 p hp).below bb,o4,o3,b1.trans (bb.mono b1.size),Nat.le_refl _,b1.size⟩
 have HX:Hid (∀ W,Below (w1.alloc (.cells #[.int .i64 X.tm,.int .i64 X.nx,.slice la ps.length lc,.slice ua X.ss.length uc] 26)).heap.size (w1.alloc (.cells #[.int .i64 X.tm,.int .i64 X.nx,.slice la ps.length lc,.slice ua X.ss.length uc] 26)) W→TM wA W wA.heap.size w1.heap.size X (.slice la ps.length lc) (.slice ua X.ss.length uc) ps):=fun W hW=>T2.up hW
 have hbA:wA.heap.size≤w1.heap.size:=b1.size
 clear o1 o2 o3 o4 o5 b1 bb T2 HE1 c0 c1 c2 c3
 generalize w1.alloc (.cells #[.int .i64 X.tm,.int .i64 X.nx,.slice la ps.length lc,.slice ua X.ss.length uc] 26)=w2 at HX ⊢
 generalize w1.heap.size=b at HX hbA ⊢
 obtain ⟨k,HK⟩ : ∃ k,Hid (splc X.ss r.cl=k):=⟨_,rfl⟩
 have hkl:k≤X.ss.length:=by rw [← HK.out];exact splc_le _ _
 have hkc:k≤uc:=by
  rcases (HX.out w2 (Below.refl _ _)).os.2 with ⟨e,h1⟩ | ⟨g',cap,cur,e,_,_,hc,_⟩
  ·omega
  ·cases e;omega
 go_wp2_with fail
 go_loopw [9] (fun i wr=>∃ j:Nat,i=.int .i64 (j:Int)∧j≤k∧Hid (Below w2.heap.size w2 wr)) (fun i _=>k - (intOf i).toNat)
 case atStart=>exact ⟨0,rfl,by omega,Below.refl _ _⟩
 case round =>
  obtain ⟨j,rfl,hj,GR⟩:=hrel
  have hj0:(0:Int)≤(j:Int):=by omega
  by_cases hjn:j<X.ss.length
  focus
   obtain ⟨s,hs⟩ : ∃ s,X.ss[j]?=some s:=⟨_,List.getElem?_eq_getElem hjn⟩
   have HSK:Hid (X.ss[j]?=some s):=hs
   have hlt:=splc_at hs (by rw [HK.out];exact hj)
   rw [HK.out] at hlt
   have hj1:(j:Int)<(X.ss.length:Int):=by omega
   obtain ⟨gs,cs,es,hgB,_⟩:=OwnS.atk (HX.out wr GR.out).os hs
   obtain ⟨rfl,rfl⟩ : ua=some ⟨gs,0,none⟩∧uc=cs:=by injection es with e1 _ e3;exact ⟨e1,e3⟩
   clear es
   by_cases hjk:j<k
   ·have hls:s.c<r.cl:=hlt.1 hjk
    clear hlt hs
    go_upto_region 3 with fail
    obtain ⟨X1,hX1,W1,QI0,QO0⟩:=Qc.zAo wr
    have QI:Hid (∀ w',Below wr.heap.size wr w'→∃ x,w'=W1 x):=QI0
    have QO:Hid (∀ x,Below wr.heap.size wr (W1 x)):=QO0
    clear QI0 QO0
    have tq:=HX.out _ GR.out
    have y3:=Qc.zAC QO.out (zAA tq.hx 3 (x:=.slice (some ⟨gs,0,none⟩) X.ss.length uc) rfl).1
    have z0:=Qc.zAC QO.out (zAA (HBX.out _ tq.bel).1 0 (x:=.int .i64 r.cl) rfl).1
    have z1:=Qc.zAC QO.out (zAA (HBX.out _ tq.bel).1 1 (x:=.int .i64 r.st) rfl).1
    obtain ⟨gs',cs',es,_,_,_,hcs⟩:=OwnS.atk tq.os HSK.out
    obtain rfl:gs=gs':=by injection es with e1;injection e1 with e1;injection e1
    have s0:∀ q,(W1 q).cell? ⟨gs,j * 6,none⟩=some (.int .i64 s.c):=Qc.zAC QO.out (hcs 0 (.int .i64 s.c) rfl).1
    have s1:=Qc.zAC QO.out (hcs 1 (.int .i64 s.s) rfl).1
    clear hcs es
    clear tq
    refine Qc.zAF (W:=W1) (by kernel_rfl) (by kernel_rfl) (QI.out _ Qc.zAJ) ?_
    repeat (go_big_quiet_step (fail))
    refine wpQuiet_nil ?_
    rintro _ ⟨xq,rfl⟩
    have G:Hid (Below w2.heap.size w2 (W1 xq)):=GR.out.trans ((QO.out xq).mono GR.out.size)
    clear y3 z0 z1 s0 s1 QO QI GR
    generalize W1 xq=wq at G ⊢
    go_wp2_with fail
    exact ⟨⟨j+1,by go_num,by omega,G⟩,by simp [intOf];omega⟩
   focus
    have hls:¬ s.c<r.cl:=fun h=>hjk (hlt.2 h)
    obtain rfl:j=k:=by omega
    have HSS:Hid (SsOK X.ss):=HXO.out.1.2.2.2.2.2
    have HAP1:=HAPH.out ()
    clear hlt hs hjk HAPH
    by_cases hsc:s.c=r.cl
    ·have hi:=(seen_place HSS.out HSK.out hsc).2
     have hgd:X.ss.getD j default=s:=by rw [List.getD_eq_getElem?_getD,HSK.out];rfl
     rw [hi] at HAP1
     simp only [hgd] at HAP1
     have hsc':(s.c == r.cl)=true:=by simp [hsc]
     clear hi hgd
     have HSC:Hid (s.c=r.cl):=hsc
     by_cases hst:s.s=r.st
     ·have HAP:Hid (R=(X,ansOf s)):=by show _=_;rw [HAP1,if_pos hst.symm]
      have hst':(s.s == r.st)=true:=by simp [hst]
      clear HAP1 hsc hst
      go_upto_region 3 with fail
      obtain ⟨X1,hX1,W1,QI0,QO0⟩:=Qc.zAo wr
      have QI:Hid (∀ w',Below wr.heap.size wr w'→∃ x,w'=W1 x):=QI0
      have QO:Hid (∀ x,Below wr.heap.size wr (W1 x)):=QO0
      clear QI0 QO0
      have tq:=HX.out _ GR.out
      have y3:=Qc.zAC QO.out (zAA tq.hx 3 (x:=.slice (some ⟨gs,0,none⟩) X.ss.length uc) rfl).1
      have z0:=Qc.zAC QO.out (zAA (HBX.out _ tq.bel).1 0 (x:=.int .i64 r.cl) rfl).1
      have z1:=Qc.zAC QO.out (zAA (HBX.out _ tq.bel).1 1 (x:=.int .i64 r.st) rfl).1
      obtain ⟨gs',cs',es,_,_,_,hcs⟩:=OwnS.atk tq.os HSK.out
      obtain rfl:gs=gs':=by injection es with e1;injection e1 with e1;injection e1
      have s0:∀ q,(W1 q).cell? ⟨gs,j * 6,none⟩=some (.int .i64 s.c):=Qc.zAC QO.out (hcs 0 (.int .i64 s.c) rfl).1
      have s1:=Qc.zAC QO.out (hcs 1 (.int .i64 s.s) rfl).1
      clear hcs es
      clear tq
      refine Qc.zAF (W:=W1) (by kernel_rfl) (by kernel_rfl) (QI.out _ Qc.zAJ) ?_
      repeat (go_big_quiet_step (fail))
      refine wpQuiet_nil ?_
      rintro _ ⟨xq,rfl⟩
      have G:Hid (Below w2.heap.size w2 (W1 xq)):=GR.out.trans ((QO.out xq).mono GR.out.size)
      clear y3 z0 z1 s0 s1 QO QI GR
      generalize W1 xq=wq at G ⊢
      go_upto_region 5 with fail
      obtain ⟨X1,hX1,W1,QI0,QO0⟩:=Qc.zAo wq
      have QI:Hid (∀ w',Below wq.heap.size wq w'→∃ x,w'=W1 x):=QI0
      have QO:Hid (∀ x,Below wq.heap.size wq (W1 x)):=QO0
      clear QI0 QO0
      have tq:=HX.out _ G.out
      have y3:=Qc.zAC QO.out (zAA tq.hx 3 (x:=.slice (some ⟨gs,0,none⟩) X.ss.length uc) rfl).1
      have z0:=Qc.zAC QO.out (zAA (HBX.out _ tq.bel).1 0 (x:=.int .i64 r.cl) rfl).1
      have z1:=Qc.zAC QO.out (zAA (HBX.out _ tq.bel).1 1 (x:=.int .i64 r.st) rfl).1
      obtain ⟨gs',cs',es,_,_,_,hcs⟩:=OwnS.atk tq.os HSK.out
      obtain rfl:gs=gs':=by injection es with e1;injection e1 with e1;injection e1
      have s0:∀ q,(W1 q).cell? ⟨gs,j * 6,none⟩=some (.int .i64 s.c):=Qc.zAC QO.out (hcs 0 (.int .i64 s.c) rfl).1
      have s1:=Qc.zAC QO.out (hcs 1 (.int .i64 s.s) rfl).1
      clear hcs es
      clear tq
      refine Qc.zAF (W:=W1) (by kernel_rfl) (by kernel_rfl) (QI.out _ Qc.zAJ) ?_
      repeat (go_big_quiet_step (fail))
      refine wpQuiet_nil ?_
      rintro _ ⟨xq,rfl⟩
      have G3:Hid (Below w2.heap.size w2 (W1 xq)):=G.out.trans ((QO.out xq).mono G.out.size)
      clear y3 z0 z1 s0 s1 QO QI G
      generalize W1 xq=wr3 at G3 ⊢
      go_upto_region 6 with fail
      obtain ⟨X1,hX1,W1,QI0,QO0⟩:=Qc.zAo wr3
      have QI:Hid (∀ w',Below wr3.heap.size wr3 w'→∃ x,w'=W1 x):=QI0
      have QO:Hid (∀ x,Below wr3.heap.size wr3 (W1 x)):=QO0
      clear QI0 QO0
      have tq:=HX.out _ G3.out
      have y3:=Qc.zAC QO.out (zAA tq.hx 3 (x:=.slice (some ⟨gs,0,none⟩) X.ss.length uc) rfl).1
      have z0:=Qc.zAC QO.out (zAA (HBX.out _ tq.bel).1 0 (x:=.int .i64 r.cl) rfl).1
      have z1:=Qc.zAC QO.out (zAA (HBX.out _ tq.bel).1 1 (x:=.int .i64 r.st) rfl).1
      obtain ⟨gs',cs',es,_,_,_,hcs⟩:=OwnS.atk tq.os HSK.out
      obtain rfl:gs=gs':=by injection es with e1;injection e1 with e1;injection e1
      have s0:∀ q,(W1 q).cell? ⟨gs,j * 6,none⟩=some (.int .i64 s.c):=Qc.zAC QO.out (hcs 0 (.int .i64 s.c) rfl).1
      have s1:=Qc.zAC QO.out (hcs 1 (.int .i64 s.s) rfl).1
      clear hcs es
      clear tq
      refine Qc.zAF (W:=W1) (by kernel_rfl) (by kernel_rfl) (QI.out _ Qc.zAJ) ?_
      repeat (go_big_quiet_step (fail))
      refine wpQuiet_nil ?_
      rintro _ ⟨xq,rfl⟩
      have G4:Hid (Below w2.heap.size w2 (W1 xq)):=G3.out.trans ((QO.out xq).mono G3.out.size)
      clear y3 z0 z1 s0 s1 QO QI G3
      generalize W1 xq=wr4 at G4 ⊢
      have HTF:Hid (TM wA wr4 wA.heap.size b X (.slice la ps.length lc) (.slice (some ⟨gs,0,none⟩) X.ss.length uc) ps):=HX.out _ G4.out
      have HS7:Hid (∀ W:World,(∀ i,wA.heap.size≤i→W.heap[i]?=wr4.heap[i]?)→(W.cell? ⟨b,0,none⟩=some (.int .i64 X.tm)∧W.cell? ⟨b,1,none⟩=some (.int .i64 X.nx)∧W.cell? ⟨b,2,none⟩=some (.slice la ps.length lc)∧W.cell? ⟨b,3,none⟩=some (.slice (some ⟨gs,0,none⟩) X.ss.length uc))∧W.cell? ⟨gs,j * 6+2,none⟩=some (.int .i64 s.k)∧W.cell? ⟨gs,j * 6+3,none⟩=some (.int .i64 s.t)∧W.cell? ⟨gs,j * 6+4,none⟩=some (.int .i64 s.h)∧W.cell? ⟨gs,j * 6+5,none⟩=some (.int .i64 s.e)):=fun W hW=>by
       have e1:=(hW b hbA).trans HTF.out.hx
       obtain ⟨g',c',e,_,_,⟨cl,hcl⟩,hc⟩:=OwnS.atk HTF.out.os HSK.out
       obtain rfl:gs=g':=by injection e with e1;injection e1 with e1;injection e1
       have e2:=fun i u hi=>(hc i u hi).1
       simp only [Joins.cell_of_block hcl] at e2
       have e3:=(hW gs hgB).trans hcl
       refine ⟨⟨(zAA e1 0 rfl).1,(zAA e1 1 rfl).1,(zAA e1 2 rfl).1,(zAA e1 3 rfl).1⟩,?_,?_,?_,?_⟩
       ·rw [Joins.cell_of_block e3];exact e2 2 _ rfl
       ·rw [Joins.cell_of_block e3];exact e2 3 _ rfl
       ·rw [Joins.cell_of_block e3];exact e2 4 _ rfl
       ·rw [Joins.cell_of_block e3];exact e2 5 _ rfl
      go_upto_region 7 with fail
      have hbx:=HBX.out _ HTF.out.bel
      obtain ⟨zt0,ft0⟩:=zAA hbx.2.1 0 (x:=.int .i64 0) rfl
      obtain ⟨zt1,ft1⟩:=zAA hbx.2.1 1 (x:=.int .i64 0) rfl
      obtain ⟨zt2,ft2⟩:=zAA hbx.2.1 2 (x:=.slice none 0 0) rfl
      obtain ⟨zt3,ft3⟩:=zAA hbx.2.1 3 (x:=.slice none 0 0) rfl
      obtain ⟨za0,fa0⟩:=zAA hbx.2.2.1 0 (x:=.int .i64 0) rfl
      obtain ⟨za1,fa1⟩:=zAA hbx.2.2.1 1 (x:=.int .i64 0) rfl
      obtain ⟨za2,fa2⟩:=zAA hbx.2.2.1 2 (x:=.int .i64 0) rfl
      obtain ⟨za3,fa3⟩:=zAA hbx.2.2.1 3 (x:=.int .i64 0) rfl
      clear hbx
      refine wp_region_noPanic ?_
      refine zAq 8 (S:=fun W=>(W.cell? ⟨b,0,none⟩=some (.int .i64 X.tm)∧W.cell? ⟨b,1,none⟩=some (.int .i64 X.nx)∧W.cell? ⟨b,2,none⟩=some (.slice la ps.length lc)∧W.cell? ⟨b,3,none⟩=some (.slice (some ⟨gs,0,none⟩) X.ss.length uc))∧W.cell? ⟨gs,j * 6+2,none⟩=some (.int .i64 s.k)∧W.cell? ⟨gs,j * 6+3,none⟩=some (.int .i64 s.t)∧W.cell? ⟨gs,j * 6+4,none⟩=some (.int .i64 s.h)∧W.cell? ⟨gs,j * 6+5,none⟩=some (.int .i64 s.e)) (by kernel_rfl) (HS7.out _ (fun _ _=>rfl)) (fun hHeld=>?_)
      refine tz 0 ⟨some 63,.load 26 (.tmp 8),26,"l05_locks.go:193",#[],none⟩ ?_ ?_ hHeld ?_
      rotate_left
      ·rintro wz ⟨⟨y0,y1,y2,y3⟩,y4,y5,y6,y7⟩;go_simp;try (with_reducible rfl)
      simp only [Act.put,sA,sB,sC]
      refine tz 1 ⟨some 64,.fieldAddr 26 (.tmp 8) 3,0,"l05_locks.go:193",#[⟨7,.gcOnly .lateStores⟩],none⟩ ?_ ?_ hHeld ?_
      rotate_left
      ·rintro wz ⟨⟨y0,y1,y2,y3⟩,y4,y5,y6,y7⟩;go_simp;try (with_reducible rfl)
      simp only [Act.put,sA,sB,sC]
      refine tz 2 ⟨some 65,.load 24 (.tmp 64),24,"l05_locks.go:193",#[⟨1,.data⟩,⟨7,.gcOnly .lateStores⟩],none⟩ ?_ ?_ hHeld ?_
      rotate_left
      ·rintro wz ⟨⟨y0,y1,y2,y3⟩,y4,y5,y6,y7⟩;go_simp;try (with_reducible rfl)
      simp only [Act.put,sA,sB,sC]
      refine tz 3 ⟨some 66,.move (.tmp 9),3,"l05_locks.go:193",#[⟨7,.gcOnly .lateStores⟩],none⟩ ?_ ?_ hHeld ?_
      rotate_left
      ·rintro wz ⟨⟨y0,y1,y2,y3⟩,y4,y5,y6,y7⟩;go_simp;try (with_reducible rfl)
      simp only [Act.put,sA,sB,sC]
      refine tz 4 ⟨some 67,.indexAddr 24 (.tmp 65) (.tmp 66),0,"l05_locks.go:193",#[⟨2,.data⟩,⟨3,.data⟩,⟨7,.gcOnly .lateStores⟩],none⟩ ?_ ?_ hHeld ?_
      rotate_left
      ·rintro wz ⟨⟨y0,y1,y2,y3⟩,y4,y5,y6,y7⟩;go_simp;try (with_reducible rfl)
      simp only [Act.put,sA,sB,sC]
      refine tz 5 ⟨some 68,.fieldAddr 102 (.tmp 67) 2,0,"l05_locks.go:193",#[⟨4,.data⟩,⟨7,.gcOnly .lateStores⟩],none⟩ ?_ ?_ hHeld ?_
      rotate_left
      ·rintro wz ⟨⟨y0,y1,y2,y3⟩,y4,y5,y6,y7⟩;go_simp;try (with_reducible rfl)
      simp only [Act.put,sA,sB,sC]
      refine tz 6 ⟨some 69,.load 100 (.tmp 68),100,"l05_locks.go:193",#[⟨5,.data⟩,⟨7,.gcOnly .lateStores⟩],none⟩ ?_ ?_ hHeld ?_
      rotate_left
      ·rintro wz ⟨⟨y0,y1,y2,y3⟩,y4,y5,y6,y7⟩;go_simp;try (with_reducible rfl)
      simp only [Act.put,sA,sB,sC]
      refine zAM (rs:=[7]) (by kernel_rfl) (by simp) ?_
      refine (ReadyZ.cons (o:=⟨none,.store 26 (.tmp 6) (.tmp 63),0,"l05_locks.go:193",#[⟨0,.data⟩,⟨0,.phase⟩,⟨1,.textOnly .lateStores⟩,⟨2,.textOnly .lateStores⟩,⟨3,.textOnly .lateStores⟩,⟨4,.textOnly .lateStores⟩,⟨5,.textOnly .lateStores⟩,⟨6,.textOnly .lateStores⟩],none⟩) rfl (fun K hK=>?_) ReadyZ.nil)
      go_simp
      refine hK.out _ _ ?_ (fun hHeld=>?_)
      ·exact HS7.out _ (fun i hi=>far4 (w:=wr4.drew) (by omega) _ _ _ _)
      clear hK K
      (try simp only [Act.put,sA,sB,sC])
      refine zAM (rs:=[8]) (by kernel_rfl) (by simp) ?_
      refine ReadyZ.last (o:=⟨none,.store 100 (.tmp 7) (.tmp 69),0,"l05_locks.go:193",#[⟨6,.data⟩,⟨7,.chain⟩,⟨0,.phase⟩,⟨1,.phase⟩,⟨2,.phase⟩,⟨3,.phase⟩,⟨4,.phase⟩,⟨5,.phase⟩,⟨6,.phase⟩,⟨7,.phase⟩],none⟩) rfl (fun K hK=>?_)
      go_simp
      refine hK.out _ _ ?_
      clear hK K
      (try simp only [Act.put,sA,sB,sC])
      refine zBb (by kernel_rfl) ?_ _
      refine NoPanic.normal ?_
      clear hHeld HS7
      go_wp2_with fail
      have S44:=(set44 (w:=wr4) (a:=w.heap.size+1+1) (b:=w.heap.size+1+1+1) (.int .i64 0) (.int .i64 0) (.slice none 0 0) (.slice none 0 0) (.int .i64 0) (.int .i64 0) (.int .i64 0) (.int .i64 0) (.int .i64 X.tm) (.int .i64 X.nx) ((.slice la ps.length lc)) ((.slice (some ⟨gs,0,none⟩) X.ss.length uc)) (.int .i64 s.k) (.int .i64 s.t) (.int .i64 s.h) (.int .i64 s.e) (by omega) (HBX.out _ (HTF.out.bel)).2.1 (HBX.out _ (HTF.out.bel)).2.2.1).1
      obtain ⟨AF,BF,FF,LF⟩:=S44
      have KF:Hid (OwnL ((((((((wr4.setCell ⟨w.heap.size+1+1,0,none⟩ (.int .i64 X.tm)).setCell ⟨w.heap.size+1+1,1,none⟩ (.int .i64 X.nx)).setCell ⟨w.heap.size+1+1,2,none⟩ ((.slice la ps.length lc))).setCell ⟨w.heap.size+1+1,3,none⟩ ((.slice (some ⟨gs,0,none⟩) X.ss.length uc))).setCell ⟨w.heap.size+1+1+1,0,none⟩ (.int .i64 s.k)).setCell ⟨w.heap.size+1+1+1,1,none⟩ (.int .i64 s.t)).setCell ⟨w.heap.size+1+1+1,2,none⟩ (.int .i64 s.h)).setCell ⟨w.heap.size+1+1+1,3,none⟩ (.int .i64 s.e)) w.heap.size (.slice la ps.length lc) ps∧(∀ p ∈ ps,Wa.OwnW ((((((((wr4.setCell ⟨w.heap.size+1+1,0,none⟩ (.int .i64 X.tm)).setCell ⟨w.heap.size+1+1,1,none⟩ (.int .i64 X.nx)).setCell ⟨w.heap.size+1+1,2,none⟩ ((.slice la ps.length lc))).setCell ⟨w.heap.size+1+1,3,none⟩ ((.slice (some ⟨gs,0,none⟩) X.ss.length uc))).setCell ⟨w.heap.size+1+1+1,0,none⟩ (.int .i64 s.k)).setCell ⟨w.heap.size+1+1+1,1,none⟩ (.int .i64 s.t)).setCell ⟨w.heap.size+1+1+1,2,none⟩ (.int .i64 s.h)).setCell ⟨w.heap.size+1+1+1,3,none⟩ (.int .i64 s.e)) w.heap.size (uV p) p.1.ws)∧Wa.OwnS ((((((((wr4.setCell ⟨w.heap.size+1+1,0,none⟩ (.int .i64 X.tm)).setCell ⟨w.heap.size+1+1,1,none⟩ (.int .i64 X.nx)).setCell ⟨w.heap.size+1+1,2,none⟩ ((.slice la ps.length lc))).setCell ⟨w.heap.size+1+1,3,none⟩ ((.slice (some ⟨gs,0,none⟩) X.ss.length uc))).setCell ⟨w.heap.size+1+1+1,0,none⟩ (.int .i64 s.k)).setCell ⟨w.heap.size+1+1+1,1,none⟩ (.int .i64 s.t)).setCell ⟨w.heap.size+1+1+1,2,none⟩ (.int .i64 s.h)).setCell ⟨w.heap.size+1+1+1,3,none⟩ (.int .i64 s.e)) w.heap.size (.slice (some ⟨gs,0,none⟩) X.ss.length uc) X.ss∧ps.map (·.1)=X.ls∧Apart ps):=TM.fin HTF.out (by omega) (fun j hj=>FF j (by omega) (by omega))
      have LFH:Hid (Below w.heap.size w ((((((((wr4.setCell ⟨w.heap.size+1+1,0,none⟩ (.int .i64 X.tm)).setCell ⟨w.heap.size+1+1,1,none⟩ (.int .i64 X.nx)).setCell ⟨w.heap.size+1+1,2,none⟩ ((.slice la ps.length lc))).setCell ⟨w.heap.size+1+1,3,none⟩ ((.slice (some ⟨gs,0,none⟩) X.ss.length uc))).setCell ⟨w.heap.size+1+1+1,0,none⟩ (.int .i64 s.k)).setCell ⟨w.heap.size+1+1+1,1,none⟩ (.int .i64 s.t)).setCell ⟨w.heap.size+1+1+1,2,none⟩ (.int .i64 s.h)).setCell ⟨w.heap.size+1+1+1,3,none⟩ (.int .i64 s.e))):=LF (HBX.out _ (HTF.out.bel)).2.2.2 (by omega) (by omega)
      generalize ((((((((wr4.setCell ⟨w.heap.size+1+1,0,none⟩ (.int .i64 X.tm)).setCell ⟨w.heap.size+1+1,1,none⟩ (.int .i64 X.nx)).setCell ⟨w.heap.size+1+1,2,none⟩ ((.slice la ps.length lc))).setCell ⟨w.heap.size+1+1,3,none⟩ ((.slice (some ⟨gs,0,none⟩) X.ss.length uc))).setCell ⟨w.heap.size+1+1+1,0,none⟩ (.int .i64 s.k)).setCell ⟨w.heap.size+1+1+1,1,none⟩ (.int .i64 s.t)).setCell ⟨w.heap.size+1+1+1,2,none⟩ (.int .i64 s.h)).setCell ⟨w.heap.size+1+1+1,3,none⟩ (.int .i64 s.e))=wf at AF BF KF LFH ⊢
      have d0:=(zAA AF 0 (x:=.int .i64 X.tm) rfl).1
      have d1:=(zAA AF 1 (x:=.int .i64 X.nx) rfl).1
      have d2:=(zAA AF 2 (x:=(.slice la ps.length lc)) rfl).1
      have d3:=(zAA AF 3 (x:=(.slice (some ⟨gs,0,none⟩) X.ss.length uc)) rfl).1
      have e0:=(zAA BF 0 (x:=.int .i64 s.k) rfl).1
      have e1:=(zAA BF 1 (x:=.int .i64 s.t) rfl).1
      have e2:=(zAA BF 2 (x:=.int .i64 s.h) rfl).1
      have e3:=(zAA BF 3 (x:=.int .i64 s.e) rfl).1
      refine bodyPost_ret (v:=.tuple #[.agg #[.int .i64 X.tm,.int .i64 X.nx,(.slice la ps.length lc),(.slice (some ⟨gs,0,none⟩) X.ss.length uc)],.agg #[.int .i64 s.k,.int .i64 s.t,.int .i64 s.h,.int .i64 s.e]]) (by simp [results,Tryz.results62,go_sem,d0,d1,d2,d3,e0,e1,e2,e3]) rfl ?_
      refine ⟨⟨(.slice la ps.length lc),(.slice (some ⟨gs,0,none⟩) X.ss.length uc),ps,?_,KF.out.1,KF.out.2.1,?_,?_,KF.out.2.2.2.2⟩,(by first | exact LFH.out | exact LFH.out.drew)⟩
      ·rw [HAP.out];rfl
      ·rw [HAP.out];exact KF.out.2.2.1
      ·rw [HAP.out];exact KF.out.2.2.2.1
     ·rw [if_neg (fun e=>hst e.symm)] at HAP1
      have hst':(s.s == r.st)=false:=by simp [hst]
      by_cases hgt:r.st<s.s
      ·have HAP:Hid (R=(X,bare 7)):=by show _=_;rw [HAP1,if_pos hgt]
       have hgt':s.s > r.st:=hgt
       clear HAP1 hsc hst hgt
       go_upto_region 3 with fail
       obtain ⟨X1,hX1,W1,QI0,QO0⟩:=Qc.zAo wr
       have QI:Hid (∀ w',Below wr.heap.size wr w'→∃ x,w'=W1 x):=QI0
       have QO:Hid (∀ x,Below wr.heap.size wr (W1 x)):=QO0
       clear QI0 QO0
       have tq:=HX.out _ GR.out
       have y3:=Qc.zAC QO.out (zAA tq.hx 3 (x:=.slice (some ⟨gs,0,none⟩) X.ss.length uc) rfl).1
       have z0:=Qc.zAC QO.out (zAA (HBX.out _ tq.bel).1 0 (x:=.int .i64 r.cl) rfl).1
       have z1:=Qc.zAC QO.out (zAA (HBX.out _ tq.bel).1 1 (x:=.int .i64 r.st) rfl).1
       obtain ⟨gs',cs',es,_,_,_,hcs⟩:=OwnS.atk tq.os HSK.out
       obtain rfl:gs=gs':=by injection es with e1;injection e1 with e1;injection e1
       have s0:∀ q,(W1 q).cell? ⟨gs,j * 6,none⟩=some (.int .i64 s.c):=Qc.zAC QO.out (hcs 0 (.int .i64 s.c) rfl).1
       have s1:=Qc.zAC QO.out (hcs 1 (.int .i64 s.s) rfl).1
       clear hcs es
       clear tq
       refine Qc.zAF (W:=W1) (by kernel_rfl) (by kernel_rfl) (QI.out _ Qc.zAJ) ?_
       repeat (go_big_quiet_step (fail))
       refine wpQuiet_nil ?_
       rintro _ ⟨xq,rfl⟩
       have G:Hid (Below w2.heap.size w2 (W1 xq)):=GR.out.trans ((QO.out xq).mono GR.out.size)
       clear y3 z0 z1 s0 s1 QO QI GR
       generalize W1 xq=wq at G ⊢
       go_upto_region 5 with fail
       obtain ⟨X1,hX1,W1,QI0,QO0⟩:=Qc.zAo wq
       have QI:Hid (∀ w',Below wq.heap.size wq w'→∃ x,w'=W1 x):=QI0
       have QO:Hid (∀ x,Below wq.heap.size wq (W1 x)):=QO0
       clear QI0 QO0
       have tq:=HX.out _ G.out
       have y3:=Qc.zAC QO.out (zAA tq.hx 3 (x:=.slice (some ⟨gs,0,none⟩) X.ss.length uc) rfl).1
       have z0:=Qc.zAC QO.out (zAA (HBX.out _ tq.bel).1 0 (x:=.int .i64 r.cl) rfl).1
       have z1:=Qc.zAC QO.out (zAA (HBX.out _ tq.bel).1 1 (x:=.int .i64 r.st) rfl).1
       obtain ⟨gs',cs',es,_,_,_,hcs⟩:=OwnS.atk tq.os HSK.out
       obtain rfl:gs=gs':=by injection es with e1;injection e1 with e1;injection e1
       have s0:∀ q,(W1 q).cell? ⟨gs,j * 6,none⟩=some (.int .i64 s.c):=Qc.zAC QO.out (hcs 0 (.int .i64 s.c) rfl).1
       have s1:=Qc.zAC QO.out (hcs 1 (.int .i64 s.s) rfl).1
       clear hcs es
       clear tq
       refine Qc.zAF (W:=W1) (by kernel_rfl) (by kernel_rfl) (QI.out _ Qc.zAJ) ?_
       repeat (go_big_quiet_step (fail))
       refine wpQuiet_nil ?_
       rintro _ ⟨xq,rfl⟩
       have G3:Hid (Below w2.heap.size w2 (W1 xq)):=G.out.trans ((QO.out xq).mono G.out.size)
       clear y3 z0 z1 s0 s1 QO QI G
       generalize W1 xq=wr3 at G3 ⊢
       go_upto_region 6 with fail
       obtain ⟨X1,hX1,W1,QI0,QO0⟩:=Qc.zAo wr3
       have QI:Hid (∀ w',Below wr3.heap.size wr3 w'→∃ x,w'=W1 x):=QI0
       have QO:Hid (∀ x,Below wr3.heap.size wr3 (W1 x)):=QO0
       clear QI0 QO0
       have tq:=HX.out _ G3.out
       have y3:=Qc.zAC QO.out (zAA tq.hx 3 (x:=.slice (some ⟨gs,0,none⟩) X.ss.length uc) rfl).1
       have z0:=Qc.zAC QO.out (zAA (HBX.out _ tq.bel).1 0 (x:=.int .i64 r.cl) rfl).1
       have z1:=Qc.zAC QO.out (zAA (HBX.out _ tq.bel).1 1 (x:=.int .i64 r.st) rfl).1
       obtain ⟨gs',cs',es,_,_,_,hcs⟩:=OwnS.atk tq.os HSK.out
       obtain rfl:gs=gs':=by injection es with e1;injection e1 with e1;injection e1
       have s0:∀ q,(W1 q).cell? ⟨gs,j * 6,none⟩=some (.int .i64 s.c):=Qc.zAC QO.out (hcs 0 (.int .i64 s.c) rfl).1
       have s1:=Qc.zAC QO.out (hcs 1 (.int .i64 s.s) rfl).1
       clear hcs es
       clear tq
       refine Qc.zAF (W:=W1) (by kernel_rfl) (by kernel_rfl) (QI.out _ Qc.zAJ) ?_
       repeat (go_big_quiet_step (fail))
       refine wpQuiet_nil ?_
       rintro _ ⟨xq,rfl⟩
       have G5:Hid (Below w2.heap.size w2 (W1 xq)):=G3.out.trans ((QO.out xq).mono G3.out.size)
       clear y3 z0 z1 s0 s1 QO QI G3
       generalize W1 xq=wr5 at G5 ⊢
       go_upto_region 8 with fail
       obtain ⟨X1,hX1,W1,QI0,QO0⟩:=Qc.zAo wr5
       have QI:Hid (∀ w',Below wr5.heap.size wr5 w'→∃ x,w'=W1 x):=QI0
       have QO:Hid (∀ x,Below wr5.heap.size wr5 (W1 x)):=QO0
       clear QI0 QO0
       have tq:=HX.out _ G5.out
       have y3:=Qc.zAC QO.out (zAA tq.hx 3 (x:=.slice (some ⟨gs,0,none⟩) X.ss.length uc) rfl).1
       have z0:=Qc.zAC QO.out (zAA (HBX.out _ tq.bel).1 0 (x:=.int .i64 r.cl) rfl).1
       have z1:=Qc.zAC QO.out (zAA (HBX.out _ tq.bel).1 1 (x:=.int .i64 r.st) rfl).1
       obtain ⟨gs',cs',es,_,_,_,hcs⟩:=OwnS.atk tq.os HSK.out
       obtain rfl:gs=gs':=by injection es with e1;injection e1 with e1;injection e1
       have s0:∀ q,(W1 q).cell? ⟨gs,j * 6,none⟩=some (.int .i64 s.c):=Qc.zAC QO.out (hcs 0 (.int .i64 s.c) rfl).1
       have s1:=Qc.zAC QO.out (hcs 1 (.int .i64 s.s) rfl).1
       clear hcs es
       clear tq
       refine Qc.zAF (W:=W1) (by kernel_rfl) (by kernel_rfl) (QI.out _ Qc.zAJ) ?_
       repeat (go_big_quiet_step (fail))
       refine wpQuiet_nil ?_
       rintro _ ⟨xq,rfl⟩
       have G6:Hid (Below w2.heap.size w2 (W1 xq)):=G5.out.trans ((QO.out xq).mono G5.out.size)
       clear y3 z0 z1 s0 s1 QO QI G5
       generalize W1 xq=wr6 at G6 ⊢
       go_upto_region 9 with fail
       have HTF:Hid (TM wA wr6 wA.heap.size b X (.slice la ps.length lc) (.slice (some ⟨gs,0,none⟩) X.ss.length uc) ps):=HX.out _ G6.out
       have c0:=(zAA HTF.out.hx 0 (x:=.int .i64 X.tm) rfl).1
       have c1:=(zAA HTF.out.hx 1 (x:=.int .i64 X.nx) rfl).1
       have c2:=(zAA HTF.out.hx 2 (x:=.slice la ps.length lc) rfl).1
       have c3:=(zAA HTF.out.hx 3 (x:=.slice (some ⟨gs,0,none⟩) X.ss.length uc) rfl).1
       have hbx:=HBX.out _ HTF.out.bel
       obtain ⟨zt0,ft0⟩:=zAA hbx.2.1 0 (x:=.int .i64 0) rfl
       obtain ⟨zt1,ft1⟩:=zAA hbx.2.1 1 (x:=.int .i64 0) rfl
       obtain ⟨zt2,ft2⟩:=zAA hbx.2.1 2 (x:=.slice none 0 0) rfl
       obtain ⟨zt3,ft3⟩:=zAA hbx.2.1 3 (x:=.slice none 0 0) rfl
       obtain ⟨za0,fa0⟩:=zAA hbx.2.2.1 0 (x:=.int .i64 0) rfl
       obtain ⟨za1,fa1⟩:=zAA hbx.2.2.1 1 (x:=.int .i64 0) rfl
       obtain ⟨za2,fa2⟩:=zAA hbx.2.2.1 2 (x:=.int .i64 0) rfl
       obtain ⟨za3,fa3⟩:=zAA hbx.2.2.1 3 (x:=.int .i64 0) rfl
       clear hbx
       go_wp2_with fail
       have S44:=(set44 (w:=wr6) (a:=w.heap.size+1+1) (b:=w.heap.size+1+1+1) (.int .i64 0) (.int .i64 0) (.slice none 0 0) (.slice none 0 0) (.int .i64 0) (.int .i64 0) (.int .i64 0) (.int .i64 0) (.int .i64 X.tm) (.int .i64 X.nx) ((.slice la ps.length lc)) ((.slice (some ⟨gs,0,none⟩) X.ss.length uc)) (.int .i64 7) (.int .i64 0) (.int .i64 (-1)) (.int .i64 0) (by omega) (HBX.out _ (HTF.out.bel)).2.1 (HBX.out _ (HTF.out.bel)).2.2.1).1
       obtain ⟨AF,BF,FF,LF⟩:=S44
       have KF:Hid (OwnL ((((((((wr6.setCell ⟨w.heap.size+1+1,0,none⟩ (.int .i64 X.tm)).setCell ⟨w.heap.size+1+1,1,none⟩ (.int .i64 X.nx)).setCell ⟨w.heap.size+1+1,2,none⟩ ((.slice la ps.length lc))).setCell ⟨w.heap.size+1+1,3,none⟩ ((.slice (some ⟨gs,0,none⟩) X.ss.length uc))).setCell ⟨w.heap.size+1+1+1,0,none⟩ (.int .i64 7)).setCell ⟨w.heap.size+1+1+1,1,none⟩ (.int .i64 0)).setCell ⟨w.heap.size+1+1+1,2,none⟩ (.int .i64 (-1))).setCell ⟨w.heap.size+1+1+1,3,none⟩ (.int .i64 0)) w.heap.size (.slice la ps.length lc) ps∧(∀ p ∈ ps,Wa.OwnW ((((((((wr6.setCell ⟨w.heap.size+1+1,0,none⟩ (.int .i64 X.tm)).setCell ⟨w.heap.size+1+1,1,none⟩ (.int .i64 X.nx)).setCell ⟨w.heap.size+1+1,2,none⟩ ((.slice la ps.length lc))).setCell ⟨w.heap.size+1+1,3,none⟩ ((.slice (some ⟨gs,0,none⟩) X.ss.length uc))).setCell ⟨w.heap.size+1+1+1,0,none⟩ (.int .i64 7)).setCell ⟨w.heap.size+1+1+1,1,none⟩ (.int .i64 0)).setCell ⟨w.heap.size+1+1+1,2,none⟩ (.int .i64 (-1))).setCell ⟨w.heap.size+1+1+1,3,none⟩ (.int .i64 0)) w.heap.size (uV p) p.1.ws)∧Wa.OwnS ((((((((wr6.setCell ⟨w.heap.size+1+1,0,none⟩ (.int .i64 X.tm)).setCell ⟨w.heap.size+1+1,1,none⟩ (.int .i64 X.nx)).setCell ⟨w.heap.size+1+1,2,none⟩ ((.slice la ps.length lc))).setCell ⟨w.heap.size+1+1,3,none⟩ ((.slice (some ⟨gs,0,none⟩) X.ss.length uc))).setCell ⟨w.heap.size+1+1+1,0,none⟩ (.int .i64 7)).setCell ⟨w.heap.size+1+1+1,1,none⟩ (.int .i64 0)).setCell ⟨w.heap.size+1+1+1,2,none⟩ (.int .i64 (-1))).setCell ⟨w.heap.size+1+1+1,3,none⟩ (.int .i64 0)) w.heap.size (.slice (some ⟨gs,0,none⟩) X.ss.length uc) X.ss∧ps.map (·.1)=X.ls∧Apart ps):=TM.fin HTF.out (by omega) (fun j hj=>FF j (by omega) (by omega))
       have LFH:Hid (Below w.heap.size w ((((((((wr6.setCell ⟨w.heap.size+1+1,0,none⟩ (.int .i64 X.tm)).setCell ⟨w.heap.size+1+1,1,none⟩ (.int .i64 X.nx)).setCell ⟨w.heap.size+1+1,2,none⟩ ((.slice la ps.length lc))).setCell ⟨w.heap.size+1+1,3,none⟩ ((.slice (some ⟨gs,0,none⟩) X.ss.length uc))).setCell ⟨w.heap.size+1+1+1,0,none⟩ (.int .i64 7)).setCell ⟨w.heap.size+1+1+1,1,none⟩ (.int .i64 0)).setCell ⟨w.heap.size+1+1+1,2,none⟩ (.int .i64 (-1))).setCell ⟨w.heap.size+1+1+1,3,none⟩ (.int .i64 0))):=LF (HBX.out _ (HTF.out.bel)).2.2.2 (by omega) (by omega)
       generalize ((((((((wr6.setCell ⟨w.heap.size+1+1,0,none⟩ (.int .i64 X.tm)).setCell ⟨w.heap.size+1+1,1,none⟩ (.int .i64 X.nx)).setCell ⟨w.heap.size+1+1,2,none⟩ ((.slice la ps.length lc))).setCell ⟨w.heap.size+1+1,3,none⟩ ((.slice (some ⟨gs,0,none⟩) X.ss.length uc))).setCell ⟨w.heap.size+1+1+1,0,none⟩ (.int .i64 7)).setCell ⟨w.heap.size+1+1+1,1,none⟩ (.int .i64 0)).setCell ⟨w.heap.size+1+1+1,2,none⟩ (.int .i64 (-1))).setCell ⟨w.heap.size+1+1+1,3,none⟩ (.int .i64 0))=wf at AF BF KF LFH ⊢
       have d0:=(zAA AF 0 (x:=.int .i64 X.tm) rfl).1
       have d1:=(zAA AF 1 (x:=.int .i64 X.nx) rfl).1
       have d2:=(zAA AF 2 (x:=(.slice la ps.length lc)) rfl).1
       have d3:=(zAA AF 3 (x:=(.slice (some ⟨gs,0,none⟩) X.ss.length uc)) rfl).1
       have e0:=(zAA BF 0 (x:=.int .i64 7) rfl).1
       have e1:=(zAA BF 1 (x:=.int .i64 0) rfl).1
       have e2:=(zAA BF 2 (x:=.int .i64 (-1)) rfl).1
       have e3:=(zAA BF 3 (x:=.int .i64 0) rfl).1
       refine bodyPost_ret (v:=.tuple #[.agg #[.int .i64 X.tm,.int .i64 X.nx,(.slice la ps.length lc),(.slice (some ⟨gs,0,none⟩) X.ss.length uc)],.agg #[.int .i64 7,.int .i64 0,.int .i64 (-1),.int .i64 0]]) (by simp [results,Tryz.results62,go_sem,d0,d1,d2,d3,e0,e1,e2,e3]) rfl ?_
       refine ⟨⟨(.slice la ps.length lc),(.slice (some ⟨gs,0,none⟩) X.ss.length uc),ps,?_,KF.out.1,KF.out.2.1,?_,?_,KF.out.2.2.2.2⟩,(by first | exact LFH.out | exact LFH.out.drew)⟩
       ·rw [HAP.out];rfl
       ·rw [HAP.out];exact KF.out.2.2.1
       ·rw [HAP.out];exact KF.out.2.2.2.1
      ·have HAP:Hid (R=({ (doT X r).1 with ss:=X.ss.set j (sn r (doT X r).2) },(doT X r).2)):=by show _=_;rw [HAP1,if_neg hgt]
       have hgt':¬ s.s > r.st:=hgt
       clear HAP1 hsc hst hgt
       go_upto_region 3 with fail
       obtain ⟨X1,hX1,W1,QI0,QO0⟩:=Qc.zAo wr
       have QI:Hid (∀ w',Below wr.heap.size wr w'→∃ x,w'=W1 x):=QI0
       have QO:Hid (∀ x,Below wr.heap.size wr (W1 x)):=QO0
       clear QI0 QO0
       have tq:=HX.out _ GR.out
       have y3:=Qc.zAC QO.out (zAA tq.hx 3 (x:=.slice (some ⟨gs,0,none⟩) X.ss.length uc) rfl).1
       have z0:=Qc.zAC QO.out (zAA (HBX.out _ tq.bel).1 0 (x:=.int .i64 r.cl) rfl).1
       have z1:=Qc.zAC QO.out (zAA (HBX.out _ tq.bel).1 1 (x:=.int .i64 r.st) rfl).1
       obtain ⟨gs',cs',es,_,_,_,hcs⟩:=OwnS.atk tq.os HSK.out
       obtain rfl:gs=gs':=by injection es with e1;injection e1 with e1;injection e1
       have s0:∀ q,(W1 q).cell? ⟨gs,j * 6,none⟩=some (.int .i64 s.c):=Qc.zAC QO.out (hcs 0 (.int .i64 s.c) rfl).1
       have s1:=Qc.zAC QO.out (hcs 1 (.int .i64 s.s) rfl).1
       clear hcs es
       clear tq
       refine Qc.zAF (W:=W1) (by kernel_rfl) (by kernel_rfl) (QI.out _ Qc.zAJ) ?_
       repeat (go_big_quiet_step (fail))
       refine wpQuiet_nil ?_
       rintro _ ⟨xq,rfl⟩
       have G:Hid (Below w2.heap.size w2 (W1 xq)):=GR.out.trans ((QO.out xq).mono GR.out.size)
       clear y3 z0 z1 s0 s1 QO QI GR
       generalize W1 xq=wq at G ⊢
       go_upto_region 5 with fail
       obtain ⟨X1,hX1,W1,QI0,QO0⟩:=Qc.zAo wq
       have QI:Hid (∀ w',Below wq.heap.size wq w'→∃ x,w'=W1 x):=QI0
       have QO:Hid (∀ x,Below wq.heap.size wq (W1 x)):=QO0
       clear QI0 QO0
       have tq:=HX.out _ G.out
       have y3:=Qc.zAC QO.out (zAA tq.hx 3 (x:=.slice (some ⟨gs,0,none⟩) X.ss.length uc) rfl).1
       have z0:=Qc.zAC QO.out (zAA (HBX.out _ tq.bel).1 0 (x:=.int .i64 r.cl) rfl).1
       have z1:=Qc.zAC QO.out (zAA (HBX.out _ tq.bel).1 1 (x:=.int .i64 r.st) rfl).1
       obtain ⟨gs',cs',es,_,_,_,hcs⟩:=OwnS.atk tq.os HSK.out
       obtain rfl:gs=gs':=by injection es with e1;injection e1 with e1;injection e1
       have s0:∀ q,(W1 q).cell? ⟨gs,j * 6,none⟩=some (.int .i64 s.c):=Qc.zAC QO.out (hcs 0 (.int .i64 s.c) rfl).1
       have s1:=Qc.zAC QO.out (hcs 1 (.int .i64 s.s) rfl).1
       clear hcs es
       clear tq
       refine Qc.zAF (W:=W1) (by kernel_rfl) (by kernel_rfl) (QI.out _ Qc.zAJ) ?_
       repeat (go_big_quiet_step (fail))
       refine wpQuiet_nil ?_
       rintro _ ⟨xq,rfl⟩
       have G3:Hid (Below w2.heap.size w2 (W1 xq)):=G.out.trans ((QO.out xq).mono G.out.size)
       clear y3 z0 z1 s0 s1 QO QI G
       generalize W1 xq=wr3 at G3 ⊢
       go_upto_region 6 with fail
       obtain ⟨X1,hX1,W1,QI0,QO0⟩:=Qc.zAo wr3
       have QI:Hid (∀ w',Below wr3.heap.size wr3 w'→∃ x,w'=W1 x):=QI0
       have QO:Hid (∀ x,Below wr3.heap.size wr3 (W1 x)):=QO0
       clear QI0 QO0
       have tq:=HX.out _ G3.out
       have y3:=Qc.zAC QO.out (zAA tq.hx 3 (x:=.slice (some ⟨gs,0,none⟩) X.ss.length uc) rfl).1
       have z0:=Qc.zAC QO.out (zAA (HBX.out _ tq.bel).1 0 (x:=.int .i64 r.cl) rfl).1
       have z1:=Qc.zAC QO.out (zAA (HBX.out _ tq.bel).1 1 (x:=.int .i64 r.st) rfl).1
       obtain ⟨gs',cs',es,_,_,_,hcs⟩:=OwnS.atk tq.os HSK.out
       obtain rfl:gs=gs':=by injection es with e1;injection e1 with e1;injection e1
       have s0:∀ q,(W1 q).cell? ⟨gs,j * 6,none⟩=some (.int .i64 s.c):=Qc.zAC QO.out (hcs 0 (.int .i64 s.c) rfl).1
       have s1:=Qc.zAC QO.out (hcs 1 (.int .i64 s.s) rfl).1
       clear hcs es
       clear tq
       refine Qc.zAF (W:=W1) (by kernel_rfl) (by kernel_rfl) (QI.out _ Qc.zAJ) ?_
       repeat (go_big_quiet_step (fail))
       refine wpQuiet_nil ?_
       rintro _ ⟨xq,rfl⟩
       have G5:Hid (Below w2.heap.size w2 (W1 xq)):=G3.out.trans ((QO.out xq).mono G3.out.size)
       clear y3 z0 z1 s0 s1 QO QI G3
       generalize W1 xq=wr5 at G5 ⊢
       go_upto_region 8 with fail
       obtain ⟨X1,hX1,W1,QI0,QO0⟩:=Qc.zAo wr5
       have QI:Hid (∀ w',Below wr5.heap.size wr5 w'→∃ x,w'=W1 x):=QI0
       have QO:Hid (∀ x,Below wr5.heap.size wr5 (W1 x)):=QO0
       clear QI0 QO0
       have tq:=HX.out _ G5.out
       have y3:=Qc.zAC QO.out (zAA tq.hx 3 (x:=.slice (some ⟨gs,0,none⟩) X.ss.length uc) rfl).1
       have z0:=Qc.zAC QO.out (zAA (HBX.out _ tq.bel).1 0 (x:=.int .i64 r.cl) rfl).1
       have z1:=Qc.zAC QO.out (zAA (HBX.out _ tq.bel).1 1 (x:=.int .i64 r.st) rfl).1
       obtain ⟨gs',cs',es,_,_,_,hcs⟩:=OwnS.atk tq.os HSK.out
       obtain rfl:gs=gs':=by injection es with e1;injection e1 with e1;injection e1
       have s0:∀ q,(W1 q).cell? ⟨gs,j * 6,none⟩=some (.int .i64 s.c):=Qc.zAC QO.out (hcs 0 (.int .i64 s.c) rfl).1
       have s1:=Qc.zAC QO.out (hcs 1 (.int .i64 s.s) rfl).1
       clear hcs es
       clear tq
       refine Qc.zAF (W:=W1) (by kernel_rfl) (by kernel_rfl) (QI.out _ Qc.zAJ) ?_
       repeat (go_big_quiet_step (fail))
       refine wpQuiet_nil ?_
       rintro _ ⟨xq,rfl⟩
       have G6:Hid (Below w2.heap.size w2 (W1 xq)):=G5.out.trans ((QO.out xq).mono G5.out.size)
       clear y3 z0 z1 s0 s1 QO QI G5
       generalize W1 xq=wr6 at G6 ⊢
       go_upto_region 10 with fail
       go_upto_region 12 with fail
       obtain ⟨D,HD⟩ : ∃ D,Hid (doT X r=D):=⟨_,rfl⟩
       rw [HD.out] at HAP HDS
       have HDO:=l05Do_any (HX.out _ G6.out) HXO.out.1 HXO.out.2 r HRO.out
       rw [HD.out] at HDO
       have qr:=(HBX.out _ (HX.out _ G6.out).bel).1
       have c0:=(zAA qr 0 (x:=.int .i64 r.cl) rfl).1
       have c1:=(zAA qr 1 (x:=.int .i64 r.st) rfl).1
       have c2:=(zAA qr 2 (x:=.int .i64 r.kd) rfl).1
       have c3:=(zAA qr 3 (x:=.int .i64 r.le) rfl).1
       have c4:=(zAA qr 4 (x:=.string r.nm) rfl).1
       clear qr
       go_wp2_with fail
       refine HDO.mono ?_
       rintro e w5 ⟨rfl,⟨u2,u3,qs,t5⟩,_⟩
       obtain ⟨xa,xc,rfl⟩:=t5.ol.slice
       clear HDO c0 c1 c2 c3 c4
       have sA:(w5.alloc (.cells #[.int .i64 D.2.k,.int .i64 D.2.t,.int .i64 D.2.h,.int .i64 D.2.e] 100)).heap.size=w5.heap.size+1:=by simp
       have bA:=zAD w5 (.cells #[.int .i64 D.2.k,.int .i64 D.2.t,.int .i64 D.2.h,.int .i64 D.2.e] 100)
       have bS:=zAD (w5.alloc (.cells #[.int .i64 D.2.k,.int .i64 D.2.t,.int .i64 D.2.h,.int .i64 D.2.e] 100)) (.cells #[.int .i64 r.cl,.int .i64 r.st,.int .i64 D.2.k,.int .i64 D.2.t,.int .i64 D.2.h,.int .i64 D.2.e] 102)
       have HX6:Hid (∀ W,Below ((w5.alloc (.cells #[.int .i64 D.2.k,.int .i64 D.2.t,.int .i64 D.2.h,.int .i64 D.2.e] 100)).alloc (.cells #[.int .i64 r.cl,.int .i64 r.st,.int .i64 D.2.k,.int .i64 D.2.t,.int .i64 D.2.h,.int .i64 D.2.e] 102)).heap.size ((w5.alloc (.cells #[.int .i64 D.2.k,.int .i64 D.2.t,.int .i64 D.2.h,.int .i64 D.2.e] 100)).alloc (.cells #[.int .i64 r.cl,.int .i64 r.st,.int .i64 D.2.k,.int .i64 D.2.t,.int .i64 D.2.h,.int .i64 D.2.e] 102)) W→TM wA W wA.heap.size b D.1 (.slice xa qs.length xc) u3 qs∧W.heap[w5.heap.size]?=some (.cells #[.int .i64 D.2.k,.int .i64 D.2.t,.int .i64 D.2.h,.int .i64 D.2.e] 100 (0,0))∧W.heap[w5.heap.size+1]?=some (.cells #[.int .i64 r.cl,.int .i64 r.st,.int .i64 D.2.k,.int .i64 D.2.t,.int .i64 D.2.h,.int .i64 D.2.e] 102 (0,0))):=fun W hW=>by
        have b6:=bA.trans (bS.mono bA.size)
        refine ⟨t5.up (b6.trans (hW.mono b6.size)),?_,?_⟩
        ·rw [hW.block _ (by simp;omega),bS.block _ (by simp)];exact zAK _ _ _
        ·rw [hW.block _ (by simp),← sA];exact zAK _ _ _
       have hq5:=(HBX.out _ (t5.up bA).bel).1
       have c0:=(zAA hq5 0 (x:=.int .i64 r.cl) rfl).1
       have c1:=(zAA hq5 1 (x:=.int .i64 r.st) rfl).1
       have hw5:wA.heap.size≤w5.heap.size:=t5.bel.size
       clear t5 bA bS sA hq5
       go_upto_region 14 with fail
       clear c0 c1
       generalize ((w5.alloc (.cells #[.int .i64 D.2.k,.int .i64 D.2.t,.int .i64 D.2.h,.int .i64 D.2.e] 100)).alloc (.cells #[.int .i64 r.cl,.int .i64 r.st,.int .i64 D.2.k,.int .i64 D.2.t,.int .i64 D.2.h,.int .i64 D.2.e] 102))=w6 at HX6 ⊢
       generalize w5.heap.size=ab at HX6 hw5 ⊢
       obtain ⟨U,HU⟩ : ∃ U:Tab,Hid ({ D.1 with ss:=X.ss.set j (sn r D.2) }=U):=⟨_,rfl⟩
       rw [HU.out] at HAP
       obtain ⟨t6,qa,qb⟩:=HX6.out w6 (Below.refl _ _)
       have hds:D.1.ss[j]?=some s:=by rw [HDS.out];exact HSK.out
       obtain ⟨gd,cd,ed,hgd,_,⟨cl,hcl⟩,hcd⟩:=OwnS.atk t6.os hds
       subst ed
       have hdl:D.1.ss.length=X.ss.length:=by rw [HDS.out]
       rw [hdl] at t6 HX6
       have x3:=(zAA t6.hx 3 (x:=.slice (some ⟨gd,0,none⟩) X.ss.length cd) rfl).1
       have k0:=(zAA qb 0 (x:=.int .i64 r.cl) rfl).1
       have k1:=(zAA qb 1 (x:=.int .i64 r.st) rfl).1
       have k2:=(zAA qb 2 (x:=.int .i64 D.2.k) rfl).1
       have k3:=(zAA qb 3 (x:=.int .i64 D.2.t) rfl).1
       have k4:=(zAA qb 4 (x:=.int .i64 D.2.h) rfl).1
       have k5:=(zAA qb 5 (x:=.int .i64 D.2.e) rfl).1
       obtain ⟨o0,f0⟩ : w6.cell? ⟨gd,j * 6,none⟩=some (.int .i64 s.c)∧w6.frozen? ⟨gd,j * 6,none⟩=false:=hcd 0 _ rfl
       obtain ⟨o1,f1⟩ : w6.cell? ⟨gd,j * 6+1,none⟩=some (.int .i64 s.s)∧w6.frozen? ⟨gd,j * 6+1,none⟩=false:=hcd 1 _ rfl
       obtain ⟨o2,f2⟩ : w6.cell? ⟨gd,j * 6+2,none⟩=some (.int .i64 s.k)∧w6.frozen? ⟨gd,j * 6+2,none⟩=false:=hcd 2 _ rfl
       obtain ⟨o3,f3⟩ : w6.cell? ⟨gd,j * 6+3,none⟩=some (.int .i64 s.t)∧w6.frozen? ⟨gd,j * 6+3,none⟩=false:=hcd 3 _ rfl
       obtain ⟨o4,f4⟩ : w6.cell? ⟨gd,j * 6+4,none⟩=some (.int .i64 s.h)∧w6.frozen? ⟨gd,j * 6+4,none⟩=false:=hcd 4 _ rfl
       obtain ⟨o5,f5⟩ : w6.cell? ⟨gd,j * 6+5,none⟩=some (.int .i64 s.e)∧w6.frozen? ⟨gd,j * 6+5,none⟩=false:=hcd 5 _ rfl
       have T7:=t6.sput6 (s':=sn r D.2) hds
       have hne:ab ≠ gd:=fun e=>zAO qa hcl (by decide) e
       have Q7:Hid (((((((w6.setCell ⟨gd,j * 6,none⟩ (.int .i64 r.cl)).setCell ⟨gd,j * 6+1,none⟩ (.int .i64 r.st)).setCell ⟨gd,j * 6+2,none⟩ (.int .i64 D.2.k)).setCell ⟨gd,j * 6+3,none⟩ (.int .i64 D.2.t)).setCell ⟨gd,j * 6+4,none⟩ (.int .i64 D.2.h)).setCell ⟨gd,j * 6+5,none⟩ (.int .i64 D.2.e)).heap[ab]?=some (.cells #[.int .i64 D.2.k,.int .i64 D.2.t,.int .i64 D.2.h,.int .i64 D.2.e] 100 (0,0))):=(zBW hne _ _).trans ((zBW hne _ _).trans ((zBW hne _ _).trans ((zBW hne _ _).trans ((zBW hne _ _).trans ((zBW hne _ _).trans qa)))))
       have HTF:Hid (TM wA ((((((w6.setCell ⟨gd,j * 6,none⟩ (.int .i64 r.cl)).setCell ⟨gd,j * 6+1,none⟩ (.int .i64 r.st)).setCell ⟨gd,j * 6+2,none⟩ (.int .i64 D.2.k)).setCell ⟨gd,j * 6+3,none⟩ (.int .i64 D.2.t)).setCell ⟨gd,j * 6+4,none⟩ (.int .i64 D.2.h)).setCell ⟨gd,j * 6+5,none⟩ (.int .i64 D.2.e)) wA.heap.size b U (.slice xa qs.length xc) (.slice (some ⟨gd,0,none⟩) X.ss.length cd) qs):=by
        have T8:=T7
        rw [HDS.out] at T8
        rw [← HU.out];exact T8
       clear t6 qa qb hcd hcl T7 hne HX6 hds
       go_upto_region 17 with fail
       clear x3
       generalize ((((((w6.setCell ⟨gd,j * 6,none⟩ (.int .i64 r.cl)).setCell ⟨gd,j * 6+1,none⟩ (.int .i64 r.st)).setCell ⟨gd,j * 6+2,none⟩ (.int .i64 D.2.k)).setCell ⟨gd,j * 6+3,none⟩ (.int .i64 D.2.t)).setCell ⟨gd,j * 6+4,none⟩ (.int .i64 D.2.h)).setCell ⟨gd,j * 6+5,none⟩ (.int .i64 D.2.e))=w7 at HTF Q7 ⊢
       have HS7:Hid (∀ W:World,(∀ i,wA.heap.size≤i→W.heap[i]?=w7.heap[i]?)→(W.cell? ⟨b,0,none⟩=some (.int .i64 U.tm)∧W.cell? ⟨b,1,none⟩=some (.int .i64 U.nx)∧W.cell? ⟨b,2,none⟩=some (.slice xa qs.length xc)∧W.cell? ⟨b,3,none⟩=some (.slice (some ⟨gd,0,none⟩) X.ss.length cd))∧W.cell? ⟨ab,0,none⟩=some (.int .i64 D.2.k)∧W.cell? ⟨ab,1,none⟩=some (.int .i64 D.2.t)∧W.cell? ⟨ab,2,none⟩=some (.int .i64 D.2.h)∧W.cell? ⟨ab,3,none⟩=some (.int .i64 D.2.e)):=fun W hW=>by
        have e1:=(hW b hbA).trans HTF.out.hx
        have e2:=(hW ab hw5).trans Q7.out
        exact ⟨⟨(zAA e1 0 rfl).1,(zAA e1 1 rfl).1,(zAA e1 2 rfl).1,(zAA e1 3 rfl).1⟩,(zAA e2 0 rfl).1,(zAA e2 1 rfl).1,(zAA e2 2 rfl).1,(zAA e2 3 rfl).1⟩
       have hbx:=HBX.out _ HTF.out.bel
       obtain ⟨zt0,ft0⟩:=zAA hbx.2.1 0 (x:=.int .i64 0) rfl
       obtain ⟨zt1,ft1⟩:=zAA hbx.2.1 1 (x:=.int .i64 0) rfl
       obtain ⟨zt2,ft2⟩:=zAA hbx.2.1 2 (x:=.slice none 0 0) rfl
       obtain ⟨zt3,ft3⟩:=zAA hbx.2.1 3 (x:=.slice none 0 0) rfl
       obtain ⟨za0,fa0⟩:=zAA hbx.2.2.1 0 (x:=.int .i64 0) rfl
       obtain ⟨za1,fa1⟩:=zAA hbx.2.2.1 1 (x:=.int .i64 0) rfl
       obtain ⟨za2,fa2⟩:=zAA hbx.2.2.1 2 (x:=.int .i64 0) rfl
       obtain ⟨za3,fa3⟩:=zAA hbx.2.2.1 3 (x:=.int .i64 0) rfl
       clear hbx
       refine wp_region_noPanic ?_
       refine zAq 3 (S:=fun W=>(W.cell? ⟨b,0,none⟩=some (.int .i64 U.tm)∧W.cell? ⟨b,1,none⟩=some (.int .i64 U.nx)∧W.cell? ⟨b,2,none⟩=some (.slice xa qs.length xc)∧W.cell? ⟨b,3,none⟩=some (.slice (some ⟨gd,0,none⟩) X.ss.length cd))∧W.cell? ⟨ab,0,none⟩=some (.int .i64 D.2.k)∧W.cell? ⟨ab,1,none⟩=some (.int .i64 D.2.t)∧W.cell? ⟨ab,2,none⟩=some (.int .i64 D.2.h)∧W.cell? ⟨ab,3,none⟩=some (.int .i64 D.2.e)) (by kernel_rfl) (HS7.out _ (fun _ _=>rfl)) (fun hHeld=>?_)
       refine tz 0 ⟨some 125,.load 26 (.tmp 8),26,"l05_locks.go:206",#[],none⟩ ?_ ?_ hHeld ?_
       rotate_left
       ·rintro wz ⟨⟨y0,y1,y2,y3⟩,y4,y5,y6,y7⟩;go_simp;try (with_reducible rfl)
       simp only [Act.put,sA,sB,sC]
       refine tz 1 ⟨some 126,.load 100 (.tmp 11),100,"l05_locks.go:206",#[⟨2,.gcOnly .lateStores⟩],none⟩ ?_ ?_ hHeld ?_
       rotate_left
       ·rintro wz ⟨⟨y0,y1,y2,y3⟩,y4,y5,y6,y7⟩;go_simp;try (with_reducible rfl)
       simp only [Act.put,sA,sB,sC]
       refine zAM (rs:=[2]) (by kernel_rfl) (by simp) ?_
       refine (ReadyZ.cons (o:=⟨none,.store 26 (.tmp 6) (.tmp 125),0,"l05_locks.go:206",#[⟨0,.data⟩,⟨0,.phase⟩,⟨1,.textOnly .lateStores⟩],none⟩) rfl (fun K hK=>?_) ReadyZ.nil)
       go_simp
       refine hK.out _ _ ?_ (fun hHeld=>?_)
       ·exact HS7.out _ (fun i hi=>far4 (w:=w7.drew) (by omega) _ _ _ _)
       clear hK K
       (try simp only [Act.put,sA,sB,sC])
       refine zAM (rs:=[3]) (by kernel_rfl) (by simp) ?_
       refine ReadyZ.last (o:=⟨none,.store 100 (.tmp 7) (.tmp 126),0,"l05_locks.go:206",#[⟨1,.data⟩,⟨2,.chain⟩,⟨0,.phase⟩,⟨1,.phase⟩,⟨2,.phase⟩],none⟩) rfl (fun K hK=>?_)
       go_simp
       refine hK.out _ _ ?_
       clear hK K
       (try simp only [Act.put,sA,sB,sC])
       refine zBb (by kernel_rfl) ?_ _
       refine NoPanic.normal ?_
       clear hHeld HS7
       go_wp2_with fail
       have S44:=(set44 (w:=w7) (a:=w.heap.size+1+1) (b:=w.heap.size+1+1+1) (.int .i64 0) (.int .i64 0) (.slice none 0 0) (.slice none 0 0) (.int .i64 0) (.int .i64 0) (.int .i64 0) (.int .i64 0) (.int .i64 U.tm) (.int .i64 U.nx) ((.slice xa qs.length xc)) ((.slice (some ⟨gd,0,none⟩) X.ss.length cd)) (.int .i64 D.2.k) (.int .i64 D.2.t) (.int .i64 D.2.h) (.int .i64 D.2.e) (by omega) (HBX.out _ (HTF.out.bel)).2.1 (HBX.out _ (HTF.out.bel)).2.2.1).1
       obtain ⟨AF,BF,FF,LF⟩:=S44
       have KF:Hid (OwnL ((((((((w7.setCell ⟨w.heap.size+1+1,0,none⟩ (.int .i64 U.tm)).setCell ⟨w.heap.size+1+1,1,none⟩ (.int .i64 U.nx)).setCell ⟨w.heap.size+1+1,2,none⟩ ((.slice xa qs.length xc))).setCell ⟨w.heap.size+1+1,3,none⟩ ((.slice (some ⟨gd,0,none⟩) X.ss.length cd))).setCell ⟨w.heap.size+1+1+1,0,none⟩ (.int .i64 D.2.k)).setCell ⟨w.heap.size+1+1+1,1,none⟩ (.int .i64 D.2.t)).setCell ⟨w.heap.size+1+1+1,2,none⟩ (.int .i64 D.2.h)).setCell ⟨w.heap.size+1+1+1,3,none⟩ (.int .i64 D.2.e)) w.heap.size (.slice xa qs.length xc) qs∧(∀ p ∈ qs,Wa.OwnW ((((((((w7.setCell ⟨w.heap.size+1+1,0,none⟩ (.int .i64 U.tm)).setCell ⟨w.heap.size+1+1,1,none⟩ (.int .i64 U.nx)).setCell ⟨w.heap.size+1+1,2,none⟩ ((.slice xa qs.length xc))).setCell ⟨w.heap.size+1+1,3,none⟩ ((.slice (some ⟨gd,0,none⟩) X.ss.length cd))).setCell ⟨w.heap.size+1+1+1,0,none⟩ (.int .i64 D.2.k)).setCell ⟨w.heap.size+1+1+1,1,none⟩ (.int .i64 D.2.t)).setCell ⟨w.heap.size+1+1+1,2,none⟩ (.int .i64 D.2.h)).setCell ⟨w.heap.size+1+1+1,3,none⟩ (.int .i64 D.2.e)) w.heap.size (uV p) p.1.ws)∧Wa.OwnS ((((((((w7.setCell ⟨w.heap.size+1+1,0,none⟩ (.int .i64 U.tm)).setCell ⟨w.heap.size+1+1,1,none⟩ (.int .i64 U.nx)).setCell ⟨w.heap.size+1+1,2,none⟩ ((.slice xa qs.length xc))).setCell ⟨w.heap.size+1+1,3,none⟩ ((.slice (some ⟨gd,0,none⟩) X.ss.length cd))).setCell ⟨w.heap.size+1+1+1,0,none⟩ (.int .i64 D.2.k)).setCell ⟨w.heap.size+1+1+1,1,none⟩ (.int .i64 D.2.t)).setCell ⟨w.heap.size+1+1+1,2,none⟩ (.int .i64 D.2.h)).setCell ⟨w.heap.size+1+1+1,3,none⟩ (.int .i64 D.2.e)) w.heap.size (.slice (some ⟨gd,0,none⟩) X.ss.length cd) U.ss∧qs.map (·.1)=U.ls∧Apart qs):=TM.fin HTF.out (by omega) (fun j hj=>FF j (by omega) (by omega))
       have LFH:Hid (Below w.heap.size w ((((((((w7.setCell ⟨w.heap.size+1+1,0,none⟩ (.int .i64 U.tm)).setCell ⟨w.heap.size+1+1,1,none⟩ (.int .i64 U.nx)).setCell ⟨w.heap.size+1+1,2,none⟩ ((.slice xa qs.length xc))).setCell ⟨w.heap.size+1+1,3,none⟩ ((.slice (some ⟨gd,0,none⟩) X.ss.length cd))).setCell ⟨w.heap.size+1+1+1,0,none⟩ (.int .i64 D.2.k)).setCell ⟨w.heap.size+1+1+1,1,none⟩ (.int .i64 D.2.t)).setCell ⟨w.heap.size+1+1+1,2,none⟩ (.int .i64 D.2.h)).setCell ⟨w.heap.size+1+1+1,3,none⟩ (.int .i64 D.2.e))):=LF (HBX.out _ (HTF.out.bel)).2.2.2 (by omega) (by omega)
       generalize ((((((((w7.setCell ⟨w.heap.size+1+1,0,none⟩ (.int .i64 U.tm)).setCell ⟨w.heap.size+1+1,1,none⟩ (.int .i64 U.nx)).setCell ⟨w.heap.size+1+1,2,none⟩ ((.slice xa qs.length xc))).setCell ⟨w.heap.size+1+1,3,none⟩ ((.slice (some ⟨gd,0,none⟩) X.ss.length cd))).setCell ⟨w.heap.size+1+1+1,0,none⟩ (.int .i64 D.2.k)).setCell ⟨w.heap.size+1+1+1,1,none⟩ (.int .i64 D.2.t)).setCell ⟨w.heap.size+1+1+1,2,none⟩ (.int .i64 D.2.h)).setCell ⟨w.heap.size+1+1+1,3,none⟩ (.int .i64 D.2.e))=wf at AF BF KF LFH ⊢
       have d0:=(zAA AF 0 (x:=.int .i64 U.tm) rfl).1
       have d1:=(zAA AF 1 (x:=.int .i64 U.nx) rfl).1
       have d2:=(zAA AF 2 (x:=(.slice xa qs.length xc)) rfl).1
       have d3:=(zAA AF 3 (x:=(.slice (some ⟨gd,0,none⟩) X.ss.length cd)) rfl).1
       have e0:=(zAA BF 0 (x:=.int .i64 D.2.k) rfl).1
       have e1:=(zAA BF 1 (x:=.int .i64 D.2.t) rfl).1
       have e2:=(zAA BF 2 (x:=.int .i64 D.2.h) rfl).1
       have e3:=(zAA BF 3 (x:=.int .i64 D.2.e) rfl).1
       refine bodyPost_ret (v:=.tuple #[.agg #[.int .i64 U.tm,.int .i64 U.nx,(.slice xa qs.length xc),(.slice (some ⟨gd,0,none⟩) X.ss.length cd)],.agg #[.int .i64 D.2.k,.int .i64 D.2.t,.int .i64 D.2.h,.int .i64 D.2.e]]) (by simp [results,Tryz.results62,go_sem,d0,d1,d2,d3,e0,e1,e2,e3]) rfl ?_
       refine ⟨⟨(.slice xa qs.length xc),(.slice (some ⟨gd,0,none⟩) X.ss.length cd),qs,?_,KF.out.1,KF.out.2.1,?_,?_,KF.out.2.2.2.2⟩,(by first | exact LFH.out | exact LFH.out.drew)⟩
       ·rw [HAP.out]
       ·rw [HAP.out];exact KF.out.2.2.1
       ·rw [HAP.out];exact KF.out.2.2.2.1
    focus
     have hi:=seen_none HK.out HSS.out (fun s' hs' e=>hsc (by rw [HSK.out] at hs';cases hs';exact e))
     rw [hi] at HAP1
     simp only [HK.out] at HAP1
     have hsc':(s.c == r.cl)=false:=by simp [hsc]
     clear hi hsc
     go_upto_region 3 with fail
     obtain ⟨X1,hX1,W1,QI0,QO0⟩:=Qc.zAo wr
     have QI:Hid (∀ w',Below wr.heap.size wr w'→∃ x,w'=W1 x):=QI0
     have QO:Hid (∀ x,Below wr.heap.size wr (W1 x)):=QO0
     clear QI0 QO0
     have tq:=HX.out _ GR.out
     have y3:=Qc.zAC QO.out (zAA tq.hx 3 (x:=.slice (some ⟨gs,0,none⟩) X.ss.length uc) rfl).1
     have z0:=Qc.zAC QO.out (zAA (HBX.out _ tq.bel).1 0 (x:=.int .i64 r.cl) rfl).1
     have z1:=Qc.zAC QO.out (zAA (HBX.out _ tq.bel).1 1 (x:=.int .i64 r.st) rfl).1
     obtain ⟨gs',cs',es,_,_,_,hcs⟩:=OwnS.atk tq.os HSK.out
     obtain rfl:gs=gs':=by injection es with e1;injection e1 with e1;injection e1
     have s0:∀ q,(W1 q).cell? ⟨gs,j * 6,none⟩=some (.int .i64 s.c):=Qc.zAC QO.out (hcs 0 (.int .i64 s.c) rfl).1
     have s1:=Qc.zAC QO.out (hcs 1 (.int .i64 s.s) rfl).1
     clear hcs es
     clear tq
     refine Qc.zAF (W:=W1) (by kernel_rfl) (by kernel_rfl) (QI.out _ Qc.zAJ) ?_
     repeat (go_big_quiet_step (fail))
     refine wpQuiet_nil ?_
     rintro _ ⟨xq,rfl⟩
     have G:Hid (Below w2.heap.size w2 (W1 xq)):=GR.out.trans ((QO.out xq).mono GR.out.size)
     clear y3 z0 z1 s0 s1 QO QI GR
     generalize W1 xq=wq at G ⊢
     go_upto_region 5 with fail
     obtain ⟨X1,hX1,W1,QI0,QO0⟩:=Qc.zAo wq
     have QI:Hid (∀ w',Below wq.heap.size wq w'→∃ x,w'=W1 x):=QI0
     have QO:Hid (∀ x,Below wq.heap.size wq (W1 x)):=QO0
     clear QI0 QO0
     have tq:=HX.out _ G.out
     have y3:=Qc.zAC QO.out (zAA tq.hx 3 (x:=.slice (some ⟨gs,0,none⟩) X.ss.length uc) rfl).1
     have z0:=Qc.zAC QO.out (zAA (HBX.out _ tq.bel).1 0 (x:=.int .i64 r.cl) rfl).1
     have z1:=Qc.zAC QO.out (zAA (HBX.out _ tq.bel).1 1 (x:=.int .i64 r.st) rfl).1
     obtain ⟨gs',cs',es,_,_,_,hcs⟩:=OwnS.atk tq.os HSK.out
     obtain rfl:gs=gs':=by injection es with e1;injection e1 with e1;injection e1
     have s0:∀ q,(W1 q).cell? ⟨gs,j * 6,none⟩=some (.int .i64 s.c):=Qc.zAC QO.out (hcs 0 (.int .i64 s.c) rfl).1
     have s1:=Qc.zAC QO.out (hcs 1 (.int .i64 s.s) rfl).1
     clear hcs es
     clear tq
     refine Qc.zAF (W:=W1) (by kernel_rfl) (by kernel_rfl) (QI.out _ Qc.zAJ) ?_
     repeat (go_big_quiet_step (fail))
     refine wpQuiet_nil ?_
     rintro _ ⟨xq,rfl⟩
     have G3:Hid (Below w2.heap.size w2 (W1 xq)):=G.out.trans ((QO.out xq).mono G.out.size)
     clear y3 z0 z1 s0 s1 QO QI G
     generalize W1 xq=wr3 at G3 ⊢
     go_upto_region 6 with fail
     obtain ⟨X1,hX1,W1,QI0,QO0⟩:=Qc.zAo wr3
     have QI:Hid (∀ w',Below wr3.heap.size wr3 w'→∃ x,w'=W1 x):=QI0
     have QO:Hid (∀ x,Below wr3.heap.size wr3 (W1 x)):=QO0
     clear QI0 QO0
     have tq:=HX.out _ G3.out
     have y3:=Qc.zAC QO.out (zAA tq.hx 3 (x:=.slice (some ⟨gs,0,none⟩) X.ss.length uc) rfl).1
     have z0:=Qc.zAC QO.out (zAA (HBX.out _ tq.bel).1 0 (x:=.int .i64 r.cl) rfl).1
     have z1:=Qc.zAC QO.out (zAA (HBX.out _ tq.bel).1 1 (x:=.int .i64 r.st) rfl).1
     obtain ⟨gs',cs',es,_,_,_,hcs⟩:=OwnS.atk tq.os HSK.out
     obtain rfl:gs=gs':=by injection es with e1;injection e1 with e1;injection e1
     have s0:∀ q,(W1 q).cell? ⟨gs,j * 6,none⟩=some (.int .i64 s.c):=Qc.zAC QO.out (hcs 0 (.int .i64 s.c) rfl).1
     have s1:=Qc.zAC QO.out (hcs 1 (.int .i64 s.s) rfl).1
     clear hcs es
     clear tq
     refine Qc.zAF (W:=W1) (by kernel_rfl) (by kernel_rfl) (QI.out _ Qc.zAJ) ?_
     repeat (go_big_quiet_step (fail))
     refine wpQuiet_nil ?_
     rintro _ ⟨xq,rfl⟩
     have G4:Hid (Below w2.heap.size w2 (W1 xq)):=G3.out.trans ((QO.out xq).mono G3.out.size)
     clear y3 z0 z1 s0 s1 QO QI G3
     generalize W1 xq=wr4 at G4 ⊢
     go_upto_region 8 with fail
     obtain ⟨X1,hX1,W1,QI0,QO0⟩:=Qc.zAo wr4
     have QI:Hid (∀ w',Below wr4.heap.size wr4 w'→∃ x,w'=W1 x):=QI0
     have QO:Hid (∀ x,Below wr4.heap.size wr4 (W1 x)):=QO0
     clear QI0 QO0
     have tq:=HX.out _ G4.out
     have y3:=Qc.zAC QO.out (zAA tq.hx 3 (x:=.slice (some ⟨gs,0,none⟩) X.ss.length uc) rfl).1
     have z0:=Qc.zAC QO.out (zAA (HBX.out _ tq.bel).1 0 (x:=.int .i64 r.cl) rfl).1
     have z1:=Qc.zAC QO.out (zAA (HBX.out _ tq.bel).1 1 (x:=.int .i64 r.st) rfl).1
     obtain ⟨gs',cs',es,_,_,_,hcs⟩:=OwnS.atk tq.os HSK.out
     obtain rfl:gs=gs':=by injection es with e1;injection e1 with e1;injection e1
     have s0:∀ q,(W1 q).cell? ⟨gs,j * 6,none⟩=some (.int .i64 s.c):=Qc.zAC QO.out (hcs 0 (.int .i64 s.c) rfl).1
     have s1:=Qc.zAC QO.out (hcs 1 (.int .i64 s.s) rfl).1
     clear hcs es
     clear tq
     refine Qc.zAF (W:=W1) (by kernel_rfl) (by kernel_rfl) (QI.out _ Qc.zAJ) ?_
     repeat (go_big_quiet_step (fail))
     refine wpQuiet_nil ?_
     rintro _ ⟨xq,rfl⟩
     have G5:Hid (Below w2.heap.size w2 (W1 xq)):=G4.out.trans ((QO.out xq).mono G4.out.size)
     clear y3 z0 z1 s0 s1 QO QI G4
     generalize W1 xq=wr5 at G5 ⊢
     by_cases h6:6≤X.ss.length
     ·have HAP:Hid (R=(X,bare 6)):=by show _=_;rw [HAP1,if_pos h6]
      clear HAP1
      have h6':((X.ss.length:Int) == 6)=true:=by simp;omega
      have y3:=(zAA (HX.out _ G5.out).hx 3 (x:=.slice (some ⟨gs,0,none⟩) X.ss.length uc) rfl).1
      go_upto_region 11 with fail
      clear y3
      have HTF:Hid (TM wA wr5 wA.heap.size b X (.slice la ps.length lc) (.slice (some ⟨gs,0,none⟩) X.ss.length uc) ps):=HX.out _ G5.out
      have c0:=(zAA HTF.out.hx 0 (x:=.int .i64 X.tm) rfl).1
      have c1:=(zAA HTF.out.hx 1 (x:=.int .i64 X.nx) rfl).1
      have c2:=(zAA HTF.out.hx 2 (x:=.slice la ps.length lc) rfl).1
      have c3:=(zAA HTF.out.hx 3 (x:=.slice (some ⟨gs,0,none⟩) X.ss.length uc) rfl).1
      have hbx:=HBX.out _ HTF.out.bel
      obtain ⟨zt0,ft0⟩:=zAA hbx.2.1 0 (x:=.int .i64 0) rfl
      obtain ⟨zt1,ft1⟩:=zAA hbx.2.1 1 (x:=.int .i64 0) rfl
      obtain ⟨zt2,ft2⟩:=zAA hbx.2.1 2 (x:=.slice none 0 0) rfl
      obtain ⟨zt3,ft3⟩:=zAA hbx.2.1 3 (x:=.slice none 0 0) rfl
      obtain ⟨za0,fa0⟩:=zAA hbx.2.2.1 0 (x:=.int .i64 0) rfl
      obtain ⟨za1,fa1⟩:=zAA hbx.2.2.1 1 (x:=.int .i64 0) rfl
      obtain ⟨za2,fa2⟩:=zAA hbx.2.2.1 2 (x:=.int .i64 0) rfl
      obtain ⟨za3,fa3⟩:=zAA hbx.2.2.1 3 (x:=.int .i64 0) rfl
      clear hbx
      go_wp2_with fail
      have S44:=(set44 (w:=wr5) (a:=w.heap.size+1+1) (b:=w.heap.size+1+1+1) (.int .i64 0) (.int .i64 0) (.slice none 0 0) (.slice none 0 0) (.int .i64 0) (.int .i64 0) (.int .i64 0) (.int .i64 0) (.int .i64 X.tm) (.int .i64 X.nx) ((.slice la ps.length lc)) ((.slice (some ⟨gs,0,none⟩) X.ss.length uc)) (.int .i64 6) (.int .i64 0) (.int .i64 (-1)) (.int .i64 0) (by omega) (HBX.out _ (HTF.out.bel)).2.1 (HBX.out _ (HTF.out.bel)).2.2.1).1
      obtain ⟨AF,BF,FF,LF⟩:=S44
      have KF:Hid (OwnL ((((((((wr5.setCell ⟨w.heap.size+1+1,0,none⟩ (.int .i64 X.tm)).setCell ⟨w.heap.size+1+1,1,none⟩ (.int .i64 X.nx)).setCell ⟨w.heap.size+1+1,2,none⟩ ((.slice la ps.length lc))).setCell ⟨w.heap.size+1+1,3,none⟩ ((.slice (some ⟨gs,0,none⟩) X.ss.length uc))).setCell ⟨w.heap.size+1+1+1,0,none⟩ (.int .i64 6)).setCell ⟨w.heap.size+1+1+1,1,none⟩ (.int .i64 0)).setCell ⟨w.heap.size+1+1+1,2,none⟩ (.int .i64 (-1))).setCell ⟨w.heap.size+1+1+1,3,none⟩ (.int .i64 0)) w.heap.size (.slice la ps.length lc) ps∧(∀ p ∈ ps,Wa.OwnW ((((((((wr5.setCell ⟨w.heap.size+1+1,0,none⟩ (.int .i64 X.tm)).setCell ⟨w.heap.size+1+1,1,none⟩ (.int .i64 X.nx)).setCell ⟨w.heap.size+1+1,2,none⟩ ((.slice la ps.length lc))).setCell ⟨w.heap.size+1+1,3,none⟩ ((.slice (some ⟨gs,0,none⟩) X.ss.length uc))).setCell ⟨w.heap.size+1+1+1,0,none⟩ (.int .i64 6)).setCell ⟨w.heap.size+1+1+1,1,none⟩ (.int .i64 0)).setCell ⟨w.heap.size+1+1+1,2,none⟩ (.int .i64 (-1))).setCell ⟨w.heap.size+1+1+1,3,none⟩ (.int .i64 0)) w.heap.size (uV p) p.1.ws)∧Wa.OwnS ((((((((wr5.setCell ⟨w.heap.size+1+1,0,none⟩ (.int .i64 X.tm)).setCell ⟨w.heap.size+1+1,1,none⟩ (.int .i64 X.nx)).setCell ⟨w.heap.size+1+1,2,none⟩ ((.slice la ps.length lc))).setCell ⟨w.heap.size+1+1,3,none⟩ ((.slice (some ⟨gs,0,none⟩) X.ss.length uc))).setCell ⟨w.heap.size+1+1+1,0,none⟩ (.int .i64 6)).setCell ⟨w.heap.size+1+1+1,1,none⟩ (.int .i64 0)).setCell ⟨w.heap.size+1+1+1,2,none⟩ (.int .i64 (-1))).setCell ⟨w.heap.size+1+1+1,3,none⟩ (.int .i64 0)) w.heap.size (.slice (some ⟨gs,0,none⟩) X.ss.length uc) X.ss∧ps.map (·.1)=X.ls∧Apart ps):=TM.fin HTF.out (by omega) (fun j hj=>FF j (by omega) (by omega))
      have LFH:Hid (Below w.heap.size w ((((((((wr5.setCell ⟨w.heap.size+1+1,0,none⟩ (.int .i64 X.tm)).setCell ⟨w.heap.size+1+1,1,none⟩ (.int .i64 X.nx)).setCell ⟨w.heap.size+1+1,2,none⟩ ((.slice la ps.length lc))).setCell ⟨w.heap.size+1+1,3,none⟩ ((.slice (some ⟨gs,0,none⟩) X.ss.length uc))).setCell ⟨w.heap.size+1+1+1,0,none⟩ (.int .i64 6)).setCell ⟨w.heap.size+1+1+1,1,none⟩ (.int .i64 0)).setCell ⟨w.heap.size+1+1+1,2,none⟩ (.int .i64 (-1))).setCell ⟨w.heap.size+1+1+1,3,none⟩ (.int .i64 0))):=LF (HBX.out _ (HTF.out.bel)).2.2.2 (by omega) (by omega)
      generalize ((((((((wr5.setCell ⟨w.heap.size+1+1,0,none⟩ (.int .i64 X.tm)).setCell ⟨w.heap.size+1+1,1,none⟩ (.int .i64 X.nx)).setCell ⟨w.heap.size+1+1,2,none⟩ ((.slice la ps.length lc))).setCell ⟨w.heap.size+1+1,3,none⟩ ((.slice (some ⟨gs,0,none⟩) X.ss.length uc))).setCell ⟨w.heap.size+1+1+1,0,none⟩ (.int .i64 6)).setCell ⟨w.heap.size+1+1+1,1,none⟩ (.int .i64 0)).setCell ⟨w.heap.size+1+1+1,2,none⟩ (.int .i64 (-1))).setCell ⟨w.heap.size+1+1+1,3,none⟩ (.int .i64 0))=wf at AF BF KF LFH ⊢
      have d0:=(zAA AF 0 (x:=.int .i64 X.tm) rfl).1
      have d1:=(zAA AF 1 (x:=.int .i64 X.nx) rfl).1
      have d2:=(zAA AF 2 (x:=(.slice la ps.length lc)) rfl).1
      have d3:=(zAA AF 3 (x:=(.slice (some ⟨gs,0,none⟩) X.ss.length uc)) rfl).1
      have e0:=(zAA BF 0 (x:=.int .i64 6) rfl).1
      have e1:=(zAA BF 1 (x:=.int .i64 0) rfl).1
      have e2:=(zAA BF 2 (x:=.int .i64 (-1)) rfl).1
      have e3:=(zAA BF 3 (x:=.int .i64 0) rfl).1
      refine bodyPost_ret (v:=.tuple #[.agg #[.int .i64 X.tm,.int .i64 X.nx,(.slice la ps.length lc),(.slice (some ⟨gs,0,none⟩) X.ss.length uc)],.agg #[.int .i64 6,.int .i64 0,.int .i64 (-1),.int .i64 0]]) (by simp [results,Tryz.results62,go_sem,d0,d1,d2,d3,e0,e1,e2,e3]) rfl ?_
      refine ⟨⟨(.slice la ps.length lc),(.slice (some ⟨gs,0,none⟩) X.ss.length uc),ps,?_,KF.out.1,KF.out.2.1,?_,?_,KF.out.2.2.2.2⟩,(by first | exact LFH.out | exact LFH.out.drew)⟩
      ·rw [HAP.out];rfl
      ·rw [HAP.out];exact KF.out.2.2.1
      ·rw [HAP.out];exact KF.out.2.2.2.1
     have HAP:Hid (R=({ (doT X r).1 with ss:=putAt X.ss j (sn r (doT X r).2) },(doT X r).2)):=by show _=_;rw [HAP1,if_neg h6]
     clear HAP1
     have h6':((X.ss.length:Int) == 6)=false:=by simp;omega
     have y3:=(zAA (HX.out _ G5.out).hx 3 (x:=.slice (some ⟨gs,0,none⟩) X.ss.length uc) rfl).1
     go_upto_region 12 with fail
     clear y3
  rotate_left
  focus
   obtain rfl:j=k:=by omega
   have hjl:¬ (j:Int)<(X.ss.length:Int):=by omega
   have hi:=seen_none HK.out HXO.out.1.2.2.2.2.2 (fun s' hs' e=>absurd (List.getElem?_eq_some_iff.1 hs').1 hjn)
   have HAP1:=HAPH.out ()
   rw [hi] at HAP1
   simp only [HK.out] at HAP1
   clear hi HAPH
   go_upto_region 3 with fail
   obtain ⟨X1,hX1,W1,QI0,QO0⟩:=Qc.zAo wr
   have QI:Hid (∀ w',Below wr.heap.size wr w'→∃ x,w'=W1 x):=QI0
   have QO:Hid (∀ x,Below wr.heap.size wr (W1 x)):=QO0
   clear QI0 QO0
   have tq:=HX.out _ GR.out
   have y3:=Qc.zAC QO.out (zAA tq.hx 3 (x:=.slice ua X.ss.length uc) rfl).1
   have z0:=Qc.zAC QO.out (zAA (HBX.out _ tq.bel).1 0 (x:=.int .i64 r.cl) rfl).1
   have z1:=Qc.zAC QO.out (zAA (HBX.out _ tq.bel).1 1 (x:=.int .i64 r.st) rfl).1
   clear tq
   refine Qc.zAF (W:=W1) (by kernel_rfl) (by kernel_rfl) (QI.out _ Qc.zAJ) ?_
   repeat (go_big_quiet_step (fail))
   refine wpQuiet_nil ?_
   rintro _ ⟨xq,rfl⟩
   have G:Hid (Below w2.heap.size w2 (W1 xq)):=GR.out.trans ((QO.out xq).mono GR.out.size)
   clear y3 z0 z1 QO QI GR
   generalize W1 xq=wq at G ⊢
   go_upto_region 5 with fail
   obtain ⟨X1,hX1,W1,QI0,QO0⟩:=Qc.zAo wq
   have QI:Hid (∀ w',Below wq.heap.size wq w'→∃ x,w'=W1 x):=QI0
   have QO:Hid (∀ x,Below wq.heap.size wq (W1 x)):=QO0
   clear QI0 QO0
   have tq:=HX.out _ G.out
   have y3:=Qc.zAC QO.out (zAA tq.hx 3 (x:=.slice ua X.ss.length uc) rfl).1
   have z0:=Qc.zAC QO.out (zAA (HBX.out _ tq.bel).1 0 (x:=.int .i64 r.cl) rfl).1
   have z1:=Qc.zAC QO.out (zAA (HBX.out _ tq.bel).1 1 (x:=.int .i64 r.st) rfl).1
   clear tq
   refine Qc.zAF (W:=W1) (by kernel_rfl) (by kernel_rfl) (QI.out _ Qc.zAJ) ?_
   repeat (go_big_quiet_step (fail))
   refine wpQuiet_nil ?_
   rintro _ ⟨xq,rfl⟩
   have G3:Hid (Below w2.heap.size w2 (W1 xq)):=G.out.trans ((QO.out xq).mono G.out.size)
   clear y3 z0 z1 QO QI G
   generalize W1 xq=wr3 at G3 ⊢
   go_upto_region 6 with fail
   obtain ⟨X1,hX1,W1,QI0,QO0⟩:=Qc.zAo wr3
   have QI:Hid (∀ w',Below wr3.heap.size wr3 w'→∃ x,w'=W1 x):=QI0
   have QO:Hid (∀ x,Below wr3.heap.size wr3 (W1 x)):=QO0
   clear QI0 QO0
   have tq:=HX.out _ G3.out
   have y3:=Qc.zAC QO.out (zAA tq.hx 3 (x:=.slice ua X.ss.length uc) rfl).1
   have z0:=Qc.zAC QO.out (zAA (HBX.out _ tq.bel).1 0 (x:=.int .i64 r.cl) rfl).1
   have z1:=Qc.zAC QO.out (zAA (HBX.out _ tq.bel).1 1 (x:=.int .i64 r.st) rfl).1
   clear tq
   refine Qc.zAF (W:=W1) (by kernel_rfl) (by kernel_rfl) (QI.out _ Qc.zAJ) ?_
   repeat (go_big_quiet_step (fail))
   refine wpQuiet_nil ?_
   rintro _ ⟨xq,rfl⟩
   have G4:Hid (Below w2.heap.size w2 (W1 xq)):=G3.out.trans ((QO.out xq).mono G3.out.size)
   clear y3 z0 z1 QO QI G3
   generalize W1 xq=wr4 at G4 ⊢
   go_upto_region 8 with fail
   obtain ⟨X1,hX1,W1,QI0,QO0⟩:=Qc.zAo wr4
   have QI:Hid (∀ w',Below wr4.heap.size wr4 w'→∃ x,w'=W1 x):=QI0
   have QO:Hid (∀ x,Below wr4.heap.size wr4 (W1 x)):=QO0
   clear QI0 QO0
   have tq:=HX.out _ G4.out
   have y3:=Qc.zAC QO.out (zAA tq.hx 3 (x:=.slice ua X.ss.length uc) rfl).1
   have z0:=Qc.zAC QO.out (zAA (HBX.out _ tq.bel).1 0 (x:=.int .i64 r.cl) rfl).1
   have z1:=Qc.zAC QO.out (zAA (HBX.out _ tq.bel).1 1 (x:=.int .i64 r.st) rfl).1
   clear tq
   refine Qc.zAF (W:=W1) (by kernel_rfl) (by kernel_rfl) (QI.out _ Qc.zAJ) ?_
   repeat (go_big_quiet_step (fail))
   refine wpQuiet_nil ?_
   rintro _ ⟨xq,rfl⟩
   have G5:Hid (Below w2.heap.size w2 (W1 xq)):=G4.out.trans ((QO.out xq).mono G4.out.size)
   clear y3 z0 z1 QO QI G4
   generalize W1 xq=wr5 at G5 ⊢
   by_cases h6:6≤X.ss.length
   ·have HAP:Hid (R=(X,bare 6)):=by show _=_;rw [HAP1,if_pos h6]
    clear HAP1
    have h6':((X.ss.length:Int) == 6)=true:=by simp;omega
    have y3:=(zAA (HX.out _ G5.out).hx 3 (x:=.slice ua X.ss.length uc) rfl).1
    go_upto_region 11 with fail
    clear y3
    have HTF:Hid (TM wA wr5 wA.heap.size b X (.slice la ps.length lc) (.slice ua X.ss.length uc) ps):=HX.out _ G5.out
    have c0:=(zAA HTF.out.hx 0 (x:=.int .i64 X.tm) rfl).1
    have c1:=(zAA HTF.out.hx 1 (x:=.int .i64 X.nx) rfl).1
    have c2:=(zAA HTF.out.hx 2 (x:=.slice la ps.length lc) rfl).1
    have c3:=(zAA HTF.out.hx 3 (x:=.slice ua X.ss.length uc) rfl).1
    have hbx:=HBX.out _ HTF.out.bel
    obtain ⟨zt0,ft0⟩:=zAA hbx.2.1 0 (x:=.int .i64 0) rfl
    obtain ⟨zt1,ft1⟩:=zAA hbx.2.1 1 (x:=.int .i64 0) rfl
    obtain ⟨zt2,ft2⟩:=zAA hbx.2.1 2 (x:=.slice none 0 0) rfl
    obtain ⟨zt3,ft3⟩:=zAA hbx.2.1 3 (x:=.slice none 0 0) rfl
    obtain ⟨za0,fa0⟩:=zAA hbx.2.2.1 0 (x:=.int .i64 0) rfl
    obtain ⟨za1,fa1⟩:=zAA hbx.2.2.1 1 (x:=.int .i64 0) rfl
    obtain ⟨za2,fa2⟩:=zAA hbx.2.2.1 2 (x:=.int .i64 0) rfl
    obtain ⟨za3,fa3⟩:=zAA hbx.2.2.1 3 (x:=.int .i64 0) rfl
    clear hbx
    go_wp2_with fail
    have S44:=(set44 (w:=wr5) (a:=w.heap.size+1+1) (b:=w.heap.size+1+1+1) (.int .i64 0) (.int .i64 0) (.slice none 0 0) (.slice none 0 0) (.int .i64 0) (.int .i64 0) (.int .i64 0) (.int .i64 0) (.int .i64 X.tm) (.int .i64 X.nx) ((.slice la ps.length lc)) ((.slice ua X.ss.length uc)) (.int .i64 6) (.int .i64 0) (.int .i64 (-1)) (.int .i64 0) (by omega) (HBX.out _ (HTF.out.bel)).2.1 (HBX.out _ (HTF.out.bel)).2.2.1).1
    obtain ⟨AF,BF,FF,LF⟩:=S44
    have KF:Hid (OwnL ((((((((wr5.setCell ⟨w.heap.size+1+1,0,none⟩ (.int .i64 X.tm)).setCell ⟨w.heap.size+1+1,1,none⟩ (.int .i64 X.nx)).setCell ⟨w.heap.size+1+1,2,none⟩ ((.slice la ps.length lc))).setCell ⟨w.heap.size+1+1,3,none⟩ ((.slice ua X.ss.length uc))).setCell ⟨w.heap.size+1+1+1,0,none⟩ (.int .i64 6)).setCell ⟨w.heap.size+1+1+1,1,none⟩ (.int .i64 0)).setCell ⟨w.heap.size+1+1+1,2,none⟩ (.int .i64 (-1))).setCell ⟨w.heap.size+1+1+1,3,none⟩ (.int .i64 0)) w.heap.size (.slice la ps.length lc) ps∧(∀ p ∈ ps,Wa.OwnW ((((((((wr5.setCell ⟨w.heap.size+1+1,0,none⟩ (.int .i64 X.tm)).setCell ⟨w.heap.size+1+1,1,none⟩ (.int .i64 X.nx)).setCell ⟨w.heap.size+1+1,2,none⟩ ((.slice la ps.length lc))).setCell ⟨w.heap.size+1+1,3,none⟩ ((.slice ua X.ss.length uc))).setCell ⟨w.heap.size+1+1+1,0,none⟩ (.int .i64 6)).setCell ⟨w.heap.size+1+1+1,1,none⟩ (.int .i64 0)).setCell ⟨w.heap.size+1+1+1,2,none⟩ (.int .i64 (-1))).setCell ⟨w.heap.size+1+1+1,3,none⟩ (.int .i64 0)) w.heap.size (uV p) p.1.ws)∧Wa.OwnS ((((((((wr5.setCell ⟨w.heap.size+1+1,0,none⟩ (.int .i64 X.tm)).setCell ⟨w.heap.size+1+1,1,none⟩ (.int .i64 X.nx)).setCell ⟨w.heap.size+1+1,2,none⟩ ((.slice la ps.length lc))).setCell ⟨w.heap.size+1+1,3,none⟩ ((.slice ua X.ss.length uc))).setCell ⟨w.heap.size+1+1+1,0,none⟩ (.int .i64 6)).setCell ⟨w.heap.size+1+1+1,1,none⟩ (.int .i64 0)).setCell ⟨w.heap.size+1+1+1,2,none⟩ (.int .i64 (-1))).setCell ⟨w.heap.size+1+1+1,3,none⟩ (.int .i64 0)) w.heap.size (.slice ua X.ss.length uc) X.ss∧ps.map (·.1)=X.ls∧Apart ps):=TM.fin HTF.out (by omega) (fun j hj=>FF j (by omega) (by omega))
    have LFH:Hid (Below w.heap.size w ((((((((wr5.setCell ⟨w.heap.size+1+1,0,none⟩ (.int .i64 X.tm)).setCell ⟨w.heap.size+1+1,1,none⟩ (.int .i64 X.nx)).setCell ⟨w.heap.size+1+1,2,none⟩ ((.slice la ps.length lc))).setCell ⟨w.heap.size+1+1,3,none⟩ ((.slice ua X.ss.length uc))).setCell ⟨w.heap.size+1+1+1,0,none⟩ (.int .i64 6)).setCell ⟨w.heap.size+1+1+1,1,none⟩ (.int .i64 0)).setCell ⟨w.heap.size+1+1+1,2,none⟩ (.int .i64 (-1))).setCell ⟨w.heap.size+1+1+1,3,none⟩ (.int .i64 0))):=LF (HBX.out _ (HTF.out.bel)).2.2.2 (by omega) (by omega)
    generalize ((((((((wr5.setCell ⟨w.heap.size+1+1,0,none⟩ (.int .i64 X.tm)).setCell ⟨w.heap.size+1+1,1,none⟩ (.int .i64 X.nx)).setCell ⟨w.heap.size+1+1,2,none⟩ ((.slice la ps.length lc))).setCell ⟨w.heap.size+1+1,3,none⟩ ((.slice ua X.ss.length uc))).setCell ⟨w.heap.size+1+1+1,0,none⟩ (.int .i64 6)).setCell ⟨w.heap.size+1+1+1,1,none⟩ (.int .i64 0)).setCell ⟨w.heap.size+1+1+1,2,none⟩ (.int .i64 (-1))).setCell ⟨w.heap.size+1+1+1,3,none⟩ (.int .i64 0))=wf at AF BF KF LFH ⊢
    have d0:=(zAA AF 0 (x:=.int .i64 X.tm) rfl).1
    have d1:=(zAA AF 1 (x:=.int .i64 X.nx) rfl).1
    have d2:=(zAA AF 2 (x:=(.slice la ps.length lc)) rfl).1
    have d3:=(zAA AF 3 (x:=(.slice ua X.ss.length uc)) rfl).1
    have e0:=(zAA BF 0 (x:=.int .i64 6) rfl).1
    have e1:=(zAA BF 1 (x:=.int .i64 0) rfl).1
    have e2:=(zAA BF 2 (x:=.int .i64 (-1)) rfl).1
    have e3:=(zAA BF 3 (x:=.int .i64 0) rfl).1
    refine bodyPost_ret (v:=.tuple #[.agg #[.int .i64 X.tm,.int .i64 X.nx,(.slice la ps.length lc),(.slice ua X.ss.length uc)],.agg #[.int .i64 6,.int .i64 0,.int .i64 (-1),.int .i64 0]]) (by simp [results,Tryz.results62,go_sem,d0,d1,d2,d3,e0,e1,e2,e3]) rfl ?_
    refine ⟨⟨(.slice la ps.length lc),(.slice ua X.ss.length uc),ps,?_,KF.out.1,KF.out.2.1,?_,?_,KF.out.2.2.2.2⟩,(by first | exact LFH.out | exact LFH.out.drew)⟩
    ·rw [HAP.out];rfl
    ·rw [HAP.out];exact KF.out.2.2.1
    ·rw [HAP.out];exact KF.out.2.2.2.1
   have HAP:Hid (R=({ (doT X r).1 with ss:=putAt X.ss j (sn r (doT X r).2) },(doT X r).2)):=by show _=_;rw [HAP1,if_neg h6]
   clear HAP1
   have h6':((X.ss.length:Int) == 6)=false:=by simp;omega
   have y3:=(zAA (HX.out _ G5.out).hx 3 (x:=.slice ua X.ss.length uc) rfl).1
   go_upto_region 12 with fail
   clear y3
  all_goals
   obtain ⟨D,HD⟩ : ∃ D,Hid (doT X r=D):=⟨_,rfl⟩
   rw [HD.out] at HAP HDS
   have HDO:=l05Do_any (HX.out _ G5.out) HXO.out.1 HXO.out.2 r HRO.out
   rw [HD.out] at HDO
   have qr:=(HBX.out _ (HX.out _ G5.out).bel).1
   have c0:=(zAA qr 0 (x:=.int .i64 r.cl) rfl).1
   have c1:=(zAA qr 1 (x:=.int .i64 r.st) rfl).1
   have c2:=(zAA qr 2 (x:=.int .i64 r.kd) rfl).1
   have c3:=(zAA qr 3 (x:=.int .i64 r.le) rfl).1
   have c4:=(zAA qr 4 (x:=.string r.nm) rfl).1
   clear qr
   go_wp2_with fail
   refine HDO.mono ?_
   rintro e w5 ⟨rfl,⟨u2,u3,qs,t5⟩,_⟩
   obtain ⟨xa,xc,rfl⟩:=t5.ol.slice
   clear HDO c0 c1 c2 c3 c4
   have sA:(w5.alloc (.cells #[.int .i64 D.2.k,.int .i64 D.2.t,.int .i64 D.2.h,.int .i64 D.2.e] 100)).heap.size=w5.heap.size+1:=by simp
   have bA:=zAD w5 (.cells #[.int .i64 D.2.k,.int .i64 D.2.t,.int .i64 D.2.h,.int .i64 D.2.e] 100)
   have bS:=zAD (w5.alloc (.cells #[.int .i64 D.2.k,.int .i64 D.2.t,.int .i64 D.2.h,.int .i64 D.2.e] 100)) (.cells #[.int .i64 r.cl,.int .i64 r.st,.int .i64 D.2.k,.int .i64 D.2.t,.int .i64 D.2.h,.int .i64 D.2.e] 102)
   have HX6:Hid (∀ W,Below ((w5.alloc (.cells #[.int .i64 D.2.k,.int .i64 D.2.t,.int .i64 D.2.h,.int .i64 D.2.e] 100)).alloc (.cells #[.int .i64 r.cl,.int .i64 r.st,.int .i64 D.2.k,.int .i64 D.2.t,.int .i64 D.2.h,.int .i64 D.2.e] 102)).heap.size ((w5.alloc (.cells #[.int .i64 D.2.k,.int .i64 D.2.t,.int .i64 D.2.h,.int .i64 D.2.e] 100)).alloc (.cells #[.int .i64 r.cl,.int .i64 r.st,.int .i64 D.2.k,.int .i64 D.2.t,.int .i64 D.2.h,.int .i64 D.2.e] 102)) W→TM wA W wA.heap.size b D.1 (.slice xa qs.length xc) u3 qs∧W.heap[w5.heap.size]?=some (.cells #[.int .i64 D.2.k,.int .i64 D.2.t,.int .i64 D.2.h,.int .i64 D.2.e] 100 (0,0))∧W.heap[w5.heap.size+1]?=some (.cells #[.int .i64 r.cl,.int .i64 r.st,.int .i64 D.2.k,.int .i64 D.2.t,.int .i64 D.2.h,.int .i64 D.2.e] 102 (0,0))):=fun W hW=>by
    have b6:=bA.trans (bS.mono bA.size)
    refine ⟨t5.up (b6.trans (hW.mono b6.size)),?_,?_⟩
    ·rw [hW.block _ (by simp;omega),bS.block _ (by simp)];exact zAK _ _ _
    ·rw [hW.block _ (by simp),← sA];exact zAK _ _ _
   have hq5:=(HBX.out _ (t5.up bA).bel).1
   have c0:=(zAA hq5 0 (x:=.int .i64 r.cl) rfl).1
   have c1:=(zAA hq5 1 (x:=.int .i64 r.st) rfl).1
   have hw5:wA.heap.size≤w5.heap.size:=t5.bel.size
   clear t5 bA bS sA hq5
   go_upto_region 14 with fail
   clear c0 c1
   generalize ((w5.alloc (.cells #[.int .i64 D.2.k,.int .i64 D.2.t,.int .i64 D.2.h,.int .i64 D.2.e] 100)).alloc (.cells #[.int .i64 r.cl,.int .i64 r.st,.int .i64 D.2.k,.int .i64 D.2.t,.int .i64 D.2.h,.int .i64 D.2.e] 102))=w6 at HX6 ⊢
   generalize w5.heap.size=ab at HX6 hw5 ⊢
   obtain ⟨U,HU⟩ : ∃ U:Tab,Hid ({ D.1 with ss:=putAt X.ss j (sn r D.2) }=U):=⟨_,rfl⟩
   rw [HU.out] at HAP
   obtain ⟨da,dc,hd3⟩:=OwnS.slice (HX6.out w6 (Below.refl _ _)).1.os
   rw [HDS.out] at hd3
   subst hd3
   have hl6:ab+1<w6.heap.size:=(Array.getElem?_eq_some_iff.1 (HX6.out w6 (Below.refl _ _)).2.2).1
   have HS6:Hid (∀ W,Below w6.heap.size w6 W→(W.cell? ⟨b,3,none⟩=some (.slice da X.ss.length dc)∧W.cell? ⟨ab+1,0,none⟩=some (.int .i64 r.cl)∧W.cell? ⟨ab+1,1,none⟩=some (.int .i64 r.st)∧W.cell? ⟨ab+1,2,none⟩=some (.int .i64 D.2.k)∧W.cell? ⟨ab+1,3,none⟩=some (.int .i64 D.2.t)∧W.cell? ⟨ab+1,4,none⟩=some (.int .i64 D.2.h)∧W.cell? ⟨ab+1,5,none⟩=some (.int .i64 D.2.e))):=fun W hW=>by
    obtain ⟨e1,_,e3⟩:=HX6.out W hW
    exact ⟨(zAA e1.hx 3 rfl).1,(zAA e3 0 rfl).1,(zAA e3 1 rfl).1,(zAA e3 2 rfl).1,(zAA e3 3 rfl).1,(zAA e3 4 rfl).1,(zAA e3 5 rfl).1⟩
   have HOS:Hid (∀ W,Below w6.heap.size w6 W→Wa.OwnS W wA.heap.size (.slice da X.ss.length dc) X.ss):=fun W hW=>by
    have:=(HX6.out W hW).1.os
    rw [HDS.out] at this
    exact this
   have hjd:j≤dc:=by
    rcases (HOS.out w6 (Below.refl _ _)).2 with ⟨e,h1⟩ | ⟨g',cap,cur,e,_,_,hc,_⟩
    ·omega
    ·cases e;omega
   have hjI:(j:Int)≤(dc:Int):=by omega
   have hjN:(j:Int)≤(X.ss.length:Int):=by omega
   have hjn0:¬ (j:Int)<0:=by omega
   clear hl6
   go_upto_region 16 with fail
   refine wp_region_noPanic ?_
   refine zAq 15 (S:=fun W=>(W.cell? ⟨b,3,none⟩=some (.slice da X.ss.length dc)∧W.cell? ⟨ab+1,0,none⟩=some (.int .i64 r.cl)∧W.cell? ⟨ab+1,1,none⟩=some (.int .i64 r.st)∧W.cell? ⟨ab+1,2,none⟩=some (.int .i64 D.2.k)∧W.cell? ⟨ab+1,3,none⟩=some (.int .i64 D.2.t)∧W.cell? ⟨ab+1,4,none⟩=some (.int .i64 D.2.h)∧W.cell? ⟨ab+1,5,none⟩=some (.int .i64 D.2.e))) (by kernel_rfl) (HS6.out _ (Below.refl w6.heap.size w6).drew) (fun hHeld=>?_)
   refine tz 1 ⟨some 111,.fieldAddr 26 (.tmp 8) 3,0,"l05_locks.go:204",#[],none⟩ ?_ ?_ hHeld ?_
   rotate_left
   ·rintro wz ⟨y3,k0,k1,k2,k3,k4,k5⟩;go_simp;try (with_reducible rfl)
   simp only [Act.put,sA,sB,sC]
   refine tz 2 ⟨some 112,.load 24 (.tmp 111),24,"l05_locks.go:204",#[⟨1,.data⟩],none⟩ ?_ ?_ hHeld ?_
   rotate_left
   ·rintro wz ⟨y3,k0,k1,k2,k3,k4,k5⟩;go_simp;try (with_reducible rfl)
   simp only [Act.put,sA,sB,sC]
   refine tz 3 ⟨some 113,.move (.tmp 9),3,"l05_locks.go:204",#[],none⟩ ?_ ?_ hHeld ?_
   rotate_left
   ·rintro wz ⟨y3,k0,k1,k2,k3,k4,k5⟩;go_simp;try (with_reducible rfl)
   simp only [Act.put,sA,sB,sC]
   refine tz 4 ⟨some 114,.slice 24 (.tmp 112) none (some (.tmp 113)) none,24,"l05_locks.go:204",#[⟨2,.data⟩,⟨3,.data⟩],none⟩ ?_ ?_ hHeld ?_
   rotate_left
   ·rintro wz ⟨y3,k0,k1,k2,k3,k4,k5⟩;go_simp;try (with_reducible rfl)
   simp only [Act.put,sA,sB,sC]
   refine tz 6 ⟨some 116,.load 102 (.tmp 12),102,"l05_locks.go:204",#[],none⟩ ?_ ?_ hHeld ?_
   rotate_left
   ·rintro wz ⟨y3,k0,k1,k2,k3,k4,k5⟩;go_simp;try (with_reducible rfl)
   simp only [Act.put,sA,sB,sC]
   refine tz 9 ⟨some 119,.fieldAddr 26 (.tmp 8) 3,0,"l05_locks.go:204",#[],none⟩ ?_ ?_ hHeld ?_
   rotate_left
   ·rintro wz ⟨y3,k0,k1,k2,k3,k4,k5⟩;go_simp;try (with_reducible rfl)
   simp only [Act.put,sA,sB,sC]
   refine tz 10 ⟨some 120,.load 24 (.tmp 119),24,"l05_locks.go:204",#[⟨9,.data⟩],none⟩ ?_ ?_ hHeld ?_
   rotate_left
   ·rintro wz ⟨y3,k0,k1,k2,k3,k4,k5⟩;go_simp;try (with_reducible rfl)
   simp only [Act.put,sA,sB,sC]
   refine tz 11 ⟨some 121,.move (.tmp 9),3,"l05_locks.go:204",#[],none⟩ ?_ ?_ hHeld ?_
   rotate_left
   ·rintro wz ⟨y3,k0,k1,k2,k3,k4,k5⟩;go_simp;try (with_reducible rfl)
   simp only [Act.put,sA,sB,sC]
   refine tz 12 ⟨some 122,.slice 24 (.tmp 120) (some (.tmp 121)) none none,24,"l05_locks.go:204",#[⟨10,.data⟩,⟨11,.data⟩],none⟩ (.slice (behindS da dc j) (X.ss.length - j) (dc - j)) ?_ hHeld ?_
   ·rintro wz ⟨y3,k0,k1,k2,k3,k4,k5⟩;unfold behindS;go_simp;try (with_reducible rfl)
   simp only [Act.put,sA,sB,sC]
   refine zAM (rs:=[0,7]) (by kernel_rfl) (by simp) ?_
   refine (ReadyZ.cons (o:=⟨some 110,.buildSlice 24 0 #[],24,"l05_locks.go:204",#[],none⟩) rfl (fun K hK=>?_) (ReadyZ.cons (o:=⟨some 117,.buildSlice 24 1 #[(0,Operand.tmp 116)],24,"l05_locks.go:204",#[⟨6,.data⟩],none⟩) rfl (fun K hK=>?_) ReadyZ.nil))
   focus
    go_simp
    refine hK.out _ _ ?_ (fun hHeld=>?_)
    ·exact HS6.out _ ((Below.refl w6.heap.size w6).drew.alloc (Below.refl w6.heap.size w6).drew.size _)
    clear hK K
    (try simp only [Act.put,sA,sB,sC])
    have oE:Wa.OwnS (w6.drew.alloc (.cells #[] 102)) w6.heap.size (.slice (some ⟨w6.heap.size,0,none⟩) 0 0) []:=(by rw [show (w6.heap.size:Nat)=w6.drew.heap.size by simp];exact OwnS.made _ _ (Below.refl w6.heap.size w6).drew.size)
    have bE:Below w6.heap.size w6 (w6.drew.alloc (.cells #[] 102)):=((Below.refl w6.heap.size w6).drew.alloc (Below.refl w6.heap.size w6).drew.size _)
    refine zAM (rs:=[5,7]) (by kernel_rfl) (by simp) ?_
    refine (ReadyZ.cons (o:=⟨some 115,.call { callee:=Callee.builtin Builtin.append,args:=#[Operand.tmp 110,Operand.tmp 114],argTypes:=#[24,24] },24,"l05_locks.go:204",#[⟨0,.data⟩,⟨4,.data⟩],none⟩) rfl (fun K hK=>?_) (ReadyZ.cons (o:=⟨some 117,.buildSlice 24 1 #[(0,Operand.tmp 116)],24,"l05_locks.go:204",#[⟨6,.data⟩],none⟩) rfl (fun K hK=>?_) ReadyZ.nil))
    focus
     refine step_sk (by rfl) _ _ 24 (by rfl) Tryz.underlying24 hsi0 sz0 sz1 sz2 _ oE (src_take2S (HOS.out _ bE) (k:=j) (by omega)) bE.size (by simp;omega) (by rfl) (by rfl) ?_
     intro v57 w57 o57 b57 f57
     have c57:Below w6.heap.size w6 w57:=bE.trans b57
     refine hK.out _ _ ?_ (fun hHeld=>?_)
     ·exact HS6.out _ c57
     clear hK K
     (try simp only [Act.put,sA,sB,sC])
     refine zAM (rs:=[7]) (by kernel_rfl) (by simp) ?_
     refine (ReadyZ.cons (o:=⟨some 117,.buildSlice 24 1 #[(0,Operand.tmp 116)],24,"l05_locks.go:204",#[⟨6,.data⟩],none⟩) rfl (fun K hK=>?_) ReadyZ.nil)
     go_simp
     refine hK.out _ _ ?_ (fun hHeld=>?_)
     ·exact HS6.out _ (c57.alloc c57.size _)
     clear hK K
     (try simp only [Act.put,sA,sB,sC])
     have qY:SrcS (w57.alloc (.cells #[.int .i64 r.cl,.int .i64 r.st,.int .i64 D.2.k,.int .i64 D.2.t,.int .i64 D.2.h,.int .i64 D.2.e] 102)) (.slice (some ⟨w57.heap.size,0,none⟩) 1 1) [sn r D.2]:=(by rw [show (w57.heap.size:Nat)=w57.heap.size by simp];exact src_oneS (sn r D.2))
     have bY:Below w6.heap.size w6 (w57.alloc (.cells #[.int .i64 r.cl,.int .i64 r.st,.int .i64 D.2.k,.int .i64 D.2.t,.int .i64 D.2.h,.int .i64 D.2.e] 102)):=(c57.alloc c57.size _)
     have oY:=OwnS.below o57 (zAD _ (.cells #[.int .i64 r.cl,.int .i64 r.st,.int .i64 D.2.k,.int .i64 D.2.t,.int .i64 D.2.h,.int .i64 D.2.e] 102))
     refine zAM (rs:=[8]) (by kernel_rfl) (by simp) ?_
     refine (ReadyZ.cons (o:=⟨some 118,.call { callee:=Callee.builtin Builtin.append,args:=#[Operand.tmp 115,Operand.tmp 117],argTypes:=#[24,24] },24,"l05_locks.go:204",#[⟨5,.data⟩,⟨7,.data⟩,⟨5,.chain⟩],none⟩) rfl (fun K hK=>?_) ReadyZ.nil)
     refine step_sk (by rfl) _ _ 24 (by rfl) Tryz.underlying24 hsi0 sz0 sz1 sz2 _ oY qY bY.size (by simp;omega) (by rfl) (by rfl) ?_
     intro v60 w60 o60 b60 f60
     have c60:Below w6.heap.size w6 w60:=bY.trans b60
    rotate_left
    focus
     go_simp
     refine hK.out _ _ ?_ (fun hHeld=>?_)
     ·exact HS6.out _ (bE.alloc bE.size _)
     clear hK K
     (try simp only [Act.put,sA,sB,sC])
     have qY:SrcS ((w6.drew.alloc (.cells #[] 102)).alloc (.cells #[.int .i64 r.cl,.int .i64 r.st,.int .i64 D.2.k,.int .i64 D.2.t,.int .i64 D.2.h,.int .i64 D.2.e] 102)) (.slice (some ⟨w6.heap.size+1,0,none⟩) 1 1) [sn r D.2]:=(by rw [show (w6.heap.size+1:Nat)=(w6.drew.alloc (.cells #[] 102)).heap.size by simp];exact src_oneS (sn r D.2))
     have bY:Below w6.heap.size w6 ((w6.drew.alloc (.cells #[] 102)).alloc (.cells #[.int .i64 r.cl,.int .i64 r.st,.int .i64 D.2.k,.int .i64 D.2.t,.int .i64 D.2.h,.int .i64 D.2.e] 102)):=(bE.alloc bE.size _)
     have oY:=OwnS.below oE (zAD _ (.cells #[.int .i64 r.cl,.int .i64 r.st,.int .i64 D.2.k,.int .i64 D.2.t,.int .i64 D.2.h,.int .i64 D.2.e] 102))
     refine zAM (rs:=[5]) (by kernel_rfl) (by simp) ?_
     refine (ReadyZ.cons (o:=⟨some 115,.call { callee:=Callee.builtin Builtin.append,args:=#[Operand.tmp 110,Operand.tmp 114],argTypes:=#[24,24] },24,"l05_locks.go:204",#[⟨0,.data⟩,⟨4,.data⟩],none⟩) rfl (fun K hK=>?_) ReadyZ.nil)
     refine step_sk (by rfl) _ _ 24 (by rfl) Tryz.underlying24 hsi0 sz0 sz1 sz2 _ oY (src_take2S (HOS.out _ bY) (k:=j) (by omega)) bY.size (by simp;omega) (by rfl) (by rfl) ?_
     intro v57 w57 o57 b57 f57
     have c57:Below w6.heap.size w6 w57:=bY.trans b57
     have q57:=SrcS.kept qY (W':=w57) (fun b hb=>f57 b (by cases hb;simp <;> omega) (by cases hb;simp [Value.ownBlock]))
     refine hK.out _ _ ?_ (fun hHeld=>?_)
     ·exact HS6.out _ c57
     clear hK K
     (try simp only [Act.put,sA,sB,sC])
     refine zAM (rs:=[8]) (by kernel_rfl) (by simp) ?_
     refine (ReadyZ.cons (o:=⟨some 118,.call { callee:=Callee.builtin Builtin.append,args:=#[Operand.tmp 115,Operand.tmp 117],argTypes:=#[24,24] },24,"l05_locks.go:204",#[⟨5,.data⟩,⟨7,.data⟩,⟨5,.chain⟩],none⟩) rfl (fun K hK=>?_) ReadyZ.nil)
     refine step_sk (by rfl) _ _ 24 (by rfl) Tryz.underlying24 hsi0 sz0 sz1 sz2 _ o57 q57 c57.size (by simp;omega) (by rfl) (by rfl) ?_
     intro v60 w60 o60 b60 f60
     have c60:Below w6.heap.size w6 w60:=c57.trans b60
    rotate_left
   rotate_left 2
   focus
    go_simp
    refine hK.out _ _ ?_ (fun hHeld=>?_)
    ·exact HS6.out _ ((Below.refl w6.heap.size w6).drew.alloc (Below.refl w6.heap.size w6).drew.size _)
    clear hK K
    (try simp only [Act.put,sA,sB,sC])
    have qY:SrcS (w6.drew.alloc (.cells #[.int .i64 r.cl,.int .i64 r.st,.int .i64 D.2.k,.int .i64 D.2.t,.int .i64 D.2.h,.int .i64 D.2.e] 102)) (.slice (some ⟨w6.heap.size,0,none⟩) 1 1) [sn r D.2]:=(by rw [show (w6.heap.size:Nat)=w6.drew.heap.size by simp];exact src_oneS (sn r D.2))
    have bY:Below w6.heap.size w6 (w6.drew.alloc (.cells #[.int .i64 r.cl,.int .i64 r.st,.int .i64 D.2.k,.int .i64 D.2.t,.int .i64 D.2.h,.int .i64 D.2.e] 102)):=((Below.refl w6.heap.size w6).drew.alloc (Below.refl w6.heap.size w6).drew.size _)
    refine zAM (rs:=[0]) (by kernel_rfl) (by simp) ?_
    refine (ReadyZ.cons (o:=⟨some 110,.buildSlice 24 0 #[],24,"l05_locks.go:204",#[],none⟩) rfl (fun K hK=>?_) ReadyZ.nil)
    go_simp
    refine hK.out _ _ ?_ (fun hHeld=>?_)
    ·exact HS6.out _ (bY.alloc bY.size _)
    clear hK K
    (try simp only [Act.put,sA,sB,sC])
    have oE:Wa.OwnS ((w6.drew.alloc (.cells #[.int .i64 r.cl,.int .i64 r.st,.int .i64 D.2.k,.int .i64 D.2.t,.int .i64 D.2.h,.int .i64 D.2.e] 102)).alloc (.cells #[] 102)) w6.heap.size (.slice (some ⟨w6.heap.size+1,0,none⟩) 0 0) []:=(by rw [show (w6.heap.size+1:Nat)=(w6.drew.alloc (.cells #[.int .i64 r.cl,.int .i64 r.st,.int .i64 D.2.k,.int .i64 D.2.t,.int .i64 D.2.h,.int .i64 D.2.e] 102)).heap.size by simp];exact OwnS.made _ _ bY.size)
    have bE:Below w6.heap.size w6 ((w6.drew.alloc (.cells #[.int .i64 r.cl,.int .i64 r.st,.int .i64 D.2.k,.int .i64 D.2.t,.int .i64 D.2.h,.int .i64 D.2.e] 102)).alloc (.cells #[] 102)):=(bY.alloc bY.size _)
    have qE:=SrcS.below qY (zAD (w6.drew.alloc (.cells #[.int .i64 r.cl,.int .i64 r.st,.int .i64 D.2.k,.int .i64 D.2.t,.int .i64 D.2.h,.int .i64 D.2.e] 102)) (.cells #[] 102)) (fun b hb=>by cases hb;simp <;> omega)
    refine zAM (rs:=[5]) (by kernel_rfl) (by simp) ?_
    refine (ReadyZ.cons (o:=⟨some 115,.call { callee:=Callee.builtin Builtin.append,args:=#[Operand.tmp 110,Operand.tmp 114],argTypes:=#[24,24] },24,"l05_locks.go:204",#[⟨0,.data⟩,⟨4,.data⟩],none⟩) rfl (fun K hK=>?_) ReadyZ.nil)
    refine step_sk (by rfl) _ _ 24 (by rfl) Tryz.underlying24 hsi0 sz0 sz1 sz2 _ oE (src_take2S (HOS.out _ bE) (k:=j) (by omega)) bE.size (by simp;omega) (by rfl) (by rfl) ?_
    intro v57 w57 o57 b57 f57
    have c57:Below w6.heap.size w6 w57:=bE.trans b57
    have q57:=SrcS.kept qE (W':=w57) (fun b hb=>f57 b (by cases hb;simp <;> omega) (by cases hb;simp [Value.ownBlock]))
    refine hK.out _ _ ?_ (fun hHeld=>?_)
    ·exact HS6.out _ c57
    clear hK K
    (try simp only [Act.put,sA,sB,sC])
    refine zAM (rs:=[8]) (by kernel_rfl) (by simp) ?_
    refine (ReadyZ.cons (o:=⟨some 118,.call { callee:=Callee.builtin Builtin.append,args:=#[Operand.tmp 115,Operand.tmp 117],argTypes:=#[24,24] },24,"l05_locks.go:204",#[⟨5,.data⟩,⟨7,.data⟩,⟨5,.chain⟩],none⟩) rfl (fun K hK=>?_) ReadyZ.nil)
    refine step_sk (by rfl) _ _ 24 (by rfl) Tryz.underlying24 hsi0 sz0 sz1 sz2 _ o57 q57 c57.size (by simp;omega) (by rfl) (by rfl) ?_
    intro v60 w60 o60 b60 f60
    have c60:Below w6.heap.size w6 w60:=c57.trans b60
   rotate_left
   all_goals
    refine hK.out _ _ ?_ (fun hHeld=>?_)
    ·exact HS6.out _ c60
    clear hK K
    (try simp only [Act.put,sA,sB,sC])
    refine zAM (rs:=[13]) (by kernel_rfl) (by simp) ?_
    refine (ReadyZ.cons (o:=⟨some 123,.call { callee:=Callee.builtin Builtin.append,args:=#[Operand.tmp 118,Operand.tmp 122],argTypes:=#[24,24] },24,"l05_locks.go:204",#[⟨8,.data⟩,⟨12,.data⟩,⟨8,.chain⟩],none⟩) rfl (fun K hK=>?_) ReadyZ.nil)
    refine step_sk (by rfl) _ _ 24 (by rfl) Tryz.underlying24 hsi0 sz0 sz1 sz2 _ o60 (src_drop2S (HOS.out _ c60) (k:=j) (by omega)) c60.size (by simp;omega) (by rfl) (by rfl) ?_
    intro v67 w67 o67 b67 f67
    replace o67:Wa.OwnS w67 w6.heap.size v67 (putAt X.ss j (sn r D.2)):=(by unfold putAt;simpa using o67)
    obtain ⟨a67,k67,rfl⟩:=OwnS.slice o67
    have c67:Below w6.heap.size w6 w67:=c60.trans b67
    refine hK.out _ _ ?_ (fun hHeld=>?_)
    ·exact HS6.out _ c67
    clear hK K
    (try simp only [Act.put,sA,sB,sC])
    refine tz 14 ⟨some 124,.fieldAddr 26 (.tmp 8) 3,0,"l05_locks.go:204",#[⟨0,.phase⟩,⟨1,.phase⟩,⟨2,.phase⟩,⟨3,.phase⟩,⟨4,.phase⟩,⟨5,.phase⟩,⟨6,.phase⟩,⟨7,.phase⟩,⟨8,.phase⟩,⟨9,.phase⟩,⟨10,.phase⟩,⟨11,.phase⟩,⟨12,.phase⟩,⟨13,.phase⟩],none⟩ ?_ ?_ hHeld ?_
    rotate_left
    ·rintro wz ⟨y3,k0,k1,k2,k3,k4,k5⟩;go_simp;try (with_reducible rfl)
    simp only [Act.put,sA,sB,sC]
    refine zAM (rs:=[15]) (by kernel_rfl) (by simp) ?_
    refine ReadyZ.last (o:=⟨none,.store 24 (.tmp 124) (.tmp 123),0,"l05_locks.go:204",#[⟨14,.data⟩,⟨13,.data⟩,⟨13,.chain⟩,⟨0,.phase⟩,⟨1,.phase⟩,⟨2,.phase⟩,⟨3,.phase⟩,⟨4,.phase⟩,⟨5,.phase⟩,⟨6,.phase⟩,⟨7,.phase⟩,⟨8,.phase⟩,⟨9,.phase⟩,⟨10,.phase⟩,⟨11,.phase⟩,⟨12,.phase⟩,⟨13,.phase⟩],none⟩) rfl (fun K hK=>?_)
    have s67:=(HX6.out _ c67).1
    obtain ⟨z2,f2⟩:=zAA s67.hx 3 (x:=.slice da X.ss.length dc) rfl
    go_simp
    refine hK.out _ _ ?_
    clear hK K
    (try simp only [Act.put,sA,sB,sC])
    refine zBb (by kernel_rfl) ?_ _
    refine NoPanic.normal ?_
    have h66:=HX6.out w6 (Below.refl _ _)
    have T7:=h66.1.sreloc c67 (OwnS.mono o67 h66.1.size)
    have h67:=HX6.out _ c67
    have Q7:Hid ((w67.setCell ⟨b,3,none⟩ (.slice a67 (putAt X.ss j (sn r D.2)).length k67)).heap[ab]?=some (.cells #[.int .i64 D.2.k,.int .i64 D.2.t,.int .i64 D.2.h,.int .i64 D.2.e] 100 (0,0))):=(zAB (zAO h67.2.1 h67.1.hx (by decide)) _ _).trans h67.2.1
    have HTF:Hid (TM wA (w67.setCell ⟨b,3,none⟩ (.slice a67 (putAt X.ss j (sn r D.2)).length k67)) wA.heap.size b U (.slice xa qs.length xc) (.slice a67 (putAt X.ss j (sn r D.2)).length k67) qs):=by
     rw [← HU.out];exact T7
    clear T7 h66 h67 s67 z2 f2 c67 o67 hHeld HX6 HS6 HOS
    generalize w67.setCell ⟨b,3,none⟩ (.slice a67 (putAt X.ss j (sn r D.2)).length k67)=w7 at HTF Q7 ⊢
    have HS7:Hid (∀ W:World,(∀ i,wA.heap.size≤i→W.heap[i]?=w7.heap[i]?)→(W.cell? ⟨b,0,none⟩=some (.int .i64 U.tm)∧W.cell? ⟨b,1,none⟩=some (.int .i64 U.nx)∧W.cell? ⟨b,2,none⟩=some (.slice xa qs.length xc)∧W.cell? ⟨b,3,none⟩=some (.slice a67 (putAt X.ss j (sn r D.2)).length k67))∧W.cell? ⟨ab,0,none⟩=some (.int .i64 D.2.k)∧W.cell? ⟨ab,1,none⟩=some (.int .i64 D.2.t)∧W.cell? ⟨ab,2,none⟩=some (.int .i64 D.2.h)∧W.cell? ⟨ab,3,none⟩=some (.int .i64 D.2.e)):=fun W hW=>by
     have e1:=(hW b hbA).trans HTF.out.hx
     have e2:=(hW ab hw5).trans Q7.out
     exact ⟨⟨(zAA e1 0 rfl).1,(zAA e1 1 rfl).1,(zAA e1 2 rfl).1,(zAA e1 3 rfl).1⟩,(zAA e2 0 rfl).1,(zAA e2 1 rfl).1,(zAA e2 2 rfl).1,(zAA e2 3 rfl).1⟩
    go_upto_region 17 with fail
    have hbx:=HBX.out _ HTF.out.bel
    obtain ⟨zt0,ft0⟩:=zAA hbx.2.1 0 (x:=.int .i64 0) rfl
    obtain ⟨zt1,ft1⟩:=zAA hbx.2.1 1 (x:=.int .i64 0) rfl
    obtain ⟨zt2,ft2⟩:=zAA hbx.2.1 2 (x:=.slice none 0 0) rfl
    obtain ⟨zt3,ft3⟩:=zAA hbx.2.1 3 (x:=.slice none 0 0) rfl
    obtain ⟨za0,fa0⟩:=zAA hbx.2.2.1 0 (x:=.int .i64 0) rfl
    obtain ⟨za1,fa1⟩:=zAA hbx.2.2.1 1 (x:=.int .i64 0) rfl
    obtain ⟨za2,fa2⟩:=zAA hbx.2.2.1 2 (x:=.int .i64 0) rfl
    obtain ⟨za3,fa3⟩:=zAA hbx.2.2.1 3 (x:=.int .i64 0) rfl
    clear hbx
    refine wp_region_noPanic ?_
    refine zAq 3 (S:=fun W=>(W.cell? ⟨b,0,none⟩=some (.int .i64 U.tm)∧W.cell? ⟨b,1,none⟩=some (.int .i64 U.nx)∧W.cell? ⟨b,2,none⟩=some (.slice xa qs.length xc)∧W.cell? ⟨b,3,none⟩=some (.slice a67 (putAt X.ss j (sn r D.2)).length k67))∧W.cell? ⟨ab,0,none⟩=some (.int .i64 D.2.k)∧W.cell? ⟨ab,1,none⟩=some (.int .i64 D.2.t)∧W.cell? ⟨ab,2,none⟩=some (.int .i64 D.2.h)∧W.cell? ⟨ab,3,none⟩=some (.int .i64 D.2.e)) (by kernel_rfl) (HS7.out _ (fun _ _=>rfl)) (fun hHeld=>?_)
    refine tz 0 ⟨some 125,.load 26 (.tmp 8),26,"l05_locks.go:206",#[],none⟩ ?_ ?_ hHeld ?_
    rotate_left
    ·rintro wz ⟨⟨y0,y1,y2,y3⟩,y4,y5,y6,y7⟩;go_simp;try (with_reducible rfl)
    simp only [Act.put,sA,sB,sC]
    refine tz 1 ⟨some 126,.load 100 (.tmp 11),100,"l05_locks.go:206",#[⟨2,.gcOnly .lateStores⟩],none⟩ ?_ ?_ hHeld ?_
    rotate_left
    ·rintro wz ⟨⟨y0,y1,y2,y3⟩,y4,y5,y6,y7⟩;go_simp;try (with_reducible rfl)
    simp only [Act.put,sA,sB,sC]
    refine zAM (rs:=[2]) (by kernel_rfl) (by simp) ?_
    refine (ReadyZ.cons (o:=⟨none,.store 26 (.tmp 6) (.tmp 125),0,"l05_locks.go:206",#[⟨0,.data⟩,⟨0,.phase⟩,⟨1,.textOnly .lateStores⟩],none⟩) rfl (fun K hK=>?_) ReadyZ.nil)
    go_simp
    refine hK.out _ _ ?_ (fun hHeld=>?_)
    ·exact HS7.out _ (fun i hi=>far4 (w:=w7.drew) (by omega) _ _ _ _)
    clear hK K
    (try simp only [Act.put,sA,sB,sC])
    refine zAM (rs:=[3]) (by kernel_rfl) (by simp) ?_
    refine ReadyZ.last (o:=⟨none,.store 100 (.tmp 7) (.tmp 126),0,"l05_locks.go:206",#[⟨1,.data⟩,⟨2,.chain⟩,⟨0,.phase⟩,⟨1,.phase⟩,⟨2,.phase⟩],none⟩) rfl (fun K hK=>?_)
    go_simp
    refine hK.out _ _ ?_
    clear hK K
    (try simp only [Act.put,sA,sB,sC])
    refine zBb (by kernel_rfl) ?_ _
    refine NoPanic.normal ?_
    clear hHeld HS7
    go_wp2_with fail
    have S44:=(set44 (w:=w7) (a:=w.heap.size+1+1) (b:=w.heap.size+1+1+1) (.int .i64 0) (.int .i64 0) (.slice none 0 0) (.slice none 0 0) (.int .i64 0) (.int .i64 0) (.int .i64 0) (.int .i64 0) (.int .i64 U.tm) (.int .i64 U.nx) ((.slice xa qs.length xc)) ((.slice a67 (putAt X.ss j (sn r D.2)).length k67)) (.int .i64 D.2.k) (.int .i64 D.2.t) (.int .i64 D.2.h) (.int .i64 D.2.e) (by omega) (HBX.out _ (HTF.out.bel)).2.1 (HBX.out _ (HTF.out.bel)).2.2.1).1
    obtain ⟨AF,BF,FF,LF⟩:=S44
    have KF:Hid (OwnL ((((((((w7.setCell ⟨w.heap.size+1+1,0,none⟩ (.int .i64 U.tm)).setCell ⟨w.heap.size+1+1,1,none⟩ (.int .i64 U.nx)).setCell ⟨w.heap.size+1+1,2,none⟩ ((.slice xa qs.length xc))).setCell ⟨w.heap.size+1+1,3,none⟩ ((.slice a67 (putAt X.ss j (sn r D.2)).length k67))).setCell ⟨w.heap.size+1+1+1,0,none⟩ (.int .i64 D.2.k)).setCell ⟨w.heap.size+1+1+1,1,none⟩ (.int .i64 D.2.t)).setCell ⟨w.heap.size+1+1+1,2,none⟩ (.int .i64 D.2.h)).setCell ⟨w.heap.size+1+1+1,3,none⟩ (.int .i64 D.2.e)) w.heap.size (.slice xa qs.length xc) qs∧(∀ p ∈ qs,Wa.OwnW ((((((((w7.setCell ⟨w.heap.size+1+1,0,none⟩ (.int .i64 U.tm)).setCell ⟨w.heap.size+1+1,1,none⟩ (.int .i64 U.nx)).setCell ⟨w.heap.size+1+1,2,none⟩ ((.slice xa qs.length xc))).setCell ⟨w.heap.size+1+1,3,none⟩ ((.slice a67 (putAt X.ss j (sn r D.2)).length k67))).setCell ⟨w.heap.size+1+1+1,0,none⟩ (.int .i64 D.2.k)).setCell ⟨w.heap.size+1+1+1,1,none⟩ (.int .i64 D.2.t)).setCell ⟨w.heap.size+1+1+1,2,none⟩ (.int .i64 D.2.h)).setCell ⟨w.heap.size+1+1+1,3,none⟩ (.int .i64 D.2.e)) w.heap.size (uV p) p.1.ws)∧Wa.OwnS ((((((((w7.setCell ⟨w.heap.size+1+1,0,none⟩ (.int .i64 U.tm)).setCell ⟨w.heap.size+1+1,1,none⟩ (.int .i64 U.nx)).setCell ⟨w.heap.size+1+1,2,none⟩ ((.slice xa qs.length xc))).setCell ⟨w.heap.size+1+1,3,none⟩ ((.slice a67 (putAt X.ss j (sn r D.2)).length k67))).setCell ⟨w.heap.size+1+1+1,0,none⟩ (.int .i64 D.2.k)).setCell ⟨w.heap.size+1+1+1,1,none⟩ (.int .i64 D.2.t)).setCell ⟨w.heap.size+1+1+1,2,none⟩ (.int .i64 D.2.h)).setCell ⟨w.heap.size+1+1+1,3,none⟩ (.int .i64 D.2.e)) w.heap.size (.slice a67 (putAt X.ss j (sn r D.2)).length k67) U.ss∧qs.map (·.1)=U.ls∧Apart qs):=TM.fin HTF.out (by omega) (fun j hj=>FF j (by omega) (by omega))
    have LFH:Hid (Below w.heap.size w ((((((((w7.setCell ⟨w.heap.size+1+1,0,none⟩ (.int .i64 U.tm)).setCell ⟨w.heap.size+1+1,1,none⟩ (.int .i64 U.nx)).setCell ⟨w.heap.size+1+1,2,none⟩ ((.slice xa qs.length xc))).setCell ⟨w.heap.size+1+1,3,none⟩ ((.slice a67 (putAt X.ss j (sn r D.2)).length k67))).setCell ⟨w.heap.size+1+1+1,0,none⟩ (.int .i64 D.2.k)).setCell ⟨w.heap.size+1+1+1,1,none⟩ (.int .i64 D.2.t)).setCell ⟨w.heap.size+1+1+1,2,none⟩ (.int .i64 D.2.h)).setCell ⟨w.heap.size+1+1+1,3,none⟩ (.int .i64 D.2.e))):=LF (HBX.out _ (HTF.out.bel)).2.2.2 (by omega) (by omega)
    generalize ((((((((w7.setCell ⟨w.heap.size+1+1,0,none⟩ (.int .i64 U.tm)).setCell ⟨w.heap.size+1+1,1,none⟩ (.int .i64 U.nx)).setCell ⟨w.heap.size+1+1,2,none⟩ ((.slice xa qs.length xc))).setCell ⟨w.heap.size+1+1,3,none⟩ ((.slice a67 (putAt X.ss j (sn r D.2)).length k67))).setCell ⟨w.heap.size+1+1+1,0,none⟩ (.int .i64 D.2.k)).setCell ⟨w.heap.size+1+1+1,1,none⟩ (.int .i64 D.2.t)).setCell ⟨w.heap.size+1+1+1,2,none⟩ (.int .i64 D.2.h)).setCell ⟨w.heap.size+1+1+1,3,none⟩ (.int .i64 D.2.e))=wf at AF BF KF LFH ⊢
    have d0:=(zAA AF 0 (x:=.int .i64 U.tm) rfl).1
    have d1:=(zAA AF 1 (x:=.int .i64 U.nx) rfl).1
    have d2:=(zAA AF 2 (x:=(.slice xa qs.length xc)) rfl).1
    have d3:=(zAA AF 3 (x:=(.slice a67 (putAt X.ss j (sn r D.2)).length k67)) rfl).1
    have e0:=(zAA BF 0 (x:=.int .i64 D.2.k) rfl).1
    have e1:=(zAA BF 1 (x:=.int .i64 D.2.t) rfl).1
    have e2:=(zAA BF 2 (x:=.int .i64 D.2.h) rfl).1
    have e3:=(zAA BF 3 (x:=.int .i64 D.2.e) rfl).1
    refine bodyPost_ret (v:=.tuple #[.agg #[.int .i64 U.tm,.int .i64 U.nx,(.slice xa qs.length xc),(.slice a67 (putAt X.ss j (sn r D.2)).length k67)],.agg #[.int .i64 D.2.k,.int .i64 D.2.t,.int .i64 D.2.h,.int .i64 D.2.e]]) (by simp [results,Tryz.results62,go_sem,d0,d1,d2,d3,e0,e1,e2,e3]) rfl ?_
    refine ⟨⟨(.slice xa qs.length xc),(.slice a67 (putAt X.ss j (sn r D.2)).length k67),qs,?_,KF.out.1,KF.out.2.1,?_,?_,KF.out.2.2.2.2⟩,(by first | exact LFH.out | exact LFH.out.drew)⟩
    ·rw [HAP.out]
    ·rw [HAP.out];exact KF.out.2.2.1
    ·rw [HAP.out];exact KF.out.2.2.2.1
end Go.Proofs.YtakfniknkejgpaaGreatDoor.Ea
namespace Go.Proofs.YtakfniknkejgpaaGreatDoor.Ea
open Go.RowKit Sl By Ap Tb Tw Wa Tp Da
open Lo (LkA uV clL OwnL OwnL.kept OwnL.lt OwnL.below OwnL.row OwnL.slice zAI zAO Apart lenL atL)
open Tx (zAA zAE zAB zAK zAD)
open Lf (Fnd zAc)
open Lsh
def clAn (p:Da.An):List Value:=[.int .i64 p.k,.int .i64 p.t,.int .i64 p.h,.int .i64 p.e]
theorem oneAn (p:Da.An):∀ u ∈ clAn p,u.oneCell'=true:=by
 intro u hu
 simp [clAn] at hu
 rcases hu with rfl | rfl | rfl | rfl
 all_goals rfl
def OwnAn (w:World) (B:Nat) (v:Value) (ms:List Da.An):Prop:=w.ownsRow B 100 4 v ms.length (ms.flatMap clAn)
theorem OwnAn.kept {w w':World} {B:Nat} {v:Value} {ms:List Da.An} (h:OwnAn w B v ms) (hk:∀ g,v.ownBlock=some g→w'.heap[g]?=w.heap[g]?):OwnAn w' B v ms:=by
 obtain ⟨hl,h⟩:=h
 refine ⟨hl,?_⟩
 rcases h with h | ⟨g,cap,cur,rfl,h1,hg,h2⟩
 ·exact .inl h
 ·exact .inr ⟨g,cap,cur,rfl,h1,(hk g rfl).trans hg,h2⟩
theorem OwnAn.lt {w:World} {B:Nat} {v:Value} {ms:List Da.An} (h:OwnAn w B v ms):∀ g,v.ownBlock=some g→B≤g∧g<w.heap.size:=World.ownsRow.lt h
theorem OwnAn.below {w w':World} {B:Nat} {v:Value} {ms:List Da.An} (h:OwnAn w B v ms) (hb:Below w.heap.size w w'):OwnAn w' B v ms:=h.kept fun g hg=>hb.block g (h.lt g hg).2
theorem OwnAn.alloc {w:World} {B:Nat} {v:Value} {ms:List Da.An} (h:OwnAn w B v ms) (o:Obj):OwnAn (w.alloc o) B v ms:=h.below ((Below.refl _ _).alloc (Nat.le_refl _) _)
theorem OwnAn.made (w:World) (B:Nat) (hB:B≤w.heap.size):OwnAn (w.alloc (.cells #[] 100)) B (.slice (some ⟨w.heap.size,0,none⟩) 0 0) []:=World.ownsRow_made w #[] 0 hB (by decide) rfl
theorem OwnAn.slice {w:World} {B:Nat} {v:Value} {ms:List Da.An} (h:OwnAn w B v ms):∃ a cap,v=.slice a ms.length cap:=by
 obtain ⟨_,h | ⟨g,cap,cur,he,_⟩⟩:=h
 ·exact ⟨none,0,by rw [h.1,h.2]⟩
 ·exact ⟨_,cap,he⟩
theorem OwnAn.mono {w:World} {B B':Nat} {v:Value} {ms:List Da.An} (h:OwnAn w B v ms) (hb:B'≤B):OwnAn w B' v ms:=by
 obtain ⟨hl,h⟩:=h
 refine ⟨hl,?_⟩
 rcases h with h | ⟨g,cap,cur,rfl,h1,hg,h2⟩
 ·exact .inl h
 ·exact .inr ⟨g,cap,cur,rfl,Nat.le_trans hb h1,hg,h2⟩
theorem infoAn:(Tryz.prog.info? 100).map (fun i=>(i.zero,i.size,i.bytes))=some (some (.agg #[.int .i64 0,.int .i64 0,.int .i64 0,.int .i64 0]),4,32):=by kernel_rfl
theorem listAn {P:Program} {ops:Array Oper} {rest:List Oper} {o:Oper} {a:Act} {Q:Exit→Act→World→Prop} (hgd:o.guard=none) (s x:Operand) (t:TypeId)
 (ho:o.op=.call { callee:=.builtin .append,args:=#[s,x],argTypes:=#[t,t] }) (i:TypeInfo) (ht:P.underlying t=some (.slice 100)) (hi:P.info? 100=some i) (hz:i.zero=some (.agg #[.int .i64 0,.int .i64 0,.int .i64 0,.int .i64 0]))
 (hsize:i.size=4) (hby:i.bytes=32) (B:Nat) (w0 W:World) (v:Value) (ms:List Da.An) (m:Da.An) (hs:a.eval s=v) (hown:OwnAn W B v ms) (hg0:Below B w0 W) (hB:B≤W.heap.size)
 (gx:Nat) (hx:a.eval x=.slice (some ⟨gx,0,none⟩) 1 1) (hgx:W.heap.size=gx) (hlen:ms.length≤1000000)
 (h:∀ v' w',OwnAn w' B v' (ms ++ [m])→Below B w0 w'→(∀ k,k<W.heap.size→some k ≠ v.ownBlock→w'.heap[k]?=W.heap[k]?∧some k ≠ v'.ownBlock)→wpList P ops Q rest (a.put o.dst v') w'):wpList P ops Q (o :: rest) a (W.alloc (.cells (clAn m).toArray 100)):=by
 subst hgx
 have hown':=hown.alloc (.cells (clAn m).toArray 100)
 refine wpList_append_own_at (P:=P) _ hgd s x t ho B 100 i _ 4 32 ht hi hz hsize hby rfl (by decide) v ms.length _ hs hown' ⟨W.heap.size,0,none⟩ 1 1 (clAn m) hx rfl ?_ (oneAn m) (by unfold maxLen;omega) (by omega) (by simp;omega) ?_
 ·intro j u hj
  have h2:(⟨W.heap.size,0,none⟩ : Addr).add j=⟨W.heap.size,j,none⟩:=by unfold Addr.add;split <;> simp_all
  rw [h2,Joins.cell_of_block (heap_alloc_new W _),← hj]
  simp
 ·intro v' w' h1 h2 h3 h4
  refine h v' w' (by unfold OwnAn;rw [List.flatMap_append,List.length_append];simpa using h1) ((hg0.alloc hB _).grown h2 (by simp;omega) (fun k hk=>(hown'.lt k hk).1)) (fun k hk hn=>⟨(h2.block k (by simp;omega) hn).trans (Below.heap_alloc W _ k hk),fun e=>?_⟩)
  rcases h4 with h4 | h4
  ·exact hn (e.trans h4)
  ·rw [h4] at e
   simp at e
   omega
def RowQ (w:World) (v:Value) (rs:List (Da.Ask × Int)):Prop:=∃ a cap,v=.slice a rs.length cap∧∀ i p,rs[i]?=some p→∃ b off,a=some ⟨b,off,none⟩∧b<w.heap.size∧w.cell? ⟨b,off+i * 5,none⟩=some (.int .i64 p.1.cl)∧w.cell? ⟨b,off+i * 5+1,none⟩=some (.int .i64 p.1.st)∧w.cell? ⟨b,off+i * 5+2,none⟩=some (.int .i64 p.1.kd)∧w.cell? ⟨b,off+i * 5+3,none⟩=some (.int .i64 p.1.le)∧w.cell? ⟨b,off+i * 5+4,none⟩=some (.string p.1.nm)
def RowT (w:World) (v:Value) (rs:List (Da.Ask × Int)):Prop:=∃ a cap,v=.slice a rs.length cap∧∀ i p,rs[i]?=some p→∃ b off,a=some ⟨b,off,none⟩∧b<w.heap.size∧w.cell? ⟨b,off+i,none⟩=some (.int .i64 p.2)
theorem RowQ.below {w w':World} {v:Value} {rs:List (Da.Ask × Int)} (h:RowQ w v rs) (hb:Below w.heap.size w w'):RowQ w' v rs:=by
 obtain ⟨a,cap,rfl,h⟩:=h
 refine ⟨a,cap,rfl,fun i p hp=>?_⟩
 obtain ⟨b,off,e,hl,h0,h1,h2,h3,h4⟩:=h i p hp
 exact ⟨b,off,e,Nat.lt_of_lt_of_le hl hb.size,(hb.cell (p:=⟨b,_,none⟩) hl).trans h0,(hb.cell (p:=⟨b,_,none⟩) hl).trans h1,(hb.cell (p:=⟨b,_,none⟩) hl).trans h2,(hb.cell (p:=⟨b,_,none⟩) hl).trans h3,(hb.cell (p:=⟨b,_,none⟩) hl).trans h4⟩
theorem RowT.below {w w':World} {v:Value} {rs:List (Da.Ask × Int)} (h:RowT w v rs) (hb:Below w.heap.size w w'):RowT w' v rs:=by
 obtain ⟨a,cap,rfl,h⟩:=h
 refine ⟨a,cap,rfl,fun i p hp=>?_⟩
 obtain ⟨b,off,e,hl,h0⟩:=h i p hp
 exact ⟨b,off,e,Nat.lt_of_lt_of_le hl hb.size,(hb.cell (p:=⟨b,_,none⟩) hl).trans h0⟩
theorem runA_succ {rs:List (Da.Ask × Int)} {k:Nat} {p:Da.Ask × Int} (h:rs[k]?=some p):Da.runA rs (k+1)=Da.runA rs k ++ [(apT (Da.runT rs k) p.2 p.1).2]:=by
 unfold Da.runA
 rw [List.range_succ,List.filterMap_append]
 simp [h]
theorem runT_succ {rs:List (Da.Ask × Int)} {k:Nat} {p:Da.Ask × Int} (h:rs[k]?=some p):Da.runT rs (k+1)=(apT (Da.runT rs k) p.2 p.1).1:=by
 rw [Da.runT,h]
theorem runA_len {rs:List (Da.Ask × Int)}:∀ k,k≤rs.length→(Da.runA rs k).length=k
 | 0,_=>rfl
 | k+1,hk=>by
   obtain ⟨p,hp⟩ : ∃ p,rs[k]?=some p:=⟨_,List.getElem?_eq_getElem (show k<rs.length by omega)⟩
   rw [runA_succ hp,List.length_append,runA_len k (by omega)]
   rfl
structure RunI (w wr:World) (B b:Nat) (X:Tab) (ul us va:Value) (ps:List LkA) (zs:List Da.An):Prop where
 zt:wr.heap[w.heap.size]?=some (.cells #[.int .i64 0,.int .i64 0,.slice none 0 0,.slice none 0 0] 26 (0,0))
 bx:wr.heap[b]?=some (.cells #[.int .i64 X.tm,.int .i64 X.nx,ul,us] 26 (0,0))
 ol:OwnL wr B ul ps
 ow:∀ p ∈ ps,OwnW wr B (uV p) p.1.ws
 eq:ps.map (·.1)=X.ls
 os:OwnS wr B us X.ss
 oa:OwnAn wr B va zs
 be:Below w.heap.size w wr
 hb:w.heap.size<b
 hB:w.heap.size≤B
 lt:b<wr.heap.size
theorem RunI.below {w wr w':World} {B b:Nat} {X:Tab} {ul us va:Value} {ps:List LkA} {zs:List Da.An} (h:RunI w wr B b X ul us va ps zs) (hb:Below wr.heap.size wr w'):RunI w w' B b X ul us va ps zs :=
 ⟨(hb.block _ (Array.getElem?_eq_some_iff.1 h.zt).1).trans h.zt,(hb.block _ h.lt).trans h.bx,h.ol.below hb,fun p hp=>(h.ow p hp).below hb,h.eq,h.os.below hb,OwnAn.below h.oa hb,h.be.trans (hb.mono h.be.size),h.hb,h.hB,Nat.lt_of_lt_of_le h.lt hb.size⟩
theorem RunI.rows {w wr:World} {B b:Nat} {X:Tab} {ul us va:Value} {ps:List LkA} {zs:List Da.An} (h:RunI w wr B b X ul us va ps zs):RowL wr ul X.ls∧RowS wr us X.ss:=by
 have:=h.ol.row (fun p hp=>(h.ow p hp).row)
 rw [h.eq] at this
 exact ⟨this,OwnS.row h.os⟩
theorem RunI.next {w wr w5 w6:World} {B b:Nat} {X Y:Tab} {ul us va ul2 us2 va2:Value} {ps qs:List LkA} {zs bs:List Da.An} (h:RunI w wr B b X ul us va ps zs) (ol:OwnL w5 B ul2 qs) (ow:∀ p ∈ qs,OwnW w5 B (uV p) p.1.ws) (eq:qs.map (·.1)=Y.ls) (os:OwnS w5 B us2 Y.ss)
 (h6:w6.heap[b]?=some (.cells #[.int .i64 Y.tm,.int .i64 Y.nx,ul2,us2] 26 (0,0))) (hk:∀ (k:Nat) (cs:Array Value) (t:TypeId),w5.heap[k]?=some (.cells cs t (0,0))→t ≠ 26→t ≠ 100→w6.heap[k]?=w5.heap[k]?) (hz:w6.heap[w.heap.size]?=some (.cells #[.int .i64 0,.int .i64 0,.slice none 0 0,.slice none 0 0] 26 (0,0))) (oa:OwnAn w6 B va2 bs) (be:Below w.heap.size w w6):RunI w w6 B b Y ul2 us2 va2 qs bs:=by
 refine ⟨hz,h6,ol.kept fun g hg=>?_,fun p hp=>(ow p hp).kept fun g hg=>?_,eq,os.kept fun g hg=>?_,oa,be,h.hb,h.hB,(Array.getElem?_eq_some_iff.1 h6).1⟩
 ·obtain ⟨c1,h1⟩:=zAI ol hg
  exact hk g c1 _ h1 (by decide) (by decide)
 ·obtain ⟨c1,h1⟩:=zAI (ow p hp) hg
  exact hk g c1 _ h1 (by decide) (by decide)
 ·obtain ⟨c1,h1⟩:=zAI os hg
  exact hk g c1 _ h1 (by decide) (by decide)
set_option maxHeartbeats 800000 in
theorem l05New_any (w:World):Calls Tryz.prog 60 #[] w fun e w'=>∃ g1 g2,e=.returned (.agg #[.int .i64 0,.int .i64 1,.slice (some ⟨g1,0,none⟩) 0 0,.slice (some ⟨g2,0,none⟩) 0 0])∧w'.heap[g1]?=some (.cells #[] 95 (0,0))∧w'.heap[g2]?=some (.cells #[] 102 (0,0))∧w.heap.size≤g1∧w.heap.size≤g2∧Below w.heap.size w w':=by
 have HB:Hid ((w.alloc (.cells #[.int .i64 0,.int .i64 0,.slice none 0 0,.slice none 0 0] 26)).heap[w.heap.size]?=some (.cells #[.int .i64 0,.int .i64 0,.slice none 0 0,.slice none 0 0] 26 (0,0))∧Below w.heap.size w (w.alloc (.cells #[.int .i64 0,.int .i64 0,.slice none 0 0,.slice none 0 0] 26))):=⟨zAK _ _ _,zAD _ _⟩
 go_enter Tryz.func60,Tryz.ntmps60
 go_upto_region 1 with fail
 generalize w.alloc (.cells #[.int .i64 0,.int .i64 0,.slice none 0 0,.slice none 0 0] 26)=wb at HB ⊢
 have lb:=(Array.getElem?_eq_some_iff.1 HB.out.1).1
 obtain ⟨z0,f0⟩:=zAA HB.out.1 0 (x:=.int .i64 0) rfl
 obtain ⟨z1,f1⟩:=zAA HB.out.1 1 (x:=.int .i64 0) rfl
 obtain ⟨z2,f2⟩:=zAA HB.out.1 2 (x:=.slice none 0 0) rfl
 obtain ⟨z3,f3⟩:=zAA HB.out.1 3 (x:=.slice none 0 0) rfl
 have HS:Hid (((((wb.setCell ⟨w.heap.size,0,none⟩ (.int .i64 0)).setCell ⟨w.heap.size,1,none⟩ (.int .i64 1)).setCell ⟨w.heap.size,2,none⟩ (.slice (some ⟨wb.heap.size,0,none⟩) 0 0)).setCell ⟨w.heap.size,3,none⟩ (.slice (some ⟨wb.heap.size+1,0,none⟩) 0 0)).heap[w.heap.size]?=some (.cells #[.int .i64 0,.int .i64 1,.slice (some ⟨wb.heap.size,0,none⟩) 0 0,.slice (some ⟨wb.heap.size+1,0,none⟩) 0 0] 26 (0,0))∧((((wb.setCell ⟨w.heap.size,0,none⟩ (.int .i64 0)).setCell ⟨w.heap.size,1,none⟩ (.int .i64 1)).setCell ⟨w.heap.size,2,none⟩ (.slice (some ⟨wb.heap.size,0,none⟩) 0 0)).setCell ⟨w.heap.size,3,none⟩ (.slice (some ⟨wb.heap.size+1,0,none⟩) 0 0)).heap.size=wb.heap.size∧Below w.heap.size w ((((wb.setCell ⟨w.heap.size,0,none⟩ (.int .i64 0)).setCell ⟨w.heap.size,1,none⟩ (.int .i64 1)).setCell ⟨w.heap.size,2,none⟩ (.slice (some ⟨wb.heap.size,0,none⟩) 0 0)).setCell ⟨w.heap.size,3,none⟩ (.slice (some ⟨wb.heap.size+1,0,none⟩) 0 0))):=⟨by
  have:=zAE (zAE (zAE (zAE HB.out.1 0 (.int .i64 0)) 1 (.int .i64 1)) 2 (.slice (some ⟨wb.heap.size,0,none⟩) 0 0)) 3 (.slice (some ⟨wb.heap.size+1,0,none⟩) 0 0)
  simpa only [sA,sB,sC] using this,by simp,Below.setCell (Below.setCell (Below.setCell (Below.setCell HB.out.2 (p:=⟨w.heap.size,0,none⟩) (Nat.le_refl _) _) (p:=⟨w.heap.size,1,none⟩) (Nat.le_refl _) _) (p:=⟨w.heap.size,2,none⟩) (Nat.le_refl _) _) (p:=⟨w.heap.size,3,none⟩) (Nat.le_refl _) _⟩
 go_wp2_with fail
 generalize ((((wb.setCell ⟨w.heap.size,0,none⟩ (.int .i64 0)).setCell ⟨w.heap.size,1,none⟩ (.int .i64 1)).setCell ⟨w.heap.size,2,none⟩ (.slice (some ⟨wb.heap.size,0,none⟩) 0 0)).setCell ⟨w.heap.size,3,none⟩ (.slice (some ⟨wb.heap.size+1,0,none⟩) 0 0))=wc at HS ⊢
 obtain ⟨h1,h2,h3⟩:=HS.out
 have b1:=zAD wc (.cells #[] 95)
 have b2:=zAD (wc.alloc (.cells #[] 95)) (.cells #[] 102)
 have s1:(wc.alloc (.cells #[] 95)).heap.size=wb.heap.size+1:=by simp [h2]
 have b12:=b1.trans (b2.mono b1.size)
 have g1:((wc.alloc (.cells #[] 95)).alloc (.cells #[] 102)).heap[wb.heap.size]?=some (.cells #[] 95 (0,0)):=by rw [← h2];exact (b2.block _ (by simp)).trans (zAK _ _ _)
 have g2:((wc.alloc (.cells #[] 95)).alloc (.cells #[] 102)).heap[wb.heap.size+1]?=some (.cells #[] 102 (0,0)):=by rw [← s1];exact zAK _ _ _
 have q:=(b12.block _ (Array.getElem?_eq_some_iff.1 h1).1).trans h1
 have hfin:Below w.heap.size w ((wc.alloc (.cells #[] 95)).alloc (.cells #[] 102)):=h3.trans (b12.mono h3.size)
 generalize (wc.alloc (.cells #[] 95)).alloc (.cells #[] 102)=wf at g1 g2 q hfin ⊢
 have d0:=(zAA q 0 (x:=.int .i64 0) rfl).1
 have d1:=(zAA q 1 (x:=.int .i64 1) rfl).1
 have d2:=(zAA q 2 (x:=.slice (some ⟨wb.heap.size,0,none⟩) 0 0) rfl).1
 have d3:=(zAA q 3 (x:=.slice (some ⟨wb.heap.size+1,0,none⟩) 0 0) rfl).1
 exact bodyPost_ret (v:=.agg #[.int .i64 0,.int .i64 1,.slice (some ⟨wb.heap.size,0,none⟩) 0 0,.slice (some ⟨wb.heap.size+1,0,none⟩) 0 0]) (by simp [results,Tryz.results60,go_sem,d0,d1,d2,d3]) rfl ⟨_,_,rfl,g1,g2,by omega,by omega,hfin⟩
end Go.Proofs.YtakfniknkejgpaaGreatDoor.Ea
namespace Go.Proofs.YtakfniknkejgpaaGreatDoor.Rq
open Go.RowKit
def leB (k l:Int):Bool:=decide ((k=1 ∨ k=3)∧1≤l∧l≤1000 ∨ (k=2 ∨ k=4)∧l=0)
def reqB (c st k l:Int) (n:ByteArray):Bool:=inB c 0 255 && (inB st 1 65535 && (leB k l && opB n))
def reqV (c st k l:Int) (n:ByteArray):Value:=.agg #[.int .i64 c,.int .i64 st,.int .i64 k,.int .i64 l,.string n]
theorem lease_split (k l:Int):leB k l=(inB k 1 4 && (inB l 0 1000 && (decide (0<l) == (k == 1 || k == 3)))):=by
 unfold leB inB
 by_cases k1:k=1
 ·subst k1;rw [Bool.eq_iff_iff];simp;omega
 by_cases k2:k=2
 ·subst k2;rw [Bool.eq_iff_iff];simp;omega
 by_cases k3:k=3
 ·subst k3;rw [Bool.eq_iff_iff];simp;omega
 by_cases k4:k=4
 ·subst k4;rw [Bool.eq_iff_iff];simp;omega
 have e1:¬ (1≤k∧k≤4):=by omega
 rw [Bool.eq_iff_iff]
 simp [k1,k2,k3,k4]
 omega
theorem zCS (c st k l:Int) (n:ByteArray):reqB c st k l n=(inB c 0 255 && (inB st 1 65535 && (inB k 1 4 && (inB l 0 1000 && (opB n && (decide (0<l) == (k == 1 || k == 3))))))):=by
 unfold reqB
 rw [lease_split]
 cases inB c 0 255 <;> cases inB st 1 65535 <;> cases inB k 1 4 <;> cases inB l 0 1000 <;> cases opB n <;> simp
set_option maxHeartbeats 800000 in
theorem specRequestOK_any (c st k l:Int) (n:ByteArray) (w:World) (hs:n.size≤maxLen) :
 Calls Tryz.prog 61 #[reqV c st k l n] w fun e w'=>e=.returned (.bool (reqB c st k l n))∧Below w.heap.size w w':=by
 unfold reqV
 cases h1:inB c 0 255
 ·have HO:Hid (reqB c st k l n=false):=by show reqB c st k l n=false;rw [zCS,h1];rfl
  go_enter Tryz.func61,Tryz.ntmps61
  go_wp2_with (go_at_call 40;refine (zAl _ _ _ _).mono ?_;rintro e w' ⟨rfl,rfl⟩)
  go_ret
  exact ⟨zAG HO.out.symm,(Below.refl _ _).alloc (Nat.le_refl _) _⟩
 cases h2:inB st 1 65535
 ·have HO:Hid (reqB c st k l n=false):=by show reqB c st k l n=false;rw [zCS,h1,h2];rfl
  go_enter Tryz.func61,Tryz.ntmps61
  go_wp2_with (go_at_call 40;refine (zAl _ _ _ _).mono ?_;rintro e w' ⟨rfl,rfl⟩)
  go_ret
  exact ⟨zAG HO.out.symm,(Below.refl _ _).alloc (Nat.le_refl _) _⟩
 cases h3:inB k 1 4
 ·have HO:Hid (reqB c st k l n=false):=by show reqB c st k l n=false;rw [zCS,h1,h2,h3];rfl
  go_enter Tryz.func61,Tryz.ntmps61
  go_wp2_with (go_at_call 40;refine (zAl _ _ _ _).mono ?_;rintro e w' ⟨rfl,rfl⟩)
  go_ret
  exact ⟨zAG HO.out.symm,(Below.refl _ _).alloc (Nat.le_refl _) _⟩
 cases h4:inB l 0 1000
 ·have HO:Hid (reqB c st k l n=false):=by show reqB c st k l n=false;rw [zCS,h1,h2,h3,h4];rfl
  go_enter Tryz.func61,Tryz.ntmps61
  go_wp2_with (go_at_call 40;refine (zAl _ _ _ _).mono ?_;rintro e w' ⟨rfl,rfl⟩)
  go_ret
  exact ⟨zAG HO.out.symm,(Below.refl _ _).alloc (Nat.le_refl _) _⟩
 cases h5:opB n
 ·have HO:Hid (reqB c st k l n=false):=by show reqB c st k l n=false;rw [zCS,h1,h2,h3,h4,h5];rfl
  go_enter Tryz.func61,Tryz.ntmps61
  go_wp2_with (first | (go_at_call 40;refine (zAl _ _ _ _).mono ?_;rintro e w' ⟨rfl,rfl⟩) | (go_at_call 41;refine (zCX _ _ hs).mono ?_;rintro e w' ⟨rfl,rfl⟩))
  go_ret
  exact ⟨zAG HO.out.symm,(Below.refl _ _).alloc (Nat.le_refl _) _⟩
 have HO:Hid (reqB c st k l n=(decide (0<l) == (k == 1 || k == 3))):=by show reqB c st k l n=_;rw [zCS,h1,h2,h3,h4,h5];simp
 by_cases k1:k=1
 ·subst k1
  go_enter Tryz.func61,Tryz.ntmps61
  go_wp2_with (first | (go_at_call 40;refine (zAl _ _ _ _).mono ?_;rintro e w' ⟨rfl,rfl⟩) | (go_at_call 41;refine (zCX _ _ hs).mono ?_;rintro e w' ⟨rfl,rfl⟩))
  go_ret
  exact ⟨zAG (by rw [HO.out];simp),(Below.refl _ _).alloc (Nat.le_refl _) _⟩
 have e1:(k == 1)=false:=beq_eq_false_iff_ne.2 k1
 go_enter Tryz.func61,Tryz.ntmps61
 go_wp2_with (first | (go_at_call 40;refine (zAl _ _ _ _).mono ?_;rintro e w' ⟨rfl,rfl⟩) | (go_at_call 41;refine (zCX _ _ hs).mono ?_;rintro e w' ⟨rfl,rfl⟩))
 go_ret
 exact ⟨zAG (by rw [HO.out];simp [e1]),(Below.refl _ _).alloc (Nat.le_refl _) _⟩
end Go.Proofs.YtakfniknkejgpaaGreatDoor.Rq
