/- Texts put together: ReqLaw, Es, TakeReq. -/
import Derived.Test.YtakfniknkejgpaaGreatDoorMiA0
import Derived.Test.YtakfniknkejgpaaGreatDoorMi38
namespace Go.Proofs.YtakfniknkejgpaaGreatDoor.Rq
open Go.RowKit
theorem andThen {B:Nat} {W w1 w2:World} (h:Below B W w1) (hB:B≤W.heap.size) (h2:Below w1.heap.size w1 w2):Below B W w2:=h.trans (h2.mono (Nat.le_trans hB h.size))
end Go.Proofs.YtakfniknkejgpaaGreatDoor.Rq
namespace Go.Proofs.YtakfniknkejgpaaGreatDoor.Ea
open Go.RowKit Sl By Ap Tb Tw Wa Tp Da
open Lo (LkA uV clL OwnL OwnL.kept OwnL.lt OwnL.below OwnL.row OwnL.slice zAI zAO Apart lenL atL)
open Tx (zAA zAE zAB zAK zAD)
open Lf (Fnd zAc)
open Lsh
theorem req_of {r:Da.Ask} (h:AskOK r):Rq.reqB r.cl r.st r.kd r.le r.nm=true:=by
 obtain ⟨h1,h2,h3,h4⟩:=h
 unfold Rq.reqB Rq.leB
 rw [h1,h2,h4]
 rcases h3 with ⟨h3,h5⟩ | ⟨h3,h5⟩
 ·have:=zAa h5
  simp;omega
 ·simp;omega
set_option maxRecDepth 100000 in
set_option maxHeartbeats 12800000 in
theorem specRun_ok (rs:List (Da.Ask × Int)) (v0 v1:Value) (w:World) (h0:RowQ w v0 rs) (h1:RowT w v1 rs) (hl:rs.length≤200) (hok:∀ p ∈ rs,AskOK p.1∧less ⟨#[]⟩ p.1.nm=true∧0≤p.2∧p.2≤1000000000∧p.1.nm.size≤maxLen) :
 Calls Tryz.prog 31 #[v0,v1] w fun e w'=>(∃ ul us va vc ps,e=.returned (.tuple #[.agg #[.int .i64 (Da.runT rs rs.length).tm,.int .i64 (Da.runT rs rs.length).nx,ul,us],.slice va rs.length vc,.int .i64 0])∧OwnL w' w.heap.size ul ps∧(∀ p ∈ ps,Wa.OwnW w' w.heap.size (uV p) p.1.ws)∧Wa.OwnS w' w.heap.size us (Da.runT rs rs.length).ss∧ps.map (·.1)=(Da.runT rs rs.length).ls∧Apart ps∧OwnAn w' w.heap.size (.slice va rs.length vc) (Da.runA rs rs.length))∧Below w.heap.size w w':=by
 obtain ⟨ai0,hai0,az0,az1,az2⟩:=info_parts infoAn
 have HQ:Hid (∀ W,Below w.heap.size w W→RowQ W v0 rs∧RowT W v1 rs):=fun W hW=>⟨h0.below hW,h1.below hW⟩
 have HOK:Hid (∀ p ∈ rs,AskOK p.1∧less ⟨#[]⟩ p.1.nm=true∧0≤p.2∧p.2≤1000000000∧p.1.nm.size≤maxLen):=hok
 have HRT:Hid (∀ k,k≤rs.length→TOK (Da.runT rs k)∧(Da.runT rs k).nx≤1+5 * k):=fun k hk=>runT_ok (fun p hp=>⟨(hok p hp).1,(hok p hp).2.1,(hok p hp).2.2.1,(hok p hp).2.2.2.1⟩) hl k hk
 obtain ⟨qa,qc,rfl,_⟩:=h0
 obtain ⟨ta,tc,rfl,_⟩:=h1
 have hn1:¬ (4096:Int)<(rs.length:Int):=by omega
 have hn2:¬ (200:Int)<(rs.length:Int):=by omega
 have hn3:((rs.length:Int) != (rs.length:Int))=false:=by simp
 have HZ:Hid ((w.alloc (.cells #[.int .i64 0,.int .i64 0,.slice none 0 0,.slice none 0 0] 26)).heap[w.heap.size]?=some (.cells #[.int .i64 0,.int .i64 0,.slice none 0 0,.slice none 0 0] 26 (0,0))∧Below w.heap.size w (w.alloc (.cells #[.int .i64 0,.int .i64 0,.slice none 0 0,.slice none 0 0] 26))):=⟨zAK _ _ _,zAD _ _⟩
 clear hok
 go_enter Tryz.func31,Tryz.ntmps31
 go_upto_region 1 with fail
 generalize w.alloc (.cells #[.int .i64 0,.int .i64 0,.slice none 0 0,.slice none 0 0] 26)=wz at HZ ⊢
 have lz:=(Array.getElem?_eq_some_iff.1 HZ.out.1).1
 go_upto_region 6 with (go_at_call 60;refine (l05New_any _).mono ?_;rintro e w1 ⟨g1,g2,rfl,q1,q2,q3,q4,b1⟩)
 have HN:Hid (RunI w ((w1.alloc (.cells #[.int .i64 0,.int .i64 1,.slice (some ⟨g1,0,none⟩) 0 0,.slice (some ⟨g2,0,none⟩) 0 0] 26)).alloc (.cells #[] 100)) wz.heap.size w1.heap.size (Da.runT rs 0) (.slice (some ⟨g1,0,none⟩) 0 0) (.slice (some ⟨g2,0,none⟩) 0 0) (.slice (some ⟨w1.heap.size+1,0,none⟩) 0 0) [] (Da.runA rs 0)):=by
  have s1:(w1.alloc (.cells #[.int .i64 0,.int .i64 1,.slice (some ⟨g1,0,none⟩) 0 0,.slice (some ⟨g2,0,none⟩) 0 0] 26)).heap.size=w1.heap.size+1:=by simp
  have n1:=zAD w1 (.cells #[.int .i64 0,.int .i64 1,.slice (some ⟨g1,0,none⟩) 0 0,.slice (some ⟨g2,0,none⟩) 0 0] 26)
  have n2:=zAD (w1.alloc (.cells #[.int .i64 0,.int .i64 1,.slice (some ⟨g1,0,none⟩) 0 0,.slice (some ⟨g2,0,none⟩) 0 0] 26)) (.cells #[] 100)
  have n12:=n1.trans (n2.mono n1.size)
  have l1:=(Array.getElem?_eq_some_iff.1 q1).1
  have l2:=(Array.getElem?_eq_some_iff.1 q2).1
  have hsz:=b1.size
  refine ⟨(n12.block _ (by omega)).trans ((b1.block _ lz).trans HZ.out.1),(n2.block _ (by omega)).trans (zAK _ _ _),⟨rfl,.inr ⟨g1,0,#[],rfl,q3,(n12.block _ l1).trans q1,by simp,by decide,rfl,by simp⟩⟩,fun p hp=>by simp at hp,rfl,⟨rfl,.inr ⟨g2,0,#[],rfl,q4,(n12.block _ l2).trans q2,by simp [Da.runT,Da.t0],by decide,rfl,by simp [Da.runT,Da.t0]⟩⟩,?_,HZ.out.2.trans ((b1.mono HZ.out.2.size).trans (n12.mono (by omega))),by omega,HZ.out.2.size,by simp;omega⟩
  rw [← s1]
  exact OwnAn.made _ _ (by omega)
 have hBb:wz.heap.size≤w1.heap.size:=b1.size
 clear q1 q2 q3 q4 b1 HZ lz
 go_upto_region 7 with fail
 generalize (w1.alloc (.cells #[.int .i64 0,.int .i64 1,.slice (some ⟨g1,0,none⟩) 0 0,.slice (some ⟨g2,0,none⟩) 0 0] 26)).alloc (.cells #[] 100)=w2 at HN ⊢
 generalize w1.heap.size=b at HN hBb ⊢
 generalize wz.heap.size=B at HN hBb ⊢
 go_wp2_with fail
 go_loopw [8,9] (fun va0 i wr=>∃ (j:Nat) (ul us:Value) (va:Option Addr) (vc:Nat) (ps:List LkA),i=.int .i64 (j:Int)∧va0=.slice va j vc∧j≤rs.length∧Hid (RunI w wr B b (Da.runT rs j) ul us (.slice va j vc) ps (Da.runA rs j))) (fun _ i _=>rs.length - (intOf i).toNat)
 case atStart=>exact ⟨0,_,_,_,0,[],rfl,rfl,by omega,HN⟩
 case round =>
  clear HN
  obtain ⟨j,ul,us,va,vc,ps,rfl,rfl,hj,HR⟩:=hrel
  obtain ⟨X,HX⟩ : ∃ X,Hid (Da.runT rs j=X):=⟨_,rfl⟩
  have HTX:=HRT.out j hj
  rw [HX.out] at HR HTX
  obtain ⟨la,lc,rfl⟩:=OwnL.slice HR.out.ol
  obtain ⟨sa,sc,rfl⟩:=OwnS.slice HR.out.os
  by_cases hjn:j<rs.length
  ·obtain ⟨p,hp⟩ : ∃ p,rs[j]?=some p:=⟨_,List.getElem?_eq_getElem hjn⟩
   obtain ⟨k1,k2,k3,k4,k5⟩:=HOK.out p (List.mem_of_getElem? hp)
   obtain ⟨⟨_,_,e1,hq⟩,⟨_,_,e2,ht⟩⟩:=HQ.out wr HR.out.be
   obtain ⟨qb,qo,e3,hlq,cq0,cq1,cq2,cq3,cq4⟩:=hq j p hp
   obtain ⟨tb,tf,e4,hlt,ct⟩:=ht j p hp
   obtain rfl:qa=some ⟨qb,qo,none⟩:=by injection e1 with e1;exact e1.trans e3
   obtain rfl:ta=some ⟨tb,tf,none⟩:=by injection e2 with e2;exact e2.trans e4
   clear e1 e2 e3 e4 hq ht
   obtain ⟨D,HD⟩ : ∃ D,Hid (apT X p.2 p.1=D):=⟨_,rfl⟩
   obtain ⟨Y,HY⟩ : ∃ Y,Hid (D.1=Y):=⟨_,rfl⟩
   obtain ⟨N,HN⟩ : ∃ N,Hid (D.2=N):=⟨_,rfl⟩
   have HYX:Hid (Da.runT rs (j+1)=Y):=by show _=_;rw [runT_succ hp,HX.out,HD.out,HY.out]
   have HNX:Hid (Da.runA rs (j+1)=Da.runA rs j ++ [N]):=by show _=_;rw [runA_succ hp,HX.out,HD.out,HN.out]
   have HAL:Hid ((Da.runA rs j).length=j):=runA_len j hj
   have HAL1:Hid ((Da.runA rs (j+1)).length=j+1):=runA_len (j+1) (by omega)
   obtain ⟨nl,HNL⟩ : ∃ nl,Hid (ps.length=nl):=⟨_,rfl⟩
   rw [HNL.out] at HR
   have hnx5:X.nx≤999990:=by have:=HTX.2;omega
   have HAPP:Hid (∀ W,Below wr.heap.size wr W→Calls Tryz.prog 62 #[.agg #[.int .i64 X.tm,.int .i64 X.nx,.slice la nl lc,.slice sa X.ss.length sc],.int .i64 p.2,.agg #[.int .i64 p.1.cl,.int .i64 p.1.st,.int .i64 p.1.kd,.int .i64 p.1.le,.string p.1.nm]] W fun e w'=>(∃ ul us qs,e=.returned (.tuple #[.agg #[.int .i64 Y.tm,.int .i64 Y.nx,ul,us],.agg #[.int .i64 N.k,.int .i64 N.t,.int .i64 N.h,.int .i64 N.e]])∧OwnL w' W.heap.size ul qs∧(∀ p ∈ qs,Wa.OwnW w' W.heap.size (uV p) p.1.ws)∧Wa.OwnS w' W.heap.size us Y.ss∧qs.map (·.1)=Y.ls∧Apart qs)∧Below W.heap.size W w'):=fun W hW=>by
    have hrw:=(HR.out.below hW).rows
    have:=l05Apply_any X _ _ p.2 p.1 W hrw.1 hrw.2 HTX.1 k3 k4 hnx5 k1
    rw [HD.out] at this
    unfold ApP at this
    rw [HY.out,HN.out] at this
    exact this
   have HROK:Hid (∀ W,Calls Tryz.prog 61 #[.agg #[.int .i64 p.1.cl,.int .i64 p.1.st,.int .i64 p.1.kd,.int .i64 p.1.le,.string p.1.nm]] W fun e w'=>e=.returned (.bool true)∧Below W.heap.size W w'):=fun W=>by
    have:=Rq.specRequestOK_any p.1.cl p.1.st p.1.kd p.1.le p.1.nm W k5
    rw [req_of k1] at this
    exact this
   have HIN:Hid (∀ W,Calls Tryz.prog 40 #[.int .i64 p.2,.int .i64 0,.int .i64 1000000000] W fun e w'=>e=.returned (.bool true)∧W=w'):=fun W=>by
    have:=Rq.zAl p.2 0 1000000000 W
    rw [zAx k3 k4] at this
    exact this.mono fun e w' ⟨h1,h2⟩=>⟨h1,h2.symm⟩
   have hj0:(0:Int)≤(j:Int):=by omega
   have hj1:(j:Int)<(rs.length:Int):=by omega
   clear k1 k2 k3 k4 k5 hp HTX hnx5
   go_upto_region 10 with fail
   go_wp2_with fail
   refine (HROK.out _).mono ?_
   rintro e wq ⟨rfl,bq⟩
   have ct2:=(bq.cell (p:=⟨tb,tf+j,none⟩) hlt).trans ct
   have hcq:wq.cell? ⟨qb,qo+j * 5,none⟩=some (.int .i64 p.1.cl)∧wq.cell? ⟨qb,qo+j * 5+1,none⟩=some (.int .i64 p.1.st)∧wq.cell? ⟨qb,qo+j * 5+2,none⟩=some (.int .i64 p.1.kd)∧wq.cell? ⟨qb,qo+j * 5+3,none⟩=some (.int .i64 p.1.le)∧wq.cell? ⟨qb,qo+j * 5+4,none⟩=some (.string p.1.nm):=⟨(bq.cell (p:=⟨qb,_,none⟩) hlq).trans cq0,(bq.cell (p:=⟨qb,_,none⟩) hlq).trans cq1,(bq.cell (p:=⟨qb,_,none⟩) hlq).trans cq2,(bq.cell (p:=⟨qb,_,none⟩) hlq).trans cq3,(bq.cell (p:=⟨qb,_,none⟩) hlq).trans cq4⟩
   have hlq2:=Nat.lt_of_lt_of_le hlq bq.size
   have hlt2:=Nat.lt_of_lt_of_le hlt bq.size
   have HR2:=HR.out.below bq
   have HAPP2:=fun W hW=>HAPP.out W (bq.trans (Below.mono hW bq.size))
   clear ct cq0 cq1 cq2 cq3 cq4 hlq hlt
   clear HAPP HR bq
   have HAPP:Hid _:=HAPP2
   have HR:Hid (RunI w wq B b X (.slice la nl lc) (.slice sa X.ss.length sc) (.slice va j vc) ps (Da.runA rs j)):=HR2
   clear HAPP2 HR2
   go_wp2_with fail
   refine (HIN.out _).mono ?_
   rintro e wi ⟨rfl,hw⟩
   subst hw
   go_upto_region 12 with fail
   have HS12:Hid (∀ W,Below wq.heap.size wq W→(W.cell? ⟨b,0,none⟩=some (.int .i64 X.tm)∧W.cell? ⟨b,1,none⟩=some (.int .i64 X.nx)∧W.cell? ⟨b,2,none⟩=some (.slice la nl lc)∧W.cell? ⟨b,3,none⟩=some (.slice sa X.ss.length sc))∧W.cell? ⟨tb,tf+j,none⟩=some (.int .i64 p.2)∧W.cell? ⟨qb,qo+j * 5,none⟩=some (.int .i64 p.1.cl)∧W.cell? ⟨qb,qo+j * 5+1,none⟩=some (.int .i64 p.1.st)∧W.cell? ⟨qb,qo+j * 5+2,none⟩=some (.int .i64 p.1.kd)∧W.cell? ⟨qb,qo+j * 5+3,none⟩=some (.int .i64 p.1.le)∧W.cell? ⟨qb,qo+j * 5+4,none⟩=some (.string p.1.nm)):=fun W hW=>by
    have hr:=HR.out.below hW
    exact ⟨⟨(zAA hr.bx 0 rfl).1,(zAA hr.bx 1 rfl).1,(zAA hr.bx 2 rfl).1,(zAA hr.bx 3 rfl).1⟩,(hW.cell (p:=⟨tb,_,none⟩) hlt2).trans ct2,(hW.cell (p:=⟨qb,_,none⟩) hlq2).trans hcq.1,(hW.cell (p:=⟨qb,_,none⟩) hlq2).trans hcq.2.1,(hW.cell (p:=⟨qb,_,none⟩) hlq2).trans hcq.2.2.1,(hW.cell (p:=⟨qb,_,none⟩) hlq2).trans hcq.2.2.2.1,(hW.cell (p:=⟨qb,_,none⟩) hlq2).trans hcq.2.2.2.2⟩
   have HBW:Hid (∀ W,Below wq.heap.size wq W→B≤W.heap.size):=fun W hW=>by have:=hW.size;have:=HR.out.lt;omega
   clear ct2 hcq
   refine wp_region_noPanic ?_
   refine zAq 16 (S:=fun W=>(W.cell? ⟨b,0,none⟩=some (.int .i64 X.tm)∧W.cell? ⟨b,1,none⟩=some (.int .i64 X.nx)∧W.cell? ⟨b,2,none⟩=some (.slice la nl lc)∧W.cell? ⟨b,3,none⟩=some (.slice sa X.ss.length sc))∧W.cell? ⟨tb,tf+j,none⟩=some (.int .i64 p.2)∧W.cell? ⟨qb,qo+j * 5,none⟩=some (.int .i64 p.1.cl)∧W.cell? ⟨qb,qo+j * 5+1,none⟩=some (.int .i64 p.1.st)∧W.cell? ⟨qb,qo+j * 5+2,none⟩=some (.int .i64 p.1.kd)∧W.cell? ⟨qb,qo+j * 5+3,none⟩=some (.int .i64 p.1.le)∧W.cell? ⟨qb,qo+j * 5+4,none⟩=some (.string p.1.nm)) (by kernel_rfl) (HS12.out _ (Below.refl wq.heap.size wq).drew) (fun hHeld=>?_)
   refine tz 0 ⟨some 59,.load 26 (.tmp 7),26,"l05_locks.go:238",#[],none⟩ ?v1 ?h1 hHeld ?r1
   case h1=>(rintro wz ⟨⟨x0,x1,x2,x3⟩,t0,q0,q1,q2,q3,q4⟩;go_simp;try (with_reducible rfl))
   simp only [Act.put,sA,sB,sC]
   refine tz 1 ⟨some 60,.move (.tmp 1),28,"l05_locks.go:238",#[],none⟩ ?v2 ?h2 hHeld ?r2
   case h2=>(rintro wz ⟨⟨x0,x1,x2,x3⟩,t0,q0,q1,q2,q3,q4⟩;go_simp;try (with_reducible rfl))
   simp only [Act.put,sA,sB,sC]
   refine tz 2 ⟨some 61,.move (.tmp 9),3,"l05_locks.go:238",#[],none⟩ ?v3 ?h3 hHeld ?r3
   case h3=>(rintro wz ⟨⟨x0,x1,x2,x3⟩,t0,q0,q1,q2,q3,q4⟩;go_simp;try (with_reducible rfl))
   simp only [Act.put,sA,sB,sC]
   refine tz 3 ⟨some 62,.indexAddr 28 (.tmp 60) (.tmp 61),0,"l05_locks.go:238",#[⟨1,.data⟩,⟨2,.data⟩],none⟩ ?v4 ?h4 hHeld ?r4
   case h4=>(rintro wz ⟨⟨x0,x1,x2,x3⟩,t0,q0,q1,q2,q3,q4⟩;go_simp;try (with_reducible rfl))
   simp only [Act.put,sA,sB,sC]
   refine tz 4 ⟨some 63,.load 3 (.tmp 62),3,"l05_locks.go:238",#[⟨3,.data⟩],none⟩ ?v5 ?h5 hHeld ?r5
   case h5=>(rintro wz ⟨⟨x0,x1,x2,x3⟩,t0,q0,q1,q2,q3,q4⟩;go_simp;try (with_reducible rfl))
   simp only [Act.put,sA,sB,sC]
   refine tz 5 ⟨some 64,.move (.tmp 0),75,"l05_locks.go:238",#[],none⟩ ?v6 ?h6 hHeld ?r6
   case h6=>(rintro wz ⟨⟨x0,x1,x2,x3⟩,t0,q0,q1,q2,q3,q4⟩;go_simp;try (with_reducible rfl))
   simp only [Act.put,sA,sB,sC]
   refine tz 6 ⟨some 65,.move (.tmp 9),3,"l05_locks.go:238",#[],none⟩ ?v7 ?h7 hHeld ?r7
   case h7=>(rintro wz ⟨⟨x0,x1,x2,x3⟩,t0,q0,q1,q2,q3,q4⟩;go_simp;try (with_reducible rfl))
   simp only [Act.put,sA,sB,sC]
   refine tz 7 ⟨some 66,.indexAddr 75 (.tmp 64) (.tmp 65),0,"l05_locks.go:238",#[⟨5,.data⟩,⟨6,.data⟩],none⟩ ?v8 ?h8 hHeld ?r8
   case h8=>(rintro wz ⟨⟨x0,x1,x2,x3⟩,t0,q0,q1,q2,q3,q4⟩;go_simp;try (with_reducible rfl))
   simp only [Act.put,sA,sB,sC]
   refine tz 8 ⟨some 67,.load 123 (.tmp 66),123,"l05_locks.go:238",#[⟨7,.data⟩],none⟩ ?v9 ?h9 hHeld ?r9
   case h9=>(rintro wz ⟨⟨x0,x1,x2,x3⟩,t0,q0,q1,q2,q3,q4⟩;go_simp;try (with_reducible rfl))
   simp only [Act.put,sA,sB,sC]
   refine zAM (rs:=[9,13,14]) (by kernel_rfl) (by simp) ?_
   refine (ReadyZ.cons (o:=⟨some 68,.call { callee:=Callee.value (Operand.func 62),args:=#[Operand.tmp 59,Operand.tmp 63,Operand.tmp 67],argTypes:=#[26,3,123] },126,"l05_locks.go:238",#[⟨0,.data⟩,⟨4,.data⟩,⟨8,.data⟩],none⟩) rfl (fun K hK=>?_) (ReadyZ.cons (o:=⟨some 10,.alloc 26,0,"l05_locks.go:238",#[],none⟩) rfl (fun K hK=>?_) (ReadyZ.cons (o:=⟨some 11,.alloc 100,0,"l05_locks.go:238",#[],none⟩) rfl (fun K hK=>?_) ReadyZ.nil)))
   focus
    go_simp
    go_at_call 62
    refine (HAPP.out _ (Below.refl wq.heap.size wq).drew).mono ?_
    rintro e w5 ⟨⟨ul5,us5,qs,rfl,o1,o2,o3,o4,_⟩,b5⟩
    obtain ⟨xa,xc,rfl⟩:=OwnL.slice o1
    obtain ⟨ya,yc,rfl⟩:=OwnS.slice o3
    have c5:Below wq.heap.size wq w5:=(Below.refl wq.heap.size wq).drew.trans (b5.mono (Below.refl wq.heap.size wq).drew.size)
    have hs5:wq.heap.size≤w5.heap.size:=(by have:=b5.size;simpa using this)
    replace o1:=OwnL.mono o1 (HBW.out _ (Below.refl wq.heap.size wq).drew)
    replace o2:=fun p hp=>OwnW.mono (o2 p hp) (HBW.out _ (Below.refl wq.heap.size wq).drew)
    replace o3:=OwnS.mono o3 (HBW.out _ (Below.refl wq.heap.size wq).drew)
    try go_simp
    refine hK.out _ _ ?_ (fun hHeld=>?_)
    ·exact HS12.out _ c5
    clear hK K
    (try simp only [Act.put,sA,sB,sC])
    refine tz 10 ⟨some 58,.move (.tmp 68),126,"l05_locks.go:238",#[⟨9,.data⟩],none⟩ ?v10 ?h10 hHeld ?r10
    case h10=>(rintro wz ⟨⟨x0,x1,x2,x3⟩,t0,q0,q1,q2,q3,q4⟩;go_simp;try (with_reducible rfl))
    simp only [Act.put,sA,sB,sC]
    refine tz 11 ⟨some 69,.extract (.tmp 58) 0,26,"l05_locks.go:238",#[⟨10,.data⟩],none⟩ ?v11 ?h11 hHeld ?r11
    case h11=>(rintro wz ⟨⟨x0,x1,x2,x3⟩,t0,q0,q1,q2,q3,q4⟩;go_simp;try (with_reducible rfl))
    simp only [Act.put,sA,sB,sC]
    refine tz 12 ⟨some 70,.extract (.tmp 58) 1,100,"l05_locks.go:238",#[⟨10,.data⟩,⟨15,.gcOnly .lateStores⟩],none⟩ ?v12 ?h12 hHeld ?r12
    case h12=>(rintro wz ⟨⟨x0,x1,x2,x3⟩,t0,q0,q1,q2,q3,q4⟩;go_simp;try (with_reducible rfl))
    simp only [Act.put,sA,sB,sC]
    refine zAM (rs:=[13,14]) (by kernel_rfl) (by simp) ?_
    refine (ReadyZ.cons (o:=⟨some 10,.alloc 26,0,"l05_locks.go:238",#[],none⟩) rfl (fun K hK=>?_) (ReadyZ.cons (o:=⟨some 11,.alloc 100,0,"l05_locks.go:238",#[],none⟩) rfl (fun K hK=>?_) ReadyZ.nil))
    focus
     go_simp
     refine hK.out _ _ ?_ (fun hHeld=>?_)
     ·exact HS12.out _ (c5.alloc c5.size _)
     clear hK K
     (try simp only [Act.put,sA,sB,sC])
     have d13:Below wq.heap.size wq (w5.alloc (.cells #[.int .i64 0,.int .i64 0,.slice none 0 0,.slice none 0 0] 26)):=c5.alloc c5.size _
     have n13:=zAD w5 (.cells #[.int .i64 0,.int .i64 0,.slice none 0 0,.slice none 0 0] 26)
     have ha:(w5.alloc (.cells #[.int .i64 0,.int .i64 0,.slice none 0 0,.slice none 0 0] 26)).heap[w5.heap.size]?=some (.cells #[.int .i64 0,.int .i64 0,.slice none 0 0,.slice none 0 0] 26 (0,0)):=(by rw [show (w5.heap.size:Nat)=w5.heap.size by simp];exact zAK _ _ _)
     replace o1:=OwnL.below o1 n13
     replace o2:=fun p hp=>OwnW.below (o2 p hp) n13
     replace o3:=OwnS.below o3 n13
     refine zAM (rs:=[14]) (by kernel_rfl) (by simp) ?_
     refine (ReadyZ.cons (o:=⟨some 11,.alloc 100,0,"l05_locks.go:238",#[],none⟩) rfl (fun K hK=>?_) ReadyZ.nil)
     go_simp
     refine hK.out _ _ ?_ (fun hHeld=>?_)
     ·exact HS12.out _ (d13.alloc d13.size _)
     clear hK K
     (try simp only [Act.put,sA,sB,sC])
     have d14:Below wq.heap.size wq ((w5.alloc (.cells #[.int .i64 0,.int .i64 0,.slice none 0 0,.slice none 0 0] 26)).alloc (.cells #[.int .i64 0,.int .i64 0,.int .i64 0,.int .i64 0] 100)):=d13.alloc d13.size _
     have n14:=zAD (w5.alloc (.cells #[.int .i64 0,.int .i64 0,.slice none 0 0,.slice none 0 0] 26)) (.cells #[.int .i64 0,.int .i64 0,.int .i64 0,.int .i64 0] 100)
     replace ha:=(n14.block _ (Array.getElem?_eq_some_iff.1 ha).1).trans ha
     have hb:((w5.alloc (.cells #[.int .i64 0,.int .i64 0,.slice none 0 0,.slice none 0 0] 26)).alloc (.cells #[.int .i64 0,.int .i64 0,.int .i64 0,.int .i64 0] 100)).heap[w5.heap.size+1]?=some (.cells #[.int .i64 0,.int .i64 0,.int .i64 0,.int .i64 0] 100 (0,0)):=(by rw [show (w5.heap.size+1:Nat)=(w5.alloc (.cells #[.int .i64 0,.int .i64 0,.slice none 0 0,.slice none 0 0] 26)).heap.size by simp];exact zAK _ _ _)
     replace o1:=OwnL.below o1 n14
     replace o2:=fun p hp=>OwnW.below (o2 p hp) n14
     replace o3:=OwnS.below o3 n14
     have c6:Below wq.heap.size wq ((w5.alloc (.cells #[.int .i64 0,.int .i64 0,.slice none 0 0,.slice none 0 0] 26)).alloc (.cells #[.int .i64 0,.int .i64 0,.int .i64 0,.int .i64 0] 100)):=d14
     have hne:w5.heap.size ≠ w5.heap.size+1:=(by omega)
     generalize hw6:((w5.alloc (.cells #[.int .i64 0,.int .i64 0,.slice none 0 0,.slice none 0 0] 26)).alloc (.cells #[.int .i64 0,.int .i64 0,.int .i64 0,.int .i64 0] 100))=w6 at ha hb c6 o1 o2 o3 ⊢
     clear hw6
     obtain ⟨pb,HPpb⟩ : ∃ q,Hid (w5.heap.size+1=q):=⟨_,rfl⟩
     have hlb:wq.heap.size≤pb:=(by rw [← HPpb.out];omega)
     rw [HPpb.out] at hb hne ⊢
     obtain ⟨pa,HPpa⟩ : ∃ q,Hid (w5.heap.size=q):=⟨_,rfl⟩
     have hla:wq.heap.size≤pa:=(by rw [← HPpa.out];omega)
     rw [HPpa.out] at ha hne ⊢
    rotate_left
    focus
     go_simp
     refine hK.out _ _ ?_ (fun hHeld=>?_)
     ·exact HS12.out _ (c5.alloc c5.size _)
     clear hK K
     (try simp only [Act.put,sA,sB,sC])
     have d14:Below wq.heap.size wq (w5.alloc (.cells #[.int .i64 0,.int .i64 0,.int .i64 0,.int .i64 0] 100)):=c5.alloc c5.size _
     have n14:=zAD w5 (.cells #[.int .i64 0,.int .i64 0,.int .i64 0,.int .i64 0] 100)
     have hb:(w5.alloc (.cells #[.int .i64 0,.int .i64 0,.int .i64 0,.int .i64 0] 100)).heap[w5.heap.size]?=some (.cells #[.int .i64 0,.int .i64 0,.int .i64 0,.int .i64 0] 100 (0,0)):=(by rw [show (w5.heap.size:Nat)=w5.heap.size by simp];exact zAK _ _ _)
     replace o1:=OwnL.below o1 n14
     replace o2:=fun p hp=>OwnW.below (o2 p hp) n14
     replace o3:=OwnS.below o3 n14
     refine zAM (rs:=[13]) (by kernel_rfl) (by simp) ?_
     refine (ReadyZ.cons (o:=⟨some 10,.alloc 26,0,"l05_locks.go:238",#[],none⟩) rfl (fun K hK=>?_) ReadyZ.nil)
     go_simp
     refine hK.out _ _ ?_ (fun hHeld=>?_)
     ·exact HS12.out _ (d14.alloc d14.size _)
     clear hK K
     (try simp only [Act.put,sA,sB,sC])
     have d13:Below wq.heap.size wq ((w5.alloc (.cells #[.int .i64 0,.int .i64 0,.int .i64 0,.int .i64 0] 100)).alloc (.cells #[.int .i64 0,.int .i64 0,.slice none 0 0,.slice none 0 0] 26)):=d14.alloc d14.size _
     have n13:=zAD (w5.alloc (.cells #[.int .i64 0,.int .i64 0,.int .i64 0,.int .i64 0] 100)) (.cells #[.int .i64 0,.int .i64 0,.slice none 0 0,.slice none 0 0] 26)
     replace hb:=(n13.block _ (Array.getElem?_eq_some_iff.1 hb).1).trans hb
     have ha:((w5.alloc (.cells #[.int .i64 0,.int .i64 0,.int .i64 0,.int .i64 0] 100)).alloc (.cells #[.int .i64 0,.int .i64 0,.slice none 0 0,.slice none 0 0] 26)).heap[w5.heap.size+1]?=some (.cells #[.int .i64 0,.int .i64 0,.slice none 0 0,.slice none 0 0] 26 (0,0)):=(by rw [show (w5.heap.size+1:Nat)=(w5.alloc (.cells #[.int .i64 0,.int .i64 0,.int .i64 0,.int .i64 0] 100)).heap.size by simp];exact zAK _ _ _)
     replace o1:=OwnL.below o1 n13
     replace o2:=fun p hp=>OwnW.below (o2 p hp) n13
     replace o3:=OwnS.below o3 n13
     have c6:Below wq.heap.size wq ((w5.alloc (.cells #[.int .i64 0,.int .i64 0,.int .i64 0,.int .i64 0] 100)).alloc (.cells #[.int .i64 0,.int .i64 0,.slice none 0 0,.slice none 0 0] 26)):=d13
     have hne:w5.heap.size+1 ≠ w5.heap.size:=(by omega)
     generalize hw6:((w5.alloc (.cells #[.int .i64 0,.int .i64 0,.int .i64 0,.int .i64 0] 100)).alloc (.cells #[.int .i64 0,.int .i64 0,.slice none 0 0,.slice none 0 0] 26))=w6 at ha hb c6 o1 o2 o3 ⊢
     clear hw6
     obtain ⟨pa,HPpa⟩ : ∃ q,Hid (w5.heap.size+1=q):=⟨_,rfl⟩
     have hla:wq.heap.size≤pa:=(by rw [← HPpa.out];omega)
     rw [HPpa.out] at ha hne ⊢
     obtain ⟨pb,HPpb⟩ : ∃ q,Hid (w5.heap.size=q):=⟨_,rfl⟩
     have hlb:wq.heap.size≤pb:=(by rw [← HPpb.out];omega)
     rw [HPpb.out] at hb hne ⊢
    rotate_left
   rotate_left 2
   focus
    go_simp
    refine hK.out _ _ ?_ (fun hHeld=>?_)
    ·exact HS12.out _ ((Below.refl wq.heap.size wq).drew.alloc (Below.refl wq.heap.size wq).drew.size _)
    clear hK K
    (try simp only [Act.put,sA,sB,sC])
    have d13:Below wq.heap.size wq (wq.drew.alloc (.cells #[.int .i64 0,.int .i64 0,.slice none 0 0,.slice none 0 0] 26)):=(Below.refl wq.heap.size wq).drew.alloc (Below.refl wq.heap.size wq).drew.size _
    have n13:=zAD wq.drew (.cells #[.int .i64 0,.int .i64 0,.slice none 0 0,.slice none 0 0] 26)
    have ha:(wq.drew.alloc (.cells #[.int .i64 0,.int .i64 0,.slice none 0 0,.slice none 0 0] 26)).heap[wq.heap.size]?=some (.cells #[.int .i64 0,.int .i64 0,.slice none 0 0,.slice none 0 0] 26 (0,0)):=(by rw [show (wq.heap.size:Nat)=wq.drew.heap.size by simp];exact zAK _ _ _)
    refine zAM (rs:=[9,14]) (by kernel_rfl) (by simp) ?_
    refine (ReadyZ.cons (o:=⟨some 68,.call { callee:=Callee.value (Operand.func 62),args:=#[Operand.tmp 59,Operand.tmp 63,Operand.tmp 67],argTypes:=#[26,3,123] },126,"l05_locks.go:238",#[⟨0,.data⟩,⟨4,.data⟩,⟨8,.data⟩],none⟩) rfl (fun K hK=>?_) (ReadyZ.cons (o:=⟨some 11,.alloc 100,0,"l05_locks.go:238",#[],none⟩) rfl (fun K hK=>?_) ReadyZ.nil))
    focus
     go_simp
     go_at_call 62
     refine (HAPP.out _ d13).mono ?_
     rintro e w5 ⟨⟨ul5,us5,qs,rfl,o1,o2,o3,o4,_⟩,b5⟩
     obtain ⟨xa,xc,rfl⟩:=OwnL.slice o1
     obtain ⟨ya,yc,rfl⟩:=OwnS.slice o3
     have c5:Below wq.heap.size wq w5:=d13.trans (b5.mono d13.size)
     replace ha:=(b5.block _ (Array.getElem?_eq_some_iff.1 ha).1).trans ha
     have hs5:wq.heap.size+1≤w5.heap.size:=(by have:=b5.size;simpa using this)
     replace o1:=OwnL.mono o1 (HBW.out _ d13)
     replace o2:=fun p hp=>OwnW.mono (o2 p hp) (HBW.out _ d13)
     replace o3:=OwnS.mono o3 (HBW.out _ d13)
     try go_simp
     refine hK.out _ _ ?_ (fun hHeld=>?_)
     ·exact HS12.out _ c5
     clear hK K
     (try simp only [Act.put,sA,sB,sC])
     refine tz 10 ⟨some 58,.move (.tmp 68),126,"l05_locks.go:238",#[⟨9,.data⟩],none⟩ ?v13 ?h13 hHeld ?r13
     case h13=>(rintro wz ⟨⟨x0,x1,x2,x3⟩,t0,q0,q1,q2,q3,q4⟩;go_simp;try (with_reducible rfl))
     simp only [Act.put,sA,sB,sC]
     refine tz 11 ⟨some 69,.extract (.tmp 58) 0,26,"l05_locks.go:238",#[⟨10,.data⟩],none⟩ ?v14 ?h14 hHeld ?r14
     case h14=>(rintro wz ⟨⟨x0,x1,x2,x3⟩,t0,q0,q1,q2,q3,q4⟩;go_simp;try (with_reducible rfl))
     simp only [Act.put,sA,sB,sC]
     refine tz 12 ⟨some 70,.extract (.tmp 58) 1,100,"l05_locks.go:238",#[⟨10,.data⟩,⟨15,.gcOnly .lateStores⟩],none⟩ ?v15 ?h15 hHeld ?r15
     case h15=>(rintro wz ⟨⟨x0,x1,x2,x3⟩,t0,q0,q1,q2,q3,q4⟩;go_simp;try (with_reducible rfl))
     simp only [Act.put,sA,sB,sC]
     refine zAM (rs:=[14]) (by kernel_rfl) (by simp) ?_
     refine (ReadyZ.cons (o:=⟨some 11,.alloc 100,0,"l05_locks.go:238",#[],none⟩) rfl (fun K hK=>?_) ReadyZ.nil)
     go_simp
     refine hK.out _ _ ?_ (fun hHeld=>?_)
     ·exact HS12.out _ (c5.alloc c5.size _)
     clear hK K
     (try simp only [Act.put,sA,sB,sC])
     have d14:Below wq.heap.size wq (w5.alloc (.cells #[.int .i64 0,.int .i64 0,.int .i64 0,.int .i64 0] 100)):=c5.alloc c5.size _
     have n14:=zAD w5 (.cells #[.int .i64 0,.int .i64 0,.int .i64 0,.int .i64 0] 100)
     replace ha:=(n14.block _ (Array.getElem?_eq_some_iff.1 ha).1).trans ha
     have hb:(w5.alloc (.cells #[.int .i64 0,.int .i64 0,.int .i64 0,.int .i64 0] 100)).heap[w5.heap.size]?=some (.cells #[.int .i64 0,.int .i64 0,.int .i64 0,.int .i64 0] 100 (0,0)):=(by rw [show (w5.heap.size:Nat)=w5.heap.size by simp];exact zAK _ _ _)
     replace o1:=OwnL.below o1 n14
     replace o2:=fun p hp=>OwnW.below (o2 p hp) n14
     replace o3:=OwnS.below o3 n14
     have c6:Below wq.heap.size wq (w5.alloc (.cells #[.int .i64 0,.int .i64 0,.int .i64 0,.int .i64 0] 100)):=d14
     have hne:wq.heap.size ≠ w5.heap.size:=(by omega)
     generalize hw6:(w5.alloc (.cells #[.int .i64 0,.int .i64 0,.int .i64 0,.int .i64 0] 100))=w6 at ha hb c6 o1 o2 o3 ⊢
     clear hw6
     obtain ⟨pa,HPpa⟩ : ∃ q,Hid (wq.heap.size=q):=⟨_,rfl⟩
     have hla:wq.heap.size≤pa:=(by rw [← HPpa.out];omega)
     rw [HPpa.out] at ha hne ⊢
     obtain ⟨pb,HPpb⟩ : ∃ q,Hid (w5.heap.size=q):=⟨_,rfl⟩
     have hlb:wq.heap.size≤pb:=(by rw [← HPpb.out];omega)
     rw [HPpb.out] at hb hne ⊢
    rotate_left
    focus
     go_simp
     refine hK.out _ _ ?_ (fun hHeld=>?_)
     ·exact HS12.out _ (d13.alloc d13.size _)
     clear hK K
     (try simp only [Act.put,sA,sB,sC])
     have d14:Below wq.heap.size wq ((wq.drew.alloc (.cells #[.int .i64 0,.int .i64 0,.slice none 0 0,.slice none 0 0] 26)).alloc (.cells #[.int .i64 0,.int .i64 0,.int .i64 0,.int .i64 0] 100)):=d13.alloc d13.size _
     have n14:=zAD (wq.drew.alloc (.cells #[.int .i64 0,.int .i64 0,.slice none 0 0,.slice none 0 0] 26)) (.cells #[.int .i64 0,.int .i64 0,.int .i64 0,.int .i64 0] 100)
     replace ha:=(n14.block _ (Array.getElem?_eq_some_iff.1 ha).1).trans ha
     have hb:((wq.drew.alloc (.cells #[.int .i64 0,.int .i64 0,.slice none 0 0,.slice none 0 0] 26)).alloc (.cells #[.int .i64 0,.int .i64 0,.int .i64 0,.int .i64 0] 100)).heap[wq.heap.size+1]?=some (.cells #[.int .i64 0,.int .i64 0,.int .i64 0,.int .i64 0] 100 (0,0)):=(by rw [show (wq.heap.size+1:Nat)=(wq.drew.alloc (.cells #[.int .i64 0,.int .i64 0,.slice none 0 0,.slice none 0 0] 26)).heap.size by simp];exact zAK _ _ _)
     refine zAM (rs:=[9]) (by kernel_rfl) (by simp) ?_
     refine (ReadyZ.cons (o:=⟨some 68,.call { callee:=Callee.value (Operand.func 62),args:=#[Operand.tmp 59,Operand.tmp 63,Operand.tmp 67],argTypes:=#[26,3,123] },126,"l05_locks.go:238",#[⟨0,.data⟩,⟨4,.data⟩,⟨8,.data⟩],none⟩) rfl (fun K hK=>?_) ReadyZ.nil)
     go_simp
     go_at_call 62
     refine (HAPP.out _ d14).mono ?_
     rintro e w5 ⟨⟨ul5,us5,qs,rfl,o1,o2,o3,o4,_⟩,b5⟩
     obtain ⟨xa,xc,rfl⟩:=OwnL.slice o1
     obtain ⟨ya,yc,rfl⟩:=OwnS.slice o3
     have c5:Below wq.heap.size wq w5:=d14.trans (b5.mono d14.size)
     replace ha:=(b5.block _ (Array.getElem?_eq_some_iff.1 ha).1).trans ha
     replace hb:=(b5.block _ (Array.getElem?_eq_some_iff.1 hb).1).trans hb
     have hs5:wq.heap.size+1+1≤w5.heap.size:=(by have:=b5.size;simpa using this)
     replace o1:=OwnL.mono o1 (HBW.out _ d14)
     replace o2:=fun p hp=>OwnW.mono (o2 p hp) (HBW.out _ d14)
     replace o3:=OwnS.mono o3 (HBW.out _ d14)
     try go_simp
     refine hK.out _ _ ?_ (fun hHeld=>?_)
     ·exact HS12.out _ c5
     clear hK K
     (try simp only [Act.put,sA,sB,sC])
     refine tz 10 ⟨some 58,.move (.tmp 68),126,"l05_locks.go:238",#[⟨9,.data⟩],none⟩ ?v16 ?h16 hHeld ?r16
     case h16=>(rintro wz ⟨⟨x0,x1,x2,x3⟩,t0,q0,q1,q2,q3,q4⟩;go_simp;try (with_reducible rfl))
     simp only [Act.put,sA,sB,sC]
     refine tz 11 ⟨some 69,.extract (.tmp 58) 0,26,"l05_locks.go:238",#[⟨10,.data⟩],none⟩ ?v17 ?h17 hHeld ?r17
     case h17=>(rintro wz ⟨⟨x0,x1,x2,x3⟩,t0,q0,q1,q2,q3,q4⟩;go_simp;try (with_reducible rfl))
     simp only [Act.put,sA,sB,sC]
     refine tz 12 ⟨some 70,.extract (.tmp 58) 1,100,"l05_locks.go:238",#[⟨10,.data⟩,⟨15,.gcOnly .lateStores⟩],none⟩ ?v18 ?h18 hHeld ?r18
     case h18=>(rintro wz ⟨⟨x0,x1,x2,x3⟩,t0,q0,q1,q2,q3,q4⟩;go_simp;try (with_reducible rfl))
     simp only [Act.put,sA,sB,sC]
     have c6:Below wq.heap.size wq w5:=c5
     have hne:wq.heap.size ≠ wq.heap.size+1:=(by omega)
     generalize hw6:w5=w6 at ha hb c6 o1 o2 o3 ⊢
     clear hw6
     obtain ⟨pb,HPpb⟩ : ∃ q,Hid (wq.heap.size+1=q):=⟨_,rfl⟩
     have hlb:wq.heap.size≤pb:=(by rw [← HPpb.out];omega)
     rw [HPpb.out] at hb hne ⊢
     obtain ⟨pa,HPpa⟩ : ∃ q,Hid (wq.heap.size=q):=⟨_,rfl⟩
     have hla:wq.heap.size≤pa:=(by rw [← HPpa.out];omega)
     rw [HPpa.out] at ha hne ⊢
    rotate_left
   rotate_left 2
   focus
    go_simp
    refine hK.out _ _ ?_ (fun hHeld=>?_)
    ·exact HS12.out _ ((Below.refl wq.heap.size wq).drew.alloc (Below.refl wq.heap.size wq).drew.size _)
    clear hK K
    (try simp only [Act.put,sA,sB,sC])
    have d14:Below wq.heap.size wq (wq.drew.alloc (.cells #[.int .i64 0,.int .i64 0,.int .i64 0,.int .i64 0] 100)):=(Below.refl wq.heap.size wq).drew.alloc (Below.refl wq.heap.size wq).drew.size _
    have n14:=zAD wq.drew (.cells #[.int .i64 0,.int .i64 0,.int .i64 0,.int .i64 0] 100)
    have hb:(wq.drew.alloc (.cells #[.int .i64 0,.int .i64 0,.int .i64 0,.int .i64 0] 100)).heap[wq.heap.size]?=some (.cells #[.int .i64 0,.int .i64 0,.int .i64 0,.int .i64 0] 100 (0,0)):=(by rw [show (wq.heap.size:Nat)=wq.drew.heap.size by simp];exact zAK _ _ _)
    refine zAM (rs:=[9,13]) (by kernel_rfl) (by simp) ?_
    refine (ReadyZ.cons (o:=⟨some 68,.call { callee:=Callee.value (Operand.func 62),args:=#[Operand.tmp 59,Operand.tmp 63,Operand.tmp 67],argTypes:=#[26,3,123] },126,"l05_locks.go:238",#[⟨0,.data⟩,⟨4,.data⟩,⟨8,.data⟩],none⟩) rfl (fun K hK=>?_) (ReadyZ.cons (o:=⟨some 10,.alloc 26,0,"l05_locks.go:238",#[],none⟩) rfl (fun K hK=>?_) ReadyZ.nil))
    focus
     go_simp
     go_at_call 62
     refine (HAPP.out _ d14).mono ?_
     rintro e w5 ⟨⟨ul5,us5,qs,rfl,o1,o2,o3,o4,_⟩,b5⟩
     obtain ⟨xa,xc,rfl⟩:=OwnL.slice o1
     obtain ⟨ya,yc,rfl⟩:=OwnS.slice o3
     have c5:Below wq.heap.size wq w5:=d14.trans (b5.mono d14.size)
     replace hb:=(b5.block _ (Array.getElem?_eq_some_iff.1 hb).1).trans hb
     have hs5:wq.heap.size+1≤w5.heap.size:=(by have:=b5.size;simpa using this)
     replace o1:=OwnL.mono o1 (HBW.out _ d14)
     replace o2:=fun p hp=>OwnW.mono (o2 p hp) (HBW.out _ d14)
     replace o3:=OwnS.mono o3 (HBW.out _ d14)
     try go_simp
     refine hK.out _ _ ?_ (fun hHeld=>?_)
     ·exact HS12.out _ c5
     clear hK K
     (try simp only [Act.put,sA,sB,sC])
     refine tz 10 ⟨some 58,.move (.tmp 68),126,"l05_locks.go:238",#[⟨9,.data⟩],none⟩ ?v19 ?h19 hHeld ?r19
     case h19=>(rintro wz ⟨⟨x0,x1,x2,x3⟩,t0,q0,q1,q2,q3,q4⟩;go_simp;try (with_reducible rfl))
     simp only [Act.put,sA,sB,sC]
     refine tz 11 ⟨some 69,.extract (.tmp 58) 0,26,"l05_locks.go:238",#[⟨10,.data⟩],none⟩ ?v20 ?h20 hHeld ?r20
     case h20=>(rintro wz ⟨⟨x0,x1,x2,x3⟩,t0,q0,q1,q2,q3,q4⟩;go_simp;try (with_reducible rfl))
     simp only [Act.put,sA,sB,sC]
     refine tz 12 ⟨some 70,.extract (.tmp 58) 1,100,"l05_locks.go:238",#[⟨10,.data⟩,⟨15,.gcOnly .lateStores⟩],none⟩ ?v21 ?h21 hHeld ?r21
     case h21=>(rintro wz ⟨⟨x0,x1,x2,x3⟩,t0,q0,q1,q2,q3,q4⟩;go_simp;try (with_reducible rfl))
     simp only [Act.put,sA,sB,sC]
     refine zAM (rs:=[13]) (by kernel_rfl) (by simp) ?_
     refine (ReadyZ.cons (o:=⟨some 10,.alloc 26,0,"l05_locks.go:238",#[],none⟩) rfl (fun K hK=>?_) ReadyZ.nil)
     go_simp
     refine hK.out _ _ ?_ (fun hHeld=>?_)
     ·exact HS12.out _ (c5.alloc c5.size _)
     clear hK K
     (try simp only [Act.put,sA,sB,sC])
     have d13:Below wq.heap.size wq (w5.alloc (.cells #[.int .i64 0,.int .i64 0,.slice none 0 0,.slice none 0 0] 26)):=c5.alloc c5.size _
     have n13:=zAD w5 (.cells #[.int .i64 0,.int .i64 0,.slice none 0 0,.slice none 0 0] 26)
     replace hb:=(n13.block _ (Array.getElem?_eq_some_iff.1 hb).1).trans hb
     have ha:(w5.alloc (.cells #[.int .i64 0,.int .i64 0,.slice none 0 0,.slice none 0 0] 26)).heap[w5.heap.size]?=some (.cells #[.int .i64 0,.int .i64 0,.slice none 0 0,.slice none 0 0] 26 (0,0)):=(by rw [show (w5.heap.size:Nat)=w5.heap.size by simp];exact zAK _ _ _)
     replace o1:=OwnL.below o1 n13
     replace o2:=fun p hp=>OwnW.below (o2 p hp) n13
     replace o3:=OwnS.below o3 n13
     have c6:Below wq.heap.size wq (w5.alloc (.cells #[.int .i64 0,.int .i64 0,.slice none 0 0,.slice none 0 0] 26)):=d13
     have hne:w5.heap.size ≠ wq.heap.size:=(by omega)
     generalize hw6:(w5.alloc (.cells #[.int .i64 0,.int .i64 0,.slice none 0 0,.slice none 0 0] 26))=w6 at ha hb c6 o1 o2 o3 ⊢
     clear hw6
     obtain ⟨pa,HPpa⟩ : ∃ q,Hid (w5.heap.size=q):=⟨_,rfl⟩
     have hla:wq.heap.size≤pa:=(by rw [← HPpa.out];omega)
     rw [HPpa.out] at ha hne ⊢
     obtain ⟨pb,HPpb⟩ : ∃ q,Hid (wq.heap.size=q):=⟨_,rfl⟩
     have hlb:wq.heap.size≤pb:=(by rw [← HPpb.out];omega)
     rw [HPpb.out] at hb hne ⊢
    rotate_left
    focus
     go_simp
     refine hK.out _ _ ?_ (fun hHeld=>?_)
     ·exact HS12.out _ (d14.alloc d14.size _)
     clear hK K
     (try simp only [Act.put,sA,sB,sC])
     have d13:Below wq.heap.size wq ((wq.drew.alloc (.cells #[.int .i64 0,.int .i64 0,.int .i64 0,.int .i64 0] 100)).alloc (.cells #[.int .i64 0,.int .i64 0,.slice none 0 0,.slice none 0 0] 26)):=d14.alloc d14.size _
     have n13:=zAD (wq.drew.alloc (.cells #[.int .i64 0,.int .i64 0,.int .i64 0,.int .i64 0] 100)) (.cells #[.int .i64 0,.int .i64 0,.slice none 0 0,.slice none 0 0] 26)
     replace hb:=(n13.block _ (Array.getElem?_eq_some_iff.1 hb).1).trans hb
     have ha:((wq.drew.alloc (.cells #[.int .i64 0,.int .i64 0,.int .i64 0,.int .i64 0] 100)).alloc (.cells #[.int .i64 0,.int .i64 0,.slice none 0 0,.slice none 0 0] 26)).heap[wq.heap.size+1]?=some (.cells #[.int .i64 0,.int .i64 0,.slice none 0 0,.slice none 0 0] 26 (0,0)):=(by rw [show (wq.heap.size+1:Nat)=(wq.drew.alloc (.cells #[.int .i64 0,.int .i64 0,.int .i64 0,.int .i64 0] 100)).heap.size by simp];exact zAK _ _ _)
     refine zAM (rs:=[9]) (by kernel_rfl) (by simp) ?_
     refine (ReadyZ.cons (o:=⟨some 68,.call { callee:=Callee.value (Operand.func 62),args:=#[Operand.tmp 59,Operand.tmp 63,Operand.tmp 67],argTypes:=#[26,3,123] },126,"l05_locks.go:238",#[⟨0,.data⟩,⟨4,.data⟩,⟨8,.data⟩],none⟩) rfl (fun K hK=>?_) ReadyZ.nil)
     go_simp
     go_at_call 62
     refine (HAPP.out _ d13).mono ?_
     rintro e w5 ⟨⟨ul5,us5,qs,rfl,o1,o2,o3,o4,_⟩,b5⟩
     obtain ⟨xa,xc,rfl⟩:=OwnL.slice o1
     obtain ⟨ya,yc,rfl⟩:=OwnS.slice o3
     have c5:Below wq.heap.size wq w5:=d13.trans (b5.mono d13.size)
     replace ha:=(b5.block _ (Array.getElem?_eq_some_iff.1 ha).1).trans ha
     replace hb:=(b5.block _ (Array.getElem?_eq_some_iff.1 hb).1).trans hb
     have hs5:wq.heap.size+1+1≤w5.heap.size:=(by have:=b5.size;simpa using this)
     replace o1:=OwnL.mono o1 (HBW.out _ d13)
     replace o2:=fun p hp=>OwnW.mono (o2 p hp) (HBW.out _ d13)
     replace o3:=OwnS.mono o3 (HBW.out _ d13)
     try go_simp
     refine hK.out _ _ ?_ (fun hHeld=>?_)
     ·exact HS12.out _ c5
     clear hK K
     (try simp only [Act.put,sA,sB,sC])
     refine tz 10 ⟨some 58,.move (.tmp 68),126,"l05_locks.go:238",#[⟨9,.data⟩],none⟩ ?v22 ?h22 hHeld ?r22
     case h22=>(rintro wz ⟨⟨x0,x1,x2,x3⟩,t0,q0,q1,q2,q3,q4⟩;go_simp;try (with_reducible rfl))
     simp only [Act.put,sA,sB,sC]
     refine tz 11 ⟨some 69,.extract (.tmp 58) 0,26,"l05_locks.go:238",#[⟨10,.data⟩],none⟩ ?v23 ?h23 hHeld ?r23
     case h23=>(rintro wz ⟨⟨x0,x1,x2,x3⟩,t0,q0,q1,q2,q3,q4⟩;go_simp;try (with_reducible rfl))
     simp only [Act.put,sA,sB,sC]
     refine tz 12 ⟨some 70,.extract (.tmp 58) 1,100,"l05_locks.go:238",#[⟨10,.data⟩,⟨15,.gcOnly .lateStores⟩],none⟩ ?v24 ?h24 hHeld ?r24
     case h24=>(rintro wz ⟨⟨x0,x1,x2,x3⟩,t0,q0,q1,q2,q3,q4⟩;go_simp;try (with_reducible rfl))
     simp only [Act.put,sA,sB,sC]
     have c6:Below wq.heap.size wq w5:=c5
     have hne:wq.heap.size+1 ≠ wq.heap.size:=(by omega)
     generalize hw6:w5=w6 at ha hb c6 o1 o2 o3 ⊢
     clear hw6
     obtain ⟨pa,HPpa⟩ : ∃ q,Hid (wq.heap.size+1=q):=⟨_,rfl⟩
     have hla:wq.heap.size≤pa:=(by rw [← HPpa.out];omega)
     rw [HPpa.out] at ha hne ⊢
     obtain ⟨pb,HPpb⟩ : ∃ q,Hid (wq.heap.size=q):=⟨_,rfl⟩
     have hlb:wq.heap.size≤pb:=(by rw [← HPpb.out];omega)
     rw [HPpb.out] at hb hne ⊢
    rotate_left
   rotate_left 2
   all_goals
    obtain ⟨za0,fa0⟩:=zAA ha 0 (x:=.int .i64 0) rfl
    obtain ⟨za1,fa1⟩:=zAA ha 1 (x:=.int .i64 0) rfl
    obtain ⟨za2,fa2⟩:=zAA ha 2 (x:=.slice none 0 0) rfl
    obtain ⟨za3,fa3⟩:=zAA ha 3 (x:=.slice none 0 0) rfl
    obtain ⟨zb0,fb0⟩:=zAA hb 0 (x:=.int .i64 0) rfl
    obtain ⟨zb1,fb1⟩:=zAA hb 1 (x:=.int .i64 0) rfl
    obtain ⟨zb2,fb2⟩:=zAA hb 2 (x:=.int .i64 0) rfl
    obtain ⟨zb3,fb3⟩:=zAA hb 3 (x:=.int .i64 0) rfl
    refine zAM (rs:=[15]) (by kernel_rfl) (by simp) ?_
    refine (ReadyZ.cons (o:=⟨none,.store 26 (.tmp 10) (.tmp 69),0,"l05_locks.go:238",#[⟨13,.data⟩,⟨11,.data⟩,⟨9,.chain⟩,⟨0,.phase⟩,⟨1,.phase⟩,⟨2,.phase⟩,⟨3,.phase⟩,⟨4,.phase⟩,⟨5,.phase⟩,⟨6,.phase⟩,⟨7,.phase⟩,⟨8,.phase⟩,⟨9,.phase⟩,⟨10,.phase⟩,⟨11,.phase⟩,⟨12,.textOnly .lateStores⟩,⟨13,.phase⟩,⟨14,.phase⟩],none⟩) rfl (fun K hK=>?_) ReadyZ.nil)
    go_simp
    refine hK.out _ _ ?_ (fun hHeld=>?_)
    ·exact HS12.out _ (Below.setCell (Below.setCell (Below.setCell (Below.setCell c6 (p:=⟨pa,0,none⟩) hla _) (p:=⟨pa,1,none⟩) hla _) (p:=⟨pa,2,none⟩) hla _) (p:=⟨pa,3,none⟩) hla _)
    clear hK K
    (try simp only [Act.put,sA,sB,sC])
    refine zAM (rs:=[16]) (by kernel_rfl) (by simp) ?_
    refine ReadyZ.last (o:=⟨none,.store 100 (.tmp 11) (.tmp 70),0,"l05_locks.go:238",#[⟨14,.data⟩,⟨12,.data⟩,⟨15,.chain⟩,⟨0,.phase⟩,⟨1,.phase⟩,⟨2,.phase⟩,⟨3,.phase⟩,⟨4,.phase⟩,⟨5,.phase⟩,⟨6,.phase⟩,⟨7,.phase⟩,⟨8,.phase⟩,⟨9,.phase⟩,⟨10,.phase⟩,⟨11,.phase⟩,⟨12,.phase⟩,⟨13,.phase⟩,⟨14,.phase⟩,⟨15,.phase⟩],none⟩) rfl (fun K hK=>?_)
    go_simp
    refine hK.out _ _ ?_
    clear hK K
    (try simp only [Act.put,sA,sB,sC])
    refine zBb (by kernel_rfl) ?_ _
    refine NoPanic.normal ?_
    obtain ⟨AF,BF,FF,LF⟩:=(set44 (w:=w6) (a:=pa) (b:=pb) (.int .i64 0) (.int .i64 0) (.slice none 0 0) (.slice none 0 0) (.int .i64 0) (.int .i64 0) (.int .i64 0) (.int .i64 0) (.int .i64 Y.tm) (.int .i64 Y.nx) (.slice xa qs.length xc) (.slice ya Y.ss.length yc) (.int .i64 N.k) (.int .i64 N.t) (.int .i64 N.h) (.int .i64 N.e) hne ha hb).1
    have LF6:=LF c6 hla hlb
    clear LF hHeld za0 za1 za2 za3 fa0 fa1 fa2 fa3 zb0 zb1 zb2 zb3 fb0 fb1 fb2 fb3
    generalize ((((((((w6.setCell ⟨pa,0,none⟩ (.int .i64 Y.tm)).setCell ⟨pa,1,none⟩ (.int .i64 Y.nx)).setCell ⟨pa,2,none⟩ (.slice xa qs.length xc)).setCell ⟨pa,3,none⟩ (.slice ya Y.ss.length yc)).setCell ⟨pb,0,none⟩ (.int .i64 N.k)).setCell ⟨pb,1,none⟩ (.int .i64 N.t)).setCell ⟨pb,2,none⟩ (.int .i64 N.h)).setCell ⟨pb,3,none⟩ (.int .i64 N.e))=w7 at AF BF FF LF6 ⊢
    have hR7:=HR.out.below LF6
    obtain ⟨xb0,gb0⟩:=zAA hR7.bx 0 (x:=.int .i64 X.tm) rfl
    obtain ⟨xb1,gb1⟩:=zAA hR7.bx 1 (x:=.int .i64 X.nx) rfl
    obtain ⟨xb2,gb2⟩:=zAA hR7.bx 2 (x:=.slice la nl lc) rfl
    obtain ⟨xb3,gb3⟩:=zAA hR7.bx 3 (x:=.slice sa X.ss.length sc) rfl
    have k0:=(zAA AF 0 (x:=.int .i64 Y.tm) rfl).1
    have k1:=(zAA AF 1 (x:=.int .i64 Y.nx) rfl).1
    have k2:=(zAA AF 2 (x:=.slice xa qs.length xc) rfl).1
    have k3:=(zAA AF 3 (x:=.slice ya Y.ss.length yc) rfl).1
    have hbl:=HR.out.lt
    have B8:Hid (((((w7.setCell ⟨b,0,none⟩ (.int .i64 Y.tm)).setCell ⟨b,1,none⟩ (.int .i64 Y.nx)).setCell ⟨b,2,none⟩ (.slice xa qs.length xc)).setCell ⟨b,3,none⟩ (.slice ya Y.ss.length yc)).heap[b]?=some (.cells #[.int .i64 Y.tm,.int .i64 Y.nx,.slice xa qs.length xc,.slice ya Y.ss.length yc] 26 (0,0))∧(∀ k,k ≠ b→((((w7.setCell ⟨b,0,none⟩ (.int .i64 Y.tm)).setCell ⟨b,1,none⟩ (.int .i64 Y.nx)).setCell ⟨b,2,none⟩ (.slice xa qs.length xc)).setCell ⟨b,3,none⟩ (.slice ya Y.ss.length yc)).heap[k]?=w7.heap[k]?)∧Below w.heap.size w ((((w7.setCell ⟨b,0,none⟩ (.int .i64 Y.tm)).setCell ⟨b,1,none⟩ (.int .i64 Y.nx)).setCell ⟨b,2,none⟩ (.slice xa qs.length xc)).setCell ⟨b,3,none⟩ (.slice ya Y.ss.length yc))):=⟨by
     have:=zAE (zAE (zAE (zAE hR7.bx 0 (.int .i64 Y.tm)) 1 (.int .i64 Y.nx)) 2 (.slice xa qs.length xc)) 3 (.slice ya Y.ss.length yc)
     simpa only [sA,sB,sC] using this,fun k hk=>far4 (w:=w7) hk _ _ _ _,Below.setCell (Below.setCell (Below.setCell (Below.setCell hR7.be (p:=⟨b,0,none⟩) (Nat.le_of_lt HR.out.hb) _) (p:=⟨b,1,none⟩) (Nat.le_of_lt HR.out.hb) _) (p:=⟨b,2,none⟩) (Nat.le_of_lt HR.out.hb) _) (p:=⟨b,3,none⟩) (Nat.le_of_lt HR.out.hb) _⟩
    go_upto_region 14 with fail
    clear k0 k1 k2 k3 xb0 xb1 xb2 xb3 gb0 gb1 gb2 gb3
    generalize ((((w7.setCell ⟨b,0,none⟩ (.int .i64 Y.tm)).setCell ⟨b,1,none⟩ (.int .i64 Y.nx)).setCell ⟨b,2,none⟩ (.slice xa qs.length xc)).setCell ⟨b,3,none⟩ (.slice ya Y.ss.length yc))=w8 at B8 ⊢
    have hpb:w8.heap[pb]?=some (.cells #[.int .i64 N.k,.int .i64 N.t,.int .i64 N.h,.int .i64 N.e] 100 (0,0)):=(B8.out.2.1 pb (by omega)).trans BF
    have hOA:OwnAn w8 B (.slice va j vc) (Da.runA rs j):=OwnAn.kept HR.out.oa (fun g hg=>by
     obtain ⟨c1,h1⟩:=zAI HR.out.oa hg
     have h2:=(OwnAn.lt HR.out.oa g hg).2
     have h3:=c6.block g h2
     rw [B8.out.2.1 g (fun e=>zAO h1 HR.out.bx (by decide) e),FF g (by omega) (by omega),h3])
    have m0:=(zAA hpb 0 (x:=.int .i64 N.k) rfl).1
    have m1:=(zAA hpb 1 (x:=.int .i64 N.t) rfl).1
    have m2:=(zAA hpb 2 (x:=.int .i64 N.h) rfl).1
    have m3:=(zAA hpb 3 (x:=.int .i64 N.e) rfl).1
    have hB8:B≤w8.heap.size:=(by have:=(Array.getElem?_eq_some_iff.1 B8.out.1).1;omega)
    go_wp2_with (at_builtin;go_must (refine listAn (by rfl) _ _ 78 (by rfl) ai0 Tryz.underlying78 hai0 az0 az1 az2 B w8 _ _ (Da.runA rs j) N (by rfl) hOA (Below.refl _ _) hB8 _ (by rfl) (by simp) (by rw [HAL.out];omega) ?_;intro v9 w9 o9 b9 k9;rw [← HNX.out] at o9;obtain ⟨va9,vc9,hv9⟩:=OwnAn.slice o9;rw [HAL1.out] at hv9;subst hv9))
    all_goals
     have hkk:∀ (k:Nat) (cs:Array Value) (t:TypeId),w6.heap[k]?=some (.cells cs t (0,0))→t ≠ 26→t ≠ 100→w9.heap[k]?=w6.heap[k]?:=fun k cs t hc h1 h2=>by
      have e1:k ≠ pa:=fun e=>zAO hc ha h1 e
      have e2:k ≠ pb:=fun e=>zAO hc hb h2 e
      have e3:k ≠ b:=fun e=>zAO hc (c6.block b hbl ▸ HR.out.bx) h1 e
      have f8:w8.heap[k]?=w6.heap[k]?:=(B8.out.2.1 k e3).trans (FF k e1 e2)
      have l8:k<w8.heap.size:=(Array.getElem?_eq_some_iff.1 (f8.trans hc)).1
      rw [(k9 k l8 (fun e=>by
       obtain ⟨c1,h3⟩:=zAI hOA e.symm
       exact zAO (f8.trans hc) h3 h2 rfl)).1,f8]
     have hz9:w9.heap[w.heap.size]?=some (.cells #[.int .i64 0,.int .i64 0,.slice none 0 0,.slice none 0 0] 26 (0,0)):=by
      have e8:w8.heap[w.heap.size]?=some (.cells #[.int .i64 0,.int .i64 0,.slice none 0 0,.slice none 0 0] 26 (0,0)):=(B8.out.2.1 _ (by have:=HR.out.hb;omega)).trans hR7.zt
      rw [(k9 _ (Array.getElem?_eq_some_iff.1 e8).1 (fun e=>by
       obtain ⟨c1,h3⟩:=zAI hOA e.symm
       exact zAO e8 h3 (by decide) rfl)).1,e8]
     have hx9:w9.heap[b]?=some (.cells #[.int .i64 Y.tm,.int .i64 Y.nx,.slice xa qs.length xc,.slice ya Y.ss.length yc] 26 (0,0)):=by
      rw [(k9 _ (Array.getElem?_eq_some_iff.1 B8.out.1).1 (fun e=>by
       obtain ⟨c1,h3⟩:=zAI hOA e.symm
       exact zAO B8.out.1 h3 (by decide) rfl)).1,B8.out.1]
     have hR9:=RunI.next (Y:=Y) HR.out o1 o2 o4 o3 hx9 hkk hz9 o9 (B8.out.2.2.trans (b9.mono HR.out.hB))
     exact ⟨⟨j+1,.slice xa qs.length xc,.slice ya Y.ss.length yc,va9,vc9,qs,by go_num,rfl,by omega,by rw [HYX.out];exact hR9⟩,by simp [intOf];omega⟩
  ·obtain rfl:j=rs.length:=by omega
   have hrw:=HR.out.rows
   have HOWN:=Lo.l05Own_all X.tm X.nx _ _ X.ls X.ss wr hrw.1 hrw.2 (fun x hx=>by
    obtain ⟨i,hi⟩:=List.getElem?_of_mem hx
    have hh:=(HTX.1.2.2.2.1 i x hi).2.2.2
    rcases hh with hh | hh
    ·have:=hh.2.2;omega
    ·have:=hh.2.2.2.1;omega) (by have:=HTX.1.2.2.1;omega) (by have:=HTX.1.2.2.2.2.1;omega)
   unfold tabV at HOWN
   have hbx:=HR.out.bx
   have k0:=(zAA hbx 0 (x:=.int .i64 X.tm) rfl).1
   have k1:=(zAA hbx 1 (x:=.int .i64 X.nx) rfl).1
   have k2:=(zAA hbx 2 (x:=.slice la ps.length lc) rfl).1
   have k3:=(zAA hbx 3 (x:=.slice sa X.ss.length sc) rfl).1
   clear hrw hbx HTX
   go_wp2_with fail
   refine HOWN.mono ?_
   rintro e w5 ⟨ul,us,qs,rfl,⟨o1,o2,o3,o4⟩,o5,b5⟩
   obtain ⟨xa,xc,rfl⟩:=OwnL.slice o1
   obtain ⟨ya,yc,rfl⟩:=OwnS.slice o5
   have hR5:=HR.out.below b5
   obtain ⟨z0,f0⟩:=zAA hR5.zt 0 (x:=.int .i64 0) rfl
   obtain ⟨z1,f1⟩:=zAA hR5.zt 1 (x:=.int .i64 0) rfl
   obtain ⟨z2,f2⟩:=zAA hR5.zt 2 (x:=.slice none 0 0) rfl
   obtain ⟨z3,f3⟩:=zAA hR5.zt 3 (x:=.slice none 0 0) rfl
   have hws:w.heap.size≤wr.heap.size:=HR.out.be.size
   have hwl:w.heap.size<wr.heap.size:=(Array.getElem?_eq_some_iff.1 HR.out.zt).1
   have HF:Hid (((((w5.setCell ⟨w.heap.size,0,none⟩ (.int .i64 X.tm)).setCell ⟨w.heap.size,1,none⟩ (.int .i64 X.nx)).setCell ⟨w.heap.size,2,none⟩ (.slice xa qs.length xc)).setCell ⟨w.heap.size,3,none⟩ (.slice ya X.ss.length yc)).heap[w.heap.size]?=some (.cells #[.int .i64 X.tm,.int .i64 X.nx,.slice xa qs.length xc,.slice ya X.ss.length yc] 26 (0,0))∧(∀ k,k ≠ w.heap.size→((((w5.setCell ⟨w.heap.size,0,none⟩ (.int .i64 X.tm)).setCell ⟨w.heap.size,1,none⟩ (.int .i64 X.nx)).setCell ⟨w.heap.size,2,none⟩ (.slice xa qs.length xc)).setCell ⟨w.heap.size,3,none⟩ (.slice ya X.ss.length yc)).heap[k]?=w5.heap[k]?)∧Below w.heap.size w ((((w5.setCell ⟨w.heap.size,0,none⟩ (.int .i64 X.tm)).setCell ⟨w.heap.size,1,none⟩ (.int .i64 X.nx)).setCell ⟨w.heap.size,2,none⟩ (.slice xa qs.length xc)).setCell ⟨w.heap.size,3,none⟩ (.slice ya X.ss.length yc))):=⟨by
    have:=zAE (zAE (zAE (zAE hR5.zt 0 (.int .i64 X.tm)) 1 (.int .i64 X.nx)) 2 (.slice xa qs.length xc)) 3 (.slice ya X.ss.length yc)
    simpa only [sA,sB,sC] using this,fun k hk=>far4 (w:=w5) hk _ _ _ _,Below.setCell (Below.setCell (Below.setCell (Below.setCell hR5.be (p:=⟨w.heap.size,0,none⟩) (Nat.le_refl _) _) (p:=⟨w.heap.size,1,none⟩) (Nat.le_refl _) _) (p:=⟨w.heap.size,2,none⟩) (Nat.le_refl _) _) (p:=⟨w.heap.size,3,none⟩) (Nat.le_refl _) _⟩
   clear k0 k1 k2 k3 HOWN
   go_wp2_with fail
   generalize ((((w5.setCell ⟨w.heap.size,0,none⟩ (.int .i64 X.tm)).setCell ⟨w.heap.size,1,none⟩ (.int .i64 X.nx)).setCell ⟨w.heap.size,2,none⟩ (.slice xa qs.length xc)).setCell ⟨w.heap.size,3,none⟩ (.slice ya X.ss.length yc))=wf at HF ⊢
   have d0:=(zAA HF.out.1 0 (x:=.int .i64 X.tm) rfl).1
   have d1:=(zAA HF.out.1 1 (x:=.int .i64 X.nx) rfl).1
   have d2:=(zAA HF.out.1 2 (x:=.slice xa qs.length xc) rfl).1
   have d3:=(zAA HF.out.1 3 (x:=.slice ya X.ss.length yc) rfl).1
   have hoa:OwnAn wf w.heap.size (.slice va rs.length vc) (Da.runA rs rs.length):=OwnAn.mono (OwnAn.kept hR5.oa (fun g hg=>by
    obtain ⟨c1,h1⟩:=zAI hR5.oa hg
    exact HF.out.2.1 g (fun e=>zAO h1 hR5.zt (by decide) e))) HR.out.hB
   refine bodyPost_ret (v:=.tuple #[.agg #[.int .i64 X.tm,.int .i64 X.nx,.slice xa qs.length xc,.slice ya X.ss.length yc],.slice va rs.length vc,.int .i64 0]) (by simp [results,Tryz.results31,go_sem,d0,d1,d2,d3]) rfl ?_
   rw [HX.out]
   exact ⟨⟨_,_,va,vc,qs,rfl,OwnL.mono (o1.kept fun g hg=>HF.out.2.1 g (by have:=(o1.lt g hg).1;omega)) hws,fun p hp=>OwnW.mono ((o2 p hp).kept fun g hg=>HF.out.2.1 g (by have:=((o2 p hp).lt g hg).1;omega)) hws,OwnS.mono (o5.kept fun g hg=>HF.out.2.1 g (by have:=(o5.lt g hg).1;omega)) hws,o3,o4,hoa⟩,HF.out.2.2⟩
end Go.Proofs.YtakfniknkejgpaaGreatDoor.Ea
namespace Go.Proofs.YtakfniknkejgpaaGreatDoor.Rr
open Go.RowKit Sl By Ap Rq
def zreq:Array Value:=#[.int .i64 0,.int .i64 0,.int .i64 0,.int .i64 0,.string ⟨#[]⟩]
end Go.Proofs.YtakfniknkejgpaaGreatDoor.Rr
