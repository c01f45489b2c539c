/- Texts put together: XrI, Xe, Pu. -/
import Derived.Test.YtakfniknkejgpaaGreatDoorMiA0
import Derived.Test.YtakfniknkejgpaaGreatDoorMi25
namespace Go.Proofs.YtakfniknkejgpaaGreatDoor.Xl
open Go.RowKit Sl Er
open Rg (zAA zAE zAB zAD)
open Sh (KTab KTab.below)
open Tx (RowT RowT.below tnth)
open Ho (cat catS bys_catS bytes_run)
open Ap (bys)
open Xp (itoa_small)
open Pf (PcP pcB pcC pcB_yes pcB_no pcB_get pcC_ok pcC_get pcC_bad)
open Ur (rtC rtT rtOK zTab Mem Mem.nil Mem.kept Mem.mono zAN zBa)
open Tb (Tab tabV Sn)
open Lo (LkA)
open Xs (stB zBK)
open Xv (vok vok_size)
open Tm (zAz)
open Gt (Vo)
open Pw (ckC)
open Xp (okT chk)
open Xs (q_len)
open Xq (qvB vfs)
open Qm (qOut)
open By (OwnB)
open Ur (tbO rt_bad rt_ok)
def ItP (n sq sz:Int) (rt:ByteArray) (vs:List Vo) (ps qs:List ByteArray) (w:World) (e:Ending) (w':World):Prop:=∃ u2 u3 ms,e=.returned (.tuple #[tabV (itT n sq sz rt vs ps qs).tm (itT n sq sz rt vs ps qs).nx u2 u3,.int .i64 (itC n sq sz rt vs ps qs)])∧(ms.map (·.1)=(itT n sq sz rt vs ps qs).ls∧Mem w' w.heap.size u2 u3 ms (itT n sq sz rt vs ps qs).ss)∧Below w.heap.size w w'
set_option maxRecDepth 100000 in
set_option maxHeartbeats 3200000 in
theorem zBf (n sq sz:Int) (rt:ByteArray) (vr:Value) (vs:List Vo) (up uq:Value) (ps qs:List ByteArray) (w:World) (A:Nat→Addr) (hV:Gt.Row w vr vs) (hvl:vs.length≤1048576) (hP:RowT w up ps) (hpl:ps.length≤1048576) (hQ:RowT w uq qs) (hql:qs.length≤1048576) (hqz:∀ t ∈ qs,t.size≤1048576) (hSe:Sen w A) (hK:KTab w) (hp:9<w.heap.size) :
 Calls Tryz.prog 12 #[.int .i64 n,.agg #[.int .i64 sq,.int .i64 sz,.string rt,vr],up,uq] w fun e w'=>ItP n sq sz rt vs ps qs w e w':=by
 have HVT:Hid (∀ W,Below w.heap.size w W→Calls Tryz.prog 29 #[.int .i64 n,.agg #[.int .i64 sq,.int .i64 sz,.string rt,vr],up,uq] W fun e w'=>∃ u2 u3 ms er,e=.returned (.tuple #[tabV (itT n sq sz rt vs ps qs).tm (itT n sq sz rt vs ps qs).nx u2 u3,er])∧((itC n sq sz rt vs ps qs=0∧er=.nilIface) ∨ (∃ s j,j<8∧er=fnd s (sen (A j))∧zBA j=itC n sq sz rt vs ps qs) ∨ ∃ s r j,j<8∧er=fnd s (fnd r (sen (A j)))∧zBA j=itC n sq sz rt vs ps qs)∧(ms.map (·.1)=(itT n sq sz rt vs ps qs).ls∧Mem w' W.heap.size u2 u3 ms (itT n sq sz rt vs ps qs).ss)∧Below W.heap.size W w'):=fun W hW=>takenTable_any n sq sz rt vr vs up uq ps qs W A (hV.below hW) hvl (hP.below hW) hpl (hQ.below hW) hql hqz (hSe.below hW) (hK.below hW hp) (Nat.lt_of_lt_of_le hp hW.size)
 have HCO:Hid (∀ W er,Below w.heap.size w W→((itC n sq sz rt vs ps qs=0∧er=.nilIface) ∨ (∃ s j,j<8∧er=fnd s (sen (A j))∧zBA j=itC n sq sz rt vs ps qs) ∨ ∃ s r j,j<8∧er=fnd s (fnd r (sen (A j)))∧zBA j=itC n sq sz rt vs ps qs)→Calls Tryz.prog 17 #[er] W fun e w'=>e=.returned (.int .i64 (itC n sq sz rt vs ps qs))∧Below W.heap.size W w'):=fun W er hW hh=>by
  rcases hh with ⟨h1,rfl⟩ | ⟨s,j,hj,rfl,hc⟩ | ⟨s,r,j,hj,rfl,hc⟩
  ·rw [h1];exact codeOfFault_nil W
  ·rw [← hc];exact code1_any s j hj (hSe.below hW)
  ·rw [← hc];exact code2_any s r j hj (hSe.below hW)
 obtain ⟨va,vc,rfl⟩:=Rg.RowG.slice hV
 obtain ⟨pa,pc,rfl⟩:=row_slice hP
 obtain ⟨qa,qc,rfl⟩:=row_slice hQ
 have e2:((w.alloc (.cells #[.int .i64 sq,.int .i64 sz,.string rt,.slice va vs.length vc] 33)).alloc (.cells #[.int .i64 0,.int .i64 0,.slice none 0 0,.slice none 0 0] 26)).heap.size=w.heap.size+1+1:=by rw [zAN,zAN]
 have HX0:Hid (∀ W,Below ((w.alloc (.cells #[.int .i64 sq,.int .i64 sz,.string rt,.slice va vs.length vc] 33)).alloc (.cells #[.int .i64 0,.int .i64 0,.slice none 0 0,.slice none 0 0] 26)).heap.size ((w.alloc (.cells #[.int .i64 sq,.int .i64 sz,.string rt,.slice va vs.length vc] 33)).alloc (.cells #[.int .i64 0,.int .i64 0,.slice none 0 0,.slice none 0 0] 26)) W→(W.cell? ⟨w.heap.size,0,none⟩=some (.int .i64 sq)∧W.cell? ⟨w.heap.size,1,none⟩=some (.int .i64 sz)∧W.cell? ⟨w.heap.size,2,none⟩=some (.string rt)∧W.cell? ⟨w.heap.size,3,none⟩=some (.slice va vs.length vc))):=fun W hW=>by
  have h0:W.heap[w.heap.size]?=some (.cells #[.int .i64 sq,.int .i64 sz,.string rt,.slice va vs.length vc] 33):=by rw [hW.block _ (by omega),Below.heap_alloc _ _ _ (by rw [zAN];omega)];exact heap_alloc_new w _
  exact ⟨(zAA h0 0 rfl).1,(zAA h0 1 rfl).1,(zAA h0 2 rfl).1,(zAA h0 3 rfl).1⟩
 have HY0:Hid (∀ W,Below ((w.alloc (.cells #[.int .i64 sq,.int .i64 sz,.string rt,.slice va vs.length vc] 33)).alloc (.cells #[.int .i64 0,.int .i64 0,.slice none 0 0,.slice none 0 0] 26)).heap.size ((w.alloc (.cells #[.int .i64 sq,.int .i64 sz,.string rt,.slice va vs.length vc] 33)).alloc (.cells #[.int .i64 0,.int .i64 0,.slice none 0 0,.slice none 0 0] 26)) W→W.heap[w.heap.size+1]?=some (.cells #[.int .i64 0,.int .i64 0,.slice none 0 0,.slice none 0 0] 26)∧Below w.heap.size w W):=fun W hW=>by
  have h1:W.heap[w.heap.size+1]?=some (.cells #[.int .i64 0,.int .i64 0,.slice none 0 0,.slice none 0 0] 26):=by rw [hW.block _ (by omega)];have:=heap_alloc_new (w.alloc (.cells #[.int .i64 sq,.int .i64 sz,.string rt,.slice va vs.length vc] 33)) (.cells #[.int .i64 0,.int .i64 0,.slice none 0 0,.slice none 0 0] 26);rwa [zAN] at this
  exact ⟨h1,(((Below.refl w.heap.size w).alloc (Nat.le_refl _) _).alloc (by rw [zAN];omega) _).trans (hW.mono (by omega))⟩
 have HYL0:Hid (w.heap.size≤w.heap.size+1):=Nat.le_succ _
 clear hV hP hQ hqz hSe hK hp e2
 obtain ⟨c,HC⟩ : ∃ c,Hid (itC n sq sz rt vs ps qs=c):=⟨_,rfl⟩
 obtain ⟨⟨tm,nx,ls,ss⟩,HT⟩ : ∃ t,Hid (itT n sq sz rt vs ps qs=t):=⟨_,rfl⟩
 have HM:Hid (It n sq sz rt vs ps qs c ⟨tm,nx,ls,ss⟩):=⟨HC.out,HT.out⟩
 rw [HT.out,HC.out] at HVT
 rw [HC.out] at HCO
 dsimp only at HVT
 clear HT HC
 go_enter Tryz.func12,Tryz.ntmps12
 go_upto_region 1 with fail
 generalize (w.alloc (.cells #[.int .i64 sq,.int .i64 sz,.string rt,.slice va vs.length vc] 33)).alloc (.cells #[.int .i64 0,.int .i64 0,.slice none 0 0,.slice none 0 0] 26)=wb at HX0 HY0 ⊢
 obtain ⟨y,HY⟩ : ∃ y,Hid (w.heap.size+1=y):=⟨_,rfl⟩
 rw [HY.out] at HY0 HYL0 ⊢
 have HYL:Hid (w.heap.size≤y):=HYL0
 clear HYL0
 have G0:Hid (Below w.heap.size w wb):=(HY0.out _ (Below.refl _ _)).2
 have HYB:Hid (y<wb.heap.size):=(Array.getElem?_eq_some_iff.1 (HY0.out wb (Below.refl _ _)).1).1
 have HWB:Hid (w.heap.size≤wb.heap.size):=G0.out.size
 obtain ⟨c0,c1,c2,c3⟩:=HX0.out _ (Below.refl _ _)
 go_wp2_with fail
 refine (HVT.out _ G0.out).mono ?_
 rintro e w1 ⟨u2,u3,ms,er,rfl,h1,⟨hm,me⟩,b1⟩
 have HE:Hid ((c=0∧er=.nilIface) ∨ (∃ s j,j<8∧er=fnd s (sen (A j))∧zBA j=c) ∨ ∃ s r j,j<8∧er=fnd s (fnd r (sen (A j)))∧zBA j=c):=h1
 obtain ⟨la,lc,rfl⟩:=me.ol.slice
 obtain ⟨sa,sc,rfl⟩:=me.os.slice
 have HMM:Hid (ms.map (·.1)=ls):=hm
 obtain ⟨ln,HLN2⟩ : ∃ ln,Hid (ms.length=ln):=⟨_,rfl⟩
 obtain ⟨sn,HSN2⟩ : ∃ sn,Hid (ss.length=sn):=⟨_,rfl⟩
 rw [HLN2.out,HSN2.out] at me ⊢
 have B1:Hid (Below wb.heap.size wb w1∧Mem w1 wb.heap.size (.slice la ln lc) (.slice sa sn sc) ms ss):=⟨b1,me⟩
 unfold tabV
 clear h1 hm me b1 c0 c1 c2 c3 HVT HX0
 have HZZ:Hid (∀ W,Below (w1.alloc (.cells #[.int .i64 tm,.int .i64 nx,.slice la ln lc,.slice sa sn sc] 26)).heap.size (w1.alloc (.cells #[.int .i64 tm,.int .i64 nx,.slice la ln lc,.slice sa sn sc] 26)) W→(fun W=>W.cell? ⟨w1.heap.size,0,none⟩=some (.int .i64 tm)∧W.cell? ⟨w1.heap.size,1,none⟩=some (.int .i64 nx)∧W.cell? ⟨w1.heap.size,2,none⟩=some (.slice la ln lc)∧W.cell? ⟨w1.heap.size,3,none⟩=some (.slice sa sn sc)) W∧Below wb.heap.size wb W∧Mem W wb.heap.size (.slice la ln lc) (.slice sa sn sc) ms ss):=fun W hW=>by
  have h0:=(hW.block w1.heap.size (by simp)).trans (heap_alloc_new w1 _)
  have b:=(zAD w1 (.cells #[.int .i64 tm,.int .i64 nx,.slice la ln lc,.slice sa sn sc] 26)).trans (hW.mono (by simp))
  exact ⟨⟨(zAA h0 0 rfl).1,(zAA h0 1 rfl).1,(zAA h0 2 rfl).1,(zAA h0 3 rfl).1⟩,B1.out.1.trans (b.mono B1.out.1.size),B1.out.2.below b⟩
 go_upto_region 2 with fail
 generalize hzz:w1.alloc (.cells #[.int .i64 tm,.int .i64 nx,.slice la ln lc,.slice sa sn sc] 26)=wz at HZZ ⊢
 clear hzz
 have HZY:Hid (w1.heap.size ≠ y):=by show _ ≠ _;have:=HYB.out;have:=B1.out.1.size;omega
 generalize w1.heap.size=zb at HZZ HZY ⊢
 obtain ⟨S0,Bz,_⟩:=HZZ.out _ (Below.refl _ _)
 have HC2:Hid (Calls Tryz.prog 17 #[er] wz.drew fun e w'=>e=.returned (.int .i64 c)∧Below wz.heap.size wz w'):=(HCO.out wz.drew er ((HY0.out _ Bz).2.drew) HE.out).mono fun e w' ⟨h1,h2⟩=>⟨h1,((Below.refl wz.heap.size wz).drew).trans h2⟩
 clear HCO HE B1
 refine wp_region_noPanic ?_
 refine wp_region_held_drew (S:=(fun W=>W.cell? ⟨zb,0,none⟩=some (.int .i64 tm)∧W.cell? ⟨zb,1,none⟩=some (.int .i64 nx)∧W.cell? ⟨zb,2,none⟩=some (.slice la ln lc)∧W.cell? ⟨zb,3,none⟩=some (.slice sa sn sc))) (by kernel_rfl) S0 (fun hHeld=>?_)
 refine ta 0 ⟨some 20,.load 26 (.tmp 10),26,"l10_checkpoint.go:209",#[],none⟩ ?v1 ?h1 hHeld ?r1
 case h1=>intro wz hz;(try dsimp only at hz);go_simp;try (with_reducible rfl)
 simp only [Act.put,sA,sB,sC]
 refine ta 1 ⟨some 21,.move (.tmp 11),55,"l10_checkpoint.go:209",#[],none⟩ ?v2 ?h2 hHeld ?r2
 case h2=>intro wz hz;(try dsimp only at hz);go_simp;try (with_reducible rfl)
 simp only [Act.put,sA,sB,sC]
 refine wpAnyH_ready (rs:=[2]) (by kernel_rfl) (by simp) ?_
 refine AllReadyH.cons (o:=⟨some 22,.call { callee:=Callee.value (Operand.func 17),args:=#[Operand.tmp 21],argTypes:=#[55] },3,"l10_checkpoint.go:209",#[⟨1,.data⟩],none⟩) rfl (fun K hK=>?_) AllReadyH.nil
 go_simp
 go_at_call 17
 refine HC2.out.mono ?_
 rintro e w7 ⟨rfl,b7⟩
 obtain ⟨S3,B3,o3⟩:=HZZ.out _ b7
 try go_simp
 refine hK.out _ _ ?_ (fun hHeld=>?_)
 ·exact S3
 clear hK K
 (try simp only [Act.put,sA,sB,sC])
 obtain ⟨k9,g9⟩:=HY0.out _ (B3)
 obtain ⟨m0,n0⟩:=zAA k9 0 (x:=.int .i64 0) rfl
 obtain ⟨m1,n1⟩:=zAA k9 1 (x:=.int .i64 0) rfl
 obtain ⟨m2,n2⟩:=zAA k9 2 (x:=.slice none 0 0) rfl
 obtain ⟨m3,n3⟩:=zAA k9 3 (x:=.slice none 0 0) rfl
 have AF:((((w7.setCell ⟨y,0,none⟩ (.int .i64 tm)).setCell ⟨y,1,none⟩ (.int .i64 nx)).setCell ⟨y,2,none⟩ (.slice la ln lc)).setCell ⟨y,3,none⟩ (.slice sa sn sc)).heap[y]?=some (.cells #[.int .i64 tm,.int .i64 nx,.slice la ln lc,.slice sa sn sc] 26 (0,0)):=(zAE (zAE (zAE (zAE k9 0 (.int .i64 tm)) 1 (.int .i64 nx)) 2 (.slice la ln lc)) 3 (.slice sa sn sc))
 have RF:Hid (Below w.heap.size w ((((w7.setCell ⟨y,0,none⟩ (.int .i64 tm)).setCell ⟨y,1,none⟩ (.int .i64 nx)).setCell ⟨y,2,none⟩ (.slice la ln lc)).setCell ⟨y,3,none⟩ (.slice sa sn sc))∧Mem ((((w7.setCell ⟨y,0,none⟩ (.int .i64 tm)).setCell ⟨y,1,none⟩ (.int .i64 nx)).setCell ⟨y,2,none⟩ (.slice la ln lc)).setCell ⟨y,3,none⟩ (.slice sa sn sc)) w.heap.size (.slice la ln lc) (.slice sa sn sc) ms ss):=⟨(Below.setCell (Below.setCell (Below.setCell (Below.setCell g9 (p:=⟨y,0,none⟩) (HYL.out) (.int .i64 tm)) (p:=⟨y,1,none⟩) (HYL.out) (.int .i64 nx)) (p:=⟨y,2,none⟩) (HYL.out) (.slice la ln lc)) (p:=⟨y,3,none⟩) (HYL.out) (.slice sa sn sc)),(Mem.kept o3 (fun g hg _=>((zAB (by have:=HYB.out;omega) 3 (.slice sa sn sc)).trans ((zAB (by have:=HYB.out;omega) 2 (.slice la ln lc)).trans ((zAB (by have:=HYB.out;omega) 1 (.int .i64 nx)).trans ((zAB (by have:=HYB.out;omega) 0 (.int .i64 tm)).trans (Eq.refl w7.heap[g]?))))))).mono (HWB.out)⟩
 clear g9 k9
 have S9:Hid ((fun W=>W.cell? ⟨zb,0,none⟩=some (.int .i64 tm)∧W.cell? ⟨zb,1,none⟩=some (.int .i64 nx)∧W.cell? ⟨zb,2,none⟩=some (.slice la ln lc)∧W.cell? ⟨zb,3,none⟩=some (.slice sa sn sc)) ((((w7.setCell ⟨y,0,none⟩ (.int .i64 tm)).setCell ⟨y,1,none⟩ (.int .i64 nx)).setCell ⟨y,2,none⟩ (.slice la ln lc)).setCell ⟨y,3,none⟩ (.slice sa sn sc))):=⟨((World.cell?_of_block (a:=⟨zb,0,none⟩) (zAB HZY.out 3 (.slice sa sn sc))).trans ((World.cell?_of_block (a:=⟨zb,0,none⟩) (zAB HZY.out 2 (.slice la ln lc))).trans ((World.cell?_of_block (a:=⟨zb,0,none⟩) (zAB HZY.out 1 (.int .i64 nx))).trans ((World.cell?_of_block (a:=⟨zb,0,none⟩) (zAB HZY.out 0 (.int .i64 tm))).trans S3.1)))),((World.cell?_of_block (a:=⟨zb,1,none⟩) (zAB HZY.out 3 (.slice sa sn sc))).trans ((World.cell?_of_block (a:=⟨zb,1,none⟩) (zAB HZY.out 2 (.slice la ln lc))).trans ((World.cell?_of_block (a:=⟨zb,1,none⟩) (zAB HZY.out 1 (.int .i64 nx))).trans ((World.cell?_of_block (a:=⟨zb,1,none⟩) (zAB HZY.out 0 (.int .i64 tm))).trans S3.2.1)))),((World.cell?_of_block (a:=⟨zb,2,none⟩) (zAB HZY.out 3 (.slice sa sn sc))).trans ((World.cell?_of_block (a:=⟨zb,2,none⟩) (zAB HZY.out 2 (.slice la ln lc))).trans ((World.cell?_of_block (a:=⟨zb,2,none⟩) (zAB HZY.out 1 (.int .i64 nx))).trans ((World.cell?_of_block (a:=⟨zb,2,none⟩) (zAB HZY.out 0 (.int .i64 tm))).trans S3.2.2.1)))),((World.cell?_of_block (a:=⟨zb,3,none⟩) (zAB HZY.out 3 (.slice sa sn sc))).trans ((World.cell?_of_block (a:=⟨zb,3,none⟩) (zAB HZY.out 2 (.slice la ln lc))).trans ((World.cell?_of_block (a:=⟨zb,3,none⟩) (zAB HZY.out 1 (.int .i64 nx))).trans ((World.cell?_of_block (a:=⟨zb,3,none⟩) (zAB HZY.out 0 (.int .i64 tm))).trans S3.2.2.2))))⟩
 refine wpAnyH_ready (rs:=[3]) (by kernel_rfl) (by simp) ?_
 refine AllReadyH.cons (o:=⟨none,.store 26 (.tmp 8) (.tmp 20),0,"l10_checkpoint.go:209",#[⟨0,.data⟩,⟨2,.chain⟩,⟨0,.phase⟩,⟨1,.textOnly .lateStores⟩,⟨2,.textOnly .lateStoresUnsure⟩],none⟩) rfl (fun K hK=>?_) AllReadyH.nil
 go_simp
 refine hK.out _ _ ?_ (fun hHeld=>?_)
 ·exact S9.out
 clear hK K
 (try simp only [Act.put,sA,sB,sC])
 refine ta 4 ⟨some 9,.assign (.tmp 22),3,"l10_checkpoint.go:209",#[⟨2,.data⟩,⟨3,.chain⟩,⟨0,.phase⟩,⟨1,.phase⟩,⟨2,.phase⟩,⟨3,.phase⟩],none⟩ ?v3 ?h3 hHeld ?r3
 case h3=>intro wz hz;(try dsimp only at hz);go_simp;try (with_reducible rfl)
 simp only [Act.put,sA,sB,sC]
 refine wpAnyH_done (by kernel_rfl) ?_ _
 refine NoPanic.normal ?_
 clear S9 S3 S0 hHeld
 go_wp2_with fail
 generalize ((((w7.setCell ⟨y,0,none⟩ (.int .i64 tm)).setCell ⟨y,1,none⟩ (.int .i64 nx)).setCell ⟨y,2,none⟩ (.slice la ln lc)).setCell ⟨y,3,none⟩ (.slice sa sn sc))=wf at AF RF ⊢
 have d0:=(zAA AF 0 (x:=.int .i64 tm) rfl).1
 have d1:=(zAA AF 1 (x:=.int .i64 nx) rfl).1
 have d2:=(zAA AF 2 (x:=.slice la ln lc) rfl).1
 have d3:=(zAA AF 3 (x:=.slice sa sn sc) rfl).1
 refine bodyPost_ret (v:=.tuple #[.agg #[.int .i64 tm,.int .i64 nx,.slice la ln lc,.slice sa sn sc],.int .i64 c]) (by simp [results,Tryz.results12,go_sem,d0,d1,d2,d3]) rfl ?_
 unfold ItP
 rw [HM.out.c,HM.out.t]
 exact ⟨_,_,ms,rfl,⟨HMM.out,RF.out.2⟩,RF.out.1⟩
end Go.Proofs.YtakfniknkejgpaaGreatDoor.Xl
namespace Go.Proofs.YtakfniknkejgpaaGreatDoor.Xv
open Go.RowKit Sl By Ap Tx Sh Ho Mr Rm
def vmCode (f sq sz:Int) (rt:ByteArray):Int:=if 65536<rt.size then 2 else if inR f 0 6 then (if vok sq sz rt then 0 else 1) else 4
def vmOut (f sq sz:Int) (rt:ByteArray):ByteArray:=if 65536<rt.size then ⟨#[]⟩ else if inR f 0 6 && vok sq sz rt then vmk f.toNat sq sz rt else ⟨#[]⟩
theorem vm_cases (f sq sz:Int) (rt:ByteArray):(65536<rt.size∧vmCode f sq sz rt=2∧vmOut f sq sz rt=⟨#[]⟩) ∨ (¬ 65536<rt.size∧inR f 0 6=false∧vmCode f sq sz rt=4∧vmOut f sq sz rt=⟨#[]⟩) ∨ (¬ 65536<rt.size∧inR f 0 6=true∧vok sq sz rt=false∧vmCode f sq sz rt=1∧vmOut f sq sz rt=⟨#[]⟩) ∨ (∃ i:Nat,f=i∧i<7∧¬ 65536<rt.size∧rt.size≤1000∧inR f 0 6=true∧vok sq sz rt=true∧vmCode f sq sz rt=0∧vmOut f sq sz rt=vmk i sq sz rt):=by
 unfold vmCode vmOut
 by_cases h0:65536<rt.size
 ·exact .inl ⟨h0,if_pos h0,if_pos h0⟩
 rw [if_neg h0,if_neg h0]
 cases h1:inR f 0 6 with
 | false=>exact .inr (.inl ⟨h0,rfl,rfl,rfl⟩)
 | true =>
   cases h2:vok sq sz rt with
   | false=>exact .inr (.inr (.inl ⟨h0,rfl,rfl,rfl,rfl⟩))
   | true =>
     obtain ⟨a,b⟩:=inR_nat h1
     obtain ⟨i,rfl⟩:=Int.eq_ofNat_of_zero_le a
     have:=(vok_size h2).1
     exact .inr (.inr (.inr ⟨i,rfl,by omega,h0,by omega,rfl,rfl,rfl,rfl⟩))
set_option maxRecDepth 100000 in
set_option maxHeartbeats 800000 in
theorem implVoteMac_any (f sq sz:Int) (rt:ByteArray) (w:World) (hl:rt.size≤1048576) (hK:KTab w) (hp:9<w.heap.size) :
 Calls Tryz.prog 11 #[.int .i64 f,.int .i64 sq,.int .i64 sz,.string rt] w fun e w'=>e=.returned (.tuple #[.string (vmOut f sq sz rt),.int .i64 (vmCode f sq sz rt)])∧Below w.heap.size w w':=by
 have GK:Hid (KTab w∧9<w.heap.size):=⟨hK,hp⟩
 clear hK hp
 have HB:Hid (∀ o,Below w.heap.size w (w.alloc o)):=fun o=>zAD w o
 rcases vm_cases f sq sz rt with ⟨h0,e1,e2⟩ | ⟨h0,h1,e1,e2⟩ | ⟨h0,h1,h2,e1,e2⟩ | ⟨i,rfl,hi,h0,hs,h1,h2,e1,e2⟩
 ·have HE:Hid (vmOut f sq sz rt=⟨#[]⟩∧vmCode f sq sz rt=2):=⟨e2,e1⟩
  have h0':(65536:Int)<(rt.size:Int):=by omega
  clear e1 e2 h0
  go_enter Tryz.func11,Tryz.ntmps11
  go_wp2_with fail
  go_ret2
  exact ⟨ret_sc ⟨HE.out.1.symm,HE.out.2.symm⟩,Below.refl _ _⟩
 ·have HE:Hid (vmOut f sq sz rt=⟨#[]⟩∧vmCode f sq sz rt=4):=⟨e2,e1⟩
  have h0':¬ (65536:Int)<(rt.size:Int):=by omega
  clear e1 e2 h0
  go_enter Tryz.func11,Tryz.ntmps11
  go_wp2_with (go_at_call 28;refine (nodeOK_any _ _).mono ?_;rintro e w1 ⟨rfl,rfl⟩;rw [h1])
  go_ret2
  exact ⟨ret_sc ⟨HE.out.1.symm,HE.out.2.symm⟩,Below.refl _ _⟩
 ·have HE:Hid (vmOut f sq sz rt=⟨#[]⟩∧vmCode f sq sz rt=1):=⟨e2,e1⟩
  have h0':¬ (65536:Int)<(rt.size:Int):=by omega
  clear e1 e2 h0
  go_enter Tryz.func11,Tryz.ntmps11
  go_wp2_with (first | (go_at_call 28;refine (nodeOK_any _ _).mono ?_;rintro e w1 ⟨rfl,rfl⟩;rw [h1]) | fail)
  refine (zCV sq sz rt _ _).mono ?_
  rintro e w1 ⟨rfl,b1⟩
  rw [h2]
  have G1:Hid (Below w.heap.size w w1):=(HB.out _).trans (b1.mono (HB.out _).size)
  clear b1
  go_wp2_with fail
  go_ret2
  exact ⟨ret_sc ⟨HE.out.1.symm,HE.out.2.symm⟩,G1.out⟩
 ·have HE:Hid (vmOut i sq sz rt=vmk i sq sz rt∧vmCode i sq sz rt=0):=⟨e2,e1⟩
  have h0':¬ (65536:Int)<(rt.size:Int):=by omega
  clear e1 e2 h0
  go_enter Tryz.func11,Tryz.ntmps11
  go_wp2_with (first | (go_at_call 28;refine (nodeOK_any _ _).mono ?_;rintro e w1 ⟨rfl,rfl⟩;rw [h1]) | fail)
  refine (zCV sq sz rt _ _).mono ?_
  rintro e w1 ⟨rfl,b1⟩
  rw [h2]
  have k1:=(b1.block w.heap.size (by simp)).trans (heap_alloc_new w _)
  have c0:=(zAA k1 0 rfl).1
  have c1:=(zAA k1 1 rfl).1
  have c2:=(zAA k1 2 rfl).1
  have c3:=(zAA k1 3 rfl).1
  have G1:Hid (Below w.heap.size w w1):=(HB.out _).trans (b1.mono (HB.out _).size)
  clear b1 k1
  go_wp2_with fail
  refine (voteMark_any i sq sz rt _ w1 (by omega) hs (GK.out.1.below G1.out GK.out.2) (Nat.lt_of_lt_of_le GK.out.2 G1.out.size)).mono ?_
  rintro e w2 ⟨rfl,b2⟩
  have G2:Hid (Below w.heap.size w w2):=G1.out.trans (b2.mono G1.out.size)
  clear b2 c0 c1 c2 c3
  go_wp2_with fail
  go_ret2
  exact ⟨ret_sc ⟨HE.out.1.symm,HE.out.2.symm⟩,G2.out⟩
end Go.Proofs.YtakfniknkejgpaaGreatDoor.Xv
namespace Go.Proofs.YtakfniknkejgpaaGreatDoor.Py
open Go.RowKit Sl By Ap Tx Sh Ho Se Ka Pf Px
def zAr:Nat→List ByteArray→Nat→List ByteArray
 | 0,_,_=>[]
 | f+1,ts,k=>if ts.length=1 then [] else
     if k<half ts.length then zAr f (ts.take (half ts.length)) k ++ [zAy f (ts.drop (half ts.length))]
     else zAr f (ts.drop (half ts.length)) (k - half ts.length) ++ [zAy f (ts.take (half ts.length))]
theorem pathF_one {f k:Nat} {ts:List ByteArray} (h:ts.length=1):zAr (f+1) ts k=[]:=if_pos h
theorem pathF_left {f k:Nat} {ts:List ByteArray} (h:ts.length ≠ 1) (hk:k<half ts.length):zAr (f+1) ts k=zAr f (ts.take (half ts.length)) k ++ [zAy f (ts.drop (half ts.length))]:=by
 show (if _ then _ else _)=_
 rw [if_neg h,if_pos hk]
theorem zCd {f k:Nat} {ts:List ByteArray} (h:ts.length ≠ 1) (hk:¬ k<half ts.length):zAr (f+1) ts k=zAr f (ts.drop (half ts.length)) (k - half ts.length) ++ [zAy f (ts.take (half ts.length))]:=by
 show (if _ then _ else _)=_
 rw [if_neg h,if_neg hk]
theorem zBE:∀ (f:Nat) (ts:List ByteArray) (k:Nat),(zAr f ts k).length≤f
 | 0,_,_=>Nat.le_refl _
 | f+1,ts,k=>by
   by_cases h:ts.length=1
   ·rw [pathF_one h];simp
   ·by_cases hk:k<half ts.length
    ·rw [pathF_left h hk,List.length_append]
     have:=zBE f (ts.take (half ts.length)) k
     simp only [List.length_cons,List.length_nil];omega
    ·rw [zCd h hk,List.length_append]
     have:=zBE f (ts.drop (half ts.length)) (k - half ts.length)
     simp only [List.length_cons,List.length_nil];omega
set_option maxRecDepth 100000 in
set_option maxHeartbeats 3200000 in
theorem zBp:∀ (f:Nat) (ts:List ByteArray) (k:Nat) (v:Value) (w:World),RowT w v ts→k<ts.length→ts.length≤f→f≤64→(∀ t ∈ ts,t.size≤32)→KTab w→9<w.heap.size →
 Calls Tryz.prog 23 #[v,.int .i64 k] w fun e w'=>∃ u,e=.returned u∧OwnS w' w.heap.size u (zAr f ts k)∧Below w.heap.size w w'
 | 0,ts,k,v,w,_,h1,h2,_,_,_,_=>by omega
 | f+1,ts,k,v,w,hr,h1,h2,hf,hs,hK,hp=>by
   have h64:ts.length≤64:=by omega
   obtain ⟨i0,hi0,hz0,hz1,hz2⟩:=info_parts info9
   have HR:Hid (RowT w v ts):=hr
   obtain ⟨a,cap,rfl,h⟩:=hr
   by_cases hone:ts.length=1
   ·have HE:Hid (zAr (f+1) ts k=[]):=pathF_one hone
    rw [hone]
    clear h hs HR h1 h2 h64 hf hone hK hp
    go_enter Tryz.func23,Tryz.ntmps23
    go_wp2_with fail
    go_ret
    rw [HE.out]
    exact ⟨_,rfl,OwnS.nil _ _,Below.refl _ _⟩
   ·have hcap:=rowT_cap HR.out (by omega)
    obtain ⟨q1,q2,q3⟩:=half_lt (show 2≤ts.length by omega)
    have HF:Hid (∀ W,Calls Tryz.prog 47 #[.int .i64 ts.length] W fun e w'=>e=.returned (.int .i64 (half ts.length))∧W=w'):=fun W=>forkOf_any ts.length W (by omega) h64
    have HRL:Hid (∀ W,Below w.heap.size w W→Calls Tryz.prog 48 #[.slice a (half ts.length) cap] W fun e w'=>e=.returned (.string (zAy f (ts.take (half ts.length))))∧Below W.heap.size W w'):=fun W hW =>
     zBR f (ts.take (half ts.length)) _ W ((rowT_take HR.out (by omega)).below hW) (by rw [List.length_take];omega) (by rw [List.length_take];omega) (by rw [List.length_take];omega) (fun t ht=>hs t (List.mem_of_mem_take ht)) (hK.below hW hp) (Nat.lt_of_lt_of_le hp hW.size)
    have HRD:Hid (∀ W,Below w.heap.size w W→Calls Tryz.prog 48 #[.slice (a.map (·.add (half ts.length))) (ts.length - half ts.length) (cap - half ts.length)] W fun e w'=>e=.returned (.string (zAy f (ts.drop (half ts.length))))∧Below W.heap.size W w'):=fun W hW =>
     zBR f (ts.drop (half ts.length)) _ W ((rowT_drop HR.out (by omega)).below hW) (by rw [List.length_drop];omega) (by rw [List.length_drop];omega) (by rw [List.length_drop];omega) (fun t ht=>hs t (List.mem_of_mem_drop ht)) (hK.below hW hp) (Nat.lt_of_lt_of_le hp hW.size)
    have hn1:((ts.length:Int) == 1)=false:=by rw [beq_eq_false_iff_ne];omega
    have G0:Hid (Below w.heap.size w w.drew):=(Below.refl _ _).drew
    have S0:Hid (w.heap.size≤w.drew.heap.size):=Nat.le_refl _
    by_cases hk:k<half ts.length
    ·have HE:Hid (zAr (f+1) ts k=zAr f (ts.take (half ts.length)) k ++ [zAy f (ts.drop (half ts.length))]):=pathF_left hone hk
     have HL:Hid ((zAr f (ts.take (half ts.length)) k).length+1≤1000000000):=by
      show _≤_
      have h8:∀ g,(zAr g (ts.take (half ts.length)) k).length≤g:=fun g=>zBE g _ k
      have:=h8 f
      omega
     have HPP:Hid (∀ W,Below w.heap.size w W→Calls Tryz.prog 23 #[.slice a (half ts.length) cap,.int .i64 k] W fun e w'=>∃ u,e=.returned u∧OwnS w' w.heap.size u (zAr f (ts.take (half ts.length)) k)∧Below w.heap.size w w'∧w.heap.size≤w'.heap.size):=fun W hW =>
      (zBp f (ts.take (half ts.length)) k _ W ((rowT_take HR.out (by omega)).below hW) (by rw [List.length_take];omega) (by rw [List.length_take];omega) (by omega) (fun t ht=>hs t (List.mem_of_mem_take ht)) (hK.below hW hp) (Nat.lt_of_lt_of_le hp hW.size)).mono
        fun e w' ⟨u,h1,h2,h3⟩=>⟨u,h1,h2.mono hW.size,hW.trans (h3.mono hW.size),Nat.le_trans hW.size h3.size⟩
     obtain ⟨r,Hr⟩ : ∃ r,Hid (zAy f (ts.drop (half ts.length))=r):=⟨_,rfl⟩
     obtain ⟨ps,Hps⟩ : ∃ ps,Hid (zAr f (ts.take (half ts.length)) k=ps):=⟨_,rfl⟩
     rw [Hr.out] at HE HRD
     rw [Hps.out] at HE HL HPP
     clear Hr Hps hs hone h HR h2 hf HRL hK hp
     generalize half ts.length=m at q1 q2 q3 HF HRD HPP hk
     generalize ts.length=n at hcap q2 HF HRD hn1 h1 h64
     have p0:(k:Int)<(m:Int):=by omega
     have p1:(m:Int)≤(n:Int):=by omega
     have p2:(m:Int)≤(cap:Int):=by omega
     have p3:(n:Int)≤(cap:Int):=by omega
     have p4:¬ cap=m:=by omega
     have RB:Hid (∀ W,Below w.heap.size w W→w.heap.size≤W.heap.size→Calls Tryz.prog 48 #[.slice (a.map (·.add m)) (n - m) (cap - m)] W fun e w'=>e=.returned (.string r)∧Below w.heap.size w w'∧w.heap.size≤w'.heap.size∧Below W.heap.size W w'):=fun W hW hS=>(HRD.out W hW).mono fun e w' ⟨h1,h2⟩=>⟨h1,hW.trans (h2.mono hS),Nat.le_trans hS h2.size,h2⟩
     clear HRD
     go_enter Tryz.func23,Tryz.ntmps23
     go_wp2_with (first | (go_at_call 47;refine (HF.out _).mono ?_;rintro e w1 ⟨rfl,rfl⟩) | fail)
     go_region_law (first
      | (go_simp;go_at_call 48;(with_reducible refine (RB.out _ g5 s5).mono ?_);rintro e w6 ⟨rfl,g6,s6,b6⟩;have o6:=o5.below b6;try go_simp)
      | (go_simp;go_at_call 48;(with_reducible refine (RB.out _ G0.out S0.out).mono ?_);rintro e w4 ⟨rfl,g4,s4,b4⟩;try go_simp)
      | (go_simp;go_at_call 23;(with_reducible refine (HPP.out _ g4).mono ?_);rintro e w6 ⟨u6,rfl,o6,g6,s6⟩;try go_simp)
      | (go_simp;go_at_call 23;(with_reducible refine (HPP.out _ G0.out).mono ?_);rintro e w5 ⟨u5,rfl,o5,g5,s5⟩;try go_simp)
      | (refine step_txt (by rfl) _ _ 38 (by rfl) Tryz.underlying38 hi0 hz0 hz1 hz2 w.heap.size _ _ _ _ [r] (by rfl) (by rfl) (OwnS.below o6 (zAD _ _)) (by rw [zAN];omega) (row_lit w6 9 [r] _ 1 rfl rfl) HL.out ?_;intro v7 w7 o7 b7))
     all_goals
      go_wp2_with fail
      go_ret
      rw [HE.out]
      exact ⟨_,rfl,o7,(g6.alloc s6 _).trans b7⟩
    ·have HE:Hid (zAr (f+1) ts k=zAr f (ts.drop (half ts.length)) (k - half ts.length) ++ [zAy f (ts.take (half ts.length))]):=zCd hone hk
     have HL:Hid ((zAr f (ts.drop (half ts.length)) (k - half ts.length)).length+1≤1000000000):=by
      show _≤_
      have h8:∀ g,(zAr g (ts.drop (half ts.length)) (k - half ts.length)).length≤g:=fun g=>zBE g _ _
      have:=h8 f
      omega
     have HPP:Hid (∀ W,Below w.heap.size w W→Calls Tryz.prog 23 #[.slice (a.map (·.add (half ts.length))) (ts.length - half ts.length) (cap - half ts.length),.int .i64 ((k:Int) - (half ts.length:Int))] W fun e w'=>∃ u,e=.returned u∧OwnS w' w.heap.size u (zAr f (ts.drop (half ts.length)) (k - half ts.length))∧Below w.heap.size w w'∧w.heap.size≤w'.heap.size):=fun W hW=>by
      have:=(zBp f (ts.drop (half ts.length)) (k - half ts.length) _ W ((rowT_drop HR.out (by omega)).below hW) (by rw [List.length_drop];omega) (by rw [List.length_drop];omega) (by omega) (fun t ht=>hs t (List.mem_of_mem_drop ht)) (hK.below hW hp) (Nat.lt_of_lt_of_le hp hW.size)).mono
       fun e w' ⟨u,h1,h2,h3⟩=>(⟨u,h1,h2.mono hW.size,hW.trans (h3.mono hW.size),Nat.le_trans hW.size h3.size⟩ : ∃ u,e=Ending.returned u∧OwnS w' w.heap.size u (zAr f (ts.drop (half ts.length)) (k - half ts.length))∧Below w.heap.size w w'∧w.heap.size≤w'.heap.size)
      rwa [show ((k - half ts.length:Nat):Int)=(k:Int) - (half ts.length:Int) by omega] at this
     obtain ⟨r,Hr⟩ : ∃ r,Hid (zAy f (ts.take (half ts.length))=r):=⟨_,rfl⟩
     obtain ⟨ps,Hps⟩ : ∃ ps,Hid (zAr f (ts.drop (half ts.length)) (k - half ts.length)=ps):=⟨_,rfl⟩
     rw [Hr.out] at HE HRL
     rw [Hps.out] at HE HL HPP
     clear Hr Hps hs hone h HR h2 hf HRD hK hp
     generalize half ts.length=m at q1 q2 q3 HF HRL HPP hk
     generalize ts.length=n at hcap q2 HF HPP hn1 h1 h64
     have p0:¬ (k:Int)<(m:Int):=by omega
     have p1:(m:Int)≤(n:Int):=by omega
     have p2:(m:Int)≤(cap:Int):=by omega
     have p3:(n:Int)≤(cap:Int):=by omega
     have p4:¬ cap=m:=by omega
     have p5:(k:Int)<64:=by omega
     have hwr:IntKind.i64.wrap ((k:Int) - (m:Int))=(k:Int) - (m:Int):=by rw [IntKind.wrap_i64];omega
     have RB:Hid (∀ W,Below w.heap.size w W→w.heap.size≤W.heap.size→Calls Tryz.prog 48 #[.slice a m cap] W fun e w'=>e=.returned (.string r)∧Below w.heap.size w w'∧w.heap.size≤w'.heap.size∧Below W.heap.size W w'):=fun W hW hS=>(HRL.out W hW).mono fun e w' ⟨h1,h2⟩=>⟨h1,hW.trans (h2.mono hS),Nat.le_trans hS h2.size,h2⟩
     clear HRL
     go_enter Tryz.func23,Tryz.ntmps23
     go_wp2_with (first | (go_at_call 47;refine (HF.out _).mono ?_;rintro e w1 ⟨rfl,rfl⟩) | fail)
     go_region_law (first
      | (go_simp;go_at_call 48;(with_reducible refine (RB.out _ g5 s5).mono ?_);rintro e w6 ⟨rfl,g6,s6,b6⟩;have o6:=o5.below b6;try go_simp)
      | (go_simp;go_at_call 48;(with_reducible refine (RB.out _ G0.out S0.out).mono ?_);rintro e w4 ⟨rfl,g4,s4,b4⟩;try go_simp)
      | (go_simp;go_at_call 23;(with_reducible refine (HPP.out _ g4).mono ?_);rintro e w6 ⟨u6,rfl,o6,g6,s6⟩;try go_simp)
      | (go_simp;go_at_call 23;(with_reducible refine (HPP.out _ G0.out).mono ?_);rintro e w5 ⟨u5,rfl,o5,g5,s5⟩;try go_simp)
      | (refine step_txt (by rfl) _ _ 38 (by rfl) Tryz.underlying38 hi0 hz0 hz1 hz2 w.heap.size _ _ _ _ [r] (by rfl) (by rfl) (OwnS.below o6 (zAD _ _)) (by rw [zAN];omega) (row_lit w6 9 [r] _ 1 rfl rfl) HL.out ?_;intro v7 w7 o7 b7))
     all_goals
      go_wp2_with fail
      go_ret
      rw [HE.out]
      exact ⟨_,rfl,o7,(g6.alloc s6 _).trans b7⟩
end Go.Proofs.YtakfniknkejgpaaGreatDoor.Py
