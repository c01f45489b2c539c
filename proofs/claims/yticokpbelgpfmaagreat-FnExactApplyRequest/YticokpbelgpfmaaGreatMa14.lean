/- Texts put together: Jh, Ji, Jj. -/
import Derived.Test.YticokpbelgpfmaaGreatMa13
namespace Go.Proofs.YticokpbelgpfmaaGreat.Jh
open Go.RowKit By Ap Tb Tw Mw Wa Bk Tp Da Ja Jb Jc
open Lo (LkA uV clL OwnL zAG zAK Apart zAP OwnL.below OwnL.slice OwnL.kept OwnL.lt atL)
open Tx (zAA zAC zAE zAJ zAD)
open Je Jf Jd
open Ea (mid mid_at mid_0 mid_len mid_all mid_set mid_here mid_same Tk)
theorem tightL {w:World} {b n:Nat} {qs:List LkA} (h:MapL w b n (mL qs)):MapL w b qs.length (mL qs):=by
 obtain ⟨es,c,h1,h2,h3,h4⟩:=h
 refine ⟨es,c,h1,h2,?_,h4⟩
 have e:=congrArg Maps.size h4
 rw [show Maps.size (mL qs)=qs.length from zAe qs] at e
 rw [e]
 simp [Maps.size,length_sorted]
theorem tightS {w:World} {b n:Nat} {ss:List Sn} (h:MapS w b n (mS ss)):MapS w b ss.length (mS ss):=by
 obtain ⟨es,c,h1,h2,h3,h4⟩:=h
 refine ⟨es,c,h1,h2,?_,h4⟩
 have e:=congrArg Maps.size h4
 rw [show Maps.size (mS ss)=ss.length from zAe ss] at e
 rw [e]
 simp [Maps.size,length_sorted]
section
variable {w0 w w':World} {B p bL bS:Nat} {T:Tab} {ps:List LkA}
theorem grown_fxL (hg:w.grownBy w' (some bL)):Fx p bL bS w w':=⟨hg.size,fun b o hb _ h2 _ _=>(hg.block b (Array.getElem?_eq_some_iff.1 hb).1 (fun e=>h2 (by injection e))).trans hb⟩
theorem grown_fxS (hg:w.grownBy w' (some bS)):Fx p bL bS w w':=⟨hg.size,fun b o hb _ _ h3 _=>(hg.block b (Array.getElem?_eq_some_iff.1 hb).1 (fun e=>h3 (by injection e))).trans hb⟩
theorem bk_grownL (h:BK w0 w B p bL bS T ps) {n:Nat} {ls:List Lk} {qs:List LkA} (hm:MapL w' bL n (mL qs)) (hg:w.grownBy w' (some bL)) (he:qs.map (·.1)=ls) (how:∀ q ∈ qs,OwnO w B (uV q) q.1.ws) (hap:Apart qs) (hn:NmA ls) (hs:∀ x ∈ ls,x.n.size≤1000000):BK w0 w' B p bL bS { T with ls:=ls } qs:=by
 have k:∀ j,j<w.heap.size→j ≠ bL→w'.heap[j]?=w.heap[j]?:=fun j hj hne=>hg.block j hj (fun e=>hne (by injection e))
 have hL:=zBI h.ml
 refine ⟨(k p h.plt h.ne.1).trans h.hp,tightL hm,zAR h.ms (k bS h.slt (Ne.symm h.le.2.2.2)),fun q hq=>(how q hq).kept (fun g hg'=>k g ((how q hq).lt g hg').2 (fun e=>?_)),hap,he,hn,h.cl,hs,h.sc,⟨hg.os.trans h.bel.os,hg.tape.trans h.bel.tape,hg.output.trans h.bel.output,Nat.le_trans h.bel.size hg.size,fun j hj=>(k j (Nat.lt_of_lt_of_le hj h.size) (by have:=h.le;omega)).trans (h.bel.block j hj)⟩,h.b0,h.le⟩
 obtain ⟨es,c,hm0⟩:=hL
 exact (how q hq).kind hm0 (fun cs=>by intro e;cases e) (by rw [hg',e])
theorem bk_grownS (h:BK w0 w B p bL bS T ps) {n:Nat} {ss:List Sn} (hm:MapS w' bS n (mS ss)) (hg:w.grownBy w' (some bS)) (hc:ClA ss) (hs:∀ s ∈ ss,0≤s.c∧s.c≤255):BK w0 w' B p bL bS { T with ss:=ss } ps:=by
 have k:∀ j,j<w.heap.size→j ≠ bS→w'.heap[j]?=w.heap[j]?:=fun j hj hne=>hg.block j hj (fun e=>hne (by injection e))
 have hL:=zBI h.ms
 refine ⟨(k p h.plt h.ne.2).trans h.hp,zAR h.ml (k bL h.llt h.le.2.2.2),tightS hm,fun q hq=>(h.ow q hq).kept (fun g hg'=>k g ((h.ow q hq).lt g hg').2 (fun e=>?_)),h.ap,h.eq,h.nm,hc,h.sn,hs,⟨hg.os.trans h.bel.os,hg.tape.trans h.bel.tape,hg.output.trans h.bel.output,Nat.le_trans h.bel.size hg.size,fun j hj=>(k j (Nat.lt_of_lt_of_le hj h.size) (by have:=h.le;omega)).trans (h.bel.block j hj)⟩,h.b0,h.le⟩
 obtain ⟨es,c,hm0⟩:=hL
 exact (h.ow q hq).kind hm0 (fun cs=>by intro e;cases e) (by rw [hg',e])
theorem bk_setL (h:BK w0 w B p bL bS T ps) {k:Nat} {q q':LkA} (hk:ps[k]?=some q) (hn:q'.1.n=q.1.n) (how:OwnO w B (uV q') q'.1.ws) (hap:Apart (ps.set k q')) (hl:ps.length≤1000):∃ w',(Instr.mapUpdate 106 (.map (some bL)) (.string q'.1.n) (lkV q'.1 (uV q'))).run Tryz.prog w=.ok () w'∧BK w0 w' B p bL bS { T with ls:=T.ls.set k q'.1 } (ps.set k q')∧Fx p bL bS w w'∧w.grownBy w' (some bL):=by
 have hq1:q.1 ∈ T.ls:=by rw [← h.eq];exact List.mem_map.2 ⟨q,List.mem_of_getElem? hk,rfl⟩
 have hsz:=h.sn _ hq1
 rw [← hn] at hsz
 obtain ⟨w',hrun,hm,hg⟩:=h.ml.update (Maps.string_keyed Tryz.underlying9) Tryz.underlying106 (by unfold maxLen;omega) (key:=.string q'.1.n) (val:=lkV q'.1 (uV q')) (WideMaps.keyOf_string_mk Tryz.underlying9 (s:=q'.1.n) (by unfold maxLen;omega)) (d:=.held (lkV q'.1 (uV q'))) (ps:=[]) rfl
 have hA:Asc eL ps:=NmA.asc (by rw [h.eq];exact h.nm)
 have hput:(mL ps).put (.string q'.1.n.data.toList) (.held (lkV q'.1 (uV q')))=mL (ps.set k q'):=put_hit (E:=eL) key_L hA hk (y:=q') (by show kS _=kS _;rw [hn])
 rw [hput] at hm
 have he:(ps.set k q').map (·.1)=T.ls.set k q'.1:=by rw [List.map_set,h.eq]
 have hkl:T.ls[k]?=some q.1:=by rw [← h.eq,List.getElem?_map,hk];rfl
 refine ⟨w',hrun,bk_grownL h hm hg he (fun z hz=>?_) hap ?_ ?_,grown_fxL hg,hg⟩
 ·rcases List.mem_or_eq_of_mem_set hz with h1 | rfl
  ·exact h.ow z h1
  ·exact how
 ·refine List.pairwise_iff_getElem.2 fun i j hi hj hij=>?_
  have h0:=List.pairwise_iff_getElem.1 h.nm i j (by simpa using hi) (by simpa using hj) hij
  have hn2:∀ (m:Nat) (hm:m<(T.ls.set k q'.1).length),(T.ls.set k q'.1)[m].n=(T.ls[m]'(by simpa using hm)).n:=fun m hm=>by
   rw [List.getElem_set]
   split
   ·rename_i e;subst e;rw [hn];obtain ⟨_,e2⟩:=List.getElem?_eq_some_iff.1 hkl;rw [e2]
   ·rfl
  rw [hn2 i hi,hn2 j hj]
  exact h0
 ·intro z hz
  rcases List.mem_or_eq_of_mem_set hz with h1 | rfl
  ·exact h.sn z h1
  ·exact hsz
end
end Go.Proofs.YticokpbelgpfmaaGreat.Jh
namespace Go.Proofs.YticokpbelgpfmaaGreat.Ji
open Go.RowKit By Ap Tb Tw Mw Wa Bk Tp Da Ja Jb Jc
open Lo (LkA uV clL OwnL zAG zAK Apart zAP OwnL.below OwnL.slice OwnL.kept OwnL.lt atL)
open Tx (zAA zAC zAE zAJ zAD)
open Je Jf Jd Jh
open Ea (mid mid_at mid_0 mid_len mid_all mid_set mid_here mid_same Tk)
section
variable {w0 w w':World} {B p bL bS:Nat} {T:Tab} {ps qs:List LkA}
theorem cellsL {W:World} {C:Nat} {v:Value} (ho:OwnL W C v ps) (h:BK w0 W B p bL bS T qs):∃ a cap,v=.slice a ps.length cap∧(ps.length=0 ∨ ∃ g,a=some ⟨g,0,none⟩∧ps.length≤cap∧∀ wr,Fx p bL bS W wr→∀ (k:Nat) (x:LkA),ps[k]?=some x→∀ j u,j<5→(clL x)[j]?=some u→wr.cell? ⟨g,k * 5+j,none⟩=some u):=by
 obtain ⟨hl,⟨rfl,h0⟩ | ⟨g,cap,cur,rfl,hB,hg,hc,_,hs,htk⟩⟩:=ho
 ·exact ⟨none,0,by rw [h0],.inl h0⟩
 ·refine ⟨_,cap,rfl,.inr ⟨g,rfl,hc,fun wr hf k x hx j u hj hu=>?_⟩⟩
  have hgp:g ≠ p:=zAK hg h.hp (by decide)
  have hgL:g ≠ bL:=fun e=>by obtain ⟨es,c,hm⟩:=zBI h.ml;rw [← e,hg] at hm;cases hm
  have hgS:g ≠ bS:=fun e=>by obtain ⟨es,c,hm⟩:=zBI h.ms;rw [← e,hg] at hm;cases hm
  have hg2:=hf.block g _ hg hgp hgL hgS (fun cs=>by intro e;cases e)
  have hkl:=(List.getElem?_eq_some_iff.1 hx).1
  have h1:=atL ps k x j hx hj
  rw [← htk,List.getElem?_take,if_pos (by omega)] at h1
  rw [Joins.cell_of_block hg2,← Array.getElem?_toList,h1,hu]
set_option maxRecDepth 100000 in
set_option maxHeartbeats 3200000 in
theorem goOn_any (h:BK w0 w B p bL bS T ps) (now:Int) (hT:TOK T) (h0:0≤now) (h1:now≤1000000000) (hn:T.nx≤999990) :
 Calls Tryz.prog 68 #[.pointer (some ⟨p,0,none⟩),.int .i64 now] w fun e w'=>e=.returned (.tuple #[])∧(∃ qs,BK w0 w' B p bL bS (exT T now) qs)∧Fx p bL bS w w':=by
 obtain ⟨ht0,ht1,ht2,ht3,ht4,ht5⟩:=hT
 have hb0:=zAQ ht0
 have hb1:=zAQ ht1
 have HH:Hid (BK w0 w B p bL bS T ps):=h
 have HLK:Hid (∀ y ∈ T.ls,HdOK y):=fun y hy=>by
  obtain ⟨k,hk⟩:=List.mem_iff_getElem?.1 hy
  exact (ht3 k y hk).2.2.2
 obtain ⟨M,hM⟩ : ∃ M,max T.tm now=M:=⟨_,rfl⟩
 have hM0:0≤M∧M≤1000000000:=by omega
 have HMM:Hid (max T.tm now=M):=hM
 have HEX:Hid (exT T now=Tk T M T.ls.length):=by
  show _=_
  unfold exT Tk
  rw [HMM.out,mid_all]
 have H1:Hid (BK w0 (w.setCell ⟨p,0,none⟩ (.int .i64 M)) B p bL bS (Tk T M 0) ps∧Fx p bL bS w (w.setCell ⟨p,0,none⟩ (.int .i64 M))):=⟨h.box 0 _ (by unfold Tk;exact mid_0 M T.nx T.ls) rfl rfl,fxBox p bL bS w 0 _⟩
 obtain ⟨c0,f0⟩:=zAA h.hp 0 (x:=.int .i64 T.tm) rfl
 clear h ht3 ht5
 go_enter Tryz.func68,Tryz.ntmps68
 go_upto_region 1 with fail
 try rw [HMM.out]
 generalize w.setCell ⟨p,0,none⟩ (.int .i64 M)=w1 at H1 ⊢
 clear c0 f0 hM
 have HLN:Hid (ps.length=T.ls.length):=HH.out.len
 have c2:=(zAA H1.out.1.hp 2 (x:=.map (some bL)) rfl).1
 have HIO:=inOrderL_any bL w1 ps H1.out.1.ml (by rw [H1.out.1.eq];exact H1.out.1.nm) (fun q hq=>H1.out.1.sn q.1 (by rw [← H1.out.1.eq];exact List.mem_map.2 ⟨q,hq,rfl⟩)) (by rw [HLN.out];omega)
 go_upto_region 2 with (go_at_call 94;refine HIO.mono ?_;rintro e w2 ⟨v2,rfl,o2,b2⟩;obtain ⟨a2,k2,rfl,hc2⟩:=cellsL o2 (H1.out.1.up b2);have H2:Hid (BK w0 w2 B p bL bS (Tk T M 0) ps∧Fx p bL bS w w2∧(ps.length=0 ∨ ∃ g,a2=some ⟨g,0,none⟩∧ps.length≤k2∧∀ wr,Fx p bL bS w2 wr→∀ (k:Nat) (x:LkA),ps[k]?=some x→∀ j u,j<5→(clL x)[j]?=some u→wr.cell? ⟨g,k * 5+j,none⟩=some u)):=⟨H1.out.1.up b2,H1.out.2.trans (Fx.of_below b2),hc2⟩;clear o2 b2 hc2 c2)
 rw [HLN.out]
 clear HIO H1
 go_loopw [21] (fun i wr=>∃ k:Nat,k≤T.ls.length∧i=.int .i64 k∧Hid (∃ qs,BK w0 wr B p bL bS (Tk T M k) qs∧(∀ j,k≤j→qs[j]?=ps[j]?)∧Fx p bL bS w2 wr)) (fun i _=>T.ls.length - (intOf i).toNat)
 case atStart=>exact ⟨0,by omega,rfl,ps,H2.out.1,fun _ _=>rfl,Fx.refl _ _ _ _⟩
 case round =>
  obtain ⟨k,hk,rfl,HK⟩:=hrel
  by_cases hlt:k<T.ls.length
  ·obtain ⟨y0,hy⟩:=Tw.get_at hlt
   obtain ⟨g,rfl,hcap,hcl⟩:=H2.out.2.2.resolve_left (by rw [HLN.out];omega)
   obtain ⟨qs,hqs⟩:=HK.out
   have HQ:Hid (BK w0 wr B p bL bS (Tk T M k) qs∧(∀ j,k≤j→qs[j]?=ps[j]?)∧Fx p bL bS w2 wr):=hqs
   obtain ⟨x,hx⟩:=Tw.get_at (xs:=ps) (k:=k) (by rw [HLN.out];exact hlt)
   have hxy:x.1=y0:=by
    have:=congrArg (fun l=>l[k]?) HH.out.eq
    simp only [List.getElem?_map,hx,hy,Option.map_some,Option.some.injEq] at this
    exact this
   obtain ⟨y,ua,uc⟩:=x
   dsimp only at hxy
   subst hxy
   have HX:Hid (T.ls[k]?=some y∧qs[k]?=some (y,ua,uc)):=⟨hy,(HQ.out.2.1 k (Nat.le_refl _)).trans hx⟩
   have hc:=hcl wr HQ.out.2.2 k (y,ua,uc) hx
   have c0:wr.cell? ⟨g,k * 5,none⟩=some (.string y.n):=hc 0 (.string y.n) (by decide) rfl
   have c1:=hc 1 (.int .i64 y.t) (by decide) rfl
   have c2:=hc 2 (.int .i64 y.h) (by decide) rfl
   have c3:=hc 3 (.int .i64 y.e) (by decide) rfl
   have c4:=hc 4 (.slice ua y.ws.length uc) (by decide) rfl
   clear hc hcl hqs hx hy HK
   go_upto_region 4 with fail
   have H3:Hid (BK w0 (wr.alloc (.cells #[.string y.n,.int .i64 y.t,.int .i64 y.h,.int .i64 y.e,.slice ua y.ws.length uc] 45)) B p bL bS (Tk T M k) qs∧Fx p bL bS w2 (wr.alloc (.cells #[.string y.n,.int .i64 y.t,.int .i64 y.h,.int .i64 y.e,.slice ua y.ws.length uc] 45))∧(wr.alloc (.cells #[.string y.n,.int .i64 y.t,.int .i64 y.h,.int .i64 y.e,.slice ua y.ws.length uc] 45)).heap[wr.heap.size]?=some (.cells #[.string y.n,.int .i64 y.t,.int .i64 y.h,.int .i64 y.e,.slice ua y.ws.length uc] 45 (0,0))∧p<wr.heap.size∧B≤wr.heap.size):=⟨HQ.out.1.up (zAD _ _),HQ.out.2.2.trans (Fx.of_below (zAD _ _)),zAJ _ _ _,HQ.out.1.plt,HQ.out.1.size⟩
   clear c0 c1 c2 c3 c4
   generalize wr.alloc (.cells #[.string y.n,.int .i64 y.t,.int .i64 y.h,.int .i64 y.e,.slice ua y.ws.length uc] 45)=w3 at H3 ⊢
   generalize wr.heap.size=lb at H3 ⊢
   have l0:=(zAA H3.out.2.2.1 0 (x:=.string y.n) rfl).1
   have l1:=(zAA H3.out.2.2.1 1 (x:=.int .i64 y.t) rfl).1
   have l2:=(zAA H3.out.2.2.1 2 (x:=.int .i64 y.h) rfl).1
   have l3:=(zAA H3.out.2.2.1 3 (x:=.int .i64 y.e) rfl).1
   have l4:=(zAA H3.out.2.2.1 4 (x:=.slice ua y.ws.length uc) rfl).1
   have p0:=(zAA H3.out.1.hp 0 (x:=.int .i64 M) rfl).1
   have p2:=(zAA H3.out.1.hp 2 (x:=.map (some bL)) rfl).1
   have hnk:=exN_le (tm:=M) (nx:=T.nx) (ls:=T.ls) k
   have HHD:=HLK.out y (Tw.zAp HX.out.1)
   by_cases hd1:y.h = -1
   ·have hb1:(y.h != -1)=false:=by simp [hd1]
    have HD:Hid (Da.due M y=false):=by show _=_;unfold Da.due;rw [decide_eq_false];exact fun h=>h.1 hd1
    obtain ⟨X,hX,W,QI0,QO0⟩:=Qc.zAZ w3
    have QI:Hid (∀ w',Below w3.heap.size w3 w'→∃ x,w'=W x):=QI0
    have QO:Hid (∀ x,Below w3.heap.size w3 (W x)):=QO0
    clear QI0 QO0
    have y0:=Qc.zAB QO.out p0
    have z2:=Qc.zAB QO.out l2
    have z3:=Qc.zAB QO.out l3
    refine Qc.zAF (W:=W) (by kernel_rfl) (by kernel_rfl) (QI.out _ Qc.zAI) ?_
    repeat (go_big_quiet_step (fail))
    refine wpQuiet_nil ?_
    rintro _ ⟨xq,rfl⟩
    have H4:Hid (BK w0 (W xq) B p bL bS (Tk T M k) qs∧Fx p bL bS w2 (W xq)∧(W xq).heap[lb]?=some (.cells #[.string y.n,.int .i64 y.t,.int .i64 y.h,.int .i64 y.e,.slice ua y.ws.length uc] 45 (0,0))):=⟨H3.out.1.up (QO.out xq),H3.out.2.1.trans (Fx.of_below (QO.out xq)),((QO.out xq).block lb (Array.getElem?_eq_some_iff.1 H3.out.2.2.1).1).trans H3.out.2.2.1⟩
    have HPB:Hid (p<lb∧B≤lb):=H3.out.2.2.2
    clear y0 z2 z3 QO QI H3 l0 l1 l2 l3 l4 p0 p2
    generalize W xq=w4 at H4 ⊢
    have HS:Hid (BK w0 w4 B p bL bS (Tk T M (k+1)) qs∧(∀ j,k+1≤j→qs[j]?=ps[j]?)∧Fx p bL bS w2 w4):=by
     have e1:Tk T M (k+1)=Tk T M k:=by
      unfold Tk
      rw [mid_same HX.out.1 HD.out,zBV HX.out.1,HD.out]
      rfl
     rw [e1]
     exact ⟨H4.out.1,fun j hj=>HQ.out.2.1 j (by omega),H4.out.2.1⟩
    clear H4 HQ
    go_wp2_with fail
    first
     | exact ⟨⟨k+1,by omega,by go_num,⟨_,HS.out⟩⟩,by simp [intOf];omega⟩
     | (go_roundw
        case rel=>(repeat apply Exists.intro);exact ⟨⟨k+1,by omega,by go_num,⟨_,HS.out⟩⟩,rfl⟩
        case measure=>simp [intOf];omega)
   ·have hb1:(y.h != -1)=true:=by simp [hd1]
    by_cases hd2:y.e≤M
    ·have hb2:decide (y.e≤M)=true:=by simp [hd2]
     have HD:Hid (Da.due M y=true):=by show _=_;unfold Da.due;rw [decide_eq_true];exact ⟨hd1,hd2⟩
     obtain ⟨X,hX,W,QI0,QO0⟩:=Qc.zAZ w3
     have QI:Hid (∀ w',Below w3.heap.size w3 w'→∃ x,w'=W x):=QI0
     have QO:Hid (∀ x,Below w3.heap.size w3 (W x)):=QO0
     clear QI0 QO0
     have y0:=Qc.zAB QO.out p0
     have z2:=Qc.zAB QO.out l2
     have z3:=Qc.zAB QO.out l3
     refine Qc.zAF (W:=W) (by kernel_rfl) (by kernel_rfl) (QI.out _ Qc.zAI) ?_
     repeat (go_big_quiet_step (fail))
     refine wpQuiet_nil ?_
     rintro _ ⟨xq,rfl⟩
     have H4:Hid (BK w0 (W xq) B p bL bS (Tk T M k) qs∧Fx p bL bS w2 (W xq)∧(W xq).heap[lb]?=some (.cells #[.string y.n,.int .i64 y.t,.int .i64 y.h,.int .i64 y.e,.slice ua y.ws.length uc] 45 (0,0))):=⟨H3.out.1.up (QO.out xq),H3.out.2.1.trans (Fx.of_below (QO.out xq)),((QO.out xq).block lb (Array.getElem?_eq_some_iff.1 H3.out.2.2.1).1).trans H3.out.2.2.1⟩
     have HPB:Hid (p<lb∧B≤lb):=H3.out.2.2.2
     clear y0 z2 z3 QO QI H3 l0 l1 l2 l3 l4 p0 p2
     generalize W xq=w4 at H4 ⊢
     have HWS:Hid (∀ z ∈ y.ws,0≤z.l∧z.l≤1000):=fun z hz=>by
      rcases HHD with ⟨_,_,h3⟩ | ⟨_,_,_,_,h5⟩
      ·rw [List.length_eq_zero_iff.1 h3] at hz;cases hz
      ·obtain ⟨i,hi⟩:=List.mem_iff_getElem?.1 hz
       have:=zAQ (h5 i z hi).2.1
       omega
     have HWL:Hid (y.ws.length≤4):=by
      rcases HHD with ⟨_,_,h3⟩ | ⟨_,_,_,h4,_⟩
      ·show _≤_;rw [h3];exact Nat.zero_le _
      ·exact h4
     have HQL:Hid (qs.length≤1000):=by show _≤_;rw [H4.out.1.len];show (mid M T.nx T.ls k).length≤_;rw [mid_len];omega
     have HGF:Hid (∀ W,Below w4.heap.size w4 W→Calls Tryz.prog 105 #[.pointer (some ⟨p,0,none⟩),.agg #[.string y.n,.int .i64 y.t,.int .i64 y.h,.int .i64 y.e,.slice ua y.ws.length uc]] W fun e w5=>∃ ua' uc' w6,e=.returned (lkV (frL M (exN M T.nx T.ls k) y) (.slice ua' (frL M (exN M T.nx T.ls k) y).ws.length uc'))∧(Instr.mapUpdate 106 (.map (some bL)) (.string y.n) (lkV (frL M (exN M T.nx T.ls k) y) (.slice ua' (frL M (exN M T.nx T.ls k) y).ws.length uc'))).run Tryz.prog w5=.ok () w6∧(w5.cell? ⟨lb,0,none⟩=some (.string y.n)∧w5.cell? ⟨lb,1,none⟩=some (.int .i64 y.t)∧w5.cell? ⟨lb,2,none⟩=some (.int .i64 y.h)∧w5.cell? ⟨lb,3,none⟩=some (.int .i64 y.e)∧w5.cell? ⟨lb,4,none⟩=some (.slice ua y.ws.length uc)∧w5.cell? ⟨p,2,none⟩=some (.map (some bL)))∧(w6.cell? ⟨lb,0,none⟩=some (.string y.n)∧w6.cell? ⟨lb,1,none⟩=some (.int .i64 y.t)∧w6.cell? ⟨lb,2,none⟩=some (.int .i64 y.h)∧w6.cell? ⟨lb,3,none⟩=some (.int .i64 y.e)∧w6.cell? ⟨lb,4,none⟩=some (.slice ua y.ws.length uc)∧w6.cell? ⟨p,2,none⟩=some (.map (some bL)))∧Hid ((∃ rs,BK w0 w6 B p bL bS (Tk T M (k+1)) rs∧∀ j,k+1≤j→rs[j]?=ps[j]?)∧Fx p bL bS w2 w6)):=fun W hW=>by
      refine (free_any (H4.out.1.up hW) y ua uc ((H4.out.1.up hW).ow (y,ua,uc) (List.mem_of_getElem? HX.out.2)) HWS.out hM0.1 hM0.2 (by show 1≤exN M T.nx T.ls k;omega) (by show exN M T.nx T.ls k≤999999;omega) (by have:=HWL.out;omega)).mono ?_
      rintro e w5 ⟨ua',uc',rfl,ho,hbk,hb5,hx5⟩
      have hne:p ≠ lb:=by have:=HPB.out;omega
      have hlb:w5.heap[lb]?=some (.cells #[.string y.n,.int .i64 y.t,.int .i64 y.h,.int .i64 y.e,.slice ua y.ws.length uc] 45 (0,0)):=(hx5.block lb (Nat.lt_of_lt_of_le (Array.getElem?_eq_some_iff.1 H4.out.2.2).1 hW.size) (Ne.symm hne)).trans ((hW.block lb (Array.getElem?_eq_some_iff.1 H4.out.2.2).1).trans H4.out.2.2)
      obtain ⟨w6,hrun,hb6,hf6,hg6⟩:=bk_setL hb5 (k:=k) (q:=(y,ua,uc)) (q':=((frL M (exN M T.nx T.ls k) y),ua',uc')) HX.out.2 (frL_name y) ho (H4.out.1.ap.set HX.out.2 hbk) HQL.out
      have hrun':(Instr.mapUpdate 106 (.map (some bL)) (.string y.n) (lkV (frL M (exN M T.nx T.ls k) y) (.slice ua' (frL M (exN M T.nx T.ls k) y).ws.length uc'))).run Tryz.prog w5=.ok () w6:=by
       have e0:=hrun
       rw [show ((frL M (exN M T.nx T.ls k) y),ua',uc').1.n=y.n from frL_name y] at e0
       exact e0
      have hlL:lb ≠ bL:=fun e=>by obtain ⟨es,c,hm⟩:=zBI hb5.ml;rw [← e,hlb] at hm;cases hm
      have hlb6:=(hg6.block lb (Array.getElem?_eq_some_iff.1 hlb).1 (fun e=>hlL (by injection e))).trans hlb
      refine ⟨ua',uc',w6,rfl,hrun',⟨(zAA hlb 0 rfl).1,(zAA hlb 1 rfl).1,(zAA hlb 2 rfl).1,(zAA hlb 3 rfl).1,(zAA hlb 4 rfl).1,(zAA hb5.hp 2 rfl).1⟩,⟨(zAA hlb6 0 rfl).1,(zAA hlb6 1 rfl).1,(zAA hlb6 2 rfl).1,(zAA hlb6 3 rfl).1,(zAA hlb6 4 rfl).1,(zAA hb6.hp 2 rfl).1⟩,⟨⟨qs.set k ((frL M (exN M T.nx T.ls k) y),ua',uc'),?_,fun j hj=>?_⟩,H4.out.2.1.trans ((Fx.of_below hW).trans (hx5.fx.trans hf6))⟩⟩
      ·have e1:Tk T M (k+1)=⟨M,frN (exN M T.nx T.ls k) y,(mid M T.nx T.ls k).set k (frL M (exN M T.nx T.ls k) y),T.ss⟩:=by
        unfold Tk
        rw [mid_set HX.out.1,zBV HX.out.1,HD.out]
        unfold exK
        rw [HD.out]
        rfl
       rw [e1]
       exact hb6
      ·rw [List.getElem?_set_ne (by omega)]
       exact HQ.out.2.1 j (by omega)
     have l0:=(zAA H4.out.2.2 0 (x:=.string y.n) rfl).1
     have l1:=(zAA H4.out.2.2 1 (x:=.int .i64 y.t) rfl).1
     have l2:=(zAA H4.out.2.2 2 (x:=.int .i64 y.h) rfl).1
     have l3:=(zAA H4.out.2.2 3 (x:=.int .i64 y.e) rfl).1
     have l4:=(zAA H4.out.2.2 4 (x:=.slice ua y.ws.length uc) rfl).1
     have p2:=(zAA H4.out.1.hp 2 (x:=.map (some bL)) rfl).1
     clear HD HHD
     go_upto_region 5 with fail
     go_region_held_law (fun W=>W.cell? ⟨lb,0,none⟩=some (.string y.n)∧W.cell? ⟨lb,1,none⟩=some (.int .i64 y.t)∧W.cell? ⟨lb,2,none⟩=some (.int .i64 y.h)∧W.cell? ⟨lb,3,none⟩=some (.int .i64 y.e)∧W.cell? ⟨lb,4,none⟩=some (.slice ua y.ws.length uc)∧W.cell? ⟨p,2,none⟩=some (.map (some bL))) (first | exact ⟨l0,l1,l2,l3,l4,p2⟩ | assumption) ((go_at_call 105;refine (HGF.out _ (by first | exact Below.refl _ _ | exact (Below.refl _ _).drew)).mono ?_;rintro e w5 ⟨ua',uc',w6,rfl,hrun,hs5,hs6,H6⟩))
     all_goals
      obtain ⟨⟨rs,hrs,hrj⟩,hrf⟩:=H6.out
      have HS:Hid (BK w0 w6 B p bL bS (Tk T M (k+1)) rs∧(∀ j,k+1≤j→rs[j]?=ps[j]?)∧Fx p bL bS w2 w6):=⟨hrs,hrj,hrf⟩
      clear H6 hrs hrj hrf hs5 hs6 hrun l0 l1 l2 l3 l4 p2 H4 HQ
      go_wp2_with fail
      first
       | exact ⟨⟨k+1,by omega,by go_num,⟨_,HS.out⟩⟩,by simp [intOf];omega⟩
       | (go_roundw
          case rel=>(repeat apply Exists.intro);exact ⟨⟨k+1,by omega,by go_num,⟨_,HS.out⟩⟩,rfl⟩
          case measure=>simp [intOf];omega)
    ·have hb2:decide (y.e≤M)=false:=by simp [hd2]
     have HD:Hid (Da.due M y=false):=by show _=_;unfold Da.due;rw [decide_eq_false];exact fun h=>hd2 h.2
     obtain ⟨X,hX,W,QI0,QO0⟩:=Qc.zAZ w3
     have QI:Hid (∀ w',Below w3.heap.size w3 w'→∃ x,w'=W x):=QI0
     have QO:Hid (∀ x,Below w3.heap.size w3 (W x)):=QO0
     clear QI0 QO0
     have y0:=Qc.zAB QO.out p0
     have z2:=Qc.zAB QO.out l2
     have z3:=Qc.zAB QO.out l3
     refine Qc.zAF (W:=W) (by kernel_rfl) (by kernel_rfl) (QI.out _ Qc.zAI) ?_
     repeat (go_big_quiet_step (fail))
     refine wpQuiet_nil ?_
     rintro _ ⟨xq,rfl⟩
     have H4:Hid (BK w0 (W xq) B p bL bS (Tk T M k) qs∧Fx p bL bS w2 (W xq)∧(W xq).heap[lb]?=some (.cells #[.string y.n,.int .i64 y.t,.int .i64 y.h,.int .i64 y.e,.slice ua y.ws.length uc] 45 (0,0))):=⟨H3.out.1.up (QO.out xq),H3.out.2.1.trans (Fx.of_below (QO.out xq)),((QO.out xq).block lb (Array.getElem?_eq_some_iff.1 H3.out.2.2.1).1).trans H3.out.2.2.1⟩
     have HPB:Hid (p<lb∧B≤lb):=H3.out.2.2.2
     clear y0 z2 z3 QO QI H3 l0 l1 l2 l3 l4 p0 p2
     generalize W xq=w4 at H4 ⊢
     have HS:Hid (BK w0 w4 B p bL bS (Tk T M (k+1)) qs∧(∀ j,k+1≤j→qs[j]?=ps[j]?)∧Fx p bL bS w2 w4):=by
      have e1:Tk T M (k+1)=Tk T M k:=by
       unfold Tk
       rw [mid_same HX.out.1 HD.out,zBV HX.out.1,HD.out]
       rfl
      rw [e1]
      exact ⟨H4.out.1,fun j hj=>HQ.out.2.1 j (by omega),H4.out.2.1⟩
     clear H4 HQ
     go_wp2_with fail
     first
      | exact ⟨⟨k+1,by omega,by go_num,⟨_,HS.out⟩⟩,by simp [intOf];omega⟩
      | (go_roundw
         case rel=>(repeat apply Exists.intro);exact ⟨⟨k+1,by omega,by go_num,⟨_,HS.out⟩⟩,rfl⟩
         case measure=>simp [intOf];omega)
  ·obtain rfl:k=T.ls.length:=by omega
   obtain ⟨qs,hqs⟩:=HK.out
   have HE:Hid ((∃ qs,BK w0 wr B p bL bS (exT T now) qs)∧Fx p bL bS w wr):=⟨⟨qs,by rw [HEX.out];exact hqs.1⟩,H2.out.2.1.trans hqs.2.2⟩
   clear HK hqs
   go_wp2_with fail
   go_end0
   exact ⟨rfl,HE.out⟩
end
end Go.Proofs.YticokpbelgpfmaaGreat.Ji
namespace Go.Proofs.YticokpbelgpfmaaGreat.Jj
open Go.RowKit By Ap Tb Tw Mw Wa Bk Tp Da Ja Jb Jc
open Lo (LkA uV clL OwnL zAG zAK Apart zAP OwnL.below OwnL.slice OwnL.kept OwnL.lt OwnL.mono atL)
open Tx (zAA zAC zAE zAJ zAD)
open Je Jf Jd Jh Ji
section
variable {w0 w:World} {B p bL bS:Nat} {T:Tab} {ps:List LkA}
structure TabO (w:World) (B:Nat) (vl vs:Value) (T:Tab) (ps:List LkA):Prop where
 ol:OwnL w B vl ps
 os:OwnS w B vs T.ss
 ow:∀ q ∈ ps,OwnO w B (uV q) q.1.ws
 ap:Apart ps
 eq:ps.map (·.1)=T.ls
set_option maxRecDepth 100000 in
set_option maxHeartbeats 3200000 in
theorem table_any (h:BK w0 w B p bL bS T ps) (hl:T.ls.length≤4) (hs:T.ss.length≤6) :
 Calls Tryz.prog 53 #[.pointer (some ⟨p,0,none⟩)] w fun e w'=>∃ vl vs,e=.returned (tabV T.tm T.nx vl vs)∧TabO w' B vl vs T ps∧Below w.heap.size w w':=by
 have HH:Hid (BK w0 w B p bL bS T ps):=h
 have HLN:Hid (ps.length=T.ls.length):=h.len
 have hw1:Below w.heap.size w (w.alloc (.cells #[.int .i64 0,.int .i64 0,.slice none 0 0,.slice none 0 0] 30)):=zAD _ _
 have HB:Hid (Below w.heap.size w (w.alloc (.cells #[.int .i64 0,.int .i64 0,.slice none 0 0,.slice none 0 0] 30))∧(w.alloc (.cells #[.int .i64 0,.int .i64 0,.slice none 0 0,.slice none 0 0] 30)).heap[w.heap.size]?=some (.cells #[.int .i64 0,.int .i64 0,.slice none 0 0,.slice none 0 0] 30 (0,0))):=⟨hw1,zAJ _ _ _⟩
 clear h hw1
 go_enter Tryz.func53,Tryz.ntmps53
 go_upto_region 1 with fail
 generalize w.alloc (.cells #[.int .i64 0,.int .i64 0,.slice none 0 0,.slice none 0 0] 30)=w1 at HB ⊢
 have HSP:Hid (∀ W,Below w1.heap.size w1 W→(W.cell? ⟨p,0,none⟩=some (.int .i64 T.tm)∧W.cell? ⟨p,1,none⟩=some (.int .i64 T.nx)∧W.cell? ⟨p,2,none⟩=some (.map (some bL))∧W.cell? ⟨p,3,none⟩=some (.map (some bS)))):=fun W hW=>by
  have hp:=(HH.out.up (HB.out.1.trans (hW.mono HB.out.1.size))).hp
  exact ⟨(zAA hp 0 rfl).1,(zAA hp 1 rfl).1,(zAA hp 2 rfl).1,(zAA hp 3 rfl).1⟩
 have HRB:Hid (∀ W,Below w1.heap.size w1 W→W.heap[w.heap.size]?=some (.cells #[.int .i64 0,.int .i64 0,.slice none 0 0,.slice none 0 0] 30 (0,0))):=fun W hW=>(hW.block _ (Array.getElem?_eq_some_iff.1 HB.out.2).1).trans HB.out.2
 have HIL:Hid (∀ W,Below w1.heap.size w1 W→Calls Tryz.prog 94 #[.map (some bL)] W fun e w'=>∃ a c,e=.returned (.slice a T.ls.length c)∧Hid (OwnL w' w1.heap.size (.slice a T.ls.length c) ps∧Below w1.heap.size w1 w'∧Below W.heap.size W w')):=fun W hW=>by
  have hk:=HH.out.up (HB.out.1.trans (hW.mono HB.out.1.size))
  refine (inOrderL_any bL W ps hk.ml (by rw [hk.eq];exact hk.nm) (fun q hq=>hk.sn q.1 (by rw [← hk.eq];exact List.mem_map.2 ⟨q,hq,rfl⟩)) (by rw [HLN.out];omega)).mono ?_
  rintro e w' ⟨v,rfl,o,b⟩
  obtain ⟨a,c,rfl⟩:=OwnL.slice o
  rw [HLN.out] at o ⊢
  exact ⟨a,c,rfl,o.mono hW.size,hW.trans (b.mono hW.size),b⟩
 have HIS:Hid (∀ W,Below w1.heap.size w1 W→Calls Tryz.prog 95 #[.map (some bS)] W fun e w'=>∃ a c,e=.returned (.slice a T.ss.length c)∧Hid (OwnS w' w1.heap.size (.slice a T.ss.length c) T.ss∧Below w1.heap.size w1 w'∧Below W.heap.size W w')):=fun W hW=>by
  have hk:=HH.out.up (HB.out.1.trans (hW.mono HB.out.1.size))
  refine (inOrderS_any bS W T.ss hk.ms hk.cl hk.sc (by omega)).mono ?_
  rintro e w' ⟨v,rfl,o,b⟩
  obtain ⟨a,c,rfl⟩:=OwnS.slice o
  exact ⟨a,c,rfl,o.mono hW.size,hW.trans (b.mono hW.size),b⟩
 have HPN:Hid (p ≠ w.heap.size):=by show _ ≠ _;have:=HH.out.plt;omega
 have S1:=HSP.out w1 (Below.refl _ _)
 go_region_held_law (fun W=>(W.cell? ⟨p,0,none⟩=some (.int .i64 T.tm)∧W.cell? ⟨p,1,none⟩=some (.int .i64 T.nx)∧W.cell? ⟨p,2,none⟩=some (.map (some bL))∧W.cell? ⟨p,3,none⟩=some (.map (some bS)))) (first | exact S1 | exact HSP.out _ (Below.refl _ _).drew | assumption | exact ⟨cf HPN.out (cf HPN.out (cf HPN.out (cf HPN.out Ss.1))),cf HPN.out (cf HPN.out (cf HPN.out (cf HPN.out Ss.2.1))),cf HPN.out (cf HPN.out (cf HPN.out (cf HPN.out Ss.2.2.1))),cf HPN.out (cf HPN.out (cf HPN.out (cf HPN.out Ss.2.2.2)))⟩ | exact ⟨cf HPN.out (cf HPN.out (cf HPN.out (cf HPN.out Sl.1))),cf HPN.out (cf HPN.out (cf HPN.out (cf HPN.out Sl.2.1))),cf HPN.out (cf HPN.out (cf HPN.out (cf HPN.out Sl.2.2.1))),cf HPN.out (cf HPN.out (cf HPN.out (cf HPN.out Sl.2.2.2)))⟩) ((first
  | (go_at_call 94;refine (HIL.out _ (by first | assumption | exact Below.refl _ _ | exact (Below.refl _ _).drew)).mono ?_;rintro e wl ⟨a2,c2,rfl,HL⟩;have bl:=HL.out.2.1;have Sl:=HSP.out wl bl;obtain ⟨r0,s0⟩:=zAA (HRB.out wl bl) 0 (x:=.int .i64 0) rfl;obtain ⟨r1,s1⟩:=zAA (HRB.out wl bl) 1 (x:=.int .i64 0) rfl;obtain ⟨r2,s2⟩:=zAA (HRB.out wl bl) 2 (x:=.slice none 0 0) rfl;obtain ⟨r3,s3⟩:=zAA (HRB.out wl bl) 3 (x:=.slice none 0 0) rfl)
  | (go_at_call 95;refine (HIS.out _ (by first | assumption | exact Below.refl _ _ | exact (Below.refl _ _).drew)).mono ?_;rintro e ws ⟨a3,c3,rfl,HS⟩;have bs:=HS.out.2.1;have Ss:=HSP.out ws bs;obtain ⟨r0,s0⟩:=zAA (HRB.out ws bs) 0 (x:=.int .i64 0) rfl;obtain ⟨r1,s1⟩:=zAA (HRB.out ws bs) 1 (x:=.int .i64 0) rfl;obtain ⟨r2,s2⟩:=zAA (HRB.out ws bs) 2 (x:=.slice none 0 0) rfl;obtain ⟨r3,s3⟩:=zAA (HRB.out ws bs) 3 (x:=.slice none 0 0) rfl)))
 all_goals
  have HF:Hid (((((ws.setCell ⟨w.heap.size,0,none⟩ (.int .i64 T.tm)).setCell ⟨w.heap.size,1,none⟩ (.int .i64 T.nx)).setCell ⟨w.heap.size,2,none⟩ (.slice a2 T.ls.length c2)).setCell ⟨w.heap.size,3,none⟩ (.slice a3 T.ss.length c3)).heap[w.heap.size]?=some (.cells #[.int .i64 T.tm,.int .i64 T.nx,.slice a2 T.ls.length c2,.slice a3 T.ss.length c3] 30 (0,0))∧TabO ((((ws.setCell ⟨w.heap.size,0,none⟩ (.int .i64 T.tm)).setCell ⟨w.heap.size,1,none⟩ (.int .i64 T.nx)).setCell ⟨w.heap.size,2,none⟩ (.slice a2 T.ls.length c2)).setCell ⟨w.heap.size,3,none⟩ (.slice a3 T.ss.length c3)) B (.slice a2 T.ls.length c2) (.slice a3 T.ss.length c3) T ps∧Below w.heap.size w ((((ws.setCell ⟨w.heap.size,0,none⟩ (.int .i64 T.tm)).setCell ⟨w.heap.size,1,none⟩ (.int .i64 T.nx)).setCell ⟨w.heap.size,2,none⟩ (.slice a2 T.ls.length c2)).setCell ⟨w.heap.size,3,none⟩ (.slice a3 T.ss.length c3))):=by
   have hrb:=HRB.out ws bs
   have hr1:=HB.out.1.size
   have hlt:w.heap.size<w1.heap.size:=(Array.getElem?_eq_some_iff.1 HB.out.2).1
   have hB:B≤w.heap.size:=HH.out.size
   obtain ⟨o1,o2,o3⟩:=HL.out
   obtain ⟨q1,q2,q3⟩:=HS.out
   have far:∀ k,k ≠ w.heap.size→((((ws.setCell ⟨w.heap.size,0,none⟩ (.int .i64 T.tm)).setCell ⟨w.heap.size,1,none⟩ (.int .i64 T.nx)).setCell ⟨w.heap.size,2,none⟩ (.slice a2 T.ls.length c2)).setCell ⟨w.heap.size,3,none⟩ (.slice a3 T.ss.length c3)).heap[k]?=ws.heap[k]?:=fun k hk=>(zAE hk 3 _).trans ((zAE hk 2 _).trans ((zAE hk 1 _).trans (zAE hk 0 _)))
   have o4:=o1.below q3
   refine ⟨zAC (zAC (zAC (zAC hrb 0 _) 1 _) 2 _) 3 _,⟨(o4.kept fun g hg=>far g (by have:=(o4.lt g hg).1;omega)).mono (by omega),(q1.kept fun g hg=>far g (by have:=(q1.lt g hg).1;omega)).mono (by omega),fun q hq=>?_,HH.out.ap,HH.out.eq⟩,?_⟩
   ·have hq1:=HH.out.ow q hq
    exact hq1.kept fun g hg=>(far g (by have:=(hq1.lt g hg).2;omega)).trans ((bs.block g (by have:=(hq1.lt g hg).2;omega)).trans (HB.out.1.block g (hq1.lt g hg).2))
   ·exact Below.setCell (Below.setCell (Below.setCell (Below.setCell (HB.out.1.trans (bs.mono HB.out.1.size)) (p:=⟨w.heap.size,0,none⟩) (Nat.le_refl _) _) (p:=⟨w.heap.size,1,none⟩) (Nat.le_refl _) _) (p:=⟨w.heap.size,2,none⟩) (Nat.le_refl _) _) (p:=⟨w.heap.size,3,none⟩) (Nat.le_refl _) _
  clear r0 s0 r1 s1 r2 s2 r3 s3 HL HS bl bs Sl Ss S1
  go_wp2_with fail
  generalize ((((ws.setCell ⟨w.heap.size,0,none⟩ (.int .i64 T.tm)).setCell ⟨w.heap.size,1,none⟩ (.int .i64 T.nx)).setCell ⟨w.heap.size,2,none⟩ (.slice a2 T.ls.length c2)).setCell ⟨w.heap.size,3,none⟩ (.slice a3 T.ss.length c3))=wf at HF ⊢
  have d0:=(zAA HF.out.1 0 (x:=.int .i64 T.tm) rfl).1
  have d1:=(zAA HF.out.1 1 (x:=.int .i64 T.nx) rfl).1
  have d2:=(zAA HF.out.1 2 (x:=.slice a2 T.ls.length c2) rfl).1
  have d3:=(zAA HF.out.1 3 (x:=.slice a3 T.ss.length c3) rfl).1
  exact bodyPost_ret (v:=.agg #[.int .i64 T.tm,.int .i64 T.nx,.slice a2 T.ls.length c2,.slice a3 T.ss.length c3]) (by simp [results,Tryz.results53,go_sem,d0,d1,d2,d3]) rfl ⟨_,_,rfl,HF.out.2.1,HF.out.2.2⟩
end
end Go.Proofs.YticokpbelgpfmaaGreat.Jj
