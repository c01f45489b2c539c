/- Texts put together: Jx, Jy0, Jy1. -/
import Derived.Test.YticokpbelgpfmaaGreatMa20
import Derived.Test.YticokpbelgpfmaaGreatMa21
namespace Go.Proofs.YticokpbelgpfmaaGreat.Jx
open Go.RowKit By Ap Tb Tw Mw Wa Bk Tp Da Ja Jb Jc
open Lo (LkA uV clL OwnL zAG zAK Apart zAP zAX)
open Jx0 Jx1 Jx2 Jx3 Jx4 Jx5 Jx6
open Tx (zAA zAC zAE zAJ zAD)
open Rq Je Jf Jd Jh Jl Jr Jt Ju Jv Jw
section
variable {w0 w:World} {B p bL bS:Nat} {T:Tab} {ps:List LkA}
theorem op_size {nm:ByteArray} (h:opB nm=true):nm.size≤1000000:=by
 unfold opB at h
 simp at h
 omega
theorem do_any (h:BK w0 w B p bL bS T ps) (hT:TOK T) (hn:T.nx≤999999) (r:Da.Ask) (hr:zBQ r) (he:less ⟨#[]⟩ r.nm=true) :
 Calls Tryz.prog 93 #[.pointer (some ⟨p,0,none⟩),rqA r] w fun e w'=>e=.returned (anV (doT T r).2)∧(∃ qs,BK w0 w' B p bL bS (doT T r).1 qs)∧Fx p bL bS w w':=by
 have hD:=tok_bk (doT_ok hT hr he hn).1
 have hB:=tok_bk hT
 have hlen:=h.len
 obtain ⟨ht0,ht1,ht2,ht3,ht4,ht5⟩:=hT
 have b0:=zAQ ht0
 have b1:=zAQ ht1
 obtain ⟨_,_,hrk,hro⟩:=hr
 have hnz:=op_size hro
 have hle:0≤r.le∧r.le≤1000:=by
  rcases hrk with ⟨_,h2⟩ | ⟨_,h2⟩
  ·have:=zAQ h2;omega
  ·omega
 have hp4:ps.length≤1000:=by have:=hB.2.2.1;omega
 cases hi:idx T.ls r.nm with
 | some k =>
   obtain ⟨x,hx,hxn⟩:=zBC _ _ hi
   have hxn2:x.n=r.nm:=Da.toList_inj (by simpa using hxn)
   have hg:T.ls.getD k default=x:=by rw [List.getD_eq_getElem?_getD,hx];rfl
   unfold doT at hD ⊢
   rw [hi] at hD ⊢
   simp only [hg] at hD ⊢
   obtain ⟨q,hq⟩:=Tw.get_at (xs:=ps) (k:=k) (by rw [hlen];exact (List.getElem?_eq_some_iff.1 hx).1)
   have hqx:q.1=x:=by
    have:=congrArg (fun l=>l[k]?) h.eq
    simp only [List.getElem?_map,hq,hx,Option.map_some,Option.some.injEq] at this
    exact this
   obtain ⟨x',ua,uc⟩:=q
   dsimp only at hqx
   subst hqx
   have hHD:=(ht3 k x' hx).2.2.2
   have hwl:x'.ws.length≤4:=by
    rcases hHD with ⟨_,_,h3⟩ | ⟨_,_,_,h4,_⟩
    ·omega
    ·exact h4
   have hws:∀ z ∈ x'.ws,0≤z.l∧z.l≤1000:=fun z hz=>by
    rcases hHD with ⟨_,_,h3⟩ | ⟨_,_,_,_,h5⟩
    ·rw [List.length_eq_zero_iff.1 h3] at hz;cases hz
    ·obtain ⟨i,hi⟩:=List.mem_iff_getElem?.1 hz
     have:=zAQ (h5 i z hi).2.1
     omega
   obtain ⟨xn,xt,xh,xe,ws⟩:=x'
   dsimp only at hxn2 hwl hws
   subst hxn2
   have k4:(r.kd=1 ∨ r.kd=2) ∨ r.kd=3 ∨ r.kd=4:=by
    rcases hrk with ⟨h1,_⟩ | ⟨h1,_⟩ <;> omega
   rcases k4 with (hk | hk) | hk | hk
   ·exact do_1 h r hk hq b0.1 b0.2 (by omega) hn hle hnz hwl hws rfl rfl rfl hD.1.1 hD.1.2.2.1 hp4
   ·exact do_2 h r hk hq b0.1 b0.2 (by omega) hn hle hnz hwl hws rfl rfl rfl hD.1.1 hD.1.2.2.1 hp4
   ·exact do_3 h r hk hq b0.1 b0.2 (by omega) hn hle hnz hwl hws rfl rfl rfl hD.1.1 hD.1.2.2.1 hp4
   ·exact do_4 h r hk hq b0.1 b0.2 (by omega) hn hle hnz hwl hws rfl rfl rfl hD.1.1 hD.1.2.2.1 hp4
 | none =>
   have hnn:∀ x ∈ ps,x.1.n ≠ r.nm:=fun x hx e=>by
    obtain ⟨i,hi2⟩:=List.mem_iff_getElem?.1 hx
    have h2:=fiP_none _ hi i x.1 (by rw [← h.eq,List.getElem?_map,hi2];rfl)
    rw [e] at h2
    simp at h2
   unfold doT at hD ⊢
   rw [hi] at hD ⊢
   simp only at hD ⊢
   by_cases hk:r.kd=1
   ·rw [if_neg (by simp [hk])] at hD ⊢
    by_cases h4:4≤T.ls.length
    ·rw [if_pos h4]
     exact do_full h r hnz hnn hk (by omega)
    ·rw [if_neg h4] at hD ⊢
     exact do_new h r hk b0.1 b0.2 (by omega) hn hle hnz hnn (by omega) rfl rfl rfl hD.1.1 hD.1.2.2.1 hp4
   ·rw [if_pos hk]
    exact do_none h r hnz hnn hk
end
end Go.Proofs.YticokpbelgpfmaaGreat.Jx
namespace Go.Proofs.YticokpbelgpfmaaGreat.Jy0
open Go.RowKit By Ap Tb Tw Mw Wa Bk Tp Da Ja Jb Jc
open Lo (LkA uV clL OwnL zAG zAK Apart zAP zAX)
open Jx0 Jx
open Tx (zAA zAC zAE zAJ zAD)
open Rq Ji Je Jf Jd Jh Jl Jr Jt Ju Jv Jw
section
variable {w0 w:World} {B p bL bS:Nat} {T:Tab} {ps:List LkA}
theorem fx_blk (h:BK w0 w B p bL bS T ps) {w1 w2:World} (hf:Fx p bL bS w1 w2) {y:Nat} {cs:Array Value} {e:TypeId} (hy:w1.heap[y]?=some (.cells cs e (0,0))) (hw:w.heap.size≤y) (hne:e ≠ 153:=by decide):w2.heap[y]?=some (.cells cs e (0,0)):=by
 have h1:=h.plt
 have h2:=h.llt
 have h3:=h.slt
 exact hf.block y _ hy (by omega) (by omega) (by omega) (fun cs'=>by intro e3;injection e3 with _ e4;exact hne e4)
theorem fx_blk2 (h:BK w0 w B p bL bS T ps) {w1 w2:World} (hf:Fx p bL bS w1 w2) {y:Nat} {cs:Array Value} {e:TypeId} (hy:w1.heap[y]?=some (.cells cs e (0,0))) (hw:w.heap.size≤y) (hne:e ≠ 153:=by decide):w2.heap[y]?=some (.cells cs e (0,0)):=fx_blk h hf hy hw hne
theorem up_blkS (h:BK w0 w B p bL bS T ps) {w5 w6:World} (hg:w5.drew.grownBy w6 (some bS)) {y:Nat} {o:Obj} (hy:w5.heap[y]?=some o) (hw:w.heap.size≤y):w6.heap[y]?=some o :=
 (hg.block y (Array.getElem?_eq_some_iff.1 hy).1 (fun e=>by injection e with e;have:=h.slt;omega)).trans hy
theorem bk_seenH (h:BK w0 w B p bL bS T ps) {k:Nat} {s s':Sn} (hk:T.ss[k]?=some s) (hc:s'.c=s.c) (hl:T.ss.length≤1000) (hca:ClA (T.ss.set k s')) (hcb:∀ z ∈ T.ss.set k s',0≤z.c∧z.c≤255) :
 ∃ w',(Instr.mapUpdate 107 (.map (some bS)) (.int .i64 s'.c) (snV s')).run Tryz.prog w=.ok () w'∧BK w0 w' B p bL bS { T with ss:=T.ss.set k s' } ps∧w.grownBy w' (some bS):=by
 have hb:=h.sc s (List.mem_of_getElem? hk)
 obtain ⟨w',hrun,hm,hg⟩:=h.ms.update (Maps.int_keyed Tryz.underlying3) Tryz.underlying107 (by unfold maxLen;omega) (key:=.int .i64 s'.c) (val:=snV s') (Maps.keyOf_int_mk Tryz.underlying3 (wf_small (by omega))) (d:=.held (snV s')) (ps:=[]) rfl
 have hput:(mS T.ss).put (kI s'.c) (.held (snV s'))=mS (T.ss.set k s'):=put_hit (E:=eS) key_S h.cl.asc hk (y:=s') (by show kI _=kI _;rw [hc])
 have hput2:(mS T.ss).put (.int .i64 s'.c) (.held (snV s'))=mS (T.ss.set k s'):=hput
 rw [hput2] at hm
 exact ⟨w',hrun,bk_grownS h hm hg hca hcb,hg⟩
theorem bk_seenN (h:BK w0 w B p bL bS T ps) {s':Sn} (hn:∀ s ∈ T.ss,s.c ≠ s'.c) (hb:0≤s'.c∧s'.c≤255) (hl:T.ss.length≤1000) (hca:ClA (putAt T.ss (splc T.ss s'.c) s')) (hcb:∀ z ∈ putAt T.ss (splc T.ss s'.c) s',0≤z.c∧z.c≤255) :
 ∃ w',(Instr.mapUpdate 107 (.map (some bS)) (.int .i64 s'.c) (snV s')).run Tryz.prog w=.ok () w'∧BK w0 w' B p bL bS { T with ss:=putAt T.ss (splc T.ss s'.c) s' } ps∧w.grownBy w' (some bS):=by
 obtain ⟨w',hrun,hm,hg⟩:=h.ms.update (Maps.int_keyed Tryz.underlying3) Tryz.underlying107 (by unfold maxLen;omega) (key:=.int .i64 s'.c) (val:=snV s') (Maps.keyOf_int_mk Tryz.underlying3 (wf_small hb)) (d:=.held (snV s')) (ps:=[]) rfl
 have hput:(mS T.ss).put (kI s'.c) (.held (snV s'))=mS (putAt T.ss (splc T.ss s'.c) s'):=by
  refine put_miss (E:=eS) (y:=s') (fun x hx e=>hn x hx (by injection e)) (plP_le _) (fun j x hj hx=>zBe _ _ ?_) fun x hx=>?_
  ·show decide (x.c<s'.c)=true
   exact zAt (p:=fun s:Sn=>decide (s.c<s'.c)) T.ss j x hj hx
  ·have h1:=zBd (p:=fun s:Sn=>decide (s.c<s'.c)) T.ss x hx
   have h2:=hn x (List.mem_of_getElem? hx)
   show decide (s'.c<x.c)=true
   simp at h1 ⊢
   omega
 have hput2:(mS T.ss).put (.int .i64 s'.c) (.held (snV s'))=mS (putAt T.ss (splc T.ss s'.c) s'):=hput
 rw [hput2] at hm
 exact ⟨w',hrun,bk_grownS h hm hg hca hcb,hg⟩
end
end Go.Proofs.YticokpbelgpfmaaGreat.Jy0
namespace Go.Proofs.YticokpbelgpfmaaGreat.Jy1
open Go.RowKit By Ap Tb Tw Mw Wa Bk Tp Da Ja Jb Jc
open Lo (LkA uV clL OwnL zAG zAK Apart zAP zAX)
open Jx0 Jx Jy0
open Tx (zAA zAC zAE zAJ zAD)
open Rq Ji Je Jf Jd Jh Jl Jr Jt Ju Jv Jw
section
variable {w0 w:World} {B p bL bS:Nat} {T:Tab} {ps:List LkA}
set_option maxRecDepth 100000 in
set_option maxHeartbeats 3200000 in
theorem ask_same (h:BK w0 w B p bL bS T ps) (hT:TOK T) (now:Int) (h0:0≤now) (h1:now≤1000000000) (hn:T.nx≤999990) (r:Da.Ask) (hrc:0≤r.cl∧r.cl≤255) {k:Nat} {s1 s2 s3 s4 s5:Int} (hk:T.ss[k]?=some ⟨r.cl,s1,s2,s3,s4,s5⟩) (hst:r.st=s1) :
 Calls Tryz.prog 52 #[.pointer (some ⟨p,0,none⟩),.int .i64 now,rqA r] w fun e w'=>e=.returned (anV ⟨s2,s3,s4,s5⟩)∧(∃ qs,BK w0 w' B p bL bS (exT T now) qs)∧Fx p bL bS w w':=by
 have HH:Hid (BK w0 w B p bL bS T ps):=h
 have HPL:Hid (p<w.heap.size∧B≤w.heap.size):=⟨h.plt,h.size⟩
 have HRC:Hid (0≤r.cl∧r.cl≤255):=hrc
 have HB:Hid (Below w.heap.size w ((w.alloc (.cells #[.int .i64 r.cl,.int .i64 r.st,.int .i64 r.kd,.int .i64 r.le,.string r.nm] 42)).alloc (.cells #[.int .i64 0,.int .i64 0,.int .i64 0,.int .i64 0] 38))∧((w.alloc (.cells #[.int .i64 r.cl,.int .i64 r.st,.int .i64 r.kd,.int .i64 r.le,.string r.nm] 42)).alloc (.cells #[.int .i64 0,.int .i64 0,.int .i64 0,.int .i64 0] 38)).heap[w.heap.size]?=some (.cells #[.int .i64 r.cl,.int .i64 r.st,.int .i64 r.kd,.int .i64 r.le,.string r.nm] 42 (0,0))∧((w.alloc (.cells #[.int .i64 r.cl,.int .i64 r.st,.int .i64 r.kd,.int .i64 r.le,.string r.nm] 42)).alloc (.cells #[.int .i64 0,.int .i64 0,.int .i64 0,.int .i64 0] 38)).heap[w.heap.size+1]?=some (.cells #[.int .i64 0,.int .i64 0,.int .i64 0,.int .i64 0] 38 (0,0))):=⟨bel2 _ _ _,(zAP w _ _).1,(zAP w _ _).2⟩
 have HSZ:Hid (((w.alloc (.cells #[.int .i64 r.cl,.int .i64 r.st,.int .i64 r.kd,.int .i64 r.le,.string r.nm] 42)).alloc (.cells #[.int .i64 0,.int .i64 0,.int .i64 0,.int .i64 0] 38)).heap.size=w.heap.size+1+1):=by show _=_;rw [Bk.zAL,Bk.zAL]
 have HKK:Hid (T.ss[k]?=some ⟨r.cl,s1,s2,s3,s4,s5⟩):=hk
 clear hk
 have hb1:(r.st == s1)=true:=by simp [hst]
 clear hst
 clear h hrc
 unfold rqA
 go_enter Tryz.func52,Tryz.ntmps52
 go_upto_region 1 with fail
 obtain ⟨w1,hw1⟩ : ∃ w1,((w.alloc (.cells #[.int .i64 r.cl,.int .i64 r.st,.int .i64 r.kd,.int .i64 r.le,.string r.nm] 42)).alloc (.cells #[.int .i64 0,.int .i64 0,.int .i64 0,.int .i64 0] 38))=w1:=⟨_,rfl⟩
 rw [hw1] at HB HSZ ⊢
 clear hw1
 have HGO:Hid (Calls Tryz.prog 68 #[.pointer (some ⟨p,0,none⟩),.int .i64 now] w1 fun e w'=>e=.returned (.tuple #[])∧(∃ qs,BK w0 w' B p bL bS (exT T now) qs)∧Fx p bL bS w1 w'):=goOn_any (HH.out.up HB.out.1) now hT h0 h1 hn
 go_upto_region 2 with (go_at_call 68;go_must (refine HGO.out.mono ?_;rintro e w2 ⟨rfl,hq,hf⟩;have H2:Hid ((∃ qs,BK w0 w2 B p bL bS (exT T now) qs)∧Fx p bL bS w w2∧w2.heap[w.heap.size]?=some (.cells #[.int .i64 r.cl,.int .i64 r.st,.int .i64 r.kd,.int .i64 r.le,.string r.nm] 42 (0,0))∧w2.heap[w.heap.size+1]?=some (.cells #[.int .i64 0,.int .i64 0,.int .i64 0,.int .i64 0] 38 (0,0))∧w.heap.size+1<w2.heap.size):=⟨hq,(Fx.of_below HB.out.1).trans hf,fx_blk HH.out hf HB.out.2.1 (Nat.le_refl _),fx_blk HH.out hf HB.out.2.2 (by omega),by have:=hf.size;have:=HSZ.out;omega⟩;clear hq hf))
 obtain ⟨qs,hqs⟩:=H2.out.1
 have HQ:Hid (BK w0 w2 B p bL bS (exT T now) qs):=hqs
 clear hqs
 have HLO:Hid (∀ W,Below w2.heap.size w2 W→(Instr.lookup 107 (.map (some bS)) (.int .i64 r.cl) true).run Tryz.prog W=.ok (.tuple #[.agg #[.int .i64 r.cl,.int .i64 s1,.int .i64 s2,.int .i64 s3,.int .i64 s4,.int .i64 s5],.bool true]) W):=fun W hW=>lookS_ok (zAR HQ.out.ms (hW.block bS HQ.out.slt)) HQ.out.cl (List.mem_of_getElem? HKK.out) HRC.out
 have HCL:Hid (∀ W,Below w2.heap.size w2 W→W.cell? ⟨p,3,none⟩=some (.map (some bS))∧W.cell? ⟨w.heap.size,0,none⟩=some (.int .i64 r.cl)):=fun W hW=>⟨(zAA (HQ.out.up hW).hp 3 rfl).1,(zAA ((hW.block _ (Array.getElem?_eq_some_iff.1 H2.out.2.2.1).1).trans H2.out.2.2.1) 0 rfl).1⟩
 obtain ⟨p3,q0⟩:=HCL.out w2 (Below.refl _ _)
 have hlk1:=HLO.out w2 (Below.refl _ _)
 have hlk2:=HLO.out w2.drew (Below.refl _ _).drew
 have hlk3:=HLO.out (w2.alloc (.cells #[.int .i64 0,.int .i64 0,.int .i64 0,.int .i64 0,.int .i64 0,.int .i64 0] 116)).drew ((Below.refl _ _).alloc (Nat.le_refl _) _).drew
 go_region_held_law (fun W=>W.cell? ⟨p,3,none⟩=some (.map (some bS))∧W.cell? ⟨w.heap.size,0,none⟩=some (.int .i64 r.cl)) (first | with_reducible exact ⟨p3,q0⟩ | with_reducible exact HCL.out _ (Below.refl _ _).drew | with_reducible exact HCL.out _ ((Below.refl _ _).alloc (Nat.le_refl _) _).drew) (fail)
 all_goals
  have HE:Hid ((w2.alloc (.cells #[.int .i64 r.cl,.int .i64 s1,.int .i64 s2,.int .i64 s3,.int .i64 s4,.int .i64 s5] 116)).drew.heap[w.heap.size]?=some (.cells #[.int .i64 r.cl,.int .i64 r.st,.int .i64 r.kd,.int .i64 r.le,.string r.nm] 42 (0,0))∧(w2.alloc (.cells #[.int .i64 r.cl,.int .i64 s1,.int .i64 s2,.int .i64 s3,.int .i64 s4,.int .i64 s5] 116)).drew.heap[w.heap.size+1]?=some (.cells #[.int .i64 0,.int .i64 0,.int .i64 0,.int .i64 0] 38 (0,0))∧(w2.alloc (.cells #[.int .i64 r.cl,.int .i64 s1,.int .i64 s2,.int .i64 s3,.int .i64 s4,.int .i64 s5] 116)).drew.heap[w2.heap.size]?=some (.cells #[.int .i64 r.cl,.int .i64 s1,.int .i64 s2,.int .i64 s3,.int .i64 s4,.int .i64 s5] 116 (0,0))∧BK w0 (w2.alloc (.cells #[.int .i64 r.cl,.int .i64 s1,.int .i64 s2,.int .i64 s3,.int .i64 s4,.int .i64 s5] 116)).drew B p bL bS (exT T now) qs∧Fx p bL bS w (w2.alloc (.cells #[.int .i64 r.cl,.int .i64 s1,.int .i64 s2,.int .i64 s3,.int .i64 s4,.int .i64 s5] 116)).drew):=by
   have hb:=((Below.refl _ w2).alloc (Nat.le_refl _) (.cells #[.int .i64 r.cl,.int .i64 s1,.int .i64 s2,.int .i64 s3,.int .i64 s4,.int .i64 s5] 116)).drew
   exact ⟨(hb.block _ (Array.getElem?_eq_some_iff.1 H2.out.2.2.1).1).trans H2.out.2.2.1,(hb.block _ (Array.getElem?_eq_some_iff.1 H2.out.2.2.2.1).1).trans H2.out.2.2.2.1,zAJ w2 #[.int .i64 r.cl,.int .i64 s1,.int .i64 s2,.int .i64 s3,.int .i64 s4,.int .i64 s5] 116,HQ.out.up hb,H2.out.2.1.trans (Fx.of_below hb)⟩
  obtain ⟨sb,hsb⟩ : ∃ sb,w2.heap.size=sb:=⟨_,rfl⟩
  generalize hwd:(w2.alloc (.cells #[.int .i64 r.cl,.int .i64 s1,.int .i64 s2,.int .i64 s3,.int .i64 s4,.int .i64 s5] 116)).drew=w3 at HE ⊢
  rw [hsb] at HE ⊢
  have HSB:Hid (w.heap.size+1<sb∧w.heap.size+1<w3.heap.size):=⟨by have:=H2.out.2.2.2.2;omega,(Array.getElem?_eq_some_iff.1 HE.out.2.1).1⟩
  clear hwd hsb p3 q0 hlk1 hlk2 hlk3 HLO HCL HGO
  obtain ⟨x0,y0⟩:=zAA HE.out.2.2.1 0 rfl
  obtain ⟨x1,y1⟩:=zAA HE.out.2.2.1 1 rfl
  obtain ⟨x2,y2⟩:=zAA HE.out.2.2.1 2 rfl
  obtain ⟨x3,y3⟩:=zAA HE.out.2.2.1 3 rfl
  obtain ⟨x4,y4⟩:=zAA HE.out.2.2.1 4 rfl
  obtain ⟨x5,y5⟩:=zAA HE.out.2.2.1 5 rfl
  have q0:=(zAA HE.out.1 0 rfl).1
  have q1:=(zAA HE.out.1 1 rfl).1
  have q2:=(zAA HE.out.1 2 rfl).1
  have q3:=(zAA HE.out.1 3 rfl).1
  have q4:=(zAA HE.out.1 4 rfl).1
  obtain ⟨a0,b0⟩:=zAA HE.out.2.1 0 rfl
  obtain ⟨a1,b1⟩:=zAA HE.out.2.1 1 rfl
  obtain ⟨a2,b2⟩:=zAA HE.out.2.1 2 rfl
  obtain ⟨a3,b3⟩:=zAA HE.out.2.1 3 rfl
  have p3:=(zAA HE.out.2.2.2.1.hp 3 (x:=.map (some bS)) rfl).1
  go_wp2_with fail
  have HG:Hid (((((w3.setCell ⟨w.heap.size+1,0,none⟩ (.int .i64 s2)).setCell ⟨w.heap.size+1,1,none⟩ (.int .i64 s3)).setCell ⟨w.heap.size+1,2,none⟩ (.int .i64 s4)).setCell ⟨w.heap.size+1,3,none⟩ (.int .i64 s5)).heap[w.heap.size+1]?=some (.cells #[.int .i64 s2,.int .i64 s3,.int .i64 s4,.int .i64 s5] 38 (0,0))∧(∃ qs,BK w0 ((((w3.setCell ⟨w.heap.size+1,0,none⟩ (.int .i64 s2)).setCell ⟨w.heap.size+1,1,none⟩ (.int .i64 s3)).setCell ⟨w.heap.size+1,2,none⟩ (.int .i64 s4)).setCell ⟨w.heap.size+1,3,none⟩ (.int .i64 s5)) B p bL bS (exT T now) qs)∧Fx p bL bS w ((((w3.setCell ⟨w.heap.size+1,0,none⟩ (.int .i64 s2)).setCell ⟨w.heap.size+1,1,none⟩ (.int .i64 s3)).setCell ⟨w.heap.size+1,2,none⟩ (.int .i64 s4)).setCell ⟨w.heap.size+1,3,none⟩ (.int .i64 s5))):=zAz HE.out.2.1 ⟨_,HE.out.2.2.2.1⟩ HE.out.2.2.2.2 (by have:=HPL.out;omega) _ _ _ _
  generalize ((((w3.setCell ⟨w.heap.size+1,0,none⟩ (.int .i64 s2)).setCell ⟨w.heap.size+1,1,none⟩ (.int .i64 s3)).setCell ⟨w.heap.size+1,2,none⟩ (.int .i64 s4)).setCell ⟨w.heap.size+1,3,none⟩ (.int .i64 s5))=wf at HG ⊢
  have d0:=(zAA HG.out.1 0 (x:=.int .i64 s2) rfl).1
  have d1:=(zAA HG.out.1 1 (x:=.int .i64 s3) rfl).1
  have d2:=(zAA HG.out.1 2 (x:=.int .i64 s4) rfl).1
  have d3:=(zAA HG.out.1 3 (x:=.int .i64 s5) rfl).1
  exact bodyPost_ret (v:=.agg #[.int .i64 s2,.int .i64 s3,.int .i64 s4,.int .i64 s5]) (by simp [results,Tryz.results52,go_sem,d0,d1,d2,d3]) rfl ⟨rfl,HG.out.2⟩
end
end Go.Proofs.YticokpbelgpfmaaGreat.Jy1
