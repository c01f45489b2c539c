/- Texts put together: Jv, Jw, Jx0. -/
import Derived.Test.YticokpbelgpfmaaGreatMa18
namespace Go.Proofs.YticokpbelgpfmaaGreat.Jv
open Go.RowKit By Ap Tb Tw Mw Wa Bk Tp Da Ja Jb Jc
open Lo (LkA uV clL OwnL zAG zAK Apart zAP zAX)
open Tx (zAA zAC zAE zAJ zAD)
open Je Jd Jr Js Jt Ju
open Ea (wIx)
section
variable {w0 w:World} {B p bL bS:Nat} {T:Tab} {ps:List LkA}
set_option maxRecDepth 100000 in
set_option maxHeartbeats 3200000 in
theorem release_any (h:BK w0 w B p bL bS T ps) (x:Lk) (ua:Option Addr) (uc:Nat) (hw:OwnO w B (.slice ua x.ws.length uc) x.ws) (r:Da.Ask) (hkd:r.kd=2) (hlw:∀ z ∈ x.ws,0≤z.l∧z.l≤1000) (ht0:0≤T.tm) (ht1:T.tm≤1000000000) (hn0:1≤T.nx) (hn1:T.nx≤999999) (hcap:x.ws.length≤4) :
 Calls Tryz.prog 122 #[.pointer (some ⟨p,0,none⟩),lkV x (.slice ua x.ws.length uc),rqA r] w fun e w'=>∃ ua' uc',e=.returned (.tuple #[lkV (acL T.tm T.nx r x) (.slice ua' (acL T.tm T.nx r x).ws.length uc'),.int .i64 (acK r x)])∧AcP w w' B p bL bS T.tm (acN T.nx r x) (.slice ua x.ws.length uc) (.slice ua' (acL T.tm T.nx r x).ws.length uc') (acL T.tm T.nx r x).ws:=by
 obtain ⟨xn,xt,xh,xe,ws⟩:=x
 dsimp only at hw hcap  hlw ⊢
 have HH:Hid (BK w0 w B p bL bS T ps):=h
 have HO:Hid (OwnO w B (.slice ua ws.length uc) ws):=hw
 have HPL:Hid (p<w.heap.size∧B≤w.heap.size):=⟨h.plt,h.size⟩
 have HB:Hid (Below w.heap.size w (((w.alloc (.cells #[.string xn,.int .i64 xt,.int .i64 xh,.int .i64 xe,.slice ua ws.length uc] 45)).alloc (.cells #[.int .i64 r.cl,.int .i64 r.st,.int .i64 r.kd,.int .i64 r.le,.string r.nm] 42)).alloc (.cells #[.string ⟨#[]⟩,.int .i64 0,.int .i64 0,.int .i64 0,.slice none 0 0] 45))∧(((w.alloc (.cells #[.string xn,.int .i64 xt,.int .i64 xh,.int .i64 xe,.slice ua ws.length uc] 45)).alloc (.cells #[.int .i64 r.cl,.int .i64 r.st,.int .i64 r.kd,.int .i64 r.le,.string r.nm] 42)).alloc (.cells #[.string ⟨#[]⟩,.int .i64 0,.int .i64 0,.int .i64 0,.slice none 0 0] 45)).heap[w.heap.size]?=some (.cells #[.string xn,.int .i64 xt,.int .i64 xh,.int .i64 xe,.slice ua ws.length uc] 45 (0,0))∧(((w.alloc (.cells #[.string xn,.int .i64 xt,.int .i64 xh,.int .i64 xe,.slice ua ws.length uc] 45)).alloc (.cells #[.int .i64 r.cl,.int .i64 r.st,.int .i64 r.kd,.int .i64 r.le,.string r.nm] 42)).alloc (.cells #[.string ⟨#[]⟩,.int .i64 0,.int .i64 0,.int .i64 0,.slice none 0 0] 45)).heap[w.heap.size+1]?=some (.cells #[.int .i64 r.cl,.int .i64 r.st,.int .i64 r.kd,.int .i64 r.le,.string r.nm] 42 (0,0))∧(((w.alloc (.cells #[.string xn,.int .i64 xt,.int .i64 xh,.int .i64 xe,.slice ua ws.length uc] 45)).alloc (.cells #[.int .i64 r.cl,.int .i64 r.st,.int .i64 r.kd,.int .i64 r.le,.string r.nm] 42)).alloc (.cells #[.string ⟨#[]⟩,.int .i64 0,.int .i64 0,.int .i64 0,.slice none 0 0] 45)).heap[w.heap.size+1+1]?=some (.cells #[.string ⟨#[]⟩,.int .i64 0,.int .i64 0,.int .i64 0,.slice none 0 0] 45 (0,0))):=⟨bel3 _ _ _ _,(zAX w _ _ _).1,(zAX w _ _ _).2.1,(zAX w _ _ _).2.2⟩
 have HAC:Hid (∀ W,Below w.heap.size w W→AcP w W B p bL bS T.tm T.nx (.slice ua ws.length uc) (.slice ua ws.length uc) ws):=fun W hW=>⟨(HH.out.up hW).hp,hW.os,hW.tape,hW.output,hW.size,fun b hb _ _=>hW.block b hb,HO.out.below hW,.inl rfl⟩
 have HKI:Hid (r.kd=2):=hkd
 clear h hw hkd
 unfold lkV rqA
 go_enter Tryz.func122,Tryz.ntmps122
 go_upto_region 1 with fail
 obtain ⟨w1,hw1⟩ : ∃ w1,(((w.alloc (.cells #[.string xn,.int .i64 xt,.int .i64 xh,.int .i64 xe,.slice ua ws.length uc] 45)).alloc (.cells #[.int .i64 r.cl,.int .i64 r.st,.int .i64 r.kd,.int .i64 r.le,.string r.nm] 42)).alloc (.cells #[.string ⟨#[]⟩,.int .i64 0,.int .i64 0,.int .i64 0,.slice none 0 0] 45))=w1:=⟨_,rfl⟩
 rw [hw1] at HB ⊢
 clear hw1
 obtain ⟨l0,m0⟩:=zAA HB.out.2.1 0 (x:=.string xn) rfl
 obtain ⟨l1,m1⟩:=zAA HB.out.2.1 1 (x:=.int .i64 xt) rfl
 obtain ⟨l2,m2⟩:=zAA HB.out.2.1 2 (x:=.int .i64 xh) rfl
 obtain ⟨l3,m3⟩:=zAA HB.out.2.1 3 (x:=.int .i64 xe) rfl
 obtain ⟨l4,m4⟩:=zAA HB.out.2.1 4 (x:=.slice ua ws.length uc) rfl
 have q0:=(zAA HB.out.2.2.1 0 (x:=.int .i64 r.cl) rfl).1
 have q1:=(zAA HB.out.2.2.1 1 (x:=.int .i64 r.st) rfl).1
 have q2:=(zAA HB.out.2.2.1 2 (x:=.int .i64 r.kd) rfl).1
 have q3:=(zAA HB.out.2.2.1 3 (x:=.int .i64 r.le) rfl).1
 have q4:=(zAA HB.out.2.2.1 4 (x:=.string r.nm) rfl).1
 obtain ⟨r0,s0⟩:=zAA HB.out.2.2.2 0 (x:=.string ⟨#[]⟩) rfl
 obtain ⟨r1,s1⟩:=zAA HB.out.2.2.2 1 (x:=.int .i64 0) rfl
 obtain ⟨r2,s2⟩:=zAA HB.out.2.2.2 2 (x:=.int .i64 0) rfl
 obtain ⟨r3,s3⟩:=zAA HB.out.2.2.2 3 (x:=.int .i64 0) rfl
 obtain ⟨r4,s4⟩:=zAA HB.out.2.2.2 4 (x:=.slice none 0 0) rfl
 have HX:Hid (∀ W,Below w1.heap.size w1 W→(W.heap[w.heap.size]?=some (.cells #[.string xn,.int .i64 xt,.int .i64 xh,.int .i64 xe,.slice ua ws.length uc] 45 (0,0))∧W.heap[w.heap.size+1]?=some (.cells #[.int .i64 r.cl,.int .i64 r.st,.int .i64 r.kd,.int .i64 r.le,.string r.nm] 42 (0,0))∧W.heap[w.heap.size+1+1]?=some (.cells #[.string ⟨#[]⟩,.int .i64 0,.int .i64 0,.int .i64 0,.slice none 0 0] 45 (0,0)))∧Below w.heap.size w W):=fun W hW=>⟨⟨(hW.block _ (Array.getElem?_eq_some_iff.1 HB.out.2.1).1).trans HB.out.2.1,(hW.block _ (Array.getElem?_eq_some_iff.1 HB.out.2.2.1).1).trans HB.out.2.2.1,(hW.block _ (Array.getElem?_eq_some_iff.1 HB.out.2.2.2).1).trans HB.out.2.2.2⟩,HB.out.1.trans (hW.mono HB.out.1.size)⟩
 have HWA:Hid (Calls Tryz.prog 147 #[.slice ua ws.length uc,.int .i64 r.cl] w1 fun e w'=>e=.returned (.int .i64 (wIx ws r.cl))∧Below w1.heap.size w1 w'):=waits_ix _ ws r.cl w1 (HO.out.below HB.out.1).row (by omega)
 by_cases c2:wtB ws r.cl=true
 ·obtain ⟨ix,hwx,HIX⟩ : ∃ ix:Nat,wIx ws r.cl=(ix:Int)∧Hid (ix=ws.findIdx fun w=>w.c == r.cl):=⟨_,wix_true c2,rfl⟩
  have hix:(0:Int)≤(ix:Int):=by omega
  have hil:ix<ws.length:=by
   rw [HIX.out]
   unfold wtB at c2
   rw [List.any_eq_true] at c2
   exact List.findIdx_lt_length_of_exists c2
  have HST:Hid (acL T.tm T.nx r ⟨xn,xt,xh,xe,ws⟩=⟨xn,xt,xh,xe,ws.eraseIdx ix⟩∧acN T.nx r ⟨xn,xt,xh,xe,ws⟩=T.nx∧acK r ⟨xn,xt,xh,xe,ws⟩=1):=by rw [HIX.out];refine ⟨?_,?_,?_⟩ <;> simp [acL,acN,acK,HKI.out,c2]
  have hia:IntKind.i64.wrap ((ix:Int)+1)=(ix:Int)+1:=by rw [IntKind.wrap_i64];omega
  clear c2
  go_upto_region 3 with (go_at_call 147;go_must (refine HWA.out.mono ?_;rintro e w2 ⟨rfl,b2⟩;have H2:Hid ((w2.heap[w.heap.size]?=some (.cells #[.string xn,.int .i64 xt,.int .i64 xh,.int .i64 xe,.slice ua ws.length uc] 45 (0,0))∧w2.heap[w.heap.size+1]?=some (.cells #[.int .i64 r.cl,.int .i64 r.st,.int .i64 r.kd,.int .i64 r.le,.string r.nm] 42 (0,0))∧w2.heap[w.heap.size+1+1]?=some (.cells #[.string ⟨#[]⟩,.int .i64 0,.int .i64 0,.int .i64 0,.slice none 0 0] 45 (0,0)))∧Below w.heap.size w w2):=HX.out w2 b2;clear b2 l0 m0 l1 m1 l2 m2 l3 m3 l4 m4 r0 s0 r1 s1 r2 s2 r3 s3 r4 s4 q0 q1 q2 q3 q4;obtain ⟨l0,m0⟩:=zAA H2.out.1.1 0 (x:=.string xn) rfl;obtain ⟨l1,m1⟩:=zAA H2.out.1.1 1 (x:=.int .i64 xt) rfl;obtain ⟨l2,m2⟩:=zAA H2.out.1.1 2 (x:=.int .i64 xh) rfl;obtain ⟨l3,m3⟩:=zAA H2.out.1.1 3 (x:=.int .i64 xe) rfl;obtain ⟨l4,m4⟩:=zAA H2.out.1.1 4 (x:=.slice ua ws.length uc) rfl;have q0:=(zAA H2.out.1.2.1 0 (x:=.int .i64 r.cl) rfl).1;have q1:=(zAA H2.out.1.2.1 1 (x:=.int .i64 r.st) rfl).1;have q2:=(zAA H2.out.1.2.1 2 (x:=.int .i64 r.kd) rfl).1;have q3:=(zAA H2.out.1.2.1 3 (x:=.int .i64 r.le) rfl).1;have q4:=(zAA H2.out.1.2.1 4 (x:=.string r.nm) rfl).1;obtain ⟨r0,s0⟩:=zAA H2.out.1.2.2 0 (x:=.string ⟨#[]⟩) rfl;obtain ⟨r1,s1⟩:=zAA H2.out.1.2.2 1 (x:=.int .i64 0) rfl;obtain ⟨r2,s2⟩:=zAA H2.out.1.2.2 2 (x:=.int .i64 0) rfl;obtain ⟨r3,s3⟩:=zAA H2.out.1.2.2 3 (x:=.int .i64 0) rfl;obtain ⟨r4,s4⟩:=zAA H2.out.1.2.2 4 (x:=.slice none 0 0) rfl;rw [hwx]))
  have HDE:Calls Tryz.prog 148 #[.slice ua ws.length uc,.int .i64 (ix:Int),.int .i64 ((ix:Int)+1)] w2 fun e w'=>e=.returned (.slice ua (ws.eraseIdx ix).length uc)∧OwnO w' B (.slice ua (ws.eraseIdx ix).length uc) (ws.eraseIdx ix)∧w2.grownBy w' (Value.ownBlock (.slice ua ws.length uc)):=delete_any B ua uc ws w2 (HO.out.below H2.out.2) ix hil (by omega)
  go_upto_region 4 with (go_at_call 148;go_must (refine HDE.mono ?_;rintro e w4 ⟨rfl,o4,g4⟩;have H4:Hid (OwnO w4 B (.slice ua (ws.eraseIdx ix).length uc) (ws.eraseIdx ix)∧w2.grownBy w4 (Value.ownBlock (.slice ua ws.length uc))):=⟨o4,g4⟩;clear o4 g4;obtain ⟨l4,m4⟩:=zAA (zBZ H2.out.1.1 (Below.refl _ _) H4.out.2 HO.out H2.out.2) 4 (x:=.slice ua ws.length uc) rfl))
  have H5:Hid ((w4.setCell ⟨w.heap.size,4,none⟩ (.slice ua (ws.eraseIdx ix).length uc)).heap[w.heap.size]?=some (.cells #[.string xn,.int .i64 xt,.int .i64 xh,.int .i64 xe,.slice ua (ws.eraseIdx ix).length uc] 45 (0,0))∧(w4.setCell ⟨w.heap.size,4,none⟩ (.slice ua (ws.eraseIdx ix).length uc)).heap[w.heap.size+1+1]?=some (.cells #[.string ⟨#[]⟩,.int .i64 0,.int .i64 0,.int .i64 0,.slice none 0 0] 45 (0,0))∧AcP w (w4.setCell ⟨w.heap.size,4,none⟩ (.slice ua (ws.eraseIdx ix).length uc)) B p bL bS T.tm T.nx (.slice ua ws.length uc) (.slice ua (ws.eraseIdx ix).length uc) (ws.eraseIdx ix)):=by
   have k1:=zBZ H2.out.1.1 (Below.refl _ _) H4.out.2 HO.out H2.out.2
   have k2:=zBZ H2.out.1.2.2 (Below.refl _ _) H4.out.2 HO.out H2.out.2
   have hnb:Nb w2 (.slice ua ws.length uc) (.slice ua (ws.eraseIdx ix).length uc):=.inl (by cases ua <;> rfl)
   exact ⟨zAC k1 4 _,(zAE (by omega) 4 _).trans k2,acp_set (acp_app HH.out HO.out H2.out.2 (Below.refl _ _) H4.out.1 H4.out.2 hnb) k1 4 _ (by have:=HPL.out;omega)⟩
  clear l0 m0 l1 m1 l2 m2 l3 m3 l4 m4 r0 s0 r1 s1 r2 s2 r3 s3 r4 s4 H4
  generalize (w4.setCell ⟨w.heap.size,4,none⟩ (.slice ua (ws.eraseIdx ix).length uc))=w5 at H5 ⊢
  have l0:=(zAA H5.out.1 0 (x:=.string xn) rfl).1
  have l1:=(zAA H5.out.1 1 (x:=.int .i64 xt) rfl).1
  have l2:=(zAA H5.out.1 2 (x:=.int .i64 xh) rfl).1
  have l3:=(zAA H5.out.1 3 (x:=.int .i64 xe) rfl).1
  have l4:=(zAA H5.out.1 4 (x:=.slice ua (ws.eraseIdx ix).length uc) rfl).1
  obtain ⟨r0,s0⟩:=zAA H5.out.2.1 0 (x:=.string ⟨#[]⟩) rfl
  obtain ⟨r1,s1⟩:=zAA H5.out.2.1 1 (x:=.int .i64 0) rfl
  obtain ⟨r2,s2⟩:=zAA H5.out.2.1 2 (x:=.int .i64 0) rfl
  obtain ⟨r3,s3⟩:=zAA H5.out.2.1 3 (x:=.int .i64 0) rfl
  obtain ⟨r4,s4⟩:=zAA H5.out.2.1 4 (x:=.slice none 0 0) rfl
  have HF:Hid ((((((w5.setCell ⟨w.heap.size+1+1,0,none⟩ (.string xn)).setCell ⟨w.heap.size+1+1,1,none⟩ (.int .i64 xt)).setCell ⟨w.heap.size+1+1,2,none⟩ (.int .i64 xh)).setCell ⟨w.heap.size+1+1,3,none⟩ (.int .i64 xe)).setCell ⟨w.heap.size+1+1,4,none⟩ (.slice ua (ws.eraseIdx ix).length uc)).heap[w.heap.size+1+1]?=some (.cells #[.string xn,.int .i64 xt,.int .i64 xh,.int .i64 xe,.slice ua (ws.eraseIdx ix).length uc] 45 (0,0))∧AcP w (((((w5.setCell ⟨w.heap.size+1+1,0,none⟩ (.string xn)).setCell ⟨w.heap.size+1+1,1,none⟩ (.int .i64 xt)).setCell ⟨w.heap.size+1+1,2,none⟩ (.int .i64 xh)).setCell ⟨w.heap.size+1+1,3,none⟩ (.int .i64 xe)).setCell ⟨w.heap.size+1+1,4,none⟩ (.slice ua (ws.eraseIdx ix).length uc)) B p bL bS T.tm T.nx (.slice ua ws.length uc) (.slice ua (ws.eraseIdx ix).length uc) (ws.eraseIdx ix)):=by
   obtain ⟨hr,ha⟩:=H5.out.2
   have hpl:=HPL.out.1
   refine ⟨set5 hr _ _ _ _ _,⟨(far5 (by omega) _ _ _ _ _).trans ha.hp,ha.os,ha.tape,ha.output,by simpa using ha.size,fun b hb hn hv=>(far5 (by omega) _ _ _ _ _).trans (ha.bz b hb hn hv),ha.ow.kept fun g hg=>far5 (fun e=>?_) _ _ _ _ _,ha.nb⟩⟩
   rw [e] at hg
   exact ha.ow.kind hr (fun cs=>by intro e;cases e) hg
  go_wp2_with fail
  generalize (((((w5.setCell ⟨w.heap.size+1+1,0,none⟩ (.string xn)).setCell ⟨w.heap.size+1+1,1,none⟩ (.int .i64 xt)).setCell ⟨w.heap.size+1+1,2,none⟩ (.int .i64 xh)).setCell ⟨w.heap.size+1+1,3,none⟩ (.int .i64 xe)).setCell ⟨w.heap.size+1+1,4,none⟩ (.slice ua (ws.eraseIdx ix).length uc))=wf at HF ⊢
  have d0:=(zAA HF.out.1 0 (x:=.string xn) rfl).1
  have d1:=(zAA HF.out.1 1 (x:=.int .i64 xt) rfl).1
  have d2:=(zAA HF.out.1 2 (x:=.int .i64 xh) rfl).1
  have d3:=(zAA HF.out.1 3 (x:=.int .i64 xe) rfl).1
  have d4:=(zAA HF.out.1 4 (x:=.slice ua (ws.eraseIdx ix).length uc) rfl).1
  exact bodyPost_ret (v:=.tuple #[.agg #[.string xn,.int .i64 xt,.int .i64 xh,.int .i64 xe,.slice ua (ws.eraseIdx ix).length uc],.int .i64 1]) (by simp [results,Tryz.results122,go_sem,d0,d1,d2,d3,d4]) rfl ⟨_,_,(by rw [HST.out.1,HST.out.2.2];try rfl),by rw [HST.out.1,HST.out.2.1];exact HF.out.2⟩
 ·have hwx:wIx ws r.cl = -1:=wix_false c2
  by_cases c1:xh=r.cl
  ·have hb1:(xh != r.cl)=false:=by simp [c1]
   have HST:Hid (acL T.tm T.nx r ⟨xn,xt,xh,xe,ws⟩=(frL T.tm T.nx ⟨xn,xt,xh,xe,ws⟩)∧acN T.nx r ⟨xn,xt,xh,xe,ws⟩=frN T.nx ⟨xn,xt,xh,xe,ws⟩∧acK r ⟨xn,xt,xh,xe,ws⟩=1):=by refine ⟨?_,?_,?_⟩ <;> simp [acL,acN,acK,HKI.out,c1,c2]
   clear c1 c2
   go_upto_region 7 with (go_at_call 147;go_must (refine HWA.out.mono ?_;rintro e w2 ⟨rfl,b2⟩;have H2:Hid ((w2.heap[w.heap.size]?=some (.cells #[.string xn,.int .i64 xt,.int .i64 xh,.int .i64 xe,.slice ua ws.length uc] 45 (0,0))∧w2.heap[w.heap.size+1]?=some (.cells #[.int .i64 r.cl,.int .i64 r.st,.int .i64 r.kd,.int .i64 r.le,.string r.nm] 42 (0,0))∧w2.heap[w.heap.size+1+1]?=some (.cells #[.string ⟨#[]⟩,.int .i64 0,.int .i64 0,.int .i64 0,.slice none 0 0] 45 (0,0)))∧Below w.heap.size w w2):=HX.out w2 b2;clear b2 l0 m0 l1 m1 l2 m2 l3 m3 l4 m4 r0 s0 r1 s1 r2 s2 r3 s3 r4 s4 q0 q1 q2 q3 q4;obtain ⟨l0,m0⟩:=zAA H2.out.1.1 0 (x:=.string xn) rfl;obtain ⟨l1,m1⟩:=zAA H2.out.1.1 1 (x:=.int .i64 xt) rfl;obtain ⟨l2,m2⟩:=zAA H2.out.1.1 2 (x:=.int .i64 xh) rfl;obtain ⟨l3,m3⟩:=zAA H2.out.1.1 3 (x:=.int .i64 xe) rfl;obtain ⟨l4,m4⟩:=zAA H2.out.1.1 4 (x:=.slice ua ws.length uc) rfl;have q0:=(zAA H2.out.1.2.1 0 (x:=.int .i64 r.cl) rfl).1;have q1:=(zAA H2.out.1.2.1 1 (x:=.int .i64 r.st) rfl).1;have q2:=(zAA H2.out.1.2.1 2 (x:=.int .i64 r.kd) rfl).1;have q3:=(zAA H2.out.1.2.1 3 (x:=.int .i64 r.le) rfl).1;have q4:=(zAA H2.out.1.2.1 4 (x:=.string r.nm) rfl).1;obtain ⟨r0,s0⟩:=zAA H2.out.1.2.2 0 (x:=.string ⟨#[]⟩) rfl;obtain ⟨r1,s1⟩:=zAA H2.out.1.2.2 1 (x:=.int .i64 0) rfl;obtain ⟨r2,s2⟩:=zAA H2.out.1.2.2 2 (x:=.int .i64 0) rfl;obtain ⟨r3,s3⟩:=zAA H2.out.1.2.2 3 (x:=.int .i64 0) rfl;obtain ⟨r4,s4⟩:=zAA H2.out.1.2.2 4 (x:=.slice none 0 0) rfl;rw [hwx]))
   have HFR:Calls Tryz.prog 105 #[.pointer (some ⟨p,0,none⟩),.agg #[.string xn,.int .i64 xt,.int .i64 xh,.int .i64 xe,.slice ua ws.length uc]] w2 fun e w'=>∃ ua' uc' fn ft fh fe,e=.returned (.agg #[.string fn,.int .i64 ft,.int .i64 fh,.int .i64 fe,.slice ua' (frL T.tm T.nx ⟨xn,xt,xh,xe,ws⟩).ws.length uc'])∧Hid ((fn=(frL T.tm T.nx ⟨xn,xt,xh,xe,ws⟩).n∧ft=(frL T.tm T.nx ⟨xn,xt,xh,xe,ws⟩).t∧fh=(frL T.tm T.nx ⟨xn,xt,xh,xe,ws⟩).h∧fe=(frL T.tm T.nx ⟨xn,xt,xh,xe,ws⟩).e)∧AcP w w' B p bL bS T.tm (frN T.nx ⟨xn,xt,xh,xe,ws⟩) (.slice ua ws.length uc) (.slice ua' (frL T.tm T.nx ⟨xn,xt,xh,xe,ws⟩).ws.length uc') (frL T.tm T.nx ⟨xn,xt,xh,xe,ws⟩).ws∧w'.heap[w.heap.size+1+1]?=some (.cells #[.string ⟨#[]⟩,.int .i64 0,.int .i64 0,.int .i64 0,.slice none 0 0] 45 (0,0))):=by
    refine (free_any (HH.out.up H2.out.2) ⟨xn,xt,xh,xe,ws⟩ ua uc (HO.out.below H2.out.2) hlw ht0 ht1 hn0 hn1 (by show ws.length≤1000;omega)).mono ?_
    rintro e w' ⟨ua',uc',rfl,ho,hbk,hb,hx⟩
    have ha:=acp_bx HH.out HO.out H2.out.2 hb hx
    exact ⟨ua',uc',_,_,_,_,rfl,⟨rfl,rfl,rfl,rfl⟩,⟨ha.hp,ha.os,ha.tape,ha.output,ha.size,ha.bz,ho,.inl hbk⟩,(hx.block _ (Array.getElem?_eq_some_iff.1 H2.out.1.2.2).1 (by have:=HPL.out;omega)).trans H2.out.1.2.2⟩
   go_wp2_with (go_at_call 105;go_must (refine HFR.mono ?_;rintro e w3 ⟨a3,c3,fn,ft,fh,fe,rfl,HF3⟩;have H3:Hid (w3.heap[w.heap.size+1+1]?=some (.cells #[.string ⟨#[]⟩,.int .i64 0,.int .i64 0,.int .i64 0,.slice none 0 0] 45 (0,0))∧AcP w w3 B p bL bS T.tm (frN T.nx ⟨xn,xt,xh,xe,ws⟩) (.slice ua ws.length uc) (.slice a3 (frL T.tm T.nx ⟨xn,xt,xh,xe,ws⟩).ws.length c3) (frL T.tm T.nx ⟨xn,xt,xh,xe,ws⟩).ws):=⟨HF3.out.2.2,HF3.out.2.1⟩;clear r0 s0 r1 s1 r2 s2 r3 s3 r4 s4;obtain ⟨r0,s0⟩:=zAA H3.out.1 0 (x:=.string ⟨#[]⟩) rfl;obtain ⟨r1,s1⟩:=zAA H3.out.1 1 (x:=.int .i64 0) rfl;obtain ⟨r2,s2⟩:=zAA H3.out.1 2 (x:=.int .i64 0) rfl;obtain ⟨r3,s3⟩:=zAA H3.out.1 3 (x:=.int .i64 0) rfl;obtain ⟨r4,s4⟩:=zAA H3.out.1 4 (x:=.slice none 0 0) rfl))
   have HF:Hid ((((((w3.setCell ⟨w.heap.size+1+1,0,none⟩ (.string fn)).setCell ⟨w.heap.size+1+1,1,none⟩ (.int .i64 ft)).setCell ⟨w.heap.size+1+1,2,none⟩ (.int .i64 fh)).setCell ⟨w.heap.size+1+1,3,none⟩ (.int .i64 fe)).setCell ⟨w.heap.size+1+1,4,none⟩ (.slice a3 (frL T.tm T.nx ⟨xn,xt,xh,xe,ws⟩).ws.length c3)).heap[w.heap.size+1+1]?=some (.cells #[.string fn,.int .i64 ft,.int .i64 fh,.int .i64 fe,.slice a3 (frL T.tm T.nx ⟨xn,xt,xh,xe,ws⟩).ws.length c3] 45 (0,0))∧AcP w (((((w3.setCell ⟨w.heap.size+1+1,0,none⟩ (.string fn)).setCell ⟨w.heap.size+1+1,1,none⟩ (.int .i64 ft)).setCell ⟨w.heap.size+1+1,2,none⟩ (.int .i64 fh)).setCell ⟨w.heap.size+1+1,3,none⟩ (.int .i64 fe)).setCell ⟨w.heap.size+1+1,4,none⟩ (.slice a3 (frL T.tm T.nx ⟨xn,xt,xh,xe,ws⟩).ws.length c3)) B p bL bS T.tm (frN T.nx ⟨xn,xt,xh,xe,ws⟩) (.slice ua ws.length uc) (.slice a3 (frL T.tm T.nx ⟨xn,xt,xh,xe,ws⟩).ws.length c3) (frL T.tm T.nx ⟨xn,xt,xh,xe,ws⟩).ws):=by
    obtain ⟨hr,ha⟩:=H3.out
    have hpl:=HPL.out.1
    refine ⟨set5 hr _ _ _ _ _,⟨(far5 (by omega) _ _ _ _ _).trans ha.hp,ha.os,ha.tape,ha.output,by simpa using ha.size,fun b hb hn hv=>(far5 (by omega) _ _ _ _ _).trans (ha.bz b hb hn hv),ha.ow.kept fun g hg=>far5 (fun e=>?_) _ _ _ _ _,ha.nb⟩⟩
    rw [e] at hg
    exact ha.ow.kind hr (fun cs=>by intro e;cases e) hg
   go_wp2_with fail
   generalize (((((w3.setCell ⟨w.heap.size+1+1,0,none⟩ (.string fn)).setCell ⟨w.heap.size+1+1,1,none⟩ (.int .i64 ft)).setCell ⟨w.heap.size+1+1,2,none⟩ (.int .i64 fh)).setCell ⟨w.heap.size+1+1,3,none⟩ (.int .i64 fe)).setCell ⟨w.heap.size+1+1,4,none⟩ (.slice a3 (frL T.tm T.nx ⟨xn,xt,xh,xe,ws⟩).ws.length c3))=wf at HF ⊢
   have d0:=(zAA HF.out.1 0 (x:=.string fn) rfl).1
   have d1:=(zAA HF.out.1 1 (x:=.int .i64 ft) rfl).1
   have d2:=(zAA HF.out.1 2 (x:=.int .i64 fh) rfl).1
   have d3:=(zAA HF.out.1 3 (x:=.int .i64 fe) rfl).1
   have d4:=(zAA HF.out.1 4 (x:=.slice a3 (frL T.tm T.nx ⟨xn,xt,xh,xe,ws⟩).ws.length c3) rfl).1
   exact bodyPost_ret (v:=.tuple #[.agg #[.string fn,.int .i64 ft,.int .i64 fh,.int .i64 fe,.slice a3 (frL T.tm T.nx ⟨xn,xt,xh,xe,ws⟩).ws.length c3],.int .i64 1]) (by simp [results,Tryz.results122,go_sem,d0,d1,d2,d3,d4]) rfl ⟨_,_,(by rw [HST.out.1,HST.out.2.2,HF3.out.1.1,HF3.out.1.2.1,HF3.out.1.2.2.1,HF3.out.1.2.2.2];try rfl),by rw [HST.out.1,HST.out.2.1];exact HF.out.2⟩
  ·have hb1:(xh != r.cl)=true:=by simp [c1]
   have HST:Hid (acL T.tm T.nx r ⟨xn,xt,xh,xe,ws⟩=⟨xn,xt,xh,xe,ws⟩∧acN T.nx r ⟨xn,xt,xh,xe,ws⟩=T.nx∧acK r ⟨xn,xt,xh,xe,ws⟩=stK ⟨xn,xt,xh,xe,ws⟩):=by refine ⟨?_,?_,?_⟩ <;> simp [acL,acN,acK,HKI.out,c1,c2]
   have HLR:Hid (w.heap.size ≠ w.heap.size+1+1):=by show _ ≠ _;omega
   clear c1 c2
   go_upto_region 6 with (go_at_call 147;go_must (refine HWA.out.mono ?_;rintro e w2 ⟨rfl,b2⟩;have H2:Hid ((w2.heap[w.heap.size]?=some (.cells #[.string xn,.int .i64 xt,.int .i64 xh,.int .i64 xe,.slice ua ws.length uc] 45 (0,0))∧w2.heap[w.heap.size+1]?=some (.cells #[.int .i64 r.cl,.int .i64 r.st,.int .i64 r.kd,.int .i64 r.le,.string r.nm] 42 (0,0))∧w2.heap[w.heap.size+1+1]?=some (.cells #[.string ⟨#[]⟩,.int .i64 0,.int .i64 0,.int .i64 0,.slice none 0 0] 45 (0,0)))∧Below w.heap.size w w2):=HX.out w2 b2;clear b2 l0 m0 l1 m1 l2 m2 l3 m3 l4 m4 r0 s0 r1 s1 r2 s2 r3 s3 r4 s4 q0 q1 q2 q3 q4;obtain ⟨l0,m0⟩:=zAA H2.out.1.1 0 (x:=.string xn) rfl;obtain ⟨l1,m1⟩:=zAA H2.out.1.1 1 (x:=.int .i64 xt) rfl;obtain ⟨l2,m2⟩:=zAA H2.out.1.1 2 (x:=.int .i64 xh) rfl;obtain ⟨l3,m3⟩:=zAA H2.out.1.1 3 (x:=.int .i64 xe) rfl;obtain ⟨l4,m4⟩:=zAA H2.out.1.1 4 (x:=.slice ua ws.length uc) rfl;have q0:=(zAA H2.out.1.2.1 0 (x:=.int .i64 r.cl) rfl).1;have q1:=(zAA H2.out.1.2.1 1 (x:=.int .i64 r.st) rfl).1;have q2:=(zAA H2.out.1.2.1 2 (x:=.int .i64 r.kd) rfl).1;have q3:=(zAA H2.out.1.2.1 3 (x:=.int .i64 r.le) rfl).1;have q4:=(zAA H2.out.1.2.1 4 (x:=.string r.nm) rfl).1;obtain ⟨r0,s0⟩:=zAA H2.out.1.2.2 0 (x:=.string ⟨#[]⟩) rfl;obtain ⟨r1,s1⟩:=zAA H2.out.1.2.2 1 (x:=.int .i64 0) rfl;obtain ⟨r2,s2⟩:=zAA H2.out.1.2.2 2 (x:=.int .i64 0) rfl;obtain ⟨r3,s3⟩:=zAA H2.out.1.2.2 3 (x:=.int .i64 0) rfl;obtain ⟨r4,s4⟩:=zAA H2.out.1.2.2 4 (x:=.slice none 0 0) rfl;rw [hwx]))
   clear l0 m0 l1 m1 l2 m2 l3 m3 l4 m4 r0 s0 r1 s1 r2 s2 r3 s3 r4 s4 q0 q1 q2 q3 q4
   have HY:Hid (∀ W,Below w2.heap.size w2 W→W.heap[w.heap.size]?=some (.cells #[.string xn,.int .i64 xt,.int .i64 xh,.int .i64 xe,.slice ua ws.length uc] 45 (0,0))∧W.heap[w.heap.size+1+1]?=some (.cells #[.string ⟨#[]⟩,.int .i64 0,.int .i64 0,.int .i64 0,.slice none 0 0] 45 (0,0))∧Below w.heap.size w W):=fun W hW=>⟨(hW.block _ (Array.getElem?_eq_some_iff.1 (⟨H2.out.1.1,H2.out.1.2.2,H2.out.2⟩ : w2.heap[w.heap.size]?=some (.cells #[.string xn,.int .i64 xt,.int .i64 xh,.int .i64 xe,.slice ua ws.length uc] 45 (0,0))∧w2.heap[w.heap.size+1+1]?=some (.cells #[.string ⟨#[]⟩,.int .i64 0,.int .i64 0,.int .i64 0,.slice none 0 0] 45 (0,0))∧Below w.heap.size w w2).1).1).trans (⟨H2.out.1.1,H2.out.1.2.2,H2.out.2⟩ : w2.heap[w.heap.size]?=some (.cells #[.string xn,.int .i64 xt,.int .i64 xh,.int .i64 xe,.slice ua ws.length uc] 45 (0,0))∧w2.heap[w.heap.size+1+1]?=some (.cells #[.string ⟨#[]⟩,.int .i64 0,.int .i64 0,.int .i64 0,.slice none 0 0] 45 (0,0))∧Below w.heap.size w w2).1,(hW.block _ (Array.getElem?_eq_some_iff.1 (⟨H2.out.1.1,H2.out.1.2.2,H2.out.2⟩ : w2.heap[w.heap.size]?=some (.cells #[.string xn,.int .i64 xt,.int .i64 xh,.int .i64 xe,.slice ua ws.length uc] 45 (0,0))∧w2.heap[w.heap.size+1+1]?=some (.cells #[.string ⟨#[]⟩,.int .i64 0,.int .i64 0,.int .i64 0,.slice none 0 0] 45 (0,0))∧Below w.heap.size w w2).2.1).1).trans (⟨H2.out.1.1,H2.out.1.2.2,H2.out.2⟩ : w2.heap[w.heap.size]?=some (.cells #[.string xn,.int .i64 xt,.int .i64 xh,.int .i64 xe,.slice ua ws.length uc] 45 (0,0))∧w2.heap[w.heap.size+1+1]?=some (.cells #[.string ⟨#[]⟩,.int .i64 0,.int .i64 0,.int .i64 0,.slice none 0 0] 45 (0,0))∧Below w.heap.size w w2).2.1,(⟨H2.out.1.1,H2.out.1.2.2,H2.out.2⟩ : w2.heap[w.heap.size]?=some (.cells #[.string xn,.int .i64 xt,.int .i64 xh,.int .i64 xe,.slice ua ws.length uc] 45 (0,0))∧w2.heap[w.heap.size+1+1]?=some (.cells #[.string ⟨#[]⟩,.int .i64 0,.int .i64 0,.int .i64 0,.slice none 0 0] 45 (0,0))∧Below w.heap.size w w2).2.2.trans (hW.mono (⟨H2.out.1.1,H2.out.1.2.2,H2.out.2⟩ : w2.heap[w.heap.size]?=some (.cells #[.string xn,.int .i64 xt,.int .i64 xh,.int .i64 xe,.slice ua ws.length uc] 45 (0,0))∧w2.heap[w.heap.size+1+1]?=some (.cells #[.string ⟨#[]⟩,.int .i64 0,.int .i64 0,.int .i64 0,.slice none 0 0] 45 (0,0))∧Below w.heap.size w w2).2.2.size)⟩
   have HCL:Hid (∀ W,Below w2.heap.size w2 W→W.cell? ⟨w.heap.size,0,none⟩=some (.string xn)∧W.cell? ⟨w.heap.size,1,none⟩=some (.int .i64 xt)∧W.cell? ⟨w.heap.size,2,none⟩=some (.int .i64 xh)∧W.cell? ⟨w.heap.size,3,none⟩=some (.int .i64 xe)∧W.cell? ⟨w.heap.size,4,none⟩=some (.slice ua ws.length uc)):=fun W hW=>by
    have hx:=(HY.out W hW).1
    exact ⟨(zAA hx 0 rfl).1,(zAA hx 1 rfl).1,(zAA hx 2 rfl).1,(zAA hx 3 rfl).1,(zAA hx 4 rfl).1⟩
   have HSD:Hid (∀ W,Below w2.heap.size w2 W→Calls Tryz.prog 120 #[.agg #[.string xn,.int .i64 xt,.int .i64 xh,.int .i64 xe,.slice ua ws.length uc]] W fun e w'=>e=.returned (.int .i64 (stK ⟨xn,xt,xh,xe,ws⟩))∧(w'.cell? ⟨w.heap.size,0,none⟩=some (.string xn)∧w'.cell? ⟨w.heap.size,1,none⟩=some (.int .i64 xt)∧w'.cell? ⟨w.heap.size,2,none⟩=some (.int .i64 xh)∧w'.cell? ⟨w.heap.size,3,none⟩=some (.int .i64 xe)∧w'.cell? ⟨w.heap.size,4,none⟩=some (.slice ua ws.length uc))∧((w'.cell? ⟨w.heap.size+1+1,0,none⟩=some (.string ⟨#[]⟩)∧w'.frozen? ⟨w.heap.size+1+1,0,none⟩=false)∧(w'.cell? ⟨w.heap.size+1+1,1,none⟩=some (.int .i64 0)∧w'.frozen? ⟨w.heap.size+1+1,1,none⟩=false)∧(w'.cell? ⟨w.heap.size+1+1,2,none⟩=some (.int .i64 0)∧w'.frozen? ⟨w.heap.size+1+1,2,none⟩=false)∧(w'.cell? ⟨w.heap.size+1+1,3,none⟩=some (.int .i64 0)∧w'.frozen? ⟨w.heap.size+1+1,3,none⟩=false)∧(w'.cell? ⟨w.heap.size+1+1,4,none⟩=some (.slice none 0 0)∧w'.frozen? ⟨w.heap.size+1+1,4,none⟩=false))∧Hid (w'.heap[w.heap.size+1+1]?=some (.cells #[.string ⟨#[]⟩,.int .i64 0,.int .i64 0,.int .i64 0,.slice none 0 0] 45 (0,0))∧Below w.heap.size w w')):=fun W hW=>by
    refine (zAh ⟨xn,xt,xh,xe,ws⟩ ua ws.length uc W).mono ?_
    rintro e w' ⟨rfl,hb⟩
    have hb2:=hW.trans (hb.mono hW.size)
    have hx:=HY.out w' hb2
    exact ⟨rfl,HCL.out w' hb2,⟨zAA hx.2.1 0 rfl,zAA hx.2.1 1 rfl,zAA hx.2.1 2 rfl,zAA hx.2.1 3 rfl,zAA hx.2.1 4 rfl⟩,hx.2.1,hx.2.2⟩
   have C1:=HCL.out w2 (Below.refl _ _)
   go_region_held_law (fun W=>W.cell? ⟨w.heap.size,0,none⟩=some (.string xn)∧W.cell? ⟨w.heap.size,1,none⟩=some (.int .i64 xt)∧W.cell? ⟨w.heap.size,2,none⟩=some (.int .i64 xh)∧W.cell? ⟨w.heap.size,3,none⟩=some (.int .i64 xe)∧W.cell? ⟨w.heap.size,4,none⟩=some (.slice ua ws.length uc)) (first | with_reducible exact C1 | with_reducible exact HCL.out _ Qc.zAI | with_reducible exact C2 | exact ⟨cf5 HLR.out C2.1,cf5 HLR.out C2.2.1,cf5 HLR.out C2.2.2.1,cf5 HLR.out C2.2.2.2.1,cf5 HLR.out C2.2.2.2.2⟩) ((go_at_call 120;refine (HSD.out _ (by first | exact Below.refl _ _ | exact Qc.zAI)).mono ?_;rintro e wz ⟨rfl,C2,⟨⟨r0,s0⟩,⟨r1,s1⟩,⟨r2,s2⟩,⟨r3,s3⟩,⟨r4,s4⟩⟩,HZ⟩))
   all_goals
    clear C1 C2
    have HF:Hid ((((((wz.setCell ⟨w.heap.size+1+1,0,none⟩ (.string xn)).setCell ⟨w.heap.size+1+1,1,none⟩ (.int .i64 xt)).setCell ⟨w.heap.size+1+1,2,none⟩ (.int .i64 xh)).setCell ⟨w.heap.size+1+1,3,none⟩ (.int .i64 xe)).setCell ⟨w.heap.size+1+1,4,none⟩ (.slice ua ws.length uc)).heap[w.heap.size+1+1]?=some (.cells #[.string xn,.int .i64 xt,.int .i64 xh,.int .i64 xe,.slice ua ws.length uc] 45 (0,0))∧AcP w (((((wz.setCell ⟨w.heap.size+1+1,0,none⟩ (.string xn)).setCell ⟨w.heap.size+1+1,1,none⟩ (.int .i64 xt)).setCell ⟨w.heap.size+1+1,2,none⟩ (.int .i64 xh)).setCell ⟨w.heap.size+1+1,3,none⟩ (.int .i64 xe)).setCell ⟨w.heap.size+1+1,4,none⟩ (.slice ua ws.length uc)) B p bL bS T.tm T.nx (.slice ua ws.length uc) (.slice ua ws.length uc) ws):=by
     obtain ⟨hr,ha⟩:=(⟨HZ.out.1,HAC.out _ HZ.out.2⟩ : wz.heap[w.heap.size+1+1]?=some (.cells #[.string ⟨#[]⟩,.int .i64 0,.int .i64 0,.int .i64 0,.slice none 0 0] 45 (0,0))∧AcP w wz B p bL bS T.tm T.nx (.slice ua ws.length uc) (.slice ua ws.length uc) ws)
     have hpl:=HPL.out.1
     refine ⟨set5 hr _ _ _ _ _,⟨(far5 (by omega) _ _ _ _ _).trans ha.hp,ha.os,ha.tape,ha.output,by simpa using ha.size,fun b hb hn hv=>(far5 (by omega) _ _ _ _ _).trans (ha.bz b hb hn hv),ha.ow.kept fun g hg=>far5 (fun e=>?_) _ _ _ _ _,ha.nb⟩⟩
     rw [e] at hg
     exact ha.ow.kind hr (fun cs=>by intro e;cases e) hg
    go_wp2_with fail
    generalize (((((wz.setCell ⟨w.heap.size+1+1,0,none⟩ (.string xn)).setCell ⟨w.heap.size+1+1,1,none⟩ (.int .i64 xt)).setCell ⟨w.heap.size+1+1,2,none⟩ (.int .i64 xh)).setCell ⟨w.heap.size+1+1,3,none⟩ (.int .i64 xe)).setCell ⟨w.heap.size+1+1,4,none⟩ (.slice ua ws.length uc))=wf at HF ⊢
    have d0:=(zAA HF.out.1 0 (x:=.string xn) rfl).1
    have d1:=(zAA HF.out.1 1 (x:=.int .i64 xt) rfl).1
    have d2:=(zAA HF.out.1 2 (x:=.int .i64 xh) rfl).1
    have d3:=(zAA HF.out.1 3 (x:=.int .i64 xe) rfl).1
    have d4:=(zAA HF.out.1 4 (x:=.slice ua ws.length uc) rfl).1
    exact bodyPost_ret (v:=.tuple #[.agg #[.string xn,.int .i64 xt,.int .i64 xh,.int .i64 xe,.slice ua ws.length uc],.int .i64 (stK ⟨xn,xt,xh,xe,ws⟩)]) (by simp [results,Tryz.results122,go_sem,d0,d1,d2,d3,d4]) rfl ⟨_,_,(by rw [HST.out.1,HST.out.2.2];try rfl),by rw [HST.out.1,HST.out.2.1];exact HF.out.2⟩
end
end Go.Proofs.YticokpbelgpfmaaGreat.Jv
namespace Go.Proofs.YticokpbelgpfmaaGreat.Jw
open Go.RowKit By Ap Tb Tw Mw Wa Bk Tp Da Ja Jb Jc
open Lo (LkA uV clL OwnL zAG zAK Apart zAP)
open Tx (zAA zAC zAE zAJ zAD)
open Je Jf Jd Jh Jl Jr Jt
open Ea (wIx)
section
variable {w0 w w' w2:World} {B p bL bS:Nat} {T T':Tab} {ps qs:List LkA}
theorem apart_putAt {z:LkA} {k:Nat} (h:Apart ps) (hk:k≤ps.length) (hz:∀ x ∈ ps,∀ g,(uV z).ownBlock=some g→(uV x).ownBlock ≠ some g):Apart (putAt ps k z):=by
 intro i j x y hx hy hij g hg hg2
 rw [zBc hk] at hx hy
 by_cases h1:i<k
 ·rw [if_pos h1] at hx
  by_cases h2:j<k
  ·rw [if_pos h2] at hy;exact h i j x y hx hy hij g hg hg2
  ·rw [if_neg h2] at hy
   by_cases h3:j=k
   ·rw [if_pos h3] at hy;cases hy;exact hz x (List.mem_of_getElem? hx) g hg2 hg
   ·rw [if_neg h3] at hy;exact h i (j - 1) x y hx hy (by omega) g hg hg2
 ·rw [if_neg h1] at hx
  by_cases h3:i=k
  ·rw [if_pos h3] at hx;cases hx
   by_cases h2:j<k
   ·rw [if_pos h2] at hy;exact hz y (List.mem_of_getElem? hy) g hg hg2
   ·rw [if_neg h2,if_neg (by omega)] at hy;exact hz y (List.mem_of_getElem? hy) g hg hg2
  ·rw [if_neg h3] at hx
   by_cases h2:j<k
   ·rw [if_pos h2] at hy;exact h (i - 1) j x y hx hy (by omega) g hg hg2
   ·rw [if_neg h2] at hy
    by_cases h4:j=k
    ·rw [if_pos h4] at hy;cases hy;exact hz x (List.mem_of_getElem? hx) g hg2 hg
    ·rw [if_neg h4] at hy;exact h (i - 1) (j - 1) x y hx hy (by omega) g hg hg2
theorem apart_set2 {z:LkA} {k:Nat} {q:LkA} (h:Apart ps) (hk:ps[k]?=some q) (hz:∀ (i:Nat) (x:LkA),ps[i]?=some x→i ≠ k→∀ g,(uV z).ownBlock=some g→(uV x).ownBlock ≠ some g):Apart (ps.set k z):=by
 have hkl:=(List.getElem?_eq_some_iff.1 hk).1
 intro i j x y hx hy hij g hg hg2
 rw [List.getElem?_set] at hx hy
 by_cases h1:k=i
 ·rw [if_pos h1,if_pos hkl] at hx
  cases hx
  rw [if_neg (by omega)] at hy
  exact hz j y hy (by omega) g hg hg2
 ·rw [if_neg h1] at hx
  by_cases h2:k=j
  ·rw [if_pos h2,if_pos hkl] at hy
   cases hy
   exact hz i x hx (by omega) g hg2 hg
  ·rw [if_neg h2] at hy
   exact h i j x y hx hy hij g hg hg2
theorem bk_core (h:BK w0 w B p bL bS T ps) {v v':Value} {vs ws':List Wt} (ho:OwnO w B v vs) (ha:AcP w w' B p bL bS T'.tm T'.nx v v' ws') (hb:Below w'.heap.size w' w2) {q':LkA}
 (hoth:∀ z ∈ qs,(uV z=v'∧z.1.ws=ws') ∨ (z ∈ ps∧∀ g,(uV z).ownBlock=some g→v.ownBlock ≠ some g)) (hap:Apart qs) (he:qs.map (·.1)=T'.ls) (hnm:NmA T'.ls) (hsn:∀ x ∈ T'.ls,x.n.size≤1000000) (hss:T'.ss=T.ss)
 (hput:(mL ps).put (kS q'.1.n) (.held (lkV q'.1 (uV q')))=mL qs) (hsz:q'.1.n.size≤1000000) (hl:ps.length≤1000) :
 ∃ w3,(Instr.mapUpdate 106 (.map (some bL)) (.string q'.1.n) (lkV q'.1 (uV q'))).run Tryz.prog w2=.ok () w3∧BK w0 w3 B p bL bS T' qs∧w2.grownBy w3 (some bL):=by
 have hLm:=zBI h.ml
 obtain ⟨eL0,cL0,hL0⟩:=hLm
 have hSm:=zBI h.ms
 obtain ⟨eS0,cS0,hS0⟩:=hSm
 have hvL:some bL ≠ v.ownBlock:=fun e=>ho.kind hL0 (fun cs=>by intro e;cases e) e.symm
 have hvS:some bS ≠ v.ownBlock:=fun e=>ho.kind hS0 (fun cs=>by intro e;cases e) e.symm
 have k1:∀ j,j<w.heap.size→j ≠ p→some j ≠ v.ownBlock→w2.heap[j]?=w.heap[j]?:=fun j hj hp hv=>(hb.block j (Nat.lt_of_lt_of_le hj ha.size)).trans (ha.bz j hj hp hv)
 have ml2:MapL w2 bL ps.length (mL ps):=zAR h.ml (k1 bL h.llt (Ne.symm h.ne.1) hvL)
 have ms2:MapS w2 bS T.ss.length (mS T.ss):=zAR h.ms (k1 bS h.slt (Ne.symm h.ne.2) hvS)
 obtain ⟨w3,hrun,hm,hg⟩:=ml2.update (Maps.string_keyed Tryz.underlying9) Tryz.underlying106 (by unfold maxLen;omega) (key:=.string q'.1.n) (val:=lkV q'.1 (uV q')) (WideMaps.keyOf_string_mk Tryz.underlying9 (s:=q'.1.n) (by unfold maxLen;omega)) (d:=.held (lkV q'.1 (uV q'))) (ps:=[]) rfl
 have hput2:(mL ps).put (.string q'.1.n.data.toList) (.held (lkV q'.1 (uV q')))=mL qs:=hput
 rw [hput2] at hm
 have hp2:w2.heap[p]?=some (.cells #[.int .i64 T'.tm,.int .i64 T'.nx,.map (some bL),.map (some bS)] 109 (0,0)):=(hb.block p (Array.getElem?_eq_some_iff.1 ha.hp).1).trans ha.hp
 have k3:∀ j,j<w2.heap.size→j ≠ bL→w3.heap[j]?=w2.heap[j]?:=fun j hj hne=>hg.block j hj (fun e=>hne (by injection e))
 have hsz2:w.heap.size≤w2.heap.size:=Nat.le_trans ha.size hb.size
 have hL2:w2.heap[bL]?=some (.map eL0 cL0):=(k1 bL h.llt (Ne.symm h.ne.1) hvL).trans hL0
 refine ⟨w3,hrun,⟨(k3 p (Array.getElem?_eq_some_iff.1 hp2).1 h.ne.1).trans hp2,tightL hm,?_,fun z hz=>?_,hap,he,hnm,by rw [hss];exact h.cl,hsn,by rw [hss];exact h.sc,?_,h.b0,h.le⟩,hg⟩
 ·rw [hss]
  exact zAR ms2 (k3 bS (Nat.lt_of_lt_of_le h.slt hsz2) (Ne.symm h.le.2.2.2))
 ·rcases hoth z hz with ⟨e1,e2⟩ | ⟨hzp,hza⟩
  ·rw [e1,e2]
   have ho2:=ha.ow.below hb
   exact ho2.kept fun g hg'=>k3 g (ho2.lt g hg').2 (fun e=>by subst e;exact ho2.kind hL2 (fun cs=>by intro e;cases e) hg')
  ·have hoz:=h.ow z hzp
   refine hoz.kept fun g hg'=>?_
   have hgl:=(hoz.lt g hg').2
   have hgp:g ≠ p:=fun e=>by subst e;exact hoz.kind h.hp (fun cs=>by intro e;cases e) hg'
   have hgL:g ≠ bL:=fun e=>by subst e;exact hoz.kind hL0 (fun cs=>by intro e;cases e) hg'
   exact (k3 g (Nat.lt_of_lt_of_le hgl hsz2) hgL).trans (k1 g hgl hgp (fun e=>hza g hg' e.symm))
 ·refine ⟨hg.os.trans (hb.os.trans (ha.os.trans h.bel.os)),hg.tape.trans (hb.tape.trans (ha.tape.trans h.bel.tape)),hg.output.trans (hb.output.trans (ha.output.trans h.bel.output)),Nat.le_trans h.bel.size (Nat.le_trans hsz2 hg.size),fun j hj=>?_⟩
  have hjw:=Nat.lt_of_lt_of_le hj h.size
  have hle:=h.le
  exact (k3 j (Nat.lt_of_lt_of_le hjw hsz2) (by omega)).trans ((k1 j hjw (by omega) (fun e=>by have:=(ho.lt j e.symm).1;omega)).trans (h.bel.block j hj))
theorem bk_put (h:BK w0 w B p bL bS T ps) {k:Nat} {q q':LkA} (hk:ps[k]?=some q) (hn:q'.1.n=q.1.n) (ha:AcP w w' B p bL bS T'.tm T'.nx (uV q) (uV q') q'.1.ws) (hb:Below w'.heap.size w' w2) (hls:T'.ls=T.ls.set k q'.1) (hss:T'.ss=T.ss) (hnm:NmA T'.ls) (hsn:∀ x ∈ T'.ls,x.n.size≤1000000) (hl:ps.length≤1000) :
 ∃ w3,(Instr.mapUpdate 106 (.map (some bL)) (.string q'.1.n) (lkV q'.1 (uV q'))).run Tryz.prog w2=.ok () w3∧BK w0 w3 B p bL bS T' (ps.set k q')∧w2.grownBy w3 (some bL):=by
 have hA:Asc eL ps:=NmA.asc (by rw [h.eq];exact h.nm)
 have hput:(mL ps).put (kS q'.1.n) (.held (lkV q'.1 (uV q')))=mL (ps.set k q'):=put_hit (E:=eL) key_L hA hk (y:=q') (by show kS _=kS _;rw [hn])
 have hkl:=(List.getElem?_eq_some_iff.1 hk).1
 have hq1:q.1 ∈ T.ls:=by rw [← h.eq];exact List.mem_map.2 ⟨q,List.mem_of_getElem? hk,rfl⟩
 refine bk_core h (h.ow q (List.mem_of_getElem? hk)) ha hb (fun z hz=>?_) (apart_set2 h.ap hk fun i x hx hik g hg hg2=>?_) (by rw [hls,List.map_set,h.eq]) hnm hsn hss hput (by rw [hn];exact h.sn _ hq1) hl
 ·obtain ⟨i,hi⟩:=List.mem_iff_getElem?.1 hz
  rw [List.getElem?_set] at hi
  by_cases e:k=i
  ·rw [if_pos e,if_pos hkl] at hi
   cases hi
   exact .inl ⟨rfl,rfl⟩
  ·rw [if_neg e] at hi
   exact .inr ⟨List.mem_of_getElem? hi,fun g hg hg2=>h.ap i k z q hi hk (by omega) g hg hg2⟩
 ·rcases ha.nb with e | hnew
  ·rw [e] at hg
   exact h.ap k i q x hk hx (by omega) g hg hg2
  ·have:=hnew g hg
   have:=((h.ow x (List.mem_of_getElem? hx)).lt g hg2).2
   omega
theorem bk_new (h:BK w0 w B p bL bS T ps) {q':LkA} (hnn:∀ x ∈ ps,x.1.n ≠ q'.1.n) (ha:AcP w w' B p bL bS T'.tm T'.nx (.slice none 0 0) (uV q') q'.1.ws) (hb:Below w'.heap.size w' w2) (hls:T'.ls=putAt T.ls (plc T.ls q'.1.n) q'.1) (hss:T'.ss=T.ss) (hnm:NmA T'.ls) (hsn:∀ x ∈ T'.ls,x.n.size≤1000000) (hl:ps.length≤1000) :
 ∃ w3,(Instr.mapUpdate 106 (.map (some bL)) (.string q'.1.n) (lkV q'.1 (uV q'))).run Tryz.prog w2=.ok () w3∧BK w0 w3 B p bL bS T' (putAt ps (plc T.ls q'.1.n) q')∧w2.grownBy w3 (some bL):=by
 have hK:plc T.ls q'.1.n≤ps.length:=by rw [h.len];exact plP_le _
 have hat:∀ (j:Nat) (x:LkA),ps[j]?=some x→T.ls[j]?=some x.1:=fun j x hx=>by rw [← h.eq,List.getElem?_map,hx];rfl
 have hput:(mL ps).put (kS q'.1.n) (.held (lkV q'.1 (uV q')))=mL (putAt ps (plc T.ls q'.1.n) q'):=by
  refine put_miss (E:=eL) (y:=q') (fun x hx e=>hnn x hx (Lp.toList_inj (by injection e))) hK (fun j x hj hx=>zBe _ _ ?_) fun x hx=>?_
  ·show (kS x.1.n).before (kS q'.1.n)=true
   rw [zBX]
   exact zAt (p:=fun y:Lk=>less y.n q'.1.n) T.ls j x.1 hj (hat j x hx)
  ·show (kS q'.1.n).before (kS x.1.n)=true
   rw [zBX]
   exact less_or (zBd (p:=fun y:Lk=>less y.n q'.1.n) T.ls x.1 (hat _ x hx)) (hnn x (List.mem_of_getElem? hx))
 have hq1:q'.1 ∈ T'.ls:=by
  rw [hls]
  unfold putAt
  simp
 refine bk_core h (v:=.slice none 0 0) (vs:=[]) (.inl ⟨rfl,rfl⟩) ha hb (fun z hz=>?_) (apart_putAt h.ap hK fun x hx g hg hg2=>?_) ?_ hnm hsn hss hput (hsn _ hq1) hl
 ·unfold putAt at hz
  rw [List.mem_append,List.mem_cons] at hz
  rcases hz with h1 | rfl | h1
  ·exact .inr ⟨List.mem_of_mem_take h1,fun g _ e=>by cases e⟩
  ·exact .inl ⟨rfl,rfl⟩
  ·exact .inr ⟨List.mem_of_mem_drop h1,fun g _ e=>by cases e⟩
 ·rcases ha.nb with e | hnew
  ·rw [e] at hg;cases hg
  ·have:=hnew g hg
   have:=((h.ow x hx).lt g hg2).2
   omega
 ·rw [hls,← h.eq]
  unfold putAt
  simp [List.map_take,List.map_drop]
end
end Go.Proofs.YticokpbelgpfmaaGreat.Jw
namespace Go.Proofs.YticokpbelgpfmaaGreat.Jx0
open Go.RowKit By Ap Tb Tw Mw Wa Bk Tp Da Ja Jb Jc
open Lo (LkA uV clL OwnL zAG zAK Apart zAP zAX)
open Tx (zAA zAC zAE zAJ zAD)
open Rq Je Jf Jd Jh Jl Jr Jt Ju Jv Jw
section
variable {w0 w:World} {B p bL bS:Nat} {T:Tab} {ps:List LkA}
theorem acp_up {w3 w4:World} {tm nx:Int} {v v':Value} {ws:List Wt} (hb:Below w.heap.size w w3) (h:AcP w3 w4 B p bL bS tm nx v v' ws):AcP w w4 B p bL bS tm nx v v' ws :=
 ⟨h.hp,h.os.trans hb.os,h.tape.trans hb.tape,h.output.trans hb.output,Nat.le_trans hb.size h.size,fun b hlt hn hv=>(h.bz b (Nat.lt_of_lt_of_le hlt hb.size) hn hv).trans (hb.block b hlt),h.ow,h.nb.imp id fun h g hg=>Nat.le_trans hb.size (h g hg)⟩
theorem acp_blk {w3 w4:World} {tm nx:Int} {v v':Value} {vs ws:List Wt} (h:AcP w3 w4 B p bL bS tm nx v v' ws) (ho:OwnO w3 B v vs) {y:Nat} {cs:Array Value} {e:TypeId} (hy:w3.heap[y]?=some (.cells cs e (0,0))) (hp:y ≠ p) (hne:e ≠ 153:=by decide):w4.heap[y]?=some (.cells cs e (0,0)) :=
 (h.bz y (Array.getElem?_eq_some_iff.1 hy).1 hp (fun e2=>ho.kind hy (fun cs'=>by intro e3;injection e3 with _ e4;exact hne e4) e2.symm)).trans hy
theorem acp_five {w4:World} {nx:Int} {v v':Value} {ws:List Wt} {y z:Nat} {c0 c1 c2 c3 c4:Value} {cs:Array Value} {e:TypeId} (hz:w4.heap[z]?=some (.cells cs e (0,0))) (hy:w4.heap[y]?=some (.cells #[c0,c1,c2,c3,c4] 45 (0,0))) (h:AcP w w4 B p bL bS T.tm nx v v' ws) (hp:p<w.heap.size) (hyw:w.heap.size≤y) (hzy:z ≠ y) (a b c d f:Value) :
 (((((w4.setCell ⟨y,0,none⟩ a).setCell ⟨y,1,none⟩ b).setCell ⟨y,2,none⟩ c).setCell ⟨y,3,none⟩ d).setCell ⟨y,4,none⟩ f).heap[z]?=some (.cells cs e (0,0))∧(((((w4.setCell ⟨y,0,none⟩ a).setCell ⟨y,1,none⟩ b).setCell ⟨y,2,none⟩ c).setCell ⟨y,3,none⟩ d).setCell ⟨y,4,none⟩ f).heap[y]?=some (.cells #[a,b,c,d,f] 45 (0,0))∧AcP w (((((w4.setCell ⟨y,0,none⟩ a).setCell ⟨y,1,none⟩ b).setCell ⟨y,2,none⟩ c).setCell ⟨y,3,none⟩ d).setCell ⟨y,4,none⟩ f) B p bL bS T.tm nx v v' ws:=by
 have k1:=zAC hy 0 a
 have k2:=zAC k1 1 b
 have k3:=zAC k2 2 c
 have k4:=zAC k3 3 d
 have hyp:w.heap.size≤y∧p ≠ y:=⟨hyw,by omega⟩
 exact ⟨(far5 hzy _ _ _ _ _).trans hz,set5 hy _ _ _ _ _,acp_set (acp_set (acp_set (acp_set (acp_set h hy 0 a hyp) k1 1 b hyp) k2 2 c hyp) k3 3 d hyp) k4 4 f hyp⟩
theorem up_blk (h:BK w0 w B p bL bS T ps) {w5 w6:World} (hg:w5.drew.grownBy w6 (some bL)) {y:Nat} {o:Obj} (hy:w5.heap[y]?=some o) (hw:w.heap.size≤y):w6.heap[y]?=some o :=
 (hg.block y (Array.getElem?_eq_some_iff.1 hy).1 (fun e=>by injection e with e;have:=h.llt;omega)).trans hy
theorem fx_acp {w5 w2 w6:World} {tm nx:Int} {v v':Value} {vs ws:List Wt} (ho:OwnO w B v vs) (h:AcP w w5 B p bL bS tm nx v v' ws) (hb:Below w5.heap.size w5 w2) (hg:w2.grownBy w6 (some bL)):Fx p bL bS w w6:=by
 refine ⟨Nat.le_trans h.size (Nat.le_trans hb.size hg.size),fun b o hbo h1 h2 _ h4=>?_⟩
 have hlt:=(Array.getElem?_eq_some_iff.1 hbo).1
 exact (hg.block b (Nat.lt_of_lt_of_le hlt (Nat.le_trans h.size hb.size)) (fun e=>h2 (by injection e))).trans ((hb.block b (Nat.lt_of_lt_of_le hlt h.size)).trans ((h.bz b hlt h1 (fun e=>ho.kind hbo h4 e.symm)).trans hbo))
theorem fx_far {w6:World} {y:Nat} (h:Fx p bL bS w w6) (hy:w.heap.size≤y) (i:Nat) (v:Value):Fx p bL bS w (w6.setCell ⟨y,i,none⟩ v) :=
 ⟨by simpa using h.size,fun b o hb h1 h2 h3 h4=>(zAE (by have:=(Array.getElem?_eq_some_iff.1 hb).1;omega) i v).trans (h.block b o hb h1 h2 h3 h4)⟩
theorem zAz {w6:World} {y:Nat} {T':Tab} {c0 c1 c2 c3:Value} (hy:w6.heap[y]?=some (.cells #[c0,c1,c2,c3] 38 (0,0))) (hq:∃ qs,BK w0 w6 B p bL bS T' qs) (hf:Fx p bL bS w w6) (hyw:(w.heap.size≤y∧y ≠ p)∧B≤y) (a b c d:Value) :
 ((((w6.setCell ⟨y,0,none⟩ a).setCell ⟨y,1,none⟩ b).setCell ⟨y,2,none⟩ c).setCell ⟨y,3,none⟩ d).heap[y]?=some (.cells #[a,b,c,d] 38 (0,0))∧(∃ qs,BK w0 ((((w6.setCell ⟨y,0,none⟩ a).setCell ⟨y,1,none⟩ b).setCell ⟨y,2,none⟩ c).setCell ⟨y,3,none⟩ d) B p bL bS T' qs)∧Fx p bL bS w ((((w6.setCell ⟨y,0,none⟩ a).setCell ⟨y,1,none⟩ b).setCell ⟨y,2,none⟩ c).setCell ⟨y,3,none⟩ d):=by
 have k1:=zAC hy 0 a
 have k2:=zAC k1 1 b
 have k3:=zAC k2 2 c
 have k4:=zAC k3 3 d
 obtain ⟨qs,h⟩:=hq
 have n1:∀ (xs:Array Value),∀ es c,(Obj.cells xs 38 (0,0)) ≠ .map es c:=fun xs es c=>by intro e;cases e
 have n2:∀ (xs:Array Value),∀ cs,(Obj.cells xs 38 (0,0)) ≠ .cells cs 153 (0,0):=fun xs cs=>by intro e;cases e
 exact ⟨k4,⟨qs,(((h.far hy hyw.1.2 (n1 _) (n2 _) hyw.2 0 a).far k1 hyw.1.2 (n1 _) (n2 _) hyw.2 1 b).far k2 hyw.1.2 (n1 _) (n2 _) hyw.2 2 c).far k3 hyw.1.2 (n1 _) (n2 _) hyw.2 3 d⟩,fx_far (fx_far (fx_far (fx_far hf hyw.1.1 0 a) hyw.1.1 1 b) hyw.1.1 2 c) hyw.1.1 3 d⟩
end
end Go.Proofs.YticokpbelgpfmaaGreat.Jx0
