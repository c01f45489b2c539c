/- Texts put together: Jx4, Jx5, Jx6. -/
import Derived.Test.YticokpbelgpfmaaGreatMa19
namespace Go.Proofs.YticokpbelgpfmaaGreat.Jx4
open Go.RowKit By Ap Tb Tw Mw Wa Bk Tp Da Ja Jb Jc
open Lo (LkA uV clL OwnL zAG zAK Apart zAP zAX)
open Jx0
open Tx (zAA zAC zAE zAJ zAD)
open Rq Je Jf Jd Jh Jl Jr Jt Ju Jv Jw
section
variable {w0 w:World} {B p bL bS:Nat} {T:Tab} {ps:List LkA}
set_option maxRecDepth 100000 in
set_option maxHeartbeats 3200000 in
theorem do_4 (h:BK w0 w B p bL bS T ps) (r:Da.Ask) (hkd:r.kd=4) {k:Nat} {xt xh xe:Int} {ws:List Wt} {ua:Option Addr} {uc:Nat} (hk:ps[k]?=some (⟨r.nm,xt,xh,xe,ws⟩,ua,uc)) (_ht0:0≤T.tm) (_ht1:T.tm≤1000000000) (_hn0:1≤T.nx) (_hn1:T.nx≤999999) (_hle:0≤r.le∧r.le≤1000) (hnz:r.nm.size≤1000000) (_hcap:ws.length≤4) (_hlw:∀ z ∈ ws,0≤z.l∧z.l≤1000) {y:Lk} {nz K:Int} (hy:acL T.tm T.nx r ⟨r.nm,xt,xh,xe,ws⟩=y) (hnx:acN T.nx r ⟨r.nm,xt,xh,xe,ws⟩=nz) (hK:acK r ⟨r.nm,xt,xh,xe,ws⟩=K) (hnm:NmA (T.ls.set k y)) (hsn:∀ x ∈ (T.ls.set k y),x.n.size≤1000000) (hpl:ps.length≤1000) :
 Calls Tryz.prog 93 #[.pointer (some ⟨p,0,none⟩),rqA r] w fun e w'=>e=.returned (anV (tell K y))∧(∃ qs,BK w0 w' B p bL bS ⟨T.tm,nz,(T.ls.set k y),T.ss⟩ qs)∧Fx p bL bS w w':=by
 obtain ⟨yn,yt,yh,ye,yw⟩:=y
 obtain rfl:yn=r.nm:=by have:=zBT T.tm T.nx r ⟨r.nm,xt,xh,xe,ws⟩;rw [hy] at this;exact this
 have HH:Hid (BK w0 w B p bL bS T ps):=h
 have HPL:Hid (p<w.heap.size∧B≤w.heap.size):=⟨h.plt,h.size⟩
 have HB:Hid (Below w.heap.size w ((w.alloc (.cells #[.int .i64 r.cl,.int .i64 r.st,.int .i64 r.kd,.int .i64 r.le,.string r.nm] 42)).alloc (.cells #[.int .i64 0,.int .i64 0,.int .i64 0,.int .i64 0] 38))∧((w.alloc (.cells #[.int .i64 r.cl,.int .i64 r.st,.int .i64 r.kd,.int .i64 r.le,.string r.nm] 42)).alloc (.cells #[.int .i64 0,.int .i64 0,.int .i64 0,.int .i64 0] 38)).heap[w.heap.size]?=some (.cells #[.int .i64 r.cl,.int .i64 r.st,.int .i64 r.kd,.int .i64 r.le,.string r.nm] 42 (0,0))∧((w.alloc (.cells #[.int .i64 r.cl,.int .i64 r.st,.int .i64 r.kd,.int .i64 r.le,.string r.nm] 42)).alloc (.cells #[.int .i64 0,.int .i64 0,.int .i64 0,.int .i64 0] 38)).heap[w.heap.size+1]?=some (.cells #[.int .i64 0,.int .i64 0,.int .i64 0,.int .i64 0] 38 (0,0))):=⟨bel2 _ _ _,(zAP w _ _).1,(zAP w _ _).2⟩
 have HLO:Hid (∀ W,Below w.heap.size w W→(Instr.lookup 106 (.map (some bL)) (.string r.nm) true).run Tryz.prog W=.ok (.tuple #[.agg #[.string r.nm,.int .i64 xt,.int .i64 xh,.int .i64 xe,.slice ua ws.length uc],.bool true]) W):=fun W hW=>lookL_ok (zAR HH.out.ml (hW.block bL HH.out.llt)) (by rw [HH.out.eq];exact HH.out.nm) (List.mem_of_getElem? hk) hnz
 have HO:Hid (OwnO w B (.slice ua ws.length uc) ws):=h.ow _ (List.mem_of_getElem? hk)
 have HNM:Hid (NmA (T.ls.set k ⟨r.nm,yt,yh,ye,yw⟩)∧(∀ x ∈ (T.ls.set k ⟨r.nm,yt,yh,ye,yw⟩),x.n.size≤1000000)∧ps.length≤1000):=⟨hnm,hsn,hpl⟩
 have HOK:Hid (ps[k]?=some (⟨r.nm,xt,xh,xe,ws⟩,ua,uc)):=hk
 have e4:(⟨r.nm,xt,xh,xe,ws⟩ : Lk)=⟨r.nm,yt,yh,ye,yw⟩:=by rw [← hy];simp [acL,hkd]
 have e5:T.nx=nz:=by rw [← hnx];simp [acN,hkd]
 have e6:stK ⟨r.nm,xt,xh,xe,ws⟩=K:=by rw [← hK];simp [acK,hkd]
 injection e4 with _ e41 e42 e43 e44
 subst e41 e42 e43 e44 e5 e6
 have HAC:Hid (∀ W,Below w.heap.size w W→AcP w W B p bL bS T.tm T.nx (.slice ua ws.length uc) (.slice ua ws.length uc) ws):=fun W hW=>⟨(HH.out.up hW).hp,hW.os,hW.tape,hW.output,hW.size,fun b hb _ _=>hW.block b hb,HO.out.below hW,.inl rfl⟩
 clear hy hnx hK hnm hsn hpl hk
 have HKI:Hid (r.kd=4):=hkd
 clear h hkd
 unfold rqA
 go_enter Tryz.func93,Tryz.ntmps93
 go_upto_region 1 with fail
 have HSZ:Hid (((w.alloc (.cells #[.int .i64 r.cl,.int .i64 r.st,.int .i64 r.kd,.int .i64 r.le,.string r.nm] 42)).alloc (.cells #[.int .i64 0,.int .i64 0,.int .i64 0,.int .i64 0] 38)).heap.size=w.heap.size+1+1):=by show _=_;rw [Bk.zAL,Bk.zAL]
 obtain ⟨w1,hw1⟩ : ∃ w1,((w.alloc (.cells #[.int .i64 r.cl,.int .i64 r.st,.int .i64 r.kd,.int .i64 r.le,.string r.nm] 42)).alloc (.cells #[.int .i64 0,.int .i64 0,.int .i64 0,.int .i64 0] 38))=w1:=⟨_,rfl⟩
 rw [hw1] at HB HSZ ⊢
 clear hw1
 have HCL:Hid (∀ W,Below w1.heap.size w1 W→W.cell? ⟨p,2,none⟩=some (.map (some bL))∧W.cell? ⟨w.heap.size,4,none⟩=some (.string r.nm)):=fun W hW=>⟨(zAA (HH.out.up (HB.out.1.trans (hW.mono HB.out.1.size))).hp 2 rfl).1,(zAA ((hW.block _ (Array.getElem?_eq_some_iff.1 HB.out.2.1).1).trans HB.out.2.1) 4 rfl).1⟩
 obtain ⟨p2,q4⟩:=HCL.out w1 (Below.refl _ _)
 have hlk1:=HLO.out w1 HB.out.1
 have hlk2:=HLO.out w1.drew HB.out.1.drew
 have hlk3:=HLO.out (w1.alloc (.cells #[.string ⟨#[]⟩,.int .i64 0,.int .i64 0,.int .i64 0,.slice none 0 0] 45)).drew (HB.out.1.alloc HB.out.1.size _).drew
 go_region_held_law (fun W=>W.cell? ⟨p,2,none⟩=some (.map (some bL))∧W.cell? ⟨w.heap.size,4,none⟩=some (.string r.nm)) (first | with_reducible exact ⟨p2,q4⟩ | with_reducible exact HCL.out _ (Below.refl _ _).drew | with_reducible exact HCL.out _ ((Below.refl _ _).alloc (Nat.le_refl _) _).drew) (fail)
 all_goals
  have HE:Hid ((w1.alloc (.cells #[.string r.nm,.int .i64 xt,.int .i64 xh,.int .i64 xe,.slice ua ws.length uc] 45)).drew.heap[w.heap.size]?=some (.cells #[.int .i64 r.cl,.int .i64 r.st,.int .i64 r.kd,.int .i64 r.le,.string r.nm] 42 (0,0))∧(w1.alloc (.cells #[.string r.nm,.int .i64 xt,.int .i64 xh,.int .i64 xe,.slice ua ws.length uc] 45)).drew.heap[w.heap.size+1]?=some (.cells #[.int .i64 0,.int .i64 0,.int .i64 0,.int .i64 0] 38 (0,0))∧(w1.alloc (.cells #[.string r.nm,.int .i64 xt,.int .i64 xh,.int .i64 xe,.slice ua ws.length uc] 45)).drew.heap[w.heap.size+1+1]?=some (.cells #[.string r.nm,.int .i64 xt,.int .i64 xh,.int .i64 xe,.slice ua ws.length uc] 45 (0,0))∧Below w.heap.size w (w1.alloc (.cells #[.string r.nm,.int .i64 xt,.int .i64 xh,.int .i64 xe,.slice ua ws.length uc] 45)).drew):=by
   have hb:=((Below.refl _ w1).alloc (Nat.le_refl _) (.cells #[.string r.nm,.int .i64 xt,.int .i64 xh,.int .i64 xe,.slice ua ws.length uc] 45)).drew
   exact ⟨(hb.block _ (Array.getElem?_eq_some_iff.1 HB.out.2.1).1).trans HB.out.2.1,(hb.block _ (Array.getElem?_eq_some_iff.1 HB.out.2.2).1).trans HB.out.2.2,by have e:=zAJ w1 #[.string r.nm,.int .i64 xt,.int .i64 xh,.int .i64 xe,.slice ua ws.length uc] 45;rw [HSZ.out] at e;exact e,(HB.out.1.alloc HB.out.1.size _).drew⟩
  rw [HSZ.out]
  clear p2 q4 hlk1 hlk2 hlk3 HCL
  try clear hlen
  generalize (w1.alloc (.cells #[.string r.nm,.int .i64 xt,.int .i64 xh,.int .i64 xe,.slice ua ws.length uc] 45)).drew=w2 at HE ⊢
  obtain ⟨l0,m0⟩:=zAA HE.out.2.2.1 0 rfl
  obtain ⟨l1,m1⟩:=zAA HE.out.2.2.1 1 rfl
  obtain ⟨l2,m2⟩:=zAA HE.out.2.2.1 2 rfl
  obtain ⟨l3,m3⟩:=zAA HE.out.2.2.1 3 rfl
  obtain ⟨l4,m4⟩:=zAA HE.out.2.2.1 4 rfl
  have q0:=(zAA HE.out.1 0 rfl).1
  have q1:=(zAA HE.out.1 1 rfl).1
  have q2:=(zAA HE.out.1 2 rfl).1
  have q3:=(zAA HE.out.1 3 rfl).1
  have q4:=(zAA HE.out.1 4 rfl).1
  have HX:Hid (∀ W,Below w2.heap.size w2 W→W.heap[w.heap.size]?=some (.cells #[.int .i64 r.cl,.int .i64 r.st,.int .i64 r.kd,.int .i64 r.le,.string r.nm] 42 (0,0))∧W.heap[w.heap.size+1]?=some (.cells #[.int .i64 0,.int .i64 0,.int .i64 0,.int .i64 0] 38 (0,0))∧W.heap[w.heap.size+1+1]?=some (.cells #[.string r.nm,.int .i64 xt,.int .i64 xh,.int .i64 xe,.slice ua ws.length uc] 45 (0,0))∧Below w.heap.size w W):=fun W hW=>⟨(hW.block _ (Array.getElem?_eq_some_iff.1 HE.out.1).1).trans HE.out.1,(hW.block _ (Array.getElem?_eq_some_iff.1 HE.out.2.1).1).trans HE.out.2.1,(hW.block _ (Array.getElem?_eq_some_iff.1 HE.out.2.2.1).1).trans HE.out.2.2.1,HE.out.2.2.2.trans (hW.mono HE.out.2.2.2.size)⟩
  have HSD:Hid (Calls Tryz.prog 120 #[.agg #[.string r.nm,.int .i64 xt,.int .i64 xh,.int .i64 xe,.slice ua ws.length uc]] w2 fun e w'=>e=.returned (.int .i64 (stK ⟨r.nm,xt,xh,xe,ws⟩))∧Below w2.heap.size w2 w'):=zAh ⟨r.nm,xt,xh,xe,ws⟩ ua ws.length uc w2
  go_upto_region 9 with (go_at_call 120;go_must (refine HSD.out.mono ?_;rintro e w3 ⟨rfl,b3⟩;have H3:Hid (w3.heap[w.heap.size]?=some (.cells #[.int .i64 r.cl,.int .i64 r.st,.int .i64 r.kd,.int .i64 r.le,.string r.nm] 42 (0,0))∧w3.heap[w.heap.size+1]?=some (.cells #[.int .i64 0,.int .i64 0,.int .i64 0,.int .i64 0] 38 (0,0))∧w3.heap[w.heap.size+1+1]?=some (.cells #[.string r.nm,.int .i64 xt,.int .i64 xh,.int .i64 xe,.slice ua ws.length uc] 45 (0,0))∧Below w.heap.size w w3):=HX.out w3 b3;clear b3;clear l0 m0 l1 m1 l2 m2 l3 m3 l4 m4 q0 q1 q2 q3 q4;obtain ⟨l0,m0⟩:=zAA H3.out.2.2.1 0 rfl;obtain ⟨l1,m1⟩:=zAA H3.out.2.2.1 1 rfl;obtain ⟨l2,m2⟩:=zAA H3.out.2.2.1 2 rfl;obtain ⟨l3,m3⟩:=zAA H3.out.2.2.1 3 rfl;obtain ⟨l4,m4⟩:=zAA H3.out.2.2.1 4 rfl;have q0:=(zAA H3.out.1 0 rfl).1;have q1:=(zAA H3.out.1 1 rfl).1;have q2:=(zAA H3.out.1 2 rfl).1;have q3:=(zAA H3.out.1 3 rfl).1;have q4:=(zAA H3.out.1 4 rfl).1))
  clear HX HSD
  have hb1:(r.kd == 1)=false:=by rw [HKI.out];rfl
  have hb2:(r.kd == 2)=false:=by rw [HKI.out];rfl
  have hb3:(r.kd == 3)=false:=by rw [HKI.out];rfl
  go_upto_region 16 with fail
  clear l0 m0 l1 m1 l2 m2 l3 m3 l4 m4 q0 q1 q2 q3 q4
  have HF:Hid (w3.heap[w.heap.size+1]?=some (.cells #[.int .i64 0,.int .i64 0,.int .i64 0,.int .i64 0] 38 (0,0))∧w3.heap[w.heap.size+1+1]?=some (.cells #[.string r.nm,.int .i64 xt,.int .i64 xh,.int .i64 xe,.slice ua ws.length uc] 45 (0,0))∧AcP w w3 B p bL bS T.tm T.nx (.slice ua ws.length uc) (.slice ua ws.length uc) ws):=⟨H3.out.2.1,H3.out.2.2.1,HAC.out w3 H3.out.2.2.2⟩
  generalize w3=w5 at HF ⊢
  obtain ⟨w6,hup,hbk,hg6⟩:=bk_put (T':=⟨T.tm,T.nx,T.ls.set k ⟨r.nm,xt,xh,xe,ws⟩,T.ss⟩) HH.out HOK.out (q':=(⟨r.nm,xt,xh,xe,ws⟩,ua,uc)) rfl HF.out.2.2 (Below.refl _ _).drew rfl rfl HNM.out.1 HNM.out.2.1 HNM.out.2.2
  have hup2:(Instr.mapUpdate 106 (.map (some bL)) (.string r.nm) (.agg #[.string r.nm,.int .i64 xt,.int .i64 xh,.int .i64 xe,.slice ua ws.length uc])).run Tryz.prog w5.drew=.ok () w6:=hup
  have H6:Hid ((w6.heap[w.heap.size+1]?=some (.cells #[.int .i64 0,.int .i64 0,.int .i64 0,.int .i64 0] 38 (0,0))∧w6.heap[w.heap.size+1+1]?=some (.cells #[.string r.nm,.int .i64 xt,.int .i64 xh,.int .i64 xe,.slice ua ws.length uc] 45 (0,0)))∧(∃ qs,BK w0 w6 B p bL bS ⟨T.tm,T.nx,(T.ls.set k ⟨r.nm,xt,xh,xe,ws⟩),T.ss⟩ qs)∧Fx p bL bS w w6):=⟨⟨up_blk HH.out hg6 HF.out.1 (by omega),up_blk HH.out hg6 HF.out.2.1 (by omega)⟩,⟨_,hbk⟩,fx_acp HO.out HF.out.2.2 (Below.refl _ _).drew hg6⟩
  have C5:w5.cell? ⟨w.heap.size+1+1,0,none⟩=some (.string r.nm)∧w5.cell? ⟨w.heap.size+1+1,1,none⟩=some (.int .i64 xt)∧w5.cell? ⟨w.heap.size+1+1,2,none⟩=some (.int .i64 xh)∧w5.cell? ⟨w.heap.size+1+1,3,none⟩=some (.int .i64 xe)∧w5.cell? ⟨w.heap.size+1+1,4,none⟩=some (.slice ua ws.length uc)∧w5.cell? ⟨p,2,none⟩=some (.map (some bL)):=⟨(zAA HF.out.2.1 0 rfl).1,(zAA HF.out.2.1 1 rfl).1,(zAA HF.out.2.1 2 rfl).1,(zAA HF.out.2.1 3 rfl).1,(zAA HF.out.2.1 4 rfl).1,(zAA HF.out.2.2.hp 2 rfl).1⟩
  have C5d:w5.drew.cell? ⟨w.heap.size+1+1,0,none⟩=some (.string r.nm)∧w5.drew.cell? ⟨w.heap.size+1+1,1,none⟩=some (.int .i64 xt)∧w5.drew.cell? ⟨w.heap.size+1+1,2,none⟩=some (.int .i64 xh)∧w5.drew.cell? ⟨w.heap.size+1+1,3,none⟩=some (.int .i64 xe)∧w5.drew.cell? ⟨w.heap.size+1+1,4,none⟩=some (.slice ua ws.length uc)∧w5.drew.cell? ⟨p,2,none⟩=some (.map (some bL)):=C5
  have C6:w6.cell? ⟨w.heap.size+1+1,0,none⟩=some (.string r.nm)∧w6.cell? ⟨w.heap.size+1+1,1,none⟩=some (.int .i64 xt)∧w6.cell? ⟨w.heap.size+1+1,2,none⟩=some (.int .i64 xh)∧w6.cell? ⟨w.heap.size+1+1,3,none⟩=some (.int .i64 xe)∧w6.cell? ⟨w.heap.size+1+1,4,none⟩=some (.slice ua ws.length uc)∧w6.cell? ⟨p,2,none⟩=some (.map (some bL)):=⟨(zAA H6.out.1.2 0 rfl).1,(zAA H6.out.1.2 1 rfl).1,(zAA H6.out.1.2 2 rfl).1,(zAA H6.out.1.2 3 rfl).1,(zAA H6.out.1.2 4 rfl).1,by obtain ⟨_,hq⟩:=H6.out.2.1;exact (zAA hq.hp 2 rfl).1⟩
  clear hup hbk hg6
  go_region_held_law (fun W=>W.cell? ⟨w.heap.size+1+1,0,none⟩=some (.string r.nm)∧W.cell? ⟨w.heap.size+1+1,1,none⟩=some (.int .i64 xt)∧W.cell? ⟨w.heap.size+1+1,2,none⟩=some (.int .i64 xh)∧W.cell? ⟨w.heap.size+1+1,3,none⟩=some (.int .i64 xe)∧W.cell? ⟨w.heap.size+1+1,4,none⟩=some (.slice ua ws.length uc)∧W.cell? ⟨p,2,none⟩=some (.map (some bL))) (first | with_reducible exact C5 | with_reducible exact C5d | with_reducible exact C6) (fail)
  all_goals
   obtain ⟨c0,c1,c2,c3,c4x,c5⟩:=C6
   clear C5 C5d hup2
   obtain ⟨a0,b0⟩:=zAA H6.out.1.1 0 rfl
   obtain ⟨a1,b1⟩:=zAA H6.out.1.1 1 rfl
   obtain ⟨a2,b2⟩:=zAA H6.out.1.1 2 rfl
   obtain ⟨a3,b3⟩:=zAA H6.out.1.1 3 rfl
   go_wp2_with fail
   have HG:Hid (((((w6.setCell ⟨w.heap.size+1,0,none⟩ (.int .i64 (stK ⟨r.nm,xt,xh,xe,ws⟩))).setCell ⟨w.heap.size+1,1,none⟩ (.int .i64 xt)).setCell ⟨w.heap.size+1,2,none⟩ (.int .i64 xh)).setCell ⟨w.heap.size+1,3,none⟩ (.int .i64 xe)).heap[w.heap.size+1]?=some (.cells #[.int .i64 (stK ⟨r.nm,xt,xh,xe,ws⟩),.int .i64 xt,.int .i64 xh,.int .i64 xe] 38 (0,0))∧(∃ qs,BK w0 ((((w6.setCell ⟨w.heap.size+1,0,none⟩ (.int .i64 (stK ⟨r.nm,xt,xh,xe,ws⟩))).setCell ⟨w.heap.size+1,1,none⟩ (.int .i64 xt)).setCell ⟨w.heap.size+1,2,none⟩ (.int .i64 xh)).setCell ⟨w.heap.size+1,3,none⟩ (.int .i64 xe)) B p bL bS ⟨T.tm,T.nx,(T.ls.set k ⟨r.nm,xt,xh,xe,ws⟩),T.ss⟩ qs)∧Fx p bL bS w ((((w6.setCell ⟨w.heap.size+1,0,none⟩ (.int .i64 (stK ⟨r.nm,xt,xh,xe,ws⟩))).setCell ⟨w.heap.size+1,1,none⟩ (.int .i64 xt)).setCell ⟨w.heap.size+1,2,none⟩ (.int .i64 xh)).setCell ⟨w.heap.size+1,3,none⟩ (.int .i64 xe))):=zAz H6.out.1.1 H6.out.2.1 H6.out.2.2 (by have:=HPL.out;omega) _ _ _ _
   generalize ((((w6.setCell ⟨w.heap.size+1,0,none⟩ (.int .i64 (stK ⟨r.nm,xt,xh,xe,ws⟩))).setCell ⟨w.heap.size+1,1,none⟩ (.int .i64 xt)).setCell ⟨w.heap.size+1,2,none⟩ (.int .i64 xh)).setCell ⟨w.heap.size+1,3,none⟩ (.int .i64 xe))=wf at HG ⊢
   have d0:=(zAA HG.out.1 0 (x:=.int .i64 (stK ⟨r.nm,xt,xh,xe,ws⟩)) rfl).1
   have d1:=(zAA HG.out.1 1 (x:=.int .i64 xt) rfl).1
   have d2:=(zAA HG.out.1 2 (x:=.int .i64 xh) rfl).1
   have d3:=(zAA HG.out.1 3 (x:=.int .i64 xe) rfl).1
   exact bodyPost_ret (v:=.agg #[.int .i64 (stK ⟨r.nm,xt,xh,xe,ws⟩),.int .i64 xt,.int .i64 xh,.int .i64 xe]) (by simp [results,Tryz.results93,go_sem,d0,d1,d2,d3]) rfl ⟨rfl,HG.out.2⟩
end
end Go.Proofs.YticokpbelgpfmaaGreat.Jx4
namespace Go.Proofs.YticokpbelgpfmaaGreat.Jx5
open Go.RowKit By Ap Tb Tw Mw Wa Bk Tp Da Ja Jb Jc
open Lo (LkA uV clL OwnL zAG zAK Apart zAP zAX)
open Jx0
open Tx (zAA zAC zAE zAJ zAD)
open Rq Je Jf Jd Jh Jl Jr Jt Ju Jv Jw
section
variable {w0 w:World} {B p bL bS:Nat} {T:Tab} {ps:List LkA}
theorem below_five {w1:World} (h:Below w.heap.size w w1) {y:Nat} (hy:w.heap.size≤y) (a b c d f:Value):Below w.heap.size w (((((w1.setCell ⟨y,0,none⟩ a).setCell ⟨y,1,none⟩ b).setCell ⟨y,2,none⟩ c).setCell ⟨y,3,none⟩ d).setCell ⟨y,4,none⟩ f) :=
 Below.setCell (Below.setCell (Below.setCell (Below.setCell (Below.setCell h (p:=⟨y,0,none⟩) hy a) (p:=⟨y,1,none⟩) hy b) (p:=⟨y,2,none⟩) hy c) (p:=⟨y,3,none⟩) hy d) (p:=⟨y,4,none⟩) hy f
set_option maxRecDepth 100000 in
set_option maxHeartbeats 3200000 in
theorem do_new (h:BK w0 w B p bL bS T ps) (r:Da.Ask) (hkd:r.kd=1) (ht0:0≤T.tm) (ht1:T.tm≤1000000000) (hn0:1≤T.nx) (hn1:T.nx≤999999) (hle:0≤r.le∧r.le≤1000) (hnz:r.nm.size≤1000000) (hnn:∀ x ∈ ps,x.1.n ≠ r.nm) (hl4:ps.length≤3) {y:Lk} {nz K:Int} (hy:acL T.tm T.nx r ⟨r.nm,0,-1,0,([]:List Wt)⟩=y) (hnx:acN T.nx r ⟨r.nm,0,-1,0,([]:List Wt)⟩=nz) (hK:acK r ⟨r.nm,0,-1,0,([]:List Wt)⟩=K) (hnm:NmA (putAt T.ls (plc T.ls r.nm) y)) (hsn:∀ x ∈ (putAt T.ls (plc T.ls r.nm) y),x.n.size≤1000000) (hpl:ps.length≤1000) :
 Calls Tryz.prog 93 #[.pointer (some ⟨p,0,none⟩),rqA r] w fun e w'=>e=.returned (anV (tell K y))∧(∃ qs,BK w0 w' B p bL bS ⟨T.tm,nz,(putAt T.ls (plc T.ls r.nm) y),T.ss⟩ qs)∧Fx p bL bS w w':=by
 obtain ⟨yn,yt,yh,ye,yw⟩:=y
 obtain rfl:yn=r.nm:=by have:=zBT T.tm T.nx r ⟨r.nm,0,-1,0,([]:List Wt)⟩;rw [hy] at this;exact this
 have HH:Hid (BK w0 w B p bL bS T ps):=h
 have HPL:Hid (p<w.heap.size∧B≤w.heap.size):=⟨h.plt,h.size⟩
 have HB:Hid (Below w.heap.size w ((w.alloc (.cells #[.int .i64 r.cl,.int .i64 r.st,.int .i64 r.kd,.int .i64 r.le,.string r.nm] 42)).alloc (.cells #[.int .i64 0,.int .i64 0,.int .i64 0,.int .i64 0] 38))∧((w.alloc (.cells #[.int .i64 r.cl,.int .i64 r.st,.int .i64 r.kd,.int .i64 r.le,.string r.nm] 42)).alloc (.cells #[.int .i64 0,.int .i64 0,.int .i64 0,.int .i64 0] 38)).heap[w.heap.size]?=some (.cells #[.int .i64 r.cl,.int .i64 r.st,.int .i64 r.kd,.int .i64 r.le,.string r.nm] 42 (0,0))∧((w.alloc (.cells #[.int .i64 r.cl,.int .i64 r.st,.int .i64 r.kd,.int .i64 r.le,.string r.nm] 42)).alloc (.cells #[.int .i64 0,.int .i64 0,.int .i64 0,.int .i64 0] 38)).heap[w.heap.size+1]?=some (.cells #[.int .i64 0,.int .i64 0,.int .i64 0,.int .i64 0] 38 (0,0))):=⟨bel2 _ _ _,(zAP w _ _).1,(zAP w _ _).2⟩
 have HLO:Hid (∀ W,Below w.heap.size w W→(Instr.lookup 106 (.map (some bL)) (.string r.nm) true).run Tryz.prog W=.ok (.tuple #[.agg #[.string ⟨#[]⟩,.int .i64 0,.int .i64 0,.int .i64 0,.slice none 0 0],.bool false]) W):=fun W hW=>lookL_no (zAR HH.out.ml (hW.block bL HH.out.llt)) hnn hnz
 have HO:Hid (OwnO w B (.slice none 0 0) []):=.inl ⟨rfl,rfl⟩
 have HNM:Hid (NmA (putAt T.ls (plc T.ls r.nm) ⟨r.nm,yt,yh,ye,yw⟩)∧(∀ x ∈ (putAt T.ls (plc T.ls r.nm) ⟨r.nm,yt,yh,ye,yw⟩),x.n.size≤1000000)∧ps.length≤1000):=⟨hnm,hsn,hpl⟩
 have HY:Hid (acL T.tm T.nx r ⟨r.nm,0,-1,0,([]:List Wt)⟩=⟨r.nm,yt,yh,ye,yw⟩∧acN T.nx r ⟨r.nm,0,-1,0,([]:List Wt)⟩=nz∧acK r ⟨r.nm,0,-1,0,([]:List Wt)⟩=K):=⟨hy,hnx,hK⟩
 clear hy hnx hK hnm hsn hpl
 have HNN:Hid (∀ x ∈ ps,x.1.n ≠ r.nm):=hnn
 have hcap:([]:List Wt).length≤4:=by simp
 have hb4:¬ (4:Int)≤(ps.length:Int):=by omega
 have hb5:(ps.length:Int)<4:=by omega
 have hb6:decide ((4:Int)≤(ps.length:Int))=false:=by simp;omega
 clear hnn hl4
 have HKI:Hid (r.kd=1):=hkd
 clear h hkd
 unfold rqA
 go_enter Tryz.func93,Tryz.ntmps93
 go_upto_region 1 with fail
 have HSZ:Hid (((w.alloc (.cells #[.int .i64 r.cl,.int .i64 r.st,.int .i64 r.kd,.int .i64 r.le,.string r.nm] 42)).alloc (.cells #[.int .i64 0,.int .i64 0,.int .i64 0,.int .i64 0] 38)).heap.size=w.heap.size+1+1):=by show _=_;rw [Bk.zAL,Bk.zAL]
 obtain ⟨w1,hw1⟩ : ∃ w1,((w.alloc (.cells #[.int .i64 r.cl,.int .i64 r.st,.int .i64 r.kd,.int .i64 r.le,.string r.nm] 42)).alloc (.cells #[.int .i64 0,.int .i64 0,.int .i64 0,.int .i64 0] 38))=w1:=⟨_,rfl⟩
 rw [hw1] at HB HSZ ⊢
 clear hw1
 have HCL:Hid (∀ W,Below w1.heap.size w1 W→W.cell? ⟨p,2,none⟩=some (.map (some bL))∧W.cell? ⟨w.heap.size,4,none⟩=some (.string r.nm)):=fun W hW=>⟨(zAA (HH.out.up (HB.out.1.trans (hW.mono HB.out.1.size))).hp 2 rfl).1,(zAA ((hW.block _ (Array.getElem?_eq_some_iff.1 HB.out.2.1).1).trans HB.out.2.1) 4 rfl).1⟩
 obtain ⟨p2,q4⟩:=HCL.out w1 (Below.refl _ _)
 have hlk1:=HLO.out w1 HB.out.1
 have hlk2:=HLO.out w1.drew HB.out.1.drew
 have hlk3:=HLO.out (w1.alloc (.cells #[.string ⟨#[]⟩,.int .i64 0,.int .i64 0,.int .i64 0,.slice none 0 0] 45)).drew (HB.out.1.alloc HB.out.1.size _).drew
 go_region_held_law (fun W=>W.cell? ⟨p,2,none⟩=some (.map (some bL))∧W.cell? ⟨w.heap.size,4,none⟩=some (.string r.nm)) (first | with_reducible exact ⟨p2,q4⟩ | with_reducible exact HCL.out _ (Below.refl _ _).drew | with_reducible exact HCL.out _ ((Below.refl _ _).alloc (Nat.le_refl _) _).drew) (fail)
 all_goals
  have HN:Hid ((w1.alloc (.cells #[.string ⟨#[]⟩,.int .i64 0,.int .i64 0,.int .i64 0,.slice none 0 0] 45)).drew.heap[w.heap.size]?=some (.cells #[.int .i64 r.cl,.int .i64 r.st,.int .i64 r.kd,.int .i64 r.le,.string r.nm] 42 (0,0))∧(w1.alloc (.cells #[.string ⟨#[]⟩,.int .i64 0,.int .i64 0,.int .i64 0,.slice none 0 0] 45)).drew.heap[w.heap.size+1]?=some (.cells #[.int .i64 0,.int .i64 0,.int .i64 0,.int .i64 0] 38 (0,0))∧(w1.alloc (.cells #[.string ⟨#[]⟩,.int .i64 0,.int .i64 0,.int .i64 0,.slice none 0 0] 45)).drew.heap[w.heap.size+1+1]?=some (.cells #[.string ⟨#[]⟩,.int .i64 0,.int .i64 0,.int .i64 0,.slice none 0 0] 45 (0,0))∧Below w.heap.size w (w1.alloc (.cells #[.string ⟨#[]⟩,.int .i64 0,.int .i64 0,.int .i64 0,.slice none 0 0] 45)).drew):=by
   have hb:=((Below.refl _ w1).alloc (Nat.le_refl _) (.cells #[.string ⟨#[]⟩,.int .i64 0,.int .i64 0,.int .i64 0,.slice none 0 0] 45)).drew
   exact ⟨(hb.block _ (Array.getElem?_eq_some_iff.1 HB.out.2.1).1).trans HB.out.2.1,(hb.block _ (Array.getElem?_eq_some_iff.1 HB.out.2.2).1).trans HB.out.2.2,by have e:=zAJ w1 #[.string ⟨#[]⟩,.int .i64 0,.int .i64 0,.int .i64 0,.slice none 0 0] 45;rw [HSZ.out] at e;exact e,(HB.out.1.alloc HB.out.1.size _).drew⟩
  rw [HSZ.out]
  clear p2 q4 hlk1 hlk2 hlk3 HCL
  generalize (w1.alloc (.cells #[.string ⟨#[]⟩,.int .i64 0,.int .i64 0,.int .i64 0,.slice none 0 0] 45)).drew=wn at HN ⊢
  have p2:=(zAA (HH.out.up HN.out.2.2.2).hp 2 (x:=.map (some bL)) rfl).1
  have hlen:(Builtin.len_ #[106] 3 #[.map (some bL)]).run Tryz.prog wn=.ok (.int .i64 (ps.length:Int)) wn:=by
   have e:=(HH.out.up HN.out.2.2.2).ml.len Tryz.underlying106 3
   rw [show Maps.size (mL ps)=ps.length from zAe ps] at e
   exact e
  obtain ⟨l0,m0⟩:=zAA HN.out.2.2.1 0 rfl
  obtain ⟨l1,m1⟩:=zAA HN.out.2.2.1 1 rfl
  obtain ⟨l2,m2⟩:=zAA HN.out.2.2.1 2 rfl
  obtain ⟨l3,m3⟩:=zAA HN.out.2.2.1 3 rfl
  obtain ⟨l4,m4⟩:=zAA HN.out.2.2.1 4 rfl
  have q0:=(zAA HN.out.1 0 rfl).1
  have q1:=(zAA HN.out.1 1 rfl).1
  have q2:=(zAA HN.out.1 2 rfl).1
  have q3:=(zAA HN.out.1 3 rfl).1
  have q4:=(zAA HN.out.1 4 rfl).1
  have hb0:(r.kd != 1)=false:=by rw [HKI.out];rfl
  go_upto_region 8 with fail
  have HE:Hid ((((((wn.setCell ⟨w.heap.size+1+1,0,none⟩ (.string r.nm)).setCell ⟨w.heap.size+1+1,1,none⟩ (.int .i64 0)).setCell ⟨w.heap.size+1+1,2,none⟩ (.int .i64 (-1))).setCell ⟨w.heap.size+1+1,3,none⟩ (.int .i64 0)).setCell ⟨w.heap.size+1+1,4,none⟩ (.slice none 0 0)).heap[w.heap.size]?=some (.cells #[.int .i64 r.cl,.int .i64 r.st,.int .i64 r.kd,.int .i64 r.le,.string r.nm] 42 (0,0))∧(((((wn.setCell ⟨w.heap.size+1+1,0,none⟩ (.string r.nm)).setCell ⟨w.heap.size+1+1,1,none⟩ (.int .i64 0)).setCell ⟨w.heap.size+1+1,2,none⟩ (.int .i64 (-1))).setCell ⟨w.heap.size+1+1,3,none⟩ (.int .i64 0)).setCell ⟨w.heap.size+1+1,4,none⟩ (.slice none 0 0)).heap[w.heap.size+1]?=some (.cells #[.int .i64 0,.int .i64 0,.int .i64 0,.int .i64 0] 38 (0,0))∧(((((wn.setCell ⟨w.heap.size+1+1,0,none⟩ (.string r.nm)).setCell ⟨w.heap.size+1+1,1,none⟩ (.int .i64 0)).setCell ⟨w.heap.size+1+1,2,none⟩ (.int .i64 (-1))).setCell ⟨w.heap.size+1+1,3,none⟩ (.int .i64 0)).setCell ⟨w.heap.size+1+1,4,none⟩ (.slice none 0 0)).heap[w.heap.size+1+1]?=some (.cells #[.string r.nm,.int .i64 0,.int .i64 (-1),.int .i64 0,.slice none 0 0] 45 (0,0))∧Below w.heap.size w (((((wn.setCell ⟨w.heap.size+1+1,0,none⟩ (.string r.nm)).setCell ⟨w.heap.size+1+1,1,none⟩ (.int .i64 0)).setCell ⟨w.heap.size+1+1,2,none⟩ (.int .i64 (-1))).setCell ⟨w.heap.size+1+1,3,none⟩ (.int .i64 0)).setCell ⟨w.heap.size+1+1,4,none⟩ (.slice none 0 0))):=⟨(far5 (by omega) _ _ _ _ _).trans HN.out.1,(far5 (by omega) _ _ _ _ _).trans HN.out.2.1,set5 HN.out.2.2.1 _ _ _ _ _,below_five HN.out.2.2.2 (by omega) _ _ _ _ _⟩
  clear l0 m0 l1 m1 l2 m2 l3 m3 l4 m4 q0 q1 q2 q3 q4
  clear p2 hlen hb0
  generalize (((((wn.setCell ⟨w.heap.size+1+1,0,none⟩ (.string r.nm)).setCell ⟨w.heap.size+1+1,1,none⟩ (.int .i64 0)).setCell ⟨w.heap.size+1+1,2,none⟩ (.int .i64 (-1))).setCell ⟨w.heap.size+1+1,3,none⟩ (.int .i64 0)).setCell ⟨w.heap.size+1+1,4,none⟩ (.slice none 0 0))=w2 at HE ⊢
  obtain ⟨l0,m0⟩:=zAA HE.out.2.2.1 0 rfl
  obtain ⟨l1,m1⟩:=zAA HE.out.2.2.1 1 rfl
  obtain ⟨l2,m2⟩:=zAA HE.out.2.2.1 2 rfl
  obtain ⟨l3,m3⟩:=zAA HE.out.2.2.1 3 rfl
  obtain ⟨l4,m4⟩:=zAA HE.out.2.2.1 4 rfl
  have q0:=(zAA HE.out.1 0 rfl).1
  have q1:=(zAA HE.out.1 1 rfl).1
  have q2:=(zAA HE.out.1 2 rfl).1
  have q3:=(zAA HE.out.1 3 rfl).1
  have q4:=(zAA HE.out.1 4 rfl).1
  have HX:Hid (∀ W,Below w2.heap.size w2 W→W.heap[w.heap.size]?=some (.cells #[.int .i64 r.cl,.int .i64 r.st,.int .i64 r.kd,.int .i64 r.le,.string r.nm] 42 (0,0))∧W.heap[w.heap.size+1]?=some (.cells #[.int .i64 0,.int .i64 0,.int .i64 0,.int .i64 0] 38 (0,0))∧W.heap[w.heap.size+1+1]?=some (.cells #[.string r.nm,.int .i64 0,.int .i64 (-1),.int .i64 0,.slice none 0 0] 45 (0,0))∧Below w.heap.size w W):=fun W hW=>⟨(hW.block _ (Array.getElem?_eq_some_iff.1 HE.out.1).1).trans HE.out.1,(hW.block _ (Array.getElem?_eq_some_iff.1 HE.out.2.1).1).trans HE.out.2.1,(hW.block _ (Array.getElem?_eq_some_iff.1 HE.out.2.2.1).1).trans HE.out.2.2.1,HE.out.2.2.2.trans (hW.mono HE.out.2.2.2.size)⟩
  have HSD:Hid (Calls Tryz.prog 120 #[.agg #[.string r.nm,.int .i64 0,.int .i64 (-1),.int .i64 0,.slice none 0 0]] w2 fun e w'=>e=.returned (.int .i64 (stK ⟨r.nm,0,-1,0,([]:List Wt)⟩))∧Below w2.heap.size w2 w'):=zAh ⟨r.nm,0,-1,0,([]:List Wt)⟩ none 0 0 w2
  go_upto_region 9 with (go_at_call 120;go_must (refine HSD.out.mono ?_;rintro e w3 ⟨rfl,b3⟩;have H3:Hid (w3.heap[w.heap.size]?=some (.cells #[.int .i64 r.cl,.int .i64 r.st,.int .i64 r.kd,.int .i64 r.le,.string r.nm] 42 (0,0))∧w3.heap[w.heap.size+1]?=some (.cells #[.int .i64 0,.int .i64 0,.int .i64 0,.int .i64 0] 38 (0,0))∧w3.heap[w.heap.size+1+1]?=some (.cells #[.string r.nm,.int .i64 0,.int .i64 (-1),.int .i64 0,.slice none 0 0] 45 (0,0))∧Below w.heap.size w w3):=HX.out w3 b3;clear b3;clear l0 m0 l1 m1 l2 m2 l3 m3 l4 m4 q0 q1 q2 q3 q4;obtain ⟨l0,m0⟩:=zAA H3.out.2.2.1 0 rfl;obtain ⟨l1,m1⟩:=zAA H3.out.2.2.1 1 rfl;obtain ⟨l2,m2⟩:=zAA H3.out.2.2.1 2 rfl;obtain ⟨l3,m3⟩:=zAA H3.out.2.2.1 3 rfl;obtain ⟨l4,m4⟩:=zAA H3.out.2.2.1 4 rfl;have q0:=(zAA H3.out.1 0 rfl).1;have q1:=(zAA H3.out.1 1 rfl).1;have q2:=(zAA H3.out.1 2 rfl).1;have q3:=(zAA H3.out.1 3 rfl).1;have q4:=(zAA H3.out.1 4 rfl).1))
  clear HX HSD
  have hb1:(r.kd == 1)=true:=by rw [HKI.out];rfl
  have HAQ:Hid (Calls Tryz.prog 121 #[.pointer (some ⟨p,0,none⟩),.agg #[.string r.nm,.int .i64 0,.int .i64 (-1),.int .i64 0,.slice none 0 0],.agg #[.int .i64 r.cl,.int .i64 r.st,.int .i64 r.kd,.int .i64 r.le,.string r.nm]] w3 fun e w'=>∃ a4 c4,e=.returned (.tuple #[.agg #[.string r.nm,.int .i64 yt,.int .i64 yh,.int .i64 ye,.slice a4 yw.length c4],.int .i64 K])∧AcP w3 w' B p bL bS T.tm nz (.slice none 0 0) (.slice a4 yw.length c4) yw):=by
   have h0:=acquire_any (HH.out.up H3.out.2.2.2) ⟨r.nm,0,-1,0,([]:List Wt)⟩ none 0 (HO.out.below H3.out.2.2.2) r HKI.out hle ht0 ht1 hn0 hn1 hcap
   rw [HY.out.1,HY.out.2.1,HY.out.2.2] at h0
   exact h0
  go_upto_region 16 with (go_at_call 121;go_must (refine HAQ.out.mono ?_;rintro e w4 ⟨a4,c4,rfl,hA⟩;have H4:Hid (w4.heap[w.heap.size+1]?=some (.cells #[.int .i64 0,.int .i64 0,.int .i64 0,.int .i64 0] 38 (0,0))∧w4.heap[w.heap.size+1+1]?=some (.cells #[.string r.nm,.int .i64 0,.int .i64 (-1),.int .i64 0,.slice none 0 0] 45 (0,0))∧AcP w w4 B p bL bS T.tm nz (.slice none 0 0) (.slice a4 yw.length c4) yw):=⟨acp_blk hA (HO.out.below H3.out.2.2.2) H3.out.2.1 (by have:=HPL.out.1;omega),acp_blk hA (HO.out.below H3.out.2.2.2) H3.out.2.2.1 (by have:=HPL.out.1;omega),acp_up H3.out.2.2.2 hA⟩;clear hA;clear l0 m0 l1 m1 l2 m2 l3 m3 l4 m4 q0 q1 q2 q3 q4;obtain ⟨l0,m0⟩:=zAA H4.out.2.1 0 rfl;obtain ⟨l1,m1⟩:=zAA H4.out.2.1 1 rfl;obtain ⟨l2,m2⟩:=zAA H4.out.2.1 2 rfl;obtain ⟨l3,m3⟩:=zAA H4.out.2.1 3 rfl;obtain ⟨l4,m4⟩:=zAA H4.out.2.1 4 rfl))
  have HF:Hid ((((((w4.setCell ⟨w.heap.size+1+1,0,none⟩ (.string r.nm)).setCell ⟨w.heap.size+1+1,1,none⟩ (.int .i64 yt)).setCell ⟨w.heap.size+1+1,2,none⟩ (.int .i64 yh)).setCell ⟨w.heap.size+1+1,3,none⟩ (.int .i64 ye)).setCell ⟨w.heap.size+1+1,4,none⟩ (.slice a4 yw.length c4)).heap[w.heap.size+1]?=some (.cells #[.int .i64 0,.int .i64 0,.int .i64 0,.int .i64 0] 38 (0,0))∧(((((w4.setCell ⟨w.heap.size+1+1,0,none⟩ (.string r.nm)).setCell ⟨w.heap.size+1+1,1,none⟩ (.int .i64 yt)).setCell ⟨w.heap.size+1+1,2,none⟩ (.int .i64 yh)).setCell ⟨w.heap.size+1+1,3,none⟩ (.int .i64 ye)).setCell ⟨w.heap.size+1+1,4,none⟩ (.slice a4 yw.length c4)).heap[w.heap.size+1+1]?=some (.cells #[.string r.nm,.int .i64 yt,.int .i64 yh,.int .i64 ye,.slice a4 yw.length c4] 45 (0,0))∧AcP w (((((w4.setCell ⟨w.heap.size+1+1,0,none⟩ (.string r.nm)).setCell ⟨w.heap.size+1+1,1,none⟩ (.int .i64 yt)).setCell ⟨w.heap.size+1+1,2,none⟩ (.int .i64 yh)).setCell ⟨w.heap.size+1+1,3,none⟩ (.int .i64 ye)).setCell ⟨w.heap.size+1+1,4,none⟩ (.slice a4 yw.length c4)) B p bL bS T.tm nz (.slice none 0 0) (.slice a4 yw.length c4) yw):=acp_five H4.out.1 H4.out.2.1 H4.out.2.2 HPL.out.1 (by omega) (by omega) _ _ _ _ _
  clear l0 m0 l1 m1 l2 m2 l3 m3 l4 m4
  generalize (((((w4.setCell ⟨w.heap.size+1+1,0,none⟩ (.string r.nm)).setCell ⟨w.heap.size+1+1,1,none⟩ (.int .i64 yt)).setCell ⟨w.heap.size+1+1,2,none⟩ (.int .i64 yh)).setCell ⟨w.heap.size+1+1,3,none⟩ (.int .i64 ye)).setCell ⟨w.heap.size+1+1,4,none⟩ (.slice a4 yw.length c4))=w5 at HF ⊢
  obtain ⟨w6,hup,hbk,hg6⟩:=bk_new (T':=⟨T.tm,nz,putAt T.ls (plc T.ls r.nm) ⟨r.nm,yt,yh,ye,yw⟩,T.ss⟩) HH.out (q':=(⟨r.nm,yt,yh,ye,yw⟩,a4,c4)) HNN.out HF.out.2.2 (Below.refl _ _).drew rfl rfl HNM.out.1 HNM.out.2.1 HNM.out.2.2
  have hup2:(Instr.mapUpdate 106 (.map (some bL)) (.string r.nm) (.agg #[.string r.nm,.int .i64 yt,.int .i64 yh,.int .i64 ye,.slice a4 yw.length c4])).run Tryz.prog w5.drew=.ok () w6:=hup
  have H6:Hid ((w6.heap[w.heap.size+1]?=some (.cells #[.int .i64 0,.int .i64 0,.int .i64 0,.int .i64 0] 38 (0,0))∧w6.heap[w.heap.size+1+1]?=some (.cells #[.string r.nm,.int .i64 yt,.int .i64 yh,.int .i64 ye,.slice a4 yw.length c4] 45 (0,0)))∧(∃ qs,BK w0 w6 B p bL bS ⟨T.tm,nz,(putAt T.ls (plc T.ls r.nm) ⟨r.nm,yt,yh,ye,yw⟩),T.ss⟩ qs)∧Fx p bL bS w w6):=⟨⟨up_blk HH.out hg6 HF.out.1 (by omega),up_blk HH.out hg6 HF.out.2.1 (by omega)⟩,⟨_,hbk⟩,fx_acp HO.out HF.out.2.2 (Below.refl _ _).drew hg6⟩
  have C5:w5.cell? ⟨w.heap.size+1+1,0,none⟩=some (.string r.nm)∧w5.cell? ⟨w.heap.size+1+1,1,none⟩=some (.int .i64 yt)∧w5.cell? ⟨w.heap.size+1+1,2,none⟩=some (.int .i64 yh)∧w5.cell? ⟨w.heap.size+1+1,3,none⟩=some (.int .i64 ye)∧w5.cell? ⟨w.heap.size+1+1,4,none⟩=some (.slice a4 yw.length c4)∧w5.cell? ⟨p,2,none⟩=some (.map (some bL)):=⟨(zAA HF.out.2.1 0 rfl).1,(zAA HF.out.2.1 1 rfl).1,(zAA HF.out.2.1 2 rfl).1,(zAA HF.out.2.1 3 rfl).1,(zAA HF.out.2.1 4 rfl).1,(zAA HF.out.2.2.hp 2 rfl).1⟩
  have C5d:w5.drew.cell? ⟨w.heap.size+1+1,0,none⟩=some (.string r.nm)∧w5.drew.cell? ⟨w.heap.size+1+1,1,none⟩=some (.int .i64 yt)∧w5.drew.cell? ⟨w.heap.size+1+1,2,none⟩=some (.int .i64 yh)∧w5.drew.cell? ⟨w.heap.size+1+1,3,none⟩=some (.int .i64 ye)∧w5.drew.cell? ⟨w.heap.size+1+1,4,none⟩=some (.slice a4 yw.length c4)∧w5.drew.cell? ⟨p,2,none⟩=some (.map (some bL)):=C5
  have C6:w6.cell? ⟨w.heap.size+1+1,0,none⟩=some (.string r.nm)∧w6.cell? ⟨w.heap.size+1+1,1,none⟩=some (.int .i64 yt)∧w6.cell? ⟨w.heap.size+1+1,2,none⟩=some (.int .i64 yh)∧w6.cell? ⟨w.heap.size+1+1,3,none⟩=some (.int .i64 ye)∧w6.cell? ⟨w.heap.size+1+1,4,none⟩=some (.slice a4 yw.length c4)∧w6.cell? ⟨p,2,none⟩=some (.map (some bL)):=⟨(zAA H6.out.1.2 0 rfl).1,(zAA H6.out.1.2 1 rfl).1,(zAA H6.out.1.2 2 rfl).1,(zAA H6.out.1.2 3 rfl).1,(zAA H6.out.1.2 4 rfl).1,by obtain ⟨_,hq⟩:=H6.out.2.1;exact (zAA hq.hp 2 rfl).1⟩
  clear hup hbk hg6
  go_region_held_law (fun W=>W.cell? ⟨w.heap.size+1+1,0,none⟩=some (.string r.nm)∧W.cell? ⟨w.heap.size+1+1,1,none⟩=some (.int .i64 yt)∧W.cell? ⟨w.heap.size+1+1,2,none⟩=some (.int .i64 yh)∧W.cell? ⟨w.heap.size+1+1,3,none⟩=some (.int .i64 ye)∧W.cell? ⟨w.heap.size+1+1,4,none⟩=some (.slice a4 yw.length c4)∧W.cell? ⟨p,2,none⟩=some (.map (some bL))) (first | with_reducible exact C5 | with_reducible exact C5d | with_reducible exact C6) (fail)
  all_goals
   obtain ⟨c0,c1,c2,c3,c4x,c5⟩:=C6
   clear C5 C5d hup2
   obtain ⟨a0,b0⟩:=zAA H6.out.1.1 0 rfl
   obtain ⟨a1,b1⟩:=zAA H6.out.1.1 1 rfl
   obtain ⟨a2,b2⟩:=zAA H6.out.1.1 2 rfl
   obtain ⟨a3,b3⟩:=zAA H6.out.1.1 3 rfl
   go_wp2_with fail
   have HG:Hid (((((w6.setCell ⟨w.heap.size+1,0,none⟩ (.int .i64 K)).setCell ⟨w.heap.size+1,1,none⟩ (.int .i64 yt)).setCell ⟨w.heap.size+1,2,none⟩ (.int .i64 yh)).setCell ⟨w.heap.size+1,3,none⟩ (.int .i64 ye)).heap[w.heap.size+1]?=some (.cells #[.int .i64 K,.int .i64 yt,.int .i64 yh,.int .i64 ye] 38 (0,0))∧(∃ qs,BK w0 ((((w6.setCell ⟨w.heap.size+1,0,none⟩ (.int .i64 K)).setCell ⟨w.heap.size+1,1,none⟩ (.int .i64 yt)).setCell ⟨w.heap.size+1,2,none⟩ (.int .i64 yh)).setCell ⟨w.heap.size+1,3,none⟩ (.int .i64 ye)) B p bL bS ⟨T.tm,nz,(putAt T.ls (plc T.ls r.nm) ⟨r.nm,yt,yh,ye,yw⟩),T.ss⟩ qs)∧Fx p bL bS w ((((w6.setCell ⟨w.heap.size+1,0,none⟩ (.int .i64 K)).setCell ⟨w.heap.size+1,1,none⟩ (.int .i64 yt)).setCell ⟨w.heap.size+1,2,none⟩ (.int .i64 yh)).setCell ⟨w.heap.size+1,3,none⟩ (.int .i64 ye))):=zAz H6.out.1.1 H6.out.2.1 H6.out.2.2 (by have:=HPL.out;omega) _ _ _ _
   generalize ((((w6.setCell ⟨w.heap.size+1,0,none⟩ (.int .i64 K)).setCell ⟨w.heap.size+1,1,none⟩ (.int .i64 yt)).setCell ⟨w.heap.size+1,2,none⟩ (.int .i64 yh)).setCell ⟨w.heap.size+1,3,none⟩ (.int .i64 ye))=wf at HG ⊢
   have d0:=(zAA HG.out.1 0 (x:=.int .i64 K) rfl).1
   have d1:=(zAA HG.out.1 1 (x:=.int .i64 yt) rfl).1
   have d2:=(zAA HG.out.1 2 (x:=.int .i64 yh) rfl).1
   have d3:=(zAA HG.out.1 3 (x:=.int .i64 ye) rfl).1
   exact bodyPost_ret (v:=.agg #[.int .i64 K,.int .i64 yt,.int .i64 yh,.int .i64 ye]) (by simp [results,Tryz.results93,go_sem,d0,d1,d2,d3]) rfl ⟨rfl,HG.out.2⟩
end
end Go.Proofs.YticokpbelgpfmaaGreat.Jx5
namespace Go.Proofs.YticokpbelgpfmaaGreat.Jx6
open Go.RowKit By Ap Tb Tw Mw Wa Bk Tp Da Ja Jb Jc
open Lo (LkA uV clL OwnL zAG zAK Apart zAP zAX)
open Jx0
open Tx (zAA zAC zAE zAJ zAD)
open Rq Je Jf Jd Jh Jl Jr Jt Ju Jv Jw
section
variable {w0 w:World} {B p bL bS:Nat} {T:Tab} {ps:List LkA}
set_option maxRecDepth 100000 in
set_option maxHeartbeats 3200000 in
theorem do_none (h:BK w0 w B p bL bS T ps) (r:Da.Ask)  (hnz:r.nm.size≤1000000) (hnn:∀ x ∈ ps,x.1.n ≠ r.nm) (hkd:¬ r.kd=1) :
 Calls Tryz.prog 93 #[.pointer (some ⟨p,0,none⟩),rqA r] w fun e w'=>e=.returned (anV (bare 3))∧(∃ qs,BK w0 w' B p bL bS T qs)∧Fx p bL bS w w':=by
 have HH:Hid (BK w0 w B p bL bS T ps):=h
 have HPL:Hid (p<w.heap.size∧B≤w.heap.size):=⟨h.plt,h.size⟩
 have HB:Hid (Below w.heap.size w ((w.alloc (.cells #[.int .i64 r.cl,.int .i64 r.st,.int .i64 r.kd,.int .i64 r.le,.string r.nm] 42)).alloc (.cells #[.int .i64 0,.int .i64 0,.int .i64 0,.int .i64 0] 38))∧((w.alloc (.cells #[.int .i64 r.cl,.int .i64 r.st,.int .i64 r.kd,.int .i64 r.le,.string r.nm] 42)).alloc (.cells #[.int .i64 0,.int .i64 0,.int .i64 0,.int .i64 0] 38)).heap[w.heap.size]?=some (.cells #[.int .i64 r.cl,.int .i64 r.st,.int .i64 r.kd,.int .i64 r.le,.string r.nm] 42 (0,0))∧((w.alloc (.cells #[.int .i64 r.cl,.int .i64 r.st,.int .i64 r.kd,.int .i64 r.le,.string r.nm] 42)).alloc (.cells #[.int .i64 0,.int .i64 0,.int .i64 0,.int .i64 0] 38)).heap[w.heap.size+1]?=some (.cells #[.int .i64 0,.int .i64 0,.int .i64 0,.int .i64 0] 38 (0,0))):=⟨bel2 _ _ _,(zAP w _ _).1,(zAP w _ _).2⟩
 have HLO:Hid (∀ W,Below w.heap.size w W→(Instr.lookup 106 (.map (some bL)) (.string r.nm) true).run Tryz.prog W=.ok (.tuple #[.agg #[.string ⟨#[]⟩,.int .i64 0,.int .i64 0,.int .i64 0,.slice none 0 0],.bool false]) W):=fun W hW=>lookL_no (zAR HH.out.ml (hW.block bL HH.out.llt)) hnn hnz
 have hb0:(r.kd != 1)=true:=by simp [hkd]
 clear hkd
 clear h hnn
 unfold rqA
 go_enter Tryz.func93,Tryz.ntmps93
 go_upto_region 1 with fail
 have HSZ:Hid (((w.alloc (.cells #[.int .i64 r.cl,.int .i64 r.st,.int .i64 r.kd,.int .i64 r.le,.string r.nm] 42)).alloc (.cells #[.int .i64 0,.int .i64 0,.int .i64 0,.int .i64 0] 38)).heap.size=w.heap.size+1+1):=by show _=_;rw [Bk.zAL,Bk.zAL]
 obtain ⟨w1,hw1⟩ : ∃ w1,((w.alloc (.cells #[.int .i64 r.cl,.int .i64 r.st,.int .i64 r.kd,.int .i64 r.le,.string r.nm] 42)).alloc (.cells #[.int .i64 0,.int .i64 0,.int .i64 0,.int .i64 0] 38))=w1:=⟨_,rfl⟩
 rw [hw1] at HB HSZ ⊢
 clear hw1
 have HCL:Hid (∀ W,Below w1.heap.size w1 W→W.cell? ⟨p,2,none⟩=some (.map (some bL))∧W.cell? ⟨w.heap.size,4,none⟩=some (.string r.nm)):=fun W hW=>⟨(zAA (HH.out.up (HB.out.1.trans (hW.mono HB.out.1.size))).hp 2 rfl).1,(zAA ((hW.block _ (Array.getElem?_eq_some_iff.1 HB.out.2.1).1).trans HB.out.2.1) 4 rfl).1⟩
 obtain ⟨p2,q4⟩:=HCL.out w1 (Below.refl _ _)
 have hlk1:=HLO.out w1 HB.out.1
 have hlk2:=HLO.out w1.drew HB.out.1.drew
 have hlk3:=HLO.out (w1.alloc (.cells #[.string ⟨#[]⟩,.int .i64 0,.int .i64 0,.int .i64 0,.slice none 0 0] 45)).drew (HB.out.1.alloc HB.out.1.size _).drew
 go_region_held_law (fun W=>W.cell? ⟨p,2,none⟩=some (.map (some bL))∧W.cell? ⟨w.heap.size,4,none⟩=some (.string r.nm)) (first | with_reducible exact ⟨p2,q4⟩ | with_reducible exact HCL.out _ (Below.refl _ _).drew | with_reducible exact HCL.out _ ((Below.refl _ _).alloc (Nat.le_refl _) _).drew) (fail)
 all_goals
  have HN:Hid ((w1.alloc (.cells #[.string ⟨#[]⟩,.int .i64 0,.int .i64 0,.int .i64 0,.slice none 0 0] 45)).drew.heap[w.heap.size]?=some (.cells #[.int .i64 r.cl,.int .i64 r.st,.int .i64 r.kd,.int .i64 r.le,.string r.nm] 42 (0,0))∧(w1.alloc (.cells #[.string ⟨#[]⟩,.int .i64 0,.int .i64 0,.int .i64 0,.slice none 0 0] 45)).drew.heap[w.heap.size+1]?=some (.cells #[.int .i64 0,.int .i64 0,.int .i64 0,.int .i64 0] 38 (0,0))∧(w1.alloc (.cells #[.string ⟨#[]⟩,.int .i64 0,.int .i64 0,.int .i64 0,.slice none 0 0] 45)).drew.heap[w.heap.size+1+1]?=some (.cells #[.string ⟨#[]⟩,.int .i64 0,.int .i64 0,.int .i64 0,.slice none 0 0] 45 (0,0))∧Below w.heap.size w (w1.alloc (.cells #[.string ⟨#[]⟩,.int .i64 0,.int .i64 0,.int .i64 0,.slice none 0 0] 45)).drew):=by
   have hb:=((Below.refl _ w1).alloc (Nat.le_refl _) (.cells #[.string ⟨#[]⟩,.int .i64 0,.int .i64 0,.int .i64 0,.slice none 0 0] 45)).drew
   exact ⟨(hb.block _ (Array.getElem?_eq_some_iff.1 HB.out.2.1).1).trans HB.out.2.1,(hb.block _ (Array.getElem?_eq_some_iff.1 HB.out.2.2).1).trans HB.out.2.2,by have e:=zAJ w1 #[.string ⟨#[]⟩,.int .i64 0,.int .i64 0,.int .i64 0,.slice none 0 0] 45;rw [HSZ.out] at e;exact e,(HB.out.1.alloc HB.out.1.size _).drew⟩
  rw [HSZ.out]
  clear p2 q4 hlk1 hlk2 hlk3 HCL
  generalize (w1.alloc (.cells #[.string ⟨#[]⟩,.int .i64 0,.int .i64 0,.int .i64 0,.slice none 0 0] 45)).drew=wn at HN ⊢
  have p2:=(zAA (HH.out.up HN.out.2.2.2).hp 2 (x:=.map (some bL)) rfl).1
  have hlen:(Builtin.len_ #[106] 3 #[.map (some bL)]).run Tryz.prog wn=.ok (.int .i64 (ps.length:Int)) wn:=by
   have e:=(HH.out.up HN.out.2.2.2).ml.len Tryz.underlying106 3
   rw [show Maps.size (mL ps)=ps.length from zAe ps] at e
   exact e
  obtain ⟨l0,m0⟩:=zAA HN.out.2.2.1 0 rfl
  obtain ⟨l1,m1⟩:=zAA HN.out.2.2.1 1 rfl
  obtain ⟨l2,m2⟩:=zAA HN.out.2.2.1 2 rfl
  obtain ⟨l3,m3⟩:=zAA HN.out.2.2.1 3 rfl
  obtain ⟨l4,m4⟩:=zAA HN.out.2.2.1 4 rfl
  have q0:=(zAA HN.out.1 0 rfl).1
  have q1:=(zAA HN.out.1 1 rfl).1
  have q2:=(zAA HN.out.1 2 rfl).1
  have q3:=(zAA HN.out.1 3 rfl).1
  have q4:=(zAA HN.out.1 4 rfl).1
  have HW:Hid (Calls Tryz.prog 92 #[.int .i64 3] wn fun e w'=>e=.returned (anV (bare 3))∧Below wn.heap.size wn w'):=zBU 3 wn
  unfold anV bare at HW
  go_wp2_with (go_at_call 92;go_must (refine HW.out.mono ?_;rintro e w6 ⟨rfl,b6⟩;have H6:Hid (w6.heap[w.heap.size+1]?=some (.cells #[.int .i64 0,.int .i64 0,.int .i64 0,.int .i64 0] 38 (0,0))∧(∃ qs,BK w0 w6 B p bL bS T qs)∧Fx p bL bS w w6):=⟨(b6.block _ (Array.getElem?_eq_some_iff.1 HN.out.2.1).1).trans HN.out.2.1,⟨_,HH.out.up (HN.out.2.2.2.trans (b6.mono HN.out.2.2.2.size))⟩,Fx.of_below (HN.out.2.2.2.trans (b6.mono HN.out.2.2.2.size))⟩;clear b6;obtain ⟨a0,b0⟩:=zAA H6.out.1 0 rfl;obtain ⟨a1,b1⟩:=zAA H6.out.1 1 rfl;obtain ⟨a2,b2⟩:=zAA H6.out.1 2 rfl;obtain ⟨a3,b3⟩:=zAA H6.out.1 3 rfl))
  have HG:Hid (((((w6.setCell ⟨w.heap.size+1,0,none⟩ (.int .i64 3)).setCell ⟨w.heap.size+1,1,none⟩ (.int .i64 0)).setCell ⟨w.heap.size+1,2,none⟩ (.int .i64 (-1))).setCell ⟨w.heap.size+1,3,none⟩ (.int .i64 0)).heap[w.heap.size+1]?=some (.cells #[.int .i64 3,.int .i64 0,.int .i64 (-1),.int .i64 0] 38 (0,0))∧(∃ qs,BK w0 ((((w6.setCell ⟨w.heap.size+1,0,none⟩ (.int .i64 3)).setCell ⟨w.heap.size+1,1,none⟩ (.int .i64 0)).setCell ⟨w.heap.size+1,2,none⟩ (.int .i64 (-1))).setCell ⟨w.heap.size+1,3,none⟩ (.int .i64 0)) B p bL bS T qs)∧Fx p bL bS w ((((w6.setCell ⟨w.heap.size+1,0,none⟩ (.int .i64 3)).setCell ⟨w.heap.size+1,1,none⟩ (.int .i64 0)).setCell ⟨w.heap.size+1,2,none⟩ (.int .i64 (-1))).setCell ⟨w.heap.size+1,3,none⟩ (.int .i64 0))):=zAz H6.out.1 H6.out.2.1 H6.out.2.2 (by have:=HPL.out;omega) _ _ _ _
  generalize ((((w6.setCell ⟨w.heap.size+1,0,none⟩ (.int .i64 3)).setCell ⟨w.heap.size+1,1,none⟩ (.int .i64 0)).setCell ⟨w.heap.size+1,2,none⟩ (.int .i64 (-1))).setCell ⟨w.heap.size+1,3,none⟩ (.int .i64 0))=wf at HG ⊢
  have d0:=(zAA HG.out.1 0 (x:=.int .i64 3) rfl).1
  have d1:=(zAA HG.out.1 1 (x:=.int .i64 0) rfl).1
  have d2:=(zAA HG.out.1 2 (x:=.int .i64 (-1)) rfl).1
  have d3:=(zAA HG.out.1 3 (x:=.int .i64 0) rfl).1
  exact bodyPost_ret (v:=.agg #[.int .i64 3,.int .i64 0,.int .i64 (-1),.int .i64 0]) (by simp [results,Tryz.results93,go_sem,d0,d1,d2,d3]) rfl ⟨rfl,HG.out.2⟩
set_option maxRecDepth 100000 in
set_option maxHeartbeats 3200000 in
theorem do_full (h:BK w0 w B p bL bS T ps) (r:Da.Ask)  (hnz:r.nm.size≤1000000) (hnn:∀ x ∈ ps,x.1.n ≠ r.nm) (hkd:r.kd=1) (hl4:4≤ps.length) :
 Calls Tryz.prog 93 #[.pointer (some ⟨p,0,none⟩),rqA r] w fun e w'=>e=.returned (anV (bare 6))∧(∃ qs,BK w0 w' B p bL bS T qs)∧Fx p bL bS w w':=by
 have HH:Hid (BK w0 w B p bL bS T ps):=h
 have HPL:Hid (p<w.heap.size∧B≤w.heap.size):=⟨h.plt,h.size⟩
 have HB:Hid (Below w.heap.size w ((w.alloc (.cells #[.int .i64 r.cl,.int .i64 r.st,.int .i64 r.kd,.int .i64 r.le,.string r.nm] 42)).alloc (.cells #[.int .i64 0,.int .i64 0,.int .i64 0,.int .i64 0] 38))∧((w.alloc (.cells #[.int .i64 r.cl,.int .i64 r.st,.int .i64 r.kd,.int .i64 r.le,.string r.nm] 42)).alloc (.cells #[.int .i64 0,.int .i64 0,.int .i64 0,.int .i64 0] 38)).heap[w.heap.size]?=some (.cells #[.int .i64 r.cl,.int .i64 r.st,.int .i64 r.kd,.int .i64 r.le,.string r.nm] 42 (0,0))∧((w.alloc (.cells #[.int .i64 r.cl,.int .i64 r.st,.int .i64 r.kd,.int .i64 r.le,.string r.nm] 42)).alloc (.cells #[.int .i64 0,.int .i64 0,.int .i64 0,.int .i64 0] 38)).heap[w.heap.size+1]?=some (.cells #[.int .i64 0,.int .i64 0,.int .i64 0,.int .i64 0] 38 (0,0))):=⟨bel2 _ _ _,(zAP w _ _).1,(zAP w _ _).2⟩
 have HLO:Hid (∀ W,Below w.heap.size w W→(Instr.lookup 106 (.map (some bL)) (.string r.nm) true).run Tryz.prog W=.ok (.tuple #[.agg #[.string ⟨#[]⟩,.int .i64 0,.int .i64 0,.int .i64 0,.slice none 0 0],.bool false]) W):=fun W hW=>lookL_no (zAR HH.out.ml (hW.block bL HH.out.llt)) hnn hnz
 have hb0:(r.kd != 1)=false:=by simp [hkd]
 have hb4:(4:Int)≤(ps.length:Int):=by omega
 have hb6:decide ((4:Int)≤(ps.length:Int))=true:=by simp;omega
 clear hkd
 clear h hnn
 unfold rqA
 go_enter Tryz.func93,Tryz.ntmps93
 go_upto_region 1 with fail
 have HSZ:Hid (((w.alloc (.cells #[.int .i64 r.cl,.int .i64 r.st,.int .i64 r.kd,.int .i64 r.le,.string r.nm] 42)).alloc (.cells #[.int .i64 0,.int .i64 0,.int .i64 0,.int .i64 0] 38)).heap.size=w.heap.size+1+1):=by show _=_;rw [Bk.zAL,Bk.zAL]
 obtain ⟨w1,hw1⟩ : ∃ w1,((w.alloc (.cells #[.int .i64 r.cl,.int .i64 r.st,.int .i64 r.kd,.int .i64 r.le,.string r.nm] 42)).alloc (.cells #[.int .i64 0,.int .i64 0,.int .i64 0,.int .i64 0] 38))=w1:=⟨_,rfl⟩
 rw [hw1] at HB HSZ ⊢
 clear hw1
 have HCL:Hid (∀ W,Below w1.heap.size w1 W→W.cell? ⟨p,2,none⟩=some (.map (some bL))∧W.cell? ⟨w.heap.size,4,none⟩=some (.string r.nm)):=fun W hW=>⟨(zAA (HH.out.up (HB.out.1.trans (hW.mono HB.out.1.size))).hp 2 rfl).1,(zAA ((hW.block _ (Array.getElem?_eq_some_iff.1 HB.out.2.1).1).trans HB.out.2.1) 4 rfl).1⟩
 obtain ⟨p2,q4⟩:=HCL.out w1 (Below.refl _ _)
 have hlk1:=HLO.out w1 HB.out.1
 have hlk2:=HLO.out w1.drew HB.out.1.drew
 have hlk3:=HLO.out (w1.alloc (.cells #[.string ⟨#[]⟩,.int .i64 0,.int .i64 0,.int .i64 0,.slice none 0 0] 45)).drew (HB.out.1.alloc HB.out.1.size _).drew
 go_region_held_law (fun W=>W.cell? ⟨p,2,none⟩=some (.map (some bL))∧W.cell? ⟨w.heap.size,4,none⟩=some (.string r.nm)) (first | with_reducible exact ⟨p2,q4⟩ | with_reducible exact HCL.out _ (Below.refl _ _).drew | with_reducible exact HCL.out _ ((Below.refl _ _).alloc (Nat.le_refl _) _).drew) (fail)
 all_goals
  have HN:Hid ((w1.alloc (.cells #[.string ⟨#[]⟩,.int .i64 0,.int .i64 0,.int .i64 0,.slice none 0 0] 45)).drew.heap[w.heap.size]?=some (.cells #[.int .i64 r.cl,.int .i64 r.st,.int .i64 r.kd,.int .i64 r.le,.string r.nm] 42 (0,0))∧(w1.alloc (.cells #[.string ⟨#[]⟩,.int .i64 0,.int .i64 0,.int .i64 0,.slice none 0 0] 45)).drew.heap[w.heap.size+1]?=some (.cells #[.int .i64 0,.int .i64 0,.int .i64 0,.int .i64 0] 38 (0,0))∧(w1.alloc (.cells #[.string ⟨#[]⟩,.int .i64 0,.int .i64 0,.int .i64 0,.slice none 0 0] 45)).drew.heap[w.heap.size+1+1]?=some (.cells #[.string ⟨#[]⟩,.int .i64 0,.int .i64 0,.int .i64 0,.slice none 0 0] 45 (0,0))∧Below w.heap.size w (w1.alloc (.cells #[.string ⟨#[]⟩,.int .i64 0,.int .i64 0,.int .i64 0,.slice none 0 0] 45)).drew):=by
   have hb:=((Below.refl _ w1).alloc (Nat.le_refl _) (.cells #[.string ⟨#[]⟩,.int .i64 0,.int .i64 0,.int .i64 0,.slice none 0 0] 45)).drew
   exact ⟨(hb.block _ (Array.getElem?_eq_some_iff.1 HB.out.2.1).1).trans HB.out.2.1,(hb.block _ (Array.getElem?_eq_some_iff.1 HB.out.2.2).1).trans HB.out.2.2,by have e:=zAJ w1 #[.string ⟨#[]⟩,.int .i64 0,.int .i64 0,.int .i64 0,.slice none 0 0] 45;rw [HSZ.out] at e;exact e,(HB.out.1.alloc HB.out.1.size _).drew⟩
  rw [HSZ.out]
  clear p2 q4 hlk1 hlk2 hlk3 HCL
  generalize (w1.alloc (.cells #[.string ⟨#[]⟩,.int .i64 0,.int .i64 0,.int .i64 0,.slice none 0 0] 45)).drew=wn at HN ⊢
  have p2:=(zAA (HH.out.up HN.out.2.2.2).hp 2 (x:=.map (some bL)) rfl).1
  have hlen:(Builtin.len_ #[106] 3 #[.map (some bL)]).run Tryz.prog wn=.ok (.int .i64 (ps.length:Int)) wn:=by
   have e:=(HH.out.up HN.out.2.2.2).ml.len Tryz.underlying106 3
   rw [show Maps.size (mL ps)=ps.length from zAe ps] at e
   exact e
  obtain ⟨l0,m0⟩:=zAA HN.out.2.2.1 0 rfl
  obtain ⟨l1,m1⟩:=zAA HN.out.2.2.1 1 rfl
  obtain ⟨l2,m2⟩:=zAA HN.out.2.2.1 2 rfl
  obtain ⟨l3,m3⟩:=zAA HN.out.2.2.1 3 rfl
  obtain ⟨l4,m4⟩:=zAA HN.out.2.2.1 4 rfl
  have q0:=(zAA HN.out.1 0 rfl).1
  have q1:=(zAA HN.out.1 1 rfl).1
  have q2:=(zAA HN.out.1 2 rfl).1
  have q3:=(zAA HN.out.1 3 rfl).1
  have q4:=(zAA HN.out.1 4 rfl).1
  have HW:Hid (Calls Tryz.prog 92 #[.int .i64 6] wn fun e w'=>e=.returned (anV (bare 6))∧Below wn.heap.size wn w'):=zBU 6 wn
  unfold anV bare at HW
  go_wp2_with (go_at_call 92;go_must (refine HW.out.mono ?_;rintro e w6 ⟨rfl,b6⟩;have H6:Hid (w6.heap[w.heap.size+1]?=some (.cells #[.int .i64 0,.int .i64 0,.int .i64 0,.int .i64 0] 38 (0,0))∧(∃ qs,BK w0 w6 B p bL bS T qs)∧Fx p bL bS w w6):=⟨(b6.block _ (Array.getElem?_eq_some_iff.1 HN.out.2.1).1).trans HN.out.2.1,⟨_,HH.out.up (HN.out.2.2.2.trans (b6.mono HN.out.2.2.2.size))⟩,Fx.of_below (HN.out.2.2.2.trans (b6.mono HN.out.2.2.2.size))⟩;clear b6;obtain ⟨a0,b0⟩:=zAA H6.out.1 0 rfl;obtain ⟨a1,b1⟩:=zAA H6.out.1 1 rfl;obtain ⟨a2,b2⟩:=zAA H6.out.1 2 rfl;obtain ⟨a3,b3⟩:=zAA H6.out.1 3 rfl))
  have HG:Hid (((((w6.setCell ⟨w.heap.size+1,0,none⟩ (.int .i64 6)).setCell ⟨w.heap.size+1,1,none⟩ (.int .i64 0)).setCell ⟨w.heap.size+1,2,none⟩ (.int .i64 (-1))).setCell ⟨w.heap.size+1,3,none⟩ (.int .i64 0)).heap[w.heap.size+1]?=some (.cells #[.int .i64 6,.int .i64 0,.int .i64 (-1),.int .i64 0] 38 (0,0))∧(∃ qs,BK w0 ((((w6.setCell ⟨w.heap.size+1,0,none⟩ (.int .i64 6)).setCell ⟨w.heap.size+1,1,none⟩ (.int .i64 0)).setCell ⟨w.heap.size+1,2,none⟩ (.int .i64 (-1))).setCell ⟨w.heap.size+1,3,none⟩ (.int .i64 0)) B p bL bS T qs)∧Fx p bL bS w ((((w6.setCell ⟨w.heap.size+1,0,none⟩ (.int .i64 6)).setCell ⟨w.heap.size+1,1,none⟩ (.int .i64 0)).setCell ⟨w.heap.size+1,2,none⟩ (.int .i64 (-1))).setCell ⟨w.heap.size+1,3,none⟩ (.int .i64 0))):=zAz H6.out.1 H6.out.2.1 H6.out.2.2 (by have:=HPL.out;omega) _ _ _ _
  generalize ((((w6.setCell ⟨w.heap.size+1,0,none⟩ (.int .i64 6)).setCell ⟨w.heap.size+1,1,none⟩ (.int .i64 0)).setCell ⟨w.heap.size+1,2,none⟩ (.int .i64 (-1))).setCell ⟨w.heap.size+1,3,none⟩ (.int .i64 0))=wf at HG ⊢
  have d0:=(zAA HG.out.1 0 (x:=.int .i64 6) rfl).1
  have d1:=(zAA HG.out.1 1 (x:=.int .i64 0) rfl).1
  have d2:=(zAA HG.out.1 2 (x:=.int .i64 (-1)) rfl).1
  have d3:=(zAA HG.out.1 3 (x:=.int .i64 0) rfl).1
  exact bodyPost_ret (v:=.agg #[.int .i64 6,.int .i64 0,.int .i64 (-1),.int .i64 0]) (by simp [results,Tryz.results93,go_sem,d0,d1,d2,d3]) rfl ⟨rfl,HG.out.2⟩
end
end Go.Proofs.YticokpbelgpfmaaGreat.Jx6
