/- Texts put together: Jy2, Jy3, Jy4. -/
import Derived.Test.YticokpbelgpfmaaGreatMa22
namespace Go.Proofs.YticokpbelgpfmaaGreat.Jy2
open Go.RowKit By Ap Tb Tw Mw Wa Bk Tp Da Ja Jb Jc
open Lo (LkA uV clL OwnL zAG zAK Apart zAP zAX)
open Jx0 Jx Jy0
open Tx (zAA zAC zAE zAJ zAD)
open Rq Ji Je Jf Jd Jh Jl Jr Jt Ju Jv Jw
section
variable {w0 w:World} {B p bL bS:Nat} {T:Tab} {ps:List LkA}
set_option maxRecDepth 100000 in
set_option maxHeartbeats 3200000 in
theorem ask_old (h:BK w0 w B p bL bS T ps) (hT:TOK T) (now:Int) (h0:0≤now) (h1:now≤1000000000) (hn:T.nx≤999990) (r:Da.Ask) (hrc:0≤r.cl∧r.cl≤255) {k:Nat} {s1 s2 s3 s4 s5:Int} (hk:T.ss[k]?=some ⟨r.cl,s1,s2,s3,s4,s5⟩) (hst:r.st<s1) :
 Calls Tryz.prog 52 #[.pointer (some ⟨p,0,none⟩),.int .i64 now,rqA r] w fun e w'=>e=.returned (anV (bare 7))∧(∃ qs,BK w0 w' B p bL bS (exT T now) qs)∧Fx p bL bS w w':=by
 have HH:Hid (BK w0 w B p bL bS T ps):=h
 have HPL:Hid (p<w.heap.size∧B≤w.heap.size):=⟨h.plt,h.size⟩
 have HRC:Hid (0≤r.cl∧r.cl≤255):=hrc
 have HB:Hid (Below w.heap.size w ((w.alloc (.cells #[.int .i64 r.cl,.int .i64 r.st,.int .i64 r.kd,.int .i64 r.le,.string r.nm] 42)).alloc (.cells #[.int .i64 0,.int .i64 0,.int .i64 0,.int .i64 0] 38))∧((w.alloc (.cells #[.int .i64 r.cl,.int .i64 r.st,.int .i64 r.kd,.int .i64 r.le,.string r.nm] 42)).alloc (.cells #[.int .i64 0,.int .i64 0,.int .i64 0,.int .i64 0] 38)).heap[w.heap.size]?=some (.cells #[.int .i64 r.cl,.int .i64 r.st,.int .i64 r.kd,.int .i64 r.le,.string r.nm] 42 (0,0))∧((w.alloc (.cells #[.int .i64 r.cl,.int .i64 r.st,.int .i64 r.kd,.int .i64 r.le,.string r.nm] 42)).alloc (.cells #[.int .i64 0,.int .i64 0,.int .i64 0,.int .i64 0] 38)).heap[w.heap.size+1]?=some (.cells #[.int .i64 0,.int .i64 0,.int .i64 0,.int .i64 0] 38 (0,0))):=⟨bel2 _ _ _,(zAP w _ _).1,(zAP w _ _).2⟩
 have HSZ:Hid (((w.alloc (.cells #[.int .i64 r.cl,.int .i64 r.st,.int .i64 r.kd,.int .i64 r.le,.string r.nm] 42)).alloc (.cells #[.int .i64 0,.int .i64 0,.int .i64 0,.int .i64 0] 38)).heap.size=w.heap.size+1+1):=by show _=_;rw [Bk.zAL,Bk.zAL]
 have HKK:Hid (T.ss[k]?=some ⟨r.cl,s1,s2,s3,s4,s5⟩):=hk
 clear hk
 have hb1:(r.st == s1)=false:=by simp;omega
 have hb2:decide (r.st<s1)=true:=by simp [hst]
 clear h hrc
 unfold rqA
 go_enter Tryz.func52,Tryz.ntmps52
 go_upto_region 1 with fail
 obtain ⟨w1,hw1⟩ : ∃ w1,((w.alloc (.cells #[.int .i64 r.cl,.int .i64 r.st,.int .i64 r.kd,.int .i64 r.le,.string r.nm] 42)).alloc (.cells #[.int .i64 0,.int .i64 0,.int .i64 0,.int .i64 0] 38))=w1:=⟨_,rfl⟩
 rw [hw1] at HB HSZ ⊢
 clear hw1
 have HGO:Hid (Calls Tryz.prog 68 #[.pointer (some ⟨p,0,none⟩),.int .i64 now] w1 fun e w'=>e=.returned (.tuple #[])∧(∃ qs,BK w0 w' B p bL bS (exT T now) qs)∧Fx p bL bS w1 w'):=goOn_any (HH.out.up HB.out.1) now hT h0 h1 hn
 go_upto_region 2 with (go_at_call 68;go_must (refine HGO.out.mono ?_;rintro e w2 ⟨rfl,hq,hf⟩;have H2:Hid ((∃ qs,BK w0 w2 B p bL bS (exT T now) qs)∧Fx p bL bS w w2∧w2.heap[w.heap.size]?=some (.cells #[.int .i64 r.cl,.int .i64 r.st,.int .i64 r.kd,.int .i64 r.le,.string r.nm] 42 (0,0))∧w2.heap[w.heap.size+1]?=some (.cells #[.int .i64 0,.int .i64 0,.int .i64 0,.int .i64 0] 38 (0,0))∧w.heap.size+1<w2.heap.size):=⟨hq,(Fx.of_below HB.out.1).trans hf,fx_blk HH.out hf HB.out.2.1 (Nat.le_refl _),fx_blk HH.out hf HB.out.2.2 (by omega),by have:=hf.size;have:=HSZ.out;omega⟩;clear hq hf))
 obtain ⟨qs,hqs⟩:=H2.out.1
 have HQ:Hid (BK w0 w2 B p bL bS (exT T now) qs):=hqs
 clear hqs
 have HLO:Hid (∀ W,Below w2.heap.size w2 W→(Instr.lookup 107 (.map (some bS)) (.int .i64 r.cl) true).run Tryz.prog W=.ok (.tuple #[.agg #[.int .i64 r.cl,.int .i64 s1,.int .i64 s2,.int .i64 s3,.int .i64 s4,.int .i64 s5],.bool true]) W):=fun W hW=>lookS_ok (zAR HQ.out.ms (hW.block bS HQ.out.slt)) HQ.out.cl (List.mem_of_getElem? HKK.out) HRC.out
 have HCL:Hid (∀ W,Below w2.heap.size w2 W→W.cell? ⟨p,3,none⟩=some (.map (some bS))∧W.cell? ⟨w.heap.size,0,none⟩=some (.int .i64 r.cl)):=fun W hW=>⟨(zAA (HQ.out.up hW).hp 3 rfl).1,(zAA ((hW.block _ (Array.getElem?_eq_some_iff.1 H2.out.2.2.1).1).trans H2.out.2.2.1) 0 rfl).1⟩
 obtain ⟨p3,q0⟩:=HCL.out w2 (Below.refl _ _)
 have hlk1:=HLO.out w2 (Below.refl _ _)
 have hlk2:=HLO.out w2.drew (Below.refl _ _).drew
 have hlk3:=HLO.out (w2.alloc (.cells #[.int .i64 0,.int .i64 0,.int .i64 0,.int .i64 0,.int .i64 0,.int .i64 0] 116)).drew ((Below.refl _ _).alloc (Nat.le_refl _) _).drew
 go_region_held_law (fun W=>W.cell? ⟨p,3,none⟩=some (.map (some bS))∧W.cell? ⟨w.heap.size,0,none⟩=some (.int .i64 r.cl)) (first | with_reducible exact ⟨p3,q0⟩ | with_reducible exact HCL.out _ (Below.refl _ _).drew | with_reducible exact HCL.out _ ((Below.refl _ _).alloc (Nat.le_refl _) _).drew) (fail)
 all_goals
  have HE:Hid ((w2.alloc (.cells #[.int .i64 r.cl,.int .i64 s1,.int .i64 s2,.int .i64 s3,.int .i64 s4,.int .i64 s5] 116)).drew.heap[w.heap.size]?=some (.cells #[.int .i64 r.cl,.int .i64 r.st,.int .i64 r.kd,.int .i64 r.le,.string r.nm] 42 (0,0))∧(w2.alloc (.cells #[.int .i64 r.cl,.int .i64 s1,.int .i64 s2,.int .i64 s3,.int .i64 s4,.int .i64 s5] 116)).drew.heap[w.heap.size+1]?=some (.cells #[.int .i64 0,.int .i64 0,.int .i64 0,.int .i64 0] 38 (0,0))∧(w2.alloc (.cells #[.int .i64 r.cl,.int .i64 s1,.int .i64 s2,.int .i64 s3,.int .i64 s4,.int .i64 s5] 116)).drew.heap[w2.heap.size]?=some (.cells #[.int .i64 r.cl,.int .i64 s1,.int .i64 s2,.int .i64 s3,.int .i64 s4,.int .i64 s5] 116 (0,0))∧BK w0 (w2.alloc (.cells #[.int .i64 r.cl,.int .i64 s1,.int .i64 s2,.int .i64 s3,.int .i64 s4,.int .i64 s5] 116)).drew B p bL bS (exT T now) qs∧Fx p bL bS w (w2.alloc (.cells #[.int .i64 r.cl,.int .i64 s1,.int .i64 s2,.int .i64 s3,.int .i64 s4,.int .i64 s5] 116)).drew):=by
   have hb:=((Below.refl _ w2).alloc (Nat.le_refl _) (.cells #[.int .i64 r.cl,.int .i64 s1,.int .i64 s2,.int .i64 s3,.int .i64 s4,.int .i64 s5] 116)).drew
   exact ⟨(hb.block _ (Array.getElem?_eq_some_iff.1 H2.out.2.2.1).1).trans H2.out.2.2.1,(hb.block _ (Array.getElem?_eq_some_iff.1 H2.out.2.2.2.1).1).trans H2.out.2.2.2.1,zAJ w2 #[.int .i64 r.cl,.int .i64 s1,.int .i64 s2,.int .i64 s3,.int .i64 s4,.int .i64 s5] 116,HQ.out.up hb,H2.out.2.1.trans (Fx.of_below hb)⟩
  obtain ⟨sb,hsb⟩ : ∃ sb,w2.heap.size=sb:=⟨_,rfl⟩
  generalize hwd:(w2.alloc (.cells #[.int .i64 r.cl,.int .i64 s1,.int .i64 s2,.int .i64 s3,.int .i64 s4,.int .i64 s5] 116)).drew=w3 at HE ⊢
  rw [hsb] at HE ⊢
  have HSB:Hid (w.heap.size+1<sb∧w.heap.size+1<w3.heap.size):=⟨by have:=H2.out.2.2.2.2;omega,(Array.getElem?_eq_some_iff.1 HE.out.2.1).1⟩
  clear hwd hsb p3 q0 hlk1 hlk2 hlk3 HLO HCL HGO
  obtain ⟨x0,y0⟩:=zAA HE.out.2.2.1 0 rfl
  obtain ⟨x1,y1⟩:=zAA HE.out.2.2.1 1 rfl
  obtain ⟨x2,y2⟩:=zAA HE.out.2.2.1 2 rfl
  obtain ⟨x3,y3⟩:=zAA HE.out.2.2.1 3 rfl
  obtain ⟨x4,y4⟩:=zAA HE.out.2.2.1 4 rfl
  obtain ⟨x5,y5⟩:=zAA HE.out.2.2.1 5 rfl
  have q0:=(zAA HE.out.1 0 rfl).1
  have q1:=(zAA HE.out.1 1 rfl).1
  have q2:=(zAA HE.out.1 2 rfl).1
  have q3:=(zAA HE.out.1 3 rfl).1
  have q4:=(zAA HE.out.1 4 rfl).1
  obtain ⟨a0,b0⟩:=zAA HE.out.2.1 0 rfl
  obtain ⟨a1,b1⟩:=zAA HE.out.2.1 1 rfl
  obtain ⟨a2,b2⟩:=zAA HE.out.2.1 2 rfl
  obtain ⟨a3,b3⟩:=zAA HE.out.2.1 3 rfl
  have p3:=(zAA HE.out.2.2.2.1.hp 3 (x:=.map (some bS)) rfl).1
  have HW:Hid (Calls Tryz.prog 92 #[.int .i64 7] w3 fun e w'=>e=.returned (anV (bare 7))∧Below w3.heap.size w3 w'):=zBU 7 w3
  unfold anV bare at HW
  go_wp2_with (go_at_call 92;go_must (refine HW.out.mono ?_;rintro e w6 ⟨rfl,b6⟩;have H6:Hid (w6.heap[w.heap.size+1]?=some (.cells #[.int .i64 0,.int .i64 0,.int .i64 0,.int .i64 0] 38 (0,0))∧(∃ qs,BK w0 w6 B p bL bS (exT T now) qs)∧Fx p bL bS w w6):=⟨(b6.block _ (Array.getElem?_eq_some_iff.1 HE.out.2.1).1).trans HE.out.2.1,⟨_,HE.out.2.2.2.1.up b6⟩,HE.out.2.2.2.2.trans (Fx.of_below b6)⟩;clear b6 a0 b0 a1 b1 a2 b2 a3 b3;obtain ⟨a0,b0⟩:=zAA H6.out.1 0 rfl;obtain ⟨a1,b1⟩:=zAA H6.out.1 1 rfl;obtain ⟨a2,b2⟩:=zAA H6.out.1 2 rfl;obtain ⟨a3,b3⟩:=zAA H6.out.1 3 rfl))
  have HG:Hid (((((w6.setCell ⟨w.heap.size+1,0,none⟩ (.int .i64 7)).setCell ⟨w.heap.size+1,1,none⟩ (.int .i64 0)).setCell ⟨w.heap.size+1,2,none⟩ (.int .i64 (-1))).setCell ⟨w.heap.size+1,3,none⟩ (.int .i64 0)).heap[w.heap.size+1]?=some (.cells #[.int .i64 7,.int .i64 0,.int .i64 (-1),.int .i64 0] 38 (0,0))∧(∃ qs,BK w0 ((((w6.setCell ⟨w.heap.size+1,0,none⟩ (.int .i64 7)).setCell ⟨w.heap.size+1,1,none⟩ (.int .i64 0)).setCell ⟨w.heap.size+1,2,none⟩ (.int .i64 (-1))).setCell ⟨w.heap.size+1,3,none⟩ (.int .i64 0)) B p bL bS (exT T now) qs)∧Fx p bL bS w ((((w6.setCell ⟨w.heap.size+1,0,none⟩ (.int .i64 7)).setCell ⟨w.heap.size+1,1,none⟩ (.int .i64 0)).setCell ⟨w.heap.size+1,2,none⟩ (.int .i64 (-1))).setCell ⟨w.heap.size+1,3,none⟩ (.int .i64 0))):=zAz H6.out.1 H6.out.2.1 H6.out.2.2 (by have:=HPL.out;omega) _ _ _ _
  generalize ((((w6.setCell ⟨w.heap.size+1,0,none⟩ (.int .i64 7)).setCell ⟨w.heap.size+1,1,none⟩ (.int .i64 0)).setCell ⟨w.heap.size+1,2,none⟩ (.int .i64 (-1))).setCell ⟨w.heap.size+1,3,none⟩ (.int .i64 0))=wf at HG ⊢
  have d0:=(zAA HG.out.1 0 (x:=.int .i64 7) rfl).1
  have d1:=(zAA HG.out.1 1 (x:=.int .i64 0) rfl).1
  have d2:=(zAA HG.out.1 2 (x:=.int .i64 (-1)) rfl).1
  have d3:=(zAA HG.out.1 3 (x:=.int .i64 0) rfl).1
  exact bodyPost_ret (v:=.agg #[.int .i64 7,.int .i64 0,.int .i64 (-1),.int .i64 0]) (by simp [results,Tryz.results52,go_sem,d0,d1,d2,d3]) rfl ⟨rfl,HG.out.2⟩
end
end Go.Proofs.YticokpbelgpfmaaGreat.Jy2
namespace Go.Proofs.YticokpbelgpfmaaGreat.Jy3
open Go.RowKit By Ap Tb Tw Mw Wa Bk Tp Da Ja Jb Jc
open Lo (LkA uV clL OwnL zAG zAK Apart zAP zAX)
open Jx0 Jx Jy0
open Tx (zAA zAC zAE zAJ zAD)
open Rq Ji Je Jf Jd Jh Jl Jr Jt Ju Jv Jw
section
variable {w0 w:World} {B p bL bS:Nat} {T:Tab} {ps:List LkA}
set_option maxRecDepth 100000 in
set_option maxHeartbeats 3200000 in
theorem ask_full (h:BK w0 w B p bL bS T ps) (hT:TOK T) (now:Int) (h0:0≤now) (h1:now≤1000000000) (hn:T.nx≤999990) (r:Da.Ask) (hrc:0≤r.cl∧r.cl≤255) (hnn:∀ s ∈ T.ss,s.c ≠ r.cl) (hl6:6≤T.ss.length) :
 Calls Tryz.prog 52 #[.pointer (some ⟨p,0,none⟩),.int .i64 now,rqA r] w fun e w'=>e=.returned (anV (bare 6))∧(∃ qs,BK w0 w' B p bL bS (exT T now) qs)∧Fx p bL bS w w':=by
 have HH:Hid (BK w0 w B p bL bS T ps):=h
 have HPL:Hid (p<w.heap.size∧B≤w.heap.size):=⟨h.plt,h.size⟩
 have HRC:Hid (0≤r.cl∧r.cl≤255):=hrc
 have HB:Hid (Below w.heap.size w ((w.alloc (.cells #[.int .i64 r.cl,.int .i64 r.st,.int .i64 r.kd,.int .i64 r.le,.string r.nm] 42)).alloc (.cells #[.int .i64 0,.int .i64 0,.int .i64 0,.int .i64 0] 38))∧((w.alloc (.cells #[.int .i64 r.cl,.int .i64 r.st,.int .i64 r.kd,.int .i64 r.le,.string r.nm] 42)).alloc (.cells #[.int .i64 0,.int .i64 0,.int .i64 0,.int .i64 0] 38)).heap[w.heap.size]?=some (.cells #[.int .i64 r.cl,.int .i64 r.st,.int .i64 r.kd,.int .i64 r.le,.string r.nm] 42 (0,0))∧((w.alloc (.cells #[.int .i64 r.cl,.int .i64 r.st,.int .i64 r.kd,.int .i64 r.le,.string r.nm] 42)).alloc (.cells #[.int .i64 0,.int .i64 0,.int .i64 0,.int .i64 0] 38)).heap[w.heap.size+1]?=some (.cells #[.int .i64 0,.int .i64 0,.int .i64 0,.int .i64 0] 38 (0,0))):=⟨bel2 _ _ _,(zAP w _ _).1,(zAP w _ _).2⟩
 have HSZ:Hid (((w.alloc (.cells #[.int .i64 r.cl,.int .i64 r.st,.int .i64 r.kd,.int .i64 r.le,.string r.nm] 42)).alloc (.cells #[.int .i64 0,.int .i64 0,.int .i64 0,.int .i64 0] 38)).heap.size=w.heap.size+1+1):=by show _=_;rw [Bk.zAL,Bk.zAL]
 have HKK:Hid (∀ s ∈ T.ss,s.c ≠ r.cl):=hnn
 clear hnn
 have hb4:(6:Int)≤(T.ss.length:Int):=by omega
 have hb6:decide ((6:Int)≤(T.ss.length:Int))=true:=by simp;omega
 clear h hrc
 unfold rqA
 go_enter Tryz.func52,Tryz.ntmps52
 go_upto_region 1 with fail
 obtain ⟨w1,hw1⟩ : ∃ w1,((w.alloc (.cells #[.int .i64 r.cl,.int .i64 r.st,.int .i64 r.kd,.int .i64 r.le,.string r.nm] 42)).alloc (.cells #[.int .i64 0,.int .i64 0,.int .i64 0,.int .i64 0] 38))=w1:=⟨_,rfl⟩
 rw [hw1] at HB HSZ ⊢
 clear hw1
 have HGO:Hid (Calls Tryz.prog 68 #[.pointer (some ⟨p,0,none⟩),.int .i64 now] w1 fun e w'=>e=.returned (.tuple #[])∧(∃ qs,BK w0 w' B p bL bS (exT T now) qs)∧Fx p bL bS w1 w'):=goOn_any (HH.out.up HB.out.1) now hT h0 h1 hn
 go_upto_region 2 with (go_at_call 68;go_must (refine HGO.out.mono ?_;rintro e w2 ⟨rfl,hq,hf⟩;have H2:Hid ((∃ qs,BK w0 w2 B p bL bS (exT T now) qs)∧Fx p bL bS w w2∧w2.heap[w.heap.size]?=some (.cells #[.int .i64 r.cl,.int .i64 r.st,.int .i64 r.kd,.int .i64 r.le,.string r.nm] 42 (0,0))∧w2.heap[w.heap.size+1]?=some (.cells #[.int .i64 0,.int .i64 0,.int .i64 0,.int .i64 0] 38 (0,0))∧w.heap.size+1<w2.heap.size):=⟨hq,(Fx.of_below HB.out.1).trans hf,fx_blk HH.out hf HB.out.2.1 (Nat.le_refl _),fx_blk HH.out hf HB.out.2.2 (by omega),by have:=hf.size;have:=HSZ.out;omega⟩;clear hq hf))
 obtain ⟨qs,hqs⟩:=H2.out.1
 have HQ:Hid (BK w0 w2 B p bL bS (exT T now) qs):=hqs
 clear hqs
 have HLO:Hid (∀ W,Below w2.heap.size w2 W→(Instr.lookup 107 (.map (some bS)) (.int .i64 r.cl) true).run Tryz.prog W=.ok (.tuple #[.agg #[.int .i64 0,.int .i64 0,.int .i64 0,.int .i64 0,.int .i64 0,.int .i64 0],.bool false]) W):=fun W hW=>lookS_no (zAR HQ.out.ms (hW.block bS HQ.out.slt)) HKK.out HRC.out
 have HCL:Hid (∀ W,Below w2.heap.size w2 W→W.cell? ⟨p,3,none⟩=some (.map (some bS))∧W.cell? ⟨w.heap.size,0,none⟩=some (.int .i64 r.cl)):=fun W hW=>⟨(zAA (HQ.out.up hW).hp 3 rfl).1,(zAA ((hW.block _ (Array.getElem?_eq_some_iff.1 H2.out.2.2.1).1).trans H2.out.2.2.1) 0 rfl).1⟩
 obtain ⟨p3,q0⟩:=HCL.out w2 (Below.refl _ _)
 have hlk1:=HLO.out w2 (Below.refl _ _)
 have hlk2:=HLO.out w2.drew (Below.refl _ _).drew
 have hlk3:=HLO.out (w2.alloc (.cells #[.int .i64 0,.int .i64 0,.int .i64 0,.int .i64 0,.int .i64 0,.int .i64 0] 116)).drew ((Below.refl _ _).alloc (Nat.le_refl _) _).drew
 go_region_held_law (fun W=>W.cell? ⟨p,3,none⟩=some (.map (some bS))∧W.cell? ⟨w.heap.size,0,none⟩=some (.int .i64 r.cl)) (first | with_reducible exact ⟨p3,q0⟩ | with_reducible exact HCL.out _ (Below.refl _ _).drew | with_reducible exact HCL.out _ ((Below.refl _ _).alloc (Nat.le_refl _) _).drew) (fail)
 all_goals
  have HE:Hid ((w2.alloc (.cells #[.int .i64 0,.int .i64 0,.int .i64 0,.int .i64 0,.int .i64 0,.int .i64 0] 116)).drew.heap[w.heap.size]?=some (.cells #[.int .i64 r.cl,.int .i64 r.st,.int .i64 r.kd,.int .i64 r.le,.string r.nm] 42 (0,0))∧(w2.alloc (.cells #[.int .i64 0,.int .i64 0,.int .i64 0,.int .i64 0,.int .i64 0,.int .i64 0] 116)).drew.heap[w.heap.size+1]?=some (.cells #[.int .i64 0,.int .i64 0,.int .i64 0,.int .i64 0] 38 (0,0))∧(w2.alloc (.cells #[.int .i64 0,.int .i64 0,.int .i64 0,.int .i64 0,.int .i64 0,.int .i64 0] 116)).drew.heap[w2.heap.size]?=some (.cells #[.int .i64 0,.int .i64 0,.int .i64 0,.int .i64 0,.int .i64 0,.int .i64 0] 116 (0,0))∧BK w0 (w2.alloc (.cells #[.int .i64 0,.int .i64 0,.int .i64 0,.int .i64 0,.int .i64 0,.int .i64 0] 116)).drew B p bL bS (exT T now) qs∧Fx p bL bS w (w2.alloc (.cells #[.int .i64 0,.int .i64 0,.int .i64 0,.int .i64 0,.int .i64 0,.int .i64 0] 116)).drew):=by
   have hb:=((Below.refl _ w2).alloc (Nat.le_refl _) (.cells #[.int .i64 0,.int .i64 0,.int .i64 0,.int .i64 0,.int .i64 0,.int .i64 0] 116)).drew
   exact ⟨(hb.block _ (Array.getElem?_eq_some_iff.1 H2.out.2.2.1).1).trans H2.out.2.2.1,(hb.block _ (Array.getElem?_eq_some_iff.1 H2.out.2.2.2.1).1).trans H2.out.2.2.2.1,zAJ w2 #[.int .i64 0,.int .i64 0,.int .i64 0,.int .i64 0,.int .i64 0,.int .i64 0] 116,HQ.out.up hb,H2.out.2.1.trans (Fx.of_below hb)⟩
  obtain ⟨sb,hsb⟩ : ∃ sb,w2.heap.size=sb:=⟨_,rfl⟩
  generalize hwd:(w2.alloc (.cells #[.int .i64 0,.int .i64 0,.int .i64 0,.int .i64 0,.int .i64 0,.int .i64 0] 116)).drew=w3 at HE ⊢
  rw [hsb] at HE ⊢
  have HSB:Hid (w.heap.size+1<sb∧w.heap.size+1<w3.heap.size):=⟨by have:=H2.out.2.2.2.2;omega,(Array.getElem?_eq_some_iff.1 HE.out.2.1).1⟩
  clear hwd hsb p3 q0 hlk1 hlk2 hlk3 HLO HCL HGO
  obtain ⟨x0,y0⟩:=zAA HE.out.2.2.1 0 rfl
  obtain ⟨x1,y1⟩:=zAA HE.out.2.2.1 1 rfl
  obtain ⟨x2,y2⟩:=zAA HE.out.2.2.1 2 rfl
  obtain ⟨x3,y3⟩:=zAA HE.out.2.2.1 3 rfl
  obtain ⟨x4,y4⟩:=zAA HE.out.2.2.1 4 rfl
  obtain ⟨x5,y5⟩:=zAA HE.out.2.2.1 5 rfl
  have q0:=(zAA HE.out.1 0 rfl).1
  have q1:=(zAA HE.out.1 1 rfl).1
  have q2:=(zAA HE.out.1 2 rfl).1
  have q3:=(zAA HE.out.1 3 rfl).1
  have q4:=(zAA HE.out.1 4 rfl).1
  obtain ⟨a0,b0⟩:=zAA HE.out.2.1 0 rfl
  obtain ⟨a1,b1⟩:=zAA HE.out.2.1 1 rfl
  obtain ⟨a2,b2⟩:=zAA HE.out.2.1 2 rfl
  obtain ⟨a3,b3⟩:=zAA HE.out.2.1 3 rfl
  have p3:=(zAA HE.out.2.2.2.1.hp 3 (x:=.map (some bS)) rfl).1
  have hlen:(Builtin.len_ #[107] 3 #[.map (some bS)]).run Tryz.prog w3=.ok (.int .i64 (T.ss.length:Int)) w3:=by
   have e:=HE.out.2.2.2.1.ms.len Tryz.underlying107 3
   rw [show Maps.size (mS (exT T now).ss)=T.ss.length from zAe _] at e
   exact e
  have HW:Hid (Calls Tryz.prog 92 #[.int .i64 6] w3 fun e w'=>e=.returned (anV (bare 6))∧Below w3.heap.size w3 w'):=zBU 6 w3
  unfold anV bare at HW
  go_wp2_with (go_at_call 92;go_must (refine HW.out.mono ?_;rintro e w6 ⟨rfl,b6⟩;have H6:Hid (w6.heap[w.heap.size+1]?=some (.cells #[.int .i64 0,.int .i64 0,.int .i64 0,.int .i64 0] 38 (0,0))∧(∃ qs,BK w0 w6 B p bL bS (exT T now) qs)∧Fx p bL bS w w6):=⟨(b6.block _ (Array.getElem?_eq_some_iff.1 HE.out.2.1).1).trans HE.out.2.1,⟨_,HE.out.2.2.2.1.up b6⟩,HE.out.2.2.2.2.trans (Fx.of_below b6)⟩;clear b6 a0 b0 a1 b1 a2 b2 a3 b3;obtain ⟨a0,b0⟩:=zAA H6.out.1 0 rfl;obtain ⟨a1,b1⟩:=zAA H6.out.1 1 rfl;obtain ⟨a2,b2⟩:=zAA H6.out.1 2 rfl;obtain ⟨a3,b3⟩:=zAA H6.out.1 3 rfl))
  have HG:Hid (((((w6.setCell ⟨w.heap.size+1,0,none⟩ (.int .i64 6)).setCell ⟨w.heap.size+1,1,none⟩ (.int .i64 0)).setCell ⟨w.heap.size+1,2,none⟩ (.int .i64 (-1))).setCell ⟨w.heap.size+1,3,none⟩ (.int .i64 0)).heap[w.heap.size+1]?=some (.cells #[.int .i64 6,.int .i64 0,.int .i64 (-1),.int .i64 0] 38 (0,0))∧(∃ qs,BK w0 ((((w6.setCell ⟨w.heap.size+1,0,none⟩ (.int .i64 6)).setCell ⟨w.heap.size+1,1,none⟩ (.int .i64 0)).setCell ⟨w.heap.size+1,2,none⟩ (.int .i64 (-1))).setCell ⟨w.heap.size+1,3,none⟩ (.int .i64 0)) B p bL bS (exT T now) qs)∧Fx p bL bS w ((((w6.setCell ⟨w.heap.size+1,0,none⟩ (.int .i64 6)).setCell ⟨w.heap.size+1,1,none⟩ (.int .i64 0)).setCell ⟨w.heap.size+1,2,none⟩ (.int .i64 (-1))).setCell ⟨w.heap.size+1,3,none⟩ (.int .i64 0))):=zAz H6.out.1 H6.out.2.1 H6.out.2.2 (by have:=HPL.out;omega) _ _ _ _
  generalize ((((w6.setCell ⟨w.heap.size+1,0,none⟩ (.int .i64 6)).setCell ⟨w.heap.size+1,1,none⟩ (.int .i64 0)).setCell ⟨w.heap.size+1,2,none⟩ (.int .i64 (-1))).setCell ⟨w.heap.size+1,3,none⟩ (.int .i64 0))=wf at HG ⊢
  have d0:=(zAA HG.out.1 0 (x:=.int .i64 6) rfl).1
  have d1:=(zAA HG.out.1 1 (x:=.int .i64 0) rfl).1
  have d2:=(zAA HG.out.1 2 (x:=.int .i64 (-1)) rfl).1
  have d3:=(zAA HG.out.1 3 (x:=.int .i64 0) rfl).1
  exact bodyPost_ret (v:=.agg #[.int .i64 6,.int .i64 0,.int .i64 (-1),.int .i64 0]) (by simp [results,Tryz.results52,go_sem,d0,d1,d2,d3]) rfl ⟨rfl,HG.out.2⟩
end
end Go.Proofs.YticokpbelgpfmaaGreat.Jy3
namespace Go.Proofs.YticokpbelgpfmaaGreat.Jy4
open Go.RowKit By Ap Tb Tw Mw Wa Bk Tp Da Ja Jb Jc
open Lo (LkA uV clL OwnL zAG zAK Apart zAP zAX)
open Jx0 Jx Jy0
open Tx (zAA zAC zAE zAJ zAD)
open Rq Ji Je Jf Jd Jh Jl Jr Jt Ju Jv Jw
section
variable {w0 w:World} {B p bL bS:Nat} {T:Tab} {ps:List LkA}
set_option maxRecDepth 100000 in
set_option maxHeartbeats 3200000 in
theorem ask_doH (h:BK w0 w B p bL bS T ps) (hT:TOK T) (now:Int) (h0:0≤now) (h1:now≤1000000000) (hn:T.nx≤999990) (r:Da.Ask) (hrc:0≤r.cl∧r.cl≤255) {k:Nat} {s1 s2 s3 s4 s5:Int} (hk:T.ss[k]?=some ⟨r.cl,s1,s2,s3,s4,s5⟩) (hr:zBQ r) (he:less ⟨#[]⟩ r.nm=true) {D:Tab} {ka ta ha ea:Int} (hd:doT (exT T now) r=(D,⟨ka,ta,ha,ea⟩)) (hds:D.ss=T.ss) (hca:ClA (T.ss.set k ⟨r.cl,r.st,ka,ta,ha,ea⟩)) (hcb:∀ s ∈ (T.ss.set k ⟨r.cl,r.st,ka,ta,ha,ea⟩),0≤s.c∧s.c≤255) (hsl:T.ss.length≤1000) (hst:s1<r.st) :
 Calls Tryz.prog 52 #[.pointer (some ⟨p,0,none⟩),.int .i64 now,rqA r] w fun e w'=>e=.returned (anV ⟨ka,ta,ha,ea⟩)∧(∃ qs,BK w0 w' B p bL bS { D with ss:=(T.ss.set k ⟨r.cl,r.st,ka,ta,ha,ea⟩) } qs)∧Fx p bL bS w w':=by
 have HH:Hid (BK w0 w B p bL bS T ps):=h
 have HPL:Hid (p<w.heap.size∧B≤w.heap.size):=⟨h.plt,h.size⟩
 have HRC:Hid (0≤r.cl∧r.cl≤255):=hrc
 have HB:Hid (Below w.heap.size w ((w.alloc (.cells #[.int .i64 r.cl,.int .i64 r.st,.int .i64 r.kd,.int .i64 r.le,.string r.nm] 42)).alloc (.cells #[.int .i64 0,.int .i64 0,.int .i64 0,.int .i64 0] 38))∧((w.alloc (.cells #[.int .i64 r.cl,.int .i64 r.st,.int .i64 r.kd,.int .i64 r.le,.string r.nm] 42)).alloc (.cells #[.int .i64 0,.int .i64 0,.int .i64 0,.int .i64 0] 38)).heap[w.heap.size]?=some (.cells #[.int .i64 r.cl,.int .i64 r.st,.int .i64 r.kd,.int .i64 r.le,.string r.nm] 42 (0,0))∧((w.alloc (.cells #[.int .i64 r.cl,.int .i64 r.st,.int .i64 r.kd,.int .i64 r.le,.string r.nm] 42)).alloc (.cells #[.int .i64 0,.int .i64 0,.int .i64 0,.int .i64 0] 38)).heap[w.heap.size+1]?=some (.cells #[.int .i64 0,.int .i64 0,.int .i64 0,.int .i64 0] 38 (0,0))):=⟨bel2 _ _ _,(zAP w _ _).1,(zAP w _ _).2⟩
 have HSZ:Hid (((w.alloc (.cells #[.int .i64 r.cl,.int .i64 r.st,.int .i64 r.kd,.int .i64 r.le,.string r.nm] 42)).alloc (.cells #[.int .i64 0,.int .i64 0,.int .i64 0,.int .i64 0] 38)).heap.size=w.heap.size+1+1):=by show _=_;rw [Bk.zAL,Bk.zAL]
 have HKK:Hid (T.ss[k]?=some ⟨r.cl,s1,s2,s3,s4,s5⟩):=hk
 clear hk
 have HX:Hid (TOK (exT T now)∧(exT T now).nx≤999999):=⟨exT_ok hT h0 h1 hn,by have:=(exT_nx T now hT.2.2.1).2;omega⟩
 have HR:Hid (zBQ r∧less ⟨#[]⟩ r.nm=true):=⟨hr,he⟩
 have HD:Hid (doT (exT T now) r=(D,⟨ka,ta,ha,ea⟩)∧D.ss=T.ss∧ClA (T.ss.set k ⟨r.cl,r.st,ka,ta,ha,ea⟩)∧(∀ s ∈ (T.ss.set k ⟨r.cl,r.st,ka,ta,ha,ea⟩),0≤s.c∧s.c≤255)∧T.ss.length≤1000):=⟨hd,hds,hca,hcb,hsl⟩
 clear hr he hd hds hca hcb hsl
 have hb1:(r.st == s1)=false:=by simp;omega
 have hb2:decide (r.st<s1)=false:=by simp;omega
 clear h hrc
 unfold rqA
 go_enter Tryz.func52,Tryz.ntmps52
 go_upto_region 1 with fail
 obtain ⟨w1,hw1⟩ : ∃ w1,((w.alloc (.cells #[.int .i64 r.cl,.int .i64 r.st,.int .i64 r.kd,.int .i64 r.le,.string r.nm] 42)).alloc (.cells #[.int .i64 0,.int .i64 0,.int .i64 0,.int .i64 0] 38))=w1:=⟨_,rfl⟩
 rw [hw1] at HB HSZ ⊢
 clear hw1
 have HGO:Hid (Calls Tryz.prog 68 #[.pointer (some ⟨p,0,none⟩),.int .i64 now] w1 fun e w'=>e=.returned (.tuple #[])∧(∃ qs,BK w0 w' B p bL bS (exT T now) qs)∧Fx p bL bS w1 w'):=goOn_any (HH.out.up HB.out.1) now hT h0 h1 hn
 go_upto_region 2 with (go_at_call 68;go_must (refine HGO.out.mono ?_;rintro e w2 ⟨rfl,hq,hf⟩;have H2:Hid ((∃ qs,BK w0 w2 B p bL bS (exT T now) qs)∧Fx p bL bS w w2∧w2.heap[w.heap.size]?=some (.cells #[.int .i64 r.cl,.int .i64 r.st,.int .i64 r.kd,.int .i64 r.le,.string r.nm] 42 (0,0))∧w2.heap[w.heap.size+1]?=some (.cells #[.int .i64 0,.int .i64 0,.int .i64 0,.int .i64 0] 38 (0,0))∧w.heap.size+1<w2.heap.size):=⟨hq,(Fx.of_below HB.out.1).trans hf,fx_blk HH.out hf HB.out.2.1 (Nat.le_refl _),fx_blk HH.out hf HB.out.2.2 (by omega),by have:=hf.size;have:=HSZ.out;omega⟩;clear hq hf))
 obtain ⟨qs,hqs⟩:=H2.out.1
 have HQ:Hid (BK w0 w2 B p bL bS (exT T now) qs):=hqs
 clear hqs
 have HLO:Hid (∀ W,Below w2.heap.size w2 W→(Instr.lookup 107 (.map (some bS)) (.int .i64 r.cl) true).run Tryz.prog W=.ok (.tuple #[.agg #[.int .i64 r.cl,.int .i64 s1,.int .i64 s2,.int .i64 s3,.int .i64 s4,.int .i64 s5],.bool true]) W):=fun W hW=>lookS_ok (zAR HQ.out.ms (hW.block bS HQ.out.slt)) HQ.out.cl (List.mem_of_getElem? HKK.out) HRC.out
 have HCL:Hid (∀ W,Below w2.heap.size w2 W→W.cell? ⟨p,3,none⟩=some (.map (some bS))∧W.cell? ⟨w.heap.size,0,none⟩=some (.int .i64 r.cl)):=fun W hW=>⟨(zAA (HQ.out.up hW).hp 3 rfl).1,(zAA ((hW.block _ (Array.getElem?_eq_some_iff.1 H2.out.2.2.1).1).trans H2.out.2.2.1) 0 rfl).1⟩
 obtain ⟨p3,q0⟩:=HCL.out w2 (Below.refl _ _)
 have hlk1:=HLO.out w2 (Below.refl _ _)
 have hlk2:=HLO.out w2.drew (Below.refl _ _).drew
 have hlk3:=HLO.out (w2.alloc (.cells #[.int .i64 0,.int .i64 0,.int .i64 0,.int .i64 0,.int .i64 0,.int .i64 0] 116)).drew ((Below.refl _ _).alloc (Nat.le_refl _) _).drew
 go_region_held_law (fun W=>W.cell? ⟨p,3,none⟩=some (.map (some bS))∧W.cell? ⟨w.heap.size,0,none⟩=some (.int .i64 r.cl)) (first | with_reducible exact ⟨p3,q0⟩ | with_reducible exact HCL.out _ (Below.refl _ _).drew | with_reducible exact HCL.out _ ((Below.refl _ _).alloc (Nat.le_refl _) _).drew) (fail)
 all_goals
  have HE:Hid ((w2.alloc (.cells #[.int .i64 r.cl,.int .i64 s1,.int .i64 s2,.int .i64 s3,.int .i64 s4,.int .i64 s5] 116)).drew.heap[w.heap.size]?=some (.cells #[.int .i64 r.cl,.int .i64 r.st,.int .i64 r.kd,.int .i64 r.le,.string r.nm] 42 (0,0))∧(w2.alloc (.cells #[.int .i64 r.cl,.int .i64 s1,.int .i64 s2,.int .i64 s3,.int .i64 s4,.int .i64 s5] 116)).drew.heap[w.heap.size+1]?=some (.cells #[.int .i64 0,.int .i64 0,.int .i64 0,.int .i64 0] 38 (0,0))∧(w2.alloc (.cells #[.int .i64 r.cl,.int .i64 s1,.int .i64 s2,.int .i64 s3,.int .i64 s4,.int .i64 s5] 116)).drew.heap[w2.heap.size]?=some (.cells #[.int .i64 r.cl,.int .i64 s1,.int .i64 s2,.int .i64 s3,.int .i64 s4,.int .i64 s5] 116 (0,0))∧BK w0 (w2.alloc (.cells #[.int .i64 r.cl,.int .i64 s1,.int .i64 s2,.int .i64 s3,.int .i64 s4,.int .i64 s5] 116)).drew B p bL bS (exT T now) qs∧Fx p bL bS w (w2.alloc (.cells #[.int .i64 r.cl,.int .i64 s1,.int .i64 s2,.int .i64 s3,.int .i64 s4,.int .i64 s5] 116)).drew):=by
   have hb:=((Below.refl _ w2).alloc (Nat.le_refl _) (.cells #[.int .i64 r.cl,.int .i64 s1,.int .i64 s2,.int .i64 s3,.int .i64 s4,.int .i64 s5] 116)).drew
   exact ⟨(hb.block _ (Array.getElem?_eq_some_iff.1 H2.out.2.2.1).1).trans H2.out.2.2.1,(hb.block _ (Array.getElem?_eq_some_iff.1 H2.out.2.2.2.1).1).trans H2.out.2.2.2.1,zAJ w2 #[.int .i64 r.cl,.int .i64 s1,.int .i64 s2,.int .i64 s3,.int .i64 s4,.int .i64 s5] 116,HQ.out.up hb,H2.out.2.1.trans (Fx.of_below hb)⟩
  obtain ⟨sb,hsb⟩ : ∃ sb,w2.heap.size=sb:=⟨_,rfl⟩
  generalize hwd:(w2.alloc (.cells #[.int .i64 r.cl,.int .i64 s1,.int .i64 s2,.int .i64 s3,.int .i64 s4,.int .i64 s5] 116)).drew=w3 at HE ⊢
  rw [hsb] at HE ⊢
  have HSB:Hid (w.heap.size+1<sb∧w.heap.size+1<w3.heap.size):=⟨by have:=H2.out.2.2.2.2;omega,(Array.getElem?_eq_some_iff.1 HE.out.2.1).1⟩
  clear hwd hsb p3 q0 hlk1 hlk2 hlk3 HLO HCL HGO
  obtain ⟨x0,y0⟩:=zAA HE.out.2.2.1 0 rfl
  obtain ⟨x1,y1⟩:=zAA HE.out.2.2.1 1 rfl
  obtain ⟨x2,y2⟩:=zAA HE.out.2.2.1 2 rfl
  obtain ⟨x3,y3⟩:=zAA HE.out.2.2.1 3 rfl
  obtain ⟨x4,y4⟩:=zAA HE.out.2.2.1 4 rfl
  obtain ⟨x5,y5⟩:=zAA HE.out.2.2.1 5 rfl
  have q0:=(zAA HE.out.1 0 rfl).1
  have q1:=(zAA HE.out.1 1 rfl).1
  have q2:=(zAA HE.out.1 2 rfl).1
  have q3:=(zAA HE.out.1 3 rfl).1
  have q4:=(zAA HE.out.1 4 rfl).1
  obtain ⟨a0,b0⟩:=zAA HE.out.2.1 0 rfl
  obtain ⟨a1,b1⟩:=zAA HE.out.2.1 1 rfl
  obtain ⟨a2,b2⟩:=zAA HE.out.2.1 2 rfl
  obtain ⟨a3,b3⟩:=zAA HE.out.2.1 3 rfl
  have p3:=(zAA HE.out.2.2.2.1.hp 3 (x:=.map (some bS)) rfl).1
  go_upto_region 9 with fail
  have HDO:Hid (Calls Tryz.prog 93 #[.pointer (some ⟨p,0,none⟩),.agg #[.int .i64 r.cl,.int .i64 r.st,.int .i64 r.kd,.int .i64 r.le,.string r.nm]] w3 fun e w'=>e=.returned (.agg #[.int .i64 ka,.int .i64 ta,.int .i64 ha,.int .i64 ea])∧(∃ qs,BK w0 w' B p bL bS D qs)∧Fx p bL bS w3 w'):=by
   have h0:=do_any HE.out.2.2.2.1 HX.out.1 HX.out.2 r HR.out.1 HR.out.2
   rw [HD.out.1] at h0
   exact h0
  go_upto_region 10 with (go_at_call 93;go_must (refine HDO.out.mono ?_;rintro e w4 ⟨rfl,hq,hf⟩;have H4:Hid ((∃ qs,BK w0 w4 B p bL bS D qs)∧Fx p bL bS w w4∧w4.heap[w.heap.size]?=some (.cells #[.int .i64 r.cl,.int .i64 r.st,.int .i64 r.kd,.int .i64 r.le,.string r.nm] 42 (0,0))∧w4.heap[w.heap.size+1]?=some (.cells #[.int .i64 0,.int .i64 0,.int .i64 0,.int .i64 0] 38 (0,0))∧w.heap.size+1<w4.heap.size):=⟨hq,HE.out.2.2.2.2.trans hf,fx_blk2 HH.out hf HE.out.1 (Nat.le_refl _),fx_blk2 HH.out hf HE.out.2.1 (by omega),by have:=hf.size;have:=HSB.out;omega⟩;clear hq hf;clear x0 y0 x1 y1 x2 y2 x3 y3 x4 y4 x5 y5 q0 q1 q2 q3 q4 a0 b0 a1 b1 a2 b2 a3 b3 p3))
  have H5:Hid ((∃ qs,BK w0 (w4.alloc (.cells #[.int .i64 ka,.int .i64 ta,.int .i64 ha,.int .i64 ea] 38)) B p bL bS D qs)∧Fx p bL bS w (w4.alloc (.cells #[.int .i64 ka,.int .i64 ta,.int .i64 ha,.int .i64 ea] 38))∧(w4.alloc (.cells #[.int .i64 ka,.int .i64 ta,.int .i64 ha,.int .i64 ea] 38)).heap[w.heap.size]?=some (.cells #[.int .i64 r.cl,.int .i64 r.st,.int .i64 r.kd,.int .i64 r.le,.string r.nm] 42 (0,0))∧(w4.alloc (.cells #[.int .i64 ka,.int .i64 ta,.int .i64 ha,.int .i64 ea] 38)).heap[w.heap.size+1]?=some (.cells #[.int .i64 0,.int .i64 0,.int .i64 0,.int .i64 0] 38 (0,0))∧(w4.alloc (.cells #[.int .i64 ka,.int .i64 ta,.int .i64 ha,.int .i64 ea] 38)).heap[w4.heap.size]?=some (.cells #[.int .i64 ka,.int .i64 ta,.int .i64 ha,.int .i64 ea] 38 (0,0))):=by
   have hb:=(Below.refl _ w4).alloc (Nat.le_refl _) (.cells #[.int .i64 ka,.int .i64 ta,.int .i64 ha,.int .i64 ea] 38)
   obtain ⟨q4,hq4⟩:=H4.out.1
   exact ⟨⟨q4,hq4.up hb⟩,H4.out.2.1.trans (Fx.of_below hb),(hb.block _ (Array.getElem?_eq_some_iff.1 H4.out.2.2.1).1).trans H4.out.2.2.1,(hb.block _ (Array.getElem?_eq_some_iff.1 H4.out.2.2.2.1).1).trans H4.out.2.2.2.1,zAJ w4 #[.int .i64 ka,.int .i64 ta,.int .i64 ha,.int .i64 ea] 38⟩
  obtain ⟨db,hdb⟩ : ∃ db,w4.heap.size=db:=⟨_,rfl⟩
  generalize hwa:(w4.alloc (.cells #[.int .i64 ka,.int .i64 ta,.int .i64 ha,.int .i64 ea] 38))=w5 at H5 ⊢
  rw [hdb] at H5 ⊢
  have HDB:Hid (w.heap.size+1<db):=by have:=H4.out.2.2.2.2;show _<_;omega
  clear hwa hdb HDO
  obtain ⟨qs5,h5⟩:=H5.out.1
  obtain ⟨w6,hup,hbk,hg6⟩:=bk_seenH (T:=D) (k:=k) (s:=⟨r.cl,s1,s2,s3,s4,s5⟩) (h5.up (Below.refl _ _).drew) (s':=⟨r.cl,r.st,ka,ta,ha,ea⟩) (by rw [HD.out.2.1];exact HKK.out) rfl (by rw [HD.out.2.1];exact HD.out.2.2.2.2) (by rw [HD.out.2.1];exact HD.out.2.2.1) (by rw [HD.out.2.1];exact HD.out.2.2.2.1)
  have hup2:(Instr.mapUpdate 107 (.map (some bS)) (.int .i64 r.cl) (.agg #[.int .i64 r.cl,.int .i64 r.st,.int .i64 ka,.int .i64 ta,.int .i64 ha,.int .i64 ea])).run Tryz.prog w5.drew=.ok () w6:=hup
  rw [HD.out.2.1] at hbk
  have H6:Hid ((w6.heap[w.heap.size+1]?=some (.cells #[.int .i64 0,.int .i64 0,.int .i64 0,.int .i64 0] 38 (0,0))∧w6.heap[w.heap.size]?=some (.cells #[.int .i64 r.cl,.int .i64 r.st,.int .i64 r.kd,.int .i64 r.le,.string r.nm] 42 (0,0))∧w6.heap[db]?=some (.cells #[.int .i64 ka,.int .i64 ta,.int .i64 ha,.int .i64 ea] 38 (0,0)))∧(∃ qs,BK w0 w6 B p bL bS { D with ss:=(T.ss.set k ⟨r.cl,r.st,ka,ta,ha,ea⟩) } qs)∧Fx p bL bS w w6):=⟨⟨up_blkS HH.out hg6 H5.out.2.2.2.1 (by omega),up_blkS HH.out hg6 H5.out.2.2.1 (Nat.le_refl _),up_blkS HH.out hg6 H5.out.2.2.2.2 (by have:=HDB.out;omega)⟩,⟨_,hbk⟩,H5.out.2.1.trans ((Fx.of_below (Below.refl _ _).drew).trans (grown_fxS hg6))⟩
  have C5:w5.cell? ⟨p,3,none⟩=some (.map (some bS))∧w5.cell? ⟨w.heap.size,0,none⟩=some (.int .i64 r.cl)∧w5.cell? ⟨w.heap.size,1,none⟩=some (.int .i64 r.st)∧w5.cell? ⟨db,0,none⟩=some (.int .i64 ka)∧w5.cell? ⟨db,1,none⟩=some (.int .i64 ta)∧w5.cell? ⟨db,2,none⟩=some (.int .i64 ha)∧w5.cell? ⟨db,3,none⟩=some (.int .i64 ea):=⟨(zAA h5.hp 3 rfl).1,(zAA H5.out.2.2.1 0 rfl).1,(zAA H5.out.2.2.1 1 rfl).1,(zAA H5.out.2.2.2.2 0 rfl).1,(zAA H5.out.2.2.2.2 1 rfl).1,(zAA H5.out.2.2.2.2 2 rfl).1,(zAA H5.out.2.2.2.2 3 rfl).1⟩
  have C5d:w5.drew.cell? ⟨p,3,none⟩=some (.map (some bS))∧w5.drew.cell? ⟨w.heap.size,0,none⟩=some (.int .i64 r.cl)∧w5.drew.cell? ⟨w.heap.size,1,none⟩=some (.int .i64 r.st)∧w5.drew.cell? ⟨db,0,none⟩=some (.int .i64 ka)∧w5.drew.cell? ⟨db,1,none⟩=some (.int .i64 ta)∧w5.drew.cell? ⟨db,2,none⟩=some (.int .i64 ha)∧w5.drew.cell? ⟨db,3,none⟩=some (.int .i64 ea):=C5
  have C6:w6.cell? ⟨p,3,none⟩=some (.map (some bS))∧w6.cell? ⟨w.heap.size,0,none⟩=some (.int .i64 r.cl)∧w6.cell? ⟨w.heap.size,1,none⟩=some (.int .i64 r.st)∧w6.cell? ⟨db,0,none⟩=some (.int .i64 ka)∧w6.cell? ⟨db,1,none⟩=some (.int .i64 ta)∧w6.cell? ⟨db,2,none⟩=some (.int .i64 ha)∧w6.cell? ⟨db,3,none⟩=some (.int .i64 ea):=⟨(zAA hbk.hp 3 rfl).1,(zAA H6.out.1.2.1 0 rfl).1,(zAA H6.out.1.2.1 1 rfl).1,(zAA H6.out.1.2.2 0 rfl).1,(zAA H6.out.1.2.2 1 rfl).1,(zAA H6.out.1.2.2 2 rfl).1,(zAA H6.out.1.2.2 3 rfl).1⟩
  clear hup hbk hg6 h5
  go_region_held_law (fun W=>W.cell? ⟨p,3,none⟩=some (.map (some bS))∧W.cell? ⟨w.heap.size,0,none⟩=some (.int .i64 r.cl)∧W.cell? ⟨w.heap.size,1,none⟩=some (.int .i64 r.st)∧W.cell? ⟨db,0,none⟩=some (.int .i64 ka)∧W.cell? ⟨db,1,none⟩=some (.int .i64 ta)∧W.cell? ⟨db,2,none⟩=some (.int .i64 ha)∧W.cell? ⟨db,3,none⟩=some (.int .i64 ea)) (first | with_reducible exact C5 | with_reducible exact C5d | with_reducible exact C6) (fail)
  all_goals
   obtain ⟨c0,c1,c2,c3,c4x,c5,c6⟩:=C6
   clear C5 C5d hup2
   obtain ⟨a0,b0⟩:=zAA H6.out.1.1 0 rfl
   obtain ⟨a1,b1⟩:=zAA H6.out.1.1 1 rfl
   obtain ⟨a2,b2⟩:=zAA H6.out.1.1 2 rfl
   obtain ⟨a3,b3⟩:=zAA H6.out.1.1 3 rfl
   go_wp2_with fail
   have HG:Hid (((((w6.setCell ⟨w.heap.size+1,0,none⟩ (.int .i64 ka)).setCell ⟨w.heap.size+1,1,none⟩ (.int .i64 ta)).setCell ⟨w.heap.size+1,2,none⟩ (.int .i64 ha)).setCell ⟨w.heap.size+1,3,none⟩ (.int .i64 ea)).heap[w.heap.size+1]?=some (.cells #[.int .i64 ka,.int .i64 ta,.int .i64 ha,.int .i64 ea] 38 (0,0))∧(∃ qs,BK w0 ((((w6.setCell ⟨w.heap.size+1,0,none⟩ (.int .i64 ka)).setCell ⟨w.heap.size+1,1,none⟩ (.int .i64 ta)).setCell ⟨w.heap.size+1,2,none⟩ (.int .i64 ha)).setCell ⟨w.heap.size+1,3,none⟩ (.int .i64 ea)) B p bL bS { D with ss:=(T.ss.set k ⟨r.cl,r.st,ka,ta,ha,ea⟩) } qs)∧Fx p bL bS w ((((w6.setCell ⟨w.heap.size+1,0,none⟩ (.int .i64 ka)).setCell ⟨w.heap.size+1,1,none⟩ (.int .i64 ta)).setCell ⟨w.heap.size+1,2,none⟩ (.int .i64 ha)).setCell ⟨w.heap.size+1,3,none⟩ (.int .i64 ea))):=zAz H6.out.1.1 H6.out.2.1 H6.out.2.2 (by have:=HPL.out;omega) _ _ _ _
   generalize ((((w6.setCell ⟨w.heap.size+1,0,none⟩ (.int .i64 ka)).setCell ⟨w.heap.size+1,1,none⟩ (.int .i64 ta)).setCell ⟨w.heap.size+1,2,none⟩ (.int .i64 ha)).setCell ⟨w.heap.size+1,3,none⟩ (.int .i64 ea))=wf at HG ⊢
   have d0:=(zAA HG.out.1 0 (x:=.int .i64 ka) rfl).1
   have d1:=(zAA HG.out.1 1 (x:=.int .i64 ta) rfl).1
   have d2:=(zAA HG.out.1 2 (x:=.int .i64 ha) rfl).1
   have d3:=(zAA HG.out.1 3 (x:=.int .i64 ea) rfl).1
   exact bodyPost_ret (v:=.agg #[.int .i64 ka,.int .i64 ta,.int .i64 ha,.int .i64 ea]) (by simp [results,Tryz.results52,go_sem,d0,d1,d2,d3]) rfl ⟨rfl,HG.out.2⟩
end
end Go.Proofs.YticokpbelgpfmaaGreat.Jy4
