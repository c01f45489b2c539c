/- Texts put together: Jy5, Jy, Req. -/
import Derived.Test.YticokpbelgpfmaaGreatMa23
namespace Go.Proofs.YticokpbelgpfmaaGreat.Jy5
open Go.RowKit By Ap Tb Tw Mw Wa Bk Tp Da Ja Jb Jc
open Lo (LkA uV clL OwnL zAG zAK Apart zAP zAX)
open Jx0 Jx Jy0
open Tx (zAA zAC zAE zAJ zAD)
open Rq Ji Je Jf Jd Jh Jl Jr Jt Ju Jv Jw
section
variable {w0 w:World} {B p bL bS:Nat} {T:Tab} {ps:List LkA}
set_option maxRecDepth 100000 in
set_option maxHeartbeats 3200000 in
theorem ask_doN (h:BK w0 w B p bL bS T ps) (hT:TOK T) (now:Int) (h0:0≤now) (h1:now≤1000000000) (hn:T.nx≤999990) (r:Da.Ask) (hrc:0≤r.cl∧r.cl≤255) (hnn:∀ s ∈ T.ss,s.c ≠ r.cl) (hr:zBQ r) (he:less ⟨#[]⟩ r.nm=true) {D:Tab} {ka ta ha ea:Int} (hd:doT (exT T now) r=(D,⟨ka,ta,ha,ea⟩)) (hds:D.ss=T.ss) (hca:ClA (putAt T.ss (splc T.ss r.cl) ⟨r.cl,r.st,ka,ta,ha,ea⟩)) (hcb:∀ s ∈ (putAt T.ss (splc T.ss r.cl) ⟨r.cl,r.st,ka,ta,ha,ea⟩),0≤s.c∧s.c≤255) (hsl:T.ss.length≤1000) (hl6:T.ss.length≤5) :
 Calls Tryz.prog 52 #[.pointer (some ⟨p,0,none⟩),.int .i64 now,rqA r] w fun e w'=>e=.returned (anV ⟨ka,ta,ha,ea⟩)∧(∃ qs,BK w0 w' B p bL bS { D with ss:=(putAt T.ss (splc T.ss r.cl) ⟨r.cl,r.st,ka,ta,ha,ea⟩) } qs)∧Fx p bL bS w w':=by
 have HH:Hid (BK w0 w B p bL bS T ps):=h
 have HPL:Hid (p<w.heap.size∧B≤w.heap.size):=⟨h.plt,h.size⟩
 have HRC:Hid (0≤r.cl∧r.cl≤255):=hrc
 have HB:Hid (Below w.heap.size w ((w.alloc (.cells #[.int .i64 r.cl,.int .i64 r.st,.int .i64 r.kd,.int .i64 r.le,.string r.nm] 42)).alloc (.cells #[.int .i64 0,.int .i64 0,.int .i64 0,.int .i64 0] 38))∧((w.alloc (.cells #[.int .i64 r.cl,.int .i64 r.st,.int .i64 r.kd,.int .i64 r.le,.string r.nm] 42)).alloc (.cells #[.int .i64 0,.int .i64 0,.int .i64 0,.int .i64 0] 38)).heap[w.heap.size]?=some (.cells #[.int .i64 r.cl,.int .i64 r.st,.int .i64 r.kd,.int .i64 r.le,.string r.nm] 42 (0,0))∧((w.alloc (.cells #[.int .i64 r.cl,.int .i64 r.st,.int .i64 r.kd,.int .i64 r.le,.string r.nm] 42)).alloc (.cells #[.int .i64 0,.int .i64 0,.int .i64 0,.int .i64 0] 38)).heap[w.heap.size+1]?=some (.cells #[.int .i64 0,.int .i64 0,.int .i64 0,.int .i64 0] 38 (0,0))):=⟨bel2 _ _ _,(zAP w _ _).1,(zAP w _ _).2⟩
 have HSZ:Hid (((w.alloc (.cells #[.int .i64 r.cl,.int .i64 r.st,.int .i64 r.kd,.int .i64 r.le,.string r.nm] 42)).alloc (.cells #[.int .i64 0,.int .i64 0,.int .i64 0,.int .i64 0] 38)).heap.size=w.heap.size+1+1):=by show _=_;rw [Bk.zAL,Bk.zAL]
 have HKK:Hid (∀ s ∈ T.ss,s.c ≠ r.cl):=hnn
 clear hnn
 have HX:Hid (TOK (exT T now)∧(exT T now).nx≤999999):=⟨exT_ok hT h0 h1 hn,by have:=(exT_nx T now hT.2.2.1).2;omega⟩
 have HR:Hid (zBQ r∧less ⟨#[]⟩ r.nm=true):=⟨hr,he⟩
 have HD:Hid (doT (exT T now) r=(D,⟨ka,ta,ha,ea⟩)∧D.ss=T.ss∧ClA (putAt T.ss (splc T.ss r.cl) ⟨r.cl,r.st,ka,ta,ha,ea⟩)∧(∀ s ∈ (putAt T.ss (splc T.ss r.cl) ⟨r.cl,r.st,ka,ta,ha,ea⟩),0≤s.c∧s.c≤255)∧T.ss.length≤1000):=⟨hd,hds,hca,hcb,hsl⟩
 clear hr he hd hds hca hcb hsl
 have hb4:¬ (6:Int)≤(T.ss.length:Int):=by omega
 have hb5:(T.ss.length:Int)<6:=by omega
 have hb6:decide ((6:Int)≤(T.ss.length:Int))=false:=by simp;omega
 clear h hrc
 unfold rqA
 go_enter Tryz.func52,Tryz.ntmps52
 go_upto_region 1 with fail
 obtain ⟨w1,hw1⟩ : ∃ w1,((w.alloc (.cells #[.int .i64 r.cl,.int .i64 r.st,.int .i64 r.kd,.int .i64 r.le,.string r.nm] 42)).alloc (.cells #[.int .i64 0,.int .i64 0,.int .i64 0,.int .i64 0] 38))=w1:=⟨_,rfl⟩
 rw [hw1] at HB HSZ ⊢
 clear hw1
 have HGO:Hid (Calls Tryz.prog 68 #[.pointer (some ⟨p,0,none⟩),.int .i64 now] w1 fun e w'=>e=.returned (.tuple #[])∧(∃ qs,BK w0 w' B p bL bS (exT T now) qs)∧Fx p bL bS w1 w'):=goOn_any (HH.out.up HB.out.1) now hT h0 h1 hn
 go_upto_region 2 with (go_at_call 68;go_must (refine HGO.out.mono ?_;rintro e w2 ⟨rfl,hq,hf⟩;have H2:Hid ((∃ qs,BK w0 w2 B p bL bS (exT T now) qs)∧Fx p bL bS w w2∧w2.heap[w.heap.size]?=some (.cells #[.int .i64 r.cl,.int .i64 r.st,.int .i64 r.kd,.int .i64 r.le,.string r.nm] 42 (0,0))∧w2.heap[w.heap.size+1]?=some (.cells #[.int .i64 0,.int .i64 0,.int .i64 0,.int .i64 0] 38 (0,0))∧w.heap.size+1<w2.heap.size):=⟨hq,(Fx.of_below HB.out.1).trans hf,fx_blk HH.out hf HB.out.2.1 (Nat.le_refl _),fx_blk HH.out hf HB.out.2.2 (by omega),by have:=hf.size;have:=HSZ.out;omega⟩;clear hq hf))
 obtain ⟨qs,hqs⟩:=H2.out.1
 have HQ:Hid (BK w0 w2 B p bL bS (exT T now) qs):=hqs
 clear hqs
 have HLO:Hid (∀ W,Below w2.heap.size w2 W→(Instr.lookup 107 (.map (some bS)) (.int .i64 r.cl) true).run Tryz.prog W=.ok (.tuple #[.agg #[.int .i64 0,.int .i64 0,.int .i64 0,.int .i64 0,.int .i64 0,.int .i64 0],.bool false]) W):=fun W hW=>lookS_no (zAR HQ.out.ms (hW.block bS HQ.out.slt)) HKK.out HRC.out
 have HCL:Hid (∀ W,Below w2.heap.size w2 W→W.cell? ⟨p,3,none⟩=some (.map (some bS))∧W.cell? ⟨w.heap.size,0,none⟩=some (.int .i64 r.cl)):=fun W hW=>⟨(zAA (HQ.out.up hW).hp 3 rfl).1,(zAA ((hW.block _ (Array.getElem?_eq_some_iff.1 H2.out.2.2.1).1).trans H2.out.2.2.1) 0 rfl).1⟩
 obtain ⟨p3,q0⟩:=HCL.out w2 (Below.refl _ _)
 have hlk1:=HLO.out w2 (Below.refl _ _)
 have hlk2:=HLO.out w2.drew (Below.refl _ _).drew
 have hlk3:=HLO.out (w2.alloc (.cells #[.int .i64 0,.int .i64 0,.int .i64 0,.int .i64 0,.int .i64 0,.int .i64 0] 116)).drew ((Below.refl _ _).alloc (Nat.le_refl _) _).drew
 go_region_held_law (fun W=>W.cell? ⟨p,3,none⟩=some (.map (some bS))∧W.cell? ⟨w.heap.size,0,none⟩=some (.int .i64 r.cl)) (first | with_reducible exact ⟨p3,q0⟩ | with_reducible exact HCL.out _ (Below.refl _ _).drew | with_reducible exact HCL.out _ ((Below.refl _ _).alloc (Nat.le_refl _) _).drew) (fail)
 all_goals
  have HE:Hid ((w2.alloc (.cells #[.int .i64 0,.int .i64 0,.int .i64 0,.int .i64 0,.int .i64 0,.int .i64 0] 116)).drew.heap[w.heap.size]?=some (.cells #[.int .i64 r.cl,.int .i64 r.st,.int .i64 r.kd,.int .i64 r.le,.string r.nm] 42 (0,0))∧(w2.alloc (.cells #[.int .i64 0,.int .i64 0,.int .i64 0,.int .i64 0,.int .i64 0,.int .i64 0] 116)).drew.heap[w.heap.size+1]?=some (.cells #[.int .i64 0,.int .i64 0,.int .i64 0,.int .i64 0] 38 (0,0))∧(w2.alloc (.cells #[.int .i64 0,.int .i64 0,.int .i64 0,.int .i64 0,.int .i64 0,.int .i64 0] 116)).drew.heap[w2.heap.size]?=some (.cells #[.int .i64 0,.int .i64 0,.int .i64 0,.int .i64 0,.int .i64 0,.int .i64 0] 116 (0,0))∧BK w0 (w2.alloc (.cells #[.int .i64 0,.int .i64 0,.int .i64 0,.int .i64 0,.int .i64 0,.int .i64 0] 116)).drew B p bL bS (exT T now) qs∧Fx p bL bS w (w2.alloc (.cells #[.int .i64 0,.int .i64 0,.int .i64 0,.int .i64 0,.int .i64 0,.int .i64 0] 116)).drew):=by
   have hb:=((Below.refl _ w2).alloc (Nat.le_refl _) (.cells #[.int .i64 0,.int .i64 0,.int .i64 0,.int .i64 0,.int .i64 0,.int .i64 0] 116)).drew
   exact ⟨(hb.block _ (Array.getElem?_eq_some_iff.1 H2.out.2.2.1).1).trans H2.out.2.2.1,(hb.block _ (Array.getElem?_eq_some_iff.1 H2.out.2.2.2.1).1).trans H2.out.2.2.2.1,zAJ w2 #[.int .i64 0,.int .i64 0,.int .i64 0,.int .i64 0,.int .i64 0,.int .i64 0] 116,HQ.out.up hb,H2.out.2.1.trans (Fx.of_below hb)⟩
  obtain ⟨sb,hsb⟩ : ∃ sb,w2.heap.size=sb:=⟨_,rfl⟩
  generalize hwd:(w2.alloc (.cells #[.int .i64 0,.int .i64 0,.int .i64 0,.int .i64 0,.int .i64 0,.int .i64 0] 116)).drew=w3 at HE ⊢
  rw [hsb] at HE ⊢
  have HSB:Hid (w.heap.size+1<sb∧w.heap.size+1<w3.heap.size):=⟨by have:=H2.out.2.2.2.2;omega,(Array.getElem?_eq_some_iff.1 HE.out.2.1).1⟩
  clear hwd hsb p3 q0 hlk1 hlk2 hlk3 HLO HCL HGO
  obtain ⟨x0,y0⟩:=zAA HE.out.2.2.1 0 rfl
  obtain ⟨x1,y1⟩:=zAA HE.out.2.2.1 1 rfl
  obtain ⟨x2,y2⟩:=zAA HE.out.2.2.1 2 rfl
  obtain ⟨x3,y3⟩:=zAA HE.out.2.2.1 3 rfl
  obtain ⟨x4,y4⟩:=zAA HE.out.2.2.1 4 rfl
  obtain ⟨x5,y5⟩:=zAA HE.out.2.2.1 5 rfl
  have q0:=(zAA HE.out.1 0 rfl).1
  have q1:=(zAA HE.out.1 1 rfl).1
  have q2:=(zAA HE.out.1 2 rfl).1
  have q3:=(zAA HE.out.1 3 rfl).1
  have q4:=(zAA HE.out.1 4 rfl).1
  obtain ⟨a0,b0⟩:=zAA HE.out.2.1 0 rfl
  obtain ⟨a1,b1⟩:=zAA HE.out.2.1 1 rfl
  obtain ⟨a2,b2⟩:=zAA HE.out.2.1 2 rfl
  obtain ⟨a3,b3⟩:=zAA HE.out.2.1 3 rfl
  have p3:=(zAA HE.out.2.2.2.1.hp 3 (x:=.map (some bS)) rfl).1
  have hlen:(Builtin.len_ #[107] 3 #[.map (some bS)]).run Tryz.prog w3=.ok (.int .i64 (T.ss.length:Int)) w3:=by
   have e:=HE.out.2.2.2.1.ms.len Tryz.underlying107 3
   rw [show Maps.size (mS (exT T now).ss)=T.ss.length from zAe _] at e
   exact e
  go_upto_region 9 with fail
  clear hlen
  have HDO:Hid (Calls Tryz.prog 93 #[.pointer (some ⟨p,0,none⟩),.agg #[.int .i64 r.cl,.int .i64 r.st,.int .i64 r.kd,.int .i64 r.le,.string r.nm]] w3 fun e w'=>e=.returned (.agg #[.int .i64 ka,.int .i64 ta,.int .i64 ha,.int .i64 ea])∧(∃ qs,BK w0 w' B p bL bS D qs)∧Fx p bL bS w3 w'):=by
   have h0:=do_any HE.out.2.2.2.1 HX.out.1 HX.out.2 r HR.out.1 HR.out.2
   rw [HD.out.1] at h0
   exact h0
  go_upto_region 10 with (go_at_call 93;go_must (refine HDO.out.mono ?_;rintro e w4 ⟨rfl,hq,hf⟩;have H4:Hid ((∃ qs,BK w0 w4 B p bL bS D qs)∧Fx p bL bS w w4∧w4.heap[w.heap.size]?=some (.cells #[.int .i64 r.cl,.int .i64 r.st,.int .i64 r.kd,.int .i64 r.le,.string r.nm] 42 (0,0))∧w4.heap[w.heap.size+1]?=some (.cells #[.int .i64 0,.int .i64 0,.int .i64 0,.int .i64 0] 38 (0,0))∧w.heap.size+1<w4.heap.size):=⟨hq,HE.out.2.2.2.2.trans hf,fx_blk2 HH.out hf HE.out.1 (Nat.le_refl _),fx_blk2 HH.out hf HE.out.2.1 (by omega),by have:=hf.size;have:=HSB.out;omega⟩;clear hq hf;clear x0 y0 x1 y1 x2 y2 x3 y3 x4 y4 x5 y5 q0 q1 q2 q3 q4 a0 b0 a1 b1 a2 b2 a3 b3 p3))
  have H5:Hid ((∃ qs,BK w0 (w4.alloc (.cells #[.int .i64 ka,.int .i64 ta,.int .i64 ha,.int .i64 ea] 38)) B p bL bS D qs)∧Fx p bL bS w (w4.alloc (.cells #[.int .i64 ka,.int .i64 ta,.int .i64 ha,.int .i64 ea] 38))∧(w4.alloc (.cells #[.int .i64 ka,.int .i64 ta,.int .i64 ha,.int .i64 ea] 38)).heap[w.heap.size]?=some (.cells #[.int .i64 r.cl,.int .i64 r.st,.int .i64 r.kd,.int .i64 r.le,.string r.nm] 42 (0,0))∧(w4.alloc (.cells #[.int .i64 ka,.int .i64 ta,.int .i64 ha,.int .i64 ea] 38)).heap[w.heap.size+1]?=some (.cells #[.int .i64 0,.int .i64 0,.int .i64 0,.int .i64 0] 38 (0,0))∧(w4.alloc (.cells #[.int .i64 ka,.int .i64 ta,.int .i64 ha,.int .i64 ea] 38)).heap[w4.heap.size]?=some (.cells #[.int .i64 ka,.int .i64 ta,.int .i64 ha,.int .i64 ea] 38 (0,0))):=by
   have hb:=(Below.refl _ w4).alloc (Nat.le_refl _) (.cells #[.int .i64 ka,.int .i64 ta,.int .i64 ha,.int .i64 ea] 38)
   obtain ⟨q4,hq4⟩:=H4.out.1
   exact ⟨⟨q4,hq4.up hb⟩,H4.out.2.1.trans (Fx.of_below hb),(hb.block _ (Array.getElem?_eq_some_iff.1 H4.out.2.2.1).1).trans H4.out.2.2.1,(hb.block _ (Array.getElem?_eq_some_iff.1 H4.out.2.2.2.1).1).trans H4.out.2.2.2.1,zAJ w4 #[.int .i64 ka,.int .i64 ta,.int .i64 ha,.int .i64 ea] 38⟩
  obtain ⟨db,hdb⟩ : ∃ db,w4.heap.size=db:=⟨_,rfl⟩
  generalize hwa:(w4.alloc (.cells #[.int .i64 ka,.int .i64 ta,.int .i64 ha,.int .i64 ea] 38))=w5 at H5 ⊢
  rw [hdb] at H5 ⊢
  have HDB:Hid (w.heap.size+1<db):=by have:=H4.out.2.2.2.2;show _<_;omega
  clear hwa hdb HDO
  obtain ⟨qs5,h5⟩:=H5.out.1
  obtain ⟨w6,hup,hbk,hg6⟩:=bk_seenN (T:=D) (h5.up (Below.refl _ _).drew) (s':=⟨r.cl,r.st,ka,ta,ha,ea⟩) (by rw [HD.out.2.1];exact HKK.out) HRC.out (by rw [HD.out.2.1];exact HD.out.2.2.2.2) (by rw [HD.out.2.1];exact HD.out.2.2.1) (by rw [HD.out.2.1];exact HD.out.2.2.2.1)
  have hup2:(Instr.mapUpdate 107 (.map (some bS)) (.int .i64 r.cl) (.agg #[.int .i64 r.cl,.int .i64 r.st,.int .i64 ka,.int .i64 ta,.int .i64 ha,.int .i64 ea])).run Tryz.prog w5.drew=.ok () w6:=hup
  rw [HD.out.2.1] at hbk
  have H6:Hid ((w6.heap[w.heap.size+1]?=some (.cells #[.int .i64 0,.int .i64 0,.int .i64 0,.int .i64 0] 38 (0,0))∧w6.heap[w.heap.size]?=some (.cells #[.int .i64 r.cl,.int .i64 r.st,.int .i64 r.kd,.int .i64 r.le,.string r.nm] 42 (0,0))∧w6.heap[db]?=some (.cells #[.int .i64 ka,.int .i64 ta,.int .i64 ha,.int .i64 ea] 38 (0,0)))∧(∃ qs,BK w0 w6 B p bL bS { D with ss:=(putAt T.ss (splc T.ss r.cl) ⟨r.cl,r.st,ka,ta,ha,ea⟩) } qs)∧Fx p bL bS w w6):=⟨⟨up_blkS HH.out hg6 H5.out.2.2.2.1 (by omega),up_blkS HH.out hg6 H5.out.2.2.1 (Nat.le_refl _),up_blkS HH.out hg6 H5.out.2.2.2.2 (by have:=HDB.out;omega)⟩,⟨_,hbk⟩,H5.out.2.1.trans ((Fx.of_below (Below.refl _ _).drew).trans (grown_fxS hg6))⟩
  have C5:w5.cell? ⟨p,3,none⟩=some (.map (some bS))∧w5.cell? ⟨w.heap.size,0,none⟩=some (.int .i64 r.cl)∧w5.cell? ⟨w.heap.size,1,none⟩=some (.int .i64 r.st)∧w5.cell? ⟨db,0,none⟩=some (.int .i64 ka)∧w5.cell? ⟨db,1,none⟩=some (.int .i64 ta)∧w5.cell? ⟨db,2,none⟩=some (.int .i64 ha)∧w5.cell? ⟨db,3,none⟩=some (.int .i64 ea):=⟨(zAA h5.hp 3 rfl).1,(zAA H5.out.2.2.1 0 rfl).1,(zAA H5.out.2.2.1 1 rfl).1,(zAA H5.out.2.2.2.2 0 rfl).1,(zAA H5.out.2.2.2.2 1 rfl).1,(zAA H5.out.2.2.2.2 2 rfl).1,(zAA H5.out.2.2.2.2 3 rfl).1⟩
  have C5d:w5.drew.cell? ⟨p,3,none⟩=some (.map (some bS))∧w5.drew.cell? ⟨w.heap.size,0,none⟩=some (.int .i64 r.cl)∧w5.drew.cell? ⟨w.heap.size,1,none⟩=some (.int .i64 r.st)∧w5.drew.cell? ⟨db,0,none⟩=some (.int .i64 ka)∧w5.drew.cell? ⟨db,1,none⟩=some (.int .i64 ta)∧w5.drew.cell? ⟨db,2,none⟩=some (.int .i64 ha)∧w5.drew.cell? ⟨db,3,none⟩=some (.int .i64 ea):=C5
  have C6:w6.cell? ⟨p,3,none⟩=some (.map (some bS))∧w6.cell? ⟨w.heap.size,0,none⟩=some (.int .i64 r.cl)∧w6.cell? ⟨w.heap.size,1,none⟩=some (.int .i64 r.st)∧w6.cell? ⟨db,0,none⟩=some (.int .i64 ka)∧w6.cell? ⟨db,1,none⟩=some (.int .i64 ta)∧w6.cell? ⟨db,2,none⟩=some (.int .i64 ha)∧w6.cell? ⟨db,3,none⟩=some (.int .i64 ea):=⟨(zAA hbk.hp 3 rfl).1,(zAA H6.out.1.2.1 0 rfl).1,(zAA H6.out.1.2.1 1 rfl).1,(zAA H6.out.1.2.2 0 rfl).1,(zAA H6.out.1.2.2 1 rfl).1,(zAA H6.out.1.2.2 2 rfl).1,(zAA H6.out.1.2.2 3 rfl).1⟩
  clear hup hbk hg6 h5
  go_region_held_law (fun W=>W.cell? ⟨p,3,none⟩=some (.map (some bS))∧W.cell? ⟨w.heap.size,0,none⟩=some (.int .i64 r.cl)∧W.cell? ⟨w.heap.size,1,none⟩=some (.int .i64 r.st)∧W.cell? ⟨db,0,none⟩=some (.int .i64 ka)∧W.cell? ⟨db,1,none⟩=some (.int .i64 ta)∧W.cell? ⟨db,2,none⟩=some (.int .i64 ha)∧W.cell? ⟨db,3,none⟩=some (.int .i64 ea)) (first | with_reducible exact C5 | with_reducible exact C5d | with_reducible exact C6) (fail)
  all_goals
   obtain ⟨c0,c1,c2,c3,c4x,c5,c6⟩:=C6
   clear C5 C5d hup2
   obtain ⟨a0,b0⟩:=zAA H6.out.1.1 0 rfl
   obtain ⟨a1,b1⟩:=zAA H6.out.1.1 1 rfl
   obtain ⟨a2,b2⟩:=zAA H6.out.1.1 2 rfl
   obtain ⟨a3,b3⟩:=zAA H6.out.1.1 3 rfl
   go_wp2_with fail
   have HG:Hid (((((w6.setCell ⟨w.heap.size+1,0,none⟩ (.int .i64 ka)).setCell ⟨w.heap.size+1,1,none⟩ (.int .i64 ta)).setCell ⟨w.heap.size+1,2,none⟩ (.int .i64 ha)).setCell ⟨w.heap.size+1,3,none⟩ (.int .i64 ea)).heap[w.heap.size+1]?=some (.cells #[.int .i64 ka,.int .i64 ta,.int .i64 ha,.int .i64 ea] 38 (0,0))∧(∃ qs,BK w0 ((((w6.setCell ⟨w.heap.size+1,0,none⟩ (.int .i64 ka)).setCell ⟨w.heap.size+1,1,none⟩ (.int .i64 ta)).setCell ⟨w.heap.size+1,2,none⟩ (.int .i64 ha)).setCell ⟨w.heap.size+1,3,none⟩ (.int .i64 ea)) B p bL bS { D with ss:=(putAt T.ss (splc T.ss r.cl) ⟨r.cl,r.st,ka,ta,ha,ea⟩) } qs)∧Fx p bL bS w ((((w6.setCell ⟨w.heap.size+1,0,none⟩ (.int .i64 ka)).setCell ⟨w.heap.size+1,1,none⟩ (.int .i64 ta)).setCell ⟨w.heap.size+1,2,none⟩ (.int .i64 ha)).setCell ⟨w.heap.size+1,3,none⟩ (.int .i64 ea))):=zAz H6.out.1.1 H6.out.2.1 H6.out.2.2 (by have:=HPL.out;omega) _ _ _ _
   generalize ((((w6.setCell ⟨w.heap.size+1,0,none⟩ (.int .i64 ka)).setCell ⟨w.heap.size+1,1,none⟩ (.int .i64 ta)).setCell ⟨w.heap.size+1,2,none⟩ (.int .i64 ha)).setCell ⟨w.heap.size+1,3,none⟩ (.int .i64 ea))=wf at HG ⊢
   have d0:=(zAA HG.out.1 0 (x:=.int .i64 ka) rfl).1
   have d1:=(zAA HG.out.1 1 (x:=.int .i64 ta) rfl).1
   have d2:=(zAA HG.out.1 2 (x:=.int .i64 ha) rfl).1
   have d3:=(zAA HG.out.1 3 (x:=.int .i64 ea) rfl).1
   exact bodyPost_ret (v:=.agg #[.int .i64 ka,.int .i64 ta,.int .i64 ha,.int .i64 ea]) (by simp [results,Tryz.results52,go_sem,d0,d1,d2,d3]) rfl ⟨rfl,HG.out.2⟩
end
end Go.Proofs.YticokpbelgpfmaaGreat.Jy5
namespace Go.Proofs.YticokpbelgpfmaaGreat.Jy
open Go.RowKit By Ap Tb Tw Mw Wa Bk Tp Da Ja Jb Jc
open Lo (LkA uV clL OwnL zAG zAK Apart zAP zAX)
open Jx0 Jx Jy0 Jy1 Jy2 Jy3 Jy4 Jy5
open Tx (zAA zAC zAE zAJ zAD)
open Rq Ji Je Jf Jd Jh Jl Jr Jt Ju Jv Jw
section
variable {w0 w:World} {B p bL bS:Nat} {T:Tab} {ps:List LkA}
theorem do_ss (t:Tab) (r:Da.Ask):(doT t r).1.ss=t.ss:=by
 unfold doT
 split
 ·rfl
 ·split
  ·rfl
  ·split <;> rfl
theorem ask_any (h:BK w0 w B p bL bS T ps) (hT:TOK T) (now:Int) (h0:0≤now) (h1:now≤1000000000) (hn:T.nx≤999990) (r:Da.Ask) (hr:zBQ r) (he:less ⟨#[]⟩ r.nm=true) :
 Calls Tryz.prog 52 #[.pointer (some ⟨p,0,none⟩),.int .i64 now,rqA r] w fun e w'=>e=.returned (anV (apT T now r).2)∧(∃ qs,BK w0 w' B p bL bS (apT T now r).1 qs)∧Fx p bL bS w w':=by
 have hA:=tok_bk (apT_ok hT h0 h1 hr he hn).1
 have hB:=tok_bk hT
 have hrc:=zAQ hr.1
 have hsl:T.ss.length≤1000:=by have:=hB.2.2.2;omega
 have hds:(doT (exT T now) r).1.ss=T.ss:=do_ss _ _
 obtain ⟨D,ka,ta,ha,ea,hd⟩ : ∃ D ka ta ha ea,doT (exT T now) r=(D,⟨ka,ta,ha,ea⟩):=⟨_,_,_,_,_,rfl⟩
 rw [hd] at hds
 cases hi:sidx T.ss r.cl with
 | some k =>
   obtain ⟨s,hs,hsc⟩:=zBC _ _ hi
   have hsc2:s.c=r.cl:=by simpa using hsc
   have hg:T.ss.getD k default=s:=by rw [List.getD_eq_getElem?_getD,hs];rfl
   unfold apT at hA ⊢
   rw [hi] at hA ⊢
   simp only [hg,hd] at hA ⊢
   obtain ⟨sc,s1,s2,s3,s4,s5⟩:=s
   dsimp only at hsc2 hA ⊢
   subst hsc2
   by_cases e1:r.st=s1
   ·rw [if_pos e1]
    exact ask_same h hT now h0 h1 hn r hrc hs e1
   ·rw [if_neg e1] at hA ⊢
    by_cases e2:r.st<s1
    ·rw [if_pos e2]
     exact ask_old h hT now h0 h1 hn r hrc hs e2
    ·rw [if_neg e2] at hA ⊢
     exact ask_doH h hT now h0 h1 hn r hrc hs hr he hd hds hA.1.2.1 hA.1.2.2.2 hsl (by omega)
 | none =>
   have hnn:∀ s ∈ T.ss,s.c ≠ r.cl:=fun s hs e=>by
    obtain ⟨i,hi2⟩:=List.mem_iff_getElem?.1 hs
    have h2:=fiP_none _ hi i s hi2
    rw [e] at h2
    simp at h2
   unfold apT at hA ⊢
   rw [hi] at hA ⊢
   simp only [hd] at hA ⊢
   by_cases h6:6≤T.ss.length
   ·rw [if_pos h6]
    exact ask_full h hT now h0 h1 hn r hrc hnn h6
   ·rw [if_neg h6] at hA ⊢
    exact ask_doN h hT now h0 h1 hn r hrc hnn hr he hd hds hA.1.2.1 hA.1.2.2.2 hsl (by omega)
end
end Go.Proofs.YticokpbelgpfmaaGreat.Jy
namespace Go.Proofs.YticokpbelgpfmaaGreat.Rq
open Go.RowKit
def leB (k l:Int):Bool:=decide ((k=1 ∨ k=3)∧1≤l∧l≤1000 ∨ (k=2 ∨ k=4)∧l=0)
theorem leaseOK_any (k l:Int) (w:World) :
 Calls Tryz.prog 103 #[.int .i64 k,.int .i64 l] w fun e w'=>e=.returned (.bool (leB k l))∧w'=w:=by
 by_cases k1:k=1
 ·subst k1
  go_enter Tryz.func103,Tryz.ntmps103
  go_wp2_with (go_at_call 60;refine (zAO _ _ _ _).mono ?_;rintro e w' ⟨rfl,rfl⟩)
  go_ret
  exact ⟨zAH (by unfold leB inB;simp),rfl⟩
 by_cases k3:k=3
 ·subst k3
  go_enter Tryz.func103,Tryz.ntmps103
  go_wp2_with (go_at_call 60;refine (zAO _ _ _ _).mono ?_;rintro e w' ⟨rfl,rfl⟩)
  go_ret
  exact ⟨zAH (by unfold leB inB;simp),rfl⟩
 by_cases k2:k=2
 ·subst k2
  go_enter Tryz.func103,Tryz.ntmps103
  go_wp2
  go_ret
  exact ⟨zAH (by unfold leB;rw [Bool.eq_iff_iff];simp),rfl⟩
 by_cases k4:k=4
 ·subst k4
  go_enter Tryz.func103,Tryz.ntmps103
  go_wp2
  go_ret
  exact ⟨zAH (by unfold leB;rw [Bool.eq_iff_iff];simp),rfl⟩
 have e1:(k == 1)=false:=beq_eq_false_iff_ne.2 k1
 have e2:(k == 2)=false:=beq_eq_false_iff_ne.2 k2
 have e3:(k == 3)=false:=beq_eq_false_iff_ne.2 k3
 have e4:(k == 4)=false:=beq_eq_false_iff_ne.2 k4
 go_enter Tryz.func103,Tryz.ntmps103
 go_wp2
 go_ret
 exact ⟨zAH (by unfold leB;rw [Bool.eq_iff_iff];simp;omega),rfl⟩
def reqB (c st k l:Int) (n:ByteArray):Bool:=inB c 0 255 && (inB st 1 65535 && (leB k l && opB n))
def reqV (c st k l:Int) (n:ByteArray):Value:=.agg #[.int .i64 c,.int .i64 st,.int .i64 k,.int .i64 l,.string n]
set_option maxHeartbeats 400000 in
theorem implRequestOK_any (c st k l:Int) (n:ByteArray) (w:World) (hs:n.size≤maxLen) :
 Calls Tryz.prog 63 #[reqV c st k l n] w fun e w'=>e=.returned (.bool (reqB c st k l n))∧Below w.heap.size w w':=by
 unfold reqV
 cases h1:inB c 0 255
 ·have HO:Hid (reqB c st k l n=false):=by show reqB c st k l n=false;unfold reqB;rw [h1];rfl
  go_enter Tryz.func63,Tryz.ntmps63
  go_wp2_with (go_at_call 60;refine (zAO _ _ _ _).mono ?_;rintro e w' ⟨rfl,rfl⟩)
  go_ret
  exact ⟨zAH HO.out.symm,(Below.refl _ _).alloc (Nat.le_refl _) _⟩
 cases h2:inB st 1 65535
 ·have HO:Hid (reqB c st k l n=false):=by show reqB c st k l n=false;unfold reqB;rw [h1,h2];rfl
  go_enter Tryz.func63,Tryz.ntmps63
  go_wp2_with (go_at_call 60;refine (zAO _ _ _ _).mono ?_;rintro e w' ⟨rfl,rfl⟩)
  go_ret
  exact ⟨zAH HO.out.symm,(Below.refl _ _).alloc (Nat.le_refl _) _⟩
 cases h3:leB k l
 ·have HO:Hid (reqB c st k l n=false):=by show reqB c st k l n=false;unfold reqB;rw [h1,h2,h3];rfl
  go_enter Tryz.func63,Tryz.ntmps63
  go_wp2_with (first | (go_at_call 60;refine (zAO _ _ _ _).mono ?_;rintro e w' ⟨rfl,rfl⟩) | (go_at_call 103;refine (leaseOK_any _ _ _).mono ?_;rintro e w' ⟨rfl,rfl⟩))
  go_ret
  exact ⟨zAH HO.out.symm,(Below.refl _ _).alloc (Nat.le_refl _) _⟩
 have HO:Hid (reqB c st k l n=opB n):=by show reqB c st k l n=opB n;unfold reqB;rw [h1,h2,h3];rfl
 go_enter Tryz.func63,Tryz.ntmps63
 go_wp2_with (first | (go_at_call 60;refine (zAO _ _ _ _).mono ?_;rintro e w' ⟨rfl,rfl⟩) | (go_at_call 103;refine (leaseOK_any _ _ _).mono ?_;rintro e w' ⟨rfl,rfl⟩) | (go_at_call 100;refine (opNameOK_any _ _ hs).mono ?_;rintro e w' ⟨rfl,hb⟩))
 go_ret
 exact ⟨zAH HO.out.symm,((Below.refl _ _).alloc (Nat.le_refl _) _).trans (hb.mono (by simp))⟩
theorem lease_split (k l:Int):leB k l=(inB k 1 4 && (inB l 0 1000 && (decide (0<l) == (k == 1 || k == 3)))):=by
 unfold leB inB
 by_cases k1:k=1
 ·subst k1;rw [Bool.eq_iff_iff];simp;omega
 by_cases k2:k=2
 ·subst k2;rw [Bool.eq_iff_iff];simp;omega
 by_cases k3:k=3
 ·subst k3;rw [Bool.eq_iff_iff];simp;omega
 by_cases k4:k=4
 ·subst k4;rw [Bool.eq_iff_iff];simp;omega
 have e1:¬ (1≤k∧k≤4):=by omega
 rw [Bool.eq_iff_iff]
 simp [k1,k2,k3,k4]
 omega
theorem zBR (c st k l:Int) (n:ByteArray):reqB c st k l n=(inB c 0 255 && (inB st 1 65535 && (inB k 1 4 && (inB l 0 1000 && (opB n && (decide (0<l) == (k == 1 || k == 3))))))):=by
 unfold reqB
 rw [lease_split]
 cases inB c 0 255 <;> cases inB st 1 65535 <;> cases inB k 1 4 <;> cases inB l 0 1000 <;> cases opB n <;> simp
set_option maxHeartbeats 800000 in
theorem specRequestOK_any (c st k l:Int) (n:ByteArray) (w:World) (hs:n.size≤maxLen) :
 Calls Tryz.prog 55 #[reqV c st k l n] w fun e w'=>e=.returned (.bool (reqB c st k l n))∧Below w.heap.size w w':=by
 unfold reqV
 cases h1:inB c 0 255
 ·have HO:Hid (reqB c st k l n=false):=by show reqB c st k l n=false;rw [zBR,h1];rfl
  go_enter Tryz.func55,Tryz.ntmps55
  go_wp2_with (go_at_call 56;refine (zAY _ _ _ _).mono ?_;rintro e w' ⟨rfl,rfl⟩)
  go_ret
  exact ⟨zAH HO.out.symm,(Below.refl _ _).alloc (Nat.le_refl _) _⟩
 cases h2:inB st 1 65535
 ·have HO:Hid (reqB c st k l n=false):=by show reqB c st k l n=false;rw [zBR,h1,h2];rfl
  go_enter Tryz.func55,Tryz.ntmps55
  go_wp2_with (go_at_call 56;refine (zAY _ _ _ _).mono ?_;rintro e w' ⟨rfl,rfl⟩)
  go_ret
  exact ⟨zAH HO.out.symm,(Below.refl _ _).alloc (Nat.le_refl _) _⟩
 cases h3:inB k 1 4
 ·have HO:Hid (reqB c st k l n=false):=by show reqB c st k l n=false;rw [zBR,h1,h2,h3];rfl
  go_enter Tryz.func55,Tryz.ntmps55
  go_wp2_with (go_at_call 56;refine (zAY _ _ _ _).mono ?_;rintro e w' ⟨rfl,rfl⟩)
  go_ret
  exact ⟨zAH HO.out.symm,(Below.refl _ _).alloc (Nat.le_refl _) _⟩
 cases h4:inB l 0 1000
 ·have HO:Hid (reqB c st k l n=false):=by show reqB c st k l n=false;rw [zBR,h1,h2,h3,h4];rfl
  go_enter Tryz.func55,Tryz.ntmps55
  go_wp2_with (go_at_call 56;refine (zAY _ _ _ _).mono ?_;rintro e w' ⟨rfl,rfl⟩)
  go_ret
  exact ⟨zAH HO.out.symm,(Below.refl _ _).alloc (Nat.le_refl _) _⟩
 cases h5:opB n
 ·have HO:Hid (reqB c st k l n=false):=by show reqB c st k l n=false;rw [zBR,h1,h2,h3,h4,h5];rfl
  go_enter Tryz.func55,Tryz.ntmps55
  go_wp2_with (first | (go_at_call 56;refine (zAY _ _ _ _).mono ?_;rintro e w' ⟨rfl,rfl⟩) | (go_at_call 96;refine (zBb _ _ hs).mono ?_;rintro e w' ⟨rfl,rfl⟩))
  go_ret
  exact ⟨zAH HO.out.symm,(Below.refl _ _).alloc (Nat.le_refl _) _⟩
 have HO:Hid (reqB c st k l n=(decide (0<l) == (k == 1 || k == 3))):=by show reqB c st k l n=_;rw [zBR,h1,h2,h3,h4,h5];simp
 by_cases k1:k=1
 ·subst k1
  go_enter Tryz.func55,Tryz.ntmps55
  go_wp2_with (first | (go_at_call 56;refine (zAY _ _ _ _).mono ?_;rintro e w' ⟨rfl,rfl⟩) | (go_at_call 96;refine (zBb _ _ hs).mono ?_;rintro e w' ⟨rfl,rfl⟩))
  go_ret
  exact ⟨zAH (by rw [HO.out];simp),(Below.refl _ _).alloc (Nat.le_refl _) _⟩
 have e1:(k == 1)=false:=beq_eq_false_iff_ne.2 k1
 go_enter Tryz.func55,Tryz.ntmps55
 go_wp2_with (first | (go_at_call 56;refine (zAY _ _ _ _).mono ?_;rintro e w' ⟨rfl,rfl⟩) | (go_at_call 96;refine (zBb _ _ hs).mono ?_;rintro e w' ⟨rfl,rfl⟩))
 go_ret
 exact ⟨zAH (by rw [HO.out];simp [e1]),(Below.refl _ _).alloc (Nat.le_refl _) _⟩
end Go.Proofs.YticokpbelgpfmaaGreat.Rq
