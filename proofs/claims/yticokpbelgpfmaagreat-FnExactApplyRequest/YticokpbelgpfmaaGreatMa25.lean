/- Texts put together: Jz, Ee, Ef. -/
import Derived.Test.YticokpbelgpfmaaGreatMa24
namespace Go.Proofs.YticokpbelgpfmaaGreat.Jz
open Go.RowKit By Ap Tb Tw Mw Wa Bk Tp Da Ja Jb Jc
open Lo (LkA uV clL OwnL zAG zAK Apart zAP zAX)
open Jx0 Jx Jy0 Jy Jj Jk
open Tx (zAA zAC zAE zAJ zAD)
open Rq Ji Je Jf Jd Jh Jl Jr Jt Ju Jv Jw
noncomputable def apC (T:Tab) (now:Int) (r:Da.Ask):Int:=if reqB r.cl r.st r.kd r.le r.nm=true then sfC T now else 1
noncomputable def apX (T:Tab) (now:Int) (r:Da.Ask):Tab:=if apC T now r=0 then (apT T now r).1 else if apC T now r=13 then T else t00
noncomputable def apA (T:Tab) (now:Int) (r:Da.Ask):An:=if apC T now r=0 then (apT T now r).2 else ⟨0,0,0,0⟩
theorem op_less {n:ByteArray} (h:opB n=true):less ⟨#[]⟩ n=true:=by
 have h1:1≤n.size:=by
  unfold opB at h
  rw [Bool.and_eq_true] at h
  have h2:=h.2
  unfold Nm.zBH at h2
  exact (of_decide_eq_true h2).1
 rw [← after_iff]
 have e:(⟨#[]⟩ : ByteArray).toList=[]:=by rw [Lib.toList_data]
 rw [e]
 cases hn:n.toList with
 | nil =>
   rw [Lib.toList_data] at hn
   have h2:n.data.toList.length=0:=by rw [hn];rfl
   rw [Array.length_toList] at h2
   have e2:n.size=n.data.size:=rfl
   omega
 | cons a r=>simp [Op.bytesLess]
theorem ask_of {r:Da.Ask} (h:reqB r.cl r.st r.kd r.le r.nm=true):zBQ r∧less ⟨#[]⟩ r.nm=true:=by
 unfold reqB Rq.leB at h
 simp only [Bool.and_eq_true,decide_eq_true_eq] at h
 obtain ⟨h1,h2,h3,h4⟩:=h
 refine ⟨⟨h1,h2,h3.imp (fun h=>⟨h.1,zAf h.2.1 h.2.2⟩) id,h4⟩,?_⟩
 exact op_less h4
theorem nest4x (w:World) (a b c d:Array Value) (ta tb tc td:TypeId):((((w.alloc (.cells a ta)).alloc (.cells b tb)).alloc (.cells c tc)).alloc (.cells d td)).heap[w.heap.size]?=some (.cells a ta (0,0))∧((((w.alloc (.cells a ta)).alloc (.cells b tb)).alloc (.cells c tc)).alloc (.cells d td)).heap[w.heap.size+1]?=some (.cells b tb (0,0))∧((((w.alloc (.cells a ta)).alloc (.cells b tb)).alloc (.cells c tc)).alloc (.cells d td)).heap[w.heap.size+1+1]?=some (.cells c tc (0,0))∧((((w.alloc (.cells a ta)).alloc (.cells b tb)).alloc (.cells c tc)).alloc (.cells d td)).heap[w.heap.size+1+1+1]?=some (.cells d td (0,0))∧Below w.heap.size w ((((w.alloc (.cells a ta)).alloc (.cells b tb)).alloc (.cells c tc)).alloc (.cells d td)):=by
 have hb:=zAD (((w.alloc (.cells a ta)).alloc (.cells b tb)).alloc (.cells c tc)) (.cells d td)
 have hs:(((w.alloc (.cells a ta)).alloc (.cells b tb)).alloc (.cells c tc)).heap.size=w.heap.size+1+1+1:=by rw [Bk.zAL,Bk.zAL,Bk.zAL]
 have h1:=zAX w (.cells a ta) (.cells b tb) (.cells c tc)
 refine ⟨(hb.block _ (by omega)).trans h1.1,(hb.block _ (by omega)).trans h1.2.1,(hb.block _ (by omega)).trans h1.2.2,?_,(bel3 w _ _ _).trans (hb.mono (by omega))⟩
 have e:=zAJ (((w.alloc (.cells a ta)).alloc (.cells b tb)).alloc (.cells c tc)) d td
 rw [hs] at e
 exact e
theorem ap_end {w w5:World} {BB ob ab:Nat} {V2 V3:Value} {TT:Tab} {ps:List LkA} {z0 z1 z2 z3 y0 y1 y2 y3:Value} (hr:w5.heap[ob]?=some (.cells #[z0,z1,z2,z3] 30 (0,0))) (ha:w5.heap[ab]?=some (.cells #[y0,y1,y2,y3] 38 (0,0))) (ht:TabO w5 BB V2 V3 TT ps) (hb:Below w.heap.size w w5) (hl:(w.heap.size≤ob∧ob<BB)∧(w.heap.size≤ab∧ab<BB)∧ob ≠ ab) (x0 x1 a b c d:Value) :
 ((((((((w5.setCell ⟨ob,0,none⟩ x0).setCell ⟨ob,1,none⟩ x1).setCell ⟨ob,2,none⟩ V2).setCell ⟨ob,3,none⟩ V3).setCell ⟨ab,0,none⟩ a).setCell ⟨ab,1,none⟩ b).setCell ⟨ab,2,none⟩ c).setCell ⟨ab,3,none⟩ d).heap[ob]?=some (.cells #[x0,x1,V2,V3] 30 (0,0)) ∧
 ((((((((w5.setCell ⟨ob,0,none⟩ x0).setCell ⟨ob,1,none⟩ x1).setCell ⟨ob,2,none⟩ V2).setCell ⟨ob,3,none⟩ V3).setCell ⟨ab,0,none⟩ a).setCell ⟨ab,1,none⟩ b).setCell ⟨ab,2,none⟩ c).setCell ⟨ab,3,none⟩ d).heap[ab]?=some (.cells #[a,b,c,d] 38 (0,0)) ∧
 TabO ((((((((w5.setCell ⟨ob,0,none⟩ x0).setCell ⟨ob,1,none⟩ x1).setCell ⟨ob,2,none⟩ V2).setCell ⟨ob,3,none⟩ V3).setCell ⟨ab,0,none⟩ a).setCell ⟨ab,1,none⟩ b).setCell ⟨ab,2,none⟩ c).setCell ⟨ab,3,none⟩ d) w.heap.size V2 V3 TT ps ∧
 Below w.heap.size w ((((((((w5.setCell ⟨ob,0,none⟩ x0).setCell ⟨ob,1,none⟩ x1).setCell ⟨ob,2,none⟩ V2).setCell ⟨ob,3,none⟩ V3).setCell ⟨ab,0,none⟩ a).setCell ⟨ab,1,none⟩ b).setCell ⟨ab,2,none⟩ c).setCell ⟨ab,3,none⟩ d):=by
 obtain ⟨⟨l1,l2⟩,⟨l3,l4⟩,l5⟩:=hl
 have far:∀ k,k ≠ ob→k ≠ ab→((((((((w5.setCell ⟨ob,0,none⟩ x0).setCell ⟨ob,1,none⟩ x1).setCell ⟨ob,2,none⟩ V2).setCell ⟨ob,3,none⟩ V3).setCell ⟨ab,0,none⟩ a).setCell ⟨ab,1,none⟩ b).setCell ⟨ab,2,none⟩ c).setCell ⟨ab,3,none⟩ d).heap[k]?=w5.heap[k]?:=fun k h1 h2=>(zAE h2 3 _).trans ((zAE h2 2 _).trans ((zAE h2 1 _).trans ((zAE h2 0 _).trans ((zAE h1 3 _).trans ((zAE h1 2 _).trans ((zAE h1 1 _).trans (zAE h1 0 _)))))))
 have e1:=zAC (zAC (zAC (zAC hr 0 x0) 1 x1) 2 V2) 3 V3
 have f4:(((((w5.setCell ⟨ob,0,none⟩ x0).setCell ⟨ob,1,none⟩ x1).setCell ⟨ob,2,none⟩ V2).setCell ⟨ob,3,none⟩ V3)).heap[ab]?=some (.cells #[y0,y1,y2,y3] 38 (0,0)):=((zAE (Ne.symm l5) 3 _).trans ((zAE (Ne.symm l5) 2 _).trans ((zAE (Ne.symm l5) 1 _).trans (zAE (Ne.symm l5) 0 _)))).trans ha
 refine ⟨((zAE l5 3 _).trans ((zAE l5 2 _).trans ((zAE l5 1 _).trans (zAE l5 0 _)))).trans e1,zAC (zAC (zAC (zAC f4 0 a) 1 b) 2 c) 3 d,tabO_mono (tabO_kept ht fun g hg _=>far g (by omega) (by omega)) (by omega),?_⟩
 exact Below.setCell (Below.setCell (Below.setCell (Below.setCell (Below.setCell (Below.setCell (Below.setCell (Below.setCell hb (p:=⟨ob,0,none⟩) l1 _) (p:=⟨ob,1,none⟩) l1 _) (p:=⟨ob,2,none⟩) l1 _) (p:=⟨ob,3,none⟩) l1 _) (p:=⟨ab,0,none⟩) l3 _) (p:=⟨ab,1,none⟩) l3 _) (p:=⟨ab,2,none⟩) l3 _) (p:=⟨ab,3,none⟩) l3 _
theorem bk_four1 {w0 w6:World} {B p bL bS y:Nat} {T':Tab} {qs:List LkA} {c0 c1 c2 c3:Value} (h:BK w0 w6 B p bL bS T' qs) (hy:w6.heap[y]?=some (.cells #[c0,c1,c2,c3] 38 (0,0))) (hyw:y ≠ p∧B≤y) (a b c d:Value) :
 BK w0 ((((w6.setCell ⟨y,0,none⟩ a).setCell ⟨y,1,none⟩ b).setCell ⟨y,2,none⟩ c).setCell ⟨y,3,none⟩ d) B p bL bS T' qs∧((((w6.setCell ⟨y,0,none⟩ a).setCell ⟨y,1,none⟩ b).setCell ⟨y,2,none⟩ c).setCell ⟨y,3,none⟩ d).heap[y]?=some (.cells #[a,b,c,d] 38 (0,0)):=by
 have k1:=zAC hy 0 a
 have k2:=zAC k1 1 b
 have k3:=zAC k2 2 c
 have n1:∀ (xs:Array Value),∀ es c,(Obj.cells xs 38 (0,0)) ≠ .map es c:=fun xs es c=>by intro e;cases e
 have n2:∀ (xs:Array Value),∀ cs,(Obj.cells xs 38 (0,0)) ≠ .cells cs 153 (0,0):=fun xs cs=>by intro e;cases e
 exact ⟨(((h.far hy hyw.1 (n1 _) (n2 _) hyw.2 0 a).far k1 hyw.1 (n1 _) (n2 _) hyw.2 1 b).far k2 hyw.1 (n1 _) (n2 _) hyw.2 2 c).far k3 hyw.1 (n1 _) (n2 _) hyw.2 3 d,zAC k3 3 d⟩
theorem cf4 {W:World} {q r j:Nat} {x a b c d:Value} (h:q ≠ r) (hc:W.cell? ⟨q,j,none⟩=some x):((((W.setCell ⟨r,0,none⟩ a).setCell ⟨r,1,none⟩ b).setCell ⟨r,2,none⟩ c).setCell ⟨r,3,none⟩ d).cell? ⟨q,j,none⟩=some x:=cf h (cf h (cf h (cf h hc)))
theorem table3_any {w0 w:World} {B p bL bS:Nat} {T:Tab} {ps:List LkA} (h:BK w0 w B p bL bS T ps) (hl:T.ls.length≤4) (hs:T.ss.length≤6) :
 Calls Tryz.prog 53 #[.pointer (some ⟨p,0,none⟩)] w fun e w'=>∃ a8 c8 a9 c9,e=.returned (.agg #[.int .i64 T.tm,.int .i64 T.nx,.slice a8 T.ls.length c8,.slice a9 T.ss.length c9])∧TabO w' B (.slice a8 T.ls.length c8) (.slice a9 T.ss.length c9) T ps∧Below B w0 w'∧Below w.heap.size w w':=by
 refine (table_any h hl hs).mono ?_
 rintro e w' ⟨vl,vs,rfl,ht,hb⟩
 have hln:ps.length=T.ls.length:=h.len
 obtain ⟨a8,c8,rfl⟩:=OwnL.slice ht.ol
 obtain ⟨a9,c9,rfl⟩:=OwnS.slice ht.os
 rw [hln] at ht ⊢
 exact ⟨a8,c8,a9,c9,rfl,ht,h.bel.trans (hb.mono h.size),hb⟩
theorem ap_end8 {w w3 w8:World} {z0 z1:Array Value} {u0 u1 u2 u3 v0 v1 v2 v3:Value} {t0 t1:TypeId} {V2 V3:Value} {TT:Tab} {ps:List LkA} (h:TabO w8 w3.heap.size V2 V3 TT ps∧Below w3.heap.size w3 w8) (hb:w3.heap[w.heap.size]?=some (.cells z0 t0 (0,0))∧w3.heap[w.heap.size+1]?=some (.cells z1 t1 (0,0))∧w3.heap[w.heap.size+1+1]?=some (.cells #[u0,u1,u2,u3] 30 (0,0))∧w3.heap[w.heap.size+1+1+1]?=some (.cells #[v0,v1,v2,v3] 38 (0,0))∧Below w.heap.size w w3) (hs:w.heap.size+1+1+1<w3.heap.size) (x0 x1 a b c d:Value) :
 ((((((((w8.setCell ⟨w.heap.size+1+1,0,none⟩ x0).setCell ⟨w.heap.size+1+1,1,none⟩ x1).setCell ⟨w.heap.size+1+1,2,none⟩ V2).setCell ⟨w.heap.size+1+1,3,none⟩ V3).setCell ⟨w.heap.size+1+1+1,0,none⟩ a).setCell ⟨w.heap.size+1+1+1,1,none⟩ b).setCell ⟨w.heap.size+1+1+1,2,none⟩ c).setCell ⟨w.heap.size+1+1+1,3,none⟩ d).heap[w.heap.size+1+1]?=some (.cells #[x0,x1,V2,V3] 30 (0,0)) ∧
 ((((((((w8.setCell ⟨w.heap.size+1+1,0,none⟩ x0).setCell ⟨w.heap.size+1+1,1,none⟩ x1).setCell ⟨w.heap.size+1+1,2,none⟩ V2).setCell ⟨w.heap.size+1+1,3,none⟩ V3).setCell ⟨w.heap.size+1+1+1,0,none⟩ a).setCell ⟨w.heap.size+1+1+1,1,none⟩ b).setCell ⟨w.heap.size+1+1+1,2,none⟩ c).setCell ⟨w.heap.size+1+1+1,3,none⟩ d).heap[w.heap.size+1+1+1]?=some (.cells #[a,b,c,d] 38 (0,0)) ∧
 TabO ((((((((w8.setCell ⟨w.heap.size+1+1,0,none⟩ x0).setCell ⟨w.heap.size+1+1,1,none⟩ x1).setCell ⟨w.heap.size+1+1,2,none⟩ V2).setCell ⟨w.heap.size+1+1,3,none⟩ V3).setCell ⟨w.heap.size+1+1+1,0,none⟩ a).setCell ⟨w.heap.size+1+1+1,1,none⟩ b).setCell ⟨w.heap.size+1+1+1,2,none⟩ c).setCell ⟨w.heap.size+1+1+1,3,none⟩ d) w.heap.size V2 V3 TT ps ∧
 Below w.heap.size w ((((((((w8.setCell ⟨w.heap.size+1+1,0,none⟩ x0).setCell ⟨w.heap.size+1+1,1,none⟩ x1).setCell ⟨w.heap.size+1+1,2,none⟩ V2).setCell ⟨w.heap.size+1+1,3,none⟩ V3).setCell ⟨w.heap.size+1+1+1,0,none⟩ a).setCell ⟨w.heap.size+1+1+1,1,none⟩ b).setCell ⟨w.heap.size+1+1+1,2,none⟩ c).setCell ⟨w.heap.size+1+1+1,3,none⟩ d) :=
 ap_end ((h.2.block _ (by omega)).trans hb.2.2.1) ((h.2.block _ (by omega)).trans hb.2.2.2.1) h.1 (hb.2.2.2.2.trans (h.2.mono hb.2.2.2.2.size)) ⟨⟨by omega,by omega⟩,⟨by omega,by omega⟩,by omega⟩ x0 x1 a b c d
set_option maxRecDepth 100000 in
set_option maxHeartbeats 6400000 in
theorem implApplyRequest_any (T:Tab) (vl vs:Value) (now:Int) (r:Da.Ask) (w:World) (hl:RowL w vl T.ls) (hs:RowS w vs T.ss) (hw:∀ x ∈ T.ls,x.n.size≤1048576∧x.ws.length≤1048576) (hy1:T.ls.length≤1048576) (hy2:T.ss.length≤1048576) (hrn:r.nm.size≤maxLen) :
 Calls Tryz.prog 16 #[tabV T.tm T.nx vl vs,.int .i64 now,rqA r] w fun e w'=>∃ ul us ps,e=.returned (.tuple #[tabV (apX T now r).tm (apX T now r).nx ul us,anV (apA T now r),.int .i64 (apC T now r)])∧TabO w' w.heap.size ul us (apX T now r) ps∧Below w.heap.size w w':=by
 obtain ⟨la,lc,rfl⟩:=RowG.slice hl
 obtain ⟨sa,sc,rfl⟩:=RowG.slice hs
 have HSF:Hid (∀ W,Below w.heap.size w W→Calls Tryz.prog 64 #[.agg #[.int .i64 T.tm,.int .i64 T.nx,.slice la T.ls.length lc,.slice sa T.ss.length sc],.int .i64 now] W fun e w'=>e=.returned (.int .i64 (sfC T now))∧Below W.heap.size W w'):=fun W hW=>stepFault_any T _ _ now W (hl.below hW) (hs.below hW) hw hy1 hy2
 have HRW:Hid (RowL w (.slice la T.ls.length lc) T.ls∧RowS w (.slice sa T.ss.length sc) T.ss):=⟨hl,hs⟩
 have HRO:Hid (∀ W,Calls Tryz.prog 63 #[.agg #[.int .i64 r.cl,.int .i64 r.st,.int .i64 r.kd,.int .i64 r.le,.string r.nm]] W fun e w'=>e=.returned (.bool (reqB r.cl r.st r.kd r.le r.nm))∧Below W.heap.size W w'):=fun W=>implRequestOK_any r.cl r.st r.kd r.le r.nm W hrn
 have HB:Hid (((((w.alloc (.cells #[.int .i64 T.tm,.int .i64 T.nx,.slice la T.ls.length lc,.slice sa T.ss.length sc] 30)).alloc (.cells #[.int .i64 r.cl,.int .i64 r.st,.int .i64 r.kd,.int .i64 r.le,.string r.nm] 42)).alloc (.cells #[.int .i64 0,.int .i64 0,.slice none 0 0,.slice none 0 0] 30)).alloc (.cells #[.int .i64 0,.int .i64 0,.int .i64 0,.int .i64 0] 38)).heap[w.heap.size]?=some (.cells #[.int .i64 T.tm,.int .i64 T.nx,.slice la T.ls.length lc,.slice sa T.ss.length sc] 30 (0,0))∧((((w.alloc (.cells #[.int .i64 T.tm,.int .i64 T.nx,.slice la T.ls.length lc,.slice sa T.ss.length sc] 30)).alloc (.cells #[.int .i64 r.cl,.int .i64 r.st,.int .i64 r.kd,.int .i64 r.le,.string r.nm] 42)).alloc (.cells #[.int .i64 0,.int .i64 0,.slice none 0 0,.slice none 0 0] 30)).alloc (.cells #[.int .i64 0,.int .i64 0,.int .i64 0,.int .i64 0] 38)).heap[w.heap.size+1]?=some (.cells #[.int .i64 r.cl,.int .i64 r.st,.int .i64 r.kd,.int .i64 r.le,.string r.nm] 42 (0,0))∧((((w.alloc (.cells #[.int .i64 T.tm,.int .i64 T.nx,.slice la T.ls.length lc,.slice sa T.ss.length sc] 30)).alloc (.cells #[.int .i64 r.cl,.int .i64 r.st,.int .i64 r.kd,.int .i64 r.le,.string r.nm] 42)).alloc (.cells #[.int .i64 0,.int .i64 0,.slice none 0 0,.slice none 0 0] 30)).alloc (.cells #[.int .i64 0,.int .i64 0,.int .i64 0,.int .i64 0] 38)).heap[w.heap.size+1+1]?=some (.cells #[.int .i64 0,.int .i64 0,.slice none 0 0,.slice none 0 0] 30 (0,0))∧((((w.alloc (.cells #[.int .i64 T.tm,.int .i64 T.nx,.slice la T.ls.length lc,.slice sa T.ss.length sc] 30)).alloc (.cells #[.int .i64 r.cl,.int .i64 r.st,.int .i64 r.kd,.int .i64 r.le,.string r.nm] 42)).alloc (.cells #[.int .i64 0,.int .i64 0,.slice none 0 0,.slice none 0 0] 30)).alloc (.cells #[.int .i64 0,.int .i64 0,.int .i64 0,.int .i64 0] 38)).heap[w.heap.size+1+1+1]?=some (.cells #[.int .i64 0,.int .i64 0,.int .i64 0,.int .i64 0] 38 (0,0))∧Below w.heap.size w ((((w.alloc (.cells #[.int .i64 T.tm,.int .i64 T.nx,.slice la T.ls.length lc,.slice sa T.ss.length sc] 30)).alloc (.cells #[.int .i64 r.cl,.int .i64 r.st,.int .i64 r.kd,.int .i64 r.le,.string r.nm] 42)).alloc (.cells #[.int .i64 0,.int .i64 0,.slice none 0 0,.slice none 0 0] 30)).alloc (.cells #[.int .i64 0,.int .i64 0,.int .i64 0,.int .i64 0] 38))):=nest4x w _ _ _ _ _ _ _ _
 have HOP:Hid (∀ W,Below w.heap.size w W→TOK T→Calls Tryz.prog 65 #[.agg #[.int .i64 T.tm,.int .i64 T.nx,.slice la T.ls.length lc,.slice sa T.ss.length sc]] W fun e w'=>∃ bL bS p qs,e=.returned (.pointer (some ⟨p,0,none⟩))∧BK W w' W.heap.size p bL bS T qs):=fun W hW hT=>open_any hT _ _ W (hl.below hW) (hs.below hW)
 clear hl hs hw
 unfold tabV rqA
 go_enter Tryz.func16,Tryz.ntmps16
 go_upto_region 1 with fail
 generalize ((((w.alloc (.cells #[.int .i64 T.tm,.int .i64 T.nx,.slice la T.ls.length lc,.slice sa T.ss.length sc] 30)).alloc (.cells #[.int .i64 r.cl,.int .i64 r.st,.int .i64 r.kd,.int .i64 r.le,.string r.nm] 42)).alloc (.cells #[.int .i64 0,.int .i64 0,.slice none 0 0,.slice none 0 0] 30)).alloc (.cells #[.int .i64 0,.int .i64 0,.int .i64 0,.int .i64 0] 38))=w1 at HB ⊢
 have c0:=(zAA HB.out.1 0 rfl).1
 have c1:=(zAA HB.out.1 1 rfl).1
 have c2:=(zAA HB.out.1 2 rfl).1
 have c3:=(zAA HB.out.1 3 rfl).1
 have q0:=(zAA HB.out.2.1 0 rfl).1
 have q1:=(zAA HB.out.2.1 1 rfl).1
 have q2:=(zAA HB.out.2.1 2 rfl).1
 have q3:=(zAA HB.out.2.1 3 rfl).1
 have q4:=(zAA HB.out.2.1 4 rfl).1
 obtain ⟨z0,y0⟩:=zAA HB.out.2.2.1 0 rfl
 obtain ⟨z1,y1⟩:=zAA HB.out.2.2.1 1 rfl
 obtain ⟨z2,y2⟩:=zAA HB.out.2.2.1 2 rfl
 obtain ⟨z3,y3⟩:=zAA HB.out.2.2.1 3 rfl
 obtain ⟨a0,b0⟩:=zAA HB.out.2.2.2.1 0 rfl
 obtain ⟨a1,b1⟩:=zAA HB.out.2.2.2.1 1 rfl
 obtain ⟨a2,b2⟩:=zAA HB.out.2.2.2.1 2 rfl
 obtain ⟨a3,b3⟩:=zAA HB.out.2.2.2.1 3 rfl
 cases hq:reqB r.cl r.st r.kd r.le r.nm with
 | false =>
   have HST:Hid (apX T now r=t00∧apA T now r=⟨0,0,0,0⟩∧apC T now r=1):=by
    have e:apC T now r=1:=by unfold apC;rw [hq];rfl
    refine ⟨by unfold apX;rw [e];rfl,by unfold apA;rw [e];rfl,e⟩
   go_wp2_with (go_at_call 63;go_must (refine (HRO.out w1).mono ?_;rintro e w2 ⟨rfl,b2⟩;have B2:Hid (w2.heap[w.heap.size]?=some (.cells #[.int .i64 T.tm,.int .i64 T.nx,.slice la T.ls.length lc,.slice sa T.ss.length sc] 30 (0,0))∧w2.heap[w.heap.size+1]?=some (.cells #[.int .i64 r.cl,.int .i64 r.st,.int .i64 r.kd,.int .i64 r.le,.string r.nm] 42 (0,0))∧w2.heap[w.heap.size+1+1]?=some (.cells #[.int .i64 0,.int .i64 0,.slice none 0 0,.slice none 0 0] 30 (0,0))∧w2.heap[w.heap.size+1+1+1]?=some (.cells #[.int .i64 0,.int .i64 0,.int .i64 0,.int .i64 0] 38 (0,0))∧Below w.heap.size w w2):=⟨(b2.block _ (Array.getElem?_eq_some_iff.1 HB.out.1).1).trans HB.out.1,(b2.block _ (Array.getElem?_eq_some_iff.1 HB.out.2.1).1).trans HB.out.2.1,(b2.block _ (Array.getElem?_eq_some_iff.1 HB.out.2.2.1).1).trans HB.out.2.2.1,(b2.block _ (Array.getElem?_eq_some_iff.1 HB.out.2.2.2.1).1).trans HB.out.2.2.2.1,HB.out.2.2.2.2.trans (b2.mono HB.out.2.2.2.2.size)⟩;clear b2;clear c0 c1 c2 c3 q0 q1 q2 q3 q4;clear z0 y0 z1 y1 z2 y2 z3 y3 a0 b0 a1 b1 a2 b2 a3 b3;have c0:=(zAA B2.out.1 0 rfl).1;have c1:=(zAA B2.out.1 1 rfl).1;have c2:=(zAA B2.out.1 2 rfl).1;have c3:=(zAA B2.out.1 3 rfl).1;have q0:=(zAA B2.out.2.1 0 rfl).1;have q1:=(zAA B2.out.2.1 1 rfl).1;have q2:=(zAA B2.out.2.1 2 rfl).1;have q3:=(zAA B2.out.2.1 3 rfl).1;have q4:=(zAA B2.out.2.1 4 rfl).1;obtain ⟨z0,y0⟩:=zAA B2.out.2.2.1 0 rfl;obtain ⟨z1,y1⟩:=zAA B2.out.2.2.1 1 rfl;obtain ⟨z2,y2⟩:=zAA B2.out.2.2.1 2 rfl;obtain ⟨z3,y3⟩:=zAA B2.out.2.2.1 3 rfl;obtain ⟨a0,b0⟩:=zAA B2.out.2.2.2.1 0 rfl;obtain ⟨a1,b1⟩:=zAA B2.out.2.2.2.1 1 rfl;obtain ⟨a2,b2⟩:=zAA B2.out.2.2.2.1 2 rfl;obtain ⟨a3,b3⟩:=zAA B2.out.2.2.2.1 3 rfl;rw [hq]))
   have HF:Hid (((((((((w2.setCell ⟨w.heap.size+1+1,0,none⟩ (.int .i64 0)).setCell ⟨w.heap.size+1+1,1,none⟩ (.int .i64 0)).setCell ⟨w.heap.size+1+1,2,none⟩ (.slice none 0 0)).setCell ⟨w.heap.size+1+1,3,none⟩ (.slice none 0 0)).setCell ⟨w.heap.size+1+1+1,0,none⟩ (.int .i64 0)).setCell ⟨w.heap.size+1+1+1,1,none⟩ (.int .i64 0)).setCell ⟨w.heap.size+1+1+1,2,none⟩ (.int .i64 0)).setCell ⟨w.heap.size+1+1+1,3,none⟩ (.int .i64 0)).heap[w.heap.size+1+1]?=some (.cells #[.int .i64 0,.int .i64 0,.slice none 0 0,.slice none 0 0] 30 (0,0))∧((((((((w2.setCell ⟨w.heap.size+1+1,0,none⟩ (.int .i64 0)).setCell ⟨w.heap.size+1+1,1,none⟩ (.int .i64 0)).setCell ⟨w.heap.size+1+1,2,none⟩ (.slice none 0 0)).setCell ⟨w.heap.size+1+1,3,none⟩ (.slice none 0 0)).setCell ⟨w.heap.size+1+1+1,0,none⟩ (.int .i64 0)).setCell ⟨w.heap.size+1+1+1,1,none⟩ (.int .i64 0)).setCell ⟨w.heap.size+1+1+1,2,none⟩ (.int .i64 0)).setCell ⟨w.heap.size+1+1+1,3,none⟩ (.int .i64 0)).heap[w.heap.size+1+1+1]?=some (.cells #[.int .i64 0,.int .i64 0,.int .i64 0,.int .i64 0] 38 (0,0))∧TabO ((((((((w2.setCell ⟨w.heap.size+1+1,0,none⟩ (.int .i64 0)).setCell ⟨w.heap.size+1+1,1,none⟩ (.int .i64 0)).setCell ⟨w.heap.size+1+1,2,none⟩ (.slice none 0 0)).setCell ⟨w.heap.size+1+1,3,none⟩ (.slice none 0 0)).setCell ⟨w.heap.size+1+1+1,0,none⟩ (.int .i64 0)).setCell ⟨w.heap.size+1+1+1,1,none⟩ (.int .i64 0)).setCell ⟨w.heap.size+1+1+1,2,none⟩ (.int .i64 0)).setCell ⟨w.heap.size+1+1+1,3,none⟩ (.int .i64 0)) w.heap.size (.slice none 0 0) (.slice none 0 0) t00 []∧Below w.heap.size w ((((((((w2.setCell ⟨w.heap.size+1+1,0,none⟩ (.int .i64 0)).setCell ⟨w.heap.size+1+1,1,none⟩ (.int .i64 0)).setCell ⟨w.heap.size+1+1,2,none⟩ (.slice none 0 0)).setCell ⟨w.heap.size+1+1,3,none⟩ (.slice none 0 0)).setCell ⟨w.heap.size+1+1+1,0,none⟩ (.int .i64 0)).setCell ⟨w.heap.size+1+1+1,1,none⟩ (.int .i64 0)).setCell ⟨w.heap.size+1+1+1,2,none⟩ (.int .i64 0)).setCell ⟨w.heap.size+1+1+1,3,none⟩ (.int .i64 0))):=ap_end B2.out.2.2.1 B2.out.2.2.2.1 (tabO_nil w2 (w.heap.size+4)) B2.out.2.2.2.2 ⟨by omega,by omega,by omega⟩ _ _ _ _ _ _
   generalize ((((((((w2.setCell ⟨w.heap.size+1+1,0,none⟩ (.int .i64 0)).setCell ⟨w.heap.size+1+1,1,none⟩ (.int .i64 0)).setCell ⟨w.heap.size+1+1,2,none⟩ (.slice none 0 0)).setCell ⟨w.heap.size+1+1,3,none⟩ (.slice none 0 0)).setCell ⟨w.heap.size+1+1+1,0,none⟩ (.int .i64 0)).setCell ⟨w.heap.size+1+1+1,1,none⟩ (.int .i64 0)).setCell ⟨w.heap.size+1+1+1,2,none⟩ (.int .i64 0)).setCell ⟨w.heap.size+1+1+1,3,none⟩ (.int .i64 0))=wf at HF ⊢
   have d0:=(zAA HF.out.1 0 (x:=.int .i64 0) rfl).1
   have d1:=(zAA HF.out.1 1 (x:=.int .i64 0) rfl).1
   have d2:=(zAA HF.out.1 2 (x:=.slice none 0 0) rfl).1
   have d3:=(zAA HF.out.1 3 (x:=.slice none 0 0) rfl).1
   have f0:=(zAA HF.out.2.1 0 (x:=.int .i64 0) rfl).1
   have f1:=(zAA HF.out.2.1 1 (x:=.int .i64 0) rfl).1
   have f2:=(zAA HF.out.2.1 2 (x:=.int .i64 0) rfl).1
   have f3:=(zAA HF.out.2.1 3 (x:=.int .i64 0) rfl).1
   exact bodyPost_ret (v:=.tuple #[.agg #[.int .i64 0,.int .i64 0,.slice none 0 0,.slice none 0 0],.agg #[.int .i64 0,.int .i64 0,.int .i64 0,.int .i64 0],.int .i64 1]) (by simp [results,Tryz.results16,go_sem,d0,d1,d2,d3,f0,f1,f2,f3]) rfl ⟨_,_,[],(by rw [HST.out.1,HST.out.2.1,HST.out.2.2];try rfl),by rw [HST.out.1];exact HF.out.2.2.1,HF.out.2.2.2⟩
 | true =>
   have HQ:Hid (zBQ r∧less ⟨#[]⟩ r.nm=true):=ask_of hq
   have HC:Hid (apC T now r=sfC T now):=by show _=_;unfold apC;rw [hq];rfl
   go_upto_region 3 with (go_at_call 63;go_must (refine (HRO.out w1).mono ?_;rintro e w2 ⟨rfl,b2⟩;have B2:Hid (w2.heap[w.heap.size]?=some (.cells #[.int .i64 T.tm,.int .i64 T.nx,.slice la T.ls.length lc,.slice sa T.ss.length sc] 30 (0,0))∧w2.heap[w.heap.size+1]?=some (.cells #[.int .i64 r.cl,.int .i64 r.st,.int .i64 r.kd,.int .i64 r.le,.string r.nm] 42 (0,0))∧w2.heap[w.heap.size+1+1]?=some (.cells #[.int .i64 0,.int .i64 0,.slice none 0 0,.slice none 0 0] 30 (0,0))∧w2.heap[w.heap.size+1+1+1]?=some (.cells #[.int .i64 0,.int .i64 0,.int .i64 0,.int .i64 0] 38 (0,0))∧Below w.heap.size w w2):=⟨(b2.block _ (Array.getElem?_eq_some_iff.1 HB.out.1).1).trans HB.out.1,(b2.block _ (Array.getElem?_eq_some_iff.1 HB.out.2.1).1).trans HB.out.2.1,(b2.block _ (Array.getElem?_eq_some_iff.1 HB.out.2.2.1).1).trans HB.out.2.2.1,(b2.block _ (Array.getElem?_eq_some_iff.1 HB.out.2.2.2.1).1).trans HB.out.2.2.2.1,HB.out.2.2.2.2.trans (b2.mono HB.out.2.2.2.2.size)⟩;clear b2;clear c0 c1 c2 c3 q0 q1 q2 q3 q4;clear z0 y0 z1 y1 z2 y2 z3 y3 a0 b0 a1 b1 a2 b2 a3 b3;have c0:=(zAA B2.out.1 0 rfl).1;have c1:=(zAA B2.out.1 1 rfl).1;have c2:=(zAA B2.out.1 2 rfl).1;have c3:=(zAA B2.out.1 3 rfl).1;have q0:=(zAA B2.out.2.1 0 rfl).1;have q1:=(zAA B2.out.2.1 1 rfl).1;have q2:=(zAA B2.out.2.1 2 rfl).1;have q3:=(zAA B2.out.2.1 3 rfl).1;have q4:=(zAA B2.out.2.1 4 rfl).1;obtain ⟨z0,y0⟩:=zAA B2.out.2.2.1 0 rfl;obtain ⟨z1,y1⟩:=zAA B2.out.2.2.1 1 rfl;obtain ⟨z2,y2⟩:=zAA B2.out.2.2.1 2 rfl;obtain ⟨z3,y3⟩:=zAA B2.out.2.2.1 3 rfl;obtain ⟨a0,b0⟩:=zAA B2.out.2.2.2.1 0 rfl;obtain ⟨a1,b1⟩:=zAA B2.out.2.2.2.1 1 rfl;obtain ⟨a2,b2⟩:=zAA B2.out.2.2.2.1 2 rfl;obtain ⟨a3,b3⟩:=zAA B2.out.2.2.2.1 3 rfl;rw [hq]))
   go_upto_region 4 with (go_at_call 64;go_must (refine (HSF.out w2 B2.out.2.2.2.2).mono ?_;rintro e w3 ⟨rfl,b3⟩;have B3:Hid (w3.heap[w.heap.size]?=some (.cells #[.int .i64 T.tm,.int .i64 T.nx,.slice la T.ls.length lc,.slice sa T.ss.length sc] 30 (0,0))∧w3.heap[w.heap.size+1]?=some (.cells #[.int .i64 r.cl,.int .i64 r.st,.int .i64 r.kd,.int .i64 r.le,.string r.nm] 42 (0,0))∧w3.heap[w.heap.size+1+1]?=some (.cells #[.int .i64 0,.int .i64 0,.slice none 0 0,.slice none 0 0] 30 (0,0))∧w3.heap[w.heap.size+1+1+1]?=some (.cells #[.int .i64 0,.int .i64 0,.int .i64 0,.int .i64 0] 38 (0,0))∧Below w.heap.size w w3):=⟨(b3.block _ (Array.getElem?_eq_some_iff.1 B2.out.1).1).trans B2.out.1,(b3.block _ (Array.getElem?_eq_some_iff.1 B2.out.2.1).1).trans B2.out.2.1,(b3.block _ (Array.getElem?_eq_some_iff.1 B2.out.2.2.1).1).trans B2.out.2.2.1,(b3.block _ (Array.getElem?_eq_some_iff.1 B2.out.2.2.2.1).1).trans B2.out.2.2.2.1,B2.out.2.2.2.2.trans (b3.mono B2.out.2.2.2.2.size)⟩;clear b3;clear c0 c1 c2 c3 q0 q1 q2 q3 q4;clear z0 y0 z1 y1 z2 y2 z3 y3 a0 b0 a1 b1 a2 b2 a3 b3;have c0:=(zAA B3.out.1 0 rfl).1;have c1:=(zAA B3.out.1 1 rfl).1;have c2:=(zAA B3.out.1 2 rfl).1;have c3:=(zAA B3.out.1 3 rfl).1;have q0:=(zAA B3.out.2.1 0 rfl).1;have q1:=(zAA B3.out.2.1 1 rfl).1;have q2:=(zAA B3.out.2.1 2 rfl).1;have q3:=(zAA B3.out.2.1 3 rfl).1;have q4:=(zAA B3.out.2.1 4 rfl).1;obtain ⟨z0,y0⟩:=zAA B3.out.2.2.1 0 rfl;obtain ⟨z1,y1⟩:=zAA B3.out.2.2.1 1 rfl;obtain ⟨z2,y2⟩:=zAA B3.out.2.2.1 2 rfl;obtain ⟨z3,y3⟩:=zAA B3.out.2.2.1 3 rfl;obtain ⟨a0,b0⟩:=zAA B3.out.2.2.2.1 0 rfl;obtain ⟨a1,b1⟩:=zAA B3.out.2.2.2.1 1 rfl;obtain ⟨a2,b2⟩:=zAA B3.out.2.2.2.1 2 rfl;obtain ⟨a3,b3⟩:=zAA B3.out.2.2.2.1 3 rfl))
   rcases sf_in T now with h0 | h1 | h4 | h13
   ·have HST:Hid (apX T now r=(apT T now r).1∧apA T now r=(apT T now r).2∧apC T now r=0):=by
     have e:apC T now r=0:=HC.out.trans h0
     refine ⟨by unfold apX;rw [e];rfl,by unfold apA;rw [e];rfl,e⟩
    obtain ⟨hT,hnow,hnx⟩:=sf_0 h0
    obtain ⟨_,_,hln1,hln2⟩:=tok_bk hT
    rw [h0]
    go_upto_region 7 with (go_at_call 65;go_must (refine (HOP.out w3 B3.out.2.2.2.2 hT).mono ?_;rintro e w4 ⟨bL,bS,p,qs,rfl,hb4⟩;have H4:Hid (BK w3 w4 w3.heap.size p bL bS T qs):=hb4;clear hb4;clear c0 c1 c2 c3 q0 q1 q2 q3 q4;clear z0 y0 z1 y1 z2 y2 z3 y3 a0 b0 a1 b1 a2 b2 a3 b3))
    have HS3:Hid (w.heap.size+1+1+1<w3.heap.size):=(Array.getElem?_eq_some_iff.1 B3.out.2.2.2.1).1
    go_upto_region 8 with fail
    have H5:Hid (BK w3 (w4.alloc (.cells #[.int .i64 0,.int .i64 0,.int .i64 0,.int .i64 0] 38)) w3.heap.size p bL bS T qs∧(w4.alloc (.cells #[.int .i64 0,.int .i64 0,.int .i64 0,.int .i64 0] 38)).heap[w4.heap.size]?=some (.cells #[.int .i64 0,.int .i64 0,.int .i64 0,.int .i64 0] 38 (0,0))∧(p<w4.heap.size∧bL<w4.heap.size∧bS<w4.heap.size∧w3.heap.size≤w4.heap.size)):=⟨H4.out.up (zAD _ _),zAJ _ _ _,H4.out.plt,H4.out.llt,H4.out.slt,H4.out.size⟩
    generalize w4.alloc (.cells #[.int .i64 0,.int .i64 0,.int .i64 0,.int .i64 0] 38)=w5 at H5 ⊢
    generalize w4.heap.size=lb at H5 ⊢
    have q0:=(zAA ((H5.out.1.bel.block _ (by have:=HS3.out;omega)).trans B3.out.2.1) 0 rfl).1
    have q1:=(zAA ((H5.out.1.bel.block _ (by have:=HS3.out;omega)).trans B3.out.2.1) 1 rfl).1
    have q2:=(zAA ((H5.out.1.bel.block _ (by have:=HS3.out;omega)).trans B3.out.2.1) 2 rfl).1
    have q3:=(zAA ((H5.out.1.bel.block _ (by have:=HS3.out;omega)).trans B3.out.2.1) 3 rfl).1
    have q4:=(zAA ((H5.out.1.bel.block _ (by have:=HS3.out;omega)).trans B3.out.2.1) 4 rfl).1
    obtain ⟨X,a,HXA⟩ : ∃ X a,Hid (apT T now r=(X,a)):=⟨_,_,rfl⟩
    obtain ⟨ka,ta,ha,ea⟩:=a
    have HSX:Hid (apX T now r=X∧apA T now r=⟨ka,ta,ha,ea⟩∧apC T now r=0):=by have h:=HXA.out;exact ⟨HST.out.1.trans (by rw [h]),HST.out.2.1.trans (by rw [h]),HST.out.2.2⟩
    have HLX:Hid (X.ls.length≤4∧X.ss.length≤6):=by
     have h:=(tok_bk (apT_ok hT hnow.1 hnow.2 HQ.out.1 HQ.out.2 (by omega)).1).2.2
     rw [HXA.out] at h
     exact h
    have HAS:Hid (Calls Tryz.prog 52 #[.pointer (some ⟨p,0,none⟩),.int .i64 now,.agg #[.int .i64 r.cl,.int .i64 r.st,.int .i64 r.kd,.int .i64 r.le,.string r.nm]] w5 fun e w'=>e=.returned (.agg #[.int .i64 ka,.int .i64 ta,.int .i64 ha,.int .i64 ea])∧(∃ qs,BK w3 w' w3.heap.size p bL bS X qs)∧Fx p bL bS w5 w'):=by
     have h:=ask_any H5.out.1 hT now hnow.1 hnow.2 (by omega) r HQ.out.1 HQ.out.2
     rw [HXA.out] at h
     exact h
    go_upto_region 10 with (go_at_call 52;go_must (refine HAS.out.mono ?_;rintro e w6 ⟨rfl,⟨qs6,hq6⟩,hf6⟩;have H6:Hid (BK w3 w6 w3.heap.size p bL bS X qs6∧w6.heap[lb]?=some (.cells #[.int .i64 0,.int .i64 0,.int .i64 0,.int .i64 0] 38 (0,0))):=⟨hq6,hf6.block lb _ H5.out.2.1 (by have:=H5.out.2.2;omega) (by have:=H5.out.2.2;omega) (by have:=H5.out.2.2;omega) (fun cs=>by intro e;cases e)⟩;clear hq6 hf6 q0 q1 q2 q3 q4;obtain ⟨a0,b0⟩:=zAA H6.out.2 0 rfl;obtain ⟨a1,b1⟩:=zAA H6.out.2 1 rfl;obtain ⟨a2,b2⟩:=zAA H6.out.2 2 rfl;obtain ⟨a3,b3⟩:=zAA H6.out.2 3 rfl))
    have H7:Hid (BK w3 ((((w6.setCell ⟨lb,0,none⟩ (.int .i64 ka)).setCell ⟨lb,1,none⟩ (.int .i64 ta)).setCell ⟨lb,2,none⟩ (.int .i64 ha)).setCell ⟨lb,3,none⟩ (.int .i64 ea)) w3.heap.size p bL bS X qs6∧((((w6.setCell ⟨lb,0,none⟩ (.int .i64 ka)).setCell ⟨lb,1,none⟩ (.int .i64 ta)).setCell ⟨lb,2,none⟩ (.int .i64 ha)).setCell ⟨lb,3,none⟩ (.int .i64 ea)).heap[lb]?=some (.cells #[.int .i64 ka,.int .i64 ta,.int .i64 ha,.int .i64 ea] 38 (0,0))):=bk_four1 H6.out.1 H6.out.2 (by have:=H5.out.2.2;omega) _ _ _ _
    clear a0 b0 a1 b1 a2 b2 a3 b3
    generalize ((((w6.setCell ⟨lb,0,none⟩ (.int .i64 ka)).setCell ⟨lb,1,none⟩ (.int .i64 ta)).setCell ⟨lb,2,none⟩ (.int .i64 ha)).setCell ⟨lb,3,none⟩ (.int .i64 ea))=w7 at H7 ⊢
    have HLB:Hid (w7.heap[lb]?=some (.cells #[.int .i64 ka,.int .i64 ta,.int .i64 ha,.int .i64 ea] 38 (0,0))):=H7.out.2
    have HT2:Hid (∀ W,Below w7.heap.size w7 W→Calls Tryz.prog 53 #[.pointer (some ⟨p,0,none⟩)] W fun e w'=>∃ a8 c8 a9 c9,e=.returned (.agg #[.int .i64 X.tm,.int .i64 X.nx,.slice a8 X.ls.length c8,.slice a9 X.ss.length c9])∧(w'.cell? ⟨lb,0,none⟩=some (.int .i64 ka)∧w'.cell? ⟨lb,1,none⟩=some (.int .i64 ta)∧w'.cell? ⟨lb,2,none⟩=some (.int .i64 ha)∧w'.cell? ⟨lb,3,none⟩=some (.int .i64 ea))∧((w'.cell? ⟨w.heap.size+1+1,0,none⟩=some (.int .i64 0)∧w'.frozen? ⟨w.heap.size+1+1,0,none⟩=false)∧(w'.cell? ⟨w.heap.size+1+1,1,none⟩=some (.int .i64 0)∧w'.frozen? ⟨w.heap.size+1+1,1,none⟩=false)∧(w'.cell? ⟨w.heap.size+1+1,2,none⟩=some (.slice none 0 0)∧w'.frozen? ⟨w.heap.size+1+1,2,none⟩=false)∧(w'.cell? ⟨w.heap.size+1+1,3,none⟩=some (.slice none 0 0)∧w'.frozen? ⟨w.heap.size+1+1,3,none⟩=false)∧(w'.cell? ⟨w.heap.size+1+1+1,0,none⟩=some (.int .i64 0)∧w'.frozen? ⟨w.heap.size+1+1+1,0,none⟩=false)∧(w'.cell? ⟨w.heap.size+1+1+1,1,none⟩=some (.int .i64 0)∧w'.frozen? ⟨w.heap.size+1+1+1,1,none⟩=false)∧(w'.cell? ⟨w.heap.size+1+1+1,2,none⟩=some (.int .i64 0)∧w'.frozen? ⟨w.heap.size+1+1+1,2,none⟩=false)∧(w'.cell? ⟨w.heap.size+1+1+1,3,none⟩=some (.int .i64 0)∧w'.frozen? ⟨w.heap.size+1+1+1,3,none⟩=false))∧Hid (TabO w' w3.heap.size (.slice a8 X.ls.length c8) (.slice a9 X.ss.length c9) X qs6∧Below w3.heap.size w3 w')):=fun W hW=>by
     refine (table3_any (H7.out.1.up hW) HLX.out.1 HLX.out.2).mono ?_
     rintro e w' ⟨a8,c8,a9,c9,rfl,hto,hb,hk⟩
     have hlb:=(hk.block lb (Nat.lt_of_lt_of_le (Array.getElem?_eq_some_iff.1 HLB.out).1 hW.size)).trans ((hW.block lb (Array.getElem?_eq_some_iff.1 HLB.out).1).trans HLB.out)
     have ho:=(hb.block _ (Array.getElem?_eq_some_iff.1 B3.out.2.2.1).1).trans B3.out.2.2.1
     have hz:=(hb.block _ (Array.getElem?_eq_some_iff.1 B3.out.2.2.2.1).1).trans B3.out.2.2.2.1
     exact ⟨a8,c8,a9,c9,rfl,⟨(zAA hlb 0 rfl).1,(zAA hlb 1 rfl).1,(zAA hlb 2 rfl).1,(zAA hlb 3 rfl).1⟩,⟨zAA ho 0 rfl,zAA ho 1 rfl,zAA ho 2 rfl,zAA ho 3 rfl,zAA hz 0 rfl,zAA hz 1 rfl,zAA hz 2 rfl,zAA hz 3 rfl⟩,hto,hb⟩
    have HOL:Hid (lb ≠ w.heap.size+1+1∧lb ≠ w.heap.size+1+1+1):=by have h1:=H5.out.2.2;have h2:=HS3.out;exact ⟨by omega,by omega⟩
    have C1:w7.cell? ⟨lb,0,none⟩=some (.int .i64 ka)∧w7.cell? ⟨lb,1,none⟩=some (.int .i64 ta)∧w7.cell? ⟨lb,2,none⟩=some (.int .i64 ha)∧w7.cell? ⟨lb,3,none⟩=some (.int .i64 ea):=⟨(zAA HLB.out 0 rfl).1,(zAA HLB.out 1 rfl).1,(zAA HLB.out 2 rfl).1,(zAA HLB.out 3 rfl).1⟩
    have C1d:w7.drew.cell? ⟨lb,0,none⟩=some (.int .i64 ka)∧w7.drew.cell? ⟨lb,1,none⟩=some (.int .i64 ta)∧w7.drew.cell? ⟨lb,2,none⟩=some (.int .i64 ha)∧w7.drew.cell? ⟨lb,3,none⟩=some (.int .i64 ea):=C1
    go_region_held_law (fun W=>W.cell? ⟨lb,0,none⟩=some (.int .i64 ka)∧W.cell? ⟨lb,1,none⟩=some (.int .i64 ta)∧W.cell? ⟨lb,2,none⟩=some (.int .i64 ha)∧W.cell? ⟨lb,3,none⟩=some (.int .i64 ea)) (first | with_reducible exact C1 | with_reducible exact C1d | with_reducible exact C2 | exact ⟨cf4 HOL.out.1 C2.1,cf4 HOL.out.1 C2.2.1,cf4 HOL.out.1 C2.2.2.1,cf4 HOL.out.1 C2.2.2.2⟩ | exact ⟨cf4 HOL.out.2 (cf4 HOL.out.1 C2.1),cf4 HOL.out.2 (cf4 HOL.out.1 C2.2.1),cf4 HOL.out.2 (cf4 HOL.out.1 C2.2.2.1),cf4 HOL.out.2 (cf4 HOL.out.1 C2.2.2.2)⟩ | exact ⟨cf4 HOL.out.2 C2.1,cf4 HOL.out.2 C2.2.1,cf4 HOL.out.2 C2.2.2.1,cf4 HOL.out.2 C2.2.2.2⟩) ((go_at_call 53;refine (HT2.out _ (by first | exact Below.refl _ _ | exact (Below.refl _ _).drew)).mono ?_;rintro e w8 ⟨a8,c8,a9,c9,rfl,C2,⟨⟨z0,y0⟩,⟨z1,y1⟩,⟨z2,y2⟩,⟨z3,y3⟩,⟨a0,b0⟩,⟨a1,b1⟩,⟨a2,b2⟩,⟨a3,b3⟩⟩,H8⟩))
    all_goals
     clear C1 C1d C2
     go_wp2_with fail
     have HF:Hid (((((((((w8.setCell ⟨w.heap.size+1+1,0,none⟩ (.int .i64 X.tm)).setCell ⟨w.heap.size+1+1,1,none⟩ (.int .i64 X.nx)).setCell ⟨w.heap.size+1+1,2,none⟩ (.slice a8 X.ls.length c8)).setCell ⟨w.heap.size+1+1,3,none⟩ (.slice a9 X.ss.length c9)).setCell ⟨w.heap.size+1+1+1,0,none⟩ (.int .i64 ka)).setCell ⟨w.heap.size+1+1+1,1,none⟩ (.int .i64 ta)).setCell ⟨w.heap.size+1+1+1,2,none⟩ (.int .i64 ha)).setCell ⟨w.heap.size+1+1+1,3,none⟩ (.int .i64 ea)).heap[w.heap.size+1+1]?=some (.cells #[.int .i64 X.tm,.int .i64 X.nx,.slice a8 X.ls.length c8,.slice a9 X.ss.length c9] 30 (0,0))∧((((((((w8.setCell ⟨w.heap.size+1+1,0,none⟩ (.int .i64 X.tm)).setCell ⟨w.heap.size+1+1,1,none⟩ (.int .i64 X.nx)).setCell ⟨w.heap.size+1+1,2,none⟩ (.slice a8 X.ls.length c8)).setCell ⟨w.heap.size+1+1,3,none⟩ (.slice a9 X.ss.length c9)).setCell ⟨w.heap.size+1+1+1,0,none⟩ (.int .i64 ka)).setCell ⟨w.heap.size+1+1+1,1,none⟩ (.int .i64 ta)).setCell ⟨w.heap.size+1+1+1,2,none⟩ (.int .i64 ha)).setCell ⟨w.heap.size+1+1+1,3,none⟩ (.int .i64 ea)).heap[w.heap.size+1+1+1]?=some (.cells #[.int .i64 ka,.int .i64 ta,.int .i64 ha,.int .i64 ea] 38 (0,0))∧TabO ((((((((w8.setCell ⟨w.heap.size+1+1,0,none⟩ (.int .i64 X.tm)).setCell ⟨w.heap.size+1+1,1,none⟩ (.int .i64 X.nx)).setCell ⟨w.heap.size+1+1,2,none⟩ (.slice a8 X.ls.length c8)).setCell ⟨w.heap.size+1+1,3,none⟩ (.slice a9 X.ss.length c9)).setCell ⟨w.heap.size+1+1+1,0,none⟩ (.int .i64 ka)).setCell ⟨w.heap.size+1+1+1,1,none⟩ (.int .i64 ta)).setCell ⟨w.heap.size+1+1+1,2,none⟩ (.int .i64 ha)).setCell ⟨w.heap.size+1+1+1,3,none⟩ (.int .i64 ea)) w.heap.size (.slice a8 X.ls.length c8) (.slice a9 X.ss.length c9) X qs6∧Below w.heap.size w ((((((((w8.setCell ⟨w.heap.size+1+1,0,none⟩ (.int .i64 X.tm)).setCell ⟨w.heap.size+1+1,1,none⟩ (.int .i64 X.nx)).setCell ⟨w.heap.size+1+1,2,none⟩ (.slice a8 X.ls.length c8)).setCell ⟨w.heap.size+1+1,3,none⟩ (.slice a9 X.ss.length c9)).setCell ⟨w.heap.size+1+1+1,0,none⟩ (.int .i64 ka)).setCell ⟨w.heap.size+1+1+1,1,none⟩ (.int .i64 ta)).setCell ⟨w.heap.size+1+1+1,2,none⟩ (.int .i64 ha)).setCell ⟨w.heap.size+1+1+1,3,none⟩ (.int .i64 ea))):=ap_end8 H8.out B3.out HS3.out _ _ _ _ _ _
     generalize ((((((((w8.setCell ⟨w.heap.size+1+1,0,none⟩ (.int .i64 X.tm)).setCell ⟨w.heap.size+1+1,1,none⟩ (.int .i64 X.nx)).setCell ⟨w.heap.size+1+1,2,none⟩ (.slice a8 X.ls.length c8)).setCell ⟨w.heap.size+1+1,3,none⟩ (.slice a9 X.ss.length c9)).setCell ⟨w.heap.size+1+1+1,0,none⟩ (.int .i64 ka)).setCell ⟨w.heap.size+1+1+1,1,none⟩ (.int .i64 ta)).setCell ⟨w.heap.size+1+1+1,2,none⟩ (.int .i64 ha)).setCell ⟨w.heap.size+1+1+1,3,none⟩ (.int .i64 ea))=wf at HF ⊢
     have d0:=(zAA HF.out.1 0 (x:=.int .i64 X.tm) rfl).1
     have d1:=(zAA HF.out.1 1 (x:=.int .i64 X.nx) rfl).1
     have d2:=(zAA HF.out.1 2 (x:=.slice a8 X.ls.length c8) rfl).1
     have d3:=(zAA HF.out.1 3 (x:=.slice a9 X.ss.length c9) rfl).1
     have f0:=(zAA HF.out.2.1 0 (x:=.int .i64 ka) rfl).1
     have f1:=(zAA HF.out.2.1 1 (x:=.int .i64 ta) rfl).1
     have f2:=(zAA HF.out.2.1 2 (x:=.int .i64 ha) rfl).1
     have f3:=(zAA HF.out.2.1 3 (x:=.int .i64 ea) rfl).1
     exact bodyPost_ret (v:=.tuple #[.agg #[.int .i64 X.tm,.int .i64 X.nx,.slice a8 X.ls.length c8,.slice a9 X.ss.length c9],.agg #[.int .i64 ka,.int .i64 ta,.int .i64 ha,.int .i64 ea],.int .i64 0]) (by simp [results,Tryz.results16,go_sem,d0,d1,d2,d3,f0,f1,f2,f3]) rfl ⟨_,_,qs6,(by rw [HSX.out.1,HSX.out.2.1,HSX.out.2.2];try rfl),by rw [HSX.out.1];exact HF.out.2.2.1,HF.out.2.2.2⟩
   ·have HST:Hid (apX T now r=t00∧apA T now r=⟨0,0,0,0⟩∧apC T now r=1):=by
     have e:apC T now r=1:=HC.out.trans h1
     refine ⟨by unfold apX;rw [e];rfl,by unfold apA;rw [e];rfl,e⟩
    rw [h1]
    go_wp2_with fail
    have HF:Hid (((((((((w3.setCell ⟨w.heap.size+1+1,0,none⟩ (.int .i64 0)).setCell ⟨w.heap.size+1+1,1,none⟩ (.int .i64 0)).setCell ⟨w.heap.size+1+1,2,none⟩ (.slice none 0 0)).setCell ⟨w.heap.size+1+1,3,none⟩ (.slice none 0 0)).setCell ⟨w.heap.size+1+1+1,0,none⟩ (.int .i64 0)).setCell ⟨w.heap.size+1+1+1,1,none⟩ (.int .i64 0)).setCell ⟨w.heap.size+1+1+1,2,none⟩ (.int .i64 0)).setCell ⟨w.heap.size+1+1+1,3,none⟩ (.int .i64 0)).heap[w.heap.size+1+1]?=some (.cells #[.int .i64 0,.int .i64 0,.slice none 0 0,.slice none 0 0] 30 (0,0))∧((((((((w3.setCell ⟨w.heap.size+1+1,0,none⟩ (.int .i64 0)).setCell ⟨w.heap.size+1+1,1,none⟩ (.int .i64 0)).setCell ⟨w.heap.size+1+1,2,none⟩ (.slice none 0 0)).setCell ⟨w.heap.size+1+1,3,none⟩ (.slice none 0 0)).setCell ⟨w.heap.size+1+1+1,0,none⟩ (.int .i64 0)).setCell ⟨w.heap.size+1+1+1,1,none⟩ (.int .i64 0)).setCell ⟨w.heap.size+1+1+1,2,none⟩ (.int .i64 0)).setCell ⟨w.heap.size+1+1+1,3,none⟩ (.int .i64 0)).heap[w.heap.size+1+1+1]?=some (.cells #[.int .i64 0,.int .i64 0,.int .i64 0,.int .i64 0] 38 (0,0))∧TabO ((((((((w3.setCell ⟨w.heap.size+1+1,0,none⟩ (.int .i64 0)).setCell ⟨w.heap.size+1+1,1,none⟩ (.int .i64 0)).setCell ⟨w.heap.size+1+1,2,none⟩ (.slice none 0 0)).setCell ⟨w.heap.size+1+1,3,none⟩ (.slice none 0 0)).setCell ⟨w.heap.size+1+1+1,0,none⟩ (.int .i64 0)).setCell ⟨w.heap.size+1+1+1,1,none⟩ (.int .i64 0)).setCell ⟨w.heap.size+1+1+1,2,none⟩ (.int .i64 0)).setCell ⟨w.heap.size+1+1+1,3,none⟩ (.int .i64 0)) w.heap.size (.slice none 0 0) (.slice none 0 0) t00 []∧Below w.heap.size w ((((((((w3.setCell ⟨w.heap.size+1+1,0,none⟩ (.int .i64 0)).setCell ⟨w.heap.size+1+1,1,none⟩ (.int .i64 0)).setCell ⟨w.heap.size+1+1,2,none⟩ (.slice none 0 0)).setCell ⟨w.heap.size+1+1,3,none⟩ (.slice none 0 0)).setCell ⟨w.heap.size+1+1+1,0,none⟩ (.int .i64 0)).setCell ⟨w.heap.size+1+1+1,1,none⟩ (.int .i64 0)).setCell ⟨w.heap.size+1+1+1,2,none⟩ (.int .i64 0)).setCell ⟨w.heap.size+1+1+1,3,none⟩ (.int .i64 0))):=ap_end B3.out.2.2.1 B3.out.2.2.2.1 (tabO_nil w3 (w.heap.size+4)) B3.out.2.2.2.2 ⟨by omega,by omega,by omega⟩ _ _ _ _ _ _
    generalize ((((((((w3.setCell ⟨w.heap.size+1+1,0,none⟩ (.int .i64 0)).setCell ⟨w.heap.size+1+1,1,none⟩ (.int .i64 0)).setCell ⟨w.heap.size+1+1,2,none⟩ (.slice none 0 0)).setCell ⟨w.heap.size+1+1,3,none⟩ (.slice none 0 0)).setCell ⟨w.heap.size+1+1+1,0,none⟩ (.int .i64 0)).setCell ⟨w.heap.size+1+1+1,1,none⟩ (.int .i64 0)).setCell ⟨w.heap.size+1+1+1,2,none⟩ (.int .i64 0)).setCell ⟨w.heap.size+1+1+1,3,none⟩ (.int .i64 0))=wf at HF ⊢
    have d0:=(zAA HF.out.1 0 (x:=.int .i64 0) rfl).1
    have d1:=(zAA HF.out.1 1 (x:=.int .i64 0) rfl).1
    have d2:=(zAA HF.out.1 2 (x:=.slice none 0 0) rfl).1
    have d3:=(zAA HF.out.1 3 (x:=.slice none 0 0) rfl).1
    have f0:=(zAA HF.out.2.1 0 (x:=.int .i64 0) rfl).1
    have f1:=(zAA HF.out.2.1 1 (x:=.int .i64 0) rfl).1
    have f2:=(zAA HF.out.2.1 2 (x:=.int .i64 0) rfl).1
    have f3:=(zAA HF.out.2.1 3 (x:=.int .i64 0) rfl).1
    exact bodyPost_ret (v:=.tuple #[.agg #[.int .i64 0,.int .i64 0,.slice none 0 0,.slice none 0 0],.agg #[.int .i64 0,.int .i64 0,.int .i64 0,.int .i64 0],.int .i64 1]) (by simp [results,Tryz.results16,go_sem,d0,d1,d2,d3,f0,f1,f2,f3]) rfl ⟨_,_,[],(by rw [HST.out.1,HST.out.2.1,HST.out.2.2];try rfl),by rw [HST.out.1];exact HF.out.2.2.1,HF.out.2.2.2⟩
   ·have HST:Hid (apX T now r=t00∧apA T now r=⟨0,0,0,0⟩∧apC T now r=4):=by
     have e:apC T now r=4:=HC.out.trans h4
     refine ⟨by unfold apX;rw [e];rfl,by unfold apA;rw [e];rfl,e⟩
    rw [h4]
    go_wp2_with fail
    have HF:Hid (((((((((w3.setCell ⟨w.heap.size+1+1,0,none⟩ (.int .i64 0)).setCell ⟨w.heap.size+1+1,1,none⟩ (.int .i64 0)).setCell ⟨w.heap.size+1+1,2,none⟩ (.slice none 0 0)).setCell ⟨w.heap.size+1+1,3,none⟩ (.slice none 0 0)).setCell ⟨w.heap.size+1+1+1,0,none⟩ (.int .i64 0)).setCell ⟨w.heap.size+1+1+1,1,none⟩ (.int .i64 0)).setCell ⟨w.heap.size+1+1+1,2,none⟩ (.int .i64 0)).setCell ⟨w.heap.size+1+1+1,3,none⟩ (.int .i64 0)).heap[w.heap.size+1+1]?=some (.cells #[.int .i64 0,.int .i64 0,.slice none 0 0,.slice none 0 0] 30 (0,0))∧((((((((w3.setCell ⟨w.heap.size+1+1,0,none⟩ (.int .i64 0)).setCell ⟨w.heap.size+1+1,1,none⟩ (.int .i64 0)).setCell ⟨w.heap.size+1+1,2,none⟩ (.slice none 0 0)).setCell ⟨w.heap.size+1+1,3,none⟩ (.slice none 0 0)).setCell ⟨w.heap.size+1+1+1,0,none⟩ (.int .i64 0)).setCell ⟨w.heap.size+1+1+1,1,none⟩ (.int .i64 0)).setCell ⟨w.heap.size+1+1+1,2,none⟩ (.int .i64 0)).setCell ⟨w.heap.size+1+1+1,3,none⟩ (.int .i64 0)).heap[w.heap.size+1+1+1]?=some (.cells #[.int .i64 0,.int .i64 0,.int .i64 0,.int .i64 0] 38 (0,0))∧TabO ((((((((w3.setCell ⟨w.heap.size+1+1,0,none⟩ (.int .i64 0)).setCell ⟨w.heap.size+1+1,1,none⟩ (.int .i64 0)).setCell ⟨w.heap.size+1+1,2,none⟩ (.slice none 0 0)).setCell ⟨w.heap.size+1+1,3,none⟩ (.slice none 0 0)).setCell ⟨w.heap.size+1+1+1,0,none⟩ (.int .i64 0)).setCell ⟨w.heap.size+1+1+1,1,none⟩ (.int .i64 0)).setCell ⟨w.heap.size+1+1+1,2,none⟩ (.int .i64 0)).setCell ⟨w.heap.size+1+1+1,3,none⟩ (.int .i64 0)) w.heap.size (.slice none 0 0) (.slice none 0 0) t00 []∧Below w.heap.size w ((((((((w3.setCell ⟨w.heap.size+1+1,0,none⟩ (.int .i64 0)).setCell ⟨w.heap.size+1+1,1,none⟩ (.int .i64 0)).setCell ⟨w.heap.size+1+1,2,none⟩ (.slice none 0 0)).setCell ⟨w.heap.size+1+1,3,none⟩ (.slice none 0 0)).setCell ⟨w.heap.size+1+1+1,0,none⟩ (.int .i64 0)).setCell ⟨w.heap.size+1+1+1,1,none⟩ (.int .i64 0)).setCell ⟨w.heap.size+1+1+1,2,none⟩ (.int .i64 0)).setCell ⟨w.heap.size+1+1+1,3,none⟩ (.int .i64 0))):=ap_end B3.out.2.2.1 B3.out.2.2.2.1 (tabO_nil w3 (w.heap.size+4)) B3.out.2.2.2.2 ⟨by omega,by omega,by omega⟩ _ _ _ _ _ _
    generalize ((((((((w3.setCell ⟨w.heap.size+1+1,0,none⟩ (.int .i64 0)).setCell ⟨w.heap.size+1+1,1,none⟩ (.int .i64 0)).setCell ⟨w.heap.size+1+1,2,none⟩ (.slice none 0 0)).setCell ⟨w.heap.size+1+1,3,none⟩ (.slice none 0 0)).setCell ⟨w.heap.size+1+1+1,0,none⟩ (.int .i64 0)).setCell ⟨w.heap.size+1+1+1,1,none⟩ (.int .i64 0)).setCell ⟨w.heap.size+1+1+1,2,none⟩ (.int .i64 0)).setCell ⟨w.heap.size+1+1+1,3,none⟩ (.int .i64 0))=wf at HF ⊢
    have d0:=(zAA HF.out.1 0 (x:=.int .i64 0) rfl).1
    have d1:=(zAA HF.out.1 1 (x:=.int .i64 0) rfl).1
    have d2:=(zAA HF.out.1 2 (x:=.slice none 0 0) rfl).1
    have d3:=(zAA HF.out.1 3 (x:=.slice none 0 0) rfl).1
    have f0:=(zAA HF.out.2.1 0 (x:=.int .i64 0) rfl).1
    have f1:=(zAA HF.out.2.1 1 (x:=.int .i64 0) rfl).1
    have f2:=(zAA HF.out.2.1 2 (x:=.int .i64 0) rfl).1
    have f3:=(zAA HF.out.2.1 3 (x:=.int .i64 0) rfl).1
    exact bodyPost_ret (v:=.tuple #[.agg #[.int .i64 0,.int .i64 0,.slice none 0 0,.slice none 0 0],.agg #[.int .i64 0,.int .i64 0,.int .i64 0,.int .i64 0],.int .i64 4]) (by simp [results,Tryz.results16,go_sem,d0,d1,d2,d3,f0,f1,f2,f3]) rfl ⟨_,_,[],(by rw [HST.out.1,HST.out.2.1,HST.out.2.2];try rfl),by rw [HST.out.1];exact HF.out.2.2.1,HF.out.2.2.2⟩
   ·have HST:Hid (apX T now r=T∧apA T now r=⟨0,0,0,0⟩∧apC T now r=13):=by
     have e:apC T now r=13:=HC.out.trans h13
     refine ⟨by unfold apX;rw [e];rfl,by unfold apA;rw [e];rfl,e⟩
    have hT:=sf_13 h13
    obtain ⟨_,_,hln1,hln2⟩:=tok_bk hT
    rw [h13]
    go_upto_region 7 with (go_at_call 65;go_must (refine (HOP.out w3 B3.out.2.2.2.2 hT).mono ?_;rintro e w4 ⟨bL,bS,p,qs,rfl,hb4⟩;have H4:Hid (BK w3 w4 w3.heap.size p bL bS T qs):=hb4;clear hb4;clear c0 c1 c2 c3 q0 q1 q2 q3 q4;clear z0 y0 z1 y1 z2 y2 z3 y3 a0 b0 a1 b1 a2 b2 a3 b3))
    have HS3:Hid (w.heap.size+1+1+1<w3.heap.size):=(Array.getElem?_eq_some_iff.1 B3.out.2.2.2.1).1
    go_upto_region 8 with fail
    have H5:Hid (BK w3 (w4.alloc (.cells #[.int .i64 0,.int .i64 0,.int .i64 0,.int .i64 0] 38)) w3.heap.size p bL bS T qs∧(w4.alloc (.cells #[.int .i64 0,.int .i64 0,.int .i64 0,.int .i64 0] 38)).heap[w4.heap.size]?=some (.cells #[.int .i64 0,.int .i64 0,.int .i64 0,.int .i64 0] 38 (0,0))∧(p<w4.heap.size∧bL<w4.heap.size∧bS<w4.heap.size∧w3.heap.size≤w4.heap.size)):=⟨H4.out.up (zAD _ _),zAJ _ _ _,H4.out.plt,H4.out.llt,H4.out.slt,H4.out.size⟩
    generalize w4.alloc (.cells #[.int .i64 0,.int .i64 0,.int .i64 0,.int .i64 0] 38)=w5 at H5 ⊢
    generalize w4.heap.size=lb at H5 ⊢
    go_upto_region 10 with fail
    have HLB:Hid (w5.heap[lb]?=some (.cells #[.int .i64 0,.int .i64 0,.int .i64 0,.int .i64 0] 38 (0,0))):=H5.out.2.1
    have HT2:Hid (∀ W,Below w5.heap.size w5 W→Calls Tryz.prog 53 #[.pointer (some ⟨p,0,none⟩)] W fun e w'=>∃ a8 c8 a9 c9,e=.returned (.agg #[.int .i64 T.tm,.int .i64 T.nx,.slice a8 T.ls.length c8,.slice a9 T.ss.length c9])∧(w'.cell? ⟨lb,0,none⟩=some (.int .i64 0)∧w'.cell? ⟨lb,1,none⟩=some (.int .i64 0)∧w'.cell? ⟨lb,2,none⟩=some (.int .i64 0)∧w'.cell? ⟨lb,3,none⟩=some (.int .i64 0))∧((w'.cell? ⟨w.heap.size+1+1,0,none⟩=some (.int .i64 0)∧w'.frozen? ⟨w.heap.size+1+1,0,none⟩=false)∧(w'.cell? ⟨w.heap.size+1+1,1,none⟩=some (.int .i64 0)∧w'.frozen? ⟨w.heap.size+1+1,1,none⟩=false)∧(w'.cell? ⟨w.heap.size+1+1,2,none⟩=some (.slice none 0 0)∧w'.frozen? ⟨w.heap.size+1+1,2,none⟩=false)∧(w'.cell? ⟨w.heap.size+1+1,3,none⟩=some (.slice none 0 0)∧w'.frozen? ⟨w.heap.size+1+1,3,none⟩=false)∧(w'.cell? ⟨w.heap.size+1+1+1,0,none⟩=some (.int .i64 0)∧w'.frozen? ⟨w.heap.size+1+1+1,0,none⟩=false)∧(w'.cell? ⟨w.heap.size+1+1+1,1,none⟩=some (.int .i64 0)∧w'.frozen? ⟨w.heap.size+1+1+1,1,none⟩=false)∧(w'.cell? ⟨w.heap.size+1+1+1,2,none⟩=some (.int .i64 0)∧w'.frozen? ⟨w.heap.size+1+1+1,2,none⟩=false)∧(w'.cell? ⟨w.heap.size+1+1+1,3,none⟩=some (.int .i64 0)∧w'.frozen? ⟨w.heap.size+1+1+1,3,none⟩=false))∧Hid (TabO w' w3.heap.size (.slice a8 T.ls.length c8) (.slice a9 T.ss.length c9) T qs∧Below w3.heap.size w3 w')):=fun W hW=>by
     refine (table3_any (H5.out.1.up hW) hln1 hln2).mono ?_
     rintro e w' ⟨a8,c8,a9,c9,rfl,hto,hb,hk⟩
     have hlb:=(hk.block lb (Nat.lt_of_lt_of_le (Array.getElem?_eq_some_iff.1 HLB.out).1 hW.size)).trans ((hW.block lb (Array.getElem?_eq_some_iff.1 HLB.out).1).trans HLB.out)
     have ho:=(hb.block _ (Array.getElem?_eq_some_iff.1 B3.out.2.2.1).1).trans B3.out.2.2.1
     have hz:=(hb.block _ (Array.getElem?_eq_some_iff.1 B3.out.2.2.2.1).1).trans B3.out.2.2.2.1
     exact ⟨a8,c8,a9,c9,rfl,⟨(zAA hlb 0 rfl).1,(zAA hlb 1 rfl).1,(zAA hlb 2 rfl).1,(zAA hlb 3 rfl).1⟩,⟨zAA ho 0 rfl,zAA ho 1 rfl,zAA ho 2 rfl,zAA ho 3 rfl,zAA hz 0 rfl,zAA hz 1 rfl,zAA hz 2 rfl,zAA hz 3 rfl⟩,hto,hb⟩
    have HOL:Hid (lb ≠ w.heap.size+1+1∧lb ≠ w.heap.size+1+1+1):=by have h1:=H5.out.2.2;have h2:=HS3.out;exact ⟨by omega,by omega⟩
    have C1:w5.cell? ⟨lb,0,none⟩=some (.int .i64 0)∧w5.cell? ⟨lb,1,none⟩=some (.int .i64 0)∧w5.cell? ⟨lb,2,none⟩=some (.int .i64 0)∧w5.cell? ⟨lb,3,none⟩=some (.int .i64 0):=⟨(zAA HLB.out 0 rfl).1,(zAA HLB.out 1 rfl).1,(zAA HLB.out 2 rfl).1,(zAA HLB.out 3 rfl).1⟩
    have C1d:w5.drew.cell? ⟨lb,0,none⟩=some (.int .i64 0)∧w5.drew.cell? ⟨lb,1,none⟩=some (.int .i64 0)∧w5.drew.cell? ⟨lb,2,none⟩=some (.int .i64 0)∧w5.drew.cell? ⟨lb,3,none⟩=some (.int .i64 0):=C1
    go_region_held_law (fun W=>W.cell? ⟨lb,0,none⟩=some (.int .i64 0)∧W.cell? ⟨lb,1,none⟩=some (.int .i64 0)∧W.cell? ⟨lb,2,none⟩=some (.int .i64 0)∧W.cell? ⟨lb,3,none⟩=some (.int .i64 0)) (first | with_reducible exact C1 | with_reducible exact C1d | with_reducible exact C2 | exact ⟨cf4 HOL.out.1 C2.1,cf4 HOL.out.1 C2.2.1,cf4 HOL.out.1 C2.2.2.1,cf4 HOL.out.1 C2.2.2.2⟩ | exact ⟨cf4 HOL.out.2 (cf4 HOL.out.1 C2.1),cf4 HOL.out.2 (cf4 HOL.out.1 C2.2.1),cf4 HOL.out.2 (cf4 HOL.out.1 C2.2.2.1),cf4 HOL.out.2 (cf4 HOL.out.1 C2.2.2.2)⟩ | exact ⟨cf4 HOL.out.2 C2.1,cf4 HOL.out.2 C2.2.1,cf4 HOL.out.2 C2.2.2.1,cf4 HOL.out.2 C2.2.2.2⟩) ((go_at_call 53;refine (HT2.out _ (by first | exact Below.refl _ _ | exact (Below.refl _ _).drew)).mono ?_;rintro e w8 ⟨a8,c8,a9,c9,rfl,C2,⟨⟨z0,y0⟩,⟨z1,y1⟩,⟨z2,y2⟩,⟨z3,y3⟩,⟨a0,b0⟩,⟨a1,b1⟩,⟨a2,b2⟩,⟨a3,b3⟩⟩,H8⟩))
    all_goals
     clear C1 C1d C2
     go_wp2_with fail
     have HF:Hid (((((((((w8.setCell ⟨w.heap.size+1+1,0,none⟩ (.int .i64 T.tm)).setCell ⟨w.heap.size+1+1,1,none⟩ (.int .i64 T.nx)).setCell ⟨w.heap.size+1+1,2,none⟩ (.slice a8 T.ls.length c8)).setCell ⟨w.heap.size+1+1,3,none⟩ (.slice a9 T.ss.length c9)).setCell ⟨w.heap.size+1+1+1,0,none⟩ (.int .i64 0)).setCell ⟨w.heap.size+1+1+1,1,none⟩ (.int .i64 0)).setCell ⟨w.heap.size+1+1+1,2,none⟩ (.int .i64 0)).setCell ⟨w.heap.size+1+1+1,3,none⟩ (.int .i64 0)).heap[w.heap.size+1+1]?=some (.cells #[.int .i64 T.tm,.int .i64 T.nx,.slice a8 T.ls.length c8,.slice a9 T.ss.length c9] 30 (0,0))∧((((((((w8.setCell ⟨w.heap.size+1+1,0,none⟩ (.int .i64 T.tm)).setCell ⟨w.heap.size+1+1,1,none⟩ (.int .i64 T.nx)).setCell ⟨w.heap.size+1+1,2,none⟩ (.slice a8 T.ls.length c8)).setCell ⟨w.heap.size+1+1,3,none⟩ (.slice a9 T.ss.length c9)).setCell ⟨w.heap.size+1+1+1,0,none⟩ (.int .i64 0)).setCell ⟨w.heap.size+1+1+1,1,none⟩ (.int .i64 0)).setCell ⟨w.heap.size+1+1+1,2,none⟩ (.int .i64 0)).setCell ⟨w.heap.size+1+1+1,3,none⟩ (.int .i64 0)).heap[w.heap.size+1+1+1]?=some (.cells #[.int .i64 0,.int .i64 0,.int .i64 0,.int .i64 0] 38 (0,0))∧TabO ((((((((w8.setCell ⟨w.heap.size+1+1,0,none⟩ (.int .i64 T.tm)).setCell ⟨w.heap.size+1+1,1,none⟩ (.int .i64 T.nx)).setCell ⟨w.heap.size+1+1,2,none⟩ (.slice a8 T.ls.length c8)).setCell ⟨w.heap.size+1+1,3,none⟩ (.slice a9 T.ss.length c9)).setCell ⟨w.heap.size+1+1+1,0,none⟩ (.int .i64 0)).setCell ⟨w.heap.size+1+1+1,1,none⟩ (.int .i64 0)).setCell ⟨w.heap.size+1+1+1,2,none⟩ (.int .i64 0)).setCell ⟨w.heap.size+1+1+1,3,none⟩ (.int .i64 0)) w.heap.size (.slice a8 T.ls.length c8) (.slice a9 T.ss.length c9) T qs∧Below w.heap.size w ((((((((w8.setCell ⟨w.heap.size+1+1,0,none⟩ (.int .i64 T.tm)).setCell ⟨w.heap.size+1+1,1,none⟩ (.int .i64 T.nx)).setCell ⟨w.heap.size+1+1,2,none⟩ (.slice a8 T.ls.length c8)).setCell ⟨w.heap.size+1+1,3,none⟩ (.slice a9 T.ss.length c9)).setCell ⟨w.heap.size+1+1+1,0,none⟩ (.int .i64 0)).setCell ⟨w.heap.size+1+1+1,1,none⟩ (.int .i64 0)).setCell ⟨w.heap.size+1+1+1,2,none⟩ (.int .i64 0)).setCell ⟨w.heap.size+1+1+1,3,none⟩ (.int .i64 0))):=ap_end8 H8.out B3.out HS3.out _ _ _ _ _ _
     generalize ((((((((w8.setCell ⟨w.heap.size+1+1,0,none⟩ (.int .i64 T.tm)).setCell ⟨w.heap.size+1+1,1,none⟩ (.int .i64 T.nx)).setCell ⟨w.heap.size+1+1,2,none⟩ (.slice a8 T.ls.length c8)).setCell ⟨w.heap.size+1+1,3,none⟩ (.slice a9 T.ss.length c9)).setCell ⟨w.heap.size+1+1+1,0,none⟩ (.int .i64 0)).setCell ⟨w.heap.size+1+1+1,1,none⟩ (.int .i64 0)).setCell ⟨w.heap.size+1+1+1,2,none⟩ (.int .i64 0)).setCell ⟨w.heap.size+1+1+1,3,none⟩ (.int .i64 0))=wf at HF ⊢
     have d0:=(zAA HF.out.1 0 (x:=.int .i64 T.tm) rfl).1
     have d1:=(zAA HF.out.1 1 (x:=.int .i64 T.nx) rfl).1
     have d2:=(zAA HF.out.1 2 (x:=.slice a8 T.ls.length c8) rfl).1
     have d3:=(zAA HF.out.1 3 (x:=.slice a9 T.ss.length c9) rfl).1
     have f0:=(zAA HF.out.2.1 0 (x:=.int .i64 0) rfl).1
     have f1:=(zAA HF.out.2.1 1 (x:=.int .i64 0) rfl).1
     have f2:=(zAA HF.out.2.1 2 (x:=.int .i64 0) rfl).1
     have f3:=(zAA HF.out.2.1 3 (x:=.int .i64 0) rfl).1
     exact bodyPost_ret (v:=.tuple #[.agg #[.int .i64 T.tm,.int .i64 T.nx,.slice a8 T.ls.length c8,.slice a9 T.ss.length c9],.agg #[.int .i64 0,.int .i64 0,.int .i64 0,.int .i64 0],.int .i64 13]) (by simp [results,Tryz.results16,go_sem,d0,d1,d2,d3,f0,f1,f2,f3]) rfl ⟨_,_,qs,(by rw [HST.out.1,HST.out.2.1,HST.out.2.2];try rfl),by rw [HST.out.1];exact HF.out.2.2.1,HF.out.2.2.2⟩
end Go.Proofs.YticokpbelgpfmaaGreat.Jz
namespace Go.Proofs.YticokpbelgpfmaaGreat.Ea
open Go.RowKit By Ap Tb Tw Mw Wa Tp Da
open Lo (LkA uV clL OwnL OwnL.kept OwnL.lt OwnL.below OwnL.row OwnL.slice zAG zAK Apart)
open Tx (zAA zAC zAE zAJ zAD)
theorem TM.wadd {w0 w w':World} {B x:Nat} {T:Tab} {v3:Value} {ps:List LkA} {g cap n:Nat} (h:TM w0 w B x T (.slice (some ⟨g,0,none⟩) n cap) v3 ps) {k:Nat} {p:LkA} (hk:ps[k]?=some p) (hg:B≤g) {ws:List Wt} {a':Option Addr} {c':Nat}
 (ho:OwnW w' B (.slice a' ws.length c') ws) (hgr:w.grownBy w' (uV p).ownBlock) (hat:(Value.slice a' ws.length c').ownBlock=(uV p).ownBlock ∨ (Value.slice a' ws.length c').ownBlock=some w.heap.size) :
 TM w0 (w'.setCell ⟨g,k * 5+4,none⟩ (.slice a' ws.length c')) B x { T with ls:=T.ls.set k { p.1 with ws:=ws } } (.slice (some ⟨g,0,none⟩) n cap) v3 (ps.set k ({ p.1 with ws:=ws },a',c')):=by
 have hpw:=h.ow p (List.mem_of_getElem? hk)
 have hkl:k<ps.length:=(List.getElem?_eq_some_iff.1 hk).1
 obtain ⟨cl,hcl⟩:=zAG h.ol (g:=g) rfl
 have kx:∀ (b:Nat) (cs:Array Value) (e:TypeId),w.heap[b]?=some (.cells cs e (0,0))→e ≠ 153→w'.heap[b]?=w.heap[b]?:=fun b cs e hb he=>hgr.block b (Array.getElem?_eq_some_iff.1 hb).1 (fun e2=>by
  obtain ⟨c2,h2⟩:=zAG hpw e2.symm
  exact zAK hb h2 he rfl)
 have hcl':w'.heap[g]?=some (.cells cl 45 (0,0)):=(kx g cl _ hcl (by decide)).trans hcl
 have hx':=(kx x _ _ h.hx (by decide)).trans h.hx
 have ol':OwnL w' B (.slice (some ⟨g,0,none⟩) n cap) ps:=h.ol.kept (fun g' hg'=>by
  obtain ⟨c1,h1⟩:=zAG h.ol hg'
  exact kx g' c1 _ h1 (by decide))
 have os':OwnS w' B v3 T.ss:=h.os.kept (fun g' hg'=>by
  obtain ⟨c1,h1⟩:=zAG h.os hg'
  exact kx g' c1 _ h1 (by decide))
 have far:∀ (u:Value) (zs:List Wt),OwnW w' B u zs→OwnW (w'.setCell ⟨g,k * 5+4,none⟩ (.slice a' ws.length c')) B u zs:=fun u zs hu=>hu.kept (fun g' hg'=>by
  obtain ⟨c1,h1⟩:=zAG hu hg'
  exact zAE (zAK h1 hcl' (by decide)) _ _)
 have hbel:Below B w0 w':=h.bel.grown hgr h.size (fun j hj=>(hpw.lt j hj).1)
 refine ⟨(zAE (zAK hx' hcl' (by decide)) _ _).trans hx',OwnL.set ol' hk (q:=({ p.1 with ws:=ws },a',c')) rfl (by decide),os'.kept (fun g' hg'=>?_),fun q hq=>?_,?_,map_set h.eq,Below.setCell hbel (p:=⟨g,_,none⟩) hg _,h.b0,h.le⟩
 ·obtain ⟨c1,h1⟩:=zAG os' hg'
  exact zAE (zAK h1 hcl' (by decide)) _ _
 ·obtain ⟨i,hi,e⟩:=List.mem_iff_getElem.1 hq
  have hq2:(ps.set k (({ p.1 with ws:=ws }:Lk),a',c'))[i]?=some q:=by rw [List.getElem?_eq_getElem hi,e]
  by_cases hik:k=i
  ·subst hik
   rw [zBL hk] at hq2
   cases hq2
   exact far _ _ ho
  ·rw [List.getElem?_set,if_neg hik] at hq2
   have hqw:=h.ow q (List.mem_of_getElem? hq2)
   exact far _ _ (hqw.kept (fun g' hg'=>hgr.block g' (hqw.lt g' hg').2 (fun e2=>h.ap i k q p hq2 hk (fun e3=>hik e3.symm) g' hg' e2.symm)))
 ·rcases hat with hat | hat
  ·exact h.ap.set hk hat
  ·exact Apart.fresh h.ap (G:=w.heap.size) (fun g' hg'=>by rw [show uV (({ p.1 with ws:=ws }:Lk),a',c')=.slice a' ws.length c' from rfl,hat] at hg';cases hg';exact Nat.le_refl _) (fun q hq g' hg'=>((h.ow q hq).lt g' hg').2)
theorem TM.reloc {w0 w w':World} {B x:Nat} {T:Tab} {v2 v3 v':Value} {ps qs:List LkA} (h:TM w0 w B x T v2 v3 ps) (hb:Below w.heap.size w w') (ho:OwnL w' B v' qs) (hw:∀ q ∈ qs,OwnW w' B (uV q) q.1.ws) (ha:Apart qs) :
 TM w0 (w'.setCell ⟨x,2,none⟩ v') B x { T with ls:=qs.map (·.1) } v' v3 qs:=by
 have h2:=h.up hb
 refine ⟨by rw [zAC h2.hx];rfl,ho.kept (fun g hg=>?_),h2.os.kept (fun g hg=>?_),fun p hp=>(hw p hp).kept (fun g hg=>?_),ha,rfl,Below.setCell h2.bel (p:=⟨x,_,none⟩) h.le v',h.b0,h.le⟩
 ·obtain ⟨c1,h1⟩:=zAG ho hg
  exact zAE (zAK h1 h2.hx (by decide)) _ _
 ·obtain ⟨c1,h1⟩:=zAG h2.os hg
  exact zAE (zAK h1 h2.hx (by decide)) _ _
 ·obtain ⟨c1,h1⟩:=zAG (hw p hp) hg
  exact zAE (zAK h1 h2.hx (by decide)) _ _
theorem Apart.ins {ps:List LkA} (h:Apart ps) {k:Nat} (hk:k≤ps.length) {q:LkA} {G:Nat} (hq:∀ g,(uV q).ownBlock=some g→G≤g) (hp:∀ p ∈ ps,∀ g,(uV p).ownBlock=some g→g<G):Apart (putAt ps k q):=by
 intro i j a c ha hc hij g hg hg2
 rw [zBc hk] at ha hc
 have key:∀ (i:Nat) (a:LkA),(if i<k then ps[i]? else if i=k then some q else ps[i - 1]?)=some a→(i=k∧a=q) ∨ ∃ m,ps[m]?=some a∧(if i<k then m=i else m+1=i)∧i ≠ k:=fun i a ha=>by
  by_cases h1:i<k
  ·rw [if_pos h1] at ha;exact .inr ⟨i,ha,by rw [if_pos h1],by omega⟩
  ·rw [if_neg h1] at ha
   by_cases h2:i=k
   ·rw [if_pos h2] at ha;cases ha;exact .inl ⟨h2,rfl⟩
   ·rw [if_neg h2] at ha;exact .inr ⟨i - 1,ha,by rw [if_neg h1];omega,h2⟩
 rcases key i a ha with ⟨ei,ea⟩ | ⟨m,hm,em,_⟩
 ·rcases key j c hc with ⟨ej,ec⟩ | ⟨m',hm',em',_⟩
  ·omega
  ·rw [ea] at hg
   have:=hq g hg
   have:=hp c (List.mem_of_getElem? hm') g hg2
   omega
 ·rcases key j c hc with ⟨ej,ec⟩ | ⟨m',hm',em',_⟩
  ·rw [ec] at hg2
   have:=hq g hg2
   have:=hp a (List.mem_of_getElem? hm) g hg
   omega
  ·refine h m m' a c hm hm' (fun e=>hij ?_) g hg hg2
   subst e
   split at em <;> split at em' <;> omega
end Go.Proofs.YticokpbelgpfmaaGreat.Ea
namespace Go.Proofs.YticokpbelgpfmaaGreat.Ea
open Go.RowKit By Ap Tb Tw Mw Wa Tp Da
open Lo (LkA uV clL OwnL OwnL.kept OwnL.lt OwnL.below OwnL.row OwnL.slice zAG zAK Apart)
open Lf (Fnd zAS)
open Tx (zAA zAC zAE zAJ zAD)
theorem fiP_first {α:Type} {p:α→Bool}:∀ (xs:List α) (k:Nat),fiP p xs=some k→∀ (j:Nat) (z:α),j<k→xs[j]?=some z→p z=false
 | [],k,h,_,_,_,_=>by simp [fiP] at h
 | y :: r,k,h,j,z,hj,hz=>by
   unfold fiP at h
   split at h
   ·cases h;omega
   ·rename_i hy
    obtain ⟨m,hm,rfl⟩:=Option.map_eq_some_iff.1 h
    cases j with
    | zero=>simp at hz;subst hz;simpa using hy
    | succ j=>exact fiP_first r m hm j z (by omega) (by simpa using hz)
theorem fnd_idx {ls:List Lk} {nm:ByteArray} {k:Nat} {r:Int} (h:idx ls nm=some k) (hf:Fnd ls nm r):r=k:=by
 obtain ⟨y,hy,hn⟩:=zBC ls k h
 have hn':y.n=nm:=toList_inj (by simpa using hn)
 rcases hf with ⟨m,z,rfl,hz,hzn,hb⟩ | ⟨_,hb⟩
 ·by_cases e:m=k
  ·rw [e]
  ·rcases Nat.lt_or_gt_of_ne e with hlt | hgt
   ·have:=fiP_first ls k h m z hlt hz
    rw [hzn] at this
    simp at this
   ·exact absurd hn' (hb k y hgt hy)
 ·exact absurd hn' (hb k y hy)
def DoP (w0 w:World) (B x:Nat) (R:Tab × Da.An) (e:Ending) (w':World):Prop:=e=.returned (.agg #[.int .i64 R.2.k,.int .i64 R.2.t,.int .i64 R.2.h,.int .i64 R.2.e])∧(∃ v2 v3 ps,TM w0 w' B x R.1 v2 v3 ps)∧Oth w w'
theorem TM.rows {w0 w:World} {B x:Nat} {T:Tab} {v2 v3:Value} {ps:List LkA} (h:TM w0 w B x T v2 v3 ps):RowL w v2 T.ls:=by
 have:=h.ol.row (fun p hp=>(h.ow p hp).row)
 rwa [h.eq] at this
theorem zAU {ls:List Lk} {k:Nat} {y:Lk} (h:ls[k]?=some y):ls.set k y=ls:=by
 apply List.ext_getElem? fun i=>?_
 rw [List.getElem?_set]
 by_cases e:k=i
 ·subst e;rw [if_pos rfl,h,if_pos (List.getElem?_eq_some_iff.1 h).1]
 ·rw [if_neg e]
theorem zAg {w0 w w1:World} {B x r:Nat} {T:Tab} {v2 v3:Value} {ps:List LkA} (hr:w1.heap[r]?=some (.cells #[.int .i64 0,.int .i64 0,.int .i64 0,.int .i64 0] 38 (0,0))) (h:TM w0 w1 B x T v2 v3 ps) (ho:Oth w w1) (hn:¬ r<w.heap.size) (hB:B≤r) (a b c d:Value) :
 ((((w1.setCell ⟨r,0,none⟩ a).setCell ⟨r,1,none⟩ b).setCell ⟨r,2,none⟩ c).setCell ⟨r,3,none⟩ d).heap[r]?=some (.cells #[a,b,c,d] 38 (0,0))∧TM w0 ((((w1.setCell ⟨r,0,none⟩ a).setCell ⟨r,1,none⟩ b).setCell ⟨r,2,none⟩ c).setCell ⟨r,3,none⟩ d) B x T v2 v3 ps∧Oth w ((((w1.setCell ⟨r,0,none⟩ a).setCell ⟨r,1,none⟩ b).setCell ⟨r,2,none⟩ c).setCell ⟨r,3,none⟩ d):=by
 have h1:=zAC hr 0 a
 have h2:=zAC h1 1 b
 have h3:=zAC h2 2 c
 have h4:=zAC h3 3 d
 refine ⟨h4,(((h.far hr (by decide) (by decide) (by decide) (by decide) hB 0 a).far h1 (by decide) (by decide) (by decide) (by decide) hB 1 b).far h2 (by decide) (by decide) (by decide) (by decide) hB 2 c).far h3 (by decide) (by decide) (by decide) (by decide) hB 3 d,fun z cs e hz e1 e2 e3 e4=>?_⟩
 have hne:z ≠ r:=fun e5=>hn (by rw [← e5];exact (Array.getElem?_eq_some_iff.1 hz).1)
 rw [zAE hne,zAE hne,zAE hne,zAE hne]
 exact ho z cs e hz e1 e2 e3 e4
theorem getD_at {ls:List Lk} {k:Nat} {y:Lk} (h:ls[k]?=some y):ls.getD k default=y:=by rw [List.getD_eq_getElem?_getD,h];rfl
set_option maxRecDepth 100000 in
set_option maxHeartbeats 6400000 in
theorem zAl {w0 w:World} {B x:Nat} {T:Tab} {v2 v3:Value} {ps:List LkA} (h:TM w0 w B x T v2 v3 ps) (hT:TOK T) (hn:T.nx≤999999) (r:Da.Ask) (hr:zBQ r) (hkd:r.kd=1) {k:Nat} (hidx:idx T.ls r.nm=some k) {y:Lk} (hy:T.ls[k]?=some y) (hq:y.h=r.cl ∨ wtB y.ws r.cl=true ∨ y.h = -1 ∨ 4≤y.ws.length) :
 Calls Tryz.prog 130 #[.pointer (some ⟨x,0,none⟩),.agg #[.int .i64 r.cl,.int .i64 r.st,.int .i64 r.kd,.int .i64 r.le,.string r.nm]] w fun e w'=>DoP w0 w B x (doT T r) e w':=by
 obtain ⟨p,hp,hpy⟩:=h.at hy
 have htm:=zAQ hT.1
 have hnx:=zAQ hT.2.1
 have hle:0≤r.le∧r.le≤1000:=by
  rcases hr.2.2.1 with ⟨_,h⟩ | ⟨h,_⟩
  ·have:=zAQ h;omega
  ·omega
 have hl4:T.ls.length≤4:=hT.2.2.1
 have HDO:Hid (doT T r=(⟨T.tm,acN T.nx r y,T.ls.set k (acL T.tm T.nx r y),T.ss⟩,tell (acK r y) (acL T.tm T.nx r y))):=by
  show _=_
  unfold doT
  rw [hidx]
  simp only [getD_at hy]
 have HF0:Hid (∀ W,TM w0 W B x T v2 v3 ps→Calls Tryz.prog 131 #[.agg #[.int .i64 T.tm,.int .i64 T.nx,v2,v3],.string r.nm] W fun e w'=>e=.returned (.int .i64 (k:Int))∧Below W.heap.size W w'):=fun W hW=>(zAS T.tm T.nx v2 v3 T.ls r.nm W hW.rows (by omega)).mono fun e w' ⟨q,h1,h2,h3⟩=>⟨by rw [h1,fnd_idx hidx h2],h3⟩
 have H0:Hid (TM w0 w B x T v2 v3 ps):=h
 have HX:Hid (∀ W,Below ((w.alloc (.cells #[.int .i64 r.cl,.int .i64 r.st,.int .i64 r.kd,.int .i64 r.le,.string r.nm] 42)).alloc (.cells #[.int .i64 0,.int .i64 0,.int .i64 0,.int .i64 0] 38)).heap.size ((w.alloc (.cells #[.int .i64 r.cl,.int .i64 r.st,.int .i64 r.kd,.int .i64 r.le,.string r.nm] 42)).alloc (.cells #[.int .i64 0,.int .i64 0,.int .i64 0,.int .i64 0] 38)) W→TM w0 W B x T v2 v3 ps∧W.heap[w.heap.size]?=some (.cells #[.int .i64 r.cl,.int .i64 r.st,.int .i64 r.kd,.int .i64 r.le,.string r.nm] 42 (0,0))∧W.heap[w.heap.size+1]?=some (.cells #[.int .i64 0,.int .i64 0,.int .i64 0,.int .i64 0] 38 (0,0))∧Oth w W):=fun W hW=>by
  have e1:(w.alloc (.cells #[.int .i64 r.cl,.int .i64 r.st,.int .i64 r.kd,.int .i64 r.le,.string r.nm] 42)).heap.size=w.heap.size+1:=by simp
  have b2:Below w.heap.size w ((w.alloc (.cells #[.int .i64 r.cl,.int .i64 r.st,.int .i64 r.kd,.int .i64 r.le,.string r.nm] 42)).alloc (.cells #[.int .i64 0,.int .i64 0,.int .i64 0,.int .i64 0] 38)):=(zAD w _).trans ((zAD _ _).mono (zAD w _).size)
  have bb:=b2.trans (hW.mono b2.size)
  refine ⟨H0.out.up bb,?_,?_,Oth.of_below bb⟩
  ·rw [hW.block _ (by simp;omega),(zAD (w.alloc (.cells #[.int .i64 r.cl,.int .i64 r.st,.int .i64 r.kd,.int .i64 r.le,.string r.nm] 42)) (.cells #[.int .i64 0,.int .i64 0,.int .i64 0,.int .i64 0] 38)).block _ (by simp)];exact zAJ _ _ _
  ·rw [hW.block _ (by simp),← e1];exact zAJ _ _ _
 obtain ⟨g,cap,hv,hgB,_,_,_⟩:=h.row hp
 subst hv
 have hpl:ps.length=T.ls.length:=h.len
 have hkl:k<ps.length:=(List.getElem?_eq_some_iff.1 hp).1
 have hkI:(k:Int)<(ps.length:Int):=by omega
 have hk0:¬ (k:Int)<0:=by omega
 have hsB:Hid (B≤w.heap.size):=h.size
 have HP:Hid (ps[k]?=some p∧p.1=y∧T.ls[k]?=some y∧B≤g):=⟨hp,hpy,hy,hgB⟩
 have HLN:Hid (ps.length=T.ls.length):=hpl
 have HTK:Hid (TOK T):=hT
 have HKD:Hid (r.kd=1):=hkd
 clear h hy hp hpy hpl hT hidx hkd
 go_enter Tryz.func130,Tryz.ntmps130
 go_upto_region 1 with fail
 generalize (w.alloc (.cells #[.int .i64 r.cl,.int .i64 r.st,.int .i64 r.kd,.int .i64 r.le,.string r.nm] 42)).alloc (.cells #[.int .i64 0,.int .i64 0,.int .i64 0,.int .i64 0] 38)=w2 at HX ⊢
 obtain ⟨X,hX,W,QI0,QO0⟩:=Qc.zAZ w2
 have QI:Hid (∀ w',Below w2.heap.size w2 w'→∃ x,w'=W x):=QI0
 have QO:Hid (∀ x,Below w2.heap.size w2 (W x)):=QO0
 clear QI0 QO0
 have HF:Hid (∀ q,Calls Tryz.prog 131 #[.agg #[.int .i64 T.tm,.int .i64 T.nx,.slice (some ⟨g,0,none⟩) ps.length cap,v3],.string r.nm] (W q) fun e w'=>e=.returned (.int .i64 (k:Int))∧Below (W q).heap.size (W q) w'):=fun q=>HF0.out _ (HX.out _ (QO.out q)).1
 have y0:=fun q=>(zAA (HX.out _ (QO.out q)).1.hx 0 (x:=.int .i64 T.tm) rfl).1
 have y1:=fun q=>(zAA (HX.out _ (QO.out q)).1.hx 1 (x:=.int .i64 T.nx) rfl).1
 have y2:=fun q=>(zAA (HX.out _ (QO.out q)).1.hx 2 (x:=.slice (some ⟨g,0,none⟩) ps.length cap) rfl).1
 have y3:=fun q=>(zAA (HX.out _ (QO.out q)).1.hx 3 (x:=v3) rfl).1
 have z4:=fun q=>(zAA (HX.out _ (QO.out q)).2.1 4 (x:=.string r.nm) rfl).1
 refine Qc.zAF (W:=W) (by kernel_rfl) (by kernel_rfl) (QI.out _ Qc.zAI) ?_
 repeat (go_big_quiet_step (first | (go_at_call 131;refine (HF.out _).mono ?_;rintro e w2 ⟨rfl,b2⟩;exact ⟨rfl,Qc.back QI.out QO.out b2⟩)))
 refine wpQuiet_nil ?_
 rintro _ ⟨xq,rfl⟩
 have G3:Hid (Below w2.heap.size w2 (W xq)):=QO.out xq
 clear y0 y1 y2 y3 z4 HF HF0 QO QI
 generalize W xq=w3 at G3 ⊢
 obtain ⟨t3,q3,_,_⟩:=HX.out _ G3.out
 have x2:=(zAA t3.hx 2 (x:=.slice (some ⟨g,0,none⟩) ps.length cap) rfl).1
 have c0:=(zAA q3 0 (x:=.int .i64 r.cl) rfl).1
 have HM3:Hid (∀ j u,(clL p)[j]?=some u→w3.cell? ⟨g,k * 5+j,none⟩=some u):=fun j u hj=>by
  obtain ⟨g',cap',e,_,_,_,hc⟩:=t3.row HP.out.1
  cases e
  exact (hc j u hj).1
 have HRW:Hid (RowW w3 (uV p) p.1.ws):=(t3.ow p (List.mem_of_getElem? HP.out.1)).row
 have HWL:Hid (p.1.ws.length≤4∧p.1.ws.length≤1000):=by
  have hh:=(HTK.out.2.2.2.1 k y HP.out.2.2.1).2.2.2
  have h5:y.ws.length≤4:=by
   rcases hh with hh | hh
   ·have:=hh.2.2;omega
   ·exact hh.2.2.2.1
  rw [HP.out.2.1]
  exact ⟨h5,by omega⟩
 clear t3 q3
 go_upto_region 11 with fail
 clear x2
 have m0:w3.cell? ⟨g,k * 5,none⟩=some (.string p.1.n):=HM3.out 0 (.string p.1.n) rfl
 have m1:=HM3.out 1 (.int .i64 p.1.t) rfl
 have m2:=HM3.out 2 (.int .i64 p.1.h) rfl
 have m3:=HM3.out 3 (.int .i64 p.1.e) rfl
 have m4:=HM3.out 4 (.slice p.2.1 p.1.ws.length p.2.2) rfl
 clear HM3
 by_cases hA:p.1.h=r.cl
 ·have HAC:Hid (acN T.nx r y=T.nx∧acL T.tm T.nx r y=y∧acK r y=8):=by
   rw [HP.out.2.1] at hA
   have hor:y.h=r.cl ∨ wtB y.ws r.cl=true:=.inl hA
   unfold acN acL acK
   rw [HKD.out]
   simp only [if_true,hor]
   exact ⟨trivial,trivial,trivial⟩
  have hA':(p.1.h == r.cl)=true:=by simpa using hA
  clear hA
  obtain ⟨X,hX,W,QI0,QO0⟩:=Qc.zAZ w3
  have QI:Hid (∀ w',Below w3.heap.size w3 w'→∃ x,w'=W x):=QI0
  have QO:Hid (∀ x,Below w3.heap.size w3 (W x)):=QO0
  clear QI0 QO0
  have y0:=Qc.zAB QO.out m0
  have y1:=Qc.zAB QO.out m1
  have y2:=Qc.zAB QO.out m2
  have y3:=Qc.zAB QO.out m3
  have y4:=Qc.zAB QO.out m4
  have z0:=Qc.zAB QO.out c0
  refine Qc.zAF (W:=W) (by kernel_rfl) (by kernel_rfl) (QI.out _ Qc.zAI) ?_
  repeat (go_big_quiet_step (fail))
  refine wpQuiet_nil ?_
  rintro _ ⟨xq,rfl⟩
  have G4:Hid (Below w2.heap.size w2 (W xq)):=G3.out.trans ((QO.out xq).mono G3.out.size)
  clear y0 y1 y2 y3 y4 z0 QO QI m0 m1 m2 m3 m4 c0 G3
  generalize W xq=w4 at G4 ⊢
  obtain ⟨t4,q4,z4,_⟩:=HX.out _ G4.out
  have HM:Hid (∀ j u,(clL p)[j]?=some u→w4.cell? ⟨g,k * 5+j,none⟩=some u):=fun j u hj=>by
   obtain ⟨g',cap',e,_,_,_,hc⟩:=t4.row HP.out.1
   cases e
   exact (hc j u hj).1
  have m0:w4.cell? ⟨g,k * 5,none⟩=some (.string p.1.n):=HM.out 0 (.string p.1.n) rfl
  have m1:=HM.out 1 (.int .i64 p.1.t) rfl
  have m2:=HM.out 2 (.int .i64 p.1.h) rfl
  have m3:=HM.out 3 (.int .i64 p.1.e) rfl
  have m4:=HM.out 4 (.slice p.2.1 p.1.ws.length p.2.2) rfl
  clear t4 q4 z4 HM
  have HTL:Hid (∀ W,Calls Tryz.prog 132 #[.int .i64 8,.agg #[.string p.1.n,.int .i64 p.1.t,.int .i64 p.1.h,.int .i64 p.1.e,.slice p.2.1 p.1.ws.length p.2.2]] W fun e w'=>e=.returned (.agg #[.int .i64 8,.int .i64 p.1.t,.int .i64 p.1.h,.int .i64 p.1.e])∧Below W.heap.size W w'):=fun W=>zAT 8 p.1 (uV p) W
  go_wp2_with fail
  refine (HTL.out _).mono ?_
  rintro e w5 ⟨rfl,b5⟩
  have G5:Hid (Below w2.heap.size w2 w5):=G4.out.trans (b5.mono G4.out.size)
  clear b5 m0 m1 m2 m3 m4
  have AX:Hid (w5.heap[w.heap.size+1]?=some (.cells #[.int .i64 0,.int .i64 0,.int .i64 0,.int .i64 0] 38 (0,0))):=(HX.out _ G5.out).2.2.1
  have RF:=zAg AX.out (HX.out _ G5.out).1 (HX.out _ G5.out).2.2.2 (by omega) (Nat.le_succ_of_le hsB.out) (.int .i64 8) (.int .i64 p.1.t) (.int .i64 p.1.h) (.int .i64 p.1.e)
  obtain ⟨n0,f0⟩:=zAA AX.out 0 (x:=.int .i64 0) rfl
  obtain ⟨n1,f1⟩:=zAA AX.out 1 (x:=.int .i64 0) rfl
  obtain ⟨n2,f2⟩:=zAA AX.out 2 (x:=.int .i64 0) rfl
  obtain ⟨n3,f3⟩:=zAA AX.out 3 (x:=.int .i64 0) rfl
  have RFH:Hid _:=RF
  clear RF
  go_wp2_with fail
  generalize ((((w5.setCell ⟨w.heap.size+1,0,none⟩ (.int .i64 8)).setCell ⟨w.heap.size+1,1,none⟩ (.int .i64 p.1.t)).setCell ⟨w.heap.size+1,2,none⟩ (.int .i64 p.1.h)).setCell ⟨w.heap.size+1,3,none⟩ (.int .i64 p.1.e))=wf at RFH ⊢
  have d0:=(zAA RFH.out.1 0 (x:=.int .i64 8) rfl).1
  have d1:=(zAA RFH.out.1 1 (x:=.int .i64 p.1.t) rfl).1
  have d2:=(zAA RFH.out.1 2 (x:=.int .i64 p.1.h) rfl).1
  have d3:=(zAA RFH.out.1 3 (x:=.int .i64 p.1.e) rfl).1
  refine bodyPost_ret (v:=.agg #[.int .i64 8,.int .i64 p.1.t,.int .i64 p.1.h,.int .i64 p.1.e]) (by simp [results,Tryz.results130,go_sem,d0,d1,d2,d3]) rfl ?_
  refine ⟨?_,⟨.slice (some ⟨g,0,none⟩) ps.length cap,v3,ps,?_⟩,RFH.out.2.2⟩
  ·rw [HDO.out,HAC.out.1,HAC.out.2.1,HAC.out.2.2,← HP.out.2.1];rfl
  ·rw [HDO.out,HAC.out.1,HAC.out.2.1,zAU HP.out.2.2.1];exact RFH.out.2.1
 ·have hA':(p.1.h == r.cl)=false:=by simpa using hA
  have HNA:Hid (¬ y.h=r.cl):=by rw [← HP.out.2.1];exact hA
  clear hA
  obtain ⟨ix,HIX⟩ : ∃ ix,Hid (wIx p.1.ws r.cl=ix):=⟨_,rfl⟩
  cases hB:wtB p.1.ws r.cl with
  | true =>
    have hix:(0:Int)≤ix:=by rw [← HIX.out];unfold wIx;rw [if_pos hB];omega
    have HAC:Hid (acN T.nx r y=T.nx∧acL T.tm T.nx r y=y∧acK r y=8):=by
     have hor:y.h=r.cl ∨ wtB y.ws r.cl=true:=.inr (by rw [← HP.out.2.1];exact hB)
     unfold acN acL acK
     rw [HKD.out]
     simp only [if_true,hor]
     exact ⟨trivial,trivial,trivial⟩
    clear hB
    obtain ⟨X,hX,W,QI0,QO0⟩:=Qc.zAZ w3
    have QI:Hid (∀ w',Below w3.heap.size w3 w'→∃ x,w'=W x):=QI0
    have QO:Hid (∀ x,Below w3.heap.size w3 (W x)):=QO0
    clear QI0 QO0
    have y0:=Qc.zAB QO.out m0
    have y1:=Qc.zAB QO.out m1
    have y2:=Qc.zAB QO.out m2
    have y3:=Qc.zAB QO.out m3
    have y4:=Qc.zAB QO.out m4
    have z0:=Qc.zAB QO.out c0
    have HW:Hid (∀ q,Calls Tryz.prog 133 #[.agg #[.string p.1.n,.int .i64 p.1.t,.int .i64 p.1.h,.int .i64 p.1.e,.slice p.2.1 p.1.ws.length p.2.2],.int .i64 r.cl] (W q) fun e w'=>e=.returned (.int .i64 ix)∧Below (W q).heap.size (W q) w'):=fun q=>by
     rw [← HIX.out]
     exact zAo p.1 (uV p) r.cl (W q) (RowW.below HRW.out (QO.out q)) HWL.out.2
    refine Qc.zAF (W:=W) (by kernel_rfl) (by kernel_rfl) (QI.out _ Qc.zAI) ?_
    repeat (go_big_quiet_step (first | (go_at_call 133;refine (HW.out _).mono ?_;rintro e w2 ⟨rfl,b2⟩;exact ⟨rfl,Qc.back QI.out QO.out b2⟩)))
    refine wpQuiet_nil ?_
    rintro _ ⟨xq,rfl⟩
    have G4:Hid (Below w2.heap.size w2 (W xq)):=G3.out.trans ((QO.out xq).mono G3.out.size)
    clear y0 y1 y2 y3 y4 z0 QO QI HW m0 m1 m2 m3 m4 c0 G3
    generalize W xq=w4 at G4 ⊢
    obtain ⟨t4,q4,z4,_⟩:=HX.out _ G4.out
    have HM:Hid (∀ j u,(clL p)[j]?=some u→w4.cell? ⟨g,k * 5+j,none⟩=some u):=fun j u hj=>by
     obtain ⟨g',cap',e,_,_,_,hc⟩:=t4.row HP.out.1
     cases e
     exact (hc j u hj).1
    have m0:w4.cell? ⟨g,k * 5,none⟩=some (.string p.1.n):=HM.out 0 (.string p.1.n) rfl
    have m1:=HM.out 1 (.int .i64 p.1.t) rfl
    have m2:=HM.out 2 (.int .i64 p.1.h) rfl
    have m3:=HM.out 3 (.int .i64 p.1.e) rfl
    have m4:=HM.out 4 (.slice p.2.1 p.1.ws.length p.2.2) rfl
    clear t4 q4 z4 HM
    have HTL:Hid (∀ W,Calls Tryz.prog 132 #[.int .i64 8,.agg #[.string p.1.n,.int .i64 p.1.t,.int .i64 p.1.h,.int .i64 p.1.e,.slice p.2.1 p.1.ws.length p.2.2]] W fun e w'=>e=.returned (.agg #[.int .i64 8,.int .i64 p.1.t,.int .i64 p.1.h,.int .i64 p.1.e])∧Below W.heap.size W w'):=fun W=>zAT 8 p.1 (uV p) W
    go_wp2_with fail
    refine (HTL.out _).mono ?_
    rintro e w5 ⟨rfl,b5⟩
    have G5:Hid (Below w2.heap.size w2 w5):=G4.out.trans (b5.mono G4.out.size)
    clear b5 m0 m1 m2 m3 m4
    have AX:Hid (w5.heap[w.heap.size+1]?=some (.cells #[.int .i64 0,.int .i64 0,.int .i64 0,.int .i64 0] 38 (0,0))):=(HX.out _ G5.out).2.2.1
    have RF:=zAg AX.out (HX.out _ G5.out).1 (HX.out _ G5.out).2.2.2 (by omega) (Nat.le_succ_of_le hsB.out) (.int .i64 8) (.int .i64 p.1.t) (.int .i64 p.1.h) (.int .i64 p.1.e)
    obtain ⟨n0,f0⟩:=zAA AX.out 0 (x:=.int .i64 0) rfl
    obtain ⟨n1,f1⟩:=zAA AX.out 1 (x:=.int .i64 0) rfl
    obtain ⟨n2,f2⟩:=zAA AX.out 2 (x:=.int .i64 0) rfl
    obtain ⟨n3,f3⟩:=zAA AX.out 3 (x:=.int .i64 0) rfl
    have RFH:Hid _:=RF
    clear RF
    go_wp2_with fail
    generalize ((((w5.setCell ⟨w.heap.size+1,0,none⟩ (.int .i64 8)).setCell ⟨w.heap.size+1,1,none⟩ (.int .i64 p.1.t)).setCell ⟨w.heap.size+1,2,none⟩ (.int .i64 p.1.h)).setCell ⟨w.heap.size+1,3,none⟩ (.int .i64 p.1.e))=wf at RFH ⊢
    have d0:=(zAA RFH.out.1 0 (x:=.int .i64 8) rfl).1
    have d1:=(zAA RFH.out.1 1 (x:=.int .i64 p.1.t) rfl).1
    have d2:=(zAA RFH.out.1 2 (x:=.int .i64 p.1.h) rfl).1
    have d3:=(zAA RFH.out.1 3 (x:=.int .i64 p.1.e) rfl).1
    refine bodyPost_ret (v:=.agg #[.int .i64 8,.int .i64 p.1.t,.int .i64 p.1.h,.int .i64 p.1.e]) (by simp [results,Tryz.results130,go_sem,d0,d1,d2,d3]) rfl ?_
    refine ⟨?_,⟨.slice (some ⟨g,0,none⟩) ps.length cap,v3,ps,?_⟩,RFH.out.2.2⟩
    ·rw [HDO.out,HAC.out.1,HAC.out.2.1,HAC.out.2.2,← HP.out.2.1];rfl
    ·rw [HDO.out,HAC.out.1,HAC.out.2.1,zAU HP.out.2.2.1];exact RFH.out.2.1
  | false =>
    have hix:¬ (0:Int)≤ix:=by rw [← HIX.out];unfold wIx;rw [if_neg (by rw [hB];decide)];decide
    have HNO:Hid (¬ (y.h=r.cl ∨ wtB y.ws r.cl=true)):=fun h=>by
     rcases h with h | h
     ·exact HNA.out h
     ·rw [← HP.out.2.1,hB] at h;cases h
    clear hB
    by_cases hC:p.1.h<0
    ·have hy1:y.h = -1:=by
      have hh:=(HTK.out.2.2.2.1 k y HP.out.2.2.1).2.2.2
      rcases hh with hh | hh
      ·exact hh.1
      ·have:=(zAQ hh.2.1).1;rw [HP.out.2.1] at hC;omega
     have HAC:Hid (acN T.nx r y=T.nx+1∧acL T.tm T.nx r y=grL T.tm T.nx y r.cl r.le∧acK r y=1):=by
      unfold acN acL acK
      rw [HKD.out]
      refine ⟨?_,?_,?_⟩
      ·rw [if_pos rfl,if_neg HNO.out,if_pos hy1]
      ·rw [if_pos rfl,if_neg HNO.out,if_pos hy1]
      ·rw [if_pos rfl,if_neg HNO.out,if_pos hy1]
     clear hy1
     obtain ⟨X,hX,W,QI0,QO0⟩:=Qc.zAZ w3
     have QI:Hid (∀ w',Below w3.heap.size w3 w'→∃ x,w'=W x):=QI0
     have QO:Hid (∀ x,Below w3.heap.size w3 (W x)):=QO0
     clear QI0 QO0
     have y0:=Qc.zAB QO.out m0
     have y1:=Qc.zAB QO.out m1
     have y2:=Qc.zAB QO.out m2
     have y3:=Qc.zAB QO.out m3
     have y4:=Qc.zAB QO.out m4
     have z0:=Qc.zAB QO.out c0
     have HW:Hid (∀ q,Calls Tryz.prog 133 #[.agg #[.string p.1.n,.int .i64 p.1.t,.int .i64 p.1.h,.int .i64 p.1.e,.slice p.2.1 p.1.ws.length p.2.2],.int .i64 r.cl] (W q) fun e w'=>e=.returned (.int .i64 ix)∧Below (W q).heap.size (W q) w'):=fun q=>by
      rw [← HIX.out]
      exact zAo p.1 (uV p) r.cl (W q) (RowW.below HRW.out (QO.out q)) HWL.out.2
     refine Qc.zAF (W:=W) (by kernel_rfl) (by kernel_rfl) (QI.out _ Qc.zAI) ?_
     repeat (go_big_quiet_step (first | (go_at_call 133;refine (HW.out _).mono ?_;rintro e w2 ⟨rfl,b2⟩;exact ⟨rfl,Qc.back QI.out QO.out b2⟩)))
     refine wpQuiet_nil ?_
     rintro _ ⟨xq,rfl⟩
     have G4:Hid (Below w2.heap.size w2 (W xq)):=G3.out.trans ((QO.out xq).mono G3.out.size)
     clear y0 y1 y2 y3 y4 z0 QO QI HW m0 m1 m2 m3 m4 c0 G3
     generalize W xq=w4 at G4 ⊢
     obtain ⟨t4,q4,z4,ot4⟩:=HX.out _ G4.out
     have m2:w4.cell? ⟨g,k * 5+2,none⟩=some (.int .i64 p.1.h):=by
      obtain ⟨g',cap',e,_,_,_,hc⟩:=t4.row HP.out.1
      cases e
      exact (hc 2 _ rfl).1
     have c0:=(zAA q4 0 (x:=.int .i64 r.cl) rfl).1
     have c3:=(zAA q4 3 (x:=.int .i64 r.le) rfl).1
     have HG:=zBJ t4 HP.out.1 r.cl r.le htm.1 htm.2 hnx.1 hn hle.1 hle.2
     have Z4:Hid (w4.heap[w.heap.size+1]?=some (.cells #[.int .i64 0,.int .i64 0,.int .i64 0,.int .i64 0] 38 (0,0))∧Oth w w4):=⟨z4,ot4⟩
     clear t4 q4 z4 ot4
     go_wp2_with fail
     refine HG.mono ?_
     rintro e w5 ⟨rfl,t5,o5⟩
     have T5:Hid (TM w0 w5 B x { T with nx:=T.nx+1,ls:=T.ls.set k (grL T.tm T.nx p.1 r.cl r.le) } (.slice (some ⟨g,0,none⟩) ps.length cap) v3 (ps.set k ((grL T.tm T.nx p.1 r.cl r.le),p.2))∧w5.heap[w.heap.size+1]?=some (.cells #[.int .i64 0,.int .i64 0,.int .i64 0,.int .i64 0] 38 (0,0))∧Oth w w5):=⟨t5,o5 _ _ _ Z4.out.1 (by decide) (by decide) (by decide) (by decide),Z4.out.2.trans o5⟩
     clear t5 o5 HG m2 c0 c3
     have HM5:Hid (∀ j u,(clL ((grL T.tm T.nx p.1 r.cl r.le),p.2))[j]?=some u→w5.cell? ⟨g,k * 5+j,none⟩=some u):=fun j u hj=>by
      obtain ⟨g',cap',e,_,_,_,hc⟩:=T5.out.1.row (zBL HP.out.1)
      rw [List.length_set] at e
      cases e
      exact (hc j u hj).1
     have m0:w5.cell? ⟨g,k * 5,none⟩=some (.string p.1.n):=HM5.out 0 _ rfl
     have m1:=HM5.out 1 (.int .i64 T.nx) rfl
     have m2:=HM5.out 2 (.int .i64 r.cl) rfl
     have m3:=HM5.out 3 (.int .i64 (T.tm+r.le)) rfl
     have m4:=HM5.out 4 (.slice p.2.1 p.1.ws.length p.2.2) rfl
     have x2:=(zAA T5.out.1.hx 2 (x:=.slice (some ⟨g,0,none⟩) ps.length cap) rfl).1
     have HTL:Hid (∀ W,Calls Tryz.prog 132 #[.int .i64 1,.agg #[.string p.1.n,.int .i64 T.nx,.int .i64 r.cl,.int .i64 (T.tm+r.le),.slice p.2.1 p.1.ws.length p.2.2]] W fun e w'=>e=.returned (.agg #[.int .i64 1,.int .i64 T.nx,.int .i64 r.cl,.int .i64 (T.tm+r.le)])∧Below W.heap.size W w'):=fun W=>zAT 1 (grL T.tm T.nx p.1 r.cl r.le) (uV p) W
     clear HM5
     go_wp2_with fail
     refine (HTL.out _).mono ?_
     rintro e w6 ⟨rfl,b6⟩
     have T6:Hid (TM w0 w6 B x { T with nx:=T.nx+1,ls:=T.ls.set k (grL T.tm T.nx p.1 r.cl r.le) } (.slice (some ⟨g,0,none⟩) ps.length cap) v3 (ps.set k ((grL T.tm T.nx p.1 r.cl r.le),p.2))∧w6.heap[w.heap.size+1]?=some (.cells #[.int .i64 0,.int .i64 0,.int .i64 0,.int .i64 0] 38 (0,0))∧Oth w w6):=⟨T5.out.1.up b6,(b6.block _ (Array.getElem?_eq_some_iff.1 T5.out.2.1).1).trans T5.out.2.1,T5.out.2.2.trans (Oth.of_below b6)⟩
     clear b6 m0 m1 m2 m3 m4 x2 T5
     have RFH:Hid _:=zAg T6.out.2.1 T6.out.1 T6.out.2.2 (by omega) (Nat.le_succ_of_le hsB.out) (.int .i64 1) (.int .i64 T.nx) (.int .i64 r.cl) (.int .i64 (T.tm+r.le))
     obtain ⟨n0,f0⟩:=zAA T6.out.2.1 0 (x:=.int .i64 0) rfl
     obtain ⟨n1,f1⟩:=zAA T6.out.2.1 1 (x:=.int .i64 0) rfl
     obtain ⟨n2,f2⟩:=zAA T6.out.2.1 2 (x:=.int .i64 0) rfl
     obtain ⟨n3,f3⟩:=zAA T6.out.2.1 3 (x:=.int .i64 0) rfl
     clear T6
     go_wp2_with fail
     generalize ((((w6.setCell ⟨w.heap.size+1,0,none⟩ (.int .i64 1)).setCell ⟨w.heap.size+1,1,none⟩ (.int .i64 T.nx)).setCell ⟨w.heap.size+1,2,none⟩ (.int .i64 r.cl)).setCell ⟨w.heap.size+1,3,none⟩ (.int .i64 (T.tm+r.le)))=wf at RFH ⊢
     have d0:=(zAA RFH.out.1 0 (x:=.int .i64 1) rfl).1
     have d1:=(zAA RFH.out.1 1 (x:=.int .i64 T.nx) rfl).1
     have d2:=(zAA RFH.out.1 2 (x:=.int .i64 r.cl) rfl).1
     have d3:=(zAA RFH.out.1 3 (x:=.int .i64 (T.tm+r.le)) rfl).1
     refine bodyPost_ret (v:=.agg #[.int .i64 1,.int .i64 T.nx,.int .i64 r.cl,.int .i64 (T.tm+r.le)]) (by simp [results,Tryz.results130,go_sem,d0,d1,d2,d3]) rfl ?_
     refine ⟨?_,⟨.slice (some ⟨g,0,none⟩) ps.length cap,v3,ps.set k ((grL T.tm T.nx p.1 r.cl r.le),p.2),?_⟩,RFH.out.2.2⟩
     ·rw [HDO.out,HAC.out.1,HAC.out.2.1,HAC.out.2.2];rfl
     ·rw [HDO.out,HAC.out.1,HAC.out.2.1];rw [← HP.out.2.1];exact RFH.out.2.1
    ·have hyn:¬ y.h = -1:=by rw [← HP.out.2.1];omega
     by_cases hD:4≤p.1.ws.length
     ·have HAC:Hid (acN T.nx r y=T.nx∧acL T.tm T.nx r y=y∧acK r y=6):=by
       rw [HP.out.2.1] at hD
       unfold acN acL acK
       rw [HKD.out]
       simp only [if_true,HNO.out,hyn,hD,if_false]
       exact ⟨trivial,trivial,trivial⟩
      have hD4:((p.1.ws.length:Int) == 4)=true:=by have:=HWL.out.1;simp;omega
      clear hyn hD
      obtain ⟨X,hX,W,QI0,QO0⟩:=Qc.zAZ w3
      have QI:Hid (∀ w',Below w3.heap.size w3 w'→∃ x,w'=W x):=QI0
      have QO:Hid (∀ x,Below w3.heap.size w3 (W x)):=QO0
      clear QI0 QO0
      have y0:=Qc.zAB QO.out m0
      have y1:=Qc.zAB QO.out m1
      have y2:=Qc.zAB QO.out m2
      have y3:=Qc.zAB QO.out m3
      have y4:=Qc.zAB QO.out m4
      have z0:=Qc.zAB QO.out c0
      have HW:Hid (∀ q,Calls Tryz.prog 133 #[.agg #[.string p.1.n,.int .i64 p.1.t,.int .i64 p.1.h,.int .i64 p.1.e,.slice p.2.1 p.1.ws.length p.2.2],.int .i64 r.cl] (W q) fun e w'=>e=.returned (.int .i64 ix)∧Below (W q).heap.size (W q) w'):=fun q=>by
       rw [← HIX.out]
       exact zAo p.1 (uV p) r.cl (W q) (RowW.below HRW.out (QO.out q)) HWL.out.2
      refine Qc.zAF (W:=W) (by kernel_rfl) (by kernel_rfl) (QI.out _ Qc.zAI) ?_
      repeat (go_big_quiet_step (first | (go_at_call 133;refine (HW.out _).mono ?_;rintro e w2 ⟨rfl,b2⟩;exact ⟨rfl,Qc.back QI.out QO.out b2⟩)))
      refine wpQuiet_nil ?_
      rintro _ ⟨xq,rfl⟩
      have G4:Hid (Below w2.heap.size w2 (W xq)):=G3.out.trans ((QO.out xq).mono G3.out.size)
      clear y0 y1 y2 y3 y4 z0 QO QI HW m0 m1 m2 m3 m4 c0 G3
      generalize W xq=w4 at G4 ⊢
      obtain ⟨t4,q4,z4,_⟩:=HX.out _ G4.out
      have HM:Hid (∀ j u,(clL p)[j]?=some u→w4.cell? ⟨g,k * 5+j,none⟩=some u):=fun j u hj=>by
       obtain ⟨g',cap',e,_,_,_,hc⟩:=t4.row HP.out.1
       cases e
       exact (hc j u hj).1
      have m0:w4.cell? ⟨g,k * 5,none⟩=some (.string p.1.n):=HM.out 0 (.string p.1.n) rfl
      have m1:=HM.out 1 (.int .i64 p.1.t) rfl
      have m2:=HM.out 2 (.int .i64 p.1.h) rfl
      have m3:=HM.out 3 (.int .i64 p.1.e) rfl
      have m4:=HM.out 4 (.slice p.2.1 p.1.ws.length p.2.2) rfl
      clear t4 q4 z4 HM
      have HTL:Hid (∀ W,Calls Tryz.prog 132 #[.int .i64 6,.agg #[.string p.1.n,.int .i64 p.1.t,.int .i64 p.1.h,.int .i64 p.1.e,.slice p.2.1 p.1.ws.length p.2.2]] W fun e w'=>e=.returned (.agg #[.int .i64 6,.int .i64 p.1.t,.int .i64 p.1.h,.int .i64 p.1.e])∧Below W.heap.size W w'):=fun W=>zAT 6 p.1 (uV p) W
      go_wp2_with fail
      refine (HTL.out _).mono ?_
      rintro e w5 ⟨rfl,b5⟩
      have G5:Hid (Below w2.heap.size w2 w5):=G4.out.trans (b5.mono G4.out.size)
      clear b5 m0 m1 m2 m3 m4
      have AX:Hid (w5.heap[w.heap.size+1]?=some (.cells #[.int .i64 0,.int .i64 0,.int .i64 0,.int .i64 0] 38 (0,0))):=(HX.out _ G5.out).2.2.1
      have RF:=zAg AX.out (HX.out _ G5.out).1 (HX.out _ G5.out).2.2.2 (by omega) (Nat.le_succ_of_le hsB.out) (.int .i64 6) (.int .i64 p.1.t) (.int .i64 p.1.h) (.int .i64 p.1.e)
      obtain ⟨n0,f0⟩:=zAA AX.out 0 (x:=.int .i64 0) rfl
      obtain ⟨n1,f1⟩:=zAA AX.out 1 (x:=.int .i64 0) rfl
      obtain ⟨n2,f2⟩:=zAA AX.out 2 (x:=.int .i64 0) rfl
      obtain ⟨n3,f3⟩:=zAA AX.out 3 (x:=.int .i64 0) rfl
      have RFH:Hid _:=RF
      clear RF
      go_wp2_with fail
      generalize ((((w5.setCell ⟨w.heap.size+1,0,none⟩ (.int .i64 6)).setCell ⟨w.heap.size+1,1,none⟩ (.int .i64 p.1.t)).setCell ⟨w.heap.size+1,2,none⟩ (.int .i64 p.1.h)).setCell ⟨w.heap.size+1,3,none⟩ (.int .i64 p.1.e))=wf at RFH ⊢
      have d0:=(zAA RFH.out.1 0 (x:=.int .i64 6) rfl).1
      have d1:=(zAA RFH.out.1 1 (x:=.int .i64 p.1.t) rfl).1
      have d2:=(zAA RFH.out.1 2 (x:=.int .i64 p.1.h) rfl).1
      have d3:=(zAA RFH.out.1 3 (x:=.int .i64 p.1.e) rfl).1
      refine bodyPost_ret (v:=.agg #[.int .i64 6,.int .i64 p.1.t,.int .i64 p.1.h,.int .i64 p.1.e]) (by simp [results,Tryz.results130,go_sem,d0,d1,d2,d3]) rfl ?_
      refine ⟨?_,⟨.slice (some ⟨g,0,none⟩) ps.length cap,v3,ps,?_⟩,RFH.out.2.2⟩
      ·rw [HDO.out,HAC.out.1,HAC.out.2.1,HAC.out.2.2,← HP.out.2.1];rfl
      ·rw [HDO.out,HAC.out.1,HAC.out.2.1,zAU HP.out.2.2.1];exact RFH.out.2.1
     ·exfalso
      rcases hq with hq | hq | hq | hq
      ·exact HNO.out (.inl hq)
      ·exact HNO.out (.inr hq)
      ·exact hyn hq
      ·rw [HP.out.2.1] at hD;exact hD hq
end Go.Proofs.YticokpbelgpfmaaGreat.Ea
