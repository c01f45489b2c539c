/-
 impl.ApplyRequest answers at every table,time and request just what the specification's ApplyRequest answers;it leaves the table as it was,keeps nothing of it,and its answer owns its memory.
 Conditions: none beyond the given row's own.
-/
import Derived.Test.YticokpbelgpfmaaGreatMaA0
import Derived.Test.YticokpbelgpfmaaGreatMa29
import Derived.Test.YticokpbelgpfmaaGreatMa30
import Derived.Test.YticokpbelgpfmaaGreatMa31
import Derived.ShutString
import Derived.ChangeOld
namespace Go.Proofs.YticokpbelgpfmaaGreat.fnExactApplyRequest
open Go.ChangeShapes Go.WideShapes Go.ChangeAt Go.RowKit
open Go.ChangeMaps (open_string shut_string)
theorem own:ownKnob Tryz.prog.godebug=none:=by kernel_rfl
theorem laidOut:laidOutB Tryz.prog=true:=by kernel_rfl
open Ap Tb Tw Rq Tp Tq Da Jj Jk Jl Jm Jr Jt Jz Jza
open Mw (toTableW_any TabW TabW.below Mid Mid.block Mid.below Mid.size)
open Jn (off off_le HeldT HeldT.below TabK MemO MemO.kept heldTable_any)
open Lo (LkA uV zAP)
open Tx (zAA zAC zAE zAJ zAD)
open Jc (bel2)
open Lo (OwnL.mono)
open Wa (OwnS.mono)
open Jb (OwnO.mono)
open Rgn (zBG Holds put_eq not_dst zBE pick stay_pick Stay AllStay eqv zAb box zBW box_new cutL Steps.cons Steps.nil QSteps.cons QSteps.nil)
theorem tb4 {W:World} {b:Nat} {z0 z1 z2 z3:Value} (h:W.heap[b]?=some (.cells #[z0,z1,z2,z3] 30 (0,0))):W.cell? ⟨b,0,none⟩=some z0∧W.cell? ⟨b,1,none⟩=some z1∧W.cell? ⟨b,2,none⟩=some z2∧W.cell? ⟨b,3,none⟩=some z3:=⟨(zAA h 0 rfl).1,(zAA h 1 rfl).1,(zAA h 2 rfl).1,(zAA h 3 rfl).1⟩
theorem zBY {w:World} {B:Nat} {vl vs:Value} {T:Tab} {ps:List LkA} (h:TabO w B vl vs T ps):TabR w vl vs T:=⟨by rw [← h.eq];exact h.ol.row fun q hq=>(h.ow q hq).row,h.os.row⟩
theorem tabO_below {w w':World} {B:Nat} {vl vs:Value} {T:Tab} {ps:List LkA} (h:TabO w B vl vs T ps) (hb:Below w.heap.size w w'):TabO w' B vl vs T ps:=tabO_kept h fun g _ hg=>hb.block g hg
theorem off_small {ms:List LkA} (hw:∀ m ∈ ms,m.1.ws.length≤1000) (hn:ms.length≤100):off ms 1 ms.length≤1000000:=by
 have:=(off_le (a:=1) hw ms.length (Nat.le_refl _)).2
 omega
theorem ap_small {T:Tab} {now:Int} {r:Da.Ask}:(apX T now r).ls.length≤100∧(apX T now r).ss.length≤100∧∀ x ∈ (apX T now r).ls,x.ws.length≤1000:=by
 by_cases h0:apC T now r=0
 ·have e:apX T now r=(apT T now r).1:=by unfold apX;rw [if_pos h0]
  by_cases hq:reqB r.cl r.st r.kd r.le r.nm=true
  ·have hs:sfC T now=0:=by unfold apC at h0;rw [if_pos hq] at h0;exact h0
   obtain ⟨hT,hn,hx⟩:=sf_0 hs
   obtain ⟨q1,q2⟩:=ask_of hq
   obtain ⟨_,h2,h3,h4⟩:=tok_bk (apT_ok hT hn.1 hn.2 q1 q2 (by omega)).1
   rw [e]
   exact ⟨by omega,by omega,fun x hx=>(h2 x hx).2⟩
  ·unfold apC at h0
   rw [if_neg hq] at h0
   exact absurd h0 (by decide)
 ·by_cases h13:apC T now r=13
  ·have e:apX T now r=T:=by unfold apX;rw [if_neg h0,if_pos h13]
   have hs:sfC T now=13:=by
    unfold apC at h13
    split at h13
    ·exact h13
    ·exact absurd h13 (by decide)
   obtain ⟨_,h2,h3,h4⟩:=tok_bk (sf_13 hs)
   rw [e]
   exact ⟨by omega,by omega,fun x hx=>(h2 x hx).2⟩
  ·have e:apX T now r=t00:=by unfold apX;rw [if_neg h0,if_neg h13]
   rw [e]
   exact ⟨by decide,by decide,fun x hx=>by cases hx⟩
theorem owns_ty {w:World} {B e size n:Nat} {v:Value} {xs:List Value} (h:w.ownsRow B e size v n xs) {g:Nat} (hg:v.ownBlock=some g):∃ cur,w.heap[g]?=some (.cells cur e (0,0)):=by
 obtain ⟨_,⟨rfl,_⟩ | ⟨g',cap,cur,rfl,_,h2,_⟩⟩:=h
 ·cases hg
 ·simp only [Value.ownBlock,Option.some.injEq] at hg
  subst hg
  exact ⟨cur,h2⟩
theorem ty_ne {w:World} {g p:Nat} {c1 c2:Array Value} {t1 t2:TypeId} (h1:w.heap[g]?=some (.cells c1 t1 (0,0))) (h2:w.heap[p]?=some (.cells c2 t2 (0,0))) (ht:t1 ≠ t2):g ≠ p:=by
 rintro rfl
 rw [h1] at h2
 cases h2
 exact ht rfl
theorem tabE_box {w w':World} {B p q:Nat} {c1 c2:Array Value} {vl vs:Value} {T:Tab} {ps:List LkA} (h:TabE w B vl vs T ps) (hp:w.heap[p]?=some (.cells c1 30 (0,0))) (hq:w.heap[q]?=some (.cells c2 38 (0,0))) (hk:∀ k,k ≠ p→k ≠ q→w'.heap[k]?=w.heap[k]?):TabE w' B vl vs T ps :=
 have far:∀ {g e:Nat} {cur:Array Value},w.heap[g]?=some (.cells cur e (0,0))→e ≠ 30→e ≠ 38→w'.heap[g]?=w.heap[g]?:=fun hc h1 h2=>hk _ (ty_ne hc hp h1) (ty_ne hc hq h2)
 ⟨h.ol.kept fun g hg=>by obtain ⟨c,hc⟩:=owns_ty h.ol hg;exact far hc (by decide) (by decide),h.os.kept fun g hg=>by obtain ⟨c,hc⟩:=owns_ty h.os hg;exact far hc (by decide) (by decide),fun x hx=>(h.ow x hx).kept fun g hg=>by obtain ⟨c,hc⟩:=owns_ty (h.ow x hx) hg;exact far hc (by decide) (by decide),h.eq⟩
theorem tabO_box {w w':World} {B p q:Nat} {c1 c2:Array Value} {vl vs:Value} {T:Tab} {ps:List LkA} (h:TabO w B vl vs T ps) (hp:w.heap[p]?=some (.cells c1 30 (0,0))) (hq:w.heap[q]?=some (.cells c2 38 (0,0))) (hk:∀ k,k ≠ p→k ≠ q→w'.heap[k]?=w.heap[k]?):TabO w' B vl vs T ps :=
 have far:∀ {g e:Nat} {cur:Array Value},w.heap[g]?=some (.cells cur e (0,0))→e ≠ 30→e ≠ 38→w'.heap[g]?=w.heap[g]?:=fun hc h1 h2=>hk _ (ty_ne hc hp h1) (ty_ne hc hq h2)
 ⟨h.ol.kept fun g hg=>by obtain ⟨c,hc⟩:=owns_ty h.ol hg;exact far hc (by decide) (by decide),h.os.kept fun g hg=>by obtain ⟨c,hc⟩:=owns_ty h.os hg;exact far hc (by decide) (by decide),fun x hx=>by
   rcases h.ow x hx with h0 | ⟨g,o,cap,cur,e,h1,hc,h3⟩
   ·exact .inl h0
   ·exact .inr ⟨g,o,cap,cur,e,h1,(far hc (by decide) (by decide)).trans hc,h3⟩,h.ap,h.eq⟩
theorem tabO_mono {w:World} {B B':Nat} {vl vs:Value} {T:Tab} {ps:List LkA} (h:TabO w B vl vs T ps) (hb:B'≤B):TabO w B' vl vs T ps:=⟨OwnL.mono h.ol hb,OwnS.mono h.os hb,fun q hq=>OwnO.mono (h.ow q hq) hb,h.ap,h.eq⟩
theorem stay_tabO {w w':World} {B:Nat} {vl vs:Value} {T:Tab} {ps:List LkA} (h:TabO w B vl vs T ps) (hb:Below w.heap.size w w'):TabO w' B vl vs T ps:=tabO_kept h fun g _ hg=>hb.block g hg
theorem stay_tabE {w w':World} {B:Nat} {vl vs:Value} {T:Tab} {ps:List LkA} (h:TabE w B vl vs T ps) (hb:Below w.heap.size w w'):TabE w' B vl vs T ps:=h.kept fun g _ hg=>hb.block g hg
def tabP (T:Tab) (v:Value) (w:World):Prop:=∃ ul us,v=tabV T.tm T.nx ul us∧TabR w ul us T
def resE (A:Tab) (an:Value) (code:Int) (v:Value) (w:World):Prop:=∃ ul us qs B,v=.tuple #[tabV A.tm A.nx ul us,an,.int .i64 code]∧TabE w B ul us A qs
def ownE (A:Tab) (v:Value) (w:World):Prop:=∃ ul us qs B,v=tabV A.tm A.nx ul us∧TabE w B ul us A qs
def resO (z:Nat) (A:Tab) (an:Value) (code:Int) (v:Value) (w:World):Prop:=∃ ul us qs,v=.tuple #[tabV A.tm A.nx ul us,an,.int .i64 code]∧TabO w z ul us A qs
def ownQ (z:Nat) (A:Tab) (v:Value) (w:World):Prop:=∃ ul us qs,v=tabV A.tm A.nx ul us∧TabO w z ul us A qs
theorem st_tabP (T:Tab):Stay (tabP T):=fun _ _ _ ⟨u,s,h1,h2⟩ hb=>⟨u,s,h1,h2.below hb⟩
theorem st_resE (A:Tab) (an:Value) (c:Int):Stay (resE A an c):=fun _ _ _ ⟨u,s,q,B,h1,h2⟩ hb=>⟨u,s,q,B,h1,stay_tabE h2 hb⟩
theorem st_ownE (A:Tab):Stay (ownE A):=fun _ _ _ ⟨u,s,q,B,h1,h2⟩ hb=>⟨u,s,q,B,h1,stay_tabE h2 hb⟩
theorem st_resO (z:Nat) (A:Tab) (an:Value) (c:Int):Stay (resO z A an c):=fun _ _ _ ⟨u,s,q,h1,h2⟩ hb=>⟨u,s,q,h1,stay_tabO h2 hb⟩
theorem st_ownQ (z:Nat) (A:Tab):Stay (ownQ z A):=fun _ _ _ ⟨u,s,q,h1,h2⟩ hb=>⟨u,s,q,h1,stay_tabO h2 hb⟩
theorem set4 {w:World} {b:Nat} {t:TypeId} {z0 z1 z2 z3:Value} (v0 v1 v2 v3:Value) (h:w.heap[b]?=some (.cells #[z0,z1,z2,z3] t (0,0))) :
 ((((w.setCell ⟨b,0,none⟩ v0).setCell ⟨b,1,none⟩ v1).setCell ⟨b,2,none⟩ v2).setCell ⟨b,3,none⟩ v3).heap[b]?=some (.cells #[v0,v1,v2,v3] t (0,0))∧(∀ k,k ≠ b→((((w.setCell ⟨b,0,none⟩ v0).setCell ⟨b,1,none⟩ v1).setCell ⟨b,2,none⟩ v2).setCell ⟨b,3,none⟩ v3).heap[k]?=w.heap[k]?)∧∀ {w0:World},Below w0.heap.size w0 w→w0.heap.size≤b→Below w0.heap.size w0 ((((w.setCell ⟨b,0,none⟩ v0).setCell ⟨b,1,none⟩ v1).setCell ⟨b,2,none⟩ v2).setCell ⟨b,3,none⟩ v3) :=
 ⟨zAC (zAC (zAC (zAC h 0 v0) 1 v1) 2 v2) 3 v3,fun _ hk=>(zAE hk 3 v3).trans ((zAE hk 2 v2).trans ((zAE hk 1 v1).trans (zAE hk 0 v0))),fun hb hB=>Below.setCell (Below.setCell (Below.setCell (Below.setCell hb (p:=⟨b,0,none⟩) hB v0) (p:=⟨b,1,none⟩) hB v1) (p:=⟨b,2,none⟩) hB v2) (p:=⟨b,3,none⟩) hB v3⟩
theorem an4 {W:World} {b:Nat} {z0 z1 z2 z3:Value} (h:W.heap[b]?=some (.cells #[z0,z1,z2,z3] 38 (0,0))):W.cell? ⟨b,0,none⟩=some z0∧W.cell? ⟨b,1,none⟩=some z1∧W.cell? ⟨b,2,none⟩=some z2∧W.cell? ⟨b,3,none⟩=some z3:=⟨(zAA h 0 rfl).1,(zAA h 1 rfl).1,(zAA h 2 rfl).1,(zAA h 3 rfl).1⟩
set_option maxRecDepth 100000 in
set_option maxHeartbeats 6400000 in
theorem walk0 (t:Tab) (vl vs:Value) (w:World) (hl:RowL w vl t.ls) (hs:RowS w vs t.ss) (y:t.ls.length≤maxLen) (z:t.ss.length≤maxLen) (m:∀ x ∈ t.ls,LkZ x) (now:Int) (r:Da.Ask) (hn:r.nm.size≤maxLen) :
 Calls Tryz.prog 6 #[tabV t.tm t.nx vl vs,.int .i64 now,rqA r] w fun e w'=>e=.returned (.bool true)∧Below w.heap.size w w':=by
 obtain ⟨tm,nx,ls,ss⟩:=t
 dsimp only at hl hs y z m ⊢
 have HR:Hid (RowL w vl ls∧RowS w vs ss):=⟨hl,hs⟩
 have HM:Hid (∀ x ∈ ls,LkZ x):=m
 clear hl hs m
 unfold tabV rqA
 have HBX:Hid (Below w.heap.size w ((w.alloc (.cells #[.int .i64 tm,.int .i64 nx,vl,vs] 66)).alloc (.cells #[.int .i64 r.cl,.int .i64 r.st,.int .i64 r.kd,.int .i64 r.le,.string r.nm] 67))∧((w.alloc (.cells #[.int .i64 tm,.int .i64 nx,vl,vs] 66)).alloc (.cells #[.int .i64 r.cl,.int .i64 r.st,.int .i64 r.kd,.int .i64 r.le,.string r.nm] 67)).heap[w.heap.size]?=some (.cells #[.int .i64 tm,.int .i64 nx,vl,vs] 66 (0,0))∧((w.alloc (.cells #[.int .i64 tm,.int .i64 nx,vl,vs] 66)).alloc (.cells #[.int .i64 r.cl,.int .i64 r.st,.int .i64 r.kd,.int .i64 r.le,.string r.nm] 67)).heap[w.heap.size+1]?=some (.cells #[.int .i64 r.cl,.int .i64 r.st,.int .i64 r.kd,.int .i64 r.le,.string r.nm] 67 (0,0))):=⟨bel2 _ _ _,(zAP w _ _).1,(zAP w _ _).2⟩
 go_enter Tryz.func6,Tryz.ntmps6
 go_upto_region 1 with fail
 generalize ((w.alloc (.cells #[.int .i64 tm,.int .i64 nx,vl,vs] 66)).alloc (.cells #[.int .i64 r.cl,.int .i64 r.st,.int .i64 r.kd,.int .i64 r.le,.string r.nm] 67))=wb at HBX ⊢
 have HCX:Hid (∀ W,Below wb.heap.size wb W→((W.cell? ⟨w.heap.size,0,none⟩=some (.int .i64 tm)∧W.cell? ⟨w.heap.size,1,none⟩=some (.int .i64 nx)∧W.cell? ⟨w.heap.size,2,none⟩=some (vl)∧W.cell? ⟨w.heap.size,3,none⟩=some (vs))∧(W.cell? ⟨w.heap.size+1,0,none⟩=some (.int .i64 r.cl)∧W.cell? ⟨w.heap.size+1,1,none⟩=some (.int .i64 r.st)∧W.cell? ⟨w.heap.size+1,2,none⟩=some (.int .i64 r.kd)∧W.cell? ⟨w.heap.size+1,3,none⟩=some (.int .i64 r.le)∧W.cell? ⟨w.heap.size+1,4,none⟩=some (.string r.nm)))∧RowL W vl ls∧RowS W vs ss∧Below w.heap.size w W):=fun W hW=>by
  have h1:=(hW.block _ (Array.getElem?_eq_some_iff.1 HBX.out.2.1).1).trans HBX.out.2.1
  have h2:=(hW.block _ (Array.getElem?_eq_some_iff.1 HBX.out.2.2).1).trans HBX.out.2.2
  exact ⟨⟨⟨(zAA h1 0 rfl).1,(zAA h1 1 rfl).1,(zAA h1 2 rfl).1,(zAA h1 3 rfl).1⟩,(zAA h2 0 rfl).1,(zAA h2 1 rfl).1,(zAA h2 2 rfl).1,(zAA h2 3 rfl).1,(zAA h2 4 rfl).1⟩,(HR.out.1.below HBX.out.1).below hW,(HR.out.2.below HBX.out.1).below hW,HBX.out.1.trans (hW.mono HBX.out.1.size)⟩
 obtain ⟨⟨⟨x0,x1,x2,x3⟩,_⟩,r1,r2,_⟩:=HCX.out wb (Below.refl _ _)
 have HRB:Hid (RowL wb vl ls∧RowS wb vs ss):=⟨r1,r2⟩
 clear r1 r2
 go_wp2_with fail
 refine (szTableG_any tm nx vl vs ls ss 1048576 (Nat.le_refl _) _ HRB.out.1 HRB.out.2 HM.out y z).mono ?_
 rintro e w1 ⟨⟨rr,rfl,hr⟩,b1⟩
 have B1:Hid (Below wb.heap.size wb w1):=b1
 clear b1 x0 x1 x2 x3 y z HM
 rcases hr with rfl | ⟨hq,hq1,hl1,hl2,hl3⟩
 ·have HE:Hid (Below w.heap.size w w1):=(HCX.out w1 B1.out).2.2.2
  go_wp2_with fail
  go_ret
  exact ⟨rfl,HE.out⟩
 have hq':¬ rr<0:=by omega
 have H3:Hid (∀ x ∈ ls,x.n.size≤1048576∧x.ws.length≤1048576):=hl3
 have H4:Hid (∀ x ∈ ls,x.ws.length≤1048576):=(show ∀ x ∈ ls,x.ws.length≤1048576 from fun x hx=>(hl3 x hx).2)
 clear hl3
 obtain ⟨⟨_,y0,y1,y2,y3,y4⟩,_⟩:=HCX.out w1 B1.out
 go_wp2_with fail
 refine (szRequest_any r.cl r.st r.kd r.le r.nm rr _ hn hq hq1).mono ?_
 rintro e wc ⟨rfl,b2⟩
 have BC:Hid (Below wb.heap.size wb wc):=B1.out.trans (b2.mono B1.out.size)
 clear b2 y0 y1 y2 y3 y4 B1
 by_cases hz:rr<(r.nm.size:Int)
 ·have HE:Hid (Below w.heap.size w wc):=(HCX.out wc BC.out).2.2.2
  rw [Rq.lft_no hz]
  go_wp2_with fail
  go_ret
  exact ⟨rfl,HE.out⟩
 rw [Rq.lft_yes hz]
 have hz':¬ rr - (r.nm.size:Int)<0:=by omega
 go_upto_region 8 with fail
 clear hz hz' hq' hq hq1
 obtain ⟨A,HA⟩ : ∃ A:Tab,Hid (apX (⟨tm,nx,ls,ss⟩ : Tab) now r=A):=⟨_,rfl⟩
 obtain ⟨code,HC⟩ : ∃ c:Int,Hid (apC (⟨tm,nx,ls,ss⟩ : Tab) now r=c):=⟨_,rfl⟩
 obtain ⟨aa,HAA⟩ : ∃ a:An,Hid (apA (⟨tm,nx,ls,ss⟩ : Tab) now r=a):=⟨_,rfl⟩
 obtain ⟨ka,ta,ha,ea⟩:=aa
 have hcc:(code != code)=false:=by simp
 have HSM:Hid (A.ls.length≤100∧A.ss.length≤100∧∀ x ∈ A.ls,x.ws.length≤1000):=by rw [← HA.out];exact ap_small
 have HAB:Hid (A.ls.length≤1048576∧A.ss.length≤1048576∧∀ x ∈ A.ls,x.ws.length≤1048576):=⟨by have:=HSM.out;omega,by have:=HSM.out;omega,fun x hx=>by have:=HSM.out.2.2 x hx;omega⟩
 have HTT:Hid (∀ W,Below wb.heap.size wb W→Calls Tryz.prog 29 #[.agg #[.int .i64 tm,.int .i64 nx,vl,vs]] W fun e w'=>∃ ul us,e=.returned (.agg #[.int .i64 tm,.int .i64 nx,ul,us])∧Hid (TabR w' ul us (⟨tm,nx,ls,ss⟩ : Tab)∧Below W.heap.size W w'∧Below wb.heap.size wb w')):=fun W hW=>by
  have h:=HCX.out W hW
  refine (toTable_any tm nx vl vs ls ss W h.2.1 h.2.2.1 hl1 hl2 H4.out).mono ?_
  rintro e w' ⟨ul,us,rfl,c1,c2,b⟩
  exact ⟨ul,us,rfl,⟨c1,c2⟩,b,hW.trans (b.mono hW.size)⟩
 have HTQ:Hid (∀ W,Below wb.heap.size wb W→Calls Tryz.prog 30 #[.agg #[.int .i64 r.cl,.int .i64 r.st,.int .i64 r.kd,.int .i64 r.le,.string r.nm]] W fun e w'=>e=.returned (.agg #[.int .i64 r.cl,.int .i64 r.st,.int .i64 r.kd,.int .i64 r.le,.string r.nm])∧Hid (Below W.heap.size W w'∧Below wb.heap.size wb w')):=fun W hW=>by
  refine (toRequest_any r.cl r.st r.kd r.le r.nm W).mono ?_
  rintro e w' ⟨rfl,b⟩
  exact ⟨rfl,b,hW.trans (b.mono hW.size)⟩
 have HSP:Hid (∀ W ul us,TabR W ul us (⟨tm,nx,ls,ss⟩ : Tab)→Below wb.heap.size wb W→Calls Tryz.prog 28 #[.agg #[.int .i64 tm,.int .i64 nx,ul,us],.int .i64 now,.agg #[.int .i64 r.cl,.int .i64 r.st,.int .i64 r.kd,.int .i64 r.le,.string r.nm]] W fun e w'=>∃ v,e=.returned v∧Hid (resE A (.agg #[.int .i64 ka,.int .i64 ta,.int .i64 ha,.int .i64 ea]) code v w'∧Below W.heap.size W w')):=fun W ul us hT hW=>by
  have h0:=specApplyRequest_any (⟨tm,nx,ls,ss⟩ : Tab) ul us now r W hT.1 hT.2 H3.out hl1 hl2 hn
  rw [HA.out,HC.out,HAA.out] at h0
  refine h0.mono ?_
  rintro e w' ⟨u3,v3,rfl,⟨qs,r3⟩,b⟩
  exact ⟨_,rfl,⟨u3,v3,qs,_,rfl,r3⟩,b⟩
 have HIM:Hid (∀ W ul us,TabR W ul us (⟨tm,nx,ls,ss⟩ : Tab)→Below wb.heap.size wb W→Calls Tryz.prog 16 #[.agg #[.int .i64 tm,.int .i64 nx,ul,us],.int .i64 now,.agg #[.int .i64 r.cl,.int .i64 r.st,.int .i64 r.kd,.int .i64 r.le,.string r.nm]] W fun e w'=>∃ v,e=.returned v∧Hid (resO W.heap.size A (.agg #[.int .i64 ka,.int .i64 ta,.int .i64 ha,.int .i64 ea]) code v w'∧Below W.heap.size W w')):=fun W ul us hT hW=>by
  have h0:=implApplyRequest_any (⟨tm,nx,ls,ss⟩ : Tab) ul us now r W hT.1 hT.2 H3.out hl1 hl2 hn
  rw [HA.out,HC.out,HAA.out] at h0
  refine h0.mono ?_
  rintro e w' ⟨u3,v3,ps,rfl,r3,b⟩
  exact ⟨_,rfl,⟨u3,v3,ps,rfl,r3⟩,b⟩
 have HSS:Hid (∀ W,Below wb.heap.size wb W→(W.cell? ⟨w.heap.size,0,none⟩=some (.int .i64 tm)∧W.cell? ⟨w.heap.size,1,none⟩=some (.int .i64 nx)∧W.cell? ⟨w.heap.size,2,none⟩=some (vl)∧W.cell? ⟨w.heap.size,3,none⟩=some (vs))∧(W.cell? ⟨w.heap.size+1,0,none⟩=some (.int .i64 r.cl)∧W.cell? ⟨w.heap.size+1,1,none⟩=some (.int .i64 r.st)∧W.cell? ⟨w.heap.size+1,2,none⟩=some (.int .i64 r.kd)∧W.cell? ⟨w.heap.size+1,3,none⟩=some (.int .i64 r.le)∧W.cell? ⟨w.heap.size+1,4,none⟩=some (.string r.nm))):=fun W hW=>(HCX.out W hW).1
 refine cutL [8,9,10,32,33,34,35,36,37,31,38,39,40] (fun ts W=>∃ t32 t33 t34 t35 t36 t37 t31 t38 t39 t40 p q a3 c3 d3 e3,ts=[.pointer (some ⟨p,0,none⟩),.pointer (some ⟨q,0,none⟩),.int .i64 code,t32,t33,t34,t35,t36,t37,t31,t38,t39,t40]∧Hid (W.heap[p]?=some (.cells #[.int .i64 A.tm,.int .i64 A.nx,.slice a3 A.ls.length c3,.slice d3 A.ss.length e3] 30 (0,0))∧W.heap[q]?=some (.cells #[.int .i64 ka,.int .i64 ta,.int .i64 ha,.int .i64 ea] 38 (0,0))∧TabR W (.slice a3 A.ls.length c3) (.slice d3 A.ss.length e3) A∧Below wb.heap.size wb W)) ?_ ?_
 ·refine zBE 12 3 #[true,true,true,true,true,true,true,true,true,true,true,true,false,false,false] (pick [eqv (.agg #[.int .i64 tm,.int .i64 nx,vl,vs]),tabP (⟨tm,nx,ls,ss⟩ : Tab),eqv (.int .i64 now),eqv (.agg #[.int .i64 r.cl,.int .i64 r.st,.int .i64 r.kd,.int .i64 r.le,.string r.nm]),eqv (.agg #[.int .i64 r.cl,.int .i64 r.st,.int .i64 r.kd,.int .i64 r.le,.string r.nm]),resE A (.agg #[.int .i64 ka,.int .i64 ta,.int .i64 ha,.int .i64 ea]) code,resE A (.agg #[.int .i64 ka,.int .i64 ta,.int .i64 ha,.int .i64 ea]) code,ownE A,eqv (.agg #[.int .i64 ka,.int .i64 ta,.int .i64 ha,.int .i64 ea]),eqv (.int .i64 code),box wc.heap.size #[.int .i64 0,.int .i64 0,.slice none 0 0,.slice none 0 0] 30,box wc.heap.size #[.int .i64 0,.int .i64 0,.int .i64 0,.int .i64 0] 38]) (by kernel_rfl) [8,9] (by kernel_rfl) (fun _ _ _ _ h=>h) (by kernel_rfl) (by kernel_rfl) (stay_pick ⟨zAb _,st_tabP _,zAb _,zAb _,zAb _,st_resE _ _ _,st_resE _ _ _,st_ownE _,zAb _,zAb _,zBW _ _ _,zBW _ _ _,trivial⟩) [0,1,2,3,4,5,6,7,10,11] (by kernel_rfl) ?_ ?_ ?_
  ·refine Steps.cons (o:=⟨some 32,.load 66 (.tmp 3),66,"exact.go:4167",#[],none⟩) rfl (fun a W g hp hf K hK=>?_) ?_
   ·have e:a.tmps[3]?=some (.pointer (some ⟨w.heap.size,0,none⟩)):=hf 3 (by kernel_rfl)
    obtain ⟨x0,x1,x2,x3⟩:=(HSS.out W (BC.out.trans (g.mono BC.out.size))).1
    go_simp
    exact hK _ _ (Below.refl _ _) rfl
   refine Steps.cons (o:=⟨some 33,.call { callee:=Callee.value (Operand.func 29),args:=#[Operand.tmp 32],argTypes:=#[66] },30,"exact.go:4167",#[⟨0,.data⟩],none⟩) rfl (fun a W g hp hf K hK=>?_) ?_
   ·obtain ⟨v,e,rfl⟩:=hp 0 32 (by kernel_rfl) (by kernel_rfl)
    have HK:=HTT.out W (BC.out.trans (g.mono BC.out.size))
    go_simp
    go_at_call 29
    refine HK.mono ?_
    rintro e w' ⟨ul,us,rfl,hh⟩
    try go_simp
    exact hK _ _ hh.out.2.1 ⟨ul,us,rfl,hh.out.1⟩
   refine Steps.cons (o:=⟨some 34,.move (.tmp 1),3,"exact.go:4167",#[],none⟩) rfl (fun a W g hp hf K hK=>?_) ?_
   ·have e:a.tmps[1]?=some (.int .i64 now):=hf 1 (by kernel_rfl)
    go_simp
    exact hK _ _ (Below.refl _ _) rfl
   refine Steps.cons (o:=⟨some 35,.load 67 (.tmp 5),67,"exact.go:4167",#[],none⟩) rfl (fun a W g hp hf K hK=>?_) ?_
   ·have e:a.tmps[5]?=some (.pointer (some ⟨w.heap.size+1,0,none⟩)):=hf 5 (by kernel_rfl)
    obtain ⟨_,y0,y1,y2,y3,y4⟩:=HSS.out W (BC.out.trans (g.mono BC.out.size))
    go_simp
    exact hK _ _ (Below.refl _ _) rfl
   refine Steps.cons (o:=⟨some 36,.call { callee:=Callee.value (Operand.func 30),args:=#[Operand.tmp 35],argTypes:=#[67] },42,"exact.go:4167",#[⟨3,.data⟩,⟨1,.chain⟩],none⟩) rfl (fun a W g hp hf K hK=>?_) ?_
   ·obtain ⟨v,e,rfl⟩:=hp 3 35 (by kernel_rfl) (by kernel_rfl)
    have HK:=HTQ.out W (BC.out.trans (g.mono BC.out.size))
    go_simp
    go_at_call 30
    refine HK.mono ?_
    rintro e w' ⟨rfl,hh⟩
    try go_simp
    exact hK _ _ hh.out.1 rfl
   refine Steps.cons (o:=⟨some 37,.call { callee:=Callee.value (Operand.func 28),args:=#[Operand.tmp 33,Operand.tmp 34,Operand.tmp 36],argTypes:=#[30,3,42] },39,"exact.go:4167",#[⟨1,.data⟩,⟨2,.data⟩,⟨4,.data⟩,⟨4,.chain⟩],none⟩) rfl (fun a W g hp hf K hK=>?_) ?_
   ·obtain ⟨v1,e1,ul,us,rfl,h1⟩:=hp 1 33 (by kernel_rfl) (by kernel_rfl)
    obtain ⟨v2,e2,rfl⟩:=hp 2 34 (by kernel_rfl) (by kernel_rfl)
    obtain ⟨v4,e4,rfl⟩:=hp 4 36 (by kernel_rfl) (by kernel_rfl)
    have HK:=HSP.out W ul us h1 (BC.out.trans (g.mono BC.out.size))
    unfold tabV at e1
    go_simp
    go_at_call 28
    refine HK.mono ?_
    rintro e w' ⟨v,rfl,hh⟩
    try go_simp
    exact hK _ _ hh.out.2 hh.out.1
   refine Steps.cons (o:=⟨some 31,.move (.tmp 37),39,"exact.go:4167",#[⟨5,.data⟩],none⟩) rfl (fun a W g hp hf K hK=>?_) ?_
   ·obtain ⟨v,e,ul,us,qs,B,rfl,ho⟩:=hp 5 37 (by kernel_rfl) (by kernel_rfl)
    go_simp
    exact hK _ _ (Below.refl _ _) ⟨ul,us,qs,B,rfl,ho⟩
   refine Steps.cons (o:=⟨some 38,.extract (.tmp 31) 0,30,"exact.go:4167",#[⟨6,.data⟩],none⟩) rfl (fun a W g hp hf K hK=>?_) ?_
   ·obtain ⟨v,e,ul,us,qs,B,rfl,ho⟩:=hp 6 31 (by kernel_rfl) (by kernel_rfl)
    go_simp
    exact hK _ _ (Below.refl _ _) ⟨ul,us,qs,B,rfl,ho⟩
   refine Steps.cons (o:=⟨some 8,.alloc 30,0,"exact.go:4167",#[],none⟩) rfl (fun a W g hp hf K hK=>?_) ?_
   ·go_simp
    exact hK _ _ (zAD _ _) (box_new _ _ g.size)
   refine Steps.cons (o:=⟨some 9,.alloc 38,0,"exact.go:4167",#[],none⟩) rfl (fun a W g hp hf K hK=>?_) ?_
   ·go_simp
    exact hK _ _ (zAD _ _) (box_new _ _ g.size)
   exact Steps.nil
  ·refine QSteps.cons (o:=⟨some 39,.extract (.tmp 31) 1,38,"exact.go:4167",#[⟨6,.data⟩,⟨12,.gcOnly .lateStores⟩],none⟩) rfl (fun a W g hp hf=>?_) ?_
   ·obtain ⟨v,e,ul,us,qs,B,rfl,ho⟩:=hp 6 31 (by kernel_rfl) (by kernel_rfl)
    exact ⟨_,fun w'=>by go_simp,rfl⟩
   refine QSteps.cons (o:=⟨some 40,.extract (.tmp 31) 2,3,"exact.go:4167",#[⟨6,.data⟩,⟨13,.gcOnly .lateStores⟩],none⟩) rfl (fun a W g hp hf=>?_) ?_
   ·obtain ⟨v,e,ul,us,qs,B,rfl,ho⟩:=hp 6 31 (by kernel_rfl) (by kernel_rfl)
    exact ⟨_,fun w'=>by go_simp,rfl⟩
   exact QSteps.nil
  ·intro a W g hv hf hsz hdf
   obtain ⟨vaT,eaT,paT⟩:=hv 0 32 (by decide) (by kernel_rfl)
   obtain ⟨vtT,etT,ptT⟩:=hv 1 33 (by decide) (by kernel_rfl)
   obtain ⟨vnow,enow,pnow⟩:=hv 2 34 (by decide) (by kernel_rfl)
   obtain ⟨vld,eld,pld⟩:=hv 3 35 (by decide) (by kernel_rfl)
   obtain ⟨vrq,erq,prq⟩:=hv 4 36 (by decide) (by kernel_rfl)
   obtain ⟨vcall,ecall,pcall⟩:=hv 5 37 (by decide) (by kernel_rfl)
   obtain ⟨vmv,emv,pmv⟩:=hv 6 31 (by decide) (by kernel_rfl)
   obtain ⟨vx0,ex0,px0⟩:=hv 7 38 (by decide) (by kernel_rfl)
   obtain ⟨vx1,ex1,px1⟩:=hv 8 39 (by decide) (by kernel_rfl)
   obtain ⟨vx2,ex2,px2⟩:=hv 9 40 (by decide) (by kernel_rfl)
   obtain ⟨vb0,eb0,pb0⟩:=hv 10 8 (by decide) (by kernel_rfl)
   obtain ⟨vb1,eb1,pb1⟩:=hv 11 9 (by decide) (by kernel_rfl)
   have ha:=put_eq [32,33,34,35,36,37,31,38,39,40,8,9] [vaT,vtT,vnow,vld,vrq,vcall,vmv,vx0,vx1,vx2,vb0,vb1] _ hsz hdf (fun d hd=>hf d (not_dst (ks:=[32,33,34,35,36,37,31,38,39,40,8,9]) (by kernel_rfl) hd)) ⟨eaT,etT,enow,eld,erq,ecall,emv,ex0,ex1,ex2,eb0,eb1,trivial⟩
   clear eaT etT enow eld erq ecall emv ex0 ex1 ex2 eb0 eb1 hv hf hsz hdf
   subst ha
   obtain ⟨ul,us,qs,B,rfl,ho⟩ : ownE A vx0 W:=px0
   obtain rfl:vx1=.agg #[.int .i64 ka,.int .i64 ta,.int .i64 ha,.int .i64 ea]:=px1
   obtain rfl:vx2=.int .i64 code:=px2
   obtain ⟨p,rfl,l10,z10⟩ : box wc.heap.size #[.int .i64 0,.int .i64 0,.slice none 0 0,.slice none 0 0] 30 vb0 W:=pb0
   obtain ⟨q,rfl,l11,z11⟩ : box wc.heap.size #[.int .i64 0,.int .i64 0,.int .i64 0,.int .i64 0] 38 vb1 W:=pb1
   clear paT ptT pnow pld prq pcall pmv
   unfold tabV
   obtain ⟨a3,c3,rfl⟩:=RowG.slice ho.row.1
   obtain ⟨d3,e3,rfl⟩:=RowG.slice ho.row.2
   have hpq:p ≠ q:=ty_ne z10 z11 (by decide)
   simp only [zBG,Act.put,sA,sB,sC]
   refine wpAnyH_ready (rs:=[12]) (by kernel_rfl) (by simp) ?_
   refine (AllReadyH.cons (o:=⟨none,.store 30 (.tmp 8) (.tmp 38),0,"exact.go:4167",#[⟨10,.data⟩,⟨7,.data⟩,⟨5,.chain⟩,⟨0,.phase⟩,⟨1,.phase⟩,⟨2,.phase⟩,⟨3,.phase⟩,⟨4,.phase⟩,⟨5,.phase⟩,⟨6,.phase⟩,⟨7,.phase⟩,⟨8,.textOnly .lateStores⟩,⟨9,.textOnly .lateStores⟩,⟨10,.phase⟩,⟨11,.phase⟩],none⟩) rfl (fun K hK=>?_) AllReadyH.nil)
   obtain ⟨zc0,zf0⟩:=zAA z10 0 (x:=.int .i64 0) rfl
   obtain ⟨zc1,zf1⟩:=zAA z10 1 (x:=.int .i64 0) rfl
   obtain ⟨zc2,zf2⟩:=zAA z10 2 (x:=.slice none 0 0) rfl
   obtain ⟨zc3,zf3⟩:=zAA z10 3 (x:=.slice none 0 0) rfl
   go_simp
   clear zc0 zf0 zc1 zf1 zc2 zf2 zc3 zf3
   refine hK.out _ _ trivial (fun _=>?_)
   clear hK K
   (try simp only [sA,sB,sC])
   obtain ⟨A1,F1,G1⟩:=set4 (.int .i64 A.tm) (.int .i64 A.nx) (.slice a3 A.ls.length c3) (.slice d3 A.ss.length e3) z10
   replace G1:=G1 g l10
   replace z11:=(F1 q hpq.symm).trans z11
   generalize ((((W.setCell ⟨p,0,none⟩ (.int .i64 A.tm)).setCell ⟨p,1,none⟩ (.int .i64 A.nx)).setCell ⟨p,2,none⟩ (.slice a3 A.ls.length c3)).setCell ⟨p,3,none⟩ (.slice d3 A.ss.length e3))=W1 at A1 F1 G1 z11 ⊢
   refine wpAnyH_ready (rs:=[13]) (by kernel_rfl) (by simp) ?_
   refine (AllReadyH.cons (o:=⟨none,.store 38 (.tmp 9) (.tmp 39),0,"exact.go:4167",#[⟨11,.data⟩,⟨8,.data⟩,⟨12,.chain⟩,⟨0,.phase⟩,⟨1,.phase⟩,⟨2,.phase⟩,⟨3,.phase⟩,⟨4,.phase⟩,⟨5,.phase⟩,⟨6,.phase⟩,⟨7,.phase⟩,⟨8,.phase⟩,⟨9,.textOnly .lateStores⟩,⟨10,.phase⟩,⟨11,.phase⟩,⟨12,.phase⟩],none⟩) rfl (fun K hK=>?_) AllReadyH.nil)
   obtain ⟨zc0,zf0⟩:=zAA z11 0 (x:=.int .i64 0) rfl
   obtain ⟨zc1,zf1⟩:=zAA z11 1 (x:=.int .i64 0) rfl
   obtain ⟨zc2,zf2⟩:=zAA z11 2 (x:=.int .i64 0) rfl
   obtain ⟨zc3,zf3⟩:=zAA z11 3 (x:=.int .i64 0) rfl
   go_simp
   clear zc0 zf0 zc1 zf1 zc2 zf2 zc3 zf3
   refine hK.out _ _ trivial (fun _=>?_)
   clear hK K
   (try simp only [sA,sB,sC])
   obtain ⟨A2,F2,G2⟩:=set4 (.int .i64 ka) (.int .i64 ta) (.int .i64 ha) (.int .i64 ea) z11
   replace G2:=G2 G1 l11
   replace A1:=(F2 p hpq).trans A1
   have ho2:=tabE_box ho z10 ((F1 q hpq.symm).symm.trans z11) (fun k h1 h2=>(F2 k h2).trans (F1 k h1))
   generalize ((((W1.setCell ⟨q,0,none⟩ (.int .i64 ka)).setCell ⟨q,1,none⟩ (.int .i64 ta)).setCell ⟨q,2,none⟩ (.int .i64 ha)).setCell ⟨q,3,none⟩ (.int .i64 ea))=W2 at A1 A2 G2 ho2 ⊢
   clear F1 F2 G1 z10 z11 ho
   refine wpAnyH_ready (rs:=[14]) (by kernel_rfl) (by simp) ?_
   refine (AllReadyH.cons (o:=⟨some 10,.assign (.tmp 40),3,"exact.go:4167",#[⟨9,.data⟩,⟨13,.chain⟩,⟨0,.phase⟩,⟨1,.phase⟩,⟨2,.phase⟩,⟨3,.phase⟩,⟨4,.phase⟩,⟨5,.phase⟩,⟨6,.phase⟩,⟨7,.phase⟩,⟨8,.phase⟩,⟨9,.phase⟩,⟨10,.phase⟩,⟨11,.phase⟩,⟨12,.phase⟩,⟨13,.phase⟩],none⟩) rfl (fun K hK=>?_) AllReadyH.nil)
   go_simp
   refine hK.out _ _ trivial (fun _=>?_)
   clear hK K
   (try simp only [sA,sB,sC])
   refine wpAnyH_done (by kernel_rfl) ?_ _
   dsimp only
   refine ⟨_,?_,?_,?_,?_,?_,?_,?_,?_,?_,?_,?_,p,q,a3,c3,d3,e3,rfl,A1,A2,ho2.row,BC.out.trans (G2.mono BC.out.size)⟩
   ·simp only [zBG,Act.put,sA,sB,sC]
    exact rfl
 rintro ts u8 ⟨t32,t33,t34,t35,t36,t37,t31,t38,t39,t40,p,q,a3,c3,d3,e3,rfl,H8⟩
 simp only [zBG,Act.put,sA,sB,sC]
 have F6:Hid (∀ W,Below u8.heap.size u8 W→W.heap[p]?=some (.cells #[.int .i64 A.tm,.int .i64 A.nx,.slice a3 A.ls.length c3,.slice d3 A.ss.length e3] 30 (0,0))∧TabR W (.slice a3 A.ls.length c3) (.slice d3 A.ss.length e3) A∧Below wb.heap.size wb W):=fun W hW =>
  ⟨(hW.block _ (Array.getElem?_eq_some_iff.1 H8.out.1).1).trans H8.out.1,H8.out.2.2.1.below hW,H8.out.2.2.2.trans (hW.mono H8.out.2.2.2.size)⟩
 have FA:Hid (∀ W,Below u8.heap.size u8 W→W.heap[q]?=some (.cells #[.int .i64 ka,.int .i64 ta,.int .i64 ha,.int .i64 ea] 38 (0,0))):=fun W hW=>(hW.block _ (Array.getElem?_eq_some_iff.1 H8.out.2.1).1).trans H8.out.2.1
 clear H8 BC HSP
 obtain ⟨⟨⟨x0,x1,x2,x3⟩,_⟩,r1,r2,_⟩:=HCX.out u8 (F6.out u8 (Below.refl _ _)).2.2
 have HRC:Hid (RowL u8 vl ls∧RowS u8 vs ss):=⟨r1,r2⟩
 clear r1 r2
 go_wp2_with fail
 refine (toTableW_any tm nx vl vs ls ss _ HRC.out.1 HRC.out.2 hl1 hl2 H4.out).mono ?_
 rintro e w4 ⟨gl,gs,rfl,c1,c2,tw,b4⟩
 have R4:Hid (RowL w4 (.slice (some ⟨gl,0,none⟩) ls.length ls.length) ls∧RowS w4 (.slice (some ⟨gs,0,none⟩) ss.length ss.length) ss):=⟨c1,c2⟩
 have T4:Hid (TabW u8.heap.size w4.heap.size w4 gl gs ls ss):=tw
 have B34:Hid (Below u8.heap.size u8 w4):=b4
 clear b4 c1 c2 tw HRC x0 x1 x2 x3
 have HD:Hid (∀ W,Below (w4.alloc (.cells #[.int .i64 tm,.int .i64 nx,.slice (some ⟨gl,0,none⟩) ls.length ls.length,.slice (some ⟨gs,0,none⟩) ss.length ss.length] 30)).heap.size (w4.alloc (.cells #[.int .i64 tm,.int .i64 nx,.slice (some ⟨gl,0,none⟩) ls.length ls.length,.slice (some ⟨gs,0,none⟩) ss.length ss.length] 30)) W→(W.cell? ⟨w4.heap.size,0,none⟩=some (.int .i64 tm)∧W.cell? ⟨w4.heap.size,1,none⟩=some (.int .i64 nx)∧W.cell? ⟨w4.heap.size,2,none⟩=some (.slice (some ⟨gl,0,none⟩) ls.length ls.length)∧W.cell? ⟨w4.heap.size,3,none⟩=some (.slice (some ⟨gs,0,none⟩) ss.length ss.length))∧(RowL W (.slice (some ⟨gl,0,none⟩) ls.length ls.length) ls∧RowS W (.slice (some ⟨gs,0,none⟩) ss.length ss.length) ss)∧Below w4.heap.size w4 W):=fun W hW=>by
  have h1:=(hW.block w4.heap.size (by simp)).trans (heap_alloc_new w4 _)
  exact ⟨⟨(zAA h1 0 rfl).1,(zAA h1 1 rfl).1,(zAA h1 2 rfl).1,(zAA h1 3 rfl).1⟩,⟨(R4.out.1.below (zAD _ _)).below hW,(R4.out.2.below (zAD _ _)).below hW⟩,(zAD w4 _).trans (hW.mono (by simp))⟩
 have hsz:w4.heap.size<(w4.alloc (.cells #[.int .i64 tm,.int .i64 nx,.slice (some ⟨gl,0,none⟩) ls.length ls.length,.slice (some ⟨gs,0,none⟩) ss.length ss.length] 30)).heap.size:=by simp
 unfold tabV
 go_upto_region 10 with fail
 generalize w4.alloc (.cells #[.int .i64 tm,.int .i64 nx,.slice (some ⟨gl,0,none⟩) ls.length ls.length,.slice (some ⟨gs,0,none⟩) ss.length ss.length] 30)=wd at HD hsz ⊢
 have HSD:Hid (w4.heap.size<wd.heap.size):=hsz
 have HWD:Hid (Below wb.heap.size wb wd):=(F6.out wd (B34.out.trans ((HD.out wd (Below.refl _ _)).2.2.mono B34.out.size))).2.2
 clear R4 hsz
 refine cutL [12,13,14,44,45,46,47,48,43,49,50,51] (fun ts W=>∃ t44 t45 t46 t47 t48 t43 t49 t50 t51 p5 q5 a5 c5 d5 e5 qs,ts=[.pointer (some ⟨p5,0,none⟩),.pointer (some ⟨q5,0,none⟩),.int .i64 code,t44,t45,t46,t47,t48,t43,t49,t50,t51]∧Hid (W.heap[p5]?=some (.cells #[.int .i64 A.tm,.int .i64 A.nx,.slice a5 A.ls.length c5,.slice d5 A.ss.length e5] 30 (0,0))∧W.heap[q5]?=some (.cells #[.int .i64 ka,.int .i64 ta,.int .i64 ha,.int .i64 ea] 38 (0,0))∧TabO W wd.heap.size (.slice a5 A.ls.length c5) (.slice d5 A.ss.length e5) A qs∧wd.heap.size≤p5∧wd.heap.size≤q5∧Below wd.heap.size wd W)) ?_ ?_
 ·refine zBE 11 3 #[true,true,true,true,true,true,true,true,true,true,true,false,false,false] (pick [eqv (.agg #[.int .i64 tm,.int .i64 nx,.slice (some ⟨gl,0,none⟩) ls.length ls.length,.slice (some ⟨gs,0,none⟩) ss.length ss.length]),eqv (.int .i64 now),eqv (.agg #[.int .i64 r.cl,.int .i64 r.st,.int .i64 r.kd,.int .i64 r.le,.string r.nm]),eqv (.agg #[.int .i64 r.cl,.int .i64 r.st,.int .i64 r.kd,.int .i64 r.le,.string r.nm]),resO wd.heap.size A (.agg #[.int .i64 ka,.int .i64 ta,.int .i64 ha,.int .i64 ea]) code,resO wd.heap.size A (.agg #[.int .i64 ka,.int .i64 ta,.int .i64 ha,.int .i64 ea]) code,ownQ wd.heap.size A,eqv (.agg #[.int .i64 ka,.int .i64 ta,.int .i64 ha,.int .i64 ea]),eqv (.int .i64 code),box wd.heap.size #[.int .i64 0,.int .i64 0,.slice none 0 0,.slice none 0 0] 30,box wd.heap.size #[.int .i64 0,.int .i64 0,.int .i64 0,.int .i64 0] 38]) (by kernel_rfl) [7,8] (by kernel_rfl) (fun _ _ _ _ h=>h) (by kernel_rfl) (by kernel_rfl) (stay_pick ⟨zAb _,zAb _,zAb _,zAb _,st_resO _ _ _ _,st_resO _ _ _ _,st_ownQ _ _,zAb _,zAb _,zBW _ _ _,zBW _ _ _,trivial⟩) [0,1,2,3,4,5,6,9,10] (by kernel_rfl) ?_ ?_ ?_
  ·refine Steps.cons (o:=⟨some 44,.load 30 (.tmp 11),30,"exact.go:4169",#[],none⟩) rfl (fun a W g hp hf K hK=>?_) ?_
   ·have e:a.tmps[11]?=some (.pointer (some ⟨w4.heap.size,0,none⟩)):=hf 11 (by kernel_rfl)
    obtain ⟨x0,x1,x2,x3⟩:=(HD.out W g).1
    go_simp
    exact hK _ _ (Below.refl _ _) rfl
   refine Steps.cons (o:=⟨some 45,.move (.tmp 1),3,"exact.go:4169",#[],none⟩) rfl (fun a W g hp hf K hK=>?_) ?_
   ·have e:a.tmps[1]?=some (.int .i64 now):=hf 1 (by kernel_rfl)
    go_simp
    exact hK _ _ (Below.refl _ _) rfl
   refine Steps.cons (o:=⟨some 46,.load 67 (.tmp 5),67,"exact.go:4169",#[],none⟩) rfl (fun a W g hp hf K hK=>?_) ?_
   ·have e:a.tmps[5]?=some (.pointer (some ⟨w.heap.size+1,0,none⟩)):=hf 5 (by kernel_rfl)
    obtain ⟨_,y0,y1,y2,y3,y4⟩:=HSS.out W (HWD.out.trans (g.mono HWD.out.size))
    go_simp
    exact hK _ _ (Below.refl _ _) rfl
   refine Steps.cons (o:=⟨some 47,.call { callee:=Callee.value (Operand.func 30),args:=#[Operand.tmp 46],argTypes:=#[67] },42,"exact.go:4169",#[⟨2,.data⟩],none⟩) rfl (fun a W g hp hf K hK=>?_) ?_
   ·obtain ⟨v,e,rfl⟩:=hp 2 46 (by kernel_rfl) (by kernel_rfl)
    have HK:=HTQ.out W (HWD.out.trans (g.mono HWD.out.size))
    go_simp
    go_at_call 30
    refine HK.mono ?_
    rintro e w' ⟨rfl,hh⟩
    try go_simp
    exact hK _ _ hh.out.1 rfl
   refine Steps.cons (o:=⟨some 48,.call { callee:=Callee.value (Operand.func 16),args:=#[Operand.tmp 44,Operand.tmp 45,Operand.tmp 47],argTypes:=#[30,3,42] },39,"exact.go:4169",#[⟨0,.data⟩,⟨1,.data⟩,⟨3,.data⟩,⟨3,.chain⟩],none⟩) rfl (fun a W g hp hf K hK=>?_) ?_
   ·obtain ⟨v1,e1,rfl⟩:=hp 0 44 (by kernel_rfl) (by kernel_rfl)
    have h1:TabR W (.slice (some ⟨gl,0,none⟩) ls.length ls.length) (.slice (some ⟨gs,0,none⟩) ss.length ss.length) (⟨tm,nx,ls,ss⟩ : Tab):=(HD.out W g).2.1
    obtain ⟨v2,e2,rfl⟩:=hp 1 45 (by kernel_rfl) (by kernel_rfl)
    obtain ⟨v4,e4,rfl⟩:=hp 3 47 (by kernel_rfl) (by kernel_rfl)
    have HK:=HIM.out W (.slice (some ⟨gl,0,none⟩) ls.length ls.length) (.slice (some ⟨gs,0,none⟩) ss.length ss.length) h1 (HWD.out.trans (g.mono HWD.out.size))
    go_simp
    go_at_call 16
    refine HK.mono ?_
    rintro e w' ⟨v,rfl,hh⟩
    try go_simp
    obtain ⟨⟨ul',us',qs,rfl,ho⟩,hb⟩:=hh.out
    exact hK _ _ hb ⟨ul',us',qs,rfl,tabO_mono ho g.size⟩
   refine Steps.cons (o:=⟨some 43,.move (.tmp 48),39,"exact.go:4169",#[⟨4,.data⟩],none⟩) rfl (fun a W g hp hf K hK=>?_) ?_
   ·obtain ⟨v,e,ul,us,qs,rfl,ho⟩:=hp 4 48 (by kernel_rfl) (by kernel_rfl)
    go_simp
    exact hK _ _ (Below.refl _ _) ⟨ul,us,qs,rfl,ho⟩
   refine Steps.cons (o:=⟨some 49,.extract (.tmp 43) 0,30,"exact.go:4169",#[⟨5,.data⟩],none⟩) rfl (fun a W g hp hf K hK=>?_) ?_
   ·obtain ⟨v,e,ul,us,qs,rfl,ho⟩:=hp 5 43 (by kernel_rfl) (by kernel_rfl)
    go_simp
    exact hK _ _ (Below.refl _ _) ⟨ul,us,qs,rfl,ho⟩
   refine Steps.cons (o:=⟨some 12,.alloc 30,0,"exact.go:4169",#[],none⟩) rfl (fun a W g hp hf K hK=>?_) ?_
   ·go_simp
    exact hK _ _ (zAD _ _) (box_new _ _ g.size)
   refine Steps.cons (o:=⟨some 13,.alloc 38,0,"exact.go:4169",#[],none⟩) rfl (fun a W g hp hf K hK=>?_) ?_
   ·go_simp
    exact hK _ _ (zAD _ _) (box_new _ _ g.size)
   exact Steps.nil
  ·refine QSteps.cons (o:=⟨some 50,.extract (.tmp 43) 1,38,"exact.go:4169",#[⟨5,.data⟩,⟨11,.gcOnly .lateStores⟩],none⟩) rfl (fun a W g hp hf=>?_) ?_
   ·obtain ⟨v,e,ul,us,qs,rfl,ho⟩:=hp 5 43 (by kernel_rfl) (by kernel_rfl)
    exact ⟨_,fun w'=>by go_simp,rfl⟩
   refine QSteps.cons (o:=⟨some 51,.extract (.tmp 43) 2,3,"exact.go:4169",#[⟨5,.data⟩,⟨12,.gcOnly .lateStores⟩],none⟩) rfl (fun a W g hp hf=>?_) ?_
   ·obtain ⟨v,e,ul,us,qs,rfl,ho⟩:=hp 5 43 (by kernel_rfl) (by kernel_rfl)
    exact ⟨_,fun w'=>by go_simp,rfl⟩
   exact QSteps.nil
  ·intro a W g hv hf hsz hdf
   obtain ⟨vaT,eaT,paT⟩:=hv 0 44 (by decide) (by kernel_rfl)
   obtain ⟨vnow,enow,pnow⟩:=hv 1 45 (by decide) (by kernel_rfl)
   obtain ⟨vld,eld,pld⟩:=hv 2 46 (by decide) (by kernel_rfl)
   obtain ⟨vrq,erq,prq⟩:=hv 3 47 (by decide) (by kernel_rfl)
   obtain ⟨vcall,ecall,pcall⟩:=hv 4 48 (by decide) (by kernel_rfl)
   obtain ⟨vmv,emv,pmv⟩:=hv 5 43 (by decide) (by kernel_rfl)
   obtain ⟨vx0,ex0,px0⟩:=hv 6 49 (by decide) (by kernel_rfl)
   obtain ⟨vx1,ex1,px1⟩:=hv 7 50 (by decide) (by kernel_rfl)
   obtain ⟨vx2,ex2,px2⟩:=hv 8 51 (by decide) (by kernel_rfl)
   obtain ⟨vb0,eb0,pb0⟩:=hv 9 12 (by decide) (by kernel_rfl)
   obtain ⟨vb1,eb1,pb1⟩:=hv 10 13 (by decide) (by kernel_rfl)
   have ha:=put_eq [44,45,46,47,48,43,49,50,51,12,13] [vaT,vnow,vld,vrq,vcall,vmv,vx0,vx1,vx2,vb0,vb1] _ hsz hdf (fun d hd=>hf d (not_dst (ks:=[44,45,46,47,48,43,49,50,51,12,13]) (by kernel_rfl) hd)) ⟨eaT,enow,eld,erq,ecall,emv,ex0,ex1,ex2,eb0,eb1,trivial⟩
   clear eaT enow eld erq ecall emv ex0 ex1 ex2 eb0 eb1 hv hf hsz hdf
   subst ha
   obtain ⟨ul,us,qs,rfl,ho⟩ : ownQ wd.heap.size A vx0 W:=px0
   obtain rfl:vx1=.agg #[.int .i64 ka,.int .i64 ta,.int .i64 ha,.int .i64 ea]:=px1
   obtain rfl:vx2=.int .i64 code:=px2
   obtain ⟨p5,rfl,l10,z10⟩ : box wd.heap.size #[.int .i64 0,.int .i64 0,.slice none 0 0,.slice none 0 0] 30 vb0 W:=pb0
   obtain ⟨q5,rfl,l11,z11⟩ : box wd.heap.size #[.int .i64 0,.int .i64 0,.int .i64 0,.int .i64 0] 38 vb1 W:=pb1
   clear paT pnow pld prq pcall pmv
   unfold tabV
   obtain ⟨a5,c5,rfl⟩:=RowG.slice (zBY ho).1
   obtain ⟨d5,e5,rfl⟩:=RowG.slice (zBY ho).2
   have hpq:p5 ≠ q5:=ty_ne z10 z11 (by decide)
   simp only [zBG,Act.put,sA,sB,sC]
   refine wpAnyH_ready (rs:=[11]) (by kernel_rfl) (by simp) ?_
   refine (AllReadyH.cons (o:=⟨none,.store 30 (.tmp 12) (.tmp 49),0,"exact.go:4169",#[⟨9,.data⟩,⟨6,.data⟩,⟨4,.chain⟩,⟨0,.phase⟩,⟨1,.phase⟩,⟨2,.phase⟩,⟨3,.phase⟩,⟨4,.phase⟩,⟨5,.phase⟩,⟨6,.phase⟩,⟨7,.textOnly .lateStores⟩,⟨8,.textOnly .lateStores⟩,⟨9,.phase⟩,⟨10,.phase⟩],none⟩) rfl (fun K hK=>?_) AllReadyH.nil)
   obtain ⟨zc0,zf0⟩:=zAA z10 0 (x:=.int .i64 0) rfl
   obtain ⟨zc1,zf1⟩:=zAA z10 1 (x:=.int .i64 0) rfl
   obtain ⟨zc2,zf2⟩:=zAA z10 2 (x:=.slice none 0 0) rfl
   obtain ⟨zc3,zf3⟩:=zAA z10 3 (x:=.slice none 0 0) rfl
   go_simp
   clear zc0 zf0 zc1 zf1 zc2 zf2 zc3 zf3
   refine hK.out _ _ trivial (fun _=>?_)
   clear hK K
   (try simp only [sA,sB,sC])
   obtain ⟨A1,F1,G1⟩:=set4 (.int .i64 A.tm) (.int .i64 A.nx) (.slice a5 A.ls.length c5) (.slice d5 A.ss.length e5) z10
   replace G1:=G1 g l10
   replace z11:=(F1 q5 hpq.symm).trans z11
   generalize ((((W.setCell ⟨p5,0,none⟩ (.int .i64 A.tm)).setCell ⟨p5,1,none⟩ (.int .i64 A.nx)).setCell ⟨p5,2,none⟩ (.slice a5 A.ls.length c5)).setCell ⟨p5,3,none⟩ (.slice d5 A.ss.length e5))=W1 at A1 F1 G1 z11 ⊢
   refine wpAnyH_ready (rs:=[12]) (by kernel_rfl) (by simp) ?_
   refine (AllReadyH.cons (o:=⟨none,.store 38 (.tmp 13) (.tmp 50),0,"exact.go:4169",#[⟨10,.data⟩,⟨7,.data⟩,⟨11,.chain⟩,⟨0,.phase⟩,⟨1,.phase⟩,⟨2,.phase⟩,⟨3,.phase⟩,⟨4,.phase⟩,⟨5,.phase⟩,⟨6,.phase⟩,⟨7,.phase⟩,⟨8,.textOnly .lateStores⟩,⟨9,.phase⟩,⟨10,.phase⟩,⟨11,.phase⟩],none⟩) rfl (fun K hK=>?_) AllReadyH.nil)
   obtain ⟨zc0,zf0⟩:=zAA z11 0 (x:=.int .i64 0) rfl
   obtain ⟨zc1,zf1⟩:=zAA z11 1 (x:=.int .i64 0) rfl
   obtain ⟨zc2,zf2⟩:=zAA z11 2 (x:=.int .i64 0) rfl
   obtain ⟨zc3,zf3⟩:=zAA z11 3 (x:=.int .i64 0) rfl
   go_simp
   clear zc0 zf0 zc1 zf1 zc2 zf2 zc3 zf3
   refine hK.out _ _ trivial (fun _=>?_)
   clear hK K
   (try simp only [sA,sB,sC])
   obtain ⟨A2,F2,G2⟩:=set4 (.int .i64 ka) (.int .i64 ta) (.int .i64 ha) (.int .i64 ea) z11
   replace G2:=G2 G1 l11
   replace A1:=(F2 p5 hpq).trans A1
   have ho2:=tabO_box ho z10 ((F1 q5 hpq.symm).symm.trans z11) (fun k h1 h2=>(F2 k h2).trans (F1 k h1))
   generalize ((((W1.setCell ⟨q5,0,none⟩ (.int .i64 ka)).setCell ⟨q5,1,none⟩ (.int .i64 ta)).setCell ⟨q5,2,none⟩ (.int .i64 ha)).setCell ⟨q5,3,none⟩ (.int .i64 ea))=W2 at A1 A2 G2 ho2 ⊢
   clear F1 F2 G1 z10 z11 ho
   refine wpAnyH_ready (rs:=[13]) (by kernel_rfl) (by simp) ?_
   refine (AllReadyH.cons (o:=⟨some 14,.assign (.tmp 51),3,"exact.go:4169",#[⟨8,.data⟩,⟨12,.chain⟩,⟨0,.phase⟩,⟨1,.phase⟩,⟨2,.phase⟩,⟨3,.phase⟩,⟨4,.phase⟩,⟨5,.phase⟩,⟨6,.phase⟩,⟨7,.phase⟩,⟨8,.phase⟩,⟨9,.phase⟩,⟨10,.phase⟩,⟨11,.phase⟩,⟨12,.phase⟩],none⟩) rfl (fun K hK=>?_) AllReadyH.nil)
   go_simp
   refine hK.out _ _ trivial (fun _=>?_)
   clear hK K
   (try simp only [sA,sB,sC])
   refine wpAnyH_done (by kernel_rfl) ?_ _
   dsimp only
   refine ⟨_,?_,?_,?_,?_,?_,?_,?_,?_,?_,?_,p5,q5,a5,c5,d5,e5,qs,rfl,A1,A2,ho2,l10,l11,G2⟩
   ·simp only [zBG,Act.put,sA,sB,sC]
    exact rfl
 rintro ts we ⟨t44,t45,t46,t47,t48,t43,t49,t50,t51,p5,q5,a5,c5,d5,e5,ps,rfl,H10⟩
 simp only [zBG,Act.put,sA,sB,sC]
 have H9:Hid (Below wd.heap.size wd we∧TabO we wd.heap.size (.slice a5 A.ls.length c5) (.slice d5 A.ss.length e5) A ps∧we.heap[p5]?=some (.cells #[.int .i64 A.tm,.int .i64 A.nx,.slice a5 A.ls.length c5,.slice d5 A.ss.length e5] 30 (0,0))∧wd.heap.size≤p5):=⟨H10.out.2.2.2.2.2,H10.out.2.2.1,H10.out.1,H10.out.2.2.2.1⟩
 have HQ5:Hid (we.heap[q5]?=some (.cells #[.int .i64 ka,.int .i64 ta,.int .i64 ha,.int .i64 ea] 38 (0,0))∧wd.heap.size≤q5):=⟨H10.out.2.1,H10.out.2.2.2.2.1⟩
 clear H10
 have B3e:Hid (Below u8.heap.size u8 we):=B34.out.trans (((HD.out we H9.out.1).2.2).mono B34.out.size)
 obtain ⟨p0,p1,p2,p3⟩:=tb4 (H9.out.2.2.1)
 obtain ⟨q0,q1,q2,q3⟩:=tb4 ((F6.out we B3e.out).1)
 have RR:Hid (TabR we (.slice a5 A.ls.length c5) (.slice d5 A.ss.length e5) A∧TabR we (.slice a3 A.ls.length c3) (.slice d3 A.ss.length e3) A):=⟨zBY H9.out.2.1,(F6.out we B3e.out).2.1⟩
 go_wp2_with fail
 refine (zBK A.tm A.nx _ _ _ _ A.ls A.ss _ RR.out.1.1 RR.out.1.2 RR.out.2.1 RR.out.2.2 HAB.out.1 HAB.out.2.1 HAB.out.2.2).mono ?_
 rintro e w6t ⟨rfl,bq⟩
 clear p0 p1 p2 p3 q0 q1 q2 q3 RR
 obtain ⟨p0,p1,p2,p3⟩:=an4 ((bq.block _ (Array.getElem?_eq_some_iff.1 (HQ5.out.1)).1).trans (HQ5.out.1))
 obtain ⟨q0,q1,q2,q3⟩:=an4 (FA.out w6t (B3e.out.trans (bq.mono B3e.out.size)))
 go_wp2_with fail
 refine (zBB ka ta ha ea _).mono ?_
 rintro e w6 ⟨rfl,bq2⟩
 replace bq:=bq.trans (bq2.mono bq.size)
 clear p0 p1 p2 p3 q0 q1 q2 q3 bq2
 have B6:Hid (Below wd.heap.size wd w6):=H9.out.1.trans (bq.mono H9.out.1.size)
 have K6:Hid (Below we.heap.size we w6):=bq
 clear bq B3e
 go_upto_region 13 with fail
 have HSA:Hid (∀ W,Below w6.heap.size w6 W→((W.cell? ⟨w.heap.size,0,none⟩=some (.int .i64 tm)∧W.cell? ⟨w.heap.size,1,none⟩=some (.int .i64 nx)∧W.cell? ⟨w.heap.size,2,none⟩=some vl∧W.cell? ⟨w.heap.size,3,none⟩=some vs)∧(W.cell? ⟨w4.heap.size,0,none⟩=some (.int .i64 tm)∧W.cell? ⟨w4.heap.size,1,none⟩=some (.int .i64 nx)∧W.cell? ⟨w4.heap.size,2,none⟩=some (.slice (some ⟨gl,0,none⟩) ls.length ls.length)∧W.cell? ⟨w4.heap.size,3,none⟩=some (.slice (some ⟨gs,0,none⟩) ss.length ss.length)))∧(RowL W vl ls∧RowS W vs ss)∧(RowL W (.slice (some ⟨gl,0,none⟩) ls.length ls.length) ls∧RowS W (.slice (some ⟨gs,0,none⟩) ss.length ss.length) ss)∧Below w4.heap.size w4 W):=fun W hW=>by
  have hW2:=B6.out.trans (hW.mono B6.out.size)
  obtain ⟨k1,k2,k3⟩:=HD.out W hW2
  obtain ⟨j1,j2,j3,j4⟩:=HCX.out W (F6.out W (B34.out.trans (k3.mono B34.out.size))).2.2
  exact ⟨⟨j1.1,k1⟩,⟨j2,j3⟩,k2,k3⟩
 obtain ⟨⟨⟨x0,x1,x2,x3⟩,⟨y0,y1,y2,y3⟩⟩,_,_,_⟩:=HSA.out w6 (Below.refl _ _)
 go_region_held (fun W=>(W.cell? ⟨w.heap.size,0,none⟩=some (.int .i64 tm)∧W.cell? ⟨w.heap.size,1,none⟩=some (.int .i64 nx)∧W.cell? ⟨w.heap.size,2,none⟩=some vl∧W.cell? ⟨w.heap.size,3,none⟩=some vs)∧(W.cell? ⟨w4.heap.size,0,none⟩=some (.int .i64 tm)∧W.cell? ⟨w4.heap.size,1,none⟩=some (.int .i64 nx)∧W.cell? ⟨w4.heap.size,2,none⟩=some (.slice (some ⟨gl,0,none⟩) ls.length ls.length)∧W.cell? ⟨w4.heap.size,3,none⟩=some (.slice (some ⟨gs,0,none⟩) ss.length ss.length))) (first | exact (HSA.out _ Qc.zAI).1 | exact (HSA.out _ B7.out).1 | exact (HSA.out _ B8.out).1)
  (first | (go_at_call 29;refine (toTable_any tm nx vl vs ls ss _ (HSA.out _ Qc.zAI).2.1.1 (HSA.out _ Qc.zAI).2.1.2 hl1 hl2 H4.out).mono ?_;rintro e w7 ⟨ul7,us7,rfl,c1,c2,b7⟩;have B7:Hid (Below w6.heap.size w6 w7):=Qc.zAI.trans b7;have R7:Hid (RowL w7 ul7 ls∧RowS w7 us7 ss):=⟨c1,c2⟩;clear c1 c2 b7;unfold tabV) | (go_at_call 31;refine (zBK tm nx _ _ _ _ ls ss _ (HSA.out _ B7.out).2.2.1.1 (HSA.out _ B7.out).2.2.1.2 R7.out.1 R7.out.2 hl1 hl2 H4.out).mono ?_;rintro e w8 ⟨rfl,b8⟩;have B8:Hid (Below w6.heap.size w6 w8):=B7.out.trans (b8.mono B7.out.size);clear b8))
 clear x0 x1 x2 x3 y0 y1 y2 y3 B7 R7
 obtain ⟨⟨_,⟨y0,y1,y2,y3⟩⟩,_,_,_⟩:=HSA.out w8 B8.out
 have B48:Hid (Below w4.heap.size w4 w8):=(HSA.out w8 B8.out).2.2.2
 have K8:Hid (Below we.heap.size we w8):=K6.out.trans (B8.out.mono K6.out.size)
 have G8:Hid (w8.heap[p5]?=some (.cells #[.int .i64 A.tm,.int .i64 A.nx,.slice a5 A.ls.length c5,.slice d5 A.ss.length e5] 30 (0,0))∧TabO w8 wd.heap.size (.slice a5 A.ls.length c5) (.slice d5 A.ss.length e5) A ps):=⟨(K8.out.block p5 (Array.getElem?_eq_some_iff.1 H9.out.2.2.1).1).trans H9.out.2.2.1,tabO_below H9.out.2.1 K8.out⟩
 have GQ8:Hid (w8.heap[q5]?=some (.cells #[.int .i64 ka,.int .i64 ta,.int .i64 ha,.int .i64 ea] 38 (0,0))):=(K8.out.block q5 (Array.getElem?_eq_some_iff.1 HQ5.out.1).1).trans HQ5.out.1
 clear B8 HSA HD B6 K6 K8
 go_wp2_with fail
 refine (Mw.zBS tm nx gl gs ls ss u8.heap.size w4.heap.size w8 (T4.out.below B48.out) hl1 hl2 H4.out B48.out.size).mono ?_
 rintro e w9 ⟨r9,rfl,m9⟩
 have hr9:¬ (r9:Int)<0:=by omega
 have G9:Hid (w9.heap[p5]?=some (.cells #[.int .i64 A.tm,.int .i64 A.nx,.slice a5 A.ls.length c5,.slice d5 A.ss.length e5] 30 (0,0))∧TabO w9 wd.heap.size (.slice a5 A.ls.length c5) (.slice d5 A.ss.length e5) A ps∧w9.heap[q5]?=some (.cells #[.int .i64 ka,.int .i64 ta,.int .i64 ha,.int .i64 ea] 38 (0,0))):=by
  have h1:=HSD.out
  have h2:=H9.out.2.2.2
  have h3:=HQ5.out.2
  exact ⟨(m9.block p5 (Array.getElem?_eq_some_iff.1 G8.out.1).1 (.inr (by omega))).trans G8.out.1,tabO_kept G8.out.2 (fun g hB hg=>m9.block g hg (.inr (by omega))),(m9.block q5 (Array.getElem?_eq_some_iff.1 GQ8.out).1 (.inr (by omega))).trans GQ8.out⟩
 have B39:Hid (Below u8.heap.size u8 w9):=(B34.out.trans (B48.out.mono B34.out.size)).trans (m9.below (Nat.le_trans B34.out.size B48.out.size))
 have HLE:Hid (u8.heap.size≤wd.heap.size):=by have h1:=HSD.out;have h2:=B34.out.size;show _≤_;omega
 clear m9 G8 GQ8 B48 B34 T4 y0 y1 y2 y3
 obtain ⟨p0,p1,p2,p3⟩:=tb4 (G9.out.1)
 obtain ⟨q0,q1,q2,q3⟩:=tb4 ((F6.out w9 B39.out).1)
 have RR:Hid (TabR w9 (.slice a5 A.ls.length c5) (.slice d5 A.ss.length e5) A∧TabR w9 (.slice a3 A.ls.length c3) (.slice d3 A.ss.length e3) A):=⟨zBY G9.out.2.1,(F6.out w9 B39.out).2.1⟩
 go_wp2_with fail
 refine (zBK A.tm A.nx _ _ _ _ A.ls A.ss _ RR.out.1.1 RR.out.1.2 RR.out.2.1 RR.out.2.2 HAB.out.1 HAB.out.2.1 HAB.out.2.2).mono ?_
 rintro e w10t ⟨rfl,bq⟩
 clear p0 p1 p2 p3 q0 q1 q2 q3 RR
 obtain ⟨p0,p1,p2,p3⟩:=an4 ((bq.block _ (Array.getElem?_eq_some_iff.1 (G9.out.2.2)).1).trans (G9.out.2.2))
 obtain ⟨q0,q1,q2,q3⟩:=an4 (FA.out w10t (B39.out.trans (bq.mono B39.out.size)))
 go_wp2_with fail
 refine (zBB ka ta ha ea _).mono ?_
 rintro e w10 ⟨rfl,bq2⟩
 replace bq:=bq.trans (bq2.mono bq.size)
 clear p0 p1 p2 p3 q0 q1 q2 q3 bq2
 have B3x:Hid (Below u8.heap.size u8 w10):=B39.out.trans (bq.mono B39.out.size)
 have HPS:Hid (ps.length=A.ls.length∧∀ m ∈ ps,m.1.ws.length≤1000):=by
  refine ⟨by rw [← G9.out.2.1.eq,List.length_map],fun m hm=>HSM.out.2.2 m.1 (by rw [← G9.out.2.1.eq];exact List.mem_map.2 ⟨m,hm,rfl⟩)⟩
 have G10:Hid (w10.heap[p5]?=some (.cells #[.int .i64 A.tm,.int .i64 A.nx,.slice a5 A.ls.length c5,.slice d5 A.ss.length e5] 30 (0,0))∧MemO w10 wd.heap.size (.slice a5 A.ls.length c5) (.slice d5 A.ss.length e5) ps A.ss∧wd.heap.size≤w10.heap.size∧p5<w10.heap.size):=by
  have hk:=(Array.getElem?_eq_some_iff.1 G9.out.1).1
  have h2:=H9.out.2.2.2
  have h3:=bq.size
  have o:=tabO_below G9.out.2.1 bq
  exact ⟨(bq.block p5 hk).trans G9.out.1,⟨o.ol,o.os,o.ow,o.ap⟩,by omega,by omega⟩
 have HOF:Hid (off ps 1 ps.length≤1000000):=off_small HPS.out.2 (by rw [HPS.out.1];exact HSM.out.1)
 clear bq B39 G9
 obtain ⟨p0,p1,p2,p3⟩:=tb4 G10.out.1
 go_wp2_with fail
 refine (Jn.zBS A.tm A.nx (.slice a5 A.ls.length c5) (.slice d5 A.ss.length e5) ps A.ss wd.heap.size w10 G10.out.2.1 G10.out.2.2.1 (by rw [HPS.out.1];exact HSM.out.1) HPS.out.2 HSM.out.2.1).mono ?_
 rintro e w11 ⟨rfl,hh,b11,k11⟩
 have G11:Hid (w11.heap[p5]?=some (.cells #[.int .i64 A.tm,.int .i64 A.nx,.slice a5 A.ls.length c5,.slice d5 A.ss.length e5] 30 (0,0))∧HeldT w11 (.slice a5 A.ls.length c5) (.slice d5 A.ss.length e5) ps A.ss 1∧Below u8.heap.size u8 w11) :=
  ⟨k11 p5 _ G10.out.1,hh,B3x.out.trans (b11.mono HLE.out)⟩
 obtain ⟨Z,HZ⟩ : ∃ Z:Nat,Hid (off ps 1 ps.length+A.ss.length * 6=Z):=⟨_,rfl⟩
 have hml:¬ ((Z:Int)<0):=by omega
 have hmm:((Z:Int) != (Z:Int))=false:=by simp
 rw [HZ.out]
 clear hh b11 k11 G10 B3x p0 p1 p2 p3
 obtain ⟨p0,p1,p2,p3⟩:=tb4 G11.out.1
 have HHT:Hid (∀ W,HeldT W (.slice a5 A.ls.length c5) (.slice d5 A.ss.length e5) ps A.ss 1→Calls Tryz.prog 34 #[.agg #[.int .i64 A.tm,.int .i64 A.nx,.slice a5 A.ls.length c5,.slice d5 A.ss.length e5],.int .i64 1] W fun e w'=>e=.returned (.int .i64 (Z:Int))∧Below W.heap.size W w'):=fun W hW=>by
  rw [← HZ.out]
  exact heldTable_any A.tm A.nx (.slice a5 A.ls.length c5) (.slice d5 A.ss.length e5) ps A.ss W hW (by rw [HPS.out.1];exact HSM.out.1) HPS.out.2 HSM.out.2.1
 go_wp2_with fail
 refine (HHT.out w11 G11.out.2.1).mono ?_
 rintro e w12 ⟨rfl,b12⟩
 have G12:Hid (w12.heap[p5]?=some (.cells #[.int .i64 A.tm,.int .i64 A.nx,.slice a5 A.ls.length c5,.slice d5 A.ss.length e5] 30 (0,0))∧HeldT w12 (.slice a5 A.ls.length c5) (.slice d5 A.ss.length e5) ps A.ss 1∧Below u8.heap.size u8 w12):=⟨(b12.block p5 (Array.getElem?_eq_some_iff.1 G11.out.1).1).trans G11.out.1,G11.out.2.1.below b12,G11.out.2.2.trans (b12.mono G11.out.2.2.size)⟩
 have H12:Hid (Below wb.heap.size wb w12):=(F6.out w12 G12.out.2.2).2.2
 clear b12 G11 p0 p1 p2 p3
 go_upto_region 27 with fail
 refine cutL [18,19,20,106,107,108,109,110,111,105,112,113,114] (fun ts W=>∃ t106 t107 t108 t109 t110 t111 t105 t112 t113 t114 p14 q14 a14 c14 d14 e14 qs,ts=[.pointer (some ⟨p14,0,none⟩),.pointer (some ⟨q14,0,none⟩),.int .i64 code,t106,t107,t108,t109,t110,t111,t105,t112,t113,t114]∧Hid (W.heap[p14]?=some (.cells #[.int .i64 A.tm,.int .i64 A.nx,.slice a14 A.ls.length c14,.slice d14 A.ss.length e14] 30 (0,0))∧W.heap[q14]?=some (.cells #[.int .i64 ka,.int .i64 ta,.int .i64 ha,.int .i64 ea] 38 (0,0))∧TabO W w12.heap.size (.slice a14 A.ls.length c14) (.slice d14 A.ss.length e14) A qs∧w12.heap.size≤p14∧w12.heap.size≤q14∧Below w12.heap.size w12 W)) ?_ ?_
 ·refine zBE 12 3 #[true,true,true,true,true,true,true,true,true,true,true,true,false,false,false] (pick [eqv (.agg #[.int .i64 tm,.int .i64 nx,vl,vs]),tabP (⟨tm,nx,ls,ss⟩ : Tab),eqv (.int .i64 now),eqv (.agg #[.int .i64 r.cl,.int .i64 r.st,.int .i64 r.kd,.int .i64 r.le,.string r.nm]),eqv (.agg #[.int .i64 r.cl,.int .i64 r.st,.int .i64 r.kd,.int .i64 r.le,.string r.nm]),resO w12.heap.size A (.agg #[.int .i64 ka,.int .i64 ta,.int .i64 ha,.int .i64 ea]) code,resO w12.heap.size A (.agg #[.int .i64 ka,.int .i64 ta,.int .i64 ha,.int .i64 ea]) code,ownQ w12.heap.size A,eqv (.agg #[.int .i64 ka,.int .i64 ta,.int .i64 ha,.int .i64 ea]),eqv (.int .i64 code),box w12.heap.size #[.int .i64 0,.int .i64 0,.slice none 0 0,.slice none 0 0] 30,box w12.heap.size #[.int .i64 0,.int .i64 0,.int .i64 0,.int .i64 0] 38]) (by kernel_rfl) [8,9] (by kernel_rfl) (fun _ _ _ _ h=>h) (by kernel_rfl) (by kernel_rfl) (stay_pick ⟨zAb _,st_tabP _,zAb _,zAb _,zAb _,st_resO _ _ _ _,st_resO _ _ _ _,st_ownQ _ _,zAb _,zAb _,zBW _ _ _,zBW _ _ _,trivial⟩) [0,1,2,3,4,5,6,7,10,11] (by kernel_rfl) ?_ ?_ ?_
  ·refine Steps.cons (o:=⟨some 106,.load 66 (.tmp 3),66,"exact.go:4191",#[],none⟩) rfl (fun a W g hp hf K hK=>?_) ?_
   ·have e:a.tmps[3]?=some (.pointer (some ⟨w.heap.size,0,none⟩)):=hf 3 (by kernel_rfl)
    obtain ⟨x0,x1,x2,x3⟩:=(HSS.out W (H12.out.trans (g.mono H12.out.size))).1
    go_simp
    exact hK _ _ (Below.refl _ _) rfl
   refine Steps.cons (o:=⟨some 107,.call { callee:=Callee.value (Operand.func 29),args:=#[Operand.tmp 106],argTypes:=#[66] },30,"exact.go:4191",#[⟨0,.data⟩],none⟩) rfl (fun a W g hp hf K hK=>?_) ?_
   ·obtain ⟨v,e,rfl⟩:=hp 0 106 (by kernel_rfl) (by kernel_rfl)
    have HK:=HTT.out W (H12.out.trans (g.mono H12.out.size))
    go_simp
    go_at_call 29
    refine HK.mono ?_
    rintro e w' ⟨ul,us,rfl,hh⟩
    try go_simp
    exact hK _ _ hh.out.2.1 ⟨ul,us,rfl,hh.out.1⟩
   refine Steps.cons (o:=⟨some 108,.move (.tmp 1),3,"exact.go:4191",#[],none⟩) rfl (fun a W g hp hf K hK=>?_) ?_
   ·have e:a.tmps[1]?=some (.int .i64 now):=hf 1 (by kernel_rfl)
    go_simp
    exact hK _ _ (Below.refl _ _) rfl
   refine Steps.cons (o:=⟨some 109,.load 67 (.tmp 5),67,"exact.go:4191",#[],none⟩) rfl (fun a W g hp hf K hK=>?_) ?_
   ·have e:a.tmps[5]?=some (.pointer (some ⟨w.heap.size+1,0,none⟩)):=hf 5 (by kernel_rfl)
    obtain ⟨_,y0,y1,y2,y3,y4⟩:=HSS.out W (H12.out.trans (g.mono H12.out.size))
    go_simp
    exact hK _ _ (Below.refl _ _) rfl
   refine Steps.cons (o:=⟨some 110,.call { callee:=Callee.value (Operand.func 30),args:=#[Operand.tmp 109],argTypes:=#[67] },42,"exact.go:4191",#[⟨3,.data⟩,⟨1,.chain⟩],none⟩) rfl (fun a W g hp hf K hK=>?_) ?_
   ·obtain ⟨v,e,rfl⟩:=hp 3 109 (by kernel_rfl) (by kernel_rfl)
    have HK:=HTQ.out W (H12.out.trans (g.mono H12.out.size))
    go_simp
    go_at_call 30
    refine HK.mono ?_
    rintro e w' ⟨rfl,hh⟩
    try go_simp
    exact hK _ _ hh.out.1 rfl
   refine Steps.cons (o:=⟨some 111,.call { callee:=Callee.value (Operand.func 16),args:=#[Operand.tmp 107,Operand.tmp 108,Operand.tmp 110],argTypes:=#[30,3,42] },39,"exact.go:4191",#[⟨1,.data⟩,⟨2,.data⟩,⟨4,.data⟩,⟨4,.chain⟩],none⟩) rfl (fun a W g hp hf K hK=>?_) ?_
   ·obtain ⟨v1,e1,ul,us,rfl,h1⟩:=hp 1 107 (by kernel_rfl) (by kernel_rfl)
    obtain ⟨v2,e2,rfl⟩:=hp 2 108 (by kernel_rfl) (by kernel_rfl)
    obtain ⟨v4,e4,rfl⟩:=hp 4 110 (by kernel_rfl) (by kernel_rfl)
    have HK:=HIM.out W ul us h1 (H12.out.trans (g.mono H12.out.size))
    unfold tabV at e1
    go_simp
    go_at_call 16
    refine HK.mono ?_
    rintro e w' ⟨v,rfl,hh⟩
    try go_simp
    obtain ⟨⟨ul',us',qs,rfl,ho⟩,hb⟩:=hh.out
    exact hK _ _ hb ⟨ul',us',qs,rfl,tabO_mono ho g.size⟩
   refine Steps.cons (o:=⟨some 105,.move (.tmp 111),39,"exact.go:4191",#[⟨5,.data⟩],none⟩) rfl (fun a W g hp hf K hK=>?_) ?_
   ·obtain ⟨v,e,ul,us,qs,rfl,ho⟩:=hp 5 111 (by kernel_rfl) (by kernel_rfl)
    go_simp
    exact hK _ _ (Below.refl _ _) ⟨ul,us,qs,rfl,ho⟩
   refine Steps.cons (o:=⟨some 112,.extract (.tmp 105) 0,30,"exact.go:4191",#[⟨6,.data⟩],none⟩) rfl (fun a W g hp hf K hK=>?_) ?_
   ·obtain ⟨v,e,ul,us,qs,rfl,ho⟩:=hp 6 105 (by kernel_rfl) (by kernel_rfl)
    go_simp
    exact hK _ _ (Below.refl _ _) ⟨ul,us,qs,rfl,ho⟩
   refine Steps.cons (o:=⟨some 18,.alloc 30,0,"exact.go:4191",#[],none⟩) rfl (fun a W g hp hf K hK=>?_) ?_
   ·go_simp
    exact hK _ _ (zAD _ _) (box_new _ _ g.size)
   refine Steps.cons (o:=⟨some 19,.alloc 38,0,"exact.go:4191",#[],none⟩) rfl (fun a W g hp hf K hK=>?_) ?_
   ·go_simp
    exact hK _ _ (zAD _ _) (box_new _ _ g.size)
   exact Steps.nil
  ·refine QSteps.cons (o:=⟨some 113,.extract (.tmp 105) 1,38,"exact.go:4191",#[⟨6,.data⟩,⟨12,.gcOnly .lateStores⟩],none⟩) rfl (fun a W g hp hf=>?_) ?_
   ·obtain ⟨v,e,ul,us,qs,rfl,ho⟩:=hp 6 105 (by kernel_rfl) (by kernel_rfl)
    exact ⟨_,fun w'=>by go_simp,rfl⟩
   refine QSteps.cons (o:=⟨some 114,.extract (.tmp 105) 2,3,"exact.go:4191",#[⟨6,.data⟩,⟨13,.gcOnly .lateStores⟩],none⟩) rfl (fun a W g hp hf=>?_) ?_
   ·obtain ⟨v,e,ul,us,qs,rfl,ho⟩:=hp 6 105 (by kernel_rfl) (by kernel_rfl)
    exact ⟨_,fun w'=>by go_simp,rfl⟩
   exact QSteps.nil
  ·intro a W g hv hf hsz hdf
   obtain ⟨vaT,eaT,paT⟩:=hv 0 106 (by decide) (by kernel_rfl)
   obtain ⟨vtT,etT,ptT⟩:=hv 1 107 (by decide) (by kernel_rfl)
   obtain ⟨vnow,enow,pnow⟩:=hv 2 108 (by decide) (by kernel_rfl)
   obtain ⟨vld,eld,pld⟩:=hv 3 109 (by decide) (by kernel_rfl)
   obtain ⟨vrq,erq,prq⟩:=hv 4 110 (by decide) (by kernel_rfl)
   obtain ⟨vcall,ecall,pcall⟩:=hv 5 111 (by decide) (by kernel_rfl)
   obtain ⟨vmv,emv,pmv⟩:=hv 6 105 (by decide) (by kernel_rfl)
   obtain ⟨vx0,ex0,px0⟩:=hv 7 112 (by decide) (by kernel_rfl)
   obtain ⟨vx1,ex1,px1⟩:=hv 8 113 (by decide) (by kernel_rfl)
   obtain ⟨vx2,ex2,px2⟩:=hv 9 114 (by decide) (by kernel_rfl)
   obtain ⟨vb0,eb0,pb0⟩:=hv 10 18 (by decide) (by kernel_rfl)
   obtain ⟨vb1,eb1,pb1⟩:=hv 11 19 (by decide) (by kernel_rfl)
   have ha:=put_eq [106,107,108,109,110,111,105,112,113,114,18,19] [vaT,vtT,vnow,vld,vrq,vcall,vmv,vx0,vx1,vx2,vb0,vb1] _ hsz hdf (fun d hd=>hf d (not_dst (ks:=[106,107,108,109,110,111,105,112,113,114,18,19]) (by kernel_rfl) hd)) ⟨eaT,etT,enow,eld,erq,ecall,emv,ex0,ex1,ex2,eb0,eb1,trivial⟩
   clear eaT etT enow eld erq ecall emv ex0 ex1 ex2 eb0 eb1 hv hf hsz hdf
   subst ha
   obtain ⟨ul,us,qs,rfl,ho⟩ : ownQ w12.heap.size A vx0 W:=px0
   obtain rfl:vx1=.agg #[.int .i64 ka,.int .i64 ta,.int .i64 ha,.int .i64 ea]:=px1
   obtain rfl:vx2=.int .i64 code:=px2
   obtain ⟨p14,rfl,l10,z10⟩ : box w12.heap.size #[.int .i64 0,.int .i64 0,.slice none 0 0,.slice none 0 0] 30 vb0 W:=pb0
   obtain ⟨q14,rfl,l11,z11⟩ : box w12.heap.size #[.int .i64 0,.int .i64 0,.int .i64 0,.int .i64 0] 38 vb1 W:=pb1
   clear paT ptT pnow pld prq pcall pmv
   unfold tabV
   obtain ⟨a14,c14,rfl⟩:=RowG.slice (zBY ho).1
   obtain ⟨d14,e14,rfl⟩:=RowG.slice (zBY ho).2
   have hpq:p14 ≠ q14:=ty_ne z10 z11 (by decide)
   simp only [zBG,Act.put,sA,sB,sC]
   refine wpAnyH_ready (rs:=[12]) (by kernel_rfl) (by simp) ?_
   refine (AllReadyH.cons (o:=⟨none,.store 30 (.tmp 18) (.tmp 112),0,"exact.go:4191",#[⟨10,.data⟩,⟨7,.data⟩,⟨5,.chain⟩,⟨0,.phase⟩,⟨1,.phase⟩,⟨2,.phase⟩,⟨3,.phase⟩,⟨4,.phase⟩,⟨5,.phase⟩,⟨6,.phase⟩,⟨7,.phase⟩,⟨8,.textOnly .lateStores⟩,⟨9,.textOnly .lateStores⟩,⟨10,.phase⟩,⟨11,.phase⟩],none⟩) rfl (fun K hK=>?_) AllReadyH.nil)
   obtain ⟨zc0,zf0⟩:=zAA z10 0 (x:=.int .i64 0) rfl
   obtain ⟨zc1,zf1⟩:=zAA z10 1 (x:=.int .i64 0) rfl
   obtain ⟨zc2,zf2⟩:=zAA z10 2 (x:=.slice none 0 0) rfl
   obtain ⟨zc3,zf3⟩:=zAA z10 3 (x:=.slice none 0 0) rfl
   go_simp
   clear zc0 zf0 zc1 zf1 zc2 zf2 zc3 zf3
   refine hK.out _ _ trivial (fun _=>?_)
   clear hK K
   (try simp only [sA,sB,sC])
   obtain ⟨A1,F1,G1⟩:=set4 (.int .i64 A.tm) (.int .i64 A.nx) (.slice a14 A.ls.length c14) (.slice d14 A.ss.length e14) z10
   replace G1:=G1 g l10
   replace z11:=(F1 q14 hpq.symm).trans z11
   generalize ((((W.setCell ⟨p14,0,none⟩ (.int .i64 A.tm)).setCell ⟨p14,1,none⟩ (.int .i64 A.nx)).setCell ⟨p14,2,none⟩ (.slice a14 A.ls.length c14)).setCell ⟨p14,3,none⟩ (.slice d14 A.ss.length e14))=W1 at A1 F1 G1 z11 ⊢
   refine wpAnyH_ready (rs:=[13]) (by kernel_rfl) (by simp) ?_
   refine (AllReadyH.cons (o:=⟨none,.store 38 (.tmp 19) (.tmp 113),0,"exact.go:4191",#[⟨11,.data⟩,⟨8,.data⟩,⟨12,.chain⟩,⟨0,.phase⟩,⟨1,.phase⟩,⟨2,.phase⟩,⟨3,.phase⟩,⟨4,.phase⟩,⟨5,.phase⟩,⟨6,.phase⟩,⟨7,.phase⟩,⟨8,.phase⟩,⟨9,.textOnly .lateStores⟩,⟨10,.phase⟩,⟨11,.phase⟩,⟨12,.phase⟩],none⟩) rfl (fun K hK=>?_) AllReadyH.nil)
   obtain ⟨zc0,zf0⟩:=zAA z11 0 (x:=.int .i64 0) rfl
   obtain ⟨zc1,zf1⟩:=zAA z11 1 (x:=.int .i64 0) rfl
   obtain ⟨zc2,zf2⟩:=zAA z11 2 (x:=.int .i64 0) rfl
   obtain ⟨zc3,zf3⟩:=zAA z11 3 (x:=.int .i64 0) rfl
   go_simp
   clear zc0 zf0 zc1 zf1 zc2 zf2 zc3 zf3
   refine hK.out _ _ trivial (fun _=>?_)
   clear hK K
   (try simp only [sA,sB,sC])
   obtain ⟨A2,F2,G2⟩:=set4 (.int .i64 ka) (.int .i64 ta) (.int .i64 ha) (.int .i64 ea) z11
   replace G2:=G2 G1 l11
   replace A1:=(F2 p14 hpq).trans A1
   have ho2:=tabO_box ho z10 ((F1 q14 hpq.symm).symm.trans z11) (fun k h1 h2=>(F2 k h2).trans (F1 k h1))
   generalize ((((W1.setCell ⟨q14,0,none⟩ (.int .i64 ka)).setCell ⟨q14,1,none⟩ (.int .i64 ta)).setCell ⟨q14,2,none⟩ (.int .i64 ha)).setCell ⟨q14,3,none⟩ (.int .i64 ea))=W2 at A1 A2 G2 ho2 ⊢
   clear F1 F2 G1 z10 z11 ho
   refine wpAnyH_ready (rs:=[14]) (by kernel_rfl) (by simp) ?_
   refine (AllReadyH.cons (o:=⟨some 20,.assign (.tmp 114),3,"exact.go:4191",#[⟨9,.data⟩,⟨13,.chain⟩,⟨0,.phase⟩,⟨1,.phase⟩,⟨2,.phase⟩,⟨3,.phase⟩,⟨4,.phase⟩,⟨5,.phase⟩,⟨6,.phase⟩,⟨7,.phase⟩,⟨8,.phase⟩,⟨9,.phase⟩,⟨10,.phase⟩,⟨11,.phase⟩,⟨12,.phase⟩,⟨13,.phase⟩],none⟩) rfl (fun K hK=>?_) AllReadyH.nil)
   go_simp
   refine hK.out _ _ trivial (fun _=>?_)
   clear hK K
   (try simp only [sA,sB,sC])
   refine wpAnyH_done (by kernel_rfl) ?_ _
   dsimp only
   refine ⟨_,?_,?_,?_,?_,?_,?_,?_,?_,?_,?_,?_,p14,q14,a14,c14,d14,e14,qs,rfl,A1,A2,ho2,l10,l11,G2⟩
   ·simp only [zBG,Act.put,sA,sB,sC]
    exact rfl
 rintro ts wf ⟨t106,t107,t108,t109,t110,t111,t105,t112,t113,t114,p14,q14,a14,c14,d14,e14,qs,rfl,G15⟩
 simp only [zBG,Act.put,sA,sB,sC]
 have B3f:Hid (Below u8.heap.size u8 wf):=G12.out.2.2.trans (G15.out.2.2.2.2.2.mono G12.out.2.2.size)
 obtain ⟨p0,p1,p2,p3⟩:=tb4 (G15.out.1)
 obtain ⟨q0,q1,q2,q3⟩:=tb4 ((F6.out wf B3f.out).1)
 have RR:Hid (TabR wf (.slice a14 A.ls.length c14) (.slice d14 A.ss.length e14) A∧TabR wf (.slice a3 A.ls.length c3) (.slice d3 A.ss.length e3) A):=⟨zBY G15.out.2.2.1,(F6.out wf B3f.out).2.1⟩
 go_wp2_with fail
 refine (zBK A.tm A.nx _ _ _ _ A.ls A.ss _ RR.out.1.1 RR.out.1.2 RR.out.2.1 RR.out.2.2 HAB.out.1 HAB.out.2.1 HAB.out.2.2).mono ?_
 rintro e w16t ⟨rfl,bq⟩
 clear p0 p1 p2 p3 q0 q1 q2 q3 RR
 obtain ⟨p0,p1,p2,p3⟩:=an4 ((bq.block _ (Array.getElem?_eq_some_iff.1 (G15.out.2.1)).1).trans (G15.out.2.1))
 obtain ⟨q0,q1,q2,q3⟩:=an4 (FA.out w16t (B3f.out.trans (bq.mono B3f.out.size)))
 go_wp2_with fail
 refine (zBB ka ta ha ea _).mono ?_
 rintro e w16 ⟨rfl,bq2⟩
 replace bq:=bq.trans (bq2.mono bq.size)
 clear p0 p1 p2 p3 q0 q1 q2 q3 bq2
 have K16:Hid (Below w12.heap.size w12 w16):=G15.out.2.2.2.2.2.trans (bq.mono G15.out.2.2.2.2.2.size)
 have G16:Hid (w16.heap[p5]?=some (.cells #[.int .i64 A.tm,.int .i64 A.nx,.slice a5 A.ls.length c5,.slice d5 A.ss.length e5] 30 (0,0))∧HeldT w16 (.slice a5 A.ls.length c5) (.slice d5 A.ss.length e5) ps A.ss 1∧Below u8.heap.size u8 w16):=⟨(K16.out.block p5 (Array.getElem?_eq_some_iff.1 G12.out.1).1).trans G12.out.1,G12.out.2.1.below K16.out,G12.out.2.2.trans (K16.out.mono G12.out.2.2.size)⟩
 clear bq K16 G12 G15 B3f
 obtain ⟨p0,p1,p2,p3⟩:=tb4 G16.out.1
 go_wp2_with fail
 refine (HHT.out w16 G16.out.2.1).mono ?_
 rintro e w17 ⟨rfl,b17⟩
 have HF:Hid (Below w.heap.size w w17):=(HCX.out w17 (F6.out w17 (G16.out.2.2.trans (b17.mono G16.out.2.2.size))).2.2).2.2.2
 clear b17 G16 p0 p1 p2 p3 HHT
 go_wp2_with fail
 go_ret
 exact ⟨rfl,HF.out⟩
theorem walk (t:Tab) (vl vs:Value) (w:World) (hl:RowL w vl t.ls) (hs:RowS w vs t.ss) (y:t.ls.length≤maxLen) (z:t.ss.length≤maxLen) (m:∀ x ∈ t.ls,LkZ x) (now:Int) {q1:Prop} (_h1:q1) (c st k l:Int) (n:ByteArray) (hn:n.size≤maxLen) :
 Calls Tryz.prog 6 #[tabV t.tm t.nx vl vs,.int .i64 now,reqV c st k l n] w fun e w'=>e=.returned (.bool true)∧Below w.heap.size w w' :=
 walk0 t vl vs w hl hs y z m now ⟨k,c,st,n,l⟩ hn
/-! ### THE ROW's STEP -/
set_option maxRecDepth 100000 in
theorem lifted (os:Os) (started:os.Started) (H:Type) (enc:TypeId × Value→H) :
 ReturnsInHanded {} Tryz.checked os 6 .any (Rows.fnExactApplyRequestSpec.pre6 enc Tryz.prog Tryz.f6 Rows.fnExactApplyRequestRow.domain false) (Rows.fnExactApplyRequestSpec.post enc Tryz.prog Tryz.f6 false true false false):=by
 refine returnsInHanded_of_change (C:=Tryz.checked) own started (by kernel_rfl) Tryz.func6
  (ChangeSpec.witness6 (enc:=enc) (C:=Tryz.checked) false ⟨#[],#[.agg #[.int .i64 0,.int .i64 0,.slice none 0 0,.slice none 0 0],.int .i64 0,.agg #[.int .i64 0,.int .i64 0,.int .i64 0,.int .i64 0,.string ByteArray.empty]],[]⟩ 8 (by kernel_rfl) (by kernel_rfl) (by kernel_rfl) (by kernel_rfl)) ?_
 intro W base args ds gs before hval0 hW hcnd _
 have hval:∀ (j:Nat) t v,Tryz.f6.params[j]?=some t→args[j]?=some v→Value.okWide Tryz.prog W .any base t v:=hval0
 have hW':=hW
 obtain ⟨p,q,hA0,hV,rfl,hfz,hnd⟩:=hW
 have hA:DataW.TrodAll enc Tryz.prog W 0 (fun _=>true) true Tryz.f6.params.toList args.toList ds p:=hA0
 rw [Tryz.params6] at hA hval
 obtain ⟨v0,vs0,d0,ds0,p0,q0,hargs,rfl,rfl,h0,r0⟩:=trodAll_cons hA
 obtain ⟨v1,vs1,d1,ds1,p1,q1,rfl,rfl,rfl,h1,r1⟩:=trodAll_cons r0
 obtain ⟨v2,vs2,d2,ds2,p2,q2,rfl,rfl,rfl,h2,r2⟩:=trodAll_cons r1
 obtain ⟨rfl,rfl,rfl⟩:=trodAll_nil r2
 obtain rfl:args=#[v0,v1,v2]:=by cases args;simp_all
 obtain ⟨rfl,rfl⟩:=trodVars_none hV
 have k00:=h0
 have lt0:∀ x ∈ p0,x.block<W.heap.size:=by obtain ⟨m,hm⟩:=k00;exact DataW.trod_lt m _ _ _ hm
 obtain ⟨t0,vl0,vs0,rfl,wl0,ws0,y0,z0,m0⟩:=Op.open_table (hval 0 66 v0 rfl rfl) h0
 have k10:=h1
 have lt1:∀ x ∈ p1,x.block<W.heap.size:=by obtain ⟨m,hm⟩:=k10;exact DataW.trod_lt m _ _ _ hm
 obtain ⟨i1,rfl,rfl,rfl,z1⟩:=open_int Tryz.underlying3 (hval 1 3 v1 rfl rfl) h1
 have k20:=h2
 have lt2:∀ x ∈ p2,x.block<W.heap.size:=by obtain ⟨m,hm⟩:=k20;exact DataW.trod_lt m _ _ _ hm
 obtain ⟨c2,st2,k2,l2,n2,rfl,hn2⟩:=Op.open_req (hval 2 67 v2 rfl rfl) h2
 clear hA0 hval0
 refine (walk t0 vl0 vs0 W wl0 ws0 y0 z0 m0 i1 z1 c2 st2 k2 l2 n2 hn2).mono fun e W' ⟨he,bel⟩=>?_
 subst he
 exact ⟨_,rfl,_,_,_,[],_,[],hW',trodAll_mk1 (shut_bool Tryz.underlying4 _),(trodAll_cons_mk (Below.trod laidOut (by kernel_rfl) (of_decide_eq_true (by kernel_rfl)) k00 bel lt0) (trodAll_cons_mk (Below.trod laidOut (by kernel_rfl) (of_decide_eq_true (by kernel_rfl)) k10 bel lt1) (trodAll_cons_mk (Below.trod laidOut (by kernel_rfl) (of_decide_eq_true (by kernel_rfl)) k20 bel lt2) trodAll_mk0))),rfl,bel.frame _,fun h=>by cases h⟩
theorem over:Rows.fnExactApplyRequestRow.holds Tryz.pinned (OpenSpec.ofChange Rows.fnExactApplyRequestSpec) :=
 OpenClaim.holds_of_wide 6 Tryz.f6 rfl rfl rfl rfl rfl rfl rfl ⟨rfl,rfl,rfl,rfl,rfl⟩ rfl rfl rfl rfl rfl (by kernel_rfl) Tryz.func6 (by kernel_rfl)
  (of_decide_eq_true (by kernel_rfl)) (by unfold Func.isWrapper;first | (rw [if_pos (by decide +kernel)];kernel_rfl) | (rw [if_neg (by decide +kernel)];exact ⟨rfl,rfl⟩))
  (fun os started H enc _=>lifted os started H enc)
end Go.Proofs.YticokpbelgpfmaaGreat.fnExactApplyRequest
namespace Go.Proofs.YticokpbelgpfmaaGreat
/-- THE STATEMENT. -/
theorem fnExactApplyRequest_holds:Rows.FnExactApplyRequestSaid:=fnExactApplyRequest.over
end Go.Proofs.YticokpbelgpfmaaGreat
