/- Texts put together: Jq, Ed, Jr. -/
import Derived.Test.YticokpbelgpfmaaGreatMa16
namespace Go.Proofs.YticokpbelgpfmaaGreat.Jn
open Go.RowKit By Ap Tb Tw
open Mw (mtext zAi Wr Wr.lt Wr.below Wr.set Wr.cell zAU zAd zAy zAx Mid Mid.refl Mid.trans Mid.set Mid.below)
open Wa (OwnS OwnS.kept OwnS.lt OwnS.slice OwnS.below)
open Lo (LkA uV OwnL OwnL.kept OwnL.lt OwnL.slice zAG zAK clL atL Apart)
open Tx (zAA zAC zAE zAD zAL)
open Jb (OwnO OwnO.kept OwnO.lt)
structure MemO (W:World) (B:Nat) (v2 v3:Value) (ms:List LkA) (ss:List Sn):Prop where
 ol:OwnL W B v2 ms
 os:OwnS W B v3 ss
 ow:∀ m ∈ ms,OwnO W B (uV m) m.1.ws
 ap:Apart ms
theorem MemO.kept {W W':World} {B:Nat} {v2 v3:Value} {ms:List LkA} {ss:List Sn} (h:MemO W B v2 v3 ms ss) (hk:∀ g,B≤g→g<W.heap.size→W'.heap[g]?=W.heap[g]?):MemO W' B v2 v3 ms ss :=
 ⟨h.ol.kept fun g hg=>hk g (h.ol.lt g hg).1 (h.ol.lt g hg).2,h.os.kept fun g hg=>hk g (h.os.lt g hg).1 (h.os.lt g hg).2,fun m hm=>(h.ow m hm).kept fun g hg=>hk g ((h.ow m hm).lt g hg).1 ((h.ow m hm).lt g hg).2,h.ap⟩
theorem own_blockO {W:World} {B:Nat} {v:Value} {ws:List Wt} (h:OwnO W B v ws) {g:Nat} (hg:v.ownBlock=some g):∃ c,W.heap[g]?=some (.cells c 153 (0,0)):=by
 rcases h with ⟨rfl,_⟩ | ⟨k,o,cap,cur,rfl,_,h2,_⟩
 ·cases hg
 ·cases hg
  exact ⟨cur,h2⟩
theorem nilL_mark (ad:Option Addr) (cap a:Nat) (w:World):Calls Tryz.prog 81 #[.slice ad 0 cap,.int .i64 a] w fun e w'=>e=.returned (.int .i64 (a:Int))∧w'=w:=by
 go_enter Tryz.func81,Tryz.ntmps81
 go_wp2_with fail
 go_loopw [1,5] (fun k i wr=>k=.int .i64 (a:Int)∧i=.int .i64 0∧wr=w) (fun _ _ _=>0)
 case atStart=>exact ⟨rfl,rfl,rfl⟩
 case round =>
  obtain ⟨rfl,rfl,rfl⟩:=hrel
  go_wp2
  go_ret
  exact ⟨rfl,rfl⟩
theorem nilL_held (ad:Option Addr) (cap a:Nat) (w:World):Calls Tryz.prog 83 #[.slice ad 0 cap,.int .i64 a] w fun e w'=>e=.returned (.int .i64 (a:Int))∧w'=w:=by
 go_enter Tryz.func83,Tryz.ntmps83
 go_wp2_with fail
 go_loopw [1,5] (fun k i wr=>k=.int .i64 (a:Int)∧i=.int .i64 0∧wr=w) (fun _ _ _=>0)
 case atStart=>exact ⟨rfl,rfl,rfl⟩
 case round =>
  obtain ⟨rfl,rfl,rfl⟩:=hrel
  go_wp2
  go_ret
  exact ⟨rfl,rfl⟩
theorem nilS_mark (ad:Option Addr) (cap a:Nat) (w:World):Calls Tryz.prog 82 #[.slice ad 0 cap,.int .i64 a] w fun e w'=>e=.returned (.int .i64 (a:Int))∧w'=w:=by
 go_enter Tryz.func82,Tryz.ntmps82
 go_wp2_with fail
 go_loopw [1,5] (fun k i wr=>k=.int .i64 (a:Int)∧i=.int .i64 0∧wr=w) (fun _ _ _=>0)
 case atStart=>exact ⟨rfl,rfl,rfl⟩
 case round =>
  obtain ⟨rfl,rfl,rfl⟩:=hrel
  go_wp2
  go_ret
  exact ⟨rfl,rfl⟩
theorem nilS_held (ad:Option Addr) (cap a:Nat) (w:World):Calls Tryz.prog 84 #[.slice ad 0 cap,.int .i64 a] w fun e w'=>e=.returned (.int .i64 (a:Int))∧w'=w:=by
 go_enter Tryz.func84,Tryz.ntmps84
 go_wp2_with fail
 go_loopw [1,5] (fun k i wr=>k=.int .i64 (a:Int)∧i=.int .i64 0∧wr=w) (fun _ _ _=>0)
 case atStart=>exact ⟨rfl,rfl,rfl⟩
 case round =>
  obtain ⟨rfl,rfl,rfl⟩:=hrel
  go_wp2
  go_ret
  exact ⟨rfl,rfl⟩
theorem mt_of {W:World} {B a:Nat} {v2 v3:Value} {ms:List LkA} {ss:List Sn} (h:MemO W B v2 v3 ms ss) (hne:ms.length ≠ 0):∃ gl cap,v2=.slice (some ⟨gl,0,none⟩) ms.length cap∧B≤gl∧(∃ c,W.heap[gl]?=some (.cells c 45 (0,0)))∧Mt W gl ms a 0:=by
 obtain ⟨hl,hh⟩:=h.ol
 rcases hh with ⟨_,h0⟩ | ⟨g,cap,cur,rfl,hB,hg,hc,_,hs,htk⟩
 ·exact absurd h0 hne
 refine ⟨g,cap,rfl,hB,⟨cur,hg⟩,⟨cur,_,hg,by rw [hs];exact Nat.mul_le_mul_right 5 hc⟩,fun j m hj=>?_,fun j m _ hj=>?_,fun i j x y hij hi hj q o o' hx hy=>?_,fun j m hk=>absurd hk (by omega)⟩
 ·rw [Joins.cell_of_block hg,← Array.getElem?_toList]
  have h1:=atL ms j m 4 hj (by decide)
  have hlt:=Tw.zAw hj
  rw [← htk,List.getElem?_take,if_pos (by omega)] at h1
  rw [h1]
  rfl
 ·rcases h.ow m (Tw.zAp hj) with ⟨_,h0⟩ | ⟨q,o,cap',cur',e,hB',hg',hc',_,hs',_⟩
  ·exact .inl (by rw [h0];rfl)
  ·unfold uV at e
   simp only [Value.slice.injEq,true_and] at e
   refine .inr ⟨q,o,e.1,fun e2=>?_,by rw [e.2];exact hc',⟨cur',_,hg',Nat.le_trans (Nat.add_le_add_left (Nat.mul_le_mul_right 2 hc') o) hs'⟩⟩
   exact zAK hg' hg (by decide) e2
 ·exact h.ap i j x y hi hj (Nat.ne_of_lt hij) q (by unfold uV;rw [hx];rfl) (by unfold uV;rw [hy];rfl)
def HeldT (W:World) (v2 v3:Value) (ms:List LkA) (ss:List Sn) (a:Nat):Prop :=
 (∃ ad cap,v2=.slice ad ms.length cap∧(ms.length=0 ∨ ∃ gl,ad=some ⟨gl,0,none⟩∧Mt W gl ms a ms.length))∧∃ ad cap,v3=.slice ad ss.length cap∧(ss.length=0 ∨ ∃ gs,ad=some ⟨gs,0,none⟩∧ss.length≤cap∧gs<W.heap.size∧Up W gs (off ms a ms.length) (ss.length * 6))
theorem HeldT.below {W W':World} {v2 v3:Value} {ms:List LkA} {ss:List Sn} {a:Nat} (h:HeldT W v2 v3 ms ss a) (hb:Below W.heap.size W W'):HeldT W' v2 v3 ms ss a:=by
 obtain ⟨⟨a1,c1,e1,h1⟩,⟨a2,c2,e2,h2⟩⟩:=h
 exact ⟨⟨a1,c1,e1,h1.imp id fun ⟨g,q1,q2⟩=>⟨g,q1,q2.below hb⟩⟩,⟨a2,c2,e2,h2.imp id fun ⟨g,q1,q2,q3,q4⟩=>⟨g,q1,q2,Nat.lt_of_lt_of_le q3 hb.size,q4.below q3 hb⟩⟩⟩
theorem off_nil {ms:List LkA} {a:Nat} (h:ms.length=0):off ms a ms.length=a:=by rw [h];rfl
theorem locks_mark {W:World} {B:Nat} {v2 v3:Value} {ms:List LkA} {ss:List Sn} (h:MemO W B v2 v3 ms ss) (hn:ms.length≤1000) (hw:∀ m ∈ ms,m.1.ws.length≤1000) :
 Calls Tryz.prog 81 #[v2,.int .i64 1] W fun e w'=>e=.returned (.int .i64 (off ms 1 ms.length:Nat))∧(∃ ad cap,v2=.slice ad ms.length cap∧(ms.length=0 ∨ ∃ gl,ad=some ⟨gl,0,none⟩∧Mt w' gl ms 1 ms.length))∧W.heap.size≤w'.heap.size∧Below B W w'∧∀ k,k<W.heap.size→(∀ c,W.heap[k]? ≠ some (.cells c 45 (0,0)))→(∀ c,W.heap[k]? ≠ some (.cells c 153 (0,0)))→w'.heap[k]?=W.heap[k]?:=by
 by_cases h0:ms.length=0
 ·obtain ⟨ad,cap,rfl⟩:=h.ol.slice
  rw [off_nil h0]
  rw [h0]
  refine (nilL_mark ad cap 1 W).mono ?_
  rintro e w' ⟨rfl,e2⟩
  rw [e2]
  exact ⟨rfl,⟨ad,cap,rfl,.inl rfl⟩,Nat.le_refl _,Below.refl _ _,fun _ _ _ _=>rfl⟩
 ·obtain ⟨gl,cap,rfl,hB,⟨c,hg⟩,hT⟩:=mt_of (a:=1) h h0
  refine (markLocks_any gl cap ms 1 W hT hn hw (by decide) (by decide)).mono ?_
  rintro e w' ⟨rfl,m',g'⟩
  have key:∀ m ∈ ms,∀ k o,m.2.1=some ⟨k,o,none⟩→B≤k∧∃ c,W.heap[k]?=some (.cells c 153 (0,0)):=fun m hm k o hk=>by
   have hu:(uV m).ownBlock=some k:=by unfold uV;rw [hk];rfl
   exact ⟨((h.ow m hm).lt k hu).1,own_blockO (h.ow m hm) hu⟩
  refine ⟨rfl,⟨_,cap,rfl,.inr ⟨gl,rfl,m'⟩⟩,g'.size,⟨g'.os,g'.tape,g'.output,g'.size,fun k hk=>?_⟩,fun k hk h1 h2=>?_⟩
  ·by_cases hl:k<W.heap.size
   ·exact g'.block k hl (by omega) fun m hm o e=>by have:=(key m hm k o e).1;omega
   ·exact absurd hg (by rw [Array.getElem?_eq_none (by omega)];simp)
  ·exact g'.block k hk (fun e=>h1 c (by rw [e];exact hg)) fun m hm o e=>by
    obtain ⟨_,c',hc'⟩:=key m hm k o e
    exact h2 c' hc'
theorem Mt.kept {W W':World} {gl:Nat} {ms:List LkA} {a:Nat} (h:Mt W gl ms a ms.length) (hs:W.heap.size≤W'.heap.size) (hgl:W'.heap[gl]?=W.heap[gl]?) (hg:∀ m ∈ ms,∀ g o,m.2.1=some ⟨g,o,none⟩→g<W.heap.size→W'.heap[g]?=W.heap[g]?):Mt W' gl ms a ms.length:=by
 have kc:∀ i v,W.cell? ⟨gl,i,none⟩=some v→W'.cell? ⟨gl,i,none⟩=some v:=fun i v hv=>(World.cell?_of_block (a:=⟨gl,i,none⟩) hgl).trans hv
 refine ⟨?_,fun j m hj=>kc _ _ (h.u j m hj),fun j m hk hj=>absurd (Tw.zAw hj) (by omega),h.di,fun j m hk hj=>?_⟩
 ·obtain ⟨A,t,h1,h2⟩:=h.lb
  exact ⟨A,t,hgl.trans h1,h2⟩
 ·obtain ⟨⟨c0,c1,c2,c3⟩,hw⟩:=h.dn j m hk hj
  refine ⟨⟨kc _ _ c0,kc _ _ c1,kc _ _ c2,kc _ _ c3⟩,hw.imp id fun ⟨g,o,h1,h2,h3,h4,h5⟩=>⟨g,o,h1,h2,h3,Nat.lt_of_lt_of_le h4 hs,fun q hq=>?_⟩⟩
  have hb:=hg m (Tw.zAp hj) g o h1 h4
  exact ⟨(World.cell?_of_block (a:=⟨g,_,none⟩) hb).trans (h5 q hq).1,(World.cell?_of_block (a:=⟨g,_,none⟩) hb).trans (h5 q hq).2⟩
def TabK (w w':World):Prop:=∀ (k:Nat) (cs:Array Value),w.heap[k]?=some (.cells cs 30 (0,0))→w'.heap[k]?=some (.cells cs 30 (0,0))
set_option maxRecDepth 100000 in
set_option maxHeartbeats 1600000 in
theorem zBS (tm nx:Int) (v2 v3:Value) (ms:List LkA) (ss:List Sn) (B:Nat) (w:World) (h:MemO w B v2 v3 ms ss) (hB:B≤w.heap.size) (hn:ms.length≤100) (hw:∀ m ∈ ms,m.1.ws.length≤1000) (hs:ss.length≤100) :
 Calls Tryz.prog 33 #[tabV tm nx v2 v3,.int .i64 1] w fun e w'=>e=.returned (.int .i64 ((off ms 1 ms.length+ss.length * 6:Nat):Int))∧HeldT w' v2 v3 ms ss 1∧Below B w w'∧TabK w w':=by
 have hoff:=off_le (a:=1) hw ms.length (Nat.le_refl _)
 obtain ⟨wb,hwb⟩ : ∃ wb,wb=w.alloc (.cells #[.int .i64 tm,.int .i64 nx,v2,v3] 30):=⟨_,rfl⟩
 have hbx:wb.heap[w.heap.size]?=some (.cells #[.int .i64 tm,.int .i64 nx,v2,v3] 30 (0,0)):=by rw [hwb];exact heap_alloc_new _ _
 have hbb:Below w.heap.size w wb:=by rw [hwb];exact zAD _ _
 have hM:MemO wb B v2 v3 ms ss:=h.kept fun g _ hg=>hbb.block g hg
 have HAP:Hid (∀ g,v3.ownBlock=some g→v2.ownBlock ≠ some g∧∀ m ∈ ms,∀ o,m.2.1 ≠ some ⟨g,o,none⟩):=fun g hg=>by
  obtain ⟨c1,e1⟩:=zAG h.os hg
  refine ⟨fun e=>?_,fun m hm o e=>?_⟩
  ·obtain ⟨c2,e2⟩:=zAG h.ol e
   exact zAK e1 e2 (by decide) rfl
  ·obtain ⟨c2,e2⟩:=own_blockO (h.ow m hm) (g:=g) (by unfold uV;rw [e];rfl)
   exact zAK e1 e2 (by decide) rfl
 have HL:Hid (Calls Tryz.prog 81 #[v2,.int .i64 1] wb fun e w'=>e=.returned (.int .i64 (off ms 1 ms.length:Nat))∧((∃ ad cap,v2=.slice ad ms.length cap∧(ms.length=0 ∨ ∃ gl,ad=some ⟨gl,0,none⟩∧Mt w' gl ms 1 ms.length))∧Below B w w'∧w'.cell? ⟨w.heap.size,3,none⟩=some v3∧B≤w'.heap.size∧OwnS w' B v3 ss∧(∀ g,v3.ownBlock=some g→∃ c,w'.heap[g]?=some (.cells c 116 (0,0)))∧TabK w w')):=by
  refine (locks_mark hM (by omega) hw).mono ?_
  rintro e w' ⟨rfl,h1,h2,h3,h4⟩
  have hbz:=(Array.getElem?_eq_some_iff.1 hbx).1
  have k1:=(h4 _ hbz (fun c e=>zAK hbx e (by decide) rfl) (fun c e=>zAK hbx e (by decide) rfl)).trans hbx
  have os:OwnS w' B v3 ss:=hM.os.kept fun g hg=>by
   obtain ⟨c1,e1⟩:=zAG hM.os hg
   exact h4 g (Array.getElem?_eq_some_iff.1 e1).1 (fun c e=>zAK e1 e (by decide) rfl) (fun c e=>zAK e1 e (by decide) rfl)
  exact ⟨rfl,h1,(hbb.mono hB).trans h3,(zAA k1 3 (x:=v3) rfl).1,Nat.le_trans hB (Nat.le_trans hbb.size h2),os,fun g hg=>zAG os hg,fun k cs hk=>by
   have hk':=(hbb.block k (Array.getElem?_eq_some_iff.1 hk).1).trans hk
   exact (h4 k (Array.getElem?_eq_some_iff.1 hk').1 (fun c e=>zAK hk' e (by decide) rfl) (fun c e=>zAK hk' e (by decide) rfl)).trans hk'⟩
 have c2:=(zAA hbx 2 (x:=v2) rfl).1
 have HS:Hid (∀ W:World,OwnS W B v3 ss→∀ a:Nat,a≤1000000→Calls Tryz.prog 82 #[v3,.int .i64 a] W fun e w'=>e=.returned (.int .i64 ((a+ss.length * 6:Nat):Int))∧(∃ ad cap,v3=.slice ad ss.length cap∧(ss.length=0 ∨ ∃ gs,ad=some ⟨gs,0,none⟩∧ss.length≤cap∧gs<w'.heap.size∧Up w' gs a (ss.length * 6)))∧(∀ g,v3.ownBlock=some g→B≤g)∧W.heap.size≤w'.heap.size∧(w'.os=W.os∧w'.tape=W.tape∧w'.output=W.output)∧∀ k,k<W.heap.size→some k ≠ v3.ownBlock→w'.heap[k]?=W.heap[k]?):=fun W os a ha=>by
  have hlt:=fun g hg=>(os.lt g hg).1
  by_cases h0:ss.length=0
  ·obtain ⟨ad,cap,rfl⟩:=os.slice
   rw [h0]
   refine (nilS_mark ad cap a W).mono ?_
   rintro e w' ⟨rfl,e2⟩
   rw [e2]
   exact ⟨by simp,⟨ad,cap,rfl,.inl rfl⟩,fun g hg=>hlt g (by rw [h0];exact hg),Nat.le_refl _,⟨rfl,rfl,rfl⟩,fun _ _ _=>rfl⟩
  ·obtain ⟨_,hh⟩:=id os
   rcases hh with ⟨_,e0⟩ | ⟨g,cap,cur,rfl,hB',hg,hc,_,hsz,_⟩
   ·exact absurd e0 h0
   refine (markSeens_any g ss.length cap a W ⟨cur,_,hg,by rw [hsz];exact Nat.mul_le_mul_right 6 hc⟩ hc (by omega) ha).mono ?_
   rintro e w' ⟨rfl,hu,hm⟩
   refine ⟨rfl,⟨_,cap,rfl,.inr ⟨g,rfl,hc,Nat.lt_of_lt_of_le (Array.getElem?_eq_some_iff.1 hg).1 hm.size,hu⟩⟩,hlt,hm.size,⟨hm.os,hm.tape,hm.output⟩,fun k hk hn=>hm.block k hk ?_⟩
   have:k ≠ g:=fun e=>hn (by rw [e];rfl)
   omega
 obtain ⟨a2,l2,rfl⟩:=h.ol.slice
 obtain ⟨a3,l3,rfl⟩:=h.os.slice
 obtain ⟨o,HOO⟩ : ∃ o,Hid (off ms 1 ms.length=o):=⟨_,rfl⟩
 rw [HOO.out] at HL hoff ⊢
 unfold tabV
 have HO2:Hid (∀ _:Unit,o≤1000000):=fun _=>by omega
 clear h hM hbb hbx hB hw
 go_enter Tryz.func33,Tryz.ntmps33
 go_wp2_with fail
 rw [← hwb]
 clear hwb
 refine HL.out.mono ?_
 rintro e w1 ⟨rfl,hl,b1,c3,s1,os,ok,tk⟩
 have H1:Hid ((∃ ad cap,Value.slice a2 ms.length l2=.slice ad ms.length cap∧(ms.length=0 ∨ ∃ gl,ad=some ⟨gl,0,none⟩∧Mt w1 gl ms 1 ms.length))∧Below B w w1∧B≤w1.heap.size∧(∀ g,(Value.slice a3 ss.length l3).ownBlock=some g→∃ c,w1.heap[g]?=some (.cells c 116 (0,0)))∧TabK w w1):=⟨hl,b1,s1,ok,tk⟩
 have HS1:=HS.out w1 os o (HO2.out ())
 clear hl b1 s1 os ok tk HL HS
 go_wp2_with fail
 refine HS1.mono ?_
 rintro e w2 ⟨rfl,hh,hb,s2,⟨q1,q2,q3⟩,kp⟩
 have HF:Hid (HeldT w2 (.slice a2 ms.length l2) (.slice a3 ss.length l3) ms ss 1∧Below B w w2∧TabK w w2):=by
  obtain ⟨hl,b1,s1,ok,tk⟩:=H1.out
  refine ⟨⟨?_,?_⟩,⟨q1.trans b1.os,q2.trans b1.tape,q3.trans b1.output,Nat.le_trans b1.size s2,fun k hk=>(kp k (by omega) (fun e=>by have:=hb k e.symm;omega)).trans (b1.block k hk)⟩,fun k cs hk=>(kp k (Array.getElem?_eq_some_iff.1 (tk k cs hk)).1 (fun e=>by obtain ⟨c,e2⟩:=ok k e.symm;exact zAK (tk k cs hk) e2 (by decide) rfl)).trans (tk k cs hk)⟩
  ·obtain ⟨ad,cap,e,h3⟩:=hl
   refine ⟨ad,cap,e,h3.imp id fun ⟨gl,e1,hT⟩=>⟨gl,e1,?_⟩⟩
   subst e1
   have e2:a2=some ⟨gl,0,none⟩:=by
    have:=e
    simp only [Value.slice.injEq,true_and] at this
    exact this.1
   exact hT.kept s2 (kp gl hT.lb.lt fun e=>(HAP.out gl e.symm).1 (by rw [e2];rfl)) fun m hm g o hg hlt=>kp g hlt fun e=>(HAP.out g e.symm).2 m hm o hg
  ·rw [HOO.out];exact hh
 clear hh hb kp H1 HS1
 go_wp2_with fail
 go_ret
 exact ⟨rfl,HF.out⟩
set_option maxRecDepth 100000 in
set_option maxHeartbeats 1600000 in
theorem heldTable_any (tm nx:Int) (v2 v3:Value) (ms:List LkA) (ss:List Sn) (w:World) (h:HeldT w v2 v3 ms ss 1) (hn:ms.length≤100) (hw:∀ m ∈ ms,m.1.ws.length≤1000) (hs:ss.length≤100) :
 Calls Tryz.prog 34 #[tabV tm nx v2 v3,.int .i64 1] w fun e w'=>e=.returned (.int .i64 ((off ms 1 ms.length+ss.length * 6:Nat):Int))∧Below w.heap.size w w':=by
 have hoff:=off_le (a:=1) hw ms.length (Nat.le_refl _)
 have HL:Hid (∀ W,Below w.heap.size w W→Calls Tryz.prog 83 #[v2,.int .i64 1] W fun e w'=>e=.returned (.int .i64 (off ms 1 ms.length:Nat))∧Below W.heap.size W w'):=fun W hW=>by
  obtain ⟨⟨ad,cap,rfl,h1⟩,_⟩:=h.below hW
  by_cases h0:ms.length=0
  ·rw [off_nil h0]
   rw [h0]
   refine (nilL_held ad cap 1 W).mono ?_
   rintro e w' ⟨rfl,e2⟩
   rw [e2]
   exact ⟨rfl,Below.refl _ _⟩
  ·obtain ⟨gl,rfl,hT⟩:=h1.resolve_left h0
   exact heldLocks_any gl cap ms 1 W hT (by omega) hw (by decide) (by decide)
 have HS:Hid (∀ W,Below w.heap.size w W→Calls Tryz.prog 84 #[v3,.int .i64 (off ms 1 ms.length:Nat)] W fun e w'=>e=.returned (.int .i64 ((off ms 1 ms.length+ss.length * 6:Nat):Int))∧W=w'):=fun W hW=>by
  obtain ⟨_,⟨ad,cap,rfl,h1⟩⟩:=h.below hW
  by_cases h0:ss.length=0
  ·rw [h0]
   refine (nilS_held ad cap (off ms 1 ms.length) W).mono ?_
   rintro e w' ⟨rfl,e2⟩
   exact ⟨by simp,e2.symm⟩
  ·obtain ⟨gs,rfl,hc,_,hu⟩:=h1.resolve_left h0
   exact heldSeens_any gs ss.length cap _ W hu hc (by omega) (by omega)
 obtain ⟨⟨a2,l2,rfl,_⟩,⟨a3,l3,rfl,_⟩⟩:=h
 obtain ⟨wb,hwb⟩ : ∃ wb,wb=w.alloc (.cells #[.int .i64 tm,.int .i64 nx,.slice a2 ms.length l2,.slice a3 ss.length l3] 30):=⟨_,rfl⟩
 have hbx:wb.heap[w.heap.size]?=some (.cells #[.int .i64 tm,.int .i64 nx,.slice a2 ms.length l2,.slice a3 ss.length l3] 30 (0,0)):=by rw [hwb];exact heap_alloc_new _ _
 have HBB:Hid (Below w.heap.size w wb):=by rw [hwb];exact zAD _ _
 have c2:=(zAA hbx 2 (x:=.slice a2 ms.length l2) rfl).1
 have HC3:Hid (∀ W,Below wb.heap.size wb W→W.cell? ⟨w.heap.size,3,none⟩=some (.slice a3 ss.length l3)):=fun W hW=>(hW.cell (p:=⟨w.heap.size,3,none⟩) (Array.getElem?_eq_some_iff.1 hbx).1).trans (zAA hbx 3 (x:=.slice a3 ss.length l3) rfl).1
 have h1:¬ ((off ms 1 ms.length:Nat):Int)<0:=by omega
 have h2:¬ ((off ms 1 ms.length+ss.length * 6:Nat):Int)<0:=by omega
 generalize off ms 1 ms.length+ss.length * 6=r at HS h2 ⊢
 generalize off ms 1 ms.length=o at HL HS h1 hoff
 unfold tabV
 clear hbx hw
 go_enter Tryz.func34,Tryz.ntmps34
 go_wp2_with fail
 rw [← hwb]
 clear hwb
 refine (HL.out wb HBB.out).mono ?_
 rintro e w1 ⟨rfl,b1⟩
 have c3:=HC3.out w1 b1
 have B1:Below w.heap.size w w1:=HBB.out.trans (b1.mono HBB.out.size)
 clear b1
 go_wp2_with fail
 refine (HS.out w1 B1).mono ?_
 rintro e w2 ⟨rfl,rfl⟩
 go_wp2_with fail
 go_ret
 exact ⟨rfl,B1⟩
end Go.Proofs.YticokpbelgpfmaaGreat.Jn
namespace Go.Proofs.YticokpbelgpfmaaGreat.Ea
open Go.RowKit By Ap Tb Tw Mw Wa Tp Da
open Tx (zAA zAC zAE zAJ zAD)
def wIx (ws:List Wt) (c:Int):Int:=if wtB ws c=true then ((ws.findIdx fun w=>w.c == c:Nat):Int) else -1
theorem wIx_here {ws:List Wt} {c:Int} {k:Nat} {y:Wt} (h:∀ (j:Nat) (z:Wt),j<k→ws[j]?=some z→¬ z.c=c) (hy:ws[k]?=some y) (hc:y.c=c):wIx ws c=k:=by
 have hk:=(List.getElem?_eq_some_iff.1 hy)
 have h1:wtB ws c=true:=by
  unfold wtB
  rw [List.any_eq_true]
  exact ⟨y,List.mem_of_getElem? hy,by simpa using hc⟩
 have h2:(ws.findIdx fun w=>w.c == c)=k:=by
  rw [List.findIdx_eq hk.1]
  refine ⟨by rw [hk.2];simpa using hc,fun j hj=>?_⟩
  have:=h j _ hj (List.getElem?_eq_getElem (Nat.lt_trans hj hk.1))
  simpa using this
 unfold wIx
 rw [if_pos h1,h2]
theorem wIx_none {ws:List Wt} {c:Int} (h:∀ (j:Nat) (z:Wt),j<ws.length→ws[j]?=some z→¬ z.c=c):wIx ws c = -1:=by
 unfold wIx
 rw [if_neg]
 intro h1
 unfold wtB at h1
 rw [List.any_eq_true] at h1
 obtain ⟨y,hy,hc⟩:=h1
 obtain ⟨j,hj,e⟩:=List.mem_iff_getElem.1 hy
 exact h j y hj (by rw [List.getElem?_eq_getElem hj,e]) (by simpa using hc)
theorem ret_int {a b:Int} (h:a=b):Ending.returned (.int .i64 a)=.returned (.int .i64 b):=by rw [h]
set_option maxRecDepth 100000 in
set_option maxHeartbeats 1600000 in
theorem zAo (y:Lk) (u:Value) (c:Int) (w:World) (h:RowW w u y.ws) (hl:y.ws.length≤1000) :
 Calls Tryz.prog 133 #[lkV y u,.int .i64 c] w fun e w'=>e=.returned (.int .i64 (wIx y.ws c))∧Below w.heap.size w w':=by
 obtain ⟨ua,uc,rfl⟩:=RowG.slice h
 have HX:Hid (∀ W,Below (w.alloc (.cells #[.string y.n,.int .i64 y.t,.int .i64 y.h,.int .i64 y.e,.slice ua y.ws.length uc] 45)).heap.size (w.alloc (.cells #[.string y.n,.int .i64 y.t,.int .i64 y.h,.int .i64 y.e,.slice ua y.ws.length uc] 45)) W→W.cell? ⟨w.heap.size,4,none⟩=some (.slice ua y.ws.length uc)∧RowW W (.slice ua y.ws.length uc) y.ws∧Below w.heap.size w W):=fun W hW=>by
  have h1:=(hW.block w.heap.size (by simp)).trans (heap_alloc_new w _)
  have b:=(zAD w (.cells #[.string y.n,.int .i64 y.t,.int .i64 y.h,.int .i64 y.e,.slice ua y.ws.length uc] 45)).trans (hW.mono (by simp))
  exact ⟨(zAA h1 4 rfl).1,h.below b,b⟩
 clear h
 unfold lkV
 go_enter Tryz.func133,Tryz.ntmps133
 go_upto_region 1 with fail
 generalize w.alloc (.cells #[.string y.n,.int .i64 y.t,.int .i64 y.h,.int .i64 y.e,.slice ua y.ws.length uc] 45)=wb at HX ⊢
 go_wp2_with fail
 go_loopw [5] (fun i wr=>∃ k:Nat,k≤y.ws.length∧i=.int .i64 k∧Hid ((∀ (j:Nat) (z:Wt),j<k→y.ws[j]?=some z→¬ z.c=c)∧Below wb.heap.size wb wr)) (fun i _=>y.ws.length - (intOf i).toNat)
 case atStart=>exact ⟨0,by omega,rfl,⟨fun j z hj=>by omega,Below.refl _ _⟩⟩
 case round =>
  obtain ⟨k,hk,rfl,HK⟩:=hrel
  obtain ⟨x4,hrow,hbw⟩:=HX.out _ HK.out.2
  have HB:Hid (Below w.heap.size w wr):=hbw
  by_cases hlt:k<y.ws.length
  ·obtain ⟨z,hz⟩:=Tw.get_at hlt
   obtain ⟨b,off,rfl,hbl,c0,c1⟩:=RowG.at hrow rfl hz
   have HZ:Hid (y.ws[k]?=some z):=hz
   clear hz hrow hbw
   by_cases hc:z.c=c
   ·have HE:Hid (wIx y.ws c=k):=wIx_here HK.out.1 HZ.out hc
    have hc':(z.c == c)=true:=by simpa using hc
    clear hc
    go_wp2_with fail
    go_ret
    exact ⟨ret_int HE.out.symm,HB.out⟩
   ·have HN:Hid (∀ (j:Nat) (z':Wt),j<k+1→y.ws[j]?=some z'→¬ z'.c=c):=fun j z' hj hz'=>by
     by_cases e:j=k
     ·subst e;rw [HZ.out] at hz';cases hz';exact hc
     ·exact HK.out.1 j z' (by omega) hz'
    have hc':(z.c == c)=false:=by simpa using hc
    clear hc
    go_wp2_with fail
    exact ⟨⟨k+1,by omega,by go_num,⟨HN.out,HK.out.2⟩⟩,by simp [intOf];omega⟩
  ·obtain rfl:k=y.ws.length:=by omega
   have HE:Hid (wIx y.ws c = -1):=wIx_none HK.out.1
   clear hrow hbw
   go_wp2_with fail
   go_ret
   exact ⟨ret_int HE.out.symm,HB.out⟩
set_option maxRecDepth 100000 in
set_option maxHeartbeats 1600000 in
theorem zAT (k:Int) (y:Lk) (u:Value) (w:World) :
 Calls Tryz.prog 132 #[.int .i64 k,lkV y u] w fun e w'=>e=.returned (.agg #[.int .i64 k,.int .i64 y.t,.int .i64 y.h,.int .i64 y.e])∧Below w.heap.size w w':=by
 unfold lkV
 go_enter Tryz.func132,Tryz.ntmps132
 go_wp2_with fail
 refine bodyPost_ret (v:=.agg #[.int .i64 k,.int .i64 y.t,.int .i64 y.h,.int .i64 y.e]) (by simp [results,Tryz.results132,go_sem]) rfl ⟨rfl,?_⟩
 exact ((Below.refl _ _).alloc (Nat.le_refl _) _).alloc (by simp) _
end Go.Proofs.YticokpbelgpfmaaGreat.Ea
namespace Go.Proofs.YticokpbelgpfmaaGreat.Jr
open Go.RowKit By Ap Tb Tw Mw Wa Bk Tp Da Ja Jb Jc
open Lo (LkA uV clL OwnL zAG zAK Apart zAP)
open Tx (zAA zAC zAE zAJ zAD)
open Je Jj Jk Jl Rq
open Ea (wIx wIx_here wIx_none)
theorem zAh (x:Lk) (ua:Option Addr) (un uc:Nat) (w:World):Calls Tryz.prog 120 #[lkV x (.slice ua un uc)] w fun e w'=>e=.returned (.int .i64 (stK x))∧Below w.heap.size w w':=by
 have HB:Hid (Below w.heap.size w (w.alloc (.cells #[.string x.n,.int .i64 x.t,.int .i64 x.h,.int .i64 x.e,.slice ua un uc] 45))):=zAD _ _
 unfold lkV
 by_cases hh:x.h = -1
 ·have HE:Hid (stK x=4):=by show _=_;unfold stK;rw [if_pos hh]
  have h1:(x.h == -1)=true:=by simp [hh]
  clear hh
  go_enter Tryz.func120,Tryz.ntmps120
  go_wp2_with fail
  go_ret
  first | exact ⟨by rw [HE.out];rfl,HB.out⟩ | exact ⟨by rw [HE.out];rfl,HB.out.drew⟩
 ·have HE:Hid (stK x=5):=by show _=_;unfold stK;rw [if_neg hh]
  have h1:(x.h == -1)=false:=by simp [hh]
  clear hh
  go_enter Tryz.func120,Tryz.ntmps120
  go_wp2_with fail
  go_ret
  first | exact ⟨by rw [HE.out];rfl,HB.out⟩ | exact ⟨by rw [HE.out];rfl,HB.out.drew⟩
def anV (a:An):Value:=.agg #[.int .i64 a.k,.int .i64 a.t,.int .i64 a.h,.int .i64 a.e]
theorem zBU (k:Int) (w:World):Calls Tryz.prog 92 #[.int .i64 k] w fun e w'=>e=.returned (anV (bare k))∧Below w.heap.size w w':=by
 have HB:Hid (Below w.heap.size w (w.alloc (.cells #[.int .i64 0,.int .i64 0,.int .i64 0,.int .i64 0] 38))∧(w.alloc (.cells #[.int .i64 0,.int .i64 0,.int .i64 0,.int .i64 0] 38)).heap[w.heap.size]?=some (.cells #[.int .i64 0,.int .i64 0,.int .i64 0,.int .i64 0] 38 (0,0))):=⟨zAD _ _,zAJ _ _ _⟩
 go_enter Tryz.func92,Tryz.ntmps92
 go_upto_region 1 with fail
 generalize w.alloc (.cells #[.int .i64 0,.int .i64 0,.int .i64 0,.int .i64 0] 38)=w1 at HB ⊢
 obtain ⟨r0,s0⟩:=zAA HB.out.2 0 (x:=.int .i64 0) rfl
 obtain ⟨r1,s1⟩:=zAA HB.out.2 1 (x:=.int .i64 0) rfl
 obtain ⟨r2,s2⟩:=zAA HB.out.2 2 (x:=.int .i64 0) rfl
 obtain ⟨r3,s3⟩:=zAA HB.out.2 3 (x:=.int .i64 0) rfl
 have HF:Hid (((((w1.setCell ⟨w.heap.size,0,none⟩ (.int .i64 k)).setCell ⟨w.heap.size,1,none⟩ (.int .i64 0)).setCell ⟨w.heap.size,2,none⟩ (.int .i64 (-1))).setCell ⟨w.heap.size,3,none⟩ (.int .i64 0)).heap[w.heap.size]?=some (.cells #[.int .i64 k,.int .i64 0,.int .i64 (-1),.int .i64 0] 38 (0,0))∧Below w.heap.size w ((((w1.setCell ⟨w.heap.size,0,none⟩ (.int .i64 k)).setCell ⟨w.heap.size,1,none⟩ (.int .i64 0)).setCell ⟨w.heap.size,2,none⟩ (.int .i64 (-1))).setCell ⟨w.heap.size,3,none⟩ (.int .i64 0))) :=
  ⟨zAC (zAC (zAC (zAC HB.out.2 0 _) 1 _) 2 _) 3 _,Below.setCell (Below.setCell (Below.setCell (Below.setCell HB.out.1 (p:=⟨w.heap.size,0,none⟩) (Nat.le_refl _) _) (p:=⟨w.heap.size,1,none⟩) (Nat.le_refl _) _) (p:=⟨w.heap.size,2,none⟩) (Nat.le_refl _) _) (p:=⟨w.heap.size,3,none⟩) (Nat.le_refl _) _⟩
 go_wp2_with fail
 generalize (((w1.setCell ⟨w.heap.size,0,none⟩ (.int .i64 k)).setCell ⟨w.heap.size,1,none⟩ (.int .i64 0)).setCell ⟨w.heap.size,2,none⟩ (.int .i64 (-1))).setCell ⟨w.heap.size,3,none⟩ (.int .i64 0)=wf at HF ⊢
 have d0:=(zAA HF.out.1 0 (x:=.int .i64 k) rfl).1
 have d1:=(zAA HF.out.1 1 (x:=.int .i64 0) rfl).1
 have d2:=(zAA HF.out.1 2 (x:=.int .i64 (-1)) rfl).1
 have d3:=(zAA HF.out.1 3 (x:=.int .i64 0) rfl).1
 exact bodyPost_ret (v:=.agg #[.int .i64 k,.int .i64 0,.int .i64 (-1),.int .i64 0]) (by simp [results,Tryz.results92,go_sem,d0,d1,d2,d3]) rfl ⟨rfl,HF.out.2⟩
theorem fst_ix {xs:List Wt} {c r:Int} (h:FstOf xs c r):r=wIx xs c:=by
 rcases h with ⟨rfl,hn⟩ | ⟨k,x,rfl,hx,hc,hb⟩
 ·exact (wIx_none fun j z _ hz=>hn j z hz).symm
 ·exact (wIx_here (fun j z hj hz=>hb j z hj hz) hx hc).symm
theorem waits_ix (v:Value) (xs:List Wt) (c:Int) (w:World) (h:RowW w v xs) (hl:xs.length≤1048576):Calls Tryz.prog 147 #[v,.int .i64 c] w fun e w'=>e=.returned (.int .i64 (wIx xs c))∧Below w.heap.size w w':=by
 refine (waitsAt_any v xs c w h hl).mono ?_
 rintro e w' ⟨⟨r,rfl,hr⟩,hb⟩
 exact ⟨by rw [fst_ix hr],hb⟩
theorem run_append_roomO {P:Program} (w:World) (t ty e:TypeId) (i:TypeInfo) (ht:P.underlying t=some (.slice e)) (hi:P.info? e=some i)
 (g o sLen sCap:Nat) (cur:Array Value) (hg:w.heap[g]?=some (.cells cur e (0,0)))
 (a:Addr) (m c:Nat) (news:List Value) (hl:news.length=m * i.size) (hnews:∀ j u,news[j]?=some u→w.cell? (a.add j)=some u) (h1:∀ u ∈ news,u.oneCell'=true)
 (hroom:sLen+m≤sCap) (hfit:o+sLen * i.size+news.length≤cur.size) :
 (Builtin.append_ #[t,t] ty #[.slice (some ⟨g,o,none⟩) sLen sCap,.slice (some a) m c]).run P w =
   .ok (.slice (some ⟨g,o,none⟩) (sLen+m) sCap) (w.setRow g (cur.toList.take (o+sLen * i.size) ++ news ++ cur.toList.drop (o+sLen * i.size+news.length)).toArray):=by
 have hf:=run_firstCells_some (P:=P) w i.size m a m c news hl hnews
 have hst:=run_storeCells_at P g (o+sLen * i.size) e news 0 cur w hg (by simpa using hfit) h1
 simp only [Nat.add_zero] at hst
 simp [Builtin.append_,run_underlying ht,sizeOf,typeInfo,hi,Builtin.lenOf,hroom,hf,Addr.add_lit,hst]
def Nb (w:World) (v v':Value):Prop:=v'.ownBlock=v.ownBlock ∨ ∀ g,v'.ownBlock=some g→w.heap.size≤g
theorem run_appO {P:Program} (t ty:TypeId) (i:TypeInfo) (ht:P.underlying t=some (.slice 153)) (hi:P.info? 153=some i) (hz:i.zero=some (.agg #[.int .i64 0,.int .i64 0]))
 (hsize:i.size=2) (hby:i.bytes=16) (B:Nat) (W:World) (v:Value) (zs:List Wt) (hown:OwnO W B v zs) (hB:B≤W.heap.size) (a:Addr) (c:Nat) (x:Wt) (hc:∀ j u,(clW x)[j]?=some u→W.cell? (a.add j)=some u) (hlen:zs.length≤1000) :
 ∃ v' w',(Builtin.append_ #[t,t] ty #[v,.slice (some a) 1 c]).run P W=.ok v' w'∧OwnO w' B v' (zs ++ [x])∧W.grownBy w' v.ownBlock∧Nb W v v':=by
 have hn:∀ j u,([x].flatMap clW)[j]?=some u→W.cell? (a.add j)=some u:=fun j u h=>hc j u (by simpa using h)
 rcases hown with ⟨rfl,rfl⟩ | ⟨g,o,cap,cur,rfl,hBg,hg,hle,hcm,hfit,htk⟩
 ·obtain ⟨v',w',hr,ho,hgr,_⟩:=run_append_own (P:=P) W B t ty 153 i _ 2 16 ht hi hz hsize hby rfl (by decide) (.slice none 0 0) 0 [] (World.ownsRow_nil _ _ _ _) a 1 c ([x].flatMap clW) rfl hn (memW [x]) (by unfold maxLen;omega) (by omega) hB
  have hO:Wa.OwnW w' B v' [x]:=by unfold Wa.OwnW;simpa using ho
  refine ⟨v',w',hr,OwnO.of hO,hgr,.inr fun k hk=>?_⟩
  rcases hO.2 with ⟨rfl,h0⟩ | ⟨q,cap,cur,rfl,hq,hqg,_⟩
  ·cases h0
  ·cases hk
   by_cases hlt:q<W.heap.size
   ·have hq2:=hgr.block q hlt (by intro e;cases e)
    rw [hqg] at hq2
    have hr2:=run_append_nil (P:=P) W t ty 153 i _ ht hi hz a 1 c ([x].flatMap clW) (by rw [hsize];rfl) hn (by omega) (by omega) (by rw [hby];omega)
    have e:=hr.symm.trans hr2
    injection e with e1 _
    injection e1 with e3 _ _
    injection e3 with e4
    injection e4 with e5 _ _
    show W.heap.size≤q
    omega
   ·show W.heap.size≤q
    omega
 ·by_cases hroom:zs.length+1≤cap
  ·have hr:=run_append_roomO (P:=P) W t ty 153 i ht hi g o zs.length cap cur hg a 1 c ([x].flatMap clW) (by rw [hsize];rfl) hn (memW [x]) hroom (by rw [hsize,lenW];simp;omega)
   rw [hsize] at hr
   have hl2:([x].flatMap clW).length=2:=rfl
   rw [hl2] at hr
   refine ⟨_,_,hr,.inr ⟨g,o,cap,_,by simp,hBg,setRow_heap W g cur _ _ _ hg,by simpa using hroom,hcm,?_,?_⟩,⟨rfl,rfl,rfl,by simp,fun k hk hne=>setRow_other W g k _ (fun e=>hne (by rw [e];rfl))⟩,.inl rfl⟩
   ·simp only [List.size_toArray,List.length_append,List.length_take,List.length_drop,Array.length_toList]
    omega
   ·have e1:(cur.toList.take (o+zs.length * 2)).drop o=zs.flatMap clW:=by
     rw [← htk,List.drop_take,show o+zs.length * 2 - o=zs.length * 2 by omega]
    have hA:o≤(cur.toList.take (o+zs.length * 2)).length:=by
     have hcl:cur.toList.length=cur.size:=Array.length_toList
     rw [List.length_take,hcl]
     omega
    rw [List.drop_append_of_le_length (by rw [List.length_append];omega),List.drop_append_of_le_length hA,e1,List.take_left' (by rw [List.length_append,lenW,lenW,List.length_append,Nat.add_mul]),List.flatMap_append]
  ·have holds:∀ j u,(zs.flatMap clW)[j]?=some u→W.cell? ((⟨g,o,none⟩ : Addr).add j)=some u:=fun j u hj=>by
    have hjl:=(List.getElem?_eq_some_iff.1 hj).1
    rw [lenW] at hjl
    rw [Addr.add_lit,Joins.cell_of_block hg,← Array.getElem?_toList]
    rw [← htk,List.getElem?_take,if_pos hjl,List.getElem?_drop] at hj
    exact hj
   have hr:=run_append_grow (P:=P) W t ty 153 i _ ht hi hz ⟨g,o,none⟩ zs.length cap (zs.flatMap clW) (by rw [hsize,lenW]) holds a 1 c ([x].flatMap clW) (by rw [hsize];rfl) hn (by omega) (by omega) (growslice_fits (by omega) (by rw [hby];omega))
   have hge:=grownCap_ge W (zs.length+1) cap 153
   refine ⟨_,_,hr,.inr ⟨W.heap.size,0,_,_,by simp,hB,heap_alloc_new W.drew _,by simpa using hge,grownCap_le_maxLen W (zs.length+1) cap 153 (by unfold maxLen;omega),?_,?_⟩,⟨rfl,rfl,rfl,by simp,fun k hk _=>Below.heap_alloc W.drew _ k hk⟩,.inr fun k hk=>by cases hk;exact Nat.le_refl _⟩
   ·simp only [Array.size_append,List.size_toArray,size_zeroCells,lenW]
    have:(Value.agg #[Value.int IntKind.i64 0,Value.int IntKind.i64 0]).cells.size=2:=rfl
    rw [this]
    simp
    omega
   ·simp only [List.drop_zero,Array.toList_append,List.append_assoc]
    rw [← List.append_assoc,List.take_left' (by rw [List.length_append,lenW,lenW,List.length_append,Nat.add_mul]),List.flatMap_append]
end Go.Proofs.YticokpbelgpfmaaGreat.Jr
