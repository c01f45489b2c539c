/- Texts put together: Eh, Ei, Lsh. -/
import Derived.Test.YticokpbelgpfmaaGreatMa25
import Derived.Deep.RegionHeld
namespace Go.Proofs.YticokpbelgpfmaaGreat.Ea
open Go.RowKit By Ap Tb Tw Mw Wa Tp Da
open Lo (LkA uV clL OwnL OwnL.kept OwnL.lt OwnL.below OwnL.row OwnL.slice zAG zAK Apart)
open Lf (Fnd zAS)
open Tx (zAA zAC zAE zAJ zAD)
theorem fnd_none {ls:List Lk} {nm:ByteArray} {r:Int} (h:idx ls nm=none) (hf:Fnd ls nm r):r = -1:=by
 rcases hf with ⟨m,z,rfl,hz,hzn,_⟩ | ⟨e,_⟩
 ·have:=fiP_none ls h m z hz
  rw [hzn] at this
  simp at this
 ·exact e
set_option maxRecDepth 100000 in
set_option maxHeartbeats 6400000 in
theorem l05Acquire_full {w0 w:World} {B x:Nat} {T:Tab} {v2 v3:Value} {ps:List LkA} (h:TM w0 w B x T v2 v3 ps) (hT:TOK T) (r:Da.Ask) (hkd:r.kd=1) (hidx:idx T.ls r.nm=none) (h4:4≤T.ls.length) :
 Calls Tryz.prog 130 #[.pointer (some ⟨x,0,none⟩),.agg #[.int .i64 r.cl,.int .i64 r.st,.int .i64 r.kd,.int .i64 r.le,.string r.nm]] w fun e w'=>DoP w0 w B x (doT T r) e w':=by
 have hl4:T.ls.length=4:=by have:=hT.2.2.1;omega
 have HDO:Hid (doT T r=(T,bare 6)):=by
  show _=_
  unfold doT
  rw [hidx]
  simp only [hkd,ne_eq,not_true_eq_false,if_false,if_pos h4]
 have HF0:Hid (∀ W,TM w0 W B x T v2 v3 ps→Calls Tryz.prog 131 #[.agg #[.int .i64 T.tm,.int .i64 T.nx,v2,v3],.string r.nm] W fun e w'=>e=.returned (.int .i64 (-1))∧Below W.heap.size W w'):=fun W hW=>(zAS T.tm T.nx v2 v3 T.ls r.nm W hW.rows (by omega)).mono fun e w' ⟨q,h1,h2,h3⟩=>⟨by rw [h1,fnd_none hidx h2],h3⟩
 have H0:Hid (TM w0 w B x T v2 v3 ps):=h
 have HX:Hid (∀ W,Below ((w.alloc (.cells #[.int .i64 r.cl,.int .i64 r.st,.int .i64 r.kd,.int .i64 r.le,.string r.nm] 42)).alloc (.cells #[.int .i64 0,.int .i64 0,.int .i64 0,.int .i64 0] 38)).heap.size ((w.alloc (.cells #[.int .i64 r.cl,.int .i64 r.st,.int .i64 r.kd,.int .i64 r.le,.string r.nm] 42)).alloc (.cells #[.int .i64 0,.int .i64 0,.int .i64 0,.int .i64 0] 38)) W→TM w0 W B x T v2 v3 ps∧W.heap[w.heap.size]?=some (.cells #[.int .i64 r.cl,.int .i64 r.st,.int .i64 r.kd,.int .i64 r.le,.string r.nm] 42 (0,0))∧W.heap[w.heap.size+1]?=some (.cells #[.int .i64 0,.int .i64 0,.int .i64 0,.int .i64 0] 38 (0,0))∧Oth w W):=fun W hW=>by
  have e1:(w.alloc (.cells #[.int .i64 r.cl,.int .i64 r.st,.int .i64 r.kd,.int .i64 r.le,.string r.nm] 42)).heap.size=w.heap.size+1:=by simp
  have b2:Below w.heap.size w ((w.alloc (.cells #[.int .i64 r.cl,.int .i64 r.st,.int .i64 r.kd,.int .i64 r.le,.string r.nm] 42)).alloc (.cells #[.int .i64 0,.int .i64 0,.int .i64 0,.int .i64 0] 38)):=(zAD w _).trans ((zAD _ _).mono (zAD w _).size)
  have bb:=b2.trans (hW.mono b2.size)
  refine ⟨H0.out.up bb,?_,?_,Oth.of_below bb⟩
  ·rw [hW.block _ (by simp;omega),(zAD (w.alloc (.cells #[.int .i64 r.cl,.int .i64 r.st,.int .i64 r.kd,.int .i64 r.le,.string r.nm] 42)) (.cells #[.int .i64 0,.int .i64 0,.int .i64 0,.int .i64 0] 38)).block _ (by simp)];exact zAJ _ _ _
  ·rw [hW.block _ (by simp),← e1];exact zAJ _ _ _
 obtain ⟨la,lc,rfl⟩ : ∃ a c,v2=.slice a 4 c:=by
  obtain ⟨a,c,e⟩:=h.ol.slice
  rw [h.len,hl4] at e
  exact ⟨a,c,e⟩
 have hsB:Hid (B≤w.heap.size):=h.size
 clear h hT hidx hkd h4 hl4
 go_enter Tryz.func130,Tryz.ntmps130
 go_upto_region 1 with fail
 generalize (w.alloc (.cells #[.int .i64 r.cl,.int .i64 r.st,.int .i64 r.kd,.int .i64 r.le,.string r.nm] 42)).alloc (.cells #[.int .i64 0,.int .i64 0,.int .i64 0,.int .i64 0] 38)=w2 at HX ⊢
 obtain ⟨X,hX,W,QI0,QO0⟩:=Qc.zAZ w2
 have QI:Hid (∀ w',Below w2.heap.size w2 w'→∃ x,w'=W x):=QI0
 have QO:Hid (∀ x,Below w2.heap.size w2 (W x)):=QO0
 clear QI0 QO0
 have HF:Hid (∀ q,Calls Tryz.prog 131 #[.agg #[.int .i64 T.tm,.int .i64 T.nx,.slice la 4 lc,v3],.string r.nm] (W q) fun e w'=>e=.returned (.int .i64 (-1))∧Below (W q).heap.size (W q) w'):=fun q=>HF0.out _ (HX.out _ (QO.out q)).1
 have y0:=fun q=>(zAA (HX.out _ (QO.out q)).1.hx 0 (x:=.int .i64 T.tm) rfl).1
 have y1:=fun q=>(zAA (HX.out _ (QO.out q)).1.hx 1 (x:=.int .i64 T.nx) rfl).1
 have y2:=fun q=>(zAA (HX.out _ (QO.out q)).1.hx 2 (x:=.slice la 4 lc) rfl).1
 have y3:=fun q=>(zAA (HX.out _ (QO.out q)).1.hx 3 (x:=v3) rfl).1
 have z4:=fun q=>(zAA (HX.out _ (QO.out q)).2.1 4 (x:=.string r.nm) rfl).1
 refine Qc.zAF (W:=W) (by kernel_rfl) (by kernel_rfl) (QI.out _ Qc.zAI) ?_
 repeat (go_big_quiet_step (first | (go_at_call 131;refine (HF.out _).mono ?_;rintro e w2 ⟨rfl,b2⟩;exact ⟨rfl,Qc.back QI.out QO.out b2⟩)))
 refine wpQuiet_nil ?_
 rintro _ ⟨xq,rfl⟩
 have G3:Hid (Below w2.heap.size w2 (W xq)):=QO.out xq
 clear y0 y1 y2 y3 z4 HF HF0 QO QI
 generalize W xq=w3 at G3 ⊢
 have x2:=(zAA (HX.out _ G3.out).1.hx 2 (x:=.slice la 4 lc) rfl).1
 have AX:Hid (w3.heap[w.heap.size+1]?=some (.cells #[.int .i64 0,.int .i64 0,.int .i64 0,.int .i64 0] 38 (0,0))):=(HX.out _ G3.out).2.2.1
 have RF:=zAg AX.out (HX.out _ G3.out).1 (HX.out _ G3.out).2.2.2 (by omega) (Nat.le_succ_of_le hsB.out) (.int .i64 6) (.int .i64 0) (.int .i64 (-1)) (.int .i64 0)
 obtain ⟨n0,f0⟩:=zAA AX.out 0 (x:=.int .i64 0) rfl
 obtain ⟨n1,f1⟩:=zAA AX.out 1 (x:=.int .i64 0) rfl
 obtain ⟨n2,f2⟩:=zAA AX.out 2 (x:=.int .i64 0) rfl
 obtain ⟨n3,f3⟩:=zAA AX.out 3 (x:=.int .i64 0) rfl
 have RFH:Hid _:=RF
 clear RF
 go_wp2_with fail
 generalize ((((w3.setCell ⟨w.heap.size+1,0,none⟩ (.int .i64 6)).setCell ⟨w.heap.size+1,1,none⟩ (.int .i64 0)).setCell ⟨w.heap.size+1,2,none⟩ (.int .i64 (-1))).setCell ⟨w.heap.size+1,3,none⟩ (.int .i64 0))=wf at RFH ⊢
 have d0:=(zAA RFH.out.1 0 (x:=.int .i64 6) rfl).1
 have d1:=(zAA RFH.out.1 1 (x:=.int .i64 0) rfl).1
 have d2:=(zAA RFH.out.1 2 (x:=.int .i64 (-1)) rfl).1
 have d3:=(zAA RFH.out.1 3 (x:=.int .i64 0) rfl).1
 refine bodyPost_ret (v:=.agg #[.int .i64 6,.int .i64 0,.int .i64 (-1),.int .i64 0]) (by simp [results,Tryz.results130,go_sem,d0,d1,d2,d3]) rfl ?_
 refine ⟨?_,⟨.slice la 4 lc,v3,ps,?_⟩,RFH.out.2.2⟩
 ·rw [HDO.out];rfl
 ·rw [HDO.out];exact RFH.out.2.1
end Go.Proofs.YticokpbelgpfmaaGreat.Ea
namespace Go.Proofs.YticokpbelgpfmaaGreat.Ea
open Go.RowKit By Ap Tb Tw Mw Wa Tp Da
open Lo (LkA uV clL OwnL OwnL.kept OwnL.lt OwnL.below OwnL.row OwnL.slice zAG zAK Apart lenL atL)
open Tx (zAA zAC zAE zAJ zAD)
def SrcL (W:World) (u:Value) (qs:List LkA):Prop:=∃ a c,u=.slice a qs.length c∧(qs=[] ∨ ∃ b off,a=some ⟨b,off,none⟩∧∀ j z,(qs.flatMap clL)[j]?=some z→W.cell? ⟨b,off+j,none⟩=some z)
theorem memL (ms:List LkA):∀ u ∈ ms.flatMap clL,u.oneCell'=true:=by
 intro u hu
 obtain ⟨x,_,hx⟩:=List.mem_flatMap.1 hu
 unfold clL at hx
 simp only [List.mem_cons,List.not_mem_nil,or_false] at hx
 rcases hx with h | h | h | h | h <;> (rw [h];rfl)
theorem runL {P:Program} {i:TypeInfo} (W:World) (B:Nat) (t ty:TypeId) (ht:P.underlying t=some (.slice 45)) (hi:P.info? 45=some i) (hz:i.zero=some (.agg #[.string ⟨#[]⟩,.int .i64 0,.int .i64 0,.int .i64 0,.slice none 0 0])) (hsize:i.size=5) (hby:i.bytes=64)
 (v u:Value) (zs xs:List LkA) (hown:OwnL W B v zs) (hu:SrcL W u xs) (hB:B≤W.heap.size) (hlen:zs.length+xs.length≤1000000) :
 ∃ v' w',(Builtin.append_ #[t,t] ty #[v,u]).run P W=.ok v' w'∧OwnL w' B v' (zs ++ xs)∧W.grownBy w' v.ownBlock∧(v'.ownBlock=v.ownBlock ∨ v'.ownBlock=some W.heap.size):=by
 have key:∀ (ad:Addr) (cap:Nat),(∀ j z,(xs.flatMap clL)[j]?=some z→W.cell? (ad.add j)=some z)→u=.slice (some ad) xs.length cap→∃ v' w',(Builtin.append_ #[t,t] ty #[v,u]).run P W=.ok v' w'∧OwnL w' B v' (zs ++ xs)∧W.grownBy w' v.ownBlock∧(v'.ownBlock=v.ownBlock ∨ v'.ownBlock=some W.heap.size):=fun ad cap hs hu=>by
  obtain ⟨v',w',hr,h2,h3,_,h5⟩:=run_append_own_at (P:=P) W B t ty 45 i _ 5 64 ht hi hz hsize hby rfl (by decide) v zs.length _ hown ad xs.length cap (xs.flatMap clL) (lenL xs) hs (memL xs) (by unfold maxLen;omega) (by omega) hB
  subst hu
  exact ⟨v',w',hr,by unfold OwnL;rw [List.flatMap_append,List.length_append];exact h2,h3,h5⟩
 obtain ⟨a,cap,rfl,h⟩:=hu
 rcases h with rfl | ⟨b,off,rfl,h⟩
 ·cases a with
  | none =>
    have hr:(Builtin.append_ #[t,t] ty #[v,.slice none 0 cap]).run P W=.ok v W:=by
     rcases hown.2 with ⟨rfl,_⟩ | ⟨g,cap',cur,rfl,_,_,hnc,_⟩
     ·simp [Builtin.append_,run_underlying ht,sizeOf,typeInfo,hi,Builtin.lenOf,Builtin.firstCells]
     ·simp [Builtin.append_,run_underlying ht,sizeOf,typeInfo,hi,Builtin.lenOf,Builtin.firstCells,hnc,storeCells]
    exact ⟨v,W,hr,by rw [List.append_nil];exact hown,⟨rfl,rfl,rfl,Nat.le_refl _,fun k _ _=>rfl⟩,.inl rfl⟩
  | some ad=>exact key ad cap (fun j u hj=>by simp at hj) rfl
 ·refine key _ cap (fun j z hj=>?_) rfl
  have h2:(⟨b,off,none⟩ : Addr).add j=⟨b,off+j,none⟩:=by unfold Addr.add;split <;> simp_all
  rw [h2]
  exact h j z hj
theorem flat_take (ps:List LkA) (k j:Nat) (z:Value) (h:((ps.take k).flatMap clL)[j]?=some z):(ps.flatMap clL)[j]?=some z:=by
 have hj:=(List.getElem?_eq_some_iff.1 h).1
 have e:ps.flatMap clL=(ps.take k).flatMap clL ++ (ps.drop k).flatMap clL:=by rw [← List.flatMap_append,List.take_append_drop]
 rw [e,List.getElem?_append_left hj]
 exact h
theorem flat_drop (ps:List LkA) (k j:Nat) (hk:k≤ps.length) (z:Value) (h:((ps.drop k).flatMap clL)[j]?=some z):(ps.flatMap clL)[k * 5+j]?=some z:=by
 have e:ps.flatMap clL=(ps.take k).flatMap clL ++ (ps.drop k).flatMap clL:=by rw [← List.flatMap_append,List.take_append_drop]
 have hl:((ps.take k).flatMap clL).length=k * 5:=by rw [lenL,List.length_take,Nat.min_eq_left hk]
 rw [e,List.getElem?_append_right (by omega),hl,show k * 5+j - k * 5=j by omega]
 exact h
theorem src_take {W:World} {B g n c:Nat} {ps:List LkA} (h:OwnL W B (.slice (some ⟨g,0,none⟩) n c) ps) {k:Nat} (hk:k≤ps.length):SrcL W (.slice (some ⟨g,0,none⟩) k c) (ps.take k):=by
 refine ⟨_,c,by rw [List.length_take,Nat.min_eq_left hk],?_⟩
 rcases h.2 with ⟨e,_⟩ | ⟨g',cap,cur,e,_,hg,_,_,_,htk⟩
 ·cases e
 ·cases e
  refine .inr ⟨g,0,rfl,fun j z hj=>?_⟩
  have h1:=flat_take ps k j z hj
  have hjl:j<ps.length * 5:=by have:=(List.getElem?_eq_some_iff.1 h1).1;rw [lenL] at this;exact this
  rw [← htk,List.getElem?_take,if_pos hjl,Array.getElem?_toList] at h1
  rw [Nat.zero_add,Joins.cell_of_block hg]
  exact h1
theorem src_drop {W:World} {B g n c d:Nat} {ps:List LkA} (h:OwnL W B (.slice (some ⟨g,0,none⟩) n c) ps) {k:Nat} (hk:k≤ps.length):SrcL W (.slice (some ⟨g,k * 5,none⟩) (ps.length - k) d) (ps.drop k):=by
 refine ⟨_,d,by rw [List.length_drop],?_⟩
 rcases h.2 with ⟨e,_⟩ | ⟨g',cap,cur,e,_,hg,_,_,_,htk⟩
 ·cases e
 ·cases e
  refine .inr ⟨g,k * 5,rfl,fun j z hj=>?_⟩
  have h1:=flat_drop ps k j hk z hj
  have hjl:k * 5+j<ps.length * 5:=by have:=(List.getElem?_eq_some_iff.1 h1).1;rw [lenL] at this;exact this
  rw [← htk,List.getElem?_take,if_pos hjl,Array.getElem?_toList] at h1
  rw [Joins.cell_of_block hg]
  exact h1
theorem src_one {W:World} (q:LkA):SrcL (W.alloc (.cells #[.string q.1.n,.int .i64 q.1.t,.int .i64 q.1.h,.int .i64 q.1.e,.slice q.2.1 q.1.ws.length q.2.2] 45)) (.slice (some ⟨W.heap.size,0,none⟩) 1 1) [q]:=by
 refine ⟨_,1,rfl,.inr ⟨W.heap.size,0,rfl,fun j z hj=>?_⟩⟩
 rw [Nat.zero_add,Joins.cell_of_block (heap_alloc_new W _),← hj]
 simp [clL,uV]
theorem SrcL.kept {W W':World} {u:Value} {qs:List LkA} (h:SrcL W u qs) (hk:∀ b,u.ownBlock=some b→W'.heap[b]?=W.heap[b]?):SrcL W' u qs:=by
 obtain ⟨a,c,rfl,h⟩:=h
 refine ⟨a,c,rfl,?_⟩
 rcases h with h | ⟨b,off,rfl,h⟩
 ·exact .inl h
 ·exact .inr ⟨b,off,rfl,fun j z hj=>by rw [← h j z hj];simp only [World.cell?,hk b (by rfl)]⟩
end Go.Proofs.YticokpbelgpfmaaGreat.Ea
namespace Go.Proofs.YticokpbelgpfmaaGreat.Lsh
open Go.RowKit
section
variable {P:Program} {ops:Array Oper} {Q:Exit→Act→World→Prop} {md:Region.Mode} {S:World→Prop}
def Shut (md:Region.Mode) (ops:Array Oper) (l:Array Bool):Prop:=∀ (k:Nat) (o:Oper),ops[k]?=some o→l.getD k false=true→∀ e ∈ o.after,Region.binds md e=true→l.getD e.on false=true
def shutB (md:Region.Mode) (ops:Array Oper) (l:Array Bool):Bool:=(List.range ops.size).all fun k=>match ops[k]? with
 | some o=>!(l.getD k false) || o.after.all fun e=>!(Region.binds md e) || l.getD e.on false
 | none=>true
theorem shut_of {l:Array Bool} (h:shutB md ops l=true):Shut md ops l:=fun k o hk hl e he hb=>by
 unfold shutB at h
 rw [List.all_eq_true] at h
 have h1:=h k (List.mem_range.2 (Array.getElem?_eq_some_iff.1 hk).1)
 rw [hk] at h1
 simp only [hl,Bool.not_true,Bool.false_or] at h1
 have h2:=Array.all_eq_true_iff_forall_mem.1 h1 e he
 simpa [hb] using h2
theorem Shut.next {l:Array Bool} (h:Shut md ops l) {j:Nat} (hj:j ∈ Region.ready md ops l):Shut md ops (l.setIfInBounds j true):=fun k o hk hl e he hb=>by
 refine getD_set_true ?_
 by_cases hjk:j=k
 ·subst hjk
  obtain ⟨_,o',ho,hall⟩:=mem_ready.1 hj
  rw [hk] at ho
  cases ho
  exact hall e he hb
 ·rw [getD_set_ne false hjk] at hl
  exact h k o hk hl e he hb
def pre (md:Region.Mode) (ops:Array Oper) (i:Nat):Nat→Nat→Bool
 | 0,_=>false
 | f+1,z=>match ops[z]? with
   | some o=>o.after.any fun e=>Region.binds md e && (e.on == i || pre md ops i f e.on)
   | none=>false
theorem zAv {l:Array Bool} (h:Shut md ops l) {i:Nat}:∀ (f z:Nat),pre md ops i f z=true→(∀ o,ops[z]?=some o→∀ e ∈ o.after,Region.binds md e=true→l.getD e.on false=true)→l.getD i false=true
 | 0,_,hp,_=>by simp [pre] at hp
 | f+1,z,hp,hz=>by
   unfold pre at hp
   split at hp
   ·rename_i o ho
    obtain ⟨e,he,hb⟩:=Array.any_eq_true'.1 hp
    simp only [Bool.and_eq_true,Bool.or_eq_true,beq_iff_eq] at hb
    have hl:=hz o ho e he hb.1
    rcases hb.2 with hi | hi
    ·rw [← hi];exact hl
    ·exact zAv h f e.on hi (fun o' ho' e' he' hb'=>h e.on o' ho' hl e' he' hb')
   ·cases hp
theorem not_ready {l:Array Bool} (h:Shut md ops l) {i f z:Nat} (hp:pre md ops i f z=true) (hi:l.getD i true=false):z ∉ Region.ready md ops l:=fun hz=>by
 obtain ⟨_,o,ho,hall⟩:=mem_ready.1 hz
 have h1:=zAv h f z hp (fun o' ho' e he hb=>by rw [ho] at ho';cases ho';exact hall e he hb)
 rw [Array.getD_eq_getD_getElem?] at h1 hi
 cases hx:l[i]? with
 | none=>rw [hx] at h1;simp at h1
 | some b=>rw [hx] at h1 hi;simp at h1 hi;rw [h1] at hi;cases hi
def wpZ (P:Program) (md:Region.Mode) (ops:Array Oper) (Q:Exit→Act→World→Prop) (S:World→Prop) (z:Nat):Nat→Array Bool→Act→World→Prop
 | 0,l,a,w=>Region.ready md ops l=[]∧Q .normal a w
 | fuel+1,l,a,w=>(Region.ready md ops l=[]→Q .normal a w)∧∀ i ∈ Region.ready md ops l,wpOp P ops Q i (fun a' w'=>(i=z ∨ S w')∧wpZ P md ops Q S z fuel (l.setIfInBounds i true) a' w') a w
theorem wpAny_of_Z {z:Nat}:∀ (fuel:Nat) (l:Array Bool) (a:Act) (w:World),wpZ P md ops Q S z fuel l a w→wpAny P md ops Q fuel l a w
 | 0,_,_,_,h=>h
 | fuel+1,_,_,_,h=>⟨h.1,fun i hi=>wpOp_mono (fun a' w' h'=>wpAny_of_Z fuel _ a' w' h'.2) (h.2 i hi)⟩
theorem wpZ_first {i z f:Nat} {oi:Oper} {v:Value} (hi:ops[i]?=some oi) (hsel:∀ (j:Nat) (o:Oper) cs b,ops[j]?=some o→o.op ≠ .select cs b)
 (hQ:∀ c a w,Q (.panic c) (a.put oi.dst v) w→Q (.panic c) a w) (hp:pre md ops i f z=true) :
 ∀ (fuel:Nat) (l:Array Bool) (a:Act) (w:World),Shut md ops l →
   (∀ j oj,ops[j]?=some oj→j ≠ i→l.getD j true=false→(∀ e ∈ oj.after,Region.binds md e=true→e.on ≠ i)→oi.apart ops oj=true) →
   i ∈ Region.ready md ops l→YieldsIf P ops S oi v a→S w →
   wpZ P md ops Q S z fuel (l.setIfInBounds i true) (a.put oi.dst v) w→wpZ P md ops Q S z (fuel+1) l a w:=by
 intro fuel
 induction fuel with
 | zero =>
   intro l a w _ _ hr hy hS H
   refine ⟨fun h=>(by rw [h] at hr;cases hr),fun j hj=>?_⟩
   by_cases e:j=i
   ·subst e;exact hy.wpOp hi hS ⟨.inr hS,H⟩
   ·have:=ready_mono hj e
    rw [H.1] at this
    cases this
 | succ fuel ih =>
   intro l a w hsh hfree hr hy hS H
   refine ⟨fun h=>(by rw [h] at hr;cases hr),fun j hj=>?_⟩
   by_cases e:j=i
   ·subst e;exact hy.wpOp hi hS ⟨.inr hS,H⟩
   ·have hun:=(mem_ready.1 hr).1
    have hjz:j ≠ z:=fun e2=>not_ready hsh hp hun (e2 ▸ hj)
    have h1:=H.2 j (ready_mono hj e)
    obtain ⟨hjun,oj,hoj,hall⟩:=mem_ready.1 hj
    have hnot:∀ e ∈ oj.after,Region.binds md e=true→e.on ≠ i:=fun e he hb heq=>by
     have h2:=hall e he hb
     rw [heq] at h2
     rw [Array.getD_eq_getD_getElem?] at h2 hun
     cases hx:l[i]? with
     | none=>rw [hx] at h2;simp at h2
     | some b=>rw [hx] at h2 hun;simp at h2 hun;rw [h2] at hun;cases hun
    have h2:=wpOp_putIf hoj (hfree j oj hoj e hjun hnot) (fun cs b=>hsel i oi cs b hi) (fun cs b=>hsel j oj cs b hoj) hQ hy h1
    refine wpOp_mono (fun a' w' h3=>?_) h2
    have hSw:S w':=h3.2.1.resolve_left hjz
    refine ⟨.inr hSw,ih (l.setIfInBounds j true) a' w' (hsh.next hj) (fun k ok hk hki hunk hno=>hfree k ok hk hki ?_ hno) (ready_mono hr (Ne.symm e)) h3.1 hSw ?_⟩
    ·by_cases hjk:j=k
     ·subst hjk;exact hjun
     ·rw [getD_set_ne true hjk] at hunk;exact hunk
    ·rw [Array.setIfInBounds_comm _ _ e]
     exact h3.2.2
theorem zBA {i z:Nat} (f:Nat) {oi:Oper} {v:Value} {fuel:Nat} {l:Array Bool} {a:Act} {w:World} (hi:ops[i]?=some oi) (hp:pre md ops i f z=true)
 (hs:Region.noSelect ops=true) (hf:Region.free md ops l i=true) (hr:(Region.ready md ops l).contains i=true)
 (hQ:∀ c a w,Q (.panic c) (a.put oi.dst v) w→Q (.panic c) a w) (hsh:shutB md ops l=true) (hy:YieldsIf P ops S oi v a) (hS:S w)
 (h:wpZ P md ops Q S z fuel (l.setIfInBounds i true) (a.put oi.dst v) w):wpZ P md ops Q S z (fuel+1) l a w:=by
 have hr':i ∈ Region.ready md ops l:=by simpa using hr
 exact wpZ_first hi (Region.noSelect_spec hs) hQ hp fuel l a w (shut_of hsh) (Region.free_spec hi hf) hr' hy hS h
def ReadyZ (P:Program) (md:Region.Mode) (ops:Array Oper) (Q:Exit→Act→World→Prop) (S:World→Prop) (z fuel:Nat) (l:Array Bool) (a:Act) (w:World) (rs:List Nat):Prop :=
 ∀ i ∈ rs,wpOp P ops Q i (fun a' w'=>(i=z ∨ S w')∧wpZ P md ops Q S z fuel (l.setIfInBounds i true) a' w') a w
theorem ReadyZ.nil {z fuel:Nat} {l:Array Bool} {a:Act} {w:World}:ReadyZ P md ops Q S z fuel l a w []:=fun _ h=>by cases h
theorem ReadyZ.cons {z fuel:Nat} {l:Array Bool} {a:Act} {w:World} {i:Nat} {o:Oper} {rs:List Nat} (ho:ops[i]?=some o)
 (h:∀ K':Act→World→Prop,Hid (∀ a w,S w→(S w→wpZ P md ops Q S z fuel (l.setIfInBounds i true) a w)→K' a w)→if Region.wanted o (yielded ops a.tmps)=true then Oper.wp P o a w K' Q else K' (a.put o.dst undef) w)
 (hs:ReadyZ P md ops Q S z fuel l a w rs):ReadyZ P md ops Q S z fuel l a w (i :: rs):=fun j hj=>by
 rcases List.mem_cons.1 hj with rfl | hj
 ·exact wpOp_step ho (fun K' hK=>h K' (fun a w hS hW=>hK a w ⟨.inr hS,hW hS⟩))
 ·exact hs j hj
theorem ReadyZ.last {z fuel:Nat} {l:Array Bool} {a:Act} {w:World} {o:Oper} (ho:ops[z]?=some o)
 (h:∀ K':Act→World→Prop,Hid (∀ a w,wpZ P md ops Q S z fuel (l.setIfInBounds z true) a w→K' a w)→if Region.wanted o (yielded ops a.tmps)=true then Oper.wp P o a w K' Q else K' (a.put o.dst undef) w):ReadyZ P md ops Q S z fuel l a w [z]:=fun j hj=>by
 obtain rfl:j=z:=by simpa using hj
 exact wpOp_step ho (fun K' hK=>h K' (fun a w hW=>hK a w ⟨.inl rfl,hW⟩))
theorem zAN {rs:List Nat} {z fuel:Nat} {l:Array Bool} {a:Act} {w:World} (hr:Region.ready md ops l=rs) (hne:rs ≠ [])
 (h:ReadyZ P md ops Q S z fuel l a w rs):wpZ P md ops Q S z (fuel+1) l a w:=⟨fun h0=>absurd (hr ▸ h0) hne,hr ▸ h⟩
theorem zBa {z:Nat} {l:Array Bool} {a:Act} {w:World} (hr:Region.ready md ops l=[]) (h:Q .normal a w):∀ fuel,wpZ P md ops Q S z fuel l a w
 | 0=>⟨hr,h⟩
 | _+1=>⟨fun _=>h,by rw [hr];simp⟩
theorem tz (i : Nat) (oi : Oper) (v : Value) {z fuel : Nat} {l : Array Bool} {a : Act} {w : World} (hv : ∀ w, S w → (execOp a.eval oi).run P w = .ok (.value v) w) (hS : S w) (h : wpZ P md ops Q S z fuel (l.setIfInBounds i true) (a.put oi.dst v) w)
    (hi : ops[i]? = some oi := by rfl) (hp : pre md ops i 2 z = true := by kernel_rfl) (hs : Region.noSelect ops = true := by kernel_rfl) (hf : Region.free md ops l i = true := by kernel_rfl) (hr : (Region.ready md ops l).contains i = true := by kernel_rfl)
    (hQ : ∀ c a w, Q (.panic c) (a.put oi.dst v) w → Q (.panic c) a w := by exact fun _ _ _ h => h) (hsh : shutB md ops l = true := by kernel_rfl) (hw : Region.wanted oi (yielded ops a.tmps) = true := by rfl) : wpZ P md ops Q S z (fuel + 1) l a w :=
  zBA 2 hi hp hs hf hr hQ hsh (Or.inl ⟨hw, hv⟩) hS h
theorem zAm (z:Nat) {id:Nat} {a:Act} {w:World} (hm:P.follows .mixedOrders=true) (hS:S w.drew)
 (h:S w.drew→wpZ P .any ops Q S z ops.size (Array.replicate ops.size false) a w.drew):(Code.region id ops true).wp P Q a w :=
 wp_region_any hm (wpAny_of_Z _ _ _ _ (h hS))
end
end Go.Proofs.YticokpbelgpfmaaGreat.Lsh
