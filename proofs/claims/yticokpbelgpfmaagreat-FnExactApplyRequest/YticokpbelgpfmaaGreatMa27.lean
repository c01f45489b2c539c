/- Texts put together: Ej, Ek, Eg. -/
import Derived.Test.YticokpbelgpfmaaGreatMaA0
import Derived.Test.YticokpbelgpfmaaGreatMa26
import Derived.Deep.RegionHeld3
namespace Go.Proofs.YticokpbelgpfmaaGreat.Ea
open Go.RowKit By Ap Tb Tw Mw Wa Tp Da
open Lo (LkA uV clL OwnL OwnL.kept OwnL.lt OwnL.below OwnL.row OwnL.slice zAG zAK Apart lenL atL)
open Tx (zAA zAC zAE zAJ zAD)
open Lf (Fnd zAS)
open Lsh
theorem src_take2 {W:World} {B n c:Nat} {la:Option Addr} {ps:List LkA} (h:OwnL W B (.slice la n c) ps) {k:Nat} (hk:k≤ps.length):SrcL W (.slice la k c) (ps.take k):=by
 cases la with
 | none =>
   rcases h.2 with ⟨e,h0⟩ | ⟨g',cap,cur,e,_⟩
   ·obtain rfl:k=0:=by omega
    exact ⟨none,c,by simp,.inl (by simp)⟩
   ·cases e
 | some a =>
   rcases h.2 with ⟨e,h0⟩ | ⟨g',cap,cur,e,_⟩
   ·cases e
   ·cases e
    exact src_take h hk
def behind (la:Option Addr) (c k:Nat):Option Addr:=if c=k then la else la.map (·.add (k * 5))
theorem src_drop2 {W:World} {B n c d:Nat} {la:Option Addr} {ps:List LkA} (h:OwnL W B (.slice la n c) ps) {k:Nat} (hk:k≤ps.length):SrcL W (.slice (behind la c k) (ps.length - k) d) (ps.drop k):=by
 have h0:=h
 rcases h.2 with ⟨e,h1⟩ | ⟨g',cap,cur,e,_,hg,hc,_⟩
 ·cases e
  exact ⟨_,d,by rw [List.length_drop],.inl (List.drop_eq_nil_of_le (by omega))⟩
 ·cases e
  unfold behind
  by_cases ek:c=k
  ·rw [if_pos ek]
   exact ⟨_,d,by rw [List.length_drop],.inl (List.drop_eq_nil_of_le (by have:ps.length * 5≤c * 5:=Nat.mul_le_mul_right 5 hc;omega))⟩
  ·rw [if_neg ek]
   have e2:(some (⟨g',0,none⟩ : Addr)).map (·.add (k * 5))=some ⟨g',k * 5,none⟩:=by simp [Addr.add];intro h;omega
   rw [e2]
   exact src_drop h0 hk
theorem SrcL.below {W W':World} {u:Value} {qs:List LkA} {b0:Nat} (h:SrcL W u qs) (hb:Below b0 W W') (hlt:∀ b,u.ownBlock=some b→b<b0):SrcL W' u qs:=h.kept fun b hb'=>hb.block b (hlt b hb')
theorem step_lk {P:Program} {ops:Array Oper} {o:Oper} {a:Act} {K:Act→World→Prop} {Q:Exit→Act→World→Prop} {E:Prop} {i:TypeInfo} (hgd:o.guard=none) (s z:Operand) (t:TypeId) (ho:o.op=.call { callee:=.builtin .append,args:=#[s,z],argTypes:=#[t,t] }) (ht:P.underlying t=some (.slice 45)) (hi:P.info? 45=some i) (hz:i.zero=some (.agg #[.string ⟨#[]⟩,.int .i64 0,.int .i64 0,.int .i64 0,.slice none 0 0]))
 (hsize:i.size=5) (hby:i.bytes=64) (W:World) {B:Nat} {v u:Value} {zs xs:List LkA} (hown:OwnL W B v zs) (hu:SrcL W u xs) (hB:B≤W.heap.size) (hlen:zs.length+xs.length≤1000000) (hs:a.eval s=v) (hx:a.eval z=u)
 (h:∀ v' w',OwnL w' B v' (zs ++ xs)→Below B W w'→(∀ k,k<W.heap.size→some k ≠ v.ownBlock→w'.heap[k]?=W.heap[k]?)→K (a.put o.dst v') w'):if Region.wanted o (yielded ops a.tmps)=true then Oper.wp P o a W K Q else E:=by
 have hw:Region.wanted o (yielded ops a.tmps)=true:=by simp [Region.wanted,hgd]
 rw [if_pos hw]
 obtain ⟨v',w',hr,h2,h3,_⟩:=runL (P:=P) W B t o.type ht hi hz hsize hby v u zs xs hown hu hB hlen
 exact wp_app ho hs hx hr (h v' w' h2 ((Below.refl B W).grown h3 hB (fun k hk=>(hown.lt k hk).1)) (fun k h1 h2=>h3.block k h1 h2))
theorem putAt_set {α:Type} {xs:List α} {k:Nat} {x y:α} (hk:k≤xs.length):(putAt xs k x).set k y=putAt xs k y:=by
 unfold putAt
 rw [List.set_append_right _ _ (by rw [List.length_take];omega),List.length_take,Nat.min_eq_left hk,Nat.sub_self,List.set_cons_zero]
theorem putAt_map {α β:Type} {f:α→β} {xs:List α} {k:Nat} {x:α}:(putAt xs k x).map f=putAt (xs.map f) k (f x):=by
 unfold putAt
 rw [List.map_append,List.map_cons,List.map_take,List.map_drop]
theorem putAt_mem {α:Type} {xs:List α} {k:Nat} {x y:α} (h:y ∈ putAt xs k x):y ∈ xs ∨ y=x:=by
 unfold putAt at h
 rcases List.mem_append.1 h with h | h
 ·exact .inl (List.mem_of_mem_take h)
 ·rcases List.mem_cons.1 h with h | h
  ·exact .inr h
  ·exact .inl (List.mem_of_mem_drop h)
theorem plc_at {ls:List Lk} {nm:ByteArray} {j:Nat} {y:Lk} (hy:ls[j]?=some y) (hj:j≤plc ls nm):(j<plc ls nm ↔ Op.bytesLess y.n.toList nm.toList=true):=by
 unfold plc at hj ⊢
 constructor
 ·intro h
  exact zAt (p:=fun x:Lk=>less x.n nm) ls j y h hy
 ·intro h
  rcases Nat.lt_or_ge j (plP (fun x:Lk=>less x.n nm) ls) with h1 | h1
  ·exact h1
  ·have e:j=plP (fun x:Lk=>less x.n nm) ls:=by omega
   subst e
   have:=zBd (p:=fun x:Lk=>less x.n nm) ls y hy
   unfold less at this
   rw [h] at this
   cases this
theorem TM.put_new {w0 w8 w9:World} {B x s0:Nat} {T:Tab} {v2 v3 v':Value} {ps:List LkA} {nm:ByteArray} (h:TM w0 w8 B x T v2 v3 ps) (hs0:w8.heap[s0]?=some (.cells #[] 153 (0,0))) (hB:B≤s0) (hn:∀ p ∈ ps,∀ g,(uV p).ownBlock=some g→g<s0) (hb:Below w8.heap.size w8 w9) (hB8:B≤w8.heap.size) {k:Nat} (hk:k≤ps.length) (ho:OwnL w9 w8.heap.size v' (putAt ps k (newL nm,some ⟨s0,0,none⟩,0))) :
 TM w0 (w9.setCell ⟨x,2,none⟩ v') B x { T with ls:=putAt T.ls k (newL nm) } v' v3 (putAt ps k (newL nm,some ⟨s0,0,none⟩,0)):=by
 have hw:OwnW w8 B (uV (newL nm,some ⟨s0,0,none⟩,0)) []:=⟨rfl,.inr ⟨s0,0,#[],rfl,hB,hs0,by simp,by decide,rfl,by simp⟩⟩
 have ho':OwnL w9 B v' (putAt ps k (newL nm,some ⟨s0,0,none⟩,0)):=by
  obtain ⟨hl,h1⟩:=ho
  refine ⟨hl,?_⟩
  rcases h1 with h1 | ⟨g,cap,cur,e,h2,h3⟩
  ·exact .inl h1
  ·exact .inr ⟨g,cap,cur,e,Nat.le_trans hB8 h2,h3⟩
 have hr:=TM.reloc h hb ho' (fun q hq=>?_) ?_
 ·rw [putAt_map] at hr
  rw [← h.eq]
  exact hr
 ·rcases putAt_mem hq with hq | rfl
  ·exact (h.ow q hq).below hb
  ·exact hw.below hb
 ·refine Apart.ins h.ap hk (G:=s0) (fun g hg=>?_) hn
  simp [uV,Value.ownBlock] at hg
  omega
end Go.Proofs.YticokpbelgpfmaaGreat.Ea
namespace Go.Proofs.YticokpbelgpfmaaGreat.Ea
open Go.RowKit By Ap Tb Tw Mw Wa Tp Da
open Lo (LkA uV clL OwnL OwnL.kept OwnL.lt OwnL.below OwnL.row OwnL.slice zAG zAK Apart lenL atL)
open Tx (zAA zAC zAE zAJ zAD)
open Lf (Fnd zAS)
open Lsh
set_option maxRecDepth 100000 in
set_option maxHeartbeats 6400000 in
theorem l05Acquire_new {w0 w:World} {B x:Nat} {T:Tab} {v2 v3:Value} {ps:List LkA} (h:TM w0 w B x T v2 v3 ps) (hT:TOK T) (hn:T.nx≤999999) (r:Da.Ask) (hr:zBQ r) (hkd:r.kd=1) (hidx:idx T.ls r.nm=none) (h4:¬ 4≤T.ls.length) :
 Calls Tryz.prog 130 #[.pointer (some ⟨x,0,none⟩),.agg #[.int .i64 r.cl,.int .i64 r.st,.int .i64 r.kd,.int .i64 r.le,.string r.nm]] w fun e w'=>DoP w0 w B x (doT T r) e w':=by
 obtain ⟨i0,hi0,hz0,hz1,hz2⟩:=info_parts Lo.infoL
 have htm0:=zAQ hT.1
 have hnx0:=zAQ hT.2.1
 have hrc:=zAQ hr.1
 have hle:0≤r.le∧r.le≤1000:=by
  rcases hr.2.2.1 with ⟨_,h⟩ | ⟨h,_⟩
  ·have:=zAQ h;omega
  ·omega
 have hpl:ps.length=T.ls.length:=h.len
 obtain ⟨k,HK⟩ : ∃ k,Hid (plc T.ls r.nm=k):=⟨_,rfl⟩
 have hkl:k≤T.ls.length:=by rw [← HK.out];exact plP_le _
 obtain ⟨y,Hy⟩ : ∃ y,Hid (newL r.nm=y):=⟨_,rfl⟩
 obtain ⟨U,HU⟩ : ∃ U:Tab,Hid (U = { T with ls:=putAt T.ls k (newL r.nm) }):=⟨_,rfl⟩
 have htm:0≤U.tm∧U.tm≤1000000000:=by rw [HU.out];exact htm0
 have hnx:1≤U.nx∧U.nx≤1000000:=by rw [HU.out];exact hnx0
 have hnU:U.nx≤999999:=by rw [HU.out];exact hn
 have HDO:Hid (doT T r=(⟨U.tm,acN U.nx r y,U.ls.set k (acL U.tm U.nx r y),U.ss⟩,tell (acK r y) (acL U.tm U.nx r y))):=by
  show _=_
  unfold doT
  rw [hidx]
  simp only [hkd,ne_eq,not_true_eq_false,if_false,h4]
  rw [HK.out,Hy.out,HU.out]
  simp only
  rw [putAt_set hkl]
 have HF0:Hid (∀ W,TM w0 W B x T v2 v3 ps→Calls Tryz.prog 131 #[.agg #[.int .i64 T.tm,.int .i64 T.nx,v2,v3],.string r.nm] W fun e w'=>e=.returned (.int .i64 (-1))∧Below W.heap.size W w'):=fun W hW=>(zAS T.tm T.nx v2 v3 T.ls r.nm W hW.rows (by omega)).mono fun e w' ⟨q,h1,h2,h3⟩=>⟨by rw [h1,fnd_none hidx h2],h3⟩
 have H0:Hid (TM w0 w B x T v2 v3 ps):=h
 have HX:Hid (∀ W,Below ((w.alloc (.cells #[.int .i64 r.cl,.int .i64 r.st,.int .i64 r.kd,.int .i64 r.le,.string r.nm] 42)).alloc (.cells #[.int .i64 0,.int .i64 0,.int .i64 0,.int .i64 0] 38)).heap.size ((w.alloc (.cells #[.int .i64 r.cl,.int .i64 r.st,.int .i64 r.kd,.int .i64 r.le,.string r.nm] 42)).alloc (.cells #[.int .i64 0,.int .i64 0,.int .i64 0,.int .i64 0] 38)) W→TM w0 W B x T v2 v3 ps∧W.heap[w.heap.size]?=some (.cells #[.int .i64 r.cl,.int .i64 r.st,.int .i64 r.kd,.int .i64 r.le,.string r.nm] 42 (0,0))∧W.heap[w.heap.size+1]?=some (.cells #[.int .i64 0,.int .i64 0,.int .i64 0,.int .i64 0] 38 (0,0))∧Oth w W):=fun W hW=>by
  have e1:(w.alloc (.cells #[.int .i64 r.cl,.int .i64 r.st,.int .i64 r.kd,.int .i64 r.le,.string r.nm] 42)).heap.size=w.heap.size+1:=by simp
  have b2:Below w.heap.size w ((w.alloc (.cells #[.int .i64 r.cl,.int .i64 r.st,.int .i64 r.kd,.int .i64 r.le,.string r.nm] 42)).alloc (.cells #[.int .i64 0,.int .i64 0,.int .i64 0,.int .i64 0] 38)):=(zAD w _).trans ((zAD _ _).mono (zAD w _).size)
  have bb:=b2.trans (hW.mono b2.size)
  refine ⟨H0.out.up bb,?_,?_,Oth.of_below bb⟩
  ·rw [hW.block _ (by simp;omega),(zAD (w.alloc (.cells #[.int .i64 r.cl,.int .i64 r.st,.int .i64 r.kd,.int .i64 r.le,.string r.nm] 42)) (.cells #[.int .i64 0,.int .i64 0,.int .i64 0,.int .i64 0] 38)).block _ (by simp)];exact zAJ _ _ _
  ·rw [hW.block _ (by simp),← e1];exact zAJ _ _ _
 obtain ⟨la,lc,rfl⟩:=h.ol.slice
 have hkc:k≤lc:=by
  rcases h.ol.2 with ⟨e,h1⟩ | ⟨g',cap,cur,e,_,_,hc,_⟩
  ·omega
  ·cases e;omega
 have HPA:Hid (∀ (j:Nat) (yy:Lk),T.ls[j]?=some yy→∃ p,ps[j]?=some p∧p.1=yy):=fun j yy hj=>h.at hj
 have hsB:Hid (B≤w.heap.size):=h.size
 have HKL:Hid (k≤ps.length):=by show _≤_;omega
 have HLN:Hid (ps.length=T.ls.length∧ps.length≤3):=⟨hpl,by omega⟩
 have HKD:Hid (r.kd=1):=hkd
 have hne4:((ps.length:Int) == 4)=false:=by simp;omega
 have hps3:ps.length≤3:=by omega
 have hkI:(0:Int)≤(k:Int):=by omega
 have hkC:(k:Int)≤(lc:Int):=by omega
 have hkN:(k:Int)≤(ps.length:Int):=by omega
 clear h hT hidx hkd h4 hn htm0 hnx0 hpl hkl
 have hn:=hnU
 go_enter Tryz.func130,Tryz.ntmps130
 go_upto_region 1 with fail
 generalize (w.alloc (.cells #[.int .i64 r.cl,.int .i64 r.st,.int .i64 r.kd,.int .i64 r.le,.string r.nm] 42)).alloc (.cells #[.int .i64 0,.int .i64 0,.int .i64 0,.int .i64 0] 38)=w2 at HX ⊢
 obtain ⟨X,hX,W,QI0,QO0⟩:=Qc.zAZ w2
 have QI:Hid (∀ w',Below w2.heap.size w2 w'→∃ x,w'=W x):=QI0
 have QO:Hid (∀ x,Below w2.heap.size w2 (W x)):=QO0
 clear QI0 QO0
 have HF:Hid (∀ q,Calls Tryz.prog 131 #[.agg #[.int .i64 T.tm,.int .i64 T.nx,.slice la ps.length lc,v3],.string r.nm] (W q) fun e w'=>e=.returned (.int .i64 (-1))∧Below (W q).heap.size (W q) w'):=fun q=>HF0.out _ (HX.out _ (QO.out q)).1
 have y0:=fun q=>(zAA (HX.out _ (QO.out q)).1.hx 0 (x:=.int .i64 T.tm) rfl).1
 have y1:=fun q=>(zAA (HX.out _ (QO.out q)).1.hx 1 (x:=.int .i64 T.nx) rfl).1
 have y2:=fun q=>(zAA (HX.out _ (QO.out q)).1.hx 2 (x:=.slice la ps.length lc) rfl).1
 have y3:=fun q=>(zAA (HX.out _ (QO.out q)).1.hx 3 (x:=v3) rfl).1
 have z4:=fun q=>(zAA (HX.out _ (QO.out q)).2.1 4 (x:=.string r.nm) rfl).1
 refine Qc.zAF (W:=W) (by kernel_rfl) (by kernel_rfl) (QI.out _ Qc.zAI) ?_
 repeat (go_big_quiet_step (first | (go_at_call 131;refine (HF.out _).mono ?_;rintro e w2 ⟨rfl,b2⟩;exact ⟨rfl,Qc.back QI.out QO.out b2⟩)))
 refine wpQuiet_nil ?_
 rintro _ ⟨xq,rfl⟩
 have G3:Hid (Below w2.heap.size w2 (W xq)):=QO.out xq
 clear y0 y1 y2 y3 z4 HF HF0 QO QI
 generalize W xq=w3 at G3 ⊢
 have x2:=(zAA (HX.out _ G3.out).1.hx 2 (x:=.slice la ps.length lc) rfl).1
 go_wp2_with fail
 clear x2
 go_loopw [5] (fun i wr=>∃ j:Nat,i=.int .i64 (j:Int)∧j≤k∧Hid (Below w2.heap.size w2 wr)) (fun i _=>k - (intOf i).toNat)
 case atStart=>exact ⟨0,rfl,by omega,G3⟩
 case round =>
  obtain ⟨j,rfl,hj,GR⟩:=hrel
  have hxr:=HX.out _ GR.out
  by_cases hjn:j<ps.length
  focus
   obtain ⟨yy,hyy⟩ : ∃ yy,T.ls[j]?=some yy:=⟨_,List.getElem?_eq_getElem (by rw [← HLN.out.1];exact hjn)⟩
   obtain ⟨p,hp,hpy⟩:=HPA.out j yy hyy
   have hlt:=plc_at hyy (by rw [HK.out];exact hj)
   rw [HK.out,← hpy] at hlt
   clear hpy
   obtain ⟨g,cap,e,_,_,_,hc⟩:=hxr.1.row hp
   obtain ⟨rfl,rfl⟩ : la=some ⟨g,0,none⟩∧lc=cap:=by injection e with e1 _ e3;exact ⟨e1,e3⟩
   clear e hyy
   have hj0:(0:Int)≤(j:Int):=by omega
   have hj1:(j:Int)<(ps.length:Int):=by omega
   obtain ⟨X,hX,W,QI0,QO0⟩:=Qc.zAZ wr
   have QI:Hid (∀ w',Below wr.heap.size wr w'→∃ x,w'=W x):=QI0
   have QO:Hid (∀ x,Below wr.heap.size wr (W x)):=QO0
   clear QI0 QO0
   have y2:=Qc.zAB QO.out (zAA hxr.1.hx 2 (x:=.slice (some ⟨g,0,none⟩) ps.length lc) rfl).1
   have m0:∀ q,(W q).cell? ⟨g,j * 5,none⟩=some (.string p.1.n):=Qc.zAB QO.out (hc 0 (.string p.1.n) rfl).1
   have z4:=Qc.zAB QO.out (zAA hxr.2.1 4 (x:=.string r.nm) rfl).1
   clear hc hxr
   by_cases hjk:j<k
   ·have hls:Op.bytesLess p.1.n.toList r.nm.toList=true:=hlt.1 hjk
    clear hlt
    go_upto_region 6 with fail
    refine Qc.zAF (W:=W) (by kernel_rfl) (by kernel_rfl) (QI.out _ Qc.zAI) ?_
    repeat (go_big_quiet_step (fail))
    refine wpQuiet_nil ?_
    rintro _ ⟨xq,rfl⟩
    have G:Hid (Below w2.heap.size w2 (W xq)):=GR.out.trans ((QO.out xq).mono GR.out.size)
    clear y2 m0 z4 QO QI GR
    generalize W xq=wq at G ⊢
    go_wp2_with fail
    exact ⟨⟨j+1,by go_num,by omega,G⟩,by simp [intOf];omega⟩
   focus
    have hls:Op.bytesLess p.1.n.toList r.nm.toList=false:=by
     cases hh:Op.bytesLess p.1.n.toList r.nm.toList with
     | false=>rfl
     | true=>exact absurd (hlt.2 hh) hjk
    obtain rfl:j=k:=by omega
    clear hlt
    go_upto_region 6 with fail
    refine Qc.zAF (W:=W) (by kernel_rfl) (by kernel_rfl) (QI.out _ Qc.zAI) ?_
    repeat (go_big_quiet_step (fail))
    refine wpQuiet_nil ?_
    rintro _ ⟨xq,rfl⟩
    have G:Hid (Below w2.heap.size w2 (W xq)):=GR.out.trans ((QO.out xq).mono GR.out.size)
    clear y2 m0 z4 QO QI GR hls hp hjk hj0 hj1 hjn
    generalize W xq=wq at G ⊢
    obtain ⟨la,hla⟩ : ∃ la:Option Addr,some (⟨g,0,none⟩ : Addr)=la:=⟨_,rfl⟩
    rw [hla] at HX
    clear hla
  rotate_left
  focus
   obtain rfl:j=k:=by have:=HKL.out;omega
   have hjl:¬ (j:Int)<(ps.length:Int):=by omega
   obtain ⟨X,hX,W,QI0,QO0⟩:=Qc.zAZ wr
   have QI:Hid (∀ w',Below wr.heap.size wr w'→∃ x,w'=W x):=QI0
   have QO:Hid (∀ x,Below wr.heap.size wr (W x)):=QO0
   clear QI0 QO0
   have y2:=Qc.zAB QO.out (zAA hxr.1.hx 2 (x:=.slice la ps.length lc) rfl).1
   have z4:=Qc.zAB QO.out (zAA hxr.2.1 4 (x:=.string r.nm) rfl).1
   clear hxr
   go_upto_region 6 with fail
   refine Qc.zAF (W:=W) (by kernel_rfl) (by kernel_rfl) (QI.out _ Qc.zAI) ?_
   repeat (go_big_quiet_step (fail))
   refine wpQuiet_nil ?_
   rintro _ ⟨xq,rfl⟩
   have G:Hid (Below w2.heap.size w2 (W xq)):=GR.out.trans ((QO.out xq).mono GR.out.size)
   clear y2 z4 QO QI GR hjl hjn
   generalize W xq=wq at G ⊢
  all_goals
   have hxq:=HX.out _ G.out
   have c4:=(zAA hxq.2.1 4 (x:=.string r.nm) rfl).1
   have HXq:Hid (∀ W,Below wq.heap.size wq W→TM w0 W B x T (.slice la ps.length lc) v3 ps∧W.heap[w.heap.size]?=some (.cells #[.int .i64 r.cl,.int .i64 r.st,.int .i64 r.kd,.int .i64 r.le,.string r.nm] 42 (0,0))∧W.heap[w.heap.size+1]?=some (.cells #[.int .i64 0,.int .i64 0,.int .i64 0,.int .i64 0] 38 (0,0))∧Oth w W):=fun W hW=>HX.out _ (G.out.trans (hW.mono G.out.size))
   have b1:=zAD wq (.cells #[] 153)
   have b2:=zAD (wq.alloc (.cells #[] 153)) (.cells #[.string r.nm,.int .i64 0,.int .i64 (-1),.int .i64 0,.slice (some ⟨wq.heap.size,0,none⟩) 0 0] 45)
   have e1:(wq.alloc (.cells #[] 153)).heap.size=wq.heap.size+1:=by simp
   have b12:=b1.trans (b2.mono b1.size)
   have HS0:Hid (((wq.alloc (.cells #[] 153)).alloc (.cells #[.string r.nm,.int .i64 0,.int .i64 (-1),.int .i64 0,.slice (some ⟨wq.heap.size,0,none⟩) 0 0] 45)).heap[wq.heap.size]?=some (.cells #[] 153 (0,0))∧B≤wq.heap.size∧∀ p ∈ ps,∀ g,(uV p).ownBlock=some g→g<wq.heap.size):=⟨(b2.block _ (by simp)).trans (heap_alloc_new wq _),hxq.1.size,fun p hp g hg=>((hxq.1.ow p hp).lt g hg).2⟩
   have HBX:Hid (((wq.alloc (.cells #[] 153)).alloc (.cells #[.string r.nm,.int .i64 0,.int .i64 (-1),.int .i64 0,.slice (some ⟨wq.heap.size,0,none⟩) 0 0] 45)).heap[wq.heap.size+1]?=some (.cells #[.string r.nm,.int .i64 0,.int .i64 (-1),.int .i64 0,.slice (some ⟨wq.heap.size,0,none⟩) 0 0] 45 (0,0))):=by show _=_;rw [← e1];exact zAJ _ _ _
   have HX8:Hid (∀ W,Below ((wq.alloc (.cells #[] 153)).alloc (.cells #[.string r.nm,.int .i64 0,.int .i64 (-1),.int .i64 0,.slice (some ⟨wq.heap.size,0,none⟩) 0 0] 45)).heap.size ((wq.alloc (.cells #[] 153)).alloc (.cells #[.string r.nm,.int .i64 0,.int .i64 (-1),.int .i64 0,.slice (some ⟨wq.heap.size,0,none⟩) 0 0] 45)) W→TM w0 W B x T (.slice la ps.length lc) v3 ps∧W.heap[w.heap.size]?=some (.cells #[.int .i64 r.cl,.int .i64 r.st,.int .i64 r.kd,.int .i64 r.le,.string r.nm] 42 (0,0))∧W.heap[w.heap.size+1]?=some (.cells #[.int .i64 0,.int .i64 0,.int .i64 0,.int .i64 0] 38 (0,0))∧Oth w W):=fun W hW=>HXq.out _ (b12.trans (hW.mono b12.size))
   have hl8:wq.heap.size+1<((wq.alloc (.cells #[] 153)).alloc (.cells #[.string r.nm,.int .i64 0,.int .i64 (-1),.int .i64 0,.slice (some ⟨wq.heap.size,0,none⟩) 0 0] 45)).heap.size:=(Array.getElem?_eq_some_iff.1 HBX.out).1
   clear hxq b1 b2 e1 b12 HXq
   go_upto_region 9 with fail
   clear c4
   generalize ((wq.alloc (.cells #[] 153)).alloc (.cells #[.string r.nm,.int .i64 0,.int .i64 (-1),.int .i64 0,.slice (some ⟨wq.heap.size,0,none⟩) 0 0] 45))=w8 at HS0 HBX HX8 hl8 ⊢
   have HS8:Hid (∀ W,Below w8.heap.size w8 W→(W.cell? ⟨x,2,none⟩=some (.slice la ps.length lc)∧W.cell? ⟨wq.heap.size+1,0,none⟩=some (.string r.nm)∧W.cell? ⟨wq.heap.size+1,1,none⟩=some (.int .i64 0)∧W.cell? ⟨wq.heap.size+1,2,none⟩=some (.int .i64 (-1))∧W.cell? ⟨wq.heap.size+1,3,none⟩=some (.int .i64 0)∧W.cell? ⟨wq.heap.size+1,4,none⟩=some (.slice (some ⟨wq.heap.size,0,none⟩) 0 0))):=fun W hW=>by
    have h1:=(HX8.out W hW).1.hx
    have h2:=(hW.block _ hl8).trans HBX.out
    exact ⟨(zAA h1 2 rfl).1,(zAA h2 0 rfl).1,(zAA h2 1 rfl).1,(zAA h2 2 rfl).1,(zAA h2 3 rfl).1,(zAA h2 4 rfl).1⟩
   clear HBX hl8 G
   refine wp_region_noPanic ?_
   refine zAm 21 (S:=fun W=>(W.cell? ⟨x,2,none⟩=some (.slice la ps.length lc)∧W.cell? ⟨wq.heap.size+1,0,none⟩=some (.string r.nm)∧W.cell? ⟨wq.heap.size+1,1,none⟩=some (.int .i64 0)∧W.cell? ⟨wq.heap.size+1,2,none⟩=some (.int .i64 (-1))∧W.cell? ⟨wq.heap.size+1,3,none⟩=some (.int .i64 0)∧W.cell? ⟨wq.heap.size+1,4,none⟩=some (.slice (some ⟨wq.heap.size,0,none⟩) 0 0))) (by kernel_rfl) (HS8.out _ (Below.refl w8.heap.size w8).drew) (fun hHeld=>?_)
   refine tz 0 ⟨some 49,.move (.tmp 0),141,"l05_locks.go:132",#[],none⟩ ?_ ?_ hHeld ?_
   rotate_left
   ·rintro wz ⟨y2,k0,k1,k2,k3,k4⟩;go_simp;try (with_reducible rfl)
   simp only [Act.put,sA,sB,sC]
   refine tz 2 ⟨some 51,.move (.tmp 0),141,"l05_locks.go:132",#[],none⟩ ?_ ?_ hHeld ?_
   rotate_left
   ·rintro wz ⟨y2,k0,k1,k2,k3,k4⟩;go_simp;try (with_reducible rfl)
   simp only [Act.put,sA,sB,sC]
   refine tz 3 ⟨some 52,.nilCheck (.tmp 51),0,"l05_locks.go:132",#[⟨2,.data⟩],none⟩ ?_ ?_ hHeld ?_
   rotate_left
   ·rintro wz ⟨y2,k0,k1,k2,k3,k4⟩;go_simp;try (with_reducible rfl)
   simp only [Act.put,sA,sB,sC]
   refine tz 4 ⟨some 53,.fieldAddr 30 (.tmp 52) 2,0,"l05_locks.go:132",#[⟨3,.data⟩],none⟩ ?_ ?_ hHeld ?_
   rotate_left
   ·rintro wz ⟨y2,k0,k1,k2,k3,k4⟩;go_simp;try (with_reducible rfl)
   simp only [Act.put,sA,sB,sC]
   refine tz 5 ⟨some 54,.load 27 (.tmp 53),27,"l05_locks.go:132",#[⟨4,.data⟩],none⟩ ?_ ?_ hHeld ?_
   rotate_left
   ·rintro wz ⟨y2,k0,k1,k2,k3,k4⟩;go_simp;try (with_reducible rfl)
   simp only [Act.put,sA,sB,sC]
   refine tz 6 ⟨some 55,.move (.tmp 5),3,"l05_locks.go:132",#[],none⟩ ?_ ?_ hHeld ?_
   rotate_left
   ·rintro wz ⟨y2,k0,k1,k2,k3,k4⟩;go_simp;try (with_reducible rfl)
   simp only [Act.put,sA,sB,sC]
   refine tz 7 ⟨some 56,.slice 27 (.tmp 54) none (some (.tmp 55)) none,27,"l05_locks.go:132",#[⟨5,.data⟩,⟨6,.data⟩],none⟩ ?_ ?_ hHeld ?_
   rotate_left
   ·rintro wz ⟨y2,k0,k1,k2,k3,k4⟩;go_simp;try (with_reducible rfl)
   simp only [Act.put,sA,sB,sC]
   refine tz 9 ⟨some 58,.load 45 (.tmp 6),45,"l05_locks.go:132",#[],none⟩ ?_ ?_ hHeld ?_
   rotate_left
   ·rintro wz ⟨y2,k0,k1,k2,k3,k4⟩;go_simp;try (with_reducible rfl)
   simp only [Act.put,sA,sB,sC]
   refine tz 12 ⟨some 61,.move (.tmp 0),141,"l05_locks.go:132",#[],none⟩ ?_ ?_ hHeld ?_
   rotate_left
   ·rintro wz ⟨y2,k0,k1,k2,k3,k4⟩;go_simp;try (with_reducible rfl)
   simp only [Act.put,sA,sB,sC]
   refine tz 13 ⟨some 62,.nilCheck (.tmp 61),0,"l05_locks.go:132",#[⟨12,.data⟩],none⟩ ?_ ?_ hHeld ?_
   rotate_left
   ·rintro wz ⟨y2,k0,k1,k2,k3,k4⟩;go_simp;try (with_reducible rfl)
   simp only [Act.put,sA,sB,sC]
   refine tz 14 ⟨some 63,.fieldAddr 30 (.tmp 62) 2,0,"l05_locks.go:132",#[⟨13,.data⟩],none⟩ ?_ ?_ hHeld ?_
   rotate_left
   ·rintro wz ⟨y2,k0,k1,k2,k3,k4⟩;go_simp;try (with_reducible rfl)
   simp only [Act.put,sA,sB,sC]
   refine tz 15 ⟨some 64,.load 27 (.tmp 63),27,"l05_locks.go:132",#[⟨14,.data⟩],none⟩ ?_ ?_ hHeld ?_
   rotate_left
   ·rintro wz ⟨y2,k0,k1,k2,k3,k4⟩;go_simp;try (with_reducible rfl)
   simp only [Act.put,sA,sB,sC]
   refine tz 16 ⟨some 65,.move (.tmp 5),3,"l05_locks.go:132",#[],none⟩ ?_ ?_ hHeld ?_
   rotate_left
   ·rintro wz ⟨y2,k0,k1,k2,k3,k4⟩;go_simp;try (with_reducible rfl)
   simp only [Act.put,sA,sB,sC]
   refine tz 17 ⟨some 66,.slice 27 (.tmp 64) (some (.tmp 65)) none none,27,"l05_locks.go:132",#[⟨15,.data⟩,⟨16,.data⟩],none⟩ (.slice (behind la lc j) (ps.length - j) (lc - j)) ?_ hHeld ?_
   ·rintro wz ⟨y2,k0,k1,k2,k3,k4⟩;unfold behind;go_simp;try (with_reducible rfl)
   simp only [Act.put,sA,sB,sC]
   refine zAN (rs:=[1,10]) (by kernel_rfl) (by simp) ?_
   refine (ReadyZ.cons (o:=⟨some 50,.buildSlice 27 0 #[],27,"l05_locks.go:132",#[],none⟩) rfl (fun K hK=>?_) (ReadyZ.cons (o:=⟨some 59,.buildSlice 27 1 #[(0,Operand.tmp 58)],27,"l05_locks.go:132",#[⟨9,.data⟩],none⟩) rfl (fun K hK=>?_) ReadyZ.nil))
   focus
    go_simp
    refine hK.out _ _ ?_ (fun hHeld=>?_)
    ·exact HS8.out _ ((Below.refl w8.heap.size w8).drew.alloc (Below.refl w8.heap.size w8).drew.size _)
    clear hK K
    (try simp only [Act.put,sA,sB,sC])
    have oE:OwnL (w8.drew.alloc (.cells #[] 45)) w8.heap.size (.slice (some ⟨w8.heap.size,0,none⟩) 0 0) []:=(by rw [show (w8.heap.size:Nat)=w8.drew.heap.size by simp];exact World.ownsRow_made _ #[] 0 (Below.refl w8.heap.size w8).drew.size (by decide) rfl)
    have bE:Below w8.heap.size w8 (w8.drew.alloc (.cells #[] 45)):=((Below.refl w8.heap.size w8).drew.alloc (Below.refl w8.heap.size w8).drew.size _)
    refine zAN (rs:=[8,10]) (by kernel_rfl) (by simp) ?_
    refine (ReadyZ.cons (o:=⟨some 57,.call { callee:=Callee.builtin Builtin.append,args:=#[Operand.tmp 50,Operand.tmp 56],argTypes:=#[27,27] },27,"l05_locks.go:132",#[⟨1,.data⟩,⟨7,.data⟩],none⟩) rfl (fun K hK=>?_) (ReadyZ.cons (o:=⟨some 59,.buildSlice 27 1 #[(0,Operand.tmp 58)],27,"l05_locks.go:132",#[⟨9,.data⟩],none⟩) rfl (fun K hK=>?_) ReadyZ.nil))
    focus
     refine step_lk (by rfl) _ _ 27 (by rfl) Tryz.underlying27 hi0 hz0 hz1 hz2 _ oE (src_take2 (HX8.out _ bE).1.ol HKL.out) bE.size (by simp;omega) (by rfl) (by rfl) ?_
     intro v57 w57 o57 b57 f57
     have c57:Below w8.heap.size w8 w57:=bE.trans b57
     refine hK.out _ _ ?_ (fun hHeld=>?_)
     ·exact HS8.out _ c57
     clear hK K
     (try simp only [Act.put,sA,sB,sC])
     refine zAN (rs:=[10]) (by kernel_rfl) (by simp) ?_
     refine (ReadyZ.cons (o:=⟨some 59,.buildSlice 27 1 #[(0,Operand.tmp 58)],27,"l05_locks.go:132",#[⟨9,.data⟩],none⟩) rfl (fun K hK=>?_) ReadyZ.nil)
     go_simp
     refine hK.out _ _ ?_ (fun hHeld=>?_)
     ·exact HS8.out _ (c57.alloc c57.size _)
     clear hK K
     (try simp only [Act.put,sA,sB,sC])
     have qY:SrcL (w57.alloc (.cells #[.string r.nm,.int .i64 0,.int .i64 (-1),.int .i64 0,.slice (some ⟨wq.heap.size,0,none⟩) 0 0] 45)) (.slice (some ⟨w57.heap.size,0,none⟩) 1 1) [((newL r.nm,some ⟨wq.heap.size,0,none⟩,0):LkA)]:=(by rw [show (w57.heap.size:Nat)=w57.heap.size by simp];exact src_one _)
     have bY:Below w8.heap.size w8 (w57.alloc (.cells #[.string r.nm,.int .i64 0,.int .i64 (-1),.int .i64 0,.slice (some ⟨wq.heap.size,0,none⟩) 0 0] 45)):=(c57.alloc c57.size _)
     have oY:=OwnL.below o57 (zAD _ (.cells #[.string r.nm,.int .i64 0,.int .i64 (-1),.int .i64 0,.slice (some ⟨wq.heap.size,0,none⟩) 0 0] 45))
     refine zAN (rs:=[11]) (by kernel_rfl) (by simp) ?_
     refine (ReadyZ.cons (o:=⟨some 60,.call { callee:=Callee.builtin Builtin.append,args:=#[Operand.tmp 57,Operand.tmp 59],argTypes:=#[27,27] },27,"l05_locks.go:132",#[⟨8,.data⟩,⟨10,.data⟩,⟨8,.chain⟩],none⟩) rfl (fun K hK=>?_) ReadyZ.nil)
     refine step_lk (by rfl) _ _ 27 (by rfl) Tryz.underlying27 hi0 hz0 hz1 hz2 _ oY qY bY.size (by simp;omega) (by rfl) (by rfl) ?_
     intro v60 w60 o60 b60 f60
     have c60:Below w8.heap.size w8 w60:=bY.trans b60
    rotate_left
    focus
     go_simp
     refine hK.out _ _ ?_ (fun hHeld=>?_)
     ·exact HS8.out _ (bE.alloc bE.size _)
     clear hK K
     (try simp only [Act.put,sA,sB,sC])
     have qY:SrcL ((w8.drew.alloc (.cells #[] 45)).alloc (.cells #[.string r.nm,.int .i64 0,.int .i64 (-1),.int .i64 0,.slice (some ⟨wq.heap.size,0,none⟩) 0 0] 45)) (.slice (some ⟨w8.heap.size+1,0,none⟩) 1 1) [((newL r.nm,some ⟨wq.heap.size,0,none⟩,0):LkA)]:=(by rw [show (w8.heap.size+1:Nat)=(w8.drew.alloc (.cells #[] 45)).heap.size by simp];exact src_one _)
     have bY:Below w8.heap.size w8 ((w8.drew.alloc (.cells #[] 45)).alloc (.cells #[.string r.nm,.int .i64 0,.int .i64 (-1),.int .i64 0,.slice (some ⟨wq.heap.size,0,none⟩) 0 0] 45)):=(bE.alloc bE.size _)
     have oY:=OwnL.below oE (zAD _ (.cells #[.string r.nm,.int .i64 0,.int .i64 (-1),.int .i64 0,.slice (some ⟨wq.heap.size,0,none⟩) 0 0] 45))
     refine zAN (rs:=[8]) (by kernel_rfl) (by simp) ?_
     refine (ReadyZ.cons (o:=⟨some 57,.call { callee:=Callee.builtin Builtin.append,args:=#[Operand.tmp 50,Operand.tmp 56],argTypes:=#[27,27] },27,"l05_locks.go:132",#[⟨1,.data⟩,⟨7,.data⟩],none⟩) rfl (fun K hK=>?_) ReadyZ.nil)
     refine step_lk (by rfl) _ _ 27 (by rfl) Tryz.underlying27 hi0 hz0 hz1 hz2 _ oY (src_take2 (HX8.out _ bY).1.ol HKL.out) bY.size (by simp;omega) (by rfl) (by rfl) ?_
     intro v57 w57 o57 b57 f57
     have c57:Below w8.heap.size w8 w57:=bY.trans b57
     have q57:=SrcL.kept qY (W':=w57) (fun b hb=>f57 b (by cases hb;simp <;> omega) (by cases hb;simp [Value.ownBlock]))
     refine hK.out _ _ ?_ (fun hHeld=>?_)
     ·exact HS8.out _ c57
     clear hK K
     (try simp only [Act.put,sA,sB,sC])
     refine zAN (rs:=[11]) (by kernel_rfl) (by simp) ?_
     refine (ReadyZ.cons (o:=⟨some 60,.call { callee:=Callee.builtin Builtin.append,args:=#[Operand.tmp 57,Operand.tmp 59],argTypes:=#[27,27] },27,"l05_locks.go:132",#[⟨8,.data⟩,⟨10,.data⟩,⟨8,.chain⟩],none⟩) rfl (fun K hK=>?_) ReadyZ.nil)
     refine step_lk (by rfl) _ _ 27 (by rfl) Tryz.underlying27 hi0 hz0 hz1 hz2 _ o57 q57 c57.size (by simp;omega) (by rfl) (by rfl) ?_
     intro v60 w60 o60 b60 f60
     have c60:Below w8.heap.size w8 w60:=c57.trans b60
    rotate_left
   rotate_left 2
   focus
    go_simp
    refine hK.out _ _ ?_ (fun hHeld=>?_)
    ·exact HS8.out _ ((Below.refl w8.heap.size w8).drew.alloc (Below.refl w8.heap.size w8).drew.size _)
    clear hK K
    (try simp only [Act.put,sA,sB,sC])
    have qY:SrcL (w8.drew.alloc (.cells #[.string r.nm,.int .i64 0,.int .i64 (-1),.int .i64 0,.slice (some ⟨wq.heap.size,0,none⟩) 0 0] 45)) (.slice (some ⟨w8.heap.size,0,none⟩) 1 1) [((newL r.nm,some ⟨wq.heap.size,0,none⟩,0):LkA)]:=(by rw [show (w8.heap.size:Nat)=w8.drew.heap.size by simp];exact src_one _)
    have bY:Below w8.heap.size w8 (w8.drew.alloc (.cells #[.string r.nm,.int .i64 0,.int .i64 (-1),.int .i64 0,.slice (some ⟨wq.heap.size,0,none⟩) 0 0] 45)):=((Below.refl w8.heap.size w8).drew.alloc (Below.refl w8.heap.size w8).drew.size _)
    refine zAN (rs:=[1]) (by kernel_rfl) (by simp) ?_
    refine (ReadyZ.cons (o:=⟨some 50,.buildSlice 27 0 #[],27,"l05_locks.go:132",#[],none⟩) rfl (fun K hK=>?_) ReadyZ.nil)
    go_simp
    refine hK.out _ _ ?_ (fun hHeld=>?_)
    ·exact HS8.out _ (bY.alloc bY.size _)
    clear hK K
    (try simp only [Act.put,sA,sB,sC])
    have oE:OwnL ((w8.drew.alloc (.cells #[.string r.nm,.int .i64 0,.int .i64 (-1),.int .i64 0,.slice (some ⟨wq.heap.size,0,none⟩) 0 0] 45)).alloc (.cells #[] 45)) w8.heap.size (.slice (some ⟨w8.heap.size+1,0,none⟩) 0 0) []:=(by rw [show (w8.heap.size+1:Nat)=(w8.drew.alloc (.cells #[.string r.nm,.int .i64 0,.int .i64 (-1),.int .i64 0,.slice (some ⟨wq.heap.size,0,none⟩) 0 0] 45)).heap.size by simp];exact World.ownsRow_made _ #[] 0 bY.size (by decide) rfl)
    have bE:Below w8.heap.size w8 ((w8.drew.alloc (.cells #[.string r.nm,.int .i64 0,.int .i64 (-1),.int .i64 0,.slice (some ⟨wq.heap.size,0,none⟩) 0 0] 45)).alloc (.cells #[] 45)):=(bY.alloc bY.size _)
    have qE:=SrcL.below qY (zAD (w8.drew.alloc (.cells #[.string r.nm,.int .i64 0,.int .i64 (-1),.int .i64 0,.slice (some ⟨wq.heap.size,0,none⟩) 0 0] 45)) (.cells #[] 45)) (fun b hb=>by cases hb;simp <;> omega)
    refine zAN (rs:=[8]) (by kernel_rfl) (by simp) ?_
    refine (ReadyZ.cons (o:=⟨some 57,.call { callee:=Callee.builtin Builtin.append,args:=#[Operand.tmp 50,Operand.tmp 56],argTypes:=#[27,27] },27,"l05_locks.go:132",#[⟨1,.data⟩,⟨7,.data⟩],none⟩) rfl (fun K hK=>?_) ReadyZ.nil)
    refine step_lk (by rfl) _ _ 27 (by rfl) Tryz.underlying27 hi0 hz0 hz1 hz2 _ oE (src_take2 (HX8.out _ bE).1.ol HKL.out) bE.size (by simp;omega) (by rfl) (by rfl) ?_
    intro v57 w57 o57 b57 f57
    have c57:Below w8.heap.size w8 w57:=bE.trans b57
    have q57:=SrcL.kept qE (W':=w57) (fun b hb=>f57 b (by cases hb;simp <;> omega) (by cases hb;simp [Value.ownBlock]))
    refine hK.out _ _ ?_ (fun hHeld=>?_)
    ·exact HS8.out _ c57
    clear hK K
    (try simp only [Act.put,sA,sB,sC])
    refine zAN (rs:=[11]) (by kernel_rfl) (by simp) ?_
    refine (ReadyZ.cons (o:=⟨some 60,.call { callee:=Callee.builtin Builtin.append,args:=#[Operand.tmp 57,Operand.tmp 59],argTypes:=#[27,27] },27,"l05_locks.go:132",#[⟨8,.data⟩,⟨10,.data⟩,⟨8,.chain⟩],none⟩) rfl (fun K hK=>?_) ReadyZ.nil)
    refine step_lk (by rfl) _ _ 27 (by rfl) Tryz.underlying27 hi0 hz0 hz1 hz2 _ o57 q57 c57.size (by simp;omega) (by rfl) (by rfl) ?_
    intro v60 w60 o60 b60 f60
    have c60:Below w8.heap.size w8 w60:=c57.trans b60
   rotate_left
   all_goals
    refine hK.out _ _ ?_ (fun hHeld=>?_)
    ·exact HS8.out _ c60
    clear hK K
    (try simp only [Act.put,sA,sB,sC])
    refine zAN (rs:=[18]) (by kernel_rfl) (by simp) ?_
    refine (ReadyZ.cons (o:=⟨some 67,.call { callee:=Callee.builtin Builtin.append,args:=#[Operand.tmp 60,Operand.tmp 66],argTypes:=#[27,27] },27,"l05_locks.go:132",#[⟨11,.data⟩,⟨17,.data⟩,⟨11,.chain⟩],none⟩) rfl (fun K hK=>?_) ReadyZ.nil)
    refine step_lk (by rfl) _ _ 27 (by rfl) Tryz.underlying27 hi0 hz0 hz1 hz2 _ o60 (src_drop2 (HX8.out _ c60).1.ol HKL.out) c60.size (by simp;omega) (by rfl) (by rfl) ?_
    intro v67 w67 o67 b67 f67
    replace o67:OwnL w67 w8.heap.size v67 (putAt ps j (newL r.nm,some ⟨wq.heap.size,0,none⟩,0)):=(by unfold putAt;simpa using o67)
    obtain ⟨a67,k67,rfl⟩:=o67.slice
    have c67:Below w8.heap.size w8 w67:=c60.trans b67
    refine hK.out _ _ ?_ (fun hHeld=>?_)
    ·exact HS8.out _ c67
    clear hK K
    (try simp only [Act.put,sA,sB,sC])
    refine tz 19 ⟨some 68,.nilCheck (.tmp 49),0,"l05_locks.go:132",#[⟨0,.data⟩,⟨0,.phase⟩,⟨1,.phase⟩,⟨2,.phase⟩,⟨3,.phase⟩,⟨4,.phase⟩,⟨5,.phase⟩,⟨6,.phase⟩,⟨7,.phase⟩,⟨8,.phase⟩,⟨9,.phase⟩,⟨10,.phase⟩,⟨11,.phase⟩,⟨12,.phase⟩,⟨13,.phase⟩,⟨14,.phase⟩,⟨15,.phase⟩,⟨16,.phase⟩,⟨17,.phase⟩,⟨18,.phase⟩],none⟩ ?_ ?_ hHeld ?_
    rotate_left
    ·rintro wz ⟨y2,k0,k1,k2,k3,k4⟩;go_simp;try (with_reducible rfl)
    simp only [Act.put,sA,sB,sC]
    refine tz 20 ⟨some 69,.fieldAddr 30 (.tmp 68) 2,0,"l05_locks.go:132",#[⟨19,.data⟩,⟨0,.phase⟩,⟨1,.phase⟩,⟨2,.phase⟩,⟨3,.phase⟩,⟨4,.phase⟩,⟨5,.phase⟩,⟨6,.phase⟩,⟨7,.phase⟩,⟨8,.phase⟩,⟨9,.phase⟩,⟨10,.phase⟩,⟨11,.phase⟩,⟨12,.phase⟩,⟨13,.phase⟩,⟨14,.phase⟩,⟨15,.phase⟩,⟨16,.phase⟩,⟨17,.phase⟩,⟨18,.phase⟩],none⟩ ?_ ?_ hHeld ?_
    rotate_left
    ·rintro wz ⟨y2,k0,k1,k2,k3,k4⟩;go_simp;try (with_reducible rfl)
    simp only [Act.put,sA,sB,sC]
    refine zAN (rs:=[21]) (by kernel_rfl) (by simp) ?_
    refine ReadyZ.last (o:=⟨none,.store 27 (.tmp 69) (.tmp 67),0,"l05_locks.go:132",#[⟨20,.data⟩,⟨18,.data⟩,⟨18,.chain⟩,⟨0,.phase⟩,⟨1,.phase⟩,⟨2,.phase⟩,⟨3,.phase⟩,⟨4,.phase⟩,⟨5,.phase⟩,⟨6,.phase⟩,⟨7,.phase⟩,⟨8,.phase⟩,⟨9,.phase⟩,⟨10,.phase⟩,⟨11,.phase⟩,⟨12,.phase⟩,⟨13,.phase⟩,⟨14,.phase⟩,⟨15,.phase⟩,⟨16,.phase⟩,⟨17,.phase⟩,⟨18,.phase⟩],none⟩) rfl (fun K hK=>?_)
    have s67:=(HX8.out _ c67).1
    obtain ⟨z2,f2⟩:=zAA s67.hx 2 (x:=.slice la ps.length lc) rfl
    go_simp
    refine hK.out _ _ ?_
    clear hK K
    (try simp only [Act.put,sA,sB,sC])
    refine zBa (by kernel_rfl) ?_ _
    refine NoPanic.normal ?_
    have H9:=TM.put_new (HX8.out w8 (Below.refl _ _)).1 HS0.out.1 HS0.out.2.1 HS0.out.2.2 c67 (HX8.out w8 (Below.refl _ _)).1.size HKL.out (k:=j) (nm:=r.nm) o67
    have hx67:=HX8.out _ c67
    have O9:Oth w (w67.setCell ⟨x,2,none⟩ (.slice a67 (putAt ps j (newL r.nm,some ⟨wq.heap.size,0,none⟩,0)).length k67)):=hx67.2.2.2.trans (hx67.1.othX 2 _)
    have q9:(w67.setCell ⟨x,2,none⟩ (.slice a67 (putAt ps j (newL r.nm,some ⟨wq.heap.size,0,none⟩,0)).length k67)).heap[w.heap.size]?=some (.cells #[.int .i64 r.cl,.int .i64 r.st,.int .i64 r.kd,.int .i64 r.le,.string r.nm] 42 (0,0)):=(zAE (zAK hx67.2.1 hx67.1.hx (by decide)) 2 _).trans hx67.2.1
    have z9:(w67.setCell ⟨x,2,none⟩ (.slice a67 (putAt ps j (newL r.nm,some ⟨wq.heap.size,0,none⟩,0)).length k67)).heap[w.heap.size+1]?=some (.cells #[.int .i64 0,.int .i64 0,.int .i64 0,.int .i64 0] 38 (0,0)):=(zAE (zAK hx67.2.2.1 hx67.1.hx (by decide)) 2 _).trans hx67.2.2.1
    clear hx67 c67 o67 s67 z2 f2 hHeld
    rw [← HU.out] at H9
    have hpq:(putAt ps j ((newL r.nm,some ⟨wq.heap.size,0,none⟩,0):LkA))[j]?=some (newL r.nm,some ⟨wq.heap.size,0,none⟩,0):=by rw [zBc HKL.out,if_neg (by omega),if_pos rfl]
    obtain ⟨p,Hp⟩ : ∃ p:LkA,Hid ((newL r.nm,some ⟨wq.heap.size,0,none⟩,0)=p):=⟨_,rfl⟩
    have HNW:Hid (p.1.n=r.nm∧p.1.h = -1∧p.1.ws=[]):=by rw [← Hp.out];exact ⟨rfl,rfl,rfl⟩
    have hp1:p.1=newL r.nm:=by rw [← Hp.out]
    rw [Hp.out] at H9 hpq O9 q9 z9 ⊢
    obtain ⟨g,cap,hv,hgB,_,_,_⟩:=H9.row hpq
    obtain ⟨rfl,rfl⟩ : a67=some ⟨g,0,none⟩∧k67=cap:=by injection hv with e1 _ e3;exact ⟨e1,e3⟩
    clear hv
    generalize putAt ps j p=qs at H9 hpq O9 q9 z9 ⊢
    have HP:Hid (qs[j]?=some p∧p.1=y∧U.ls[j]?=some y∧B≤g):=⟨hpq,by rw [hp1,Hy.out],by rw [← H9.eq,List.getElem?_map,hpq];simp [hp1,Hy.out],hgB⟩
    have hw9:w.heap.size+1<(w67.setCell ⟨x,2,none⟩ (.slice (some ⟨g,0,none⟩) qs.length k67)).heap.size:=(Array.getElem?_eq_some_iff.1 z9).1
    have HX:Hid (∀ W,Below (w67.setCell ⟨x,2,none⟩ (.slice (some ⟨g,0,none⟩) qs.length k67)).heap.size (w67.setCell ⟨x,2,none⟩ (.slice (some ⟨g,0,none⟩) qs.length k67)) W→TM w0 W B x U (.slice (some ⟨g,0,none⟩) qs.length k67) v3 qs∧W.heap[w.heap.size]?=some (.cells #[.int .i64 r.cl,.int .i64 r.st,.int .i64 r.kd,.int .i64 r.le,.string r.nm] 42 (0,0))∧W.heap[w.heap.size+1]?=some (.cells #[.int .i64 0,.int .i64 0,.int .i64 0,.int .i64 0] 38 (0,0))∧Oth w W):=fun W hW=>⟨H9.up hW,(hW.block _ (by omega)).trans q9,(hW.block _ hw9).trans z9,O9.trans (Oth.of_below hW)⟩
    clear H9 O9 q9 z9 hw9 hpq hp1 hgB Hp HX8 HS8 HS0 HKL
    generalize w67.setCell ⟨x,2,none⟩ (.slice (some ⟨g,0,none⟩) qs.length k67)=w2 at HX ⊢
    have G3:Hid (Below w2.heap.size w2 w2):=Below.refl _ _
    obtain ⟨t3,q3,_,_⟩:=HX.out _ G3.out
    have x2:=(zAA t3.hx 2 (x:=.slice (some ⟨g,0,none⟩) qs.length k67) rfl).1
    have c0:=(zAA q3 0 (x:=.int .i64 r.cl) rfl).1
    have HM3:Hid (∀ i u,(clL p)[i]?=some u→w2.cell? ⟨g,j * 5+i,none⟩=some u):=fun i u hi=>by
     obtain ⟨g',cap',e,_,_,_,hc⟩:=t3.row HP.out.1
     cases e
     exact (hc i u hi).1
    have HRW:Hid (RowW w2 (uV p) p.1.ws):=(t3.ow p (List.mem_of_getElem? HP.out.1)).row
    have HWL:Hid (p.1.ws.length≤4∧p.1.ws.length≤1000):=by rw [HNW.out.2.2];exact ⟨by decide,by decide⟩
    clear t3 q3
    have hk0:(0:Int)≤(j:Int):=by omega
    have hkI:(j:Int)<(qs.length:Int):=by have:=(List.getElem?_eq_some_iff.1 HP.out.1).1;omega
    go_upto_region 11 with fail
    clear x2
    have m0:w2.cell? ⟨g,j * 5,none⟩=some (.string p.1.n):=HM3.out 0 (.string p.1.n) rfl
    have m1:=HM3.out 1 (.int .i64 p.1.t) rfl
    have m2:=HM3.out 2 (.int .i64 p.1.h) rfl
    have m3:=HM3.out 3 (.int .i64 p.1.e) rfl
    have m4:=HM3.out 4 (.slice p.2.1 p.1.ws.length p.2.2) rfl
    clear HM3
    have hA':(p.1.h == r.cl)=false:=by rw [HNW.out.2.1];simp;omega
    obtain ⟨ix,HIX⟩ : ∃ ix,Hid (wIx p.1.ws r.cl=ix):=⟨_,rfl⟩
    have hix:¬ (0:Int)≤ix:=by rw [← HIX.out,HNW.out.2.2];simp [wIx,wtB]
    have HNO:Hid (¬ (y.h=r.cl ∨ wtB y.ws r.cl=true)):=fun h=>by
     rw [← HP.out.2.1,HNW.out.2.1,HNW.out.2.2] at h
     rcases h with h | h
     ·omega
     ·simp [wtB] at h
    have hC:p.1.h<0:=by rw [HNW.out.2.1];decide
    have hy1:y.h = -1:=by rw [← HP.out.2.1];exact HNW.out.2.1
    have HAC:Hid (acN U.nx r y=U.nx+1∧acL U.tm U.nx r y=grL U.tm U.nx y r.cl r.le∧acK r y=1):=by
     unfold acN acL acK
     rw [HKD.out]
     refine ⟨?_,?_,?_⟩
     ·rw [if_pos rfl,if_neg HNO.out,if_pos hy1]
     ·rw [if_pos rfl,if_neg HNO.out,if_pos hy1]
     ·rw [if_pos rfl,if_neg HNO.out,if_pos hy1]
    clear hy1
    obtain ⟨X,hX,W,QI0,QO0⟩:=Qc.zAZ w2
    have QI:Hid (∀ w',Below w2.heap.size w2 w'→∃ x,w'=W x):=QI0
    have QO:Hid (∀ x,Below w2.heap.size w2 (W x)):=QO0
    clear QI0 QO0
    have y0:=Qc.zAB QO.out m0
    have y1:=Qc.zAB QO.out m1
    have y2:=Qc.zAB QO.out m2
    have y3:=Qc.zAB QO.out m3
    have y4:=Qc.zAB QO.out m4
    have z0:=Qc.zAB QO.out c0
    have HW:Hid (∀ q,Calls Tryz.prog 133 #[.agg #[.string p.1.n,.int .i64 p.1.t,.int .i64 p.1.h,.int .i64 p.1.e,.slice p.2.1 p.1.ws.length p.2.2],.int .i64 r.cl] (W q) fun e w'=>e=.returned (.int .i64 ix)∧Below (W q).heap.size (W q) w'):=fun q=>by
     rw [← HIX.out]
     exact zAo p.1 (uV p) r.cl (W q) (RowW.below HRW.out (QO.out q)) HWL.out.2
    refine Qc.zAF (W:=W) (by kernel_rfl) (by kernel_rfl) (QI.out _ Qc.zAI) ?_
    repeat (go_big_quiet_step (first | (go_at_call 133;refine (HW.out _).mono ?_;rintro e w2 ⟨rfl,b2⟩;exact ⟨rfl,Qc.back QI.out QO.out b2⟩)))
    refine wpQuiet_nil ?_
    rintro _ ⟨xq,rfl⟩
    have G4:Hid (Below w2.heap.size w2 (W xq)):=G3.out.trans ((QO.out xq).mono G3.out.size)
    clear y0 y1 y2 y3 y4 z0 QO QI HW m0 m1 m2 m3 m4 c0 G3
    generalize W xq=w4 at G4 ⊢
    obtain ⟨t4,q4,z4,ot4⟩:=HX.out _ G4.out
    have m2:w4.cell? ⟨g,j * 5+2,none⟩=some (.int .i64 p.1.h):=by
     obtain ⟨g',cap',e,_,_,_,hc⟩:=t4.row HP.out.1
     cases e
     exact (hc 2 _ rfl).1
    have c0:=(zAA q4 0 (x:=.int .i64 r.cl) rfl).1
    have c3:=(zAA q4 3 (x:=.int .i64 r.le) rfl).1
    have HG:=zBJ t4 HP.out.1 r.cl r.le htm.1 htm.2 hnx.1 hn hle.1 hle.2
    have Z4:Hid (w4.heap[w.heap.size+1]?=some (.cells #[.int .i64 0,.int .i64 0,.int .i64 0,.int .i64 0] 38 (0,0))∧Oth w w4):=⟨z4,ot4⟩
    clear t4 q4 z4 ot4
    go_wp2_with fail
    refine HG.mono ?_
    rintro e w5 ⟨rfl,t5,o5⟩
    have T5:Hid (TM w0 w5 B x { U with nx:=U.nx+1,ls:=U.ls.set j (grL U.tm U.nx p.1 r.cl r.le) } (.slice (some ⟨g,0,none⟩) qs.length k67) v3 (qs.set j ((grL U.tm U.nx p.1 r.cl r.le),p.2))∧w5.heap[w.heap.size+1]?=some (.cells #[.int .i64 0,.int .i64 0,.int .i64 0,.int .i64 0] 38 (0,0))∧Oth w w5):=⟨t5,o5 _ _ _ Z4.out.1 (by decide) (by decide) (by decide) (by decide),Z4.out.2.trans o5⟩
    clear t5 o5 HG m2 c0 c3
    have HM5:Hid (∀ i u,(clL ((grL U.tm U.nx p.1 r.cl r.le),p.2))[i]?=some u→w5.cell? ⟨g,j * 5+i,none⟩=some u):=fun i u hi=>by
     obtain ⟨g',cap',e,_,_,_,hc⟩:=T5.out.1.row (zBL HP.out.1)
     rw [List.length_set] at e
     cases e
     exact (hc i u hi).1
    have m0:w5.cell? ⟨g,j * 5,none⟩=some (.string p.1.n):=HM5.out 0 _ rfl
    have m1:=HM5.out 1 (.int .i64 U.nx) rfl
    have m2:=HM5.out 2 (.int .i64 r.cl) rfl
    have m3:=HM5.out 3 (.int .i64 (U.tm+r.le)) rfl
    have m4:=HM5.out 4 (.slice p.2.1 p.1.ws.length p.2.2) rfl
    have x2:=(zAA T5.out.1.hx 2 (x:=.slice (some ⟨g,0,none⟩) qs.length k67) rfl).1
    have HTL:Hid (∀ W,Calls Tryz.prog 132 #[.int .i64 1,.agg #[.string p.1.n,.int .i64 U.nx,.int .i64 r.cl,.int .i64 (U.tm+r.le),.slice p.2.1 p.1.ws.length p.2.2]] W fun e w'=>e=.returned (.agg #[.int .i64 1,.int .i64 U.nx,.int .i64 r.cl,.int .i64 (U.tm+r.le)])∧Below W.heap.size W w'):=fun W=>zAT 1 (grL U.tm U.nx p.1 r.cl r.le) (uV p) W
    clear HM5
    go_wp2_with fail
    refine (HTL.out _).mono ?_
    rintro e w6 ⟨rfl,b6⟩
    have T6:Hid (TM w0 w6 B x { U with nx:=U.nx+1,ls:=U.ls.set j (grL U.tm U.nx p.1 r.cl r.le) } (.slice (some ⟨g,0,none⟩) qs.length k67) v3 (qs.set j ((grL U.tm U.nx p.1 r.cl r.le),p.2))∧w6.heap[w.heap.size+1]?=some (.cells #[.int .i64 0,.int .i64 0,.int .i64 0,.int .i64 0] 38 (0,0))∧Oth w w6):=⟨T5.out.1.up b6,(b6.block _ (Array.getElem?_eq_some_iff.1 T5.out.2.1).1).trans T5.out.2.1,T5.out.2.2.trans (Oth.of_below b6)⟩
    clear b6 m0 m1 m2 m3 m4 x2 T5
    have RFH:Hid _:=zAg T6.out.2.1 T6.out.1 T6.out.2.2 (by omega) (Nat.le_succ_of_le hsB.out) (.int .i64 1) (.int .i64 U.nx) (.int .i64 r.cl) (.int .i64 (U.tm+r.le))
    obtain ⟨n0,f0⟩:=zAA T6.out.2.1 0 (x:=.int .i64 0) rfl
    obtain ⟨n1,f1⟩:=zAA T6.out.2.1 1 (x:=.int .i64 0) rfl
    obtain ⟨n2,f2⟩:=zAA T6.out.2.1 2 (x:=.int .i64 0) rfl
    obtain ⟨n3,f3⟩:=zAA T6.out.2.1 3 (x:=.int .i64 0) rfl
    clear T6
    go_wp2_with fail
    generalize ((((w6.setCell ⟨w.heap.size+1,0,none⟩ (.int .i64 1)).setCell ⟨w.heap.size+1,1,none⟩ (.int .i64 U.nx)).setCell ⟨w.heap.size+1,2,none⟩ (.int .i64 r.cl)).setCell ⟨w.heap.size+1,3,none⟩ (.int .i64 (U.tm+r.le)))=wf at RFH ⊢
    have d0:=(zAA RFH.out.1 0 (x:=.int .i64 1) rfl).1
    have d1:=(zAA RFH.out.1 1 (x:=.int .i64 U.nx) rfl).1
    have d2:=(zAA RFH.out.1 2 (x:=.int .i64 r.cl) rfl).1
    have d3:=(zAA RFH.out.1 3 (x:=.int .i64 (U.tm+r.le)) rfl).1
    refine bodyPost_ret (v:=.agg #[.int .i64 1,.int .i64 U.nx,.int .i64 r.cl,.int .i64 (U.tm+r.le)]) (by simp [results,Tryz.results130,go_sem,d0,d1,d2,d3]) rfl ?_
    refine ⟨?_,⟨.slice (some ⟨g,0,none⟩) qs.length k67,v3,qs.set j ((grL U.tm U.nx p.1 r.cl r.le),p.2),?_⟩,RFH.out.2.2⟩
    ·rw [HDO.out,HAC.out.1,HAC.out.2.1,HAC.out.2.2];rfl
    ·rw [HDO.out,HAC.out.1,HAC.out.2.1];rw [← HP.out.2.1];exact RFH.out.2.1
end Go.Proofs.YticokpbelgpfmaaGreat.Ea
namespace Go.Proofs.YticokpbelgpfmaaGreat.Ea
open Go.RowKit By Ap Tb Tw Mw Wa Tp Da
open Lo (LkA uV clL OwnL OwnL.kept OwnL.lt OwnL.below OwnL.row OwnL.slice zAG zAK Apart)
open Lf (Fnd zAS)
open Tx (zAA zAC zAE zAJ zAD)
theorem step_wt {P:Program} {ops:Array Oper} {o:Oper} {a:Act} {K:Act→World→Prop} {Q:Exit→Act→World→Prop} {E:Prop} {i:TypeInfo} (hgd:o.guard=none) (s z:Operand) (t:TypeId) (ho:o.op=.call { callee:=.builtin .append,args:=#[s,z],argTypes:=#[t,t] }) (ht:P.underlying t=some (.slice 153)) (hi:P.info? 153=some i) (hz:i.zero=some (.agg #[.int .i64 0,.int .i64 0]))
 (hsize:i.size=2) (hby:i.bytes=16) {w0:World} (W:World) {B x:Nat} {T:Tab} {v3:Value} {ps:List LkA} {g cap n:Nat} (h:TM w0 W B x T (.slice (some ⟨g,0,none⟩) n cap) v3 ps) {k:Nat} {p:LkA} (hk:ps[k]?=some p) (hg:B≤g) (m:Wt) (hs:a.eval s=.slice p.2.1 p.1.ws.length p.2.2) (gx:Nat) (hx:a.eval z=.slice (some ⟨gx,0,none⟩) 1 1) (hbx:W.heap[gx]?=some (.cells #[.int .i64 m.c,.int .i64 m.l] 153 (0,0))) (hlen:p.1.ws.length≤1000)
 (hK:∀ a' c' w',w'.cell? ⟨g,k * 5+4,none⟩=some (.slice p.2.1 p.1.ws.length p.2.2)→w'.frozen? ⟨g,k * 5+4,none⟩=false→Hid (TM w0 (w'.setCell ⟨g,k * 5+4,none⟩ (.slice a' (p.1.ws.length+1) c')) B x { T with ls:=T.ls.set k { p.1 with ws:=p.1.ws ++ [m] } } (.slice (some ⟨g,0,none⟩) n cap) v3 (ps.set k ({ p.1 with ws:=p.1.ws ++ [m] },a',c'))∧Oth W (w'.setCell ⟨g,k * 5+4,none⟩ (.slice a' (p.1.ws.length+1) c')))→K (a.put o.dst (.slice a' (p.1.ws.length+1) c')) w'):if Region.wanted o (yielded ops a.tmps)=true then Oper.wp P o a W K Q else E:=by
 have hw:Region.wanted o (yielded ops a.tmps)=true:=by simp [Region.wanted,hgd]
 rw [if_pos hw]
 have hpw:=h.ow p (List.mem_of_getElem? hk)
 obtain ⟨v',w',hr,h2,h3,_,h5⟩:=run_append_own_at (P:=P) W B t o.type 153 i _ 2 16 ht hi hz hsize hby rfl (by decide) (uV p) p.1.ws.length _ hpw ⟨gx,0,none⟩ 1 1 (clW m) rfl (by
  intro j u hj
  have e2:(⟨gx,0,none⟩ : Addr).add j=⟨gx,j,none⟩:=by unfold Addr.add;split <;> simp_all
  rw [e2,Joins.cell_of_block hbx,← hj]
  simp [clW]) (oneW m) (by unfold maxLen;omega) (by omega) h.size
 have ho2:Wa.OwnW w' B v' (p.1.ws ++ [m]):=by unfold Wa.OwnW;rw [List.flatMap_append,List.length_append];simpa using h2
 obtain ⟨a',c',rfl⟩:=ho2.slice
 have hl:(p.1.ws ++ [m]).length=p.1.ws.length+1:=by simp
 obtain ⟨cl,hcl⟩:=zAG h.ol (g:=g) rfl
 have kx:∀ (b:Nat) (cs:Array Value) (e:TypeId),W.heap[b]?=some (.cells cs e (0,0))→e ≠ 153→w'.heap[b]?=W.heap[b]?:=fun b cs e hb he=>h3.block b (Array.getElem?_eq_some_iff.1 hb).1 (fun e2=>by
  obtain ⟨c2,h2⟩:=zAG hpw e2.symm
  exact zAK hb h2 he rfl)
 have hcl':w'.heap[g]?=some (.cells cl 45 (0,0)):=(kx g cl _ hcl (by decide)).trans hcl
 have hcell:cl[k * 5+4]?=some (.slice p.2.1 p.1.ws.length p.2.2):=by
  obtain ⟨g',cap',e,_,_,_,hc⟩:=h.row hk
  cases e
  rw [← Joins.cell_of_block hcl]
  exact (hc 4 (uV p) rfl).1
 have h6:=h.wadd hk hg ho2 h3 h5
 rw [hl] at h6 hr
 refine wp_app ho hs hx hr (hK a' c' w' (zAA hcl' _ hcell).1 (zAA hcl' _ hcell).2 ⟨h6,fun b cs e hb _ e2 e3 _=>?_⟩)
 rw [zAE (zAK hb hcl e2),kx b cs e hb e3]
 exact hb
set_option maxRecDepth 100000 in
set_option maxHeartbeats 6400000 in
theorem l05Acquire_add {w0 w:World} {B x:Nat} {T:Tab} {v2 v3:Value} {ps:List LkA} (h:TM w0 w B x T v2 v3 ps) (hT:TOK T) (r:Da.Ask) (hr:zBQ r) (hkd:r.kd=1) {k:Nat} (hidx:idx T.ls r.nm=some k) {y:Lk} (hy:T.ls[k]?=some y) (hnh:¬ y.h=r.cl) (hnw:wtB y.ws r.cl=false) (hh1:¬ y.h = -1) (hD:¬ 4≤y.ws.length) :
 Calls Tryz.prog 130 #[.pointer (some ⟨x,0,none⟩),.agg #[.int .i64 r.cl,.int .i64 r.st,.int .i64 r.kd,.int .i64 r.le,.string r.nm]] w fun e w'=>DoP w0 w B x (doT T r) e w':=by
 obtain ⟨p,hp,hpy⟩:=h.at hy
 have htm:=zAQ hT.1
 have hnx:=zAQ hT.2.1
 have hle:0≤r.le∧r.le≤1000:=by
  rcases hr.2.2.1 with ⟨_,h⟩ | ⟨h,_⟩
  ·have:=zAQ h;omega
  ·omega
 have hl4:T.ls.length≤4:=hT.2.2.1
 have HDO:Hid (doT T r=(⟨T.tm,acN T.nx r y,T.ls.set k (acL T.tm T.nx r y),T.ss⟩,tell (acK r y) (acL T.tm T.nx r y))):=by
  show _=_
  unfold doT
  rw [hidx]
  simp only [getD_at hy]
 have HF0:Hid (∀ W,TM w0 W B x T v2 v3 ps→Calls Tryz.prog 131 #[.agg #[.int .i64 T.tm,.int .i64 T.nx,v2,v3],.string r.nm] W fun e w'=>e=.returned (.int .i64 (k:Int))∧Below W.heap.size W w'):=fun W hW=>(zAS T.tm T.nx v2 v3 T.ls r.nm W hW.rows (by omega)).mono fun e w' ⟨q,h1,h2,h3⟩=>⟨by rw [h1,fnd_idx hidx h2],h3⟩
 have H0:Hid (TM w0 w B x T v2 v3 ps):=h
 have HX:Hid (∀ W,Below ((w.alloc (.cells #[.int .i64 r.cl,.int .i64 r.st,.int .i64 r.kd,.int .i64 r.le,.string r.nm] 42)).alloc (.cells #[.int .i64 0,.int .i64 0,.int .i64 0,.int .i64 0] 38)).heap.size ((w.alloc (.cells #[.int .i64 r.cl,.int .i64 r.st,.int .i64 r.kd,.int .i64 r.le,.string r.nm] 42)).alloc (.cells #[.int .i64 0,.int .i64 0,.int .i64 0,.int .i64 0] 38)) W→TM w0 W B x T v2 v3 ps∧W.heap[w.heap.size]?=some (.cells #[.int .i64 r.cl,.int .i64 r.st,.int .i64 r.kd,.int .i64 r.le,.string r.nm] 42 (0,0))∧W.heap[w.heap.size+1]?=some (.cells #[.int .i64 0,.int .i64 0,.int .i64 0,.int .i64 0] 38 (0,0))∧Oth w W):=fun W hW=>by
  have e1:(w.alloc (.cells #[.int .i64 r.cl,.int .i64 r.st,.int .i64 r.kd,.int .i64 r.le,.string r.nm] 42)).heap.size=w.heap.size+1:=by simp
  have b2:Below w.heap.size w ((w.alloc (.cells #[.int .i64 r.cl,.int .i64 r.st,.int .i64 r.kd,.int .i64 r.le,.string r.nm] 42)).alloc (.cells #[.int .i64 0,.int .i64 0,.int .i64 0,.int .i64 0] 38)):=(zAD w _).trans ((zAD _ _).mono (zAD w _).size)
  have bb:=b2.trans (hW.mono b2.size)
  refine ⟨H0.out.up bb,?_,?_,Oth.of_below bb⟩
  ·rw [hW.block _ (by simp;omega),(zAD (w.alloc (.cells #[.int .i64 r.cl,.int .i64 r.st,.int .i64 r.kd,.int .i64 r.le,.string r.nm] 42)) (.cells #[.int .i64 0,.int .i64 0,.int .i64 0,.int .i64 0] 38)).block _ (by simp)];exact zAJ _ _ _
  ·rw [hW.block _ (by simp),← e1];exact zAJ _ _ _
 obtain ⟨g,cap,hv,hgB,_,_,_⟩:=h.row hp
 subst hv
 have hpl:ps.length=T.ls.length:=h.len
 have hkl:k<ps.length:=(List.getElem?_eq_some_iff.1 hp).1
 have hkI:(k:Int)<(ps.length:Int):=by omega
 have hk0:¬ (k:Int)<0:=by omega
 have hsB:Hid (B≤w.heap.size):=h.size
 have HP:Hid (ps[k]?=some p∧p.1=y∧T.ls[k]?=some y∧B≤g):=⟨hp,hpy,hy,hgB⟩
 have HLN:Hid (ps.length=T.ls.length):=hpl
 have HTK:Hid (TOK T):=hT
 have HKD:Hid (r.kd=1):=hkd
 clear h hy hp hpy hpl hT hidx hkd
 go_enter Tryz.func130,Tryz.ntmps130
 go_upto_region 1 with fail
 generalize (w.alloc (.cells #[.int .i64 r.cl,.int .i64 r.st,.int .i64 r.kd,.int .i64 r.le,.string r.nm] 42)).alloc (.cells #[.int .i64 0,.int .i64 0,.int .i64 0,.int .i64 0] 38)=w2 at HX ⊢
 obtain ⟨X,hX,W,QI0,QO0⟩:=Qc.zAZ w2
 have QI:Hid (∀ w',Below w2.heap.size w2 w'→∃ x,w'=W x):=QI0
 have QO:Hid (∀ x,Below w2.heap.size w2 (W x)):=QO0
 clear QI0 QO0
 have HF:Hid (∀ q,Calls Tryz.prog 131 #[.agg #[.int .i64 T.tm,.int .i64 T.nx,.slice (some ⟨g,0,none⟩) ps.length cap,v3],.string r.nm] (W q) fun e w'=>e=.returned (.int .i64 (k:Int))∧Below (W q).heap.size (W q) w'):=fun q=>HF0.out _ (HX.out _ (QO.out q)).1
 have y0:=fun q=>(zAA (HX.out _ (QO.out q)).1.hx 0 (x:=.int .i64 T.tm) rfl).1
 have y1:=fun q=>(zAA (HX.out _ (QO.out q)).1.hx 1 (x:=.int .i64 T.nx) rfl).1
 have y2:=fun q=>(zAA (HX.out _ (QO.out q)).1.hx 2 (x:=.slice (some ⟨g,0,none⟩) ps.length cap) rfl).1
 have y3:=fun q=>(zAA (HX.out _ (QO.out q)).1.hx 3 (x:=v3) rfl).1
 have z4:=fun q=>(zAA (HX.out _ (QO.out q)).2.1 4 (x:=.string r.nm) rfl).1
 refine Qc.zAF (W:=W) (by kernel_rfl) (by kernel_rfl) (QI.out _ Qc.zAI) ?_
 repeat (go_big_quiet_step (first | (go_at_call 131;refine (HF.out _).mono ?_;rintro e w2 ⟨rfl,b2⟩;exact ⟨rfl,Qc.back QI.out QO.out b2⟩)))
 refine wpQuiet_nil ?_
 rintro _ ⟨xq,rfl⟩
 have G3:Hid (Below w2.heap.size w2 (W xq)):=QO.out xq
 clear y0 y1 y2 y3 z4 HF HF0 QO QI
 generalize W xq=w3 at G3 ⊢
 obtain ⟨t3,q3,_,_⟩:=HX.out _ G3.out
 have x2:=(zAA t3.hx 2 (x:=.slice (some ⟨g,0,none⟩) ps.length cap) rfl).1
 have c0:=(zAA q3 0 (x:=.int .i64 r.cl) rfl).1
 have HM3:Hid (∀ j u,(clL p)[j]?=some u→w3.cell? ⟨g,k * 5+j,none⟩=some u):=fun j u hj=>by
  obtain ⟨g',cap',e,_,_,_,hc⟩:=t3.row HP.out.1
  cases e
  exact (hc j u hj).1
 have HRW:Hid (RowW w3 (uV p) p.1.ws):=(t3.ow p (List.mem_of_getElem? HP.out.1)).row
 have HWL:Hid (p.1.ws.length≤4∧p.1.ws.length≤1000):=by
  have hh:=(HTK.out.2.2.2.1 k y HP.out.2.2.1).2.2.2
  have h5:y.ws.length≤4:=by
   rcases hh with hh | hh
   ·have:=hh.2.2;omega
   ·exact hh.2.2.2.1
  rw [HP.out.2.1]
  exact ⟨h5,by omega⟩
 clear t3 q3
 go_upto_region 11 with fail
 clear x2
 have m0:w3.cell? ⟨g,k * 5,none⟩=some (.string p.1.n):=HM3.out 0 (.string p.1.n) rfl
 have m1:=HM3.out 1 (.int .i64 p.1.t) rfl
 have m2:=HM3.out 2 (.int .i64 p.1.h) rfl
 have m3:=HM3.out 3 (.int .i64 p.1.e) rfl
 have m4:=HM3.out 4 (.slice p.2.1 p.1.ws.length p.2.2) rfl
 clear HM3
 have hA':(p.1.h == r.cl)=false:=by have:=hnh;rw [← HP.out.2.1] at this;simpa using this
 obtain ⟨ix,HIX⟩ : ∃ ix,Hid (wIx p.1.ws r.cl=ix):=⟨_,rfl⟩
 have hB:wtB p.1.ws r.cl=false:=by rw [HP.out.2.1];exact hnw
 have hix:¬ (0:Int)≤ix:=by rw [← HIX.out];unfold wIx;rw [if_neg (by rw [hB];decide)];decide
 clear hB
 have HNO:Hid (¬ (y.h=r.cl ∨ wtB y.ws r.cl=true)):=fun h=>by
  rcases h with h | h
  ·exact hnh h
  ·rw [hnw] at h;cases h
 have hC:¬ p.1.h<0:=by
  have hh:=(HTK.out.2.2.2.1 k y HP.out.2.2.1).2.2.2
  rw [HP.out.2.1]
  rcases hh with hh | hh
  ·exact absurd hh.1 hh1
  ·have:=(zAQ hh.2.1).1;omega
 have HAC:Hid (acN T.nx r y=T.nx∧acL T.tm T.nx r y = { y with ws:=y.ws ++ [⟨r.cl,r.le⟩] }∧acK r y=2):=by
  unfold acN acL acK
  rw [HKD.out]
  simp only [if_true,HNO.out,hh1,hD,if_false]
  exact ⟨trivial,trivial,trivial⟩
 have hD4:((p.1.ws.length:Int) == 4)=false:=by rw [HP.out.2.1];simp;omega
 have HD:Hid (p.1.ws.length<4):=by rw [HP.out.2.1];show _<_;omega
 clear hnh hnw hh1 hD
 have c3:w3.cell? ⟨w.heap.size,3,none⟩=some (.int .i64 r.le):=(zAA (HX.out _ G3.out).2.1 3 (x:=.int .i64 r.le) rfl).1
 obtain ⟨X,hX,W,QI0,QO0⟩:=Qc.zAZ w3
 have QI:Hid (∀ w',Below w3.heap.size w3 w'→∃ x,w'=W x):=QI0
 have QO:Hid (∀ x,Below w3.heap.size w3 (W x)):=QO0
 clear QI0 QO0
 have y0:=Qc.zAB QO.out m0
 have y1:=Qc.zAB QO.out m1
 have y2:=Qc.zAB QO.out m2
 have y3:=Qc.zAB QO.out m3
 have y4:=Qc.zAB QO.out m4
 have z0:=Qc.zAB QO.out c0
 have HW:Hid (∀ q,Calls Tryz.prog 133 #[.agg #[.string p.1.n,.int .i64 p.1.t,.int .i64 p.1.h,.int .i64 p.1.e,.slice p.2.1 p.1.ws.length p.2.2],.int .i64 r.cl] (W q) fun e w'=>e=.returned (.int .i64 ix)∧Below (W q).heap.size (W q) w'):=fun q=>by
  rw [← HIX.out]
  exact zAo p.1 (uV p) r.cl (W q) (RowW.below HRW.out (QO.out q)) HWL.out.2
 refine Qc.zAF (W:=W) (by kernel_rfl) (by kernel_rfl) (QI.out _ Qc.zAI) ?_
 repeat (go_big_quiet_step (first | (go_at_call 133;refine (HW.out _).mono ?_;rintro e w2 ⟨rfl,b2⟩;exact ⟨rfl,Qc.back QI.out QO.out b2⟩)))
 refine wpQuiet_nil ?_
 rintro _ ⟨xq,rfl⟩
 have G4:Hid (Below w2.heap.size w2 (W xq)):=G3.out.trans ((QO.out xq).mono G3.out.size)
 clear y0 y1 y2 y3 y4 z0 QO QI HW m0 m1 m2 m3 m4 c0 c3 G3
 generalize W xq=w4 at G4 ⊢
 obtain ⟨t4,q4,z4,_⟩:=HX.out _ G4.out
 have HM:Hid (∀ j u,(clL p)[j]?=some u→w4.cell? ⟨g,k * 5+j,none⟩=some u):=fun j u hj=>by
  obtain ⟨g',cap',e,_,_,_,hc⟩:=t4.row HP.out.1
  cases e
  exact (hc j u hj).1
 have c0:=(zAA q4 0 (x:=.int .i64 r.cl) rfl).1
 have c3:=(zAA q4 3 (x:=.int .i64 r.le) rfl).1
 have m0:w4.cell? ⟨g,k * 5,none⟩=some (.string p.1.n):=HM.out 0 (.string p.1.n) rfl
 have m1:=HM.out 1 (.int .i64 p.1.t) rfl
 have m2:=HM.out 2 (.int .i64 p.1.h) rfl
 have m3:=HM.out 3 (.int .i64 p.1.e) rfl
 have m4:=HM.out 4 (.slice p.2.1 p.1.ws.length p.2.2) rfl
 clear t4 q4 z4
 go_upto_region 18 with fail
 have HB:Hid (∀ W,Below w4.heap.size w4 W→TM w0 W B x T (.slice (some ⟨g,0,none⟩) ps.length cap) v3 ps∧W.heap[w.heap.size+1]?=some (.cells #[.int .i64 0,.int .i64 0,.int .i64 0,.int .i64 0] 38 (0,0))∧Oth w W):=fun W hW=>by
  have hh:=HX.out W (G4.out.trans (hW.mono G4.out.size))
  exact ⟨hh.1,hh.2.2.1,hh.2.2.2⟩
 obtain ⟨j0,hj0,hjz,hj1,hj2⟩:=info_parts infoW
 have hl1:p.1.ws.length≤1000:=HWL.out.2
 clear m0 m1 m2 m3 HM
 have m4d:w4.drew.cell? ⟨g,k * 5+4,none⟩=some (.slice p.2.1 p.1.ws.length p.2.2):=m4
 have m4a:∀ o,(w4.alloc o).cell? ⟨g,k * 5+4,none⟩=some (.slice p.2.1 p.1.ws.length p.2.2):=fun o=>by
  rw [(zAD w4 o).cell (p:=⟨g,k * 5+4,none⟩) (World.block_lt_of_cell? w4 _ m4)]
  exact m4
 have c0d:w4.drew.cell? ⟨w.heap.size,0,none⟩=some (.int .i64 r.cl):=c0
 have c3d:w4.drew.cell? ⟨w.heap.size,3,none⟩=some (.int .i64 r.le):=c3
 have HC:Hid (∀ o,Below w4.heap.size w4 (w4.alloc o)):=fun o=>zAD w4 o
 have HCD:Hid (∀ o,Below w4.heap.size w4 (w4.alloc o).drew):=fun o=>(zAD w4 o).drew
 go_region_law
  (first
    | (refine step_wt (by rfl) _ _ 43 (by rfl) Tryz.underlying43 hj0 hjz hj1 hj2 _ (HB.out _ (by first | exact HC.out _ | exact HCD.out _)).1 HP.out.1 HP.out.2.2.2 ⟨r.cl,r.le⟩ (by rfl) _ (by rfl) (by first | exact heap_alloc_new _ _ | exact (heap_alloc_new _ _:(World.alloc _ _).drew.heap[_]?=_)) hl1 ?_;intro a5 c5 w5 e5 f5 T5;try go_simp))
 all_goals
  have H6:Hid (TM w0 (w5.setCell ⟨g,k * 5+4,none⟩ (.slice a5 (p.1.ws.length+1) c5)) B x { T with ls:=T.ls.set k (⟨p.1.n,p.1.t,p.1.h,p.1.e,p.1.ws ++ [⟨r.cl,r.le⟩]⟩ : Lk) } (.slice (some ⟨g,0,none⟩) ps.length cap) v3 (ps.set k ((⟨p.1.n,p.1.t,p.1.h,p.1.e,p.1.ws ++ [⟨r.cl,r.le⟩]⟩ : Lk),a5,c5))∧(w5.setCell ⟨g,k * 5+4,none⟩ (.slice a5 (p.1.ws.length+1) c5)).heap[w.heap.size+1]?=some (.cells #[.int .i64 0,.int .i64 0,.int .i64 0,.int .i64 0] 38 (0,0))∧Oth w (w5.setCell ⟨g,k * 5+4,none⟩ (.slice a5 (p.1.ws.length+1) c5))):=by
   have hh:=HB.out _ (HCD.out (.cells #[.int .i64 r.cl,.int .i64 r.le] 153))
   exact ⟨T5.out.1,T5.out.2 _ _ _ hh.2.1 (by decide) (by decide) (by decide) (by decide),hh.2.2.trans T5.out.2⟩
  clear T5 e5 f5 HB HC HCD m4 m4d m4a c0 c3 c0d c3d HRW HX G4
  generalize (w5.setCell ⟨g,k * 5+4,none⟩ (.slice a5 (p.1.ws.length+1) c5))=w6 at H6 ⊢
  have HM6:Hid (∀ j u,(clL ((⟨p.1.n,p.1.t,p.1.h,p.1.e,p.1.ws ++ [⟨r.cl,r.le⟩]⟩ : Lk),a5,c5))[j]?=some u→w6.cell? ⟨g,k * 5+j,none⟩=some u):=fun j u hj=>by
   obtain ⟨g',cap',e,_,_,_,hc⟩:=H6.out.1.row (zBL HP.out.1)
   rw [List.length_set] at e
   cases e
   exact (hc j u hj).1
  have hl5:(p.1.ws ++ [(⟨r.cl,r.le⟩ : Wt)]).length=p.1.ws.length+1:=by simp
  have m0:w6.cell? ⟨g,k * 5,none⟩=some (.string p.1.n):=HM6.out 0 _ rfl
  have m1:=HM6.out 1 (.int .i64 p.1.t) rfl
  have m2:=HM6.out 2 (.int .i64 p.1.h) rfl
  have m3:=HM6.out 3 (.int .i64 p.1.e) rfl
  have m4:=HM6.out 4 (.slice a5 (p.1.ws.length+1) c5) (by rw [← hl5];rfl)
  have HTL:Hid (∀ W,Calls Tryz.prog 132 #[.int .i64 2,.agg #[.string p.1.n,.int .i64 p.1.t,.int .i64 p.1.h,.int .i64 p.1.e,.slice a5 (p.1.ws.length+1) c5]] W fun e w'=>e=.returned (.agg #[.int .i64 2,.int .i64 p.1.t,.int .i64 p.1.h,.int .i64 p.1.e])∧Below W.heap.size W w'):=fun W=>by
   have:=zAT 2 (⟨p.1.n,p.1.t,p.1.h,p.1.e,p.1.ws ++ [⟨r.cl,r.le⟩]⟩ : Lk) (.slice a5 (p.1.ws.length+1) c5) W
   exact this
  clear HM6 hl5
  go_wp2_with fail
  refine (HTL.out _).mono ?_
  rintro e w7 ⟨rfl,b7⟩
  have T7:Hid (TM w0 w7 B x { T with ls:=T.ls.set k (⟨p.1.n,p.1.t,p.1.h,p.1.e,p.1.ws ++ [⟨r.cl,r.le⟩]⟩ : Lk) } (.slice (some ⟨g,0,none⟩) ps.length cap) v3 (ps.set k ((⟨p.1.n,p.1.t,p.1.h,p.1.e,p.1.ws ++ [⟨r.cl,r.le⟩]⟩ : Lk),a5,c5))∧w7.heap[w.heap.size+1]?=some (.cells #[.int .i64 0,.int .i64 0,.int .i64 0,.int .i64 0] 38 (0,0))∧Oth w w7):=⟨H6.out.1.up b7,(b7.block _ (Array.getElem?_eq_some_iff.1 H6.out.2.1).1).trans H6.out.2.1,H6.out.2.2.trans (Oth.of_below b7)⟩
  clear b7 m0 m1 m2 m3 m4 H6
  have RFH:Hid _:=zAg T7.out.2.1 T7.out.1 T7.out.2.2 (by omega) (Nat.le_succ_of_le hsB.out) (.int .i64 2) (.int .i64 p.1.t) (.int .i64 p.1.h) (.int .i64 p.1.e)
  obtain ⟨n0,f0⟩:=zAA T7.out.2.1 0 (x:=.int .i64 0) rfl
  obtain ⟨n1,f1⟩:=zAA T7.out.2.1 1 (x:=.int .i64 0) rfl
  obtain ⟨n2,f2⟩:=zAA T7.out.2.1 2 (x:=.int .i64 0) rfl
  obtain ⟨n3,f3⟩:=zAA T7.out.2.1 3 (x:=.int .i64 0) rfl
  clear T7
  go_wp2_with fail
  generalize ((((w7.setCell ⟨w.heap.size+1,0,none⟩ (.int .i64 2)).setCell ⟨w.heap.size+1,1,none⟩ (.int .i64 p.1.t)).setCell ⟨w.heap.size+1,2,none⟩ (.int .i64 p.1.h)).setCell ⟨w.heap.size+1,3,none⟩ (.int .i64 p.1.e))=wf at RFH ⊢
  have d0:=(zAA RFH.out.1 0 (x:=.int .i64 2) rfl).1
  have d1:=(zAA RFH.out.1 1 (x:=.int .i64 p.1.t) rfl).1
  have d2:=(zAA RFH.out.1 2 (x:=.int .i64 p.1.h) rfl).1
  have d3:=(zAA RFH.out.1 3 (x:=.int .i64 p.1.e) rfl).1
  refine bodyPost_ret (v:=.agg #[.int .i64 2,.int .i64 p.1.t,.int .i64 p.1.h,.int .i64 p.1.e]) (by simp [results,Tryz.results130,go_sem,d0,d1,d2,d3]) rfl ?_
  refine ⟨?_,⟨.slice (some ⟨g,0,none⟩) ps.length cap,v3,ps.set k ((⟨p.1.n,p.1.t,p.1.h,p.1.e,p.1.ws ++ [⟨r.cl,r.le⟩]⟩ : Lk),a5,c5),?_⟩,RFH.out.2.2⟩
  ·rw [HDO.out,HAC.out.1,HAC.out.2.1,HAC.out.2.2,← HP.out.2.1];rfl
  ·rw [HDO.out,HAC.out.1,HAC.out.2.1,← HP.out.2.1];exact RFH.out.2.1
end Go.Proofs.YticokpbelgpfmaaGreat.Ea
