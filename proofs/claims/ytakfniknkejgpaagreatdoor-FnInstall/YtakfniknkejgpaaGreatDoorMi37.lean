/- Texts put together: Eo, Lo, Ec. -/
import Derived.Test.YtakfniknkejgpaaGreatDoorMiA0
import Derived.Test.YtakfniknkejgpaaGreatDoorMi36
namespace Go.Proofs.YtakfniknkejgpaaGreatDoor.Ea
open Go.RowKit Sl By Ap Tb Tw Wa Tp Da
open Lo (LkA uV clL OwnL OwnL.kept OwnL.lt OwnL.below OwnL.row OwnL.slice zAI zAO Apart lenL atL)
open Tx (zAA zAE zAB zAK zAD)
open Lf (Fnd zAc)
open Lsh
theorem plP_eq {α:Type} {p:α→Bool}:∀ (xs:List α) (k:Nat),k≤xs.length→(∀ (j:Nat) (x:α),j<k→xs[j]?=some x→p x=true)→(∀ x,xs[k]?=some x→p x=false)→plP p xs=k
 | [],k,hk,_,_=>by simp [plP];simp at hk;omega
 | y :: r,0,_,_,h2=>by unfold plP;rw [if_neg (by rw [h2 y rfl];decide)]
 | y :: r,k+1,hk,h1,h2=>by
   unfold plP
   rw [if_pos (h1 0 y (by omega) rfl),plP_eq r k (by simpa using hk) (fun j x hj hx=>h1 (j+1) x (by omega) (by simpa using hx)) (fun x hx=>h2 x (by simpa using hx))]
theorem seen_lt {ss:List Sn} (h:SsOK ss):∀ (k j:Nat) (a b:Sn),j<k→ss[j]?=some a→ss[k]?=some b→a.c<b.c
 | 0,j,_,_,hj,_,_=>by omega
 | k+1,j,a,b,hj,ha,hb=>by
   have h1:=(zAa (h (k+1) b hb).1).1
   unfold pc at h1
   rw [if_neg (by omega),Nat.add_sub_cancel] at h1
   have hk:k<ss.length:=by have:=(List.getElem?_eq_some_iff.1 hb).1;omega
   obtain ⟨c,hc⟩ : ∃ c,ss[k]?=some c:=⟨_,List.getElem?_eq_getElem hk⟩
   rw [List.getD_eq_getElem?_getD,hc] at h1
   simp only [Option.getD_some] at h1
   by_cases e:j=k
   ·subst e
    rw [ha] at hc
    cases hc
    omega
   ·have:=seen_lt h k j a c (by omega) ha hc
    omega
theorem seen_place {ss:List Sn} (h:SsOK ss) {c:Int} {k:Nat} {s:Sn} (hs:ss[k]?=some s) (hc:s.c=c):splc ss c=k∧sidx ss c=some k:=by
 have hk:=(List.getElem?_eq_some_iff.1 hs).1
 constructor
 ·unfold splc
  refine plP_eq ss k (by omega) (fun j x hj hx=>?_) (fun x hx=>?_)
  ·have:=seen_lt h k j x s hj hx hs
   simp;omega
  ·rw [hs] at hx;cases hx;simp;omega
 ·unfold sidx
  have key:∀ (xs:List Sn) (k:Nat) (s:Sn),xs[k]?=some s→s.c=c→(∀ (j:Nat) (x:Sn),j<k→xs[j]?=some x→x.c ≠ c)→fiP (fun s:Sn=>s.c == c) xs=some k:=by
   intro xs
   induction xs with
   | nil=>intro k s hs;simp at hs
   | cons y r ih =>
     intro k s hs hc hb
     unfold fiP
     cases k with
     | zero=>simp at hs;subst hs;rw [if_pos (by simpa using hc)]
     | succ k =>
       rw [if_neg (by simpa using hb 0 y (by omega) rfl),ih k s (by simpa using hs) hc (fun j x hj hx=>hb (j+1) x (by omega) (by simpa using hx))]
       rfl
  exact key ss k s hs hc (fun j x hj hx e=>by have:=seen_lt h k j x s hj hx hs;omega)
theorem seen_none {ss:List Sn} {c:Int} {k:Nat} (hk:splc ss c=k) (hle:SsOK ss) (h:∀ s,ss[k]?=some s→s.c ≠ c):sidx ss c=none:=by
 cases hi:sidx ss c with
 | none=>rfl
 | some j =>
   obtain ⟨s,hs,hc⟩:=zCa ss j hi
   have hc':s.c=c:=by simpa using hc
   have:=(seen_place hle hs hc').1
   rw [hk] at this
   subst this
   exact absurd hc' (h s hs)
theorem splc_le (ss:List Sn) (c:Int):splc ss c≤ss.length:=plP_le _
theorem splc_at {ss:List Sn} {c:Int} {j:Nat} {s:Sn} (hs:ss[j]?=some s) (hj:j≤splc ss c):(j<splc ss c ↔ s.c<c):=by
 unfold splc at hj ⊢
 constructor
 ·intro h
  have:=zCP (p:=fun s:Sn=>decide (s.c<c)) ss j s h hs
  simpa using this
 ·intro h
  rcases Nat.lt_or_ge j (plP (fun s:Sn=>decide (s.c<c)) ss) with h1 | h1
  ·exact h1
  ·have e:j=plP (fun s:Sn=>decide (s.c<c)) ss:=by omega
   subst e
   have:=plP_here (p:=fun s:Sn=>decide (s.c<c)) ss s hs
   simp at this
   omega
theorem OwnL.mono {w:World} {B B':Nat} {v:Value} {ps:List LkA} (h:OwnL w B v ps) (hb:B'≤B):OwnL w B' v ps:=by
 obtain ⟨hl,h⟩:=h
 refine ⟨hl,?_⟩
 rcases h with h | ⟨g,cap,cur,rfl,h1,h2⟩
 ·exact .inl h
 ·exact .inr ⟨g,cap,cur,rfl,Nat.le_trans hb h1,h2⟩
theorem TM.fin {w0 W wf:World} {B x n:Nat} {X:Tab} {v2 v3:Value} {ps:List LkA} (h:TM w0 W B x X v2 v3 ps) (hn:n≤B) (hk:∀ j,B≤j→wf.heap[j]?=W.heap[j]?):OwnL wf n v2 ps∧(∀ p ∈ ps,OwnW wf n (uV p) p.1.ws)∧OwnS wf n v3 X.ss∧ps.map (·.1)=X.ls∧Apart ps :=
 ⟨OwnL.mono (h.ol.kept fun g hg=>hk g (h.ol.lt g hg).1) hn,fun p hp=>OwnW.mono ((h.ow p hp).kept fun g hg=>hk g ((h.ow p hp).lt g hg).1) hn,OwnS.mono (h.os.kept fun g hg=>hk g (h.os.lt g hg).1) hn,h.eq,h.ap⟩
theorem OwnS.atk {w:World} {B:Nat} {v:Value} {ss:List Sn} (h:OwnS w B v ss) {k:Nat} {s:Sn} (hk:ss[k]?=some s):∃ g cap,v=.slice (some ⟨g,0,none⟩) ss.length cap∧B≤g∧ss.length≤cap∧(∃ cl,w.heap[g]?=some (.cells cl 102 (0,0)))∧∀ j u,(clS s)[j]?=some u→w.cell? ⟨g,k * 6+j,none⟩=some u∧w.frozen? ⟨g,k * 6+j,none⟩=false:=by
 have hlt:k<ss.length:=(List.getElem?_eq_some_iff.1 hk).1
 obtain ⟨hl,h1 | ⟨g,cap,cur,e,hB,hg,hc,hm,hs,htk⟩⟩:=h
 ·rw [h1.2] at hlt;exact absurd hlt (by omega)
 refine ⟨g,cap,e,hB,hc,⟨cur,hg⟩,fun j u hj=>?_⟩
 have hj6:j<6:=(List.getElem?_eq_some_iff.1 hj).1
 have h1:=atS ss k s j hk hj6
 rw [← htk,List.getElem?_take,if_pos (by omega),hj] at h1
 refine ⟨by rw [Joins.cell_of_block hg,← Array.getElem?_toList];exact h1,by simp [World.frozen?,hg]⟩
theorem flat_setS:∀ (ps:List Sn) (k j:Nat) (p q:Sn) (z:Value),ps[k]?=some p→clS q=(clS p).set j z→j<6→(ps.flatMap clS).set (k * 6+j) z=(ps.set k q).flatMap clS
 | [],k,j,p,q,z,h,_,_=>by simp at h
 | a :: r,0,j,p,q,z,h,hq,hj=>by
   simp at h;subst h
   rw [List.flatMap_cons,List.set_cons_zero,List.flatMap_cons,hq,Nat.zero_mul,Nat.zero_add,List.set_append_left _ _ (by show _<6;omega)]
 | a :: r,k+1,j,p,q,z,h,hq,hj=>by
   have h':r[k]?=some p:=by simpa using h
   rw [List.flatMap_cons,List.set_cons_succ,List.flatMap_cons,List.set_append_right _ _ (by show 6≤_;omega)]
   rw [show (k+1) * 6+j - (clS a).length=k * 6+j by show _ - 6=_;omega,flat_setS r k j p q z h' hq hj]
theorem OwnS.setk {w:World} {B:Nat} {g cap n:Nat} {ps:List Sn} (h:OwnS w B (.slice (some ⟨g,0,none⟩) n cap) ps) {k j:Nat} {p q:Sn} {z:Value} (hk:ps[k]?=some p) (hq:clS q=(clS p).set j z) (hj:j<6) :
 OwnS (w.setCell ⟨g,k * 6+j,none⟩ z) B (.slice (some ⟨g,0,none⟩) n cap) (ps.set k q):=by
 have hlt:k<ps.length:=(List.getElem?_eq_some_iff.1 hk).1
 obtain ⟨hl,h1 | ⟨g',cap',cur,e,hB,hg,hc,hm,hs,htk⟩⟩:=h
 ·exact absurd h1.1 (by simp)
 cases e
 refine ⟨by rw [← flat_setS ps k j p q z hk hq hj,List.length_set,List.length_set];exact hl,.inr ⟨g,cap,cur.setIfInBounds (k * 6+j) z,by rw [List.length_set],hB,zAE hg _ _,by rw [List.length_set];exact hc,hm,by simpa using hs,?_⟩⟩
 rw [List.length_set,← flat_setS ps k j p q z hk hq hj,← htk,Array.toList_setIfInBounds,List.take_set]
theorem TM.sput {w0 w:World} {B x:Nat} {T:Tab} {v2:Value} {ps:List LkA} {g cap n:Nat} (h:TM w0 w B x T v2 (.slice (some ⟨g,0,none⟩) n cap) ps) {k j:Nat} {s s':Sn} {z:Value} (hk:T.ss[k]?=some s) (hq:clS s'=(clS s).set j z) (hj:j<6) :
 TM w0 (w.setCell ⟨g,k * 6+j,none⟩ z) B x { T with ss:=T.ss.set k s' } v2 (.slice (some ⟨g,0,none⟩) n cap) ps:=by
 obtain ⟨cl,hcl⟩:=zAI h.os (g:=g) rfl
 refine ⟨(zAB (zAO h.hx hcl (by decide)) _ _).trans h.hx,h.ol.kept (fun g' hg'=>?_),OwnS.setk h.os hk hq hj,fun p hp=>(h.ow p hp).kept (fun g' hg'=>?_),h.ap,h.eq,Below.setCell h.bel (p:=⟨g,_,none⟩) (h.os.lt g rfl).1 z,h.b0,h.le⟩
 ·obtain ⟨c1,h1⟩:=zAI h.ol hg'
  exact zAB (zAO h1 hcl (by decide)) _ _
 ·obtain ⟨c1,h1⟩:=zAI (h.ow p hp) hg'
  exact zAB (zAO h1 hcl (by decide)) _ _
theorem TM.sput6 {w0 w:World} {B x:Nat} {T:Tab} {v2:Value} {ps:List LkA} {g cap n:Nat} (h:TM w0 w B x T v2 (.slice (some ⟨g,0,none⟩) n cap) ps) {k:Nat} {s s':Sn} (hk:T.ss[k]?=some s) :
 TM w0 ((((((w.setCell ⟨g,k * 6,none⟩ (.int .i64 s'.c)).setCell ⟨g,k * 6+1,none⟩ (.int .i64 s'.s)).setCell ⟨g,k * 6+2,none⟩ (.int .i64 s'.k)).setCell ⟨g,k * 6+3,none⟩ (.int .i64 s'.t)).setCell ⟨g,k * 6+4,none⟩ (.int .i64 s'.h)).setCell ⟨g,k * 6+5,none⟩ (.int .i64 s'.e)) B x { T with ss:=T.ss.set k s' } v2 (.slice (some ⟨g,0,none⟩) n cap) ps:=by
 have hlt:k<T.ss.length:=(List.getElem?_eq_some_iff.1 hk).1
 have at_set:∀ (T:Tab) (z:Sn),k<T.ss.length→(T.ss.set k z)[k]?=some z:=fun T z h=>by rw [List.getElem?_set_self h]
 have s0:=h.sput (j:=0) (s':={ s with c:=s'.c }) (z:=.int .i64 s'.c) hk rfl (by decide)
 have s1:=s0.sput (j:=1) (k:=k) (s:={ s with c:=s'.c }) (s':={ s with c:=s'.c,s:=s'.s }) (z:=.int .i64 s'.s) (at_set T _ hlt) rfl (by decide)
 have s2:=s1.sput (j:=2) (k:=k) (s:={ s with c:=s'.c,s:=s'.s }) (s':={ s with c:=s'.c,s:=s'.s,k:=s'.k }) (z:=.int .i64 s'.k) (by simp [hlt]) rfl (by decide)
 have s3:=s2.sput (j:=3) (k:=k) (s:={ s with c:=s'.c,s:=s'.s,k:=s'.k }) (s':={ s with c:=s'.c,s:=s'.s,k:=s'.k,t:=s'.t }) (z:=.int .i64 s'.t) (by simp [hlt]) rfl (by decide)
 have s4:=s3.sput (j:=4) (k:=k) (s:={ s with c:=s'.c,s:=s'.s,k:=s'.k,t:=s'.t }) (s':={ s with c:=s'.c,s:=s'.s,k:=s'.k,t:=s'.t,h:=s'.h }) (z:=.int .i64 s'.h) (by simp [hlt]) rfl (by decide)
 have s5:=s4.sput (j:=5) (k:=k) (s:={ s with c:=s'.c,s:=s'.s,k:=s'.k,t:=s'.t,h:=s'.h }) (s':=s') (z:=.int .i64 s'.e) (by simp [hlt]) rfl (by decide)
 simpa only [List.set_set,Nat.add_zero] using s5
def ApP (w:World) (R:Tab × Da.An) (e:Ending) (w':World):Prop:=(∃ ul us ps,e=.returned (.tuple #[.agg #[.int .i64 R.1.tm,.int .i64 R.1.nx,ul,us],.agg #[.int .i64 R.2.k,.int .i64 R.2.t,.int .i64 R.2.h,.int .i64 R.2.e]])∧OwnL w' w.heap.size ul ps∧(∀ p ∈ ps,OwnW w' w.heap.size (uV p) p.1.ws)∧OwnS w' w.heap.size us R.1.ss∧ps.map (·.1)=R.1.ls∧Apart ps)∧Below w.heap.size w w'
theorem l05Do_any {w0 w:World} {B x:Nat} {T:Tab} {v2 v3:Value} {ps:List LkA} (h:TM w0 w B x T v2 v3 ps) (hT:TOK T) (hn:T.nx≤999999) (r:Da.Ask) (hr:AskOK r) :
 Calls Tryz.prog 90 #[.pointer (some ⟨x,0,none⟩),.agg #[.int .i64 r.cl,.int .i64 r.st,.int .i64 r.kd,.int .i64 r.le,.string r.nm]] w fun e w'=>DoP w0 w B x (doT T r) e w':=by
 by_cases hkd:r.kd=1
 ·exact l05Do_acq h hT hn r hr hkd
 ·cases hidx:idx T.ls r.nm with
  | none=>exact l05Do_none h hT r hkd hidx
  | some k =>
    obtain ⟨y,hy,_⟩:=zCa T.ls k hidx
    exact l05Do_some h hT hn r hr hkd hidx hy
theorem zBW {w:World} {b k:Nat} (h:k ≠ b) (i:Nat) (v:Value):(w.setCell ⟨b,i,none⟩ v).heap[k]?=w.heap[k]?:=zAB h i v
theorem far4 {w:World} {a k:Nat} (h:k ≠ a) (v0 v1 v2 v3:Value):((((w.setCell ⟨a,0,none⟩ v0).setCell ⟨a,1,none⟩ v1).setCell ⟨a,2,none⟩ v2).setCell ⟨a,3,none⟩ v3).heap[k]?=w.heap[k]?:=(zBW h 3 v3).trans ((zBW h 2 v2).trans ((zBW h 1 v1).trans (zBW h 0 v0)))
theorem set44 {w:World} {a b:Nat} {ta tb:TypeId} (z0 z1 z2 z3 y0 y1 y2 y3 a0 a1 a2 a3 b0 b1 b2 b3:Value) (hab:a ≠ b) (ha:w.heap[a]?=some (.cells #[z0,z1,z2,z3] ta (0,0))) (hb:w.heap[b]?=some (.cells #[y0,y1,y2,y3] tb (0,0))) :
 (((((((((w.setCell ⟨a,0,none⟩ a0).setCell ⟨a,1,none⟩ a1).setCell ⟨a,2,none⟩ a2).setCell ⟨a,3,none⟩ a3).setCell ⟨b,0,none⟩ b0).setCell ⟨b,1,none⟩ b1).setCell ⟨b,2,none⟩ b2).setCell ⟨b,3,none⟩ b3).heap[a]?=some (.cells #[a0,a1,a2,a3] ta (0,0))∧((((((((w.setCell ⟨a,0,none⟩ a0).setCell ⟨a,1,none⟩ a1).setCell ⟨a,2,none⟩ a2).setCell ⟨a,3,none⟩ a3).setCell ⟨b,0,none⟩ b0).setCell ⟨b,1,none⟩ b1).setCell ⟨b,2,none⟩ b2).setCell ⟨b,3,none⟩ b3).heap[b]?=some (.cells #[b0,b1,b2,b3] tb (0,0))∧(∀ k,k ≠ a→k ≠ b→((((((((w.setCell ⟨a,0,none⟩ a0).setCell ⟨a,1,none⟩ a1).setCell ⟨a,2,none⟩ a2).setCell ⟨a,3,none⟩ a3).setCell ⟨b,0,none⟩ b0).setCell ⟨b,1,none⟩ b1).setCell ⟨b,2,none⟩ b2).setCell ⟨b,3,none⟩ b3).heap[k]?=w.heap[k]?)∧∀ {B:Nat} {w0:World},Below B w0 w→B≤a→B≤b→Below B w0 ((((((((w.setCell ⟨a,0,none⟩ a0).setCell ⟨a,1,none⟩ a1).setCell ⟨a,2,none⟩ a2).setCell ⟨a,3,none⟩ a3).setCell ⟨b,0,none⟩ b0).setCell ⟨b,1,none⟩ b1).setCell ⟨b,2,none⟩ b2).setCell ⟨b,3,none⟩ b3)) ∧
 (((((((((w.setCell ⟨b,0,none⟩ b0).setCell ⟨b,1,none⟩ b1).setCell ⟨b,2,none⟩ b2).setCell ⟨b,3,none⟩ b3).setCell ⟨a,0,none⟩ a0).setCell ⟨a,1,none⟩ a1).setCell ⟨a,2,none⟩ a2).setCell ⟨a,3,none⟩ a3).heap[a]?=some (.cells #[a0,a1,a2,a3] ta (0,0))∧((((((((w.setCell ⟨b,0,none⟩ b0).setCell ⟨b,1,none⟩ b1).setCell ⟨b,2,none⟩ b2).setCell ⟨b,3,none⟩ b3).setCell ⟨a,0,none⟩ a0).setCell ⟨a,1,none⟩ a1).setCell ⟨a,2,none⟩ a2).setCell ⟨a,3,none⟩ a3).heap[b]?=some (.cells #[b0,b1,b2,b3] tb (0,0))∧(∀ k,k ≠ a→k ≠ b→((((((((w.setCell ⟨b,0,none⟩ b0).setCell ⟨b,1,none⟩ b1).setCell ⟨b,2,none⟩ b2).setCell ⟨b,3,none⟩ b3).setCell ⟨a,0,none⟩ a0).setCell ⟨a,1,none⟩ a1).setCell ⟨a,2,none⟩ a2).setCell ⟨a,3,none⟩ a3).heap[k]?=w.heap[k]?)∧∀ {B:Nat} {w0:World},Below B w0 w→B≤a→B≤b→Below B w0 ((((((((w.setCell ⟨b,0,none⟩ b0).setCell ⟨b,1,none⟩ b1).setCell ⟨b,2,none⟩ b2).setCell ⟨b,3,none⟩ b3).setCell ⟨a,0,none⟩ a0).setCell ⟨a,1,none⟩ a1).setCell ⟨a,2,none⟩ a2).setCell ⟨a,3,none⟩ a3)):=by
 have sa:∀ (w:World),w.heap[a]?=some (.cells #[z0,z1,z2,z3] ta (0,0))→((((w.setCell ⟨a,0,none⟩ a0).setCell ⟨a,1,none⟩ a1).setCell ⟨a,2,none⟩ a2).setCell ⟨a,3,none⟩ a3).heap[a]?=some (.cells #[a0,a1,a2,a3] ta (0,0)):=fun w h=>by
  have:=zAE (zAE (zAE (zAE h 0 a0) 1 a1) 2 a2) 3 a3
  simpa only [sA,sB,sC] using this
 have sb:∀ (w:World),w.heap[b]?=some (.cells #[y0,y1,y2,y3] tb (0,0))→((((w.setCell ⟨b,0,none⟩ b0).setCell ⟨b,1,none⟩ b1).setCell ⟨b,2,none⟩ b2).setCell ⟨b,3,none⟩ b3).heap[b]?=some (.cells #[b0,b1,b2,b3] tb (0,0)):=fun w h=>by
  have:=zAE (zAE (zAE (zAE h 0 b0) 1 b1) 2 b2) 3 b3
  simpa only [sA,sB,sC] using this
 have fa:∀ (w:World) (k:Nat),k ≠ a→((((w.setCell ⟨a,0,none⟩ a0).setCell ⟨a,1,none⟩ a1).setCell ⟨a,2,none⟩ a2).setCell ⟨a,3,none⟩ a3).heap[k]?=w.heap[k]?:=fun w k h=>(zBW h 3 a3).trans ((zBW h 2 a2).trans ((zBW h 1 a1).trans (zBW h 0 a0)))
 have fb:∀ (w:World) (k:Nat),k ≠ b→((((w.setCell ⟨b,0,none⟩ b0).setCell ⟨b,1,none⟩ b1).setCell ⟨b,2,none⟩ b2).setCell ⟨b,3,none⟩ b3).heap[k]?=w.heap[k]?:=fun w k h=>(zBW h 3 b3).trans ((zBW h 2 b2).trans ((zBW h 1 b1).trans (zBW h 0 b0)))
 have ba:∀ (w:World) {B:Nat} {w0:World},Below B w0 w→B≤a→Below B w0 ((((w.setCell ⟨a,0,none⟩ a0).setCell ⟨a,1,none⟩ a1).setCell ⟨a,2,none⟩ a2).setCell ⟨a,3,none⟩ a3):=fun w B w0 hb h=>Below.setCell (Below.setCell (Below.setCell (Below.setCell hb (p:=⟨a,0,none⟩) h a0) (p:=⟨a,1,none⟩) h a1) (p:=⟨a,2,none⟩) h a2) (p:=⟨a,3,none⟩) h a3
 have bb:∀ (w:World) {B:Nat} {w0:World},Below B w0 w→B≤b→Below B w0 ((((w.setCell ⟨b,0,none⟩ b0).setCell ⟨b,1,none⟩ b1).setCell ⟨b,2,none⟩ b2).setCell ⟨b,3,none⟩ b3):=fun w B w0 hb h=>Below.setCell (Below.setCell (Below.setCell (Below.setCell hb (p:=⟨b,0,none⟩) h b0) (p:=⟨b,1,none⟩) h b1) (p:=⟨b,2,none⟩) h b2) (p:=⟨b,3,none⟩) h b3
 exact ⟨⟨(fb _ a hab).trans (sa w ha),sb _ ((fa w b (Ne.symm hab)).trans hb),fun k h1 h2=>(fb _ k h2).trans (fa w k h1),fun h h1 h2=>bb _ (ba w h h1) h2⟩,⟨sa _ ((fb w a hab).trans ha),(fa _ b (Ne.symm hab)).trans (sb w hb),fun k h1 h2=>(fa _ k h1).trans (fb w k h2),fun h h1 h2=>ba _ (bb w h h2) h1⟩⟩
end Go.Proofs.YtakfniknkejgpaaGreatDoor.Ea
namespace Go.Proofs.YtakfniknkejgpaaGreatDoor.Lo
open Go.RowKit Sl By Ap Tb Tw Mw Wa Bk Tp
open Tx (zAA zAE zAB zAK zAD)
set_option maxRecDepth 100000 in
set_option maxHeartbeats 6400000 in
theorem l05Own_all (tm nx:Int) (vl vs:Value) (ls:List Lk) (ss:List Sn) (w:World) (hl:RowL w vl ls) (hs:RowS w vs ss) (hw:∀ x ∈ ls,x.ws.length≤1000) (hy1:ls.length≤1000) (hy2:ss.length≤1000) :
 Calls Tryz.prog 63 #[tabV tm nx vl vs] w fun e w'=>∃ ul us ps,e=.returned (tabV tm nx ul us)∧(OwnL w' w.heap.size ul ps∧(∀ p ∈ ps,OwnW w' w.heap.size (uV p) p.1.ws)∧ps.map (·.1)=ls∧Apart ps)∧OwnS w' w.heap.size us ss∧Below w.heap.size w w':=by
 obtain ⟨la,lc,rfl⟩:=RowG.slice hl
 obtain ⟨sa,sc,rfl⟩:=RowG.slice hs
 unfold tabV
 go_enter Tryz.func63,Tryz.ntmps63
 go_upto_region 1 with fail
 have HX:Hid ((∀ W,Below ((w.alloc (.cells #[.int .i64 tm,.int .i64 nx,.slice la ls.length lc,.slice sa ss.length sc] 26)).alloc (.cells #[.int .i64 0,.int .i64 0,.slice none 0 0,.slice none 0 0] 26)).heap.size ((w.alloc (.cells #[.int .i64 tm,.int .i64 nx,.slice la ls.length lc,.slice sa ss.length sc] 26)).alloc (.cells #[.int .i64 0,.int .i64 0,.slice none 0 0,.slice none 0 0] 26)) W→W.heap[w.heap.size]?=some (.cells #[.int .i64 tm,.int .i64 nx,.slice la ls.length lc,.slice sa ss.length sc] 26 (0,0))∧W.heap[w.heap.size+1]?=some (.cells #[.int .i64 0,.int .i64 0,.slice none 0 0,.slice none 0 0] 26 (0,0))∧RowL W (.slice la ls.length lc) ls∧RowS W (.slice sa ss.length sc) ss∧Below w.heap.size w W)):=by
  intro W hW
  have k1:=zAN w (.cells #[.int .i64 tm,.int .i64 nx,.slice la ls.length lc,.slice sa ss.length sc] 26)
  have k2:=zAN (w.alloc (.cells #[.int .i64 tm,.int .i64 nx,.slice la ls.length lc,.slice sa ss.length sc] 26)) (.cells #[.int .i64 0,.int .i64 0,.slice none 0 0,.slice none 0 0] 26)
  have hb2:=(zAD w (.cells #[.int .i64 tm,.int .i64 nx,.slice la ls.length lc,.slice sa ss.length sc] 26)).alloc (by rw [k1];omega) (.cells #[.int .i64 0,.int .i64 0,.slice none 0 0,.slice none 0 0] 26)
  refine ⟨(hW.block _ (by omega)).trans ((Below.heap_alloc _ _ _ (by omega)).trans (zAK _ _ _)),(hW.block _ (by omega)).trans ?_,(hl.below hb2).below hW,(hs.below hb2).below hW,hb2.trans (hW.mono (by omega))⟩
  have:=zAK (w.alloc (.cells #[.int .i64 tm,.int .i64 nx,.slice la ls.length lc,.slice sa ss.length sc] 26)) #[.int .i64 0,.int .i64 0,.slice none 0 0,.slice none 0 0] 26
  rw [k1] at this
  exact this
 have HS1:Hid (((w.alloc (.cells #[.int .i64 tm,.int .i64 nx,.slice la ls.length lc,.slice sa ss.length sc] 26)).alloc (.cells #[.int .i64 0,.int .i64 0,.slice none 0 0,.slice none 0 0] 26)).heap.size=w.heap.size+2):=by
  show _=_
  rw [zAN,zAN]
 generalize (w.alloc (.cells #[.int .i64 tm,.int .i64 nx,.slice la ls.length lc,.slice sa ss.length sc] 26)).alloc (.cells #[.int .i64 0,.int .i64 0,.slice none 0 0,.slice none 0 0] 26)=w1 at HX HS1 ⊢
 have HL:Hid (RowL w (.slice la ls.length lc) ls∧RowS w (.slice sa ss.length sc) ss):=⟨hl,hs⟩
 have HW:Hid (∀ x ∈ ls,x.ws.length≤1000):=hw
 clear hl hs hw
 obtain ⟨i0,hi0,hz0,hz1,hz2⟩:=info_parts infoS
 have x0:=(zAA (HX.out w1 (Below.refl _ _)).1 0 (x:=.int .i64 tm) rfl).1
 have x1:=(zAA (HX.out w1 (Below.refl _ _)).1 1 (x:=.int .i64 nx) rfl).1
 have x3:=(zAA (HX.out w1 (Below.refl _ _)).1 3 (x:=.slice sa ss.length sc) rfl).1
 have hbl:w.heap.size<w1.heap.size:=by rw [HS1.out];omega
 have hxs:∀ W,Below w1.heap.size w1 W→RowS W (.slice sa ss.length sc) ss:=fun W hW=>(HX.out W hW).2.2.2.1
 have HK:Hid (∀ W,Below w1.heap.size w1 W→(W.cell? ⟨w.heap.size,0,none⟩=some (.int .i64 tm)∧W.cell? ⟨w.heap.size,1,none⟩=some (.int .i64 nx)∧W.cell? ⟨w.heap.size,3,none⟩=some (.slice sa ss.length sc))):=fun W hW=>⟨(zAA (HX.out W hW).1 0 rfl).1,(zAA (HX.out W hW).1 1 rfl).1,(zAA (HX.out W hW).1 3 rfl).1⟩
 go_cut [3] (fun px wx=>Fin w1 tm nx ss px wx)
 case first =>
  go_region_held_law (fun W=>W.cell? ⟨w.heap.size,0,none⟩=some (.int .i64 tm)∧W.cell? ⟨w.heap.size,1,none⟩=some (.int .i64 nx)∧W.cell? ⟨w.heap.size,3,none⟩=some (.slice sa ss.length sc)) ((refine HK.out _ ?_;repeat (first | with_reducible exact B5.out | with_reducible exact Below.refl _ _ | with_reducible refine Below.drew ?_ | with_reducible refine belA ?_ _ | (with_reducible refine belS ?_ _ _ _ (by first | omega | (have:=B5.out.size;omega))))))
   ((refine step_appS (by rfl) _ _ 24 (by rfl) Tryz.underlying24 hi0 hz0 hz1 hz2 w1 _ (.slice sa ss.length sc) ss _ (by rfl) (by rfl) (by first | exact nest1 _ _ | exact (zCT _ _ _).1 | exact (zCT _ _ _).2 | exact (zCE _ _ _ _).1 | exact (zCE _ _ _ _).2.1 | exact (zCE _ _ _ _).2.2) (by omega) (by repeat (first | with_reducible exact Below.refl _ _ | with_reducible refine Below.drew ?_ | with_reducible refine belA ?_ _)) hxs hy2 ?_;intro v5 w5 o5 b5 q5;obtain ⟨a5,k5,rfl⟩:=OwnS.slice o5;(try (have hX:=q5 (w1.heap.size) (.cells #[.int .i64 0,.int .i64 0,.slice none 0 0,.slice none 0 0] 26) (by first | exact nest1 _ _ | exact (zCT _ _ _).1 | exact (zCT _ _ _).2 | exact (zCE _ _ _ _).1 | exact (zCE _ _ _ _).2.1 | exact (zCE _ _ _ _).2.2) (by omega);obtain ⟨cX0,fX0⟩:=zAA hX 0 (x:=.int .i64 0) rfl;obtain ⟨cX1,fX1⟩:=zAA hX 1 (x:=.int .i64 0) rfl;obtain ⟨cX2,fX2⟩:=zAA hX 2 (x:=.slice none 0 0) rfl;obtain ⟨cX3,fX3⟩:=zAA hX 3 (x:=.slice none 0 0) rfl;have hXo:=fun o=>(Below.heap_alloc w5 o _ (Array.getElem?_eq_some_iff.1 hX).1).trans hX;have dX0:=fun o=>zAA (hXo o) 0 (x:=.int .i64 0) rfl;have dX1:=fun o=>zAA (hXo o) 1 (x:=.int .i64 0) rfl;have dX2:=fun o=>zAA (hXo o) 2 (x:=.slice none 0 0) rfl;have dX3:=fun o=>zAA (hXo o) 3 (x:=.slice none 0 0) rfl));(try (have hX:=q5 (w1.heap.size+1) (.cells #[.int .i64 0,.int .i64 0,.slice none 0 0,.slice none 0 0] 26) (by first | exact nest1 _ _ | exact (zCT _ _ _).1 | exact (zCT _ _ _).2 | exact (zCE _ _ _ _).1 | exact (zCE _ _ _ _).2.1 | exact (zCE _ _ _ _).2.2) (by omega);obtain ⟨cX0,fX0⟩:=zAA hX 0 (x:=.int .i64 0) rfl;obtain ⟨cX1,fX1⟩:=zAA hX 1 (x:=.int .i64 0) rfl;obtain ⟨cX2,fX2⟩:=zAA hX 2 (x:=.slice none 0 0) rfl;obtain ⟨cX3,fX3⟩:=zAA hX 3 (x:=.slice none 0 0) rfl;have hXo:=fun o=>(Below.heap_alloc w5 o _ (Array.getElem?_eq_some_iff.1 hX).1).trans hX;have dX0:=fun o=>zAA (hXo o) 0 (x:=.int .i64 0) rfl;have dX1:=fun o=>zAA (hXo o) 1 (x:=.int .i64 0) rfl;have dX2:=fun o=>zAA (hXo o) 2 (x:=.slice none 0 0) rfl;have dX3:=fun o=>zAA (hXo o) 3 (x:=.slice none 0 0) rfl));(try (have hX:=q5 (w1.heap.size+1+1) (.cells #[.int .i64 0,.int .i64 0,.slice none 0 0,.slice none 0 0] 26) (by first | exact nest1 _ _ | exact (zCT _ _ _).1 | exact (zCT _ _ _).2 | exact (zCE _ _ _ _).1 | exact (zCE _ _ _ _).2.1 | exact (zCE _ _ _ _).2.2) (by omega);obtain ⟨cX0,fX0⟩:=zAA hX 0 (x:=.int .i64 0) rfl;obtain ⟨cX1,fX1⟩:=zAA hX 1 (x:=.int .i64 0) rfl;obtain ⟨cX2,fX2⟩:=zAA hX 2 (x:=.slice none 0 0) rfl;obtain ⟨cX3,fX3⟩:=zAA hX 3 (x:=.slice none 0 0) rfl;have hXo:=fun o=>(Below.heap_alloc w5 o _ (Array.getElem?_eq_some_iff.1 hX).1).trans hX;have dX0:=fun o=>zAA (hXo o) 0 (x:=.int .i64 0) rfl;have dX1:=fun o=>zAA (hXo o) 1 (x:=.int .i64 0) rfl;have dX2:=fun o=>zAA (hXo o) 2 (x:=.slice none 0 0) rfl;have dX3:=fun o=>zAA (hXo o) 3 (x:=.slice none 0 0) rfl));(try (have hA:=q5 (w1.heap.size) (.cells #[] 95) (by first | exact nest1 _ _ | exact (zCT _ _ _).1 | exact (zCT _ _ _).2 | exact (zCE _ _ _ _).1 | exact (zCE _ _ _ _).2.1 | exact (zCE _ _ _ _).2.2) (by omega)));(try (have hA:=q5 (w1.heap.size+1) (.cells #[] 95) (by first | exact nest1 _ _ | exact (zCT _ _ _).1 | exact (zCT _ _ _).2 | exact (zCE _ _ _ _).1 | exact (zCE _ _ _ _).2.1 | exact (zCE _ _ _ _).2.2) (by omega)));(try (have hA:=q5 (w1.heap.size+1+1) (.cells #[] 95) (by first | exact nest1 _ _ | exact (zCT _ _ _).1 | exact (zCT _ _ _).2 | exact (zCE _ _ _ _).1 | exact (zCE _ _ _ _).2.1 | exact (zCE _ _ _ _).2.2) (by omega)));have B5:Hid (Below w1.heap.size w1 w5):=b5;clear q5;try go_simp))
  all_goals go_wp2_with fail
  all_goals go_meet
  all_goals first | with_reducible exact fin1 hA o5 B5.out (by omega) | with_reducible exact fin2 hX hA o5 B5.out (by omega) (by omega) | with_reducible exact fin3 o5 B5.out | with_reducible exact fin4 o5 B5.out | with_reducible exact fin5 hX o5 B5.out (by omega)
 case rest =>
  obtain ⟨x,a2,c2,a3,c3,rfl,hiv⟩:=hcut.iv
  have HI:Hid (Iv w1 wc tm nx x (.slice a2 0 c2) (.slice a3 ss.length c3) [] ss):=hiv
  obtain ⟨j0,hj0,hjz,hj1,hj2⟩:=info_parts infoW
  obtain ⟨l0,hl0,hlz,hl1,hl2⟩:=info_parts infoL
  clear hiv hcut x0 x1 x3 hxs HK hi0 hz0 hz1 hz2
  go_wp2_with fail
  go_loopw [4] (fun i wr=>∃ (k:Nat) (a2:Option Addr) (c2:Nat) (ps:List LkA),k≤ls.length∧i=.int .i64 k∧Hid (Iv w1 wr tm nx x (.slice a2 k c2) (.slice a3 ss.length c3) ps ss∧ps.map (·.1)=ls.take k)) (fun i _=>ls.length - (intOf i).toNat)
  case atStart=>exact ⟨0,a2,c2,[],by omega,rfl,HI.out,rfl⟩
  case round =>
   clear HI a2 c2
   obtain ⟨k,a2,c2,ps,hk,rfl,HO⟩:=hrel
   have x2:=(zAA (HX.out wr HO.out.1.bel).1 2 (x:=.slice la ls.length lc) rfl).1
   by_cases hlt:k<ls.length
   ·obtain ⟨z,hz⟩:=Tw.get_at hlt
    have hr:=(HX.out wr HO.out.1.bel).2.2.1
    obtain ⟨lb,off,rfl,_,u,e0,e1,e2,e3,e4,e5⟩:=RowG.at hr rfl hz
    obtain ⟨ua,uc,rfl⟩:=RowG.slice e5
    have HU:Hid (RowW wr (.slice ua z.ws.length uc) z.ws):=e5
    have HZZ:Hid (ls[k]?=some z):=hz
    have HZ:Hid (z.ws.length≤1000):=HW.out z (Tw.mem_at hz)
    clear hr hz e5
    go_upto_region 6 with fail
    have H4:Hid ((wr.alloc (.cells #[.string z.n,.int .i64 z.t,.int .i64 z.h,.int .i64 z.e,.slice ua z.ws.length uc] 95)).heap[wr.heap.size]?=some (.cells #[.string z.n,.int .i64 z.t,.int .i64 z.h,.int .i64 z.e,.slice ua z.ws.length uc] 95 (0,0))∧Iv w1 (wr.alloc (.cells #[.string z.n,.int .i64 z.t,.int .i64 z.h,.int .i64 z.e,.slice ua z.ws.length uc] 95)) tm nx x (.slice a2 k c2) (.slice a3 ss.length c3) ps ss∧RowW (wr.alloc (.cells #[.string z.n,.int .i64 z.t,.int .i64 z.h,.int .i64 z.e,.slice ua z.ws.length uc] 95)) (.slice ua z.ws.length uc) z.ws∧wr.heap.size<(wr.alloc (.cells #[.string z.n,.int .i64 z.t,.int .i64 z.h,.int .i64 z.e,.slice ua z.ws.length uc] 95)).heap.size∧w1.heap.size≤wr.heap.size∧x ≠ wr.heap.size∧(Value.slice a2 k c2).ownBlock ≠ some wr.heap.size∧(Value.slice a3 ss.length c3).ownBlock ≠ some wr.heap.size∧∀ p ∈ ps,(uV p).ownBlock ≠ some wr.heap.size) :=
     ⟨zAK _ _ _,HO.out.1.up (zAD _ _),HU.out.below (zAD _ _),by rw [zAN];omega,HO.out.1.bel.size,by have:=(Array.getElem?_eq_some_iff.1 HO.out.1.hx).1;omega,fun e=>absurd (HO.out.1.ol.lt _ e).2 (by omega),fun e=>absurd (HO.out.1.os.lt _ e).2 (by omega),fun p hp e=>absurd ((HO.out.1.ow p hp).lt _ e).2 (by omega)⟩
    have HT:Hid (ps.map (·.1)=ls.take k∧ps.length=k):=⟨HO.out.2,by rw [← List.length_map (f:=(·.1)),HO.out.2,List.length_take];omega⟩
    clear HO HU e0 e1 e2 e3 e4 x2
    generalize wr.alloc (.cells #[.string z.n,.int .i64 z.t,.int .i64 z.h,.int .i64 z.e,.slice ua z.ws.length uc] 95)=w4 at H4 ⊢
    generalize wr.heap.size=y at H4 ⊢
    have c4:=(zAA H4.out.1 4 (x:=.slice ua z.ws.length uc) rfl).1
    have d4:=fun o=>(zAA ((Below.heap_alloc w4 o y H4.out.2.2.2.1).trans H4.out.1) 4 (x:=.slice ua z.ws.length uc) rfl).1
    go_upto_region 7 with (at_builtin;go_must (refine appW (by rfl) _ _ 93 (by rfl) j0 Tryz.underlying93 hj0 hjz hj1 hj2 w4.heap.size w4 (w4.alloc (.cells #[] 98)) (.slice (some ⟨w4.heap.size,0,none⟩) 0 0) (.slice ua z.ws.length uc) [] z.ws (by rfl) (OwnW.made _ _ (Nat.le_refl _)) (zAD _ _) (by rw [zAN];omega) (by rfl) (H4.out.2.2.1.below (zAD _ _)) (by have:=HZ.out;simp;omega) ?_;intro v6 w6 o6 b6 _;rw [List.nil_append] at o6;obtain ⟨a6,k6,rfl⟩:=OwnW.slice o6;have H5:Hid (OwnW w6 w4.heap.size (.slice a6 z.ws.length k6) z.ws∧Below w4.heap.size w4 w6∧w6.heap[y]?=some (.cells #[.string z.n,.int .i64 z.t,.int .i64 z.h,.int .i64 z.e,.slice ua z.ws.length uc] 95 (0,0))):=⟨o6,b6,(b6.block y H4.out.2.2.2.1).trans H4.out.1⟩;obtain ⟨d4',f4⟩:=zAA H5.out.2.2 4 (x:=.slice ua z.ws.length uc) rfl;clear o6 b6 c4 d4))
    have H7:Hid (OwnW (w6.setCell ⟨y,4,none⟩ (.slice a6 z.ws.length k6)) w1.heap.size (uV (z,a6,k6)) z.ws∧Iv w1 (w6.setCell ⟨y,4,none⟩ (.slice a6 z.ws.length k6)) tm nx x (.slice a2 k c2) (.slice a3 ss.length c3) ps ss∧(w6.setCell ⟨y,4,none⟩ (.slice a6 z.ws.length k6)).heap[y]?=some (.cells #[.string z.n,.int .i64 z.t,.int .i64 z.h,.int .i64 z.e,.slice a6 z.ws.length k6] 95 (0,0))):=by
     obtain ⟨_,q2,_,q4,q5,q6,q7,q8,q9⟩:=H4.out
     have h5:=H5.out
     exact ⟨(h5.1.kept (fun g hg=>zAB (by have:=(h5.1.lt g hg).1;omega) _ _)).mono (by omega),(q2.up h5.2.1).far y 4 _ q5 q6 q7 q8 q9,zAE h5.2.2 4 _⟩
    have HAP:Hid (Apart (ps ++ [(z,a6,k6)])):=Apart.push H4.out.2.1.ap (G:=w4.heap.size) (fun g hg=>(H5.out.1.lt g hg).1) (fun p hp g hg=>((H4.out.2.1.ow p hp).lt g hg).2)
    clear H4 H5 d4' f4
    generalize w6.setCell ⟨y,4,none⟩ (.slice a6 z.ws.length k6)=w7 at H7 ⊢
    have g0:=(zAA H7.out.2.2 0 (x:=.string z.n) rfl).1
    have g1:=(zAA H7.out.2.2 1 (x:=.int .i64 z.t) rfl).1
    have g2:=(zAA H7.out.2.2 2 (x:=.int .i64 z.h) rfl).1
    have g3:=(zAA H7.out.2.2 3 (x:=.int .i64 z.e) rfl).1
    have g4:=(zAA H7.out.2.2 4 (x:=.slice a6 z.ws.length k6) rfl).1
    have gx:=(zAA H7.out.2.1.hx 2 (x:=.slice a2 k c2) rfl).1
    have HLN:Hid ((ps ++ [(z,a6,k6)]).length=k+1):=by show _=_;rw [List.length_append,HT.out.2];rfl
    go_wp2_with (at_builtin;go_must (refine list_lk (by rfl) _ _ 23 (by rfl) l0 Tryz.underlying23 hl0 hlz hl1 hl2 w1.heap.size w1 w7 (.slice a2 k c2) ps (z,a6,k6) (by rfl) H7.out.2.1.ol H7.out.2.1.bel H7.out.2.1.bel.size w7.heap.size (by rfl) rfl (by have:=HT.out.2;omega) ?_;intro v8 w8 o8 b8 k8;obtain ⟨a8,c8,rfl⟩:=OwnL.slice' o8 HLN.out;have I8:Hid (Iv w1 (w8.setCell ⟨x,2,none⟩ (.slice a8 (k+1) c8)) tm nx x (.slice a8 (k+1) c8) (.slice a3 ss.length c3) (ps ++ [(z,a6,k6)]) ss):=H7.out.2.1.put (z,a6,k6) H7.out.1 o8 b8 k8 HAP.out;obtain ⟨d8,f8⟩:=zAA (H7.out.2.1.kx k8) 2 (x:=.slice a2 k c2) rfl;clear o8 b8 k8))
    exact ⟨⟨k+1,a8,c8,ps ++ [(z,a6,k6)],by omega,by go_num,I8.out,by rw [List.map_append,HT.out.1,take_at HZZ.out];rfl⟩,by simp [intOf];omega⟩
   ·obtain rfl:k=ls.length:=by omega
    have H1:Hid (Iv w1 wr tm nx x (.slice a2 ls.length c2) (.slice a3 ss.length c3) ps ss∧ps.map (·.1)=ls):=⟨HO.out.1,by rw [HO.out.2,List.take_length]⟩
    have AX:Hid (wr.heap[w.heap.size+1]?=some (.cells #[.int .i64 0,.int .i64 0,.slice none 0 0,.slice none 0 0] 26 (0,0))):=(HX.out wr HO.out.1.bel).2.1
    have BW:Hid (Below w.heap.size w wr):=(HX.out wr HO.out.1.bel).2.2.2.2
    have HAF:Hid (Apart ps):=HO.out.1.ap
    clear HO
    have p0:=(zAA H1.out.1.hx 0 (x:=.int .i64 tm) rfl).1
    have p1:=(zAA H1.out.1.hx 1 (x:=.int .i64 nx) rfl).1
    have p2:=(zAA H1.out.1.hx 2 (x:=.slice a2 ls.length c2) rfl).1
    have p3:=(zAA H1.out.1.hx 3 (x:=.slice a3 ss.length c3) rfl).1
    obtain ⟨m0,n0⟩:=zAA AX.out 0 (x:=.int .i64 0) rfl
    obtain ⟨m1,n1⟩:=zAA AX.out 1 (x:=.int .i64 0) rfl
    obtain ⟨m2,n2⟩:=zAA AX.out 2 (x:=.slice none 0 0) rfl
    obtain ⟨m3,n3⟩:=zAA AX.out 3 (x:=.slice none 0 0) rfl
    have AF:((((wr.setCell ⟨w.heap.size+1,0,none⟩ (.int .i64 tm)).setCell ⟨w.heap.size+1,1,none⟩ (.int .i64 nx)).setCell ⟨w.heap.size+1,2,none⟩ (.slice a2 ls.length c2)).setCell ⟨w.heap.size+1,3,none⟩ (.slice a3 ss.length c3)).heap[w.heap.size+1]?=some (.cells #[.int .i64 tm,.int .i64 nx,.slice a2 ls.length c2,.slice a3 ss.length c3] 26 (0,0)):=set4 AX.out _ _ _ _
    have RF:Hid (OwnL ((((wr.setCell ⟨w.heap.size+1,0,none⟩ (.int .i64 tm)).setCell ⟨w.heap.size+1,1,none⟩ (.int .i64 nx)).setCell ⟨w.heap.size+1,2,none⟩ (.slice a2 ls.length c2)).setCell ⟨w.heap.size+1,3,none⟩ (.slice a3 ss.length c3)) w.heap.size (.slice a2 ls.length c2) ps∧(∀ p ∈ ps,OwnW ((((wr.setCell ⟨w.heap.size+1,0,none⟩ (.int .i64 tm)).setCell ⟨w.heap.size+1,1,none⟩ (.int .i64 nx)).setCell ⟨w.heap.size+1,2,none⟩ (.slice a2 ls.length c2)).setCell ⟨w.heap.size+1,3,none⟩ (.slice a3 ss.length c3)) w.heap.size (uV p) p.1.ws)∧OwnS ((((wr.setCell ⟨w.heap.size+1,0,none⟩ (.int .i64 tm)).setCell ⟨w.heap.size+1,1,none⟩ (.int .i64 nx)).setCell ⟨w.heap.size+1,2,none⟩ (.slice a2 ls.length c2)).setCell ⟨w.heap.size+1,3,none⟩ (.slice a3 ss.length c3)) w.heap.size (.slice a3 ss.length c3) ss):=H1.out.1.done w.heap.size (w.heap.size+1) (by rw [HS1.out];omega) (by rw [HS1.out];omega) (.int .i64 tm) (.int .i64 nx) (.slice a2 ls.length c2) (.slice a3 ss.length c3)
    have GF:Below w.heap.size w ((((wr.setCell ⟨w.heap.size+1,0,none⟩ (.int .i64 tm)).setCell ⟨w.heap.size+1,1,none⟩ (.int .i64 nx)).setCell ⟨w.heap.size+1,2,none⟩ (.slice a2 ls.length c2)).setCell ⟨w.heap.size+1,3,none⟩ (.slice a3 ss.length c3)):=Below.setCell (Below.setCell (Below.setCell (Below.setCell BW.out (p:=⟨w.heap.size+1,0,none⟩) (Nat.le_succ _) _) (p:=⟨w.heap.size+1,1,none⟩) (Nat.le_succ _) _) (p:=⟨w.heap.size+1,2,none⟩) (Nat.le_succ _) _) (p:=⟨w.heap.size+1,3,none⟩) (Nat.le_succ _) _
    go_wp2_with fail
    generalize (((wr.setCell ⟨w.heap.size+1,0,none⟩ (.int .i64 tm)).setCell ⟨w.heap.size+1,1,none⟩ (.int .i64 nx)).setCell ⟨w.heap.size+1,2,none⟩ (.slice a2 ls.length c2)).setCell ⟨w.heap.size+1,3,none⟩ (.slice a3 ss.length c3)=wf at AF RF GF ⊢
    have d0:=(zAA AF 0 (x:=.int .i64 tm) rfl).1
    have d1:=(zAA AF 1 (x:=.int .i64 nx) rfl).1
    have d2:=(zAA AF 2 (x:=.slice a2 ls.length c2) rfl).1
    have d3:=(zAA AF 3 (x:=.slice a3 ss.length c3) rfl).1
    exact bodyPost_ret (v:=tabV tm nx (.slice a2 ls.length c2) (.slice a3 ss.length c3)) (by simp [tabV,results,Tryz.results63,go_sem,d0,d1,d2,d3]) rfl ⟨_,_,ps,rfl,⟨RF.out.1,RF.out.2.1,H1.out.2,HAF.out⟩,RF.out.2.2,GF⟩
end Go.Proofs.YtakfniknkejgpaaGreatDoor.Lo
namespace Go.Proofs.YtakfniknkejgpaaGreatDoor.Ea
open Go.RowKit Sl By Ap Tb Tw Mw Wa Tp Da
open Lo (LkA uV clL OwnL OwnL.kept OwnL.lt OwnL.below OwnL.row OwnL.slice OwnL.mono zAI zAO Apart l05Own_all)
open Tx (zAA zAE zAB zAK zAD)
def mid (tm nx:Int) (ls:List Lk) (k:Nat):List Lk:=ls.mapIdx fun i y=>if i<k then exK tm nx ls i y else y
theorem mid_at (tm nx:Int) (ls:List Lk) (k i:Nat):(mid tm nx ls k)[i]?=(ls[i]?).map fun y=>if i<k then exK tm nx ls i y else y:=by unfold mid;rw [List.getElem?_mapIdx]
theorem mid_0 (tm nx:Int) (ls:List Lk):mid tm nx ls 0=ls:=by
 apply List.ext_getElem? fun i=>?_
 rw [mid_at]
 cases ls[i]? <;> rfl
theorem mid_len (tm nx:Int) (ls:List Lk) (k:Nat):(mid tm nx ls k).length=ls.length:=by unfold mid;simp
theorem mid_all (tm nx:Int) (ls:List Lk):mid tm nx ls ls.length=exL tm nx ls:=by
 apply List.ext_getElem? fun i=>?_
 rw [mid_at]
 unfold exL
 rw [List.getElem?_mapIdx]
 cases h:ls[i]? with
 | none=>rfl
 | some y=>simp only [Option.map_some];rw [if_pos (List.getElem?_eq_some_iff.1 h).1]
theorem mid_set {tm nx:Int} {ls:List Lk} {k:Nat} {y:Lk} (h:ls[k]?=some y):mid tm nx ls (k+1)=(mid tm nx ls k).set k (exK tm nx ls k y):=by
 apply List.ext_getElem? fun i=>?_
 rw [mid_at,List.getElem?_set,mid_at,mid_len]
 have hk:=(List.getElem?_eq_some_iff.1 h).1
 by_cases e:k=i
 ·subst e
  rw [if_pos rfl,if_pos hk,h]
  simp
 ·rw [if_neg e]
  cases ls[i]? with
  | none=>rfl
  | some z =>
    simp only [Option.map_some]
    by_cases hi:i<k
    ·rw [if_pos hi,if_pos (by omega)]
    ·rw [if_neg hi,if_neg (by omega)]
theorem mid_here {tm nx:Int} {ls:List Lk} {k:Nat} {y:Lk} (h:ls[k]?=some y):(mid tm nx ls k)[k]?=some y:=by rw [mid_at,h];simp
theorem mid_same {tm nx:Int} {ls:List Lk} {k:Nat} {y:Lk} (h:ls[k]?=some y) (hd:Da.due tm y=false):mid tm nx ls (k+1)=mid tm nx ls k:=by
 rw [mid_set h]
 unfold exK
 rw [hd]
 simp only [Bool.false_eq_true,if_false]
 apply List.ext_getElem? fun i=>?_
 rw [List.getElem?_set]
 by_cases e:k=i
 ·subst e
  rw [if_pos rfl,mid_here h,mid_len,if_pos (List.getElem?_eq_some_iff.1 h).1]
 ·rw [if_neg e]
def Tk (T:Tab) (M:Int) (k:Nat):Tab:=⟨M,exN M T.nx T.ls k,mid M T.nx T.ls k,T.ss⟩
def OwnT (w:World) (B:Nat) (T:Tab) (e:Ending):Prop:=∃ ul us ps,e=.returned (tabV T.tm T.nx ul us)∧OwnL w B ul ps∧(∀ p ∈ ps,OwnW w B (uV p) p.1.ws)∧ps.map (·.1)=T.ls∧Apart ps∧OwnS w B us T.ss
set_option maxRecDepth 100000 in
set_option maxHeartbeats 3200000 in
theorem l05Expire_any (T:Tab) (vl vs:Value) (now:Int) (w:World) (hl:RowL w vl T.ls) (hs:RowS w vs T.ss) (hT:TOK T) (h0:0≤now) (h1:now≤1000000000) (hn:T.nx≤999990) :
 Calls Tryz.prog 89 #[tabV T.tm T.nx vl vs,.int .i64 now] w fun e w'=>OwnT w' w.heap.size (exT T now) e∧Below w.heap.size w w':=by
 have HTK:Hid (TOK T):=hT
 have hl4:T.ls.length≤4:=hT.2.2.1
 have hs6:T.ss.length≤6:=hT.2.2.2.2.1
 have htm:=zAa hT.1
 have hnx:=zAa hT.2.1
 have HLK:Hid (∀ y ∈ T.ls,HdOK y):=fun y hy=>by
  obtain ⟨i,hi,e⟩:=List.mem_iff_getElem.1 hy
  exact (hT.2.2.2.1 i y (by rw [List.getElem?_eq_getElem hi,e])).2.2.2
 have HWS:Hid (∀ y ∈ T.ls,y.ws.length≤4∧∀ z ∈ y.ws,1≤z.l∧z.l≤1000):=fun y hy=>by
  rcases HLK.out y hy with ⟨_,_,h⟩ | ⟨_,_,_,h,hw⟩
  ·have:=List.length_eq_zero_iff.1 h
   rw [this]
   exact ⟨by simp,fun z hz=>by cases hz⟩
  ·refine ⟨h,fun z hz=>?_⟩
   obtain ⟨i,hi,e⟩:=List.mem_iff_getElem.1 hz
   exact zAa (hw i z (by rw [List.getElem?_eq_getElem hi,e])).2.1
 have HX:Hid (∀ W,Below ((w.alloc (.cells #[.int .i64 T.tm,.int .i64 T.nx,vl,vs] 26)).alloc (.cells #[.int .i64 0,.int .i64 0,.slice none 0 0,.slice none 0 0] 26)).heap.size ((w.alloc (.cells #[.int .i64 T.tm,.int .i64 T.nx,vl,vs] 26)).alloc (.cells #[.int .i64 0,.int .i64 0,.slice none 0 0,.slice none 0 0] 26)) W→W.heap[w.heap.size]?=some (.cells #[.int .i64 T.tm,.int .i64 T.nx,vl,vs] 26 (0,0))∧W.heap[w.heap.size+1]?=some (.cells #[.int .i64 0,.int .i64 0,.slice none 0 0,.slice none 0 0] 26 (0,0))∧RowL W vl T.ls∧RowS W vs T.ss∧Below w.heap.size w W):=fun W hW=>by
  have e1:(w.alloc (.cells #[.int .i64 T.tm,.int .i64 T.nx,vl,vs] 26)).heap.size=w.heap.size+1:=by simp
  have b2:Below w.heap.size w ((w.alloc (.cells #[.int .i64 T.tm,.int .i64 T.nx,vl,vs] 26)).alloc (.cells #[.int .i64 0,.int .i64 0,.slice none 0 0,.slice none 0 0] 26)):=(zAD w _).trans ((zAD _ _).mono (zAD w _).size)
  have bb:=b2.trans (hW.mono b2.size)
  refine ⟨?_,?_,hl.below bb,hs.below bb,bb⟩
  ·rw [hW.block _ (by simp;omega),(zAD (w.alloc (.cells #[.int .i64 T.tm,.int .i64 T.nx,vl,vs] 26)) (.cells #[.int .i64 0,.int .i64 0,.slice none 0 0,.slice none 0 0] 26)).block _ (by simp)];exact zAK _ _ _
  ·rw [hW.block _ (by simp),← e1];exact zAK _ _ _
 have HOW:Hid (∀ W,RowL W vl T.ls→RowS W vs T.ss→Calls Tryz.prog 63 #[.agg #[.int .i64 T.tm,.int .i64 T.nx,vl,vs]] W fun e w'=>∃ ul us ps,e=.returned (.agg #[.int .i64 T.tm,.int .i64 T.nx,ul,us])∧(OwnL w' W.heap.size ul ps∧(∀ p ∈ ps,OwnW w' W.heap.size (uV p) p.1.ws)∧ps.map (·.1)=T.ls∧Apart ps)∧OwnS w' W.heap.size us T.ss∧Below W.heap.size W w'):=fun W a b=>l05Own_all T.tm T.nx vl vs T.ls T.ss W a b (fun x hx=>by have:=(HWS.out x hx).1;omega) (by omega) (by omega)
 obtain ⟨la,lc,rfl⟩:=RowG.slice hl
 obtain ⟨sa,sc,rfl⟩:=RowG.slice hs
 clear hl hs hT
 unfold tabV
 go_enter Tryz.func89,Tryz.ntmps89
 go_upto_region 1 with fail
 generalize (w.alloc (.cells #[.int .i64 T.tm,.int .i64 T.nx,.slice la T.ls.length lc,.slice sa T.ss.length sc] 26)).alloc (.cells #[.int .i64 0,.int .i64 0,.slice none 0 0,.slice none 0 0] 26)=w2 at HX ⊢
 have c0:=(zAA (HX.out _ (Below.refl _ _)).1 0 rfl).1
 have c1:=(zAA (HX.out _ (Below.refl _ _)).1 1 rfl).1
 have c2:=(zAA (HX.out _ (Below.refl _ _)).1 2 rfl).1
 have c3:=(zAA (HX.out _ (Below.refl _ _)).1 3 rfl).1
 go_wp2_with fail
 refine (HOW.out _ (HX.out _ (Below.refl _ _)).2.2.1 (HX.out _ (Below.refl _ _)).2.2.2.1).mono ?_
 rintro e w3 ⟨ul,us,ps,rfl,⟨o1,o2,o3,o4⟩,o5,b3⟩
 have hpl:ps.length=T.ls.length:=by rw [← o3,List.length_map]
 obtain ⟨ua,uc,rfl⟩:=OwnL.slice o1
 obtain ⟨ta,tc,rfl⟩:=OwnS.slice o5
 have H4:Hid (TM w2 (w3.alloc (.cells #[.int .i64 T.tm,.int .i64 T.nx,.slice ua ps.length uc,.slice ta T.ss.length tc] 26)) w2.heap.size w3.heap.size T (.slice ua ps.length uc) (.slice ta T.ss.length tc) ps):=⟨zAK _ _ _,o1.below (zAD _ _),o5.below (zAD _ _),fun p hp=>(o2 p hp).below (zAD _ _),o4,o3,b3.trans ((zAD w3 _).mono b3.size),Nat.le_refl _,b3.size⟩
 rw [hpl] at H4 ⊢
 clear o1 o2 o3 o4 o5 b3 c0 c1 c2 c3 HOW
 go_upto_region 2 with fail
 generalize w3.alloc (.cells #[.int .i64 T.tm,.int .i64 T.nx,.slice ua T.ls.length uc,.slice ta T.ss.length tc] 26)=w4 at H4 ⊢
 generalize w3.heap.size=x at H4 ⊢
 obtain ⟨d0,f0⟩:=zAA H4.out.hx 0 (x:=.int .i64 T.tm) rfl
 obtain ⟨M,hM⟩ : ∃ M,max T.tm now=M:=⟨_,rfl⟩
 have hM0:0≤M∧M≤1000000000:=by omega
 have H5:Hid (TM w2 (w4.setCell ⟨x,0,none⟩ (.int .i64 M)) w2.heap.size x (Tk T M 0) (.slice ua T.ls.length uc) (.slice ta T.ss.length tc) ps):=H4.out.box 0 _ rfl (mid_0 M T.nx T.ls) rfl
 have HMM:Hid (max T.tm now=M):=hM
 have HEX:Hid (exT T now=Tk T M T.ls.length):=by
  show _=_
  unfold exT Tk
  rw [HMM.out,mid_all]
 go_upto_region 3 with fail
 try rw [HMM.out]
 generalize w4.setCell ⟨x,0,none⟩ (.int .i64 M)=w5 at H5 ⊢
 clear d0 f0 H4 hM
 go_wp2_with fail
 go_loopw [6] (fun i wr=>∃ k:Nat,k≤T.ls.length∧i=.int .i64 k∧Hid (∃ ps,TM w2 wr w2.heap.size x (Tk T M k) (.slice ua T.ls.length uc) (.slice ta T.ss.length tc) ps)) (fun i _=>T.ls.length - (intOf i).toNat)
 case atStart=>exact ⟨0,by omega,rfl,⟨ps,H5.out⟩⟩
 case round =>
  clear H5 hpl ps
  obtain ⟨k,hk,rfl,HK⟩:=hrel
  obtain ⟨ps,hps⟩:=HK.out
  have H:Hid (TM w2 wr w2.heap.size x (Tk T M k) (.slice ua T.ls.length uc) (.slice ta T.ss.length tc) ps):=hps
  have x0:=(zAA hps.hx 0 (x:=.int .i64 M) rfl).1
  have x2:=(zAA hps.hx 2 (x:=.slice ua T.ls.length uc) rfl).1
  clear hps HK
  by_cases hlt:k<T.ls.length
  ·obtain ⟨y,hy⟩:=Tw.get_at hlt
   have hkI:(k:Int)<(T.ls.length:Int):=by omega
   obtain ⟨p,hp,hpy⟩:=H.out.at (k:=k) (y:=y) (mid_here hy)
   obtain ⟨g,cap,hv,hgB,hgx,hcap,hcell⟩:=H.out.row hp
   injection hv with hv1 hv2 hv3
   subst hv1
   obtain ⟨m2,_⟩:=hcell 2 (.int .i64 p.1.h) rfl
   obtain ⟨m3,_⟩:=hcell 3 (.int .i64 p.1.e) rfl
   rw [hpy] at m2 m3
   have HP:Hid (ps[k]?=some p∧p.1=y∧T.ls[k]?=some y):=⟨hp,hpy,hy⟩
   have HHD:=HLK.out y (Tw.mem_at hy)
   have hyh:y.h = -1 ∨ 0≤y.h:=by
    rcases HHD with ⟨h,_⟩ | ⟨_,h,_⟩
    ·exact .inl h
    ·exact .inr (zAa h).1
   have hnk:=exN_le (tm:=M) (nx:=T.nx) (ls:=T.ls) k
   clear hcell hp hpy hy HHD hcap hgx hgB hv2 hv3
   go_upto_region 6 with fail
   by_cases hd1:0≤y.h
   ·by_cases hd2:y.e≤M
    ·have HD:Hid (Da.due M y=true):=by show _=_;unfold Da.due;rw [decide_eq_true];exact ⟨by omega,hd2⟩
     obtain ⟨X,hX,W,QI0,QO0⟩:=Qc.zAo wr
     have QI:Hid (∀ w',Below wr.heap.size wr w'→∃ x,w'=W x):=QI0
     have QO:Hid (∀ x,Below wr.heap.size wr (W x)):=QO0
     clear QI0 QO0
     have y0:=Qc.zAC QO.out x0
     have y2:=Qc.zAC QO.out x2
     have z2:=Qc.zAC QO.out m2
     have z3:=Qc.zAC QO.out m3
     refine Qc.zAF (W:=W) (by kernel_rfl) (by kernel_rfl) (QI.out _ Qc.zAJ) ?_
     repeat (go_big_quiet_step (fail))
     refine wpQuiet_nil ?_
     rintro _ ⟨xq,rfl⟩
     have GQ:Hid (TM w2 (W xq) w2.heap.size x (Tk T M k) (.slice (some ⟨g,0,none⟩) T.ls.length uc) (.slice ta T.ss.length tc) ps):=H.out.up (QO.out xq)
     clear y0 y2 z2 z3 QO QI H x0 x2 m2 m3
     generalize W xq=wq at GQ ⊢
     have HWP:=HWS.out y (Tw.mem_at HP.out.2.2)
     have HF:=l05Free_any GQ.out HP.out.1 hM0.1 hM0.2 (by show 1≤exN M T.nx T.ls k;omega) (by show exN M T.nx T.ls k≤999999;omega) (by rw [HP.out.2.1];omega) (fun z hz=>by rw [HP.out.2.1] at hz;have:=HWP.2 z hz;omega)
     go_wp2_with fail
     refine HF.mono ?_
     rintro e w8 ⟨rfl,⟨q,hq,t8⟩,_⟩
     have HS:Hid (TM w2 w8 w2.heap.size x (Tk T M (k+1)) (.slice (some ⟨g,0,none⟩) T.ls.length uc) (.slice ta T.ss.length tc) (ps.set k q)):=by
      have e1:Tk T M (k+1)=⟨M,frN (exN M T.nx T.ls k) y,(mid M T.nx T.ls k).set k (frL M (exN M T.nx T.ls k) y),T.ss⟩:=by
       unfold Tk
       rw [mid_set HP.out.2.2,exN_succ HP.out.2.2,HD.out]
       unfold exK
       rw [HD.out]
       rfl
      rw [HP.out.2.1] at hq t8
      have e2:q.1=frL M (exN M T.nx T.ls k) y:=hq
      rw [e2] at t8
      rw [e1]
      exact t8
     clear t8 hq HF GQ
     go_wp2_with fail
     first
      | exact ⟨⟨k+1,by omega,by go_num,⟨_,HS.out⟩⟩,by simp [intOf];omega⟩
      | (go_roundw
         case rel=>(repeat apply Exists.intro);exact ⟨⟨k+1,by omega,by go_num,⟨_,HS.out⟩⟩,rfl⟩
         case measure=>simp [intOf];omega)
    ·have HD:Hid (Da.due M y=false):=by show _=_;unfold Da.due;rw [decide_eq_false];exact fun h=>hd2 h.2
     obtain ⟨X,hX,W,QI0,QO0⟩:=Qc.zAo wr
     have QI:Hid (∀ w',Below wr.heap.size wr w'→∃ x,w'=W x):=QI0
     have QO:Hid (∀ x,Below wr.heap.size wr (W x)):=QO0
     clear QI0 QO0
     have y0:=Qc.zAC QO.out x0
     have y2:=Qc.zAC QO.out x2
     have z2:=Qc.zAC QO.out m2
     have z3:=Qc.zAC QO.out m3
     refine Qc.zAF (W:=W) (by kernel_rfl) (by kernel_rfl) (QI.out _ Qc.zAJ) ?_
     repeat (go_big_quiet_step (fail))
     refine wpQuiet_nil ?_
     rintro _ ⟨xq,rfl⟩
     have GQ:Hid (TM w2 (W xq) w2.heap.size x (Tk T M k) (.slice (some ⟨g,0,none⟩) T.ls.length uc) (.slice ta T.ss.length tc) ps):=H.out.up (QO.out xq)
     clear y0 y2 z2 z3 QO QI H x0 x2 m2 m3
     generalize W xq=wq at GQ ⊢
     have HS:Hid (Tk T M (k+1)=Tk T M k):=by
      show _=_
      unfold Tk
      rw [mid_same HP.out.2.2 HD.out,exN_succ HP.out.2.2,HD.out]
      rfl
     go_wp2_with fail
     exact ⟨⟨k+1,by omega,by go_num,⟨ps,by rw [HS.out];exact GQ.out⟩⟩,by simp [intOf];omega⟩
   ·have HD:Hid (Da.due M y=false):=by show _=_;unfold Da.due;rw [decide_eq_false];exact fun h=>h.1 (by omega)
    obtain ⟨X,hX,W,QI0,QO0⟩:=Qc.zAo wr
    have QI:Hid (∀ w',Below wr.heap.size wr w'→∃ x,w'=W x):=QI0
    have QO:Hid (∀ x,Below wr.heap.size wr (W x)):=QO0
    clear QI0 QO0
    have y0:=Qc.zAC QO.out x0
    have y2:=Qc.zAC QO.out x2
    have z2:=Qc.zAC QO.out m2
    have z3:=Qc.zAC QO.out m3
    refine Qc.zAF (W:=W) (by kernel_rfl) (by kernel_rfl) (QI.out _ Qc.zAJ) ?_
    repeat (go_big_quiet_step (fail))
    refine wpQuiet_nil ?_
    rintro _ ⟨xq,rfl⟩
    have GQ:Hid (TM w2 (W xq) w2.heap.size x (Tk T M k) (.slice (some ⟨g,0,none⟩) T.ls.length uc) (.slice ta T.ss.length tc) ps):=H.out.up (QO.out xq)
    clear y0 y2 z2 z3 QO QI H x0 x2 m2 m3
    generalize W xq=wq at GQ ⊢
    have HS:Hid (Tk T M (k+1)=Tk T M k):=by
     show _=_
     unfold Tk
     rw [mid_same HP.out.2.2 HD.out,exN_succ HP.out.2.2,HD.out]
     rfl
    go_wp2_with fail
    exact ⟨⟨k+1,by omega,by go_num,⟨ps,by rw [HS.out];exact GQ.out⟩⟩,by simp [intOf];omega⟩
  ·obtain rfl:k=T.ls.length:=by omega
   have x1:=(zAA H.out.hx 1 (x:=.int .i64 (exN M T.nx T.ls T.ls.length)) rfl).1
   have x3:=(zAA H.out.hx 3 (x:=.slice ta T.ss.length tc) rfl).1
   have AX:Hid (wr.heap[w.heap.size+1]?=some (.cells #[.int .i64 0,.int .i64 0,.slice none 0 0,.slice none 0 0] 26 (0,0))∧Below w.heap.size w wr∧w.heap.size+1<w2.heap.size∧w.heap.size≤w2.heap.size):=by
    have hh:=HX.out wr H.out.bel
    exact ⟨hh.2.1,hh.2.2.2.2,(Array.getElem?_eq_some_iff.1 (HX.out w2 (Below.refl _ _)).2.1).1,(HX.out w2 (Below.refl _ _)).2.2.2.2.size⟩
   obtain ⟨m0,n0⟩:=zAA AX.out.1 0 (x:=.int .i64 0) rfl
   obtain ⟨m1,n1⟩:=zAA AX.out.1 1 (x:=.int .i64 0) rfl
   obtain ⟨m2,n2⟩:=zAA AX.out.1 2 (x:=.slice none 0 0) rfl
   obtain ⟨m3,n3⟩:=zAA AX.out.1 3 (x:=.slice none 0 0) rfl
   have AF:((((wr.setCell ⟨w.heap.size+1,0,none⟩ (.int .i64 M)).setCell ⟨w.heap.size+1,1,none⟩ (.int .i64 (exN M T.nx T.ls T.ls.length))).setCell ⟨w.heap.size+1,2,none⟩ (.slice ua T.ls.length uc)).setCell ⟨w.heap.size+1,3,none⟩ (.slice ta T.ss.length tc)).heap[w.heap.size+1]?=some (.cells #[.int .i64 M,.int .i64 (exN M T.nx T.ls T.ls.length),.slice ua T.ls.length uc,.slice ta T.ss.length tc] 26 (0,0)):=(zAE (zAE (zAE (zAE AX.out.1 _ _) _ _) _ _) _ _)
   have GF:Below w.heap.size w ((((wr.setCell ⟨w.heap.size+1,0,none⟩ (.int .i64 M)).setCell ⟨w.heap.size+1,1,none⟩ (.int .i64 (exN M T.nx T.ls T.ls.length))).setCell ⟨w.heap.size+1,2,none⟩ (.slice ua T.ls.length uc)).setCell ⟨w.heap.size+1,3,none⟩ (.slice ta T.ss.length tc)):=(Below.setCell (Below.setCell (Below.setCell (Below.setCell AX.out.2.1 (p:=⟨w.heap.size+1,0,none⟩) (Nat.le_succ _) (.int .i64 M)) (p:=⟨w.heap.size+1,1,none⟩) (Nat.le_succ _) (.int .i64 (exN M T.nx T.ls T.ls.length))) (p:=⟨w.heap.size+1,2,none⟩) (Nat.le_succ _) (.slice ua T.ls.length uc)) (p:=⟨w.heap.size+1,3,none⟩) (Nat.le_succ _) (.slice ta T.ss.length tc))
   have KF:Hid (∀ g,w2.heap.size≤g→((((wr.setCell ⟨w.heap.size+1,0,none⟩ (.int .i64 M)).setCell ⟨w.heap.size+1,1,none⟩ (.int .i64 (exN M T.nx T.ls T.ls.length))).setCell ⟨w.heap.size+1,2,none⟩ (.slice ua T.ls.length uc)).setCell ⟨w.heap.size+1,3,none⟩ (.slice ta T.ss.length tc)).heap[g]?=wr.heap[g]?):=fun g' hg'=>by
    have hne:∀ g:Nat,w2.heap.size≤g→g ≠ w.heap.size+1:=fun g hg=>by have:=AX.out.2.2.1;omega
    exact ((zAB (hne g' hg') _ _).trans ((zAB (hne g' hg') _ _).trans ((zAB (hne g' hg') _ _).trans ((zAB (hne g' hg') _ _).trans rfl))))
   have OF:Hid (OwnT ((((wr.setCell ⟨w.heap.size+1,0,none⟩ (.int .i64 M)).setCell ⟨w.heap.size+1,1,none⟩ (.int .i64 (exN M T.nx T.ls T.ls.length))).setCell ⟨w.heap.size+1,2,none⟩ (.slice ua T.ls.length uc)).setCell ⟨w.heap.size+1,3,none⟩ (.slice ta T.ss.length tc)) w.heap.size (exT T now) (.returned (tabV M (exN M T.nx T.ls T.ls.length) (.slice ua T.ls.length uc) (.slice ta T.ss.length tc)))):=by
    have hle:=AX.out.2.2.2
    rw [HEX.out]
    refine ⟨_,_,ps,rfl,(H.out.ol.kept (fun g hg=>KF.out g (H.out.ol.lt g hg).1)).mono hle,fun p hp=>((H.out.ow p hp).kept (fun g hg=>KF.out g ((H.out.ow p hp).lt g hg).1)).mono hle,H.out.eq,H.out.ap,(H.out.os.kept (fun g hg=>KF.out g (H.out.os.lt g hg).1)).mono hle⟩
   go_wp2_with fail
   generalize ((((wr.setCell ⟨w.heap.size+1,0,none⟩ (.int .i64 M)).setCell ⟨w.heap.size+1,1,none⟩ (.int .i64 (exN M T.nx T.ls T.ls.length))).setCell ⟨w.heap.size+1,2,none⟩ (.slice ua T.ls.length uc)).setCell ⟨w.heap.size+1,3,none⟩ (.slice ta T.ss.length tc))=wf at AF GF OF ⊢
   have d0:=(zAA AF 0 (x:=.int .i64 M) rfl).1
   have d1:=(zAA AF 1 (x:=.int .i64 (exN M T.nx T.ls T.ls.length)) rfl).1
   have d2:=(zAA AF 2 (x:=.slice ua T.ls.length uc) rfl).1
   have d3:=(zAA AF 3 (x:=.slice ta T.ss.length tc) rfl).1
   exact bodyPost_ret (v:=.agg #[.int .i64 M,.int .i64 (exN M T.nx T.ls T.ls.length),.slice ua T.ls.length uc,.slice ta T.ss.length tc]) (by simp [results,Tryz.results89,go_sem,d0,d1,d2,d3]) rfl ⟨OF.out,GF⟩
end Go.Proofs.YtakfniknkejgpaaGreatDoor.Ea
