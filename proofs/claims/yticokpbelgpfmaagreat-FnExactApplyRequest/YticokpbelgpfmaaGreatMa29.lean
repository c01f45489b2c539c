/- Texts put together: Eo, Ep, Jza. -/
import Derived.Test.YticokpbelgpfmaaGreatMaA0
import Derived.Test.YticokpbelgpfmaaGreatMa28
namespace Go.Proofs.YticokpbelgpfmaaGreat.Ea
open Go.RowKit By Ap Tb Tw Wa Tp Da
open Lo (LkA uV clL OwnL OwnL.kept OwnL.lt OwnL.below OwnL.row OwnL.slice zAG zAK Apart lenL atL)
open Tx (zAA zAC zAE zAJ zAD)
open Lf (Fnd zAS)
open Lsh
theorem plP_eq {α:Type} {p:α→Bool}:∀ (xs:List α) (k:Nat),k≤xs.length→(∀ (j:Nat) (x:α),j<k→xs[j]?=some x→p x=true)→(∀ x,xs[k]?=some x→p x=false)→plP p xs=k
 | [],k,hk,_,_=>by simp [plP];simp at hk;omega
 | y :: r,0,_,_,h2=>by unfold plP;rw [if_neg (by rw [h2 y rfl];decide)]
 | y :: r,k+1,hk,h1,h2=>by
   unfold plP
   rw [if_pos (h1 0 y (by omega) rfl),plP_eq r k (by simpa using hk) (fun j x hj hx=>h1 (j+1) x (by omega) (by simpa using hx)) (fun x hx=>h2 x (by simpa using hx))]
theorem seen_lt {ss:List Sn} (h:SsOK ss):∀ (k j:Nat) (a b:Sn),j<k→ss[j]?=some a→ss[k]?=some b→a.c<b.c
 | 0,j,_,_,hj,_,_=>by omega
 | k+1,j,a,b,hj,ha,hb=>by
   have h1:=(zAQ (h (k+1) b hb).1).1
   unfold pc at h1
   rw [if_neg (by omega),Nat.add_sub_cancel] at h1
   have hk:k<ss.length:=by have:=(List.getElem?_eq_some_iff.1 hb).1;omega
   obtain ⟨c,hc⟩ : ∃ c,ss[k]?=some c:=⟨_,List.getElem?_eq_getElem hk⟩
   rw [List.getD_eq_getElem?_getD,hc] at h1
   simp only [Option.getD_some] at h1
   by_cases e:j=k
   ·subst e
    rw [ha] at hc
    cases hc
    omega
   ·have:=seen_lt h k j a c (by omega) ha hc
    omega
theorem seen_place {ss:List Sn} (h:SsOK ss) {c:Int} {k:Nat} {s:Sn} (hs:ss[k]?=some s) (hc:s.c=c):splc ss c=k∧sidx ss c=some k:=by
 have hk:=(List.getElem?_eq_some_iff.1 hs).1
 constructor
 ·unfold splc
  refine plP_eq ss k (by omega) (fun j x hj hx=>?_) (fun x hx=>?_)
  ·have:=seen_lt h k j x s hj hx hs
   simp;omega
  ·rw [hs] at hx;cases hx;simp;omega
 ·unfold sidx
  have key:∀ (xs:List Sn) (k:Nat) (s:Sn),xs[k]?=some s→s.c=c→(∀ (j:Nat) (x:Sn),j<k→xs[j]?=some x→x.c ≠ c)→fiP (fun s:Sn=>s.c == c) xs=some k:=by
   intro xs
   induction xs with
   | nil=>intro k s hs;simp at hs
   | cons y r ih =>
     intro k s hs hc hb
     unfold fiP
     cases k with
     | zero=>simp at hs;subst hs;rw [if_pos (by simpa using hc)]
     | succ k =>
       rw [if_neg (by simpa using hb 0 y (by omega) rfl),ih k s (by simpa using hs) hc (fun j x hj hx=>hb (j+1) x (by omega) (by simpa using hx))]
       rfl
  exact key ss k s hs hc (fun j x hj hx e=>by have:=seen_lt h k j x s hj hx hs;omega)
theorem seen_none {ss:List Sn} {c:Int} {k:Nat} (hk:splc ss c=k) (hle:SsOK ss) (h:∀ s,ss[k]?=some s→s.c ≠ c):sidx ss c=none:=by
 cases hi:sidx ss c with
 | none=>rfl
 | some j =>
   obtain ⟨s,hs,hc⟩:=zBC ss j hi
   have hc':s.c=c:=by simpa using hc
   have:=(seen_place hle hs hc').1
   rw [hk] at this
   subst this
   exact absurd hc' (h s hs)
theorem splc_le (ss:List Sn) (c:Int):splc ss c≤ss.length:=plP_le _
theorem splc_at {ss:List Sn} {c:Int} {j:Nat} {s:Sn} (hs:ss[j]?=some s) (hj:j≤splc ss c):(j<splc ss c ↔ s.c<c):=by
 unfold splc at hj ⊢
 constructor
 ·intro h
  have:=zAt (p:=fun s:Sn=>decide (s.c<c)) ss j s h hs
  simpa using this
 ·intro h
  rcases Nat.lt_or_ge j (plP (fun s:Sn=>decide (s.c<c)) ss) with h1 | h1
  ·exact h1
  ·have e:j=plP (fun s:Sn=>decide (s.c<c)) ss:=by omega
   subst e
   have:=zBd (p:=fun s:Sn=>decide (s.c<c)) ss s hs
   simp at this
   omega
theorem OwnL.mono {w:World} {B B':Nat} {v:Value} {ps:List LkA} (h:OwnL w B v ps) (hb:B'≤B):OwnL w B' v ps:=by
 obtain ⟨hl,h⟩:=h
 refine ⟨hl,?_⟩
 rcases h with h | ⟨g,cap,cur,rfl,h1,h2⟩
 ·exact .inl h
 ·exact .inr ⟨g,cap,cur,rfl,Nat.le_trans hb h1,h2⟩
theorem TM.fin {w0 W wf:World} {B x n:Nat} {X:Tab} {v2 v3:Value} {ps:List LkA} (h:TM w0 W B x X v2 v3 ps) (hn:n≤B) (hk:∀ j,B≤j→wf.heap[j]?=W.heap[j]?):OwnL wf n v2 ps∧(∀ p ∈ ps,OwnW wf n (uV p) p.1.ws)∧OwnS wf n v3 X.ss∧ps.map (·.1)=X.ls∧Apart ps :=
 ⟨OwnL.mono (h.ol.kept fun g hg=>hk g (h.ol.lt g hg).1) hn,fun p hp=>OwnW.mono ((h.ow p hp).kept fun g hg=>hk g ((h.ow p hp).lt g hg).1) hn,OwnS.mono (h.os.kept fun g hg=>hk g (h.os.lt g hg).1) hn,h.eq,h.ap⟩
theorem OwnS.atk {w:World} {B:Nat} {v:Value} {ss:List Sn} (h:OwnS w B v ss) {k:Nat} {s:Sn} (hk:ss[k]?=some s):∃ g cap,v=.slice (some ⟨g,0,none⟩) ss.length cap∧B≤g∧ss.length≤cap∧(∃ cl,w.heap[g]?=some (.cells cl 116 (0,0)))∧∀ j u,(clS s)[j]?=some u→w.cell? ⟨g,k * 6+j,none⟩=some u∧w.frozen? ⟨g,k * 6+j,none⟩=false:=by
 have hlt:k<ss.length:=(List.getElem?_eq_some_iff.1 hk).1
 obtain ⟨hl,h1 | ⟨g,cap,cur,e,hB,hg,hc,hm,hs,htk⟩⟩:=h
 ·rw [h1.2] at hlt;exact absurd hlt (by omega)
 refine ⟨g,cap,e,hB,hc,⟨cur,hg⟩,fun j u hj=>?_⟩
 have hj6:j<6:=(List.getElem?_eq_some_iff.1 hj).1
 have h1:=atS ss k s j hk hj6
 rw [← htk,List.getElem?_take,if_pos (by omega),hj] at h1
 refine ⟨by rw [Joins.cell_of_block hg,← Array.getElem?_toList];exact h1,by simp [World.frozen?,hg]⟩
theorem flat_setS:∀ (ps:List Sn) (k j:Nat) (p q:Sn) (z:Value),ps[k]?=some p→clS q=(clS p).set j z→j<6→(ps.flatMap clS).set (k * 6+j) z=(ps.set k q).flatMap clS
 | [],k,j,p,q,z,h,_,_=>by simp at h
 | a :: r,0,j,p,q,z,h,hq,hj=>by
   simp at h;subst h
   rw [List.flatMap_cons,List.set_cons_zero,List.flatMap_cons,hq,Nat.zero_mul,Nat.zero_add,List.set_append_left _ _ (by show _<6;omega)]
 | a :: r,k+1,j,p,q,z,h,hq,hj=>by
   have h':r[k]?=some p:=by simpa using h
   rw [List.flatMap_cons,List.set_cons_succ,List.flatMap_cons,List.set_append_right _ _ (by show 6≤_;omega)]
   rw [show (k+1) * 6+j - (clS a).length=k * 6+j by show _ - 6=_;omega,flat_setS r k j p q z h' hq hj]
theorem OwnS.setk {w:World} {B:Nat} {g cap n:Nat} {ps:List Sn} (h:OwnS w B (.slice (some ⟨g,0,none⟩) n cap) ps) {k j:Nat} {p q:Sn} {z:Value} (hk:ps[k]?=some p) (hq:clS q=(clS p).set j z) (hj:j<6) :
 OwnS (w.setCell ⟨g,k * 6+j,none⟩ z) B (.slice (some ⟨g,0,none⟩) n cap) (ps.set k q):=by
 have hlt:k<ps.length:=(List.getElem?_eq_some_iff.1 hk).1
 obtain ⟨hl,h1 | ⟨g',cap',cur,e,hB,hg,hc,hm,hs,htk⟩⟩:=h
 ·exact absurd h1.1 (by simp)
 cases e
 refine ⟨by rw [← flat_setS ps k j p q z hk hq hj,List.length_set,List.length_set];exact hl,.inr ⟨g,cap,cur.setIfInBounds (k * 6+j) z,by rw [List.length_set],hB,zAC hg _ _,by rw [List.length_set];exact hc,hm,by simpa using hs,?_⟩⟩
 rw [List.length_set,← flat_setS ps k j p q z hk hq hj,← htk,Array.toList_setIfInBounds,List.take_set]
theorem TM.sput {w0 w:World} {B x:Nat} {T:Tab} {v2:Value} {ps:List LkA} {g cap n:Nat} (h:TM w0 w B x T v2 (.slice (some ⟨g,0,none⟩) n cap) ps) {k j:Nat} {s s':Sn} {z:Value} (hk:T.ss[k]?=some s) (hq:clS s'=(clS s).set j z) (hj:j<6) :
 TM w0 (w.setCell ⟨g,k * 6+j,none⟩ z) B x { T with ss:=T.ss.set k s' } v2 (.slice (some ⟨g,0,none⟩) n cap) ps:=by
 obtain ⟨cl,hcl⟩:=zAG h.os (g:=g) rfl
 refine ⟨(zAE (zAK h.hx hcl (by decide)) _ _).trans h.hx,h.ol.kept (fun g' hg'=>?_),OwnS.setk h.os hk hq hj,fun p hp=>(h.ow p hp).kept (fun g' hg'=>?_),h.ap,h.eq,Below.setCell h.bel (p:=⟨g,_,none⟩) (h.os.lt g rfl).1 z,h.b0,h.le⟩
 ·obtain ⟨c1,h1⟩:=zAG h.ol hg'
  exact zAE (zAK h1 hcl (by decide)) _ _
 ·obtain ⟨c1,h1⟩:=zAG (h.ow p hp) hg'
  exact zAE (zAK h1 hcl (by decide)) _ _
theorem TM.sput6 {w0 w:World} {B x:Nat} {T:Tab} {v2:Value} {ps:List LkA} {g cap n:Nat} (h:TM w0 w B x T v2 (.slice (some ⟨g,0,none⟩) n cap) ps) {k:Nat} {s s':Sn} (hk:T.ss[k]?=some s) :
 TM w0 ((((((w.setCell ⟨g,k * 6,none⟩ (.int .i64 s'.c)).setCell ⟨g,k * 6+1,none⟩ (.int .i64 s'.s)).setCell ⟨g,k * 6+2,none⟩ (.int .i64 s'.k)).setCell ⟨g,k * 6+3,none⟩ (.int .i64 s'.t)).setCell ⟨g,k * 6+4,none⟩ (.int .i64 s'.h)).setCell ⟨g,k * 6+5,none⟩ (.int .i64 s'.e)) B x { T with ss:=T.ss.set k s' } v2 (.slice (some ⟨g,0,none⟩) n cap) ps:=by
 have hlt:k<T.ss.length:=(List.getElem?_eq_some_iff.1 hk).1
 have at_set:∀ (T:Tab) (z:Sn),k<T.ss.length→(T.ss.set k z)[k]?=some z:=fun T z h=>by rw [List.getElem?_set_self h]
 have s0:=h.sput (j:=0) (s':={ s with c:=s'.c }) (z:=.int .i64 s'.c) hk rfl (by decide)
 have s1:=s0.sput (j:=1) (k:=k) (s:={ s with c:=s'.c }) (s':={ s with c:=s'.c,s:=s'.s }) (z:=.int .i64 s'.s) (at_set T _ hlt) rfl (by decide)
 have s2:=s1.sput (j:=2) (k:=k) (s:={ s with c:=s'.c,s:=s'.s }) (s':={ s with c:=s'.c,s:=s'.s,k:=s'.k }) (z:=.int .i64 s'.k) (by simp [hlt]) rfl (by decide)
 have s3:=s2.sput (j:=3) (k:=k) (s:={ s with c:=s'.c,s:=s'.s,k:=s'.k }) (s':={ s with c:=s'.c,s:=s'.s,k:=s'.k,t:=s'.t }) (z:=.int .i64 s'.t) (by simp [hlt]) rfl (by decide)
 have s4:=s3.sput (j:=4) (k:=k) (s:={ s with c:=s'.c,s:=s'.s,k:=s'.k,t:=s'.t }) (s':={ s with c:=s'.c,s:=s'.s,k:=s'.k,t:=s'.t,h:=s'.h }) (z:=.int .i64 s'.h) (by simp [hlt]) rfl (by decide)
 have s5:=s4.sput (j:=5) (k:=k) (s:={ s with c:=s'.c,s:=s'.s,k:=s'.k,t:=s'.t,h:=s'.h }) (s':=s') (z:=.int .i64 s'.e) (by simp [hlt]) rfl (by decide)
 simpa only [List.set_set,Nat.add_zero] using s5
def ApP (w:World) (R:Tab × Da.An) (e:Ending) (w':World):Prop:=(∃ ul us ps,e=.returned (.tuple #[.agg #[.int .i64 R.1.tm,.int .i64 R.1.nx,ul,us],.agg #[.int .i64 R.2.k,.int .i64 R.2.t,.int .i64 R.2.h,.int .i64 R.2.e]])∧OwnL w' w.heap.size ul ps∧(∀ p ∈ ps,OwnW w' w.heap.size (uV p) p.1.ws)∧OwnS w' w.heap.size us R.1.ss∧ps.map (·.1)=R.1.ls∧Apart ps)∧Below w.heap.size w w'
theorem l05Do_any {w0 w:World} {B x:Nat} {T:Tab} {v2 v3:Value} {ps:List LkA} (h:TM w0 w B x T v2 v3 ps) (hT:TOK T) (hn:T.nx≤999999) (r:Da.Ask) (hr:zBQ r) :
 Calls Tryz.prog 98 #[.pointer (some ⟨x,0,none⟩),.agg #[.int .i64 r.cl,.int .i64 r.st,.int .i64 r.kd,.int .i64 r.le,.string r.nm]] w fun e w'=>DoP w0 w B x (doT T r) e w':=by
 by_cases hkd:r.kd=1
 ·exact l05Do_acq h hT hn r hr hkd
 ·cases hidx:idx T.ls r.nm with
  | none=>exact l05Do_none h hT r hkd hidx
  | some k =>
    obtain ⟨y,hy,_⟩:=zBC T.ls k hidx
    exact l05Do_some h hT hn r hr hkd hidx hy
theorem zAr {w:World} {b k:Nat} (h:k ≠ b) (i:Nat) (v:Value):(w.setCell ⟨b,i,none⟩ v).heap[k]?=w.heap[k]?:=zAE h i v
theorem far4 {w:World} {a k:Nat} (h:k ≠ a) (v0 v1 v2 v3:Value):((((w.setCell ⟨a,0,none⟩ v0).setCell ⟨a,1,none⟩ v1).setCell ⟨a,2,none⟩ v2).setCell ⟨a,3,none⟩ v3).heap[k]?=w.heap[k]?:=(zAr h 3 v3).trans ((zAr h 2 v2).trans ((zAr h 1 v1).trans (zAr h 0 v0)))
theorem set44 {w:World} {a b:Nat} {ta tb:TypeId} (z0 z1 z2 z3 y0 y1 y2 y3 a0 a1 a2 a3 b0 b1 b2 b3:Value) (hab:a ≠ b) (ha:w.heap[a]?=some (.cells #[z0,z1,z2,z3] ta (0,0))) (hb:w.heap[b]?=some (.cells #[y0,y1,y2,y3] tb (0,0))) :
 (((((((((w.setCell ⟨a,0,none⟩ a0).setCell ⟨a,1,none⟩ a1).setCell ⟨a,2,none⟩ a2).setCell ⟨a,3,none⟩ a3).setCell ⟨b,0,none⟩ b0).setCell ⟨b,1,none⟩ b1).setCell ⟨b,2,none⟩ b2).setCell ⟨b,3,none⟩ b3).heap[a]?=some (.cells #[a0,a1,a2,a3] ta (0,0))∧((((((((w.setCell ⟨a,0,none⟩ a0).setCell ⟨a,1,none⟩ a1).setCell ⟨a,2,none⟩ a2).setCell ⟨a,3,none⟩ a3).setCell ⟨b,0,none⟩ b0).setCell ⟨b,1,none⟩ b1).setCell ⟨b,2,none⟩ b2).setCell ⟨b,3,none⟩ b3).heap[b]?=some (.cells #[b0,b1,b2,b3] tb (0,0))∧(∀ k,k ≠ a→k ≠ b→((((((((w.setCell ⟨a,0,none⟩ a0).setCell ⟨a,1,none⟩ a1).setCell ⟨a,2,none⟩ a2).setCell ⟨a,3,none⟩ a3).setCell ⟨b,0,none⟩ b0).setCell ⟨b,1,none⟩ b1).setCell ⟨b,2,none⟩ b2).setCell ⟨b,3,none⟩ b3).heap[k]?=w.heap[k]?)∧∀ {B:Nat} {w0:World},Below B w0 w→B≤a→B≤b→Below B w0 ((((((((w.setCell ⟨a,0,none⟩ a0).setCell ⟨a,1,none⟩ a1).setCell ⟨a,2,none⟩ a2).setCell ⟨a,3,none⟩ a3).setCell ⟨b,0,none⟩ b0).setCell ⟨b,1,none⟩ b1).setCell ⟨b,2,none⟩ b2).setCell ⟨b,3,none⟩ b3)) ∧
 (((((((((w.setCell ⟨b,0,none⟩ b0).setCell ⟨b,1,none⟩ b1).setCell ⟨b,2,none⟩ b2).setCell ⟨b,3,none⟩ b3).setCell ⟨a,0,none⟩ a0).setCell ⟨a,1,none⟩ a1).setCell ⟨a,2,none⟩ a2).setCell ⟨a,3,none⟩ a3).heap[a]?=some (.cells #[a0,a1,a2,a3] ta (0,0))∧((((((((w.setCell ⟨b,0,none⟩ b0).setCell ⟨b,1,none⟩ b1).setCell ⟨b,2,none⟩ b2).setCell ⟨b,3,none⟩ b3).setCell ⟨a,0,none⟩ a0).setCell ⟨a,1,none⟩ a1).setCell ⟨a,2,none⟩ a2).setCell ⟨a,3,none⟩ a3).heap[b]?=some (.cells #[b0,b1,b2,b3] tb (0,0))∧(∀ k,k ≠ a→k ≠ b→((((((((w.setCell ⟨b,0,none⟩ b0).setCell ⟨b,1,none⟩ b1).setCell ⟨b,2,none⟩ b2).setCell ⟨b,3,none⟩ b3).setCell ⟨a,0,none⟩ a0).setCell ⟨a,1,none⟩ a1).setCell ⟨a,2,none⟩ a2).setCell ⟨a,3,none⟩ a3).heap[k]?=w.heap[k]?)∧∀ {B:Nat} {w0:World},Below B w0 w→B≤a→B≤b→Below B w0 ((((((((w.setCell ⟨b,0,none⟩ b0).setCell ⟨b,1,none⟩ b1).setCell ⟨b,2,none⟩ b2).setCell ⟨b,3,none⟩ b3).setCell ⟨a,0,none⟩ a0).setCell ⟨a,1,none⟩ a1).setCell ⟨a,2,none⟩ a2).setCell ⟨a,3,none⟩ a3)):=by
 have sa:∀ (w:World),w.heap[a]?=some (.cells #[z0,z1,z2,z3] ta (0,0))→((((w.setCell ⟨a,0,none⟩ a0).setCell ⟨a,1,none⟩ a1).setCell ⟨a,2,none⟩ a2).setCell ⟨a,3,none⟩ a3).heap[a]?=some (.cells #[a0,a1,a2,a3] ta (0,0)):=fun w h=>by
  have:=zAC (zAC (zAC (zAC h 0 a0) 1 a1) 2 a2) 3 a3
  simpa only [sA,sB,sC] using this
 have sb:∀ (w:World),w.heap[b]?=some (.cells #[y0,y1,y2,y3] tb (0,0))→((((w.setCell ⟨b,0,none⟩ b0).setCell ⟨b,1,none⟩ b1).setCell ⟨b,2,none⟩ b2).setCell ⟨b,3,none⟩ b3).heap[b]?=some (.cells #[b0,b1,b2,b3] tb (0,0)):=fun w h=>by
  have:=zAC (zAC (zAC (zAC h 0 b0) 1 b1) 2 b2) 3 b3
  simpa only [sA,sB,sC] using this
 have fa:∀ (w:World) (k:Nat),k ≠ a→((((w.setCell ⟨a,0,none⟩ a0).setCell ⟨a,1,none⟩ a1).setCell ⟨a,2,none⟩ a2).setCell ⟨a,3,none⟩ a3).heap[k]?=w.heap[k]?:=fun w k h=>(zAr h 3 a3).trans ((zAr h 2 a2).trans ((zAr h 1 a1).trans (zAr h 0 a0)))
 have fb:∀ (w:World) (k:Nat),k ≠ b→((((w.setCell ⟨b,0,none⟩ b0).setCell ⟨b,1,none⟩ b1).setCell ⟨b,2,none⟩ b2).setCell ⟨b,3,none⟩ b3).heap[k]?=w.heap[k]?:=fun w k h=>(zAr h 3 b3).trans ((zAr h 2 b2).trans ((zAr h 1 b1).trans (zAr h 0 b0)))
 have ba:∀ (w:World) {B:Nat} {w0:World},Below B w0 w→B≤a→Below B w0 ((((w.setCell ⟨a,0,none⟩ a0).setCell ⟨a,1,none⟩ a1).setCell ⟨a,2,none⟩ a2).setCell ⟨a,3,none⟩ a3):=fun w B w0 hb h=>Below.setCell (Below.setCell (Below.setCell (Below.setCell hb (p:=⟨a,0,none⟩) h a0) (p:=⟨a,1,none⟩) h a1) (p:=⟨a,2,none⟩) h a2) (p:=⟨a,3,none⟩) h a3
 have bb:∀ (w:World) {B:Nat} {w0:World},Below B w0 w→B≤b→Below B w0 ((((w.setCell ⟨b,0,none⟩ b0).setCell ⟨b,1,none⟩ b1).setCell ⟨b,2,none⟩ b2).setCell ⟨b,3,none⟩ b3):=fun w B w0 hb h=>Below.setCell (Below.setCell (Below.setCell (Below.setCell hb (p:=⟨b,0,none⟩) h b0) (p:=⟨b,1,none⟩) h b1) (p:=⟨b,2,none⟩) h b2) (p:=⟨b,3,none⟩) h b3
 exact ⟨⟨(fb _ a hab).trans (sa w ha),sb _ ((fa w b (Ne.symm hab)).trans hb),fun k h1 h2=>(fb _ k h2).trans (fa w k h1),fun h h1 h2=>bb _ (ba w h h1) h2⟩,⟨sa _ ((fb w a hab).trans ha),(fa _ b (Ne.symm hab)).trans (sb w hb),fun k h1 h2=>(fa _ k h1).trans (fb w k h2),fun h h1 h2=>ba _ (bb w h h2) h1⟩⟩
end Go.Proofs.YticokpbelgpfmaaGreat.Ea
namespace Go.Proofs.YticokpbelgpfmaaGreat.Ea
open Go.RowKit By Ap Tb Tw Wa Tp Da
open Lo (LkA uV clL OwnL OwnL.kept OwnL.lt OwnL.below OwnL.row OwnL.slice zAG zAK Apart lenL atL)
open Tx (zAA zAC zAE zAJ zAD)
open Lf (Fnd zAS)
open Lsh
set_option maxRecDepth 100000 in
set_option maxHeartbeats 12800000 in
theorem l05Apply_any (T:Tab) (vl vs:Value) (now:Int) (r:Da.Ask) (w:World) (hl:RowL w vl T.ls) (hs:RowS w vs T.ss) (hT:TOK T) (h0:0≤now) (h1:now≤1000000000) (hn:T.nx≤999990) (hr:zBQ r) :
 Calls Tryz.prog 57 #[.agg #[.int .i64 T.tm,.int .i64 T.nx,vl,vs],.int .i64 now,.agg #[.int .i64 r.cl,.int .i64 r.st,.int .i64 r.kd,.int .i64 r.le,.string r.nm]] w fun e w'=>ApP w (apT T now r) e w':=by
 obtain ⟨si0,hsi0,sz0,sz1,sz2⟩:=info_parts infoS
 have hX:=exT_ok hT h0 h1 hn
 have hXn:=exT_nx T now hT.2.2.1
 have hXs:(exT T now).ss=T.ss:=rfl
 have HE:Hid (∀ W,Below w.heap.size w W→Calls Tryz.prog 97 #[.agg #[.int .i64 T.tm,.int .i64 T.nx,vl,vs],.int .i64 now] W fun e w'=>OwnT w' W.heap.size (exT T now) e∧Below W.heap.size W w'):=fun W hW=>l05Expire_any T vl vs now W (hl.below hW) (hs.below hW) hT h0 h1 hn
 obtain ⟨R,HR⟩ : ∃ R,Hid (apT T now r=R):=⟨_,rfl⟩
 obtain ⟨X,HX0⟩ : ∃ X,Hid (exT T now=X):=⟨_,rfl⟩
 rw [HX0.out] at hX hXn hXs HE
 have HAP0:R=match sidx X.ss r.cl with
  | some k=>if r.st=(X.ss.getD k default).s then (X,ansOf (X.ss.getD k default)) else if r.st<(X.ss.getD k default).s then (X,bare 7) else ({ (doT X r).1 with ss:=X.ss.set k (sn r (doT X r).2) },(doT X r).2)
  | none=>if 6≤X.ss.length then (X,bare 6) else ({ (doT X r).1 with ss:=putAt X.ss (splc X.ss r.cl) (sn r (doT X r).2) },(doT X r).2):=by
  rw [← HR.out,hXs,← HX0.out]
  rfl
 have HAPH:Hid (∀ _:Unit,R=match sidx X.ss r.cl with
  | some k=>if r.st=(X.ss.getD k default).s then (X,ansOf (X.ss.getD k default)) else if r.st<(X.ss.getD k default).s then (X,bare 7) else ({ (doT X r).1 with ss:=X.ss.set k (sn r (doT X r).2) },(doT X r).2)
  | none=>if 6≤X.ss.length then (X,bare 6) else ({ (doT X r).1 with ss:=putAt X.ss (splc X.ss r.cl) (sn r (doT X r).2) },(doT X r).2)):=fun _=>HAP0
 clear HAP0
 rw [HR.out]
 have HDS:Hid ((doT X r).1.ss=X.ss):=(doT_ss X r).1
 have HXO:Hid (TOK X∧X.nx≤999999):=⟨hX,by omega⟩
 have hsl:X.ss.length≤6:=hX.2.2.2.2.1
 have hrc:=zAQ hr.1
 have HRO:Hid (zBQ r):=hr
 clear hX hXn hXs HR HX0 hT h0 h1 hn hr
 have HWB:Hid (∀ W,Below ((((w.alloc (.cells #[.int .i64 T.tm,.int .i64 T.nx,vl,vs] 30)).alloc (.cells #[.int .i64 r.cl,.int .i64 r.st,.int .i64 r.kd,.int .i64 r.le,.string r.nm] 42)).alloc (.cells #[.int .i64 0,.int .i64 0,.slice none 0 0,.slice none 0 0] 30)).alloc (.cells #[.int .i64 0,.int .i64 0,.int .i64 0,.int .i64 0] 38)).heap.size ((((w.alloc (.cells #[.int .i64 T.tm,.int .i64 T.nx,vl,vs] 30)).alloc (.cells #[.int .i64 r.cl,.int .i64 r.st,.int .i64 r.kd,.int .i64 r.le,.string r.nm] 42)).alloc (.cells #[.int .i64 0,.int .i64 0,.slice none 0 0,.slice none 0 0] 30)).alloc (.cells #[.int .i64 0,.int .i64 0,.int .i64 0,.int .i64 0] 38)) W→W.heap[w.heap.size]?=some (.cells #[.int .i64 T.tm,.int .i64 T.nx,vl,vs] 30 (0,0))∧W.heap[w.heap.size+1]?=some (.cells #[.int .i64 r.cl,.int .i64 r.st,.int .i64 r.kd,.int .i64 r.le,.string r.nm] 42 (0,0))∧W.heap[w.heap.size+1+1]?=some (.cells #[.int .i64 0,.int .i64 0,.slice none 0 0,.slice none 0 0] 30 (0,0))∧W.heap[w.heap.size+1+1+1]?=some (.cells #[.int .i64 0,.int .i64 0,.int .i64 0,.int .i64 0] 38 (0,0))∧Below w.heap.size w W):=fun W hW=>by
  have s1:(w.alloc (.cells #[.int .i64 T.tm,.int .i64 T.nx,vl,vs] 30)).heap.size=w.heap.size+1:=by simp
  have s2:((w.alloc (.cells #[.int .i64 T.tm,.int .i64 T.nx,vl,vs] 30)).alloc (.cells #[.int .i64 r.cl,.int .i64 r.st,.int .i64 r.kd,.int .i64 r.le,.string r.nm] 42)).heap.size=w.heap.size+1+1:=by simp
  have s3:(((w.alloc (.cells #[.int .i64 T.tm,.int .i64 T.nx,vl,vs] 30)).alloc (.cells #[.int .i64 r.cl,.int .i64 r.st,.int .i64 r.kd,.int .i64 r.le,.string r.nm] 42)).alloc (.cells #[.int .i64 0,.int .i64 0,.slice none 0 0,.slice none 0 0] 30)).heap.size=w.heap.size+1+1+1:=by simp
  have s4:((((w.alloc (.cells #[.int .i64 T.tm,.int .i64 T.nx,vl,vs] 30)).alloc (.cells #[.int .i64 r.cl,.int .i64 r.st,.int .i64 r.kd,.int .i64 r.le,.string r.nm] 42)).alloc (.cells #[.int .i64 0,.int .i64 0,.slice none 0 0,.slice none 0 0] 30)).alloc (.cells #[.int .i64 0,.int .i64 0,.int .i64 0,.int .i64 0] 38)).heap.size=w.heap.size+1+1+1+1:=by simp
  have b1:=zAD w (.cells #[.int .i64 T.tm,.int .i64 T.nx,vl,vs] 30)
  have b2:=zAD (w.alloc (.cells #[.int .i64 T.tm,.int .i64 T.nx,vl,vs] 30)) (.cells #[.int .i64 r.cl,.int .i64 r.st,.int .i64 r.kd,.int .i64 r.le,.string r.nm] 42)
  have b3:=zAD ((w.alloc (.cells #[.int .i64 T.tm,.int .i64 T.nx,vl,vs] 30)).alloc (.cells #[.int .i64 r.cl,.int .i64 r.st,.int .i64 r.kd,.int .i64 r.le,.string r.nm] 42)) (.cells #[.int .i64 0,.int .i64 0,.slice none 0 0,.slice none 0 0] 30)
  have b4:=zAD (((w.alloc (.cells #[.int .i64 T.tm,.int .i64 T.nx,vl,vs] 30)).alloc (.cells #[.int .i64 r.cl,.int .i64 r.st,.int .i64 r.kd,.int .i64 r.le,.string r.nm] 42)).alloc (.cells #[.int .i64 0,.int .i64 0,.slice none 0 0,.slice none 0 0] 30)) (.cells #[.int .i64 0,.int .i64 0,.int .i64 0,.int .i64 0] 38)
  refine ⟨?_,?_,?_,?_,(((b1.trans (b2.mono b1.size)).trans (b3.mono (by omega))).trans (b4.mono (by omega))).trans (hW.mono (by omega))⟩
  ·rw [hW.block _ (by omega),b4.block _ (by omega),b3.block _ (by omega),b2.block _ (by omega)];exact zAJ _ _ _
  ·rw [hW.block _ (by omega),b4.block _ (by omega),b3.block _ (by omega),← s1];exact zAJ _ _ _
  ·rw [hW.block _ (by omega),b4.block _ (by omega),← s2];exact zAJ _ _ _
  ·rw [hW.block _ (by omega),← s3];exact zAJ _ _ _
 have hA:((((w.alloc (.cells #[.int .i64 T.tm,.int .i64 T.nx,vl,vs] 30)).alloc (.cells #[.int .i64 r.cl,.int .i64 r.st,.int .i64 r.kd,.int .i64 r.le,.string r.nm] 42)).alloc (.cells #[.int .i64 0,.int .i64 0,.slice none 0 0,.slice none 0 0] 30)).alloc (.cells #[.int .i64 0,.int .i64 0,.int .i64 0,.int .i64 0] 38)).heap.size=w.heap.size+1+1+1+1:=by simp
 clear hl hs
 go_enter Tryz.func57,Tryz.ntmps57
 go_upto_region 1 with fail
 generalize ((((w.alloc (.cells #[.int .i64 T.tm,.int .i64 T.nx,vl,vs] 30)).alloc (.cells #[.int .i64 r.cl,.int .i64 r.st,.int .i64 r.kd,.int .i64 r.le,.string r.nm] 42)).alloc (.cells #[.int .i64 0,.int .i64 0,.slice none 0 0,.slice none 0 0] 30)).alloc (.cells #[.int .i64 0,.int .i64 0,.int .i64 0,.int .i64 0] 38))=wA at HWB hA ⊢
 have HBX:Hid (∀ W,Below wA.heap.size wA W→W.heap[w.heap.size+1]?=some (.cells #[.int .i64 r.cl,.int .i64 r.st,.int .i64 r.kd,.int .i64 r.le,.string r.nm] 42 (0,0))∧W.heap[w.heap.size+1+1]?=some (.cells #[.int .i64 0,.int .i64 0,.slice none 0 0,.slice none 0 0] 30 (0,0))∧W.heap[w.heap.size+1+1+1]?=some (.cells #[.int .i64 0,.int .i64 0,.int .i64 0,.int .i64 0] 38 (0,0))∧Below w.heap.size w W):=fun W hW=>(HWB.out W hW).2
 obtain ⟨q0,_,_,_,q4⟩:=HWB.out wA (Below.refl _ _)
 have c0:=(zAA q0 0 (x:=.int .i64 T.tm) rfl).1
 have c1:=(zAA q0 1 (x:=.int .i64 T.nx) rfl).1
 have c2:=(zAA q0 2 (x:=vl) rfl).1
 have c3:=(zAA q0 3 (x:=vs) rfl).1
 have HE1:=HE.out wA q4
 clear q0 q4 HE HWB
 go_upto_region 2 with (go_at_call 97;refine HE1.mono ?_;rintro e w1 ⟨⟨ul,us,ps,he,o1,o2,o3,o4,o5⟩,b1⟩;obtain ⟨la,lc,rfl⟩:=OwnL.slice o1;obtain ⟨ua,uc,rfl⟩:=OwnS.slice o5;unfold tabV at he;subst he)
 have bb:=zAD w1 (.cells #[.int .i64 X.tm,.int .i64 X.nx,.slice la ps.length lc,.slice ua X.ss.length uc] 30)
 have T2:TM wA (w1.alloc (.cells #[.int .i64 X.tm,.int .i64 X.nx,.slice la ps.length lc,.slice ua X.ss.length uc] 30)) wA.heap.size w1.heap.size X (.slice la ps.length lc) (.slice ua X.ss.length uc) ps:=⟨zAJ _ _ _,o1.below bb,o5.below bb,fun p hp=>(o2 p hp).below bb,o4,o3,b1.trans (bb.mono b1.size),Nat.le_refl _,b1.size⟩
 have HX:Hid (∀ W,Below (w1.alloc (.cells #[.int .i64 X.tm,.int .i64 X.nx,.slice la ps.length lc,.slice ua X.ss.length uc] 30)).heap.size (w1.alloc (.cells #[.int .i64 X.tm,.int .i64 X.nx,.slice la ps.length lc,.slice ua X.ss.length uc] 30)) W→TM wA W wA.heap.size w1.heap.size X (.slice la ps.length lc) (.slice ua X.ss.length uc) ps):=fun W hW=>T2.up hW
 have hbA:wA.heap.size≤w1.heap.size:=b1.size
 clear o1 o2 o3 o4 o5 b1 bb T2 HE1 c0 c1 c2 c3
 generalize w1.alloc (.cells #[.int .i64 X.tm,.int .i64 X.nx,.slice la ps.length lc,.slice ua X.ss.length uc] 30)=w2 at HX ⊢
 generalize w1.heap.size=b at HX hbA ⊢
 obtain ⟨k,HK⟩ : ∃ k,Hid (splc X.ss r.cl=k):=⟨_,rfl⟩
 have hkl:k≤X.ss.length:=by rw [← HK.out];exact splc_le _ _
 have hkc:k≤uc:=by
  rcases (HX.out w2 (Below.refl _ _)).os.2 with ⟨e,h1⟩ | ⟨g',cap,cur,e,_,_,hc,_⟩
  ·omega
  ·cases e;omega
 go_wp2_with fail
 go_loopw [9] (fun i wr=>∃ j:Nat,i=.int .i64 (j:Int)∧j≤k∧Hid (Below w2.heap.size w2 wr)) (fun i _=>k - (intOf i).toNat)
 case atStart=>exact ⟨0,rfl,by omega,Below.refl _ _⟩
 case round =>
  obtain ⟨j,rfl,hj,GR⟩:=hrel
  have hj0:(0:Int)≤(j:Int):=by omega
  by_cases hjn:j<X.ss.length
  focus
   obtain ⟨s,hs⟩ : ∃ s,X.ss[j]?=some s:=⟨_,List.getElem?_eq_getElem hjn⟩
   have HSK:Hid (X.ss[j]?=some s):=hs
   have hlt:=splc_at hs (by rw [HK.out];exact hj)
   rw [HK.out] at hlt
   have hj1:(j:Int)<(X.ss.length:Int):=by omega
   obtain ⟨gs,cs,es,hgB,_⟩:=OwnS.atk (HX.out wr GR.out).os hs
   obtain ⟨rfl,rfl⟩ : ua=some ⟨gs,0,none⟩∧uc=cs:=by injection es with e1 _ e3;exact ⟨e1,e3⟩
   clear es
   by_cases hjk:j<k
   ·have hls:s.c<r.cl:=hlt.1 hjk
    clear hlt hs
    go_upto_region 3 with fail
    obtain ⟨X1,hX1,W1,QI0,QO0⟩:=Qc.zAZ wr
    have QI:Hid (∀ w',Below wr.heap.size wr w'→∃ x,w'=W1 x):=QI0
    have QO:Hid (∀ x,Below wr.heap.size wr (W1 x)):=QO0
    clear QI0 QO0
    have tq:=HX.out _ GR.out
    have y3:=Qc.zAB QO.out (zAA tq.hx 3 (x:=.slice (some ⟨gs,0,none⟩) X.ss.length uc) rfl).1
    have z0:=Qc.zAB QO.out (zAA (HBX.out _ tq.bel).1 0 (x:=.int .i64 r.cl) rfl).1
    have z1:=Qc.zAB QO.out (zAA (HBX.out _ tq.bel).1 1 (x:=.int .i64 r.st) rfl).1
    obtain ⟨gs',cs',es,_,_,_,hcs⟩:=OwnS.atk tq.os HSK.out
    obtain rfl:gs=gs':=by injection es with e1;injection e1 with e1;injection e1
    have s0:∀ q,(W1 q).cell? ⟨gs,j * 6,none⟩=some (.int .i64 s.c):=Qc.zAB QO.out (hcs 0 (.int .i64 s.c) rfl).1
    have s1:=Qc.zAB QO.out (hcs 1 (.int .i64 s.s) rfl).1
    clear hcs es
    clear tq
    refine Qc.zAF (W:=W1) (by kernel_rfl) (by kernel_rfl) (QI.out _ Qc.zAI) ?_
    repeat (go_big_quiet_step (fail))
    refine wpQuiet_nil ?_
    rintro _ ⟨xq,rfl⟩
    have G:Hid (Below w2.heap.size w2 (W1 xq)):=GR.out.trans ((QO.out xq).mono GR.out.size)
    clear y3 z0 z1 s0 s1 QO QI GR
    generalize W1 xq=wq at G ⊢
    go_wp2_with fail
    exact ⟨⟨j+1,by go_num,by omega,G⟩,by simp [intOf];omega⟩
   focus
    have hls:¬ s.c<r.cl:=fun h=>hjk (hlt.2 h)
    obtain rfl:j=k:=by omega
    have HSS:Hid (SsOK X.ss):=HXO.out.1.2.2.2.2.2
    have HAP1:=HAPH.out ()
    clear hlt hs hjk HAPH
    by_cases hsc:s.c=r.cl
    ·have hi:=(seen_place HSS.out HSK.out hsc).2
     have hgd:X.ss.getD j default=s:=by rw [List.getD_eq_getElem?_getD,HSK.out];rfl
     rw [hi] at HAP1
     simp only [hgd] at HAP1
     have hsc':(s.c == r.cl)=true:=by simp [hsc]
     clear hi hgd
     have HSC:Hid (s.c=r.cl):=hsc
     by_cases hst:s.s=r.st
     ·have HAP:Hid (R=(X,ansOf s)):=by show _=_;rw [HAP1,if_pos hst.symm]
      have hst':(s.s == r.st)=true:=by simp [hst]
      clear HAP1 hsc hst
      go_upto_region 3 with fail
      obtain ⟨X1,hX1,W1,QI0,QO0⟩:=Qc.zAZ wr
      have QI:Hid (∀ w',Below wr.heap.size wr w'→∃ x,w'=W1 x):=QI0
      have QO:Hid (∀ x,Below wr.heap.size wr (W1 x)):=QO0
      clear QI0 QO0
      have tq:=HX.out _ GR.out
      have y3:=Qc.zAB QO.out (zAA tq.hx 3 (x:=.slice (some ⟨gs,0,none⟩) X.ss.length uc) rfl).1
      have z0:=Qc.zAB QO.out (zAA (HBX.out _ tq.bel).1 0 (x:=.int .i64 r.cl) rfl).1
      have z1:=Qc.zAB QO.out (zAA (HBX.out _ tq.bel).1 1 (x:=.int .i64 r.st) rfl).1
      obtain ⟨gs',cs',es,_,_,_,hcs⟩:=OwnS.atk tq.os HSK.out
      obtain rfl:gs=gs':=by injection es with e1;injection e1 with e1;injection e1
      have s0:∀ q,(W1 q).cell? ⟨gs,j * 6,none⟩=some (.int .i64 s.c):=Qc.zAB QO.out (hcs 0 (.int .i64 s.c) rfl).1
      have s1:=Qc.zAB QO.out (hcs 1 (.int .i64 s.s) rfl).1
      clear hcs es
      clear tq
      refine Qc.zAF (W:=W1) (by kernel_rfl) (by kernel_rfl) (QI.out _ Qc.zAI) ?_
      repeat (go_big_quiet_step (fail))
      refine wpQuiet_nil ?_
      rintro _ ⟨xq,rfl⟩
      have G:Hid (Below w2.heap.size w2 (W1 xq)):=GR.out.trans ((QO.out xq).mono GR.out.size)
      clear y3 z0 z1 s0 s1 QO QI GR
      generalize W1 xq=wq at G ⊢
      go_upto_region 5 with fail
      obtain ⟨X1,hX1,W1,QI0,QO0⟩:=Qc.zAZ wq
      have QI:Hid (∀ w',Below wq.heap.size wq w'→∃ x,w'=W1 x):=QI0
      have QO:Hid (∀ x,Below wq.heap.size wq (W1 x)):=QO0
      clear QI0 QO0
      have tq:=HX.out _ G.out
      have y3:=Qc.zAB QO.out (zAA tq.hx 3 (x:=.slice (some ⟨gs,0,none⟩) X.ss.length uc) rfl).1
      have z0:=Qc.zAB QO.out (zAA (HBX.out _ tq.bel).1 0 (x:=.int .i64 r.cl) rfl).1
      have z1:=Qc.zAB QO.out (zAA (HBX.out _ tq.bel).1 1 (x:=.int .i64 r.st) rfl).1
      obtain ⟨gs',cs',es,_,_,_,hcs⟩:=OwnS.atk tq.os HSK.out
      obtain rfl:gs=gs':=by injection es with e1;injection e1 with e1;injection e1
      have s0:∀ q,(W1 q).cell? ⟨gs,j * 6,none⟩=some (.int .i64 s.c):=Qc.zAB QO.out (hcs 0 (.int .i64 s.c) rfl).1
      have s1:=Qc.zAB QO.out (hcs 1 (.int .i64 s.s) rfl).1
      clear hcs es
      clear tq
      refine Qc.zAF (W:=W1) (by kernel_rfl) (by kernel_rfl) (QI.out _ Qc.zAI) ?_
      repeat (go_big_quiet_step (fail))
      refine wpQuiet_nil ?_
      rintro _ ⟨xq,rfl⟩
      have G3:Hid (Below w2.heap.size w2 (W1 xq)):=G.out.trans ((QO.out xq).mono G.out.size)
      clear y3 z0 z1 s0 s1 QO QI G
      generalize W1 xq=wr3 at G3 ⊢
      go_upto_region 6 with fail
      obtain ⟨X1,hX1,W1,QI0,QO0⟩:=Qc.zAZ wr3
      have QI:Hid (∀ w',Below wr3.heap.size wr3 w'→∃ x,w'=W1 x):=QI0
      have QO:Hid (∀ x,Below wr3.heap.size wr3 (W1 x)):=QO0
      clear QI0 QO0
      have tq:=HX.out _ G3.out
      have y3:=Qc.zAB QO.out (zAA tq.hx 3 (x:=.slice (some ⟨gs,0,none⟩) X.ss.length uc) rfl).1
      have z0:=Qc.zAB QO.out (zAA (HBX.out _ tq.bel).1 0 (x:=.int .i64 r.cl) rfl).1
      have z1:=Qc.zAB QO.out (zAA (HBX.out _ tq.bel).1 1 (x:=.int .i64 r.st) rfl).1
      obtain ⟨gs',cs',es,_,_,_,hcs⟩:=OwnS.atk tq.os HSK.out
      obtain rfl:gs=gs':=by injection es with e1;injection e1 with e1;injection e1
      have s0:∀ q,(W1 q).cell? ⟨gs,j * 6,none⟩=some (.int .i64 s.c):=Qc.zAB QO.out (hcs 0 (.int .i64 s.c) rfl).1
      have s1:=Qc.zAB QO.out (hcs 1 (.int .i64 s.s) rfl).1
      clear hcs es
      clear tq
      refine Qc.zAF (W:=W1) (by kernel_rfl) (by kernel_rfl) (QI.out _ Qc.zAI) ?_
      repeat (go_big_quiet_step (fail))
      refine wpQuiet_nil ?_
      rintro _ ⟨xq,rfl⟩
      have G4:Hid (Below w2.heap.size w2 (W1 xq)):=G3.out.trans ((QO.out xq).mono G3.out.size)
      clear y3 z0 z1 s0 s1 QO QI G3
      generalize W1 xq=wr4 at G4 ⊢
      have HTF:Hid (TM wA wr4 wA.heap.size b X (.slice la ps.length lc) (.slice (some ⟨gs,0,none⟩) X.ss.length uc) ps):=HX.out _ G4.out
      have HS7:Hid (∀ W:World,(∀ i,wA.heap.size≤i→W.heap[i]?=wr4.heap[i]?)→(W.cell? ⟨b,0,none⟩=some (.int .i64 X.tm)∧W.cell? ⟨b,1,none⟩=some (.int .i64 X.nx)∧W.cell? ⟨b,2,none⟩=some (.slice la ps.length lc)∧W.cell? ⟨b,3,none⟩=some (.slice (some ⟨gs,0,none⟩) X.ss.length uc))∧W.cell? ⟨gs,j * 6+2,none⟩=some (.int .i64 s.k)∧W.cell? ⟨gs,j * 6+3,none⟩=some (.int .i64 s.t)∧W.cell? ⟨gs,j * 6+4,none⟩=some (.int .i64 s.h)∧W.cell? ⟨gs,j * 6+5,none⟩=some (.int .i64 s.e)):=fun W hW=>by
       have e1:=(hW b hbA).trans HTF.out.hx
       obtain ⟨g',c',e,_,_,⟨cl,hcl⟩,hc⟩:=OwnS.atk HTF.out.os HSK.out
       obtain rfl:gs=g':=by injection e with e1;injection e1 with e1;injection e1
       have e2:=fun i u hi=>(hc i u hi).1
       simp only [Joins.cell_of_block hcl] at e2
       have e3:=(hW gs hgB).trans hcl
       refine ⟨⟨(zAA e1 0 rfl).1,(zAA e1 1 rfl).1,(zAA e1 2 rfl).1,(zAA e1 3 rfl).1⟩,?_,?_,?_,?_⟩
       ·rw [Joins.cell_of_block e3];exact e2 2 _ rfl
       ·rw [Joins.cell_of_block e3];exact e2 3 _ rfl
       ·rw [Joins.cell_of_block e3];exact e2 4 _ rfl
       ·rw [Joins.cell_of_block e3];exact e2 5 _ rfl
      go_upto_region 7 with fail
      have hbx:=HBX.out _ HTF.out.bel
      obtain ⟨zt0,ft0⟩:=zAA hbx.2.1 0 (x:=.int .i64 0) rfl
      obtain ⟨zt1,ft1⟩:=zAA hbx.2.1 1 (x:=.int .i64 0) rfl
      obtain ⟨zt2,ft2⟩:=zAA hbx.2.1 2 (x:=.slice none 0 0) rfl
      obtain ⟨zt3,ft3⟩:=zAA hbx.2.1 3 (x:=.slice none 0 0) rfl
      obtain ⟨za0,fa0⟩:=zAA hbx.2.2.1 0 (x:=.int .i64 0) rfl
      obtain ⟨za1,fa1⟩:=zAA hbx.2.2.1 1 (x:=.int .i64 0) rfl
      obtain ⟨za2,fa2⟩:=zAA hbx.2.2.1 2 (x:=.int .i64 0) rfl
      obtain ⟨za3,fa3⟩:=zAA hbx.2.2.1 3 (x:=.int .i64 0) rfl
      clear hbx
      refine wp_region_noPanic ?_
      refine zAm 8 (S:=fun W=>(W.cell? ⟨b,0,none⟩=some (.int .i64 X.tm)∧W.cell? ⟨b,1,none⟩=some (.int .i64 X.nx)∧W.cell? ⟨b,2,none⟩=some (.slice la ps.length lc)∧W.cell? ⟨b,3,none⟩=some (.slice (some ⟨gs,0,none⟩) X.ss.length uc))∧W.cell? ⟨gs,j * 6+2,none⟩=some (.int .i64 s.k)∧W.cell? ⟨gs,j * 6+3,none⟩=some (.int .i64 s.t)∧W.cell? ⟨gs,j * 6+4,none⟩=some (.int .i64 s.h)∧W.cell? ⟨gs,j * 6+5,none⟩=some (.int .i64 s.e)) (by kernel_rfl) (HS7.out _ (fun _ _=>rfl)) (fun hHeld=>?_)
      refine tz 0 ⟨some 63,.load 30 (.tmp 8),30,"l05_locks.go:193",#[],none⟩ ?_ ?_ hHeld ?_
      rotate_left
      ·rintro wz ⟨⟨y0,y1,y2,y3⟩,y4,y5,y6,y7⟩;go_simp;try (with_reducible rfl)
      simp only [Act.put,sA,sB,sC]
      refine tz 1 ⟨some 64,.fieldAddr 30 (.tmp 8) 3,0,"l05_locks.go:193",#[⟨7,.gcOnly .lateStores⟩],none⟩ ?_ ?_ hHeld ?_
      rotate_left
      ·rintro wz ⟨⟨y0,y1,y2,y3⟩,y4,y5,y6,y7⟩;go_simp;try (with_reducible rfl)
      simp only [Act.put,sA,sB,sC]
      refine tz 2 ⟨some 65,.load 28 (.tmp 64),28,"l05_locks.go:193",#[⟨1,.data⟩,⟨7,.gcOnly .lateStores⟩],none⟩ ?_ ?_ hHeld ?_
      rotate_left
      ·rintro wz ⟨⟨y0,y1,y2,y3⟩,y4,y5,y6,y7⟩;go_simp;try (with_reducible rfl)
      simp only [Act.put,sA,sB,sC]
      refine tz 3 ⟨some 66,.move (.tmp 9),3,"l05_locks.go:193",#[⟨7,.gcOnly .lateStores⟩],none⟩ ?_ ?_ hHeld ?_
      rotate_left
      ·rintro wz ⟨⟨y0,y1,y2,y3⟩,y4,y5,y6,y7⟩;go_simp;try (with_reducible rfl)
      simp only [Act.put,sA,sB,sC]
      refine tz 4 ⟨some 67,.indexAddr 28 (.tmp 65) (.tmp 66),0,"l05_locks.go:193",#[⟨2,.data⟩,⟨3,.data⟩,⟨7,.gcOnly .lateStores⟩],none⟩ ?_ ?_ hHeld ?_
      rotate_left
      ·rintro wz ⟨⟨y0,y1,y2,y3⟩,y4,y5,y6,y7⟩;go_simp;try (with_reducible rfl)
      simp only [Act.put,sA,sB,sC]
      refine tz 5 ⟨some 68,.fieldAddr 116 (.tmp 67) 2,0,"l05_locks.go:193",#[⟨4,.data⟩,⟨7,.gcOnly .lateStores⟩],none⟩ ?_ ?_ hHeld ?_
      rotate_left
      ·rintro wz ⟨⟨y0,y1,y2,y3⟩,y4,y5,y6,y7⟩;go_simp;try (with_reducible rfl)
      simp only [Act.put,sA,sB,sC]
      refine tz 6 ⟨some 69,.load 38 (.tmp 68),38,"l05_locks.go:193",#[⟨5,.data⟩,⟨7,.gcOnly .lateStores⟩],none⟩ ?_ ?_ hHeld ?_
      rotate_left
      ·rintro wz ⟨⟨y0,y1,y2,y3⟩,y4,y5,y6,y7⟩;go_simp;try (with_reducible rfl)
      simp only [Act.put,sA,sB,sC]
      refine zAN (rs:=[7]) (by kernel_rfl) (by simp) ?_
      refine (ReadyZ.cons (o:=⟨none,.store 30 (.tmp 6) (.tmp 63),0,"l05_locks.go:193",#[⟨0,.data⟩,⟨0,.phase⟩,⟨1,.textOnly .lateStores⟩,⟨2,.textOnly .lateStores⟩,⟨3,.textOnly .lateStores⟩,⟨4,.textOnly .lateStores⟩,⟨5,.textOnly .lateStores⟩,⟨6,.textOnly .lateStores⟩],none⟩) rfl (fun K hK=>?_) ReadyZ.nil)
      go_simp
      refine hK.out _ _ ?_ (fun hHeld=>?_)
      ·exact HS7.out _ (fun i hi=>far4 (w:=wr4.drew) (by omega) _ _ _ _)
      clear hK K
      (try simp only [Act.put,sA,sB,sC])
      refine zAN (rs:=[8]) (by kernel_rfl) (by simp) ?_
      refine ReadyZ.last (o:=⟨none,.store 38 (.tmp 7) (.tmp 69),0,"l05_locks.go:193",#[⟨6,.data⟩,⟨7,.chain⟩,⟨0,.phase⟩,⟨1,.phase⟩,⟨2,.phase⟩,⟨3,.phase⟩,⟨4,.phase⟩,⟨5,.phase⟩,⟨6,.phase⟩,⟨7,.phase⟩],none⟩) rfl (fun K hK=>?_)
      go_simp
      refine hK.out _ _ ?_
      clear hK K
      (try simp only [Act.put,sA,sB,sC])
      refine zBa (by kernel_rfl) ?_ _
      refine NoPanic.normal ?_
      clear hHeld HS7
      go_wp2_with fail
      have S44:=(set44 (w:=wr4) (a:=w.heap.size+1+1) (b:=w.heap.size+1+1+1) (.int .i64 0) (.int .i64 0) (.slice none 0 0) (.slice none 0 0) (.int .i64 0) (.int .i64 0) (.int .i64 0) (.int .i64 0) (.int .i64 X.tm) (.int .i64 X.nx) ((.slice la ps.length lc)) ((.slice (some ⟨gs,0,none⟩) X.ss.length uc)) (.int .i64 s.k) (.int .i64 s.t) (.int .i64 s.h) (.int .i64 s.e) (by omega) (HBX.out _ (HTF.out.bel)).2.1 (HBX.out _ (HTF.out.bel)).2.2.1).1
      obtain ⟨AF,BF,FF,LF⟩:=S44
      have KF:Hid (OwnL ((((((((wr4.setCell ⟨w.heap.size+1+1,0,none⟩ (.int .i64 X.tm)).setCell ⟨w.heap.size+1+1,1,none⟩ (.int .i64 X.nx)).setCell ⟨w.heap.size+1+1,2,none⟩ ((.slice la ps.length lc))).setCell ⟨w.heap.size+1+1,3,none⟩ ((.slice (some ⟨gs,0,none⟩) X.ss.length uc))).setCell ⟨w.heap.size+1+1+1,0,none⟩ (.int .i64 s.k)).setCell ⟨w.heap.size+1+1+1,1,none⟩ (.int .i64 s.t)).setCell ⟨w.heap.size+1+1+1,2,none⟩ (.int .i64 s.h)).setCell ⟨w.heap.size+1+1+1,3,none⟩ (.int .i64 s.e)) w.heap.size (.slice la ps.length lc) ps∧(∀ p ∈ ps,Wa.OwnW ((((((((wr4.setCell ⟨w.heap.size+1+1,0,none⟩ (.int .i64 X.tm)).setCell ⟨w.heap.size+1+1,1,none⟩ (.int .i64 X.nx)).setCell ⟨w.heap.size+1+1,2,none⟩ ((.slice la ps.length lc))).setCell ⟨w.heap.size+1+1,3,none⟩ ((.slice (some ⟨gs,0,none⟩) X.ss.length uc))).setCell ⟨w.heap.size+1+1+1,0,none⟩ (.int .i64 s.k)).setCell ⟨w.heap.size+1+1+1,1,none⟩ (.int .i64 s.t)).setCell ⟨w.heap.size+1+1+1,2,none⟩ (.int .i64 s.h)).setCell ⟨w.heap.size+1+1+1,3,none⟩ (.int .i64 s.e)) w.heap.size (uV p) p.1.ws)∧Wa.OwnS ((((((((wr4.setCell ⟨w.heap.size+1+1,0,none⟩ (.int .i64 X.tm)).setCell ⟨w.heap.size+1+1,1,none⟩ (.int .i64 X.nx)).setCell ⟨w.heap.size+1+1,2,none⟩ ((.slice la ps.length lc))).setCell ⟨w.heap.size+1+1,3,none⟩ ((.slice (some ⟨gs,0,none⟩) X.ss.length uc))).setCell ⟨w.heap.size+1+1+1,0,none⟩ (.int .i64 s.k)).setCell ⟨w.heap.size+1+1+1,1,none⟩ (.int .i64 s.t)).setCell ⟨w.heap.size+1+1+1,2,none⟩ (.int .i64 s.h)).setCell ⟨w.heap.size+1+1+1,3,none⟩ (.int .i64 s.e)) w.heap.size (.slice (some ⟨gs,0,none⟩) X.ss.length uc) X.ss∧ps.map (·.1)=X.ls∧Apart ps):=TM.fin HTF.out (by omega) (fun j hj=>FF j (by omega) (by omega))
      have LFH:Hid (Below w.heap.size w ((((((((wr4.setCell ⟨w.heap.size+1+1,0,none⟩ (.int .i64 X.tm)).setCell ⟨w.heap.size+1+1,1,none⟩ (.int .i64 X.nx)).setCell ⟨w.heap.size+1+1,2,none⟩ ((.slice la ps.length lc))).setCell ⟨w.heap.size+1+1,3,none⟩ ((.slice (some ⟨gs,0,none⟩) X.ss.length uc))).setCell ⟨w.heap.size+1+1+1,0,none⟩ (.int .i64 s.k)).setCell ⟨w.heap.size+1+1+1,1,none⟩ (.int .i64 s.t)).setCell ⟨w.heap.size+1+1+1,2,none⟩ (.int .i64 s.h)).setCell ⟨w.heap.size+1+1+1,3,none⟩ (.int .i64 s.e))):=LF (HBX.out _ (HTF.out.bel)).2.2.2 (by omega) (by omega)
      generalize ((((((((wr4.setCell ⟨w.heap.size+1+1,0,none⟩ (.int .i64 X.tm)).setCell ⟨w.heap.size+1+1,1,none⟩ (.int .i64 X.nx)).setCell ⟨w.heap.size+1+1,2,none⟩ ((.slice la ps.length lc))).setCell ⟨w.heap.size+1+1,3,none⟩ ((.slice (some ⟨gs,0,none⟩) X.ss.length uc))).setCell ⟨w.heap.size+1+1+1,0,none⟩ (.int .i64 s.k)).setCell ⟨w.heap.size+1+1+1,1,none⟩ (.int .i64 s.t)).setCell ⟨w.heap.size+1+1+1,2,none⟩ (.int .i64 s.h)).setCell ⟨w.heap.size+1+1+1,3,none⟩ (.int .i64 s.e))=wf at AF BF KF LFH ⊢
      have d0:=(zAA AF 0 (x:=.int .i64 X.tm) rfl).1
      have d1:=(zAA AF 1 (x:=.int .i64 X.nx) rfl).1
      have d2:=(zAA AF 2 (x:=(.slice la ps.length lc)) rfl).1
      have d3:=(zAA AF 3 (x:=(.slice (some ⟨gs,0,none⟩) X.ss.length uc)) rfl).1
      have e0:=(zAA BF 0 (x:=.int .i64 s.k) rfl).1
      have e1:=(zAA BF 1 (x:=.int .i64 s.t) rfl).1
      have e2:=(zAA BF 2 (x:=.int .i64 s.h) rfl).1
      have e3:=(zAA BF 3 (x:=.int .i64 s.e) rfl).1
      refine bodyPost_ret (v:=.tuple #[.agg #[.int .i64 X.tm,.int .i64 X.nx,(.slice la ps.length lc),(.slice (some ⟨gs,0,none⟩) X.ss.length uc)],.agg #[.int .i64 s.k,.int .i64 s.t,.int .i64 s.h,.int .i64 s.e]]) (by simp [results,Tryz.results57,go_sem,d0,d1,d2,d3,e0,e1,e2,e3]) rfl ?_
      refine ⟨⟨(.slice la ps.length lc),(.slice (some ⟨gs,0,none⟩) X.ss.length uc),ps,?_,KF.out.1,KF.out.2.1,?_,?_,KF.out.2.2.2.2⟩,(by first | exact LFH.out | exact LFH.out.drew)⟩
      ·rw [HAP.out];rfl
      ·rw [HAP.out];exact KF.out.2.2.1
      ·rw [HAP.out];exact KF.out.2.2.2.1
     ·rw [if_neg (fun e=>hst e.symm)] at HAP1
      have hst':(s.s == r.st)=false:=by simp [hst]
      by_cases hgt:r.st<s.s
      ·have HAP:Hid (R=(X,bare 7)):=by show _=_;rw [HAP1,if_pos hgt]
       have hgt':s.s > r.st:=hgt
       clear HAP1 hsc hst hgt
       go_upto_region 3 with fail
       obtain ⟨X1,hX1,W1,QI0,QO0⟩:=Qc.zAZ wr
       have QI:Hid (∀ w',Below wr.heap.size wr w'→∃ x,w'=W1 x):=QI0
       have QO:Hid (∀ x,Below wr.heap.size wr (W1 x)):=QO0
       clear QI0 QO0
       have tq:=HX.out _ GR.out
       have y3:=Qc.zAB QO.out (zAA tq.hx 3 (x:=.slice (some ⟨gs,0,none⟩) X.ss.length uc) rfl).1
       have z0:=Qc.zAB QO.out (zAA (HBX.out _ tq.bel).1 0 (x:=.int .i64 r.cl) rfl).1
       have z1:=Qc.zAB QO.out (zAA (HBX.out _ tq.bel).1 1 (x:=.int .i64 r.st) rfl).1
       obtain ⟨gs',cs',es,_,_,_,hcs⟩:=OwnS.atk tq.os HSK.out
       obtain rfl:gs=gs':=by injection es with e1;injection e1 with e1;injection e1
       have s0:∀ q,(W1 q).cell? ⟨gs,j * 6,none⟩=some (.int .i64 s.c):=Qc.zAB QO.out (hcs 0 (.int .i64 s.c) rfl).1
       have s1:=Qc.zAB QO.out (hcs 1 (.int .i64 s.s) rfl).1
       clear hcs es
       clear tq
       refine Qc.zAF (W:=W1) (by kernel_rfl) (by kernel_rfl) (QI.out _ Qc.zAI) ?_
       repeat (go_big_quiet_step (fail))
       refine wpQuiet_nil ?_
       rintro _ ⟨xq,rfl⟩
       have G:Hid (Below w2.heap.size w2 (W1 xq)):=GR.out.trans ((QO.out xq).mono GR.out.size)
       clear y3 z0 z1 s0 s1 QO QI GR
       generalize W1 xq=wq at G ⊢
       go_upto_region 5 with fail
       obtain ⟨X1,hX1,W1,QI0,QO0⟩:=Qc.zAZ wq
       have QI:Hid (∀ w',Below wq.heap.size wq w'→∃ x,w'=W1 x):=QI0
       have QO:Hid (∀ x,Below wq.heap.size wq (W1 x)):=QO0
       clear QI0 QO0
       have tq:=HX.out _ G.out
       have y3:=Qc.zAB QO.out (zAA tq.hx 3 (x:=.slice (some ⟨gs,0,none⟩) X.ss.length uc) rfl).1
       have z0:=Qc.zAB QO.out (zAA (HBX.out _ tq.bel).1 0 (x:=.int .i64 r.cl) rfl).1
       have z1:=Qc.zAB QO.out (zAA (HBX.out _ tq.bel).1 1 (x:=.int .i64 r.st) rfl).1
       obtain ⟨gs',cs',es,_,_,_,hcs⟩:=OwnS.atk tq.os HSK.out
       obtain rfl:gs=gs':=by injection es with e1;injection e1 with e1;injection e1
       have s0:∀ q,(W1 q).cell? ⟨gs,j * 6,none⟩=some (.int .i64 s.c):=Qc.zAB QO.out (hcs 0 (.int .i64 s.c) rfl).1
       have s1:=Qc.zAB QO.out (hcs 1 (.int .i64 s.s) rfl).1
       clear hcs es
       clear tq
       refine Qc.zAF (W:=W1) (by kernel_rfl) (by kernel_rfl) (QI.out _ Qc.zAI) ?_
       repeat (go_big_quiet_step (fail))
       refine wpQuiet_nil ?_
       rintro _ ⟨xq,rfl⟩
       have G3:Hid (Below w2.heap.size w2 (W1 xq)):=G.out.trans ((QO.out xq).mono G.out.size)
       clear y3 z0 z1 s0 s1 QO QI G
       generalize W1 xq=wr3 at G3 ⊢
       go_upto_region 6 with fail
       obtain ⟨X1,hX1,W1,QI0,QO0⟩:=Qc.zAZ wr3
       have QI:Hid (∀ w',Below wr3.heap.size wr3 w'→∃ x,w'=W1 x):=QI0
       have QO:Hid (∀ x,Below wr3.heap.size wr3 (W1 x)):=QO0
       clear QI0 QO0
       have tq:=HX.out _ G3.out
       have y3:=Qc.zAB QO.out (zAA tq.hx 3 (x:=.slice (some ⟨gs,0,none⟩) X.ss.length uc) rfl).1
       have z0:=Qc.zAB QO.out (zAA (HBX.out _ tq.bel).1 0 (x:=.int .i64 r.cl) rfl).1
       have z1:=Qc.zAB QO.out (zAA (HBX.out _ tq.bel).1 1 (x:=.int .i64 r.st) rfl).1
       obtain ⟨gs',cs',es,_,_,_,hcs⟩:=OwnS.atk tq.os HSK.out
       obtain rfl:gs=gs':=by injection es with e1;injection e1 with e1;injection e1
       have s0:∀ q,(W1 q).cell? ⟨gs,j * 6,none⟩=some (.int .i64 s.c):=Qc.zAB QO.out (hcs 0 (.int .i64 s.c) rfl).1
       have s1:=Qc.zAB QO.out (hcs 1 (.int .i64 s.s) rfl).1
       clear hcs es
       clear tq
       refine Qc.zAF (W:=W1) (by kernel_rfl) (by kernel_rfl) (QI.out _ Qc.zAI) ?_
       repeat (go_big_quiet_step (fail))
       refine wpQuiet_nil ?_
       rintro _ ⟨xq,rfl⟩
       have G5:Hid (Below w2.heap.size w2 (W1 xq)):=G3.out.trans ((QO.out xq).mono G3.out.size)
       clear y3 z0 z1 s0 s1 QO QI G3
       generalize W1 xq=wr5 at G5 ⊢
       go_upto_region 8 with fail
       obtain ⟨X1,hX1,W1,QI0,QO0⟩:=Qc.zAZ wr5
       have QI:Hid (∀ w',Below wr5.heap.size wr5 w'→∃ x,w'=W1 x):=QI0
       have QO:Hid (∀ x,Below wr5.heap.size wr5 (W1 x)):=QO0
       clear QI0 QO0
       have tq:=HX.out _ G5.out
       have y3:=Qc.zAB QO.out (zAA tq.hx 3 (x:=.slice (some ⟨gs,0,none⟩) X.ss.length uc) rfl).1
       have z0:=Qc.zAB QO.out (zAA (HBX.out _ tq.bel).1 0 (x:=.int .i64 r.cl) rfl).1
       have z1:=Qc.zAB QO.out (zAA (HBX.out _ tq.bel).1 1 (x:=.int .i64 r.st) rfl).1
       obtain ⟨gs',cs',es,_,_,_,hcs⟩:=OwnS.atk tq.os HSK.out
       obtain rfl:gs=gs':=by injection es with e1;injection e1 with e1;injection e1
       have s0:∀ q,(W1 q).cell? ⟨gs,j * 6,none⟩=some (.int .i64 s.c):=Qc.zAB QO.out (hcs 0 (.int .i64 s.c) rfl).1
       have s1:=Qc.zAB QO.out (hcs 1 (.int .i64 s.s) rfl).1
       clear hcs es
       clear tq
       refine Qc.zAF (W:=W1) (by kernel_rfl) (by kernel_rfl) (QI.out _ Qc.zAI) ?_
       repeat (go_big_quiet_step (fail))
       refine wpQuiet_nil ?_
       rintro _ ⟨xq,rfl⟩
       have G6:Hid (Below w2.heap.size w2 (W1 xq)):=G5.out.trans ((QO.out xq).mono G5.out.size)
       clear y3 z0 z1 s0 s1 QO QI G5
       generalize W1 xq=wr6 at G6 ⊢
       go_upto_region 9 with fail
       have HTF:Hid (TM wA wr6 wA.heap.size b X (.slice la ps.length lc) (.slice (some ⟨gs,0,none⟩) X.ss.length uc) ps):=HX.out _ G6.out
       have c0:=(zAA HTF.out.hx 0 (x:=.int .i64 X.tm) rfl).1
       have c1:=(zAA HTF.out.hx 1 (x:=.int .i64 X.nx) rfl).1
       have c2:=(zAA HTF.out.hx 2 (x:=.slice la ps.length lc) rfl).1
       have c3:=(zAA HTF.out.hx 3 (x:=.slice (some ⟨gs,0,none⟩) X.ss.length uc) rfl).1
       have hbx:=HBX.out _ HTF.out.bel
       obtain ⟨zt0,ft0⟩:=zAA hbx.2.1 0 (x:=.int .i64 0) rfl
       obtain ⟨zt1,ft1⟩:=zAA hbx.2.1 1 (x:=.int .i64 0) rfl
       obtain ⟨zt2,ft2⟩:=zAA hbx.2.1 2 (x:=.slice none 0 0) rfl
       obtain ⟨zt3,ft3⟩:=zAA hbx.2.1 3 (x:=.slice none 0 0) rfl
       obtain ⟨za0,fa0⟩:=zAA hbx.2.2.1 0 (x:=.int .i64 0) rfl
       obtain ⟨za1,fa1⟩:=zAA hbx.2.2.1 1 (x:=.int .i64 0) rfl
       obtain ⟨za2,fa2⟩:=zAA hbx.2.2.1 2 (x:=.int .i64 0) rfl
       obtain ⟨za3,fa3⟩:=zAA hbx.2.2.1 3 (x:=.int .i64 0) rfl
       clear hbx
       go_wp2_with fail
       have S44:=(set44 (w:=wr6) (a:=w.heap.size+1+1) (b:=w.heap.size+1+1+1) (.int .i64 0) (.int .i64 0) (.slice none 0 0) (.slice none 0 0) (.int .i64 0) (.int .i64 0) (.int .i64 0) (.int .i64 0) (.int .i64 X.tm) (.int .i64 X.nx) ((.slice la ps.length lc)) ((.slice (some ⟨gs,0,none⟩) X.ss.length uc)) (.int .i64 7) (.int .i64 0) (.int .i64 (-1)) (.int .i64 0) (by omega) (HBX.out _ (HTF.out.bel)).2.1 (HBX.out _ (HTF.out.bel)).2.2.1).1
       obtain ⟨AF,BF,FF,LF⟩:=S44
       have KF:Hid (OwnL ((((((((wr6.setCell ⟨w.heap.size+1+1,0,none⟩ (.int .i64 X.tm)).setCell ⟨w.heap.size+1+1,1,none⟩ (.int .i64 X.nx)).setCell ⟨w.heap.size+1+1,2,none⟩ ((.slice la ps.length lc))).setCell ⟨w.heap.size+1+1,3,none⟩ ((.slice (some ⟨gs,0,none⟩) X.ss.length uc))).setCell ⟨w.heap.size+1+1+1,0,none⟩ (.int .i64 7)).setCell ⟨w.heap.size+1+1+1,1,none⟩ (.int .i64 0)).setCell ⟨w.heap.size+1+1+1,2,none⟩ (.int .i64 (-1))).setCell ⟨w.heap.size+1+1+1,3,none⟩ (.int .i64 0)) w.heap.size (.slice la ps.length lc) ps∧(∀ p ∈ ps,Wa.OwnW ((((((((wr6.setCell ⟨w.heap.size+1+1,0,none⟩ (.int .i64 X.tm)).setCell ⟨w.heap.size+1+1,1,none⟩ (.int .i64 X.nx)).setCell ⟨w.heap.size+1+1,2,none⟩ ((.slice la ps.length lc))).setCell ⟨w.heap.size+1+1,3,none⟩ ((.slice (some ⟨gs,0,none⟩) X.ss.length uc))).setCell ⟨w.heap.size+1+1+1,0,none⟩ (.int .i64 7)).setCell ⟨w.heap.size+1+1+1,1,none⟩ (.int .i64 0)).setCell ⟨w.heap.size+1+1+1,2,none⟩ (.int .i64 (-1))).setCell ⟨w.heap.size+1+1+1,3,none⟩ (.int .i64 0)) w.heap.size (uV p) p.1.ws)∧Wa.OwnS ((((((((wr6.setCell ⟨w.heap.size+1+1,0,none⟩ (.int .i64 X.tm)).setCell ⟨w.heap.size+1+1,1,none⟩ (.int .i64 X.nx)).setCell ⟨w.heap.size+1+1,2,none⟩ ((.slice la ps.length lc))).setCell ⟨w.heap.size+1+1,3,none⟩ ((.slice (some ⟨gs,0,none⟩) X.ss.length uc))).setCell ⟨w.heap.size+1+1+1,0,none⟩ (.int .i64 7)).setCell ⟨w.heap.size+1+1+1,1,none⟩ (.int .i64 0)).setCell ⟨w.heap.size+1+1+1,2,none⟩ (.int .i64 (-1))).setCell ⟨w.heap.size+1+1+1,3,none⟩ (.int .i64 0)) w.heap.size (.slice (some ⟨gs,0,none⟩) X.ss.length uc) X.ss∧ps.map (·.1)=X.ls∧Apart ps):=TM.fin HTF.out (by omega) (fun j hj=>FF j (by omega) (by omega))
       have LFH:Hid (Below w.heap.size w ((((((((wr6.setCell ⟨w.heap.size+1+1,0,none⟩ (.int .i64 X.tm)).setCell ⟨w.heap.size+1+1,1,none⟩ (.int .i64 X.nx)).setCell ⟨w.heap.size+1+1,2,none⟩ ((.slice la ps.length lc))).setCell ⟨w.heap.size+1+1,3,none⟩ ((.slice (some ⟨gs,0,none⟩) X.ss.length uc))).setCell ⟨w.heap.size+1+1+1,0,none⟩ (.int .i64 7)).setCell ⟨w.heap.size+1+1+1,1,none⟩ (.int .i64 0)).setCell ⟨w.heap.size+1+1+1,2,none⟩ (.int .i64 (-1))).setCell ⟨w.heap.size+1+1+1,3,none⟩ (.int .i64 0))):=LF (HBX.out _ (HTF.out.bel)).2.2.2 (by omega) (by omega)
       generalize ((((((((wr6.setCell ⟨w.heap.size+1+1,0,none⟩ (.int .i64 X.tm)).setCell ⟨w.heap.size+1+1,1,none⟩ (.int .i64 X.nx)).setCell ⟨w.heap.size+1+1,2,none⟩ ((.slice la ps.length lc))).setCell ⟨w.heap.size+1+1,3,none⟩ ((.slice (some ⟨gs,0,none⟩) X.ss.length uc))).setCell ⟨w.heap.size+1+1+1,0,none⟩ (.int .i64 7)).setCell ⟨w.heap.size+1+1+1,1,none⟩ (.int .i64 0)).setCell ⟨w.heap.size+1+1+1,2,none⟩ (.int .i64 (-1))).setCell ⟨w.heap.size+1+1+1,3,none⟩ (.int .i64 0))=wf at AF BF KF LFH ⊢
       have d0:=(zAA AF 0 (x:=.int .i64 X.tm) rfl).1
       have d1:=(zAA AF 1 (x:=.int .i64 X.nx) rfl).1
       have d2:=(zAA AF 2 (x:=(.slice la ps.length lc)) rfl).1
       have d3:=(zAA AF 3 (x:=(.slice (some ⟨gs,0,none⟩) X.ss.length uc)) rfl).1
       have e0:=(zAA BF 0 (x:=.int .i64 7) rfl).1
       have e1:=(zAA BF 1 (x:=.int .i64 0) rfl).1
       have e2:=(zAA BF 2 (x:=.int .i64 (-1)) rfl).1
       have e3:=(zAA BF 3 (x:=.int .i64 0) rfl).1
       refine bodyPost_ret (v:=.tuple #[.agg #[.int .i64 X.tm,.int .i64 X.nx,(.slice la ps.length lc),(.slice (some ⟨gs,0,none⟩) X.ss.length uc)],.agg #[.int .i64 7,.int .i64 0,.int .i64 (-1),.int .i64 0]]) (by simp [results,Tryz.results57,go_sem,d0,d1,d2,d3,e0,e1,e2,e3]) rfl ?_
       refine ⟨⟨(.slice la ps.length lc),(.slice (some ⟨gs,0,none⟩) X.ss.length uc),ps,?_,KF.out.1,KF.out.2.1,?_,?_,KF.out.2.2.2.2⟩,(by first | exact LFH.out | exact LFH.out.drew)⟩
       ·rw [HAP.out];rfl
       ·rw [HAP.out];exact KF.out.2.2.1
       ·rw [HAP.out];exact KF.out.2.2.2.1
      ·have HAP:Hid (R=({ (doT X r).1 with ss:=X.ss.set j (sn r (doT X r).2) },(doT X r).2)):=by show _=_;rw [HAP1,if_neg hgt]
       have hgt':¬ s.s > r.st:=hgt
       clear HAP1 hsc hst hgt
       go_upto_region 3 with fail
       obtain ⟨X1,hX1,W1,QI0,QO0⟩:=Qc.zAZ wr
       have QI:Hid (∀ w',Below wr.heap.size wr w'→∃ x,w'=W1 x):=QI0
       have QO:Hid (∀ x,Below wr.heap.size wr (W1 x)):=QO0
       clear QI0 QO0
       have tq:=HX.out _ GR.out
       have y3:=Qc.zAB QO.out (zAA tq.hx 3 (x:=.slice (some ⟨gs,0,none⟩) X.ss.length uc) rfl).1
       have z0:=Qc.zAB QO.out (zAA (HBX.out _ tq.bel).1 0 (x:=.int .i64 r.cl) rfl).1
       have z1:=Qc.zAB QO.out (zAA (HBX.out _ tq.bel).1 1 (x:=.int .i64 r.st) rfl).1
       obtain ⟨gs',cs',es,_,_,_,hcs⟩:=OwnS.atk tq.os HSK.out
       obtain rfl:gs=gs':=by injection es with e1;injection e1 with e1;injection e1
       have s0:∀ q,(W1 q).cell? ⟨gs,j * 6,none⟩=some (.int .i64 s.c):=Qc.zAB QO.out (hcs 0 (.int .i64 s.c) rfl).1
       have s1:=Qc.zAB QO.out (hcs 1 (.int .i64 s.s) rfl).1
       clear hcs es
       clear tq
       refine Qc.zAF (W:=W1) (by kernel_rfl) (by kernel_rfl) (QI.out _ Qc.zAI) ?_
       repeat (go_big_quiet_step (fail))
       refine wpQuiet_nil ?_
       rintro _ ⟨xq,rfl⟩
       have G:Hid (Below w2.heap.size w2 (W1 xq)):=GR.out.trans ((QO.out xq).mono GR.out.size)
       clear y3 z0 z1 s0 s1 QO QI GR
       generalize W1 xq=wq at G ⊢
       go_upto_region 5 with fail
       obtain ⟨X1,hX1,W1,QI0,QO0⟩:=Qc.zAZ wq
       have QI:Hid (∀ w',Below wq.heap.size wq w'→∃ x,w'=W1 x):=QI0
       have QO:Hid (∀ x,Below wq.heap.size wq (W1 x)):=QO0
       clear QI0 QO0
       have tq:=HX.out _ G.out
       have y3:=Qc.zAB QO.out (zAA tq.hx 3 (x:=.slice (some ⟨gs,0,none⟩) X.ss.length uc) rfl).1
       have z0:=Qc.zAB QO.out (zAA (HBX.out _ tq.bel).1 0 (x:=.int .i64 r.cl) rfl).1
       have z1:=Qc.zAB QO.out (zAA (HBX.out _ tq.bel).1 1 (x:=.int .i64 r.st) rfl).1
       obtain ⟨gs',cs',es,_,_,_,hcs⟩:=OwnS.atk tq.os HSK.out
       obtain rfl:gs=gs':=by injection es with e1;injection e1 with e1;injection e1
       have s0:∀ q,(W1 q).cell? ⟨gs,j * 6,none⟩=some (.int .i64 s.c):=Qc.zAB QO.out (hcs 0 (.int .i64 s.c) rfl).1
       have s1:=Qc.zAB QO.out (hcs 1 (.int .i64 s.s) rfl).1
       clear hcs es
       clear tq
       refine Qc.zAF (W:=W1) (by kernel_rfl) (by kernel_rfl) (QI.out _ Qc.zAI) ?_
       repeat (go_big_quiet_step (fail))
       refine wpQuiet_nil ?_
       rintro _ ⟨xq,rfl⟩
       have G3:Hid (Below w2.heap.size w2 (W1 xq)):=G.out.trans ((QO.out xq).mono G.out.size)
       clear y3 z0 z1 s0 s1 QO QI G
       generalize W1 xq=wr3 at G3 ⊢
       go_upto_region 6 with fail
       obtain ⟨X1,hX1,W1,QI0,QO0⟩:=Qc.zAZ wr3
       have QI:Hid (∀ w',Below wr3.heap.size wr3 w'→∃ x,w'=W1 x):=QI0
       have QO:Hid (∀ x,Below wr3.heap.size wr3 (W1 x)):=QO0
       clear QI0 QO0
       have tq:=HX.out _ G3.out
       have y3:=Qc.zAB QO.out (zAA tq.hx 3 (x:=.slice (some ⟨gs,0,none⟩) X.ss.length uc) rfl).1
       have z0:=Qc.zAB QO.out (zAA (HBX.out _ tq.bel).1 0 (x:=.int .i64 r.cl) rfl).1
       have z1:=Qc.zAB QO.out (zAA (HBX.out _ tq.bel).1 1 (x:=.int .i64 r.st) rfl).1
       obtain ⟨gs',cs',es,_,_,_,hcs⟩:=OwnS.atk tq.os HSK.out
       obtain rfl:gs=gs':=by injection es with e1;injection e1 with e1;injection e1
       have s0:∀ q,(W1 q).cell? ⟨gs,j * 6,none⟩=some (.int .i64 s.c):=Qc.zAB QO.out (hcs 0 (.int .i64 s.c) rfl).1
       have s1:=Qc.zAB QO.out (hcs 1 (.int .i64 s.s) rfl).1
       clear hcs es
       clear tq
       refine Qc.zAF (W:=W1) (by kernel_rfl) (by kernel_rfl) (QI.out _ Qc.zAI) ?_
       repeat (go_big_quiet_step (fail))
       refine wpQuiet_nil ?_
       rintro _ ⟨xq,rfl⟩
       have G5:Hid (Below w2.heap.size w2 (W1 xq)):=G3.out.trans ((QO.out xq).mono G3.out.size)
       clear y3 z0 z1 s0 s1 QO QI G3
       generalize W1 xq=wr5 at G5 ⊢
       go_upto_region 8 with fail
       obtain ⟨X1,hX1,W1,QI0,QO0⟩:=Qc.zAZ wr5
       have QI:Hid (∀ w',Below wr5.heap.size wr5 w'→∃ x,w'=W1 x):=QI0
       have QO:Hid (∀ x,Below wr5.heap.size wr5 (W1 x)):=QO0
       clear QI0 QO0
       have tq:=HX.out _ G5.out
       have y3:=Qc.zAB QO.out (zAA tq.hx 3 (x:=.slice (some ⟨gs,0,none⟩) X.ss.length uc) rfl).1
       have z0:=Qc.zAB QO.out (zAA (HBX.out _ tq.bel).1 0 (x:=.int .i64 r.cl) rfl).1
       have z1:=Qc.zAB QO.out (zAA (HBX.out _ tq.bel).1 1 (x:=.int .i64 r.st) rfl).1
       obtain ⟨gs',cs',es,_,_,_,hcs⟩:=OwnS.atk tq.os HSK.out
       obtain rfl:gs=gs':=by injection es with e1;injection e1 with e1;injection e1
       have s0:∀ q,(W1 q).cell? ⟨gs,j * 6,none⟩=some (.int .i64 s.c):=Qc.zAB QO.out (hcs 0 (.int .i64 s.c) rfl).1
       have s1:=Qc.zAB QO.out (hcs 1 (.int .i64 s.s) rfl).1
       clear hcs es
       clear tq
       refine Qc.zAF (W:=W1) (by kernel_rfl) (by kernel_rfl) (QI.out _ Qc.zAI) ?_
       repeat (go_big_quiet_step (fail))
       refine wpQuiet_nil ?_
       rintro _ ⟨xq,rfl⟩
       have G6:Hid (Below w2.heap.size w2 (W1 xq)):=G5.out.trans ((QO.out xq).mono G5.out.size)
       clear y3 z0 z1 s0 s1 QO QI G5
       generalize W1 xq=wr6 at G6 ⊢
       go_upto_region 10 with fail
       go_upto_region 12 with fail
       obtain ⟨D,HD⟩ : ∃ D,Hid (doT X r=D):=⟨_,rfl⟩
       rw [HD.out] at HAP HDS
       have HDO:=l05Do_any (HX.out _ G6.out) HXO.out.1 HXO.out.2 r HRO.out
       rw [HD.out] at HDO
       have qr:=(HBX.out _ (HX.out _ G6.out).bel).1
       have c0:=(zAA qr 0 (x:=.int .i64 r.cl) rfl).1
       have c1:=(zAA qr 1 (x:=.int .i64 r.st) rfl).1
       have c2:=(zAA qr 2 (x:=.int .i64 r.kd) rfl).1
       have c3:=(zAA qr 3 (x:=.int .i64 r.le) rfl).1
       have c4:=(zAA qr 4 (x:=.string r.nm) rfl).1
       clear qr
       go_wp2_with fail
       refine HDO.mono ?_
       rintro e w5 ⟨rfl,⟨u2,u3,qs,t5⟩,_⟩
       obtain ⟨xa,xc,rfl⟩:=t5.ol.slice
       clear HDO c0 c1 c2 c3 c4
       have sA:(w5.alloc (.cells #[.int .i64 D.2.k,.int .i64 D.2.t,.int .i64 D.2.h,.int .i64 D.2.e] 38)).heap.size=w5.heap.size+1:=by simp
       have bA:=zAD w5 (.cells #[.int .i64 D.2.k,.int .i64 D.2.t,.int .i64 D.2.h,.int .i64 D.2.e] 38)
       have bS:=zAD (w5.alloc (.cells #[.int .i64 D.2.k,.int .i64 D.2.t,.int .i64 D.2.h,.int .i64 D.2.e] 38)) (.cells #[.int .i64 r.cl,.int .i64 r.st,.int .i64 D.2.k,.int .i64 D.2.t,.int .i64 D.2.h,.int .i64 D.2.e] 116)
       have HX6:Hid (∀ W,Below ((w5.alloc (.cells #[.int .i64 D.2.k,.int .i64 D.2.t,.int .i64 D.2.h,.int .i64 D.2.e] 38)).alloc (.cells #[.int .i64 r.cl,.int .i64 r.st,.int .i64 D.2.k,.int .i64 D.2.t,.int .i64 D.2.h,.int .i64 D.2.e] 116)).heap.size ((w5.alloc (.cells #[.int .i64 D.2.k,.int .i64 D.2.t,.int .i64 D.2.h,.int .i64 D.2.e] 38)).alloc (.cells #[.int .i64 r.cl,.int .i64 r.st,.int .i64 D.2.k,.int .i64 D.2.t,.int .i64 D.2.h,.int .i64 D.2.e] 116)) W→TM wA W wA.heap.size b D.1 (.slice xa qs.length xc) u3 qs∧W.heap[w5.heap.size]?=some (.cells #[.int .i64 D.2.k,.int .i64 D.2.t,.int .i64 D.2.h,.int .i64 D.2.e] 38 (0,0))∧W.heap[w5.heap.size+1]?=some (.cells #[.int .i64 r.cl,.int .i64 r.st,.int .i64 D.2.k,.int .i64 D.2.t,.int .i64 D.2.h,.int .i64 D.2.e] 116 (0,0))):=fun W hW=>by
        have b6:=bA.trans (bS.mono bA.size)
        refine ⟨t5.up (b6.trans (hW.mono b6.size)),?_,?_⟩
        ·rw [hW.block _ (by simp;omega),bS.block _ (by simp)];exact zAJ _ _ _
        ·rw [hW.block _ (by simp),← sA];exact zAJ _ _ _
       have hq5:=(HBX.out _ (t5.up bA).bel).1
       have c0:=(zAA hq5 0 (x:=.int .i64 r.cl) rfl).1
       have c1:=(zAA hq5 1 (x:=.int .i64 r.st) rfl).1
       have hw5:wA.heap.size≤w5.heap.size:=t5.bel.size
       clear t5 bA bS sA hq5
       go_upto_region 14 with fail
       clear c0 c1
       generalize ((w5.alloc (.cells #[.int .i64 D.2.k,.int .i64 D.2.t,.int .i64 D.2.h,.int .i64 D.2.e] 38)).alloc (.cells #[.int .i64 r.cl,.int .i64 r.st,.int .i64 D.2.k,.int .i64 D.2.t,.int .i64 D.2.h,.int .i64 D.2.e] 116))=w6 at HX6 ⊢
       generalize w5.heap.size=ab at HX6 hw5 ⊢
       obtain ⟨U,HU⟩ : ∃ U:Tab,Hid ({ D.1 with ss:=X.ss.set j (sn r D.2) }=U):=⟨_,rfl⟩
       rw [HU.out] at HAP
       obtain ⟨t6,qa,qb⟩:=HX6.out w6 (Below.refl _ _)
       have hds:D.1.ss[j]?=some s:=by rw [HDS.out];exact HSK.out
       obtain ⟨gd,cd,ed,hgd,_,⟨cl,hcl⟩,hcd⟩:=OwnS.atk t6.os hds
       subst ed
       have hdl:D.1.ss.length=X.ss.length:=by rw [HDS.out]
       rw [hdl] at t6 HX6
       have x3:=(zAA t6.hx 3 (x:=.slice (some ⟨gd,0,none⟩) X.ss.length cd) rfl).1
       have k0:=(zAA qb 0 (x:=.int .i64 r.cl) rfl).1
       have k1:=(zAA qb 1 (x:=.int .i64 r.st) rfl).1
       have k2:=(zAA qb 2 (x:=.int .i64 D.2.k) rfl).1
       have k3:=(zAA qb 3 (x:=.int .i64 D.2.t) rfl).1
       have k4:=(zAA qb 4 (x:=.int .i64 D.2.h) rfl).1
       have k5:=(zAA qb 5 (x:=.int .i64 D.2.e) rfl).1
       obtain ⟨o0,f0⟩ : w6.cell? ⟨gd,j * 6,none⟩=some (.int .i64 s.c)∧w6.frozen? ⟨gd,j * 6,none⟩=false:=hcd 0 _ rfl
       obtain ⟨o1,f1⟩ : w6.cell? ⟨gd,j * 6+1,none⟩=some (.int .i64 s.s)∧w6.frozen? ⟨gd,j * 6+1,none⟩=false:=hcd 1 _ rfl
       obtain ⟨o2,f2⟩ : w6.cell? ⟨gd,j * 6+2,none⟩=some (.int .i64 s.k)∧w6.frozen? ⟨gd,j * 6+2,none⟩=false:=hcd 2 _ rfl
       obtain ⟨o3,f3⟩ : w6.cell? ⟨gd,j * 6+3,none⟩=some (.int .i64 s.t)∧w6.frozen? ⟨gd,j * 6+3,none⟩=false:=hcd 3 _ rfl
       obtain ⟨o4,f4⟩ : w6.cell? ⟨gd,j * 6+4,none⟩=some (.int .i64 s.h)∧w6.frozen? ⟨gd,j * 6+4,none⟩=false:=hcd 4 _ rfl
       obtain ⟨o5,f5⟩ : w6.cell? ⟨gd,j * 6+5,none⟩=some (.int .i64 s.e)∧w6.frozen? ⟨gd,j * 6+5,none⟩=false:=hcd 5 _ rfl
       have T7:=t6.sput6 (s':=sn r D.2) hds
       have hne:ab ≠ gd:=fun e=>zAK qa hcl (by decide) e
       have Q7:Hid (((((((w6.setCell ⟨gd,j * 6,none⟩ (.int .i64 r.cl)).setCell ⟨gd,j * 6+1,none⟩ (.int .i64 r.st)).setCell ⟨gd,j * 6+2,none⟩ (.int .i64 D.2.k)).setCell ⟨gd,j * 6+3,none⟩ (.int .i64 D.2.t)).setCell ⟨gd,j * 6+4,none⟩ (.int .i64 D.2.h)).setCell ⟨gd,j * 6+5,none⟩ (.int .i64 D.2.e)).heap[ab]?=some (.cells #[.int .i64 D.2.k,.int .i64 D.2.t,.int .i64 D.2.h,.int .i64 D.2.e] 38 (0,0))):=(zAr hne _ _).trans ((zAr hne _ _).trans ((zAr hne _ _).trans ((zAr hne _ _).trans ((zAr hne _ _).trans ((zAr hne _ _).trans qa)))))
       have HTF:Hid (TM wA ((((((w6.setCell ⟨gd,j * 6,none⟩ (.int .i64 r.cl)).setCell ⟨gd,j * 6+1,none⟩ (.int .i64 r.st)).setCell ⟨gd,j * 6+2,none⟩ (.int .i64 D.2.k)).setCell ⟨gd,j * 6+3,none⟩ (.int .i64 D.2.t)).setCell ⟨gd,j * 6+4,none⟩ (.int .i64 D.2.h)).setCell ⟨gd,j * 6+5,none⟩ (.int .i64 D.2.e)) wA.heap.size b U (.slice xa qs.length xc) (.slice (some ⟨gd,0,none⟩) X.ss.length cd) qs):=by
        have T8:=T7
        rw [HDS.out] at T8
        rw [← HU.out];exact T8
       clear t6 qa qb hcd hcl T7 hne HX6 hds
       go_upto_region 17 with fail
       clear x3
       generalize ((((((w6.setCell ⟨gd,j * 6,none⟩ (.int .i64 r.cl)).setCell ⟨gd,j * 6+1,none⟩ (.int .i64 r.st)).setCell ⟨gd,j * 6+2,none⟩ (.int .i64 D.2.k)).setCell ⟨gd,j * 6+3,none⟩ (.int .i64 D.2.t)).setCell ⟨gd,j * 6+4,none⟩ (.int .i64 D.2.h)).setCell ⟨gd,j * 6+5,none⟩ (.int .i64 D.2.e))=w7 at HTF Q7 ⊢
       have HS7:Hid (∀ W:World,(∀ i,wA.heap.size≤i→W.heap[i]?=w7.heap[i]?)→(W.cell? ⟨b,0,none⟩=some (.int .i64 U.tm)∧W.cell? ⟨b,1,none⟩=some (.int .i64 U.nx)∧W.cell? ⟨b,2,none⟩=some (.slice xa qs.length xc)∧W.cell? ⟨b,3,none⟩=some (.slice (some ⟨gd,0,none⟩) X.ss.length cd))∧W.cell? ⟨ab,0,none⟩=some (.int .i64 D.2.k)∧W.cell? ⟨ab,1,none⟩=some (.int .i64 D.2.t)∧W.cell? ⟨ab,2,none⟩=some (.int .i64 D.2.h)∧W.cell? ⟨ab,3,none⟩=some (.int .i64 D.2.e)):=fun W hW=>by
        have e1:=(hW b hbA).trans HTF.out.hx
        have e2:=(hW ab hw5).trans Q7.out
        exact ⟨⟨(zAA e1 0 rfl).1,(zAA e1 1 rfl).1,(zAA e1 2 rfl).1,(zAA e1 3 rfl).1⟩,(zAA e2 0 rfl).1,(zAA e2 1 rfl).1,(zAA e2 2 rfl).1,(zAA e2 3 rfl).1⟩
       have hbx:=HBX.out _ HTF.out.bel
       obtain ⟨zt0,ft0⟩:=zAA hbx.2.1 0 (x:=.int .i64 0) rfl
       obtain ⟨zt1,ft1⟩:=zAA hbx.2.1 1 (x:=.int .i64 0) rfl
       obtain ⟨zt2,ft2⟩:=zAA hbx.2.1 2 (x:=.slice none 0 0) rfl
       obtain ⟨zt3,ft3⟩:=zAA hbx.2.1 3 (x:=.slice none 0 0) rfl
       obtain ⟨za0,fa0⟩:=zAA hbx.2.2.1 0 (x:=.int .i64 0) rfl
       obtain ⟨za1,fa1⟩:=zAA hbx.2.2.1 1 (x:=.int .i64 0) rfl
       obtain ⟨za2,fa2⟩:=zAA hbx.2.2.1 2 (x:=.int .i64 0) rfl
       obtain ⟨za3,fa3⟩:=zAA hbx.2.2.1 3 (x:=.int .i64 0) rfl
       clear hbx
       refine wp_region_noPanic ?_
       refine zAm 3 (S:=fun W=>(W.cell? ⟨b,0,none⟩=some (.int .i64 U.tm)∧W.cell? ⟨b,1,none⟩=some (.int .i64 U.nx)∧W.cell? ⟨b,2,none⟩=some (.slice xa qs.length xc)∧W.cell? ⟨b,3,none⟩=some (.slice (some ⟨gd,0,none⟩) X.ss.length cd))∧W.cell? ⟨ab,0,none⟩=some (.int .i64 D.2.k)∧W.cell? ⟨ab,1,none⟩=some (.int .i64 D.2.t)∧W.cell? ⟨ab,2,none⟩=some (.int .i64 D.2.h)∧W.cell? ⟨ab,3,none⟩=some (.int .i64 D.2.e)) (by kernel_rfl) (HS7.out _ (fun _ _=>rfl)) (fun hHeld=>?_)
       refine tz 0 ⟨some 125,.load 30 (.tmp 8),30,"l05_locks.go:206",#[],none⟩ ?_ ?_ hHeld ?_
       rotate_left
       ·rintro wz ⟨⟨y0,y1,y2,y3⟩,y4,y5,y6,y7⟩;go_simp;try (with_reducible rfl)
       simp only [Act.put,sA,sB,sC]
       refine tz 1 ⟨some 126,.load 38 (.tmp 11),38,"l05_locks.go:206",#[⟨2,.gcOnly .lateStores⟩],none⟩ ?_ ?_ hHeld ?_
       rotate_left
       ·rintro wz ⟨⟨y0,y1,y2,y3⟩,y4,y5,y6,y7⟩;go_simp;try (with_reducible rfl)
       simp only [Act.put,sA,sB,sC]
       refine zAN (rs:=[2]) (by kernel_rfl) (by simp) ?_
       refine (ReadyZ.cons (o:=⟨none,.store 30 (.tmp 6) (.tmp 125),0,"l05_locks.go:206",#[⟨0,.data⟩,⟨0,.phase⟩,⟨1,.textOnly .lateStores⟩],none⟩) rfl (fun K hK=>?_) ReadyZ.nil)
       go_simp
       refine hK.out _ _ ?_ (fun hHeld=>?_)
       ·exact HS7.out _ (fun i hi=>far4 (w:=w7.drew) (by omega) _ _ _ _)
       clear hK K
       (try simp only [Act.put,sA,sB,sC])
       refine zAN (rs:=[3]) (by kernel_rfl) (by simp) ?_
       refine ReadyZ.last (o:=⟨none,.store 38 (.tmp 7) (.tmp 126),0,"l05_locks.go:206",#[⟨1,.data⟩,⟨2,.chain⟩,⟨0,.phase⟩,⟨1,.phase⟩,⟨2,.phase⟩],none⟩) rfl (fun K hK=>?_)
       go_simp
       refine hK.out _ _ ?_
       clear hK K
       (try simp only [Act.put,sA,sB,sC])
       refine zBa (by kernel_rfl) ?_ _
       refine NoPanic.normal ?_
       clear hHeld HS7
       go_wp2_with fail
       have S44:=(set44 (w:=w7) (a:=w.heap.size+1+1) (b:=w.heap.size+1+1+1) (.int .i64 0) (.int .i64 0) (.slice none 0 0) (.slice none 0 0) (.int .i64 0) (.int .i64 0) (.int .i64 0) (.int .i64 0) (.int .i64 U.tm) (.int .i64 U.nx) ((.slice xa qs.length xc)) ((.slice (some ⟨gd,0,none⟩) X.ss.length cd)) (.int .i64 D.2.k) (.int .i64 D.2.t) (.int .i64 D.2.h) (.int .i64 D.2.e) (by omega) (HBX.out _ (HTF.out.bel)).2.1 (HBX.out _ (HTF.out.bel)).2.2.1).1
       obtain ⟨AF,BF,FF,LF⟩:=S44
       have KF:Hid (OwnL ((((((((w7.setCell ⟨w.heap.size+1+1,0,none⟩ (.int .i64 U.tm)).setCell ⟨w.heap.size+1+1,1,none⟩ (.int .i64 U.nx)).setCell ⟨w.heap.size+1+1,2,none⟩ ((.slice xa qs.length xc))).setCell ⟨w.heap.size+1+1,3,none⟩ ((.slice (some ⟨gd,0,none⟩) X.ss.length cd))).setCell ⟨w.heap.size+1+1+1,0,none⟩ (.int .i64 D.2.k)).setCell ⟨w.heap.size+1+1+1,1,none⟩ (.int .i64 D.2.t)).setCell ⟨w.heap.size+1+1+1,2,none⟩ (.int .i64 D.2.h)).setCell ⟨w.heap.size+1+1+1,3,none⟩ (.int .i64 D.2.e)) w.heap.size (.slice xa qs.length xc) qs∧(∀ p ∈ qs,Wa.OwnW ((((((((w7.setCell ⟨w.heap.size+1+1,0,none⟩ (.int .i64 U.tm)).setCell ⟨w.heap.size+1+1,1,none⟩ (.int .i64 U.nx)).setCell ⟨w.heap.size+1+1,2,none⟩ ((.slice xa qs.length xc))).setCell ⟨w.heap.size+1+1,3,none⟩ ((.slice (some ⟨gd,0,none⟩) X.ss.length cd))).setCell ⟨w.heap.size+1+1+1,0,none⟩ (.int .i64 D.2.k)).setCell ⟨w.heap.size+1+1+1,1,none⟩ (.int .i64 D.2.t)).setCell ⟨w.heap.size+1+1+1,2,none⟩ (.int .i64 D.2.h)).setCell ⟨w.heap.size+1+1+1,3,none⟩ (.int .i64 D.2.e)) w.heap.size (uV p) p.1.ws)∧Wa.OwnS ((((((((w7.setCell ⟨w.heap.size+1+1,0,none⟩ (.int .i64 U.tm)).setCell ⟨w.heap.size+1+1,1,none⟩ (.int .i64 U.nx)).setCell ⟨w.heap.size+1+1,2,none⟩ ((.slice xa qs.length xc))).setCell ⟨w.heap.size+1+1,3,none⟩ ((.slice (some ⟨gd,0,none⟩) X.ss.length cd))).setCell ⟨w.heap.size+1+1+1,0,none⟩ (.int .i64 D.2.k)).setCell ⟨w.heap.size+1+1+1,1,none⟩ (.int .i64 D.2.t)).setCell ⟨w.heap.size+1+1+1,2,none⟩ (.int .i64 D.2.h)).setCell ⟨w.heap.size+1+1+1,3,none⟩ (.int .i64 D.2.e)) w.heap.size (.slice (some ⟨gd,0,none⟩) X.ss.length cd) U.ss∧qs.map (·.1)=U.ls∧Apart qs):=TM.fin HTF.out (by omega) (fun j hj=>FF j (by omega) (by omega))
       have LFH:Hid (Below w.heap.size w ((((((((w7.setCell ⟨w.heap.size+1+1,0,none⟩ (.int .i64 U.tm)).setCell ⟨w.heap.size+1+1,1,none⟩ (.int .i64 U.nx)).setCell ⟨w.heap.size+1+1,2,none⟩ ((.slice xa qs.length xc))).setCell ⟨w.heap.size+1+1,3,none⟩ ((.slice (some ⟨gd,0,none⟩) X.ss.length cd))).setCell ⟨w.heap.size+1+1+1,0,none⟩ (.int .i64 D.2.k)).setCell ⟨w.heap.size+1+1+1,1,none⟩ (.int .i64 D.2.t)).setCell ⟨w.heap.size+1+1+1,2,none⟩ (.int .i64 D.2.h)).setCell ⟨w.heap.size+1+1+1,3,none⟩ (.int .i64 D.2.e))):=LF (HBX.out _ (HTF.out.bel)).2.2.2 (by omega) (by omega)
       generalize ((((((((w7.setCell ⟨w.heap.size+1+1,0,none⟩ (.int .i64 U.tm)).setCell ⟨w.heap.size+1+1,1,none⟩ (.int .i64 U.nx)).setCell ⟨w.heap.size+1+1,2,none⟩ ((.slice xa qs.length xc))).setCell ⟨w.heap.size+1+1,3,none⟩ ((.slice (some ⟨gd,0,none⟩) X.ss.length cd))).setCell ⟨w.heap.size+1+1+1,0,none⟩ (.int .i64 D.2.k)).setCell ⟨w.heap.size+1+1+1,1,none⟩ (.int .i64 D.2.t)).setCell ⟨w.heap.size+1+1+1,2,none⟩ (.int .i64 D.2.h)).setCell ⟨w.heap.size+1+1+1,3,none⟩ (.int .i64 D.2.e))=wf at AF BF KF LFH ⊢
       have d0:=(zAA AF 0 (x:=.int .i64 U.tm) rfl).1
       have d1:=(zAA AF 1 (x:=.int .i64 U.nx) rfl).1
       have d2:=(zAA AF 2 (x:=(.slice xa qs.length xc)) rfl).1
       have d3:=(zAA AF 3 (x:=(.slice (some ⟨gd,0,none⟩) X.ss.length cd)) rfl).1
       have e0:=(zAA BF 0 (x:=.int .i64 D.2.k) rfl).1
       have e1:=(zAA BF 1 (x:=.int .i64 D.2.t) rfl).1
       have e2:=(zAA BF 2 (x:=.int .i64 D.2.h) rfl).1
       have e3:=(zAA BF 3 (x:=.int .i64 D.2.e) rfl).1
       refine bodyPost_ret (v:=.tuple #[.agg #[.int .i64 U.tm,.int .i64 U.nx,(.slice xa qs.length xc),(.slice (some ⟨gd,0,none⟩) X.ss.length cd)],.agg #[.int .i64 D.2.k,.int .i64 D.2.t,.int .i64 D.2.h,.int .i64 D.2.e]]) (by simp [results,Tryz.results57,go_sem,d0,d1,d2,d3,e0,e1,e2,e3]) rfl ?_
       refine ⟨⟨(.slice xa qs.length xc),(.slice (some ⟨gd,0,none⟩) X.ss.length cd),qs,?_,KF.out.1,KF.out.2.1,?_,?_,KF.out.2.2.2.2⟩,(by first | exact LFH.out | exact LFH.out.drew)⟩
       ·rw [HAP.out]
       ·rw [HAP.out];exact KF.out.2.2.1
       ·rw [HAP.out];exact KF.out.2.2.2.1
    focus
     have hi:=seen_none HK.out HSS.out (fun s' hs' e=>hsc (by rw [HSK.out] at hs';cases hs';exact e))
     rw [hi] at HAP1
     simp only [HK.out] at HAP1
     have hsc':(s.c == r.cl)=false:=by simp [hsc]
     clear hi hsc
     go_upto_region 3 with fail
     obtain ⟨X1,hX1,W1,QI0,QO0⟩:=Qc.zAZ wr
     have QI:Hid (∀ w',Below wr.heap.size wr w'→∃ x,w'=W1 x):=QI0
     have QO:Hid (∀ x,Below wr.heap.size wr (W1 x)):=QO0
     clear QI0 QO0
     have tq:=HX.out _ GR.out
     have y3:=Qc.zAB QO.out (zAA tq.hx 3 (x:=.slice (some ⟨gs,0,none⟩) X.ss.length uc) rfl).1
     have z0:=Qc.zAB QO.out (zAA (HBX.out _ tq.bel).1 0 (x:=.int .i64 r.cl) rfl).1
     have z1:=Qc.zAB QO.out (zAA (HBX.out _ tq.bel).1 1 (x:=.int .i64 r.st) rfl).1
     obtain ⟨gs',cs',es,_,_,_,hcs⟩:=OwnS.atk tq.os HSK.out
     obtain rfl:gs=gs':=by injection es with e1;injection e1 with e1;injection e1
     have s0:∀ q,(W1 q).cell? ⟨gs,j * 6,none⟩=some (.int .i64 s.c):=Qc.zAB QO.out (hcs 0 (.int .i64 s.c) rfl).1
     have s1:=Qc.zAB QO.out (hcs 1 (.int .i64 s.s) rfl).1
     clear hcs es
     clear tq
     refine Qc.zAF (W:=W1) (by kernel_rfl) (by kernel_rfl) (QI.out _ Qc.zAI) ?_
     repeat (go_big_quiet_step (fail))
     refine wpQuiet_nil ?_
     rintro _ ⟨xq,rfl⟩
     have G:Hid (Below w2.heap.size w2 (W1 xq)):=GR.out.trans ((QO.out xq).mono GR.out.size)
     clear y3 z0 z1 s0 s1 QO QI GR
     generalize W1 xq=wq at G ⊢
     go_upto_region 5 with fail
     obtain ⟨X1,hX1,W1,QI0,QO0⟩:=Qc.zAZ wq
     have QI:Hid (∀ w',Below wq.heap.size wq w'→∃ x,w'=W1 x):=QI0
     have QO:Hid (∀ x,Below wq.heap.size wq (W1 x)):=QO0
     clear QI0 QO0
     have tq:=HX.out _ G.out
     have y3:=Qc.zAB QO.out (zAA tq.hx 3 (x:=.slice (some ⟨gs,0,none⟩) X.ss.length uc) rfl).1
     have z0:=Qc.zAB QO.out (zAA (HBX.out _ tq.bel).1 0 (x:=.int .i64 r.cl) rfl).1
     have z1:=Qc.zAB QO.out (zAA (HBX.out _ tq.bel).1 1 (x:=.int .i64 r.st) rfl).1
     obtain ⟨gs',cs',es,_,_,_,hcs⟩:=OwnS.atk tq.os HSK.out
     obtain rfl:gs=gs':=by injection es with e1;injection e1 with e1;injection e1
     have s0:∀ q,(W1 q).cell? ⟨gs,j * 6,none⟩=some (.int .i64 s.c):=Qc.zAB QO.out (hcs 0 (.int .i64 s.c) rfl).1
     have s1:=Qc.zAB QO.out (hcs 1 (.int .i64 s.s) rfl).1
     clear hcs es
     clear tq
     refine Qc.zAF (W:=W1) (by kernel_rfl) (by kernel_rfl) (QI.out _ Qc.zAI) ?_
     repeat (go_big_quiet_step (fail))
     refine wpQuiet_nil ?_
     rintro _ ⟨xq,rfl⟩
     have G3:Hid (Below w2.heap.size w2 (W1 xq)):=G.out.trans ((QO.out xq).mono G.out.size)
     clear y3 z0 z1 s0 s1 QO QI G
     generalize W1 xq=wr3 at G3 ⊢
     go_upto_region 6 with fail
     obtain ⟨X1,hX1,W1,QI0,QO0⟩:=Qc.zAZ wr3
     have QI:Hid (∀ w',Below wr3.heap.size wr3 w'→∃ x,w'=W1 x):=QI0
     have QO:Hid (∀ x,Below wr3.heap.size wr3 (W1 x)):=QO0
     clear QI0 QO0
     have tq:=HX.out _ G3.out
     have y3:=Qc.zAB QO.out (zAA tq.hx 3 (x:=.slice (some ⟨gs,0,none⟩) X.ss.length uc) rfl).1
     have z0:=Qc.zAB QO.out (zAA (HBX.out _ tq.bel).1 0 (x:=.int .i64 r.cl) rfl).1
     have z1:=Qc.zAB QO.out (zAA (HBX.out _ tq.bel).1 1 (x:=.int .i64 r.st) rfl).1
     obtain ⟨gs',cs',es,_,_,_,hcs⟩:=OwnS.atk tq.os HSK.out
     obtain rfl:gs=gs':=by injection es with e1;injection e1 with e1;injection e1
     have s0:∀ q,(W1 q).cell? ⟨gs,j * 6,none⟩=some (.int .i64 s.c):=Qc.zAB QO.out (hcs 0 (.int .i64 s.c) rfl).1
     have s1:=Qc.zAB QO.out (hcs 1 (.int .i64 s.s) rfl).1
     clear hcs es
     clear tq
     refine Qc.zAF (W:=W1) (by kernel_rfl) (by kernel_rfl) (QI.out _ Qc.zAI) ?_
     repeat (go_big_quiet_step (fail))
     refine wpQuiet_nil ?_
     rintro _ ⟨xq,rfl⟩
     have G4:Hid (Below w2.heap.size w2 (W1 xq)):=G3.out.trans ((QO.out xq).mono G3.out.size)
     clear y3 z0 z1 s0 s1 QO QI G3
     generalize W1 xq=wr4 at G4 ⊢
     go_upto_region 8 with fail
     obtain ⟨X1,hX1,W1,QI0,QO0⟩:=Qc.zAZ wr4
     have QI:Hid (∀ w',Below wr4.heap.size wr4 w'→∃ x,w'=W1 x):=QI0
     have QO:Hid (∀ x,Below wr4.heap.size wr4 (W1 x)):=QO0
     clear QI0 QO0
     have tq:=HX.out _ G4.out
     have y3:=Qc.zAB QO.out (zAA tq.hx 3 (x:=.slice (some ⟨gs,0,none⟩) X.ss.length uc) rfl).1
     have z0:=Qc.zAB QO.out (zAA (HBX.out _ tq.bel).1 0 (x:=.int .i64 r.cl) rfl).1
     have z1:=Qc.zAB QO.out (zAA (HBX.out _ tq.bel).1 1 (x:=.int .i64 r.st) rfl).1
     obtain ⟨gs',cs',es,_,_,_,hcs⟩:=OwnS.atk tq.os HSK.out
     obtain rfl:gs=gs':=by injection es with e1;injection e1 with e1;injection e1
     have s0:∀ q,(W1 q).cell? ⟨gs,j * 6,none⟩=some (.int .i64 s.c):=Qc.zAB QO.out (hcs 0 (.int .i64 s.c) rfl).1
     have s1:=Qc.zAB QO.out (hcs 1 (.int .i64 s.s) rfl).1
     clear hcs es
     clear tq
     refine Qc.zAF (W:=W1) (by kernel_rfl) (by kernel_rfl) (QI.out _ Qc.zAI) ?_
     repeat (go_big_quiet_step (fail))
     refine wpQuiet_nil ?_
     rintro _ ⟨xq,rfl⟩
     have G5:Hid (Below w2.heap.size w2 (W1 xq)):=G4.out.trans ((QO.out xq).mono G4.out.size)
     clear y3 z0 z1 s0 s1 QO QI G4
     generalize W1 xq=wr5 at G5 ⊢
     by_cases h6:6≤X.ss.length
     ·have HAP:Hid (R=(X,bare 6)):=by show _=_;rw [HAP1,if_pos h6]
      clear HAP1
      have h6':((X.ss.length:Int) == 6)=true:=by simp;omega
      have y3:=(zAA (HX.out _ G5.out).hx 3 (x:=.slice (some ⟨gs,0,none⟩) X.ss.length uc) rfl).1
      go_upto_region 11 with fail
      clear y3
      have HTF:Hid (TM wA wr5 wA.heap.size b X (.slice la ps.length lc) (.slice (some ⟨gs,0,none⟩) X.ss.length uc) ps):=HX.out _ G5.out
      have c0:=(zAA HTF.out.hx 0 (x:=.int .i64 X.tm) rfl).1
      have c1:=(zAA HTF.out.hx 1 (x:=.int .i64 X.nx) rfl).1
      have c2:=(zAA HTF.out.hx 2 (x:=.slice la ps.length lc) rfl).1
      have c3:=(zAA HTF.out.hx 3 (x:=.slice (some ⟨gs,0,none⟩) X.ss.length uc) rfl).1
      have hbx:=HBX.out _ HTF.out.bel
      obtain ⟨zt0,ft0⟩:=zAA hbx.2.1 0 (x:=.int .i64 0) rfl
      obtain ⟨zt1,ft1⟩:=zAA hbx.2.1 1 (x:=.int .i64 0) rfl
      obtain ⟨zt2,ft2⟩:=zAA hbx.2.1 2 (x:=.slice none 0 0) rfl
      obtain ⟨zt3,ft3⟩:=zAA hbx.2.1 3 (x:=.slice none 0 0) rfl
      obtain ⟨za0,fa0⟩:=zAA hbx.2.2.1 0 (x:=.int .i64 0) rfl
      obtain ⟨za1,fa1⟩:=zAA hbx.2.2.1 1 (x:=.int .i64 0) rfl
      obtain ⟨za2,fa2⟩:=zAA hbx.2.2.1 2 (x:=.int .i64 0) rfl
      obtain ⟨za3,fa3⟩:=zAA hbx.2.2.1 3 (x:=.int .i64 0) rfl
      clear hbx
      go_wp2_with fail
      have S44:=(set44 (w:=wr5) (a:=w.heap.size+1+1) (b:=w.heap.size+1+1+1) (.int .i64 0) (.int .i64 0) (.slice none 0 0) (.slice none 0 0) (.int .i64 0) (.int .i64 0) (.int .i64 0) (.int .i64 0) (.int .i64 X.tm) (.int .i64 X.nx) ((.slice la ps.length lc)) ((.slice (some ⟨gs,0,none⟩) X.ss.length uc)) (.int .i64 6) (.int .i64 0) (.int .i64 (-1)) (.int .i64 0) (by omega) (HBX.out _ (HTF.out.bel)).2.1 (HBX.out _ (HTF.out.bel)).2.2.1).1
      obtain ⟨AF,BF,FF,LF⟩:=S44
      have KF:Hid (OwnL ((((((((wr5.setCell ⟨w.heap.size+1+1,0,none⟩ (.int .i64 X.tm)).setCell ⟨w.heap.size+1+1,1,none⟩ (.int .i64 X.nx)).setCell ⟨w.heap.size+1+1,2,none⟩ ((.slice la ps.length lc))).setCell ⟨w.heap.size+1+1,3,none⟩ ((.slice (some ⟨gs,0,none⟩) X.ss.length uc))).setCell ⟨w.heap.size+1+1+1,0,none⟩ (.int .i64 6)).setCell ⟨w.heap.size+1+1+1,1,none⟩ (.int .i64 0)).setCell ⟨w.heap.size+1+1+1,2,none⟩ (.int .i64 (-1))).setCell ⟨w.heap.size+1+1+1,3,none⟩ (.int .i64 0)) w.heap.size (.slice la ps.length lc) ps∧(∀ p ∈ ps,Wa.OwnW ((((((((wr5.setCell ⟨w.heap.size+1+1,0,none⟩ (.int .i64 X.tm)).setCell ⟨w.heap.size+1+1,1,none⟩ (.int .i64 X.nx)).setCell ⟨w.heap.size+1+1,2,none⟩ ((.slice la ps.length lc))).setCell ⟨w.heap.size+1+1,3,none⟩ ((.slice (some ⟨gs,0,none⟩) X.ss.length uc))).setCell ⟨w.heap.size+1+1+1,0,none⟩ (.int .i64 6)).setCell ⟨w.heap.size+1+1+1,1,none⟩ (.int .i64 0)).setCell ⟨w.heap.size+1+1+1,2,none⟩ (.int .i64 (-1))).setCell ⟨w.heap.size+1+1+1,3,none⟩ (.int .i64 0)) w.heap.size (uV p) p.1.ws)∧Wa.OwnS ((((((((wr5.setCell ⟨w.heap.size+1+1,0,none⟩ (.int .i64 X.tm)).setCell ⟨w.heap.size+1+1,1,none⟩ (.int .i64 X.nx)).setCell ⟨w.heap.size+1+1,2,none⟩ ((.slice la ps.length lc))).setCell ⟨w.heap.size+1+1,3,none⟩ ((.slice (some ⟨gs,0,none⟩) X.ss.length uc))).setCell ⟨w.heap.size+1+1+1,0,none⟩ (.int .i64 6)).setCell ⟨w.heap.size+1+1+1,1,none⟩ (.int .i64 0)).setCell ⟨w.heap.size+1+1+1,2,none⟩ (.int .i64 (-1))).setCell ⟨w.heap.size+1+1+1,3,none⟩ (.int .i64 0)) w.heap.size (.slice (some ⟨gs,0,none⟩) X.ss.length uc) X.ss∧ps.map (·.1)=X.ls∧Apart ps):=TM.fin HTF.out (by omega) (fun j hj=>FF j (by omega) (by omega))
      have LFH:Hid (Below w.heap.size w ((((((((wr5.setCell ⟨w.heap.size+1+1,0,none⟩ (.int .i64 X.tm)).setCell ⟨w.heap.size+1+1,1,none⟩ (.int .i64 X.nx)).setCell ⟨w.heap.size+1+1,2,none⟩ ((.slice la ps.length lc))).setCell ⟨w.heap.size+1+1,3,none⟩ ((.slice (some ⟨gs,0,none⟩) X.ss.length uc))).setCell ⟨w.heap.size+1+1+1,0,none⟩ (.int .i64 6)).setCell ⟨w.heap.size+1+1+1,1,none⟩ (.int .i64 0)).setCell ⟨w.heap.size+1+1+1,2,none⟩ (.int .i64 (-1))).setCell ⟨w.heap.size+1+1+1,3,none⟩ (.int .i64 0))):=LF (HBX.out _ (HTF.out.bel)).2.2.2 (by omega) (by omega)
      generalize ((((((((wr5.setCell ⟨w.heap.size+1+1,0,none⟩ (.int .i64 X.tm)).setCell ⟨w.heap.size+1+1,1,none⟩ (.int .i64 X.nx)).setCell ⟨w.heap.size+1+1,2,none⟩ ((.slice la ps.length lc))).setCell ⟨w.heap.size+1+1,3,none⟩ ((.slice (some ⟨gs,0,none⟩) X.ss.length uc))).setCell ⟨w.heap.size+1+1+1,0,none⟩ (.int .i64 6)).setCell ⟨w.heap.size+1+1+1,1,none⟩ (.int .i64 0)).setCell ⟨w.heap.size+1+1+1,2,none⟩ (.int .i64 (-1))).setCell ⟨w.heap.size+1+1+1,3,none⟩ (.int .i64 0))=wf at AF BF KF LFH ⊢
      have d0:=(zAA AF 0 (x:=.int .i64 X.tm) rfl).1
      have d1:=(zAA AF 1 (x:=.int .i64 X.nx) rfl).1
      have d2:=(zAA AF 2 (x:=(.slice la ps.length lc)) rfl).1
      have d3:=(zAA AF 3 (x:=(.slice (some ⟨gs,0,none⟩) X.ss.length uc)) rfl).1
      have e0:=(zAA BF 0 (x:=.int .i64 6) rfl).1
      have e1:=(zAA BF 1 (x:=.int .i64 0) rfl).1
      have e2:=(zAA BF 2 (x:=.int .i64 (-1)) rfl).1
      have e3:=(zAA BF 3 (x:=.int .i64 0) rfl).1
      refine bodyPost_ret (v:=.tuple #[.agg #[.int .i64 X.tm,.int .i64 X.nx,(.slice la ps.length lc),(.slice (some ⟨gs,0,none⟩) X.ss.length uc)],.agg #[.int .i64 6,.int .i64 0,.int .i64 (-1),.int .i64 0]]) (by simp [results,Tryz.results57,go_sem,d0,d1,d2,d3,e0,e1,e2,e3]) rfl ?_
      refine ⟨⟨(.slice la ps.length lc),(.slice (some ⟨gs,0,none⟩) X.ss.length uc),ps,?_,KF.out.1,KF.out.2.1,?_,?_,KF.out.2.2.2.2⟩,(by first | exact LFH.out | exact LFH.out.drew)⟩
      ·rw [HAP.out];rfl
      ·rw [HAP.out];exact KF.out.2.2.1
      ·rw [HAP.out];exact KF.out.2.2.2.1
     have HAP:Hid (R=({ (doT X r).1 with ss:=putAt X.ss j (sn r (doT X r).2) },(doT X r).2)):=by show _=_;rw [HAP1,if_neg h6]
     clear HAP1
     have h6':((X.ss.length:Int) == 6)=false:=by simp;omega
     have y3:=(zAA (HX.out _ G5.out).hx 3 (x:=.slice (some ⟨gs,0,none⟩) X.ss.length uc) rfl).1
     go_upto_region 12 with fail
     clear y3
  rotate_left
  focus
   obtain rfl:j=k:=by omega
   have hjl:¬ (j:Int)<(X.ss.length:Int):=by omega
   have hi:=seen_none HK.out HXO.out.1.2.2.2.2.2 (fun s' hs' e=>absurd (List.getElem?_eq_some_iff.1 hs').1 hjn)
   have HAP1:=HAPH.out ()
   rw [hi] at HAP1
   simp only [HK.out] at HAP1
   clear hi HAPH
   go_upto_region 3 with fail
   obtain ⟨X1,hX1,W1,QI0,QO0⟩:=Qc.zAZ wr
   have QI:Hid (∀ w',Below wr.heap.size wr w'→∃ x,w'=W1 x):=QI0
   have QO:Hid (∀ x,Below wr.heap.size wr (W1 x)):=QO0
   clear QI0 QO0
   have tq:=HX.out _ GR.out
   have y3:=Qc.zAB QO.out (zAA tq.hx 3 (x:=.slice ua X.ss.length uc) rfl).1
   have z0:=Qc.zAB QO.out (zAA (HBX.out _ tq.bel).1 0 (x:=.int .i64 r.cl) rfl).1
   have z1:=Qc.zAB QO.out (zAA (HBX.out _ tq.bel).1 1 (x:=.int .i64 r.st) rfl).1
   clear tq
   refine Qc.zAF (W:=W1) (by kernel_rfl) (by kernel_rfl) (QI.out _ Qc.zAI) ?_
   repeat (go_big_quiet_step (fail))
   refine wpQuiet_nil ?_
   rintro _ ⟨xq,rfl⟩
   have G:Hid (Below w2.heap.size w2 (W1 xq)):=GR.out.trans ((QO.out xq).mono GR.out.size)
   clear y3 z0 z1 QO QI GR
   generalize W1 xq=wq at G ⊢
   go_upto_region 5 with fail
   obtain ⟨X1,hX1,W1,QI0,QO0⟩:=Qc.zAZ wq
   have QI:Hid (∀ w',Below wq.heap.size wq w'→∃ x,w'=W1 x):=QI0
   have QO:Hid (∀ x,Below wq.heap.size wq (W1 x)):=QO0
   clear QI0 QO0
   have tq:=HX.out _ G.out
   have y3:=Qc.zAB QO.out (zAA tq.hx 3 (x:=.slice ua X.ss.length uc) rfl).1
   have z0:=Qc.zAB QO.out (zAA (HBX.out _ tq.bel).1 0 (x:=.int .i64 r.cl) rfl).1
   have z1:=Qc.zAB QO.out (zAA (HBX.out _ tq.bel).1 1 (x:=.int .i64 r.st) rfl).1
   clear tq
   refine Qc.zAF (W:=W1) (by kernel_rfl) (by kernel_rfl) (QI.out _ Qc.zAI) ?_
   repeat (go_big_quiet_step (fail))
   refine wpQuiet_nil ?_
   rintro _ ⟨xq,rfl⟩
   have G3:Hid (Below w2.heap.size w2 (W1 xq)):=G.out.trans ((QO.out xq).mono G.out.size)
   clear y3 z0 z1 QO QI G
   generalize W1 xq=wr3 at G3 ⊢
   go_upto_region 6 with fail
   obtain ⟨X1,hX1,W1,QI0,QO0⟩:=Qc.zAZ wr3
   have QI:Hid (∀ w',Below wr3.heap.size wr3 w'→∃ x,w'=W1 x):=QI0
   have QO:Hid (∀ x,Below wr3.heap.size wr3 (W1 x)):=QO0
   clear QI0 QO0
   have tq:=HX.out _ G3.out
   have y3:=Qc.zAB QO.out (zAA tq.hx 3 (x:=.slice ua X.ss.length uc) rfl).1
   have z0:=Qc.zAB QO.out (zAA (HBX.out _ tq.bel).1 0 (x:=.int .i64 r.cl) rfl).1
   have z1:=Qc.zAB QO.out (zAA (HBX.out _ tq.bel).1 1 (x:=.int .i64 r.st) rfl).1
   clear tq
   refine Qc.zAF (W:=W1) (by kernel_rfl) (by kernel_rfl) (QI.out _ Qc.zAI) ?_
   repeat (go_big_quiet_step (fail))
   refine wpQuiet_nil ?_
   rintro _ ⟨xq,rfl⟩
   have G4:Hid (Below w2.heap.size w2 (W1 xq)):=G3.out.trans ((QO.out xq).mono G3.out.size)
   clear y3 z0 z1 QO QI G3
   generalize W1 xq=wr4 at G4 ⊢
   go_upto_region 8 with fail
   obtain ⟨X1,hX1,W1,QI0,QO0⟩:=Qc.zAZ wr4
   have QI:Hid (∀ w',Below wr4.heap.size wr4 w'→∃ x,w'=W1 x):=QI0
   have QO:Hid (∀ x,Below wr4.heap.size wr4 (W1 x)):=QO0
   clear QI0 QO0
   have tq:=HX.out _ G4.out
   have y3:=Qc.zAB QO.out (zAA tq.hx 3 (x:=.slice ua X.ss.length uc) rfl).1
   have z0:=Qc.zAB QO.out (zAA (HBX.out _ tq.bel).1 0 (x:=.int .i64 r.cl) rfl).1
   have z1:=Qc.zAB QO.out (zAA (HBX.out _ tq.bel).1 1 (x:=.int .i64 r.st) rfl).1
   clear tq
   refine Qc.zAF (W:=W1) (by kernel_rfl) (by kernel_rfl) (QI.out _ Qc.zAI) ?_
   repeat (go_big_quiet_step (fail))
   refine wpQuiet_nil ?_
   rintro _ ⟨xq,rfl⟩
   have G5:Hid (Below w2.heap.size w2 (W1 xq)):=G4.out.trans ((QO.out xq).mono G4.out.size)
   clear y3 z0 z1 QO QI G4
   generalize W1 xq=wr5 at G5 ⊢
   by_cases h6:6≤X.ss.length
   ·have HAP:Hid (R=(X,bare 6)):=by show _=_;rw [HAP1,if_pos h6]
    clear HAP1
    have h6':((X.ss.length:Int) == 6)=true:=by simp;omega
    have y3:=(zAA (HX.out _ G5.out).hx 3 (x:=.slice ua X.ss.length uc) rfl).1
    go_upto_region 11 with fail
    clear y3
    have HTF:Hid (TM wA wr5 wA.heap.size b X (.slice la ps.length lc) (.slice ua X.ss.length uc) ps):=HX.out _ G5.out
    have c0:=(zAA HTF.out.hx 0 (x:=.int .i64 X.tm) rfl).1
    have c1:=(zAA HTF.out.hx 1 (x:=.int .i64 X.nx) rfl).1
    have c2:=(zAA HTF.out.hx 2 (x:=.slice la ps.length lc) rfl).1
    have c3:=(zAA HTF.out.hx 3 (x:=.slice ua X.ss.length uc) rfl).1
    have hbx:=HBX.out _ HTF.out.bel
    obtain ⟨zt0,ft0⟩:=zAA hbx.2.1 0 (x:=.int .i64 0) rfl
    obtain ⟨zt1,ft1⟩:=zAA hbx.2.1 1 (x:=.int .i64 0) rfl
    obtain ⟨zt2,ft2⟩:=zAA hbx.2.1 2 (x:=.slice none 0 0) rfl
    obtain ⟨zt3,ft3⟩:=zAA hbx.2.1 3 (x:=.slice none 0 0) rfl
    obtain ⟨za0,fa0⟩:=zAA hbx.2.2.1 0 (x:=.int .i64 0) rfl
    obtain ⟨za1,fa1⟩:=zAA hbx.2.2.1 1 (x:=.int .i64 0) rfl
    obtain ⟨za2,fa2⟩:=zAA hbx.2.2.1 2 (x:=.int .i64 0) rfl
    obtain ⟨za3,fa3⟩:=zAA hbx.2.2.1 3 (x:=.int .i64 0) rfl
    clear hbx
    go_wp2_with fail
    have S44:=(set44 (w:=wr5) (a:=w.heap.size+1+1) (b:=w.heap.size+1+1+1) (.int .i64 0) (.int .i64 0) (.slice none 0 0) (.slice none 0 0) (.int .i64 0) (.int .i64 0) (.int .i64 0) (.int .i64 0) (.int .i64 X.tm) (.int .i64 X.nx) ((.slice la ps.length lc)) ((.slice ua X.ss.length uc)) (.int .i64 6) (.int .i64 0) (.int .i64 (-1)) (.int .i64 0) (by omega) (HBX.out _ (HTF.out.bel)).2.1 (HBX.out _ (HTF.out.bel)).2.2.1).1
    obtain ⟨AF,BF,FF,LF⟩:=S44
    have KF:Hid (OwnL ((((((((wr5.setCell ⟨w.heap.size+1+1,0,none⟩ (.int .i64 X.tm)).setCell ⟨w.heap.size+1+1,1,none⟩ (.int .i64 X.nx)).setCell ⟨w.heap.size+1+1,2,none⟩ ((.slice la ps.length lc))).setCell ⟨w.heap.size+1+1,3,none⟩ ((.slice ua X.ss.length uc))).setCell ⟨w.heap.size+1+1+1,0,none⟩ (.int .i64 6)).setCell ⟨w.heap.size+1+1+1,1,none⟩ (.int .i64 0)).setCell ⟨w.heap.size+1+1+1,2,none⟩ (.int .i64 (-1))).setCell ⟨w.heap.size+1+1+1,3,none⟩ (.int .i64 0)) w.heap.size (.slice la ps.length lc) ps∧(∀ p ∈ ps,Wa.OwnW ((((((((wr5.setCell ⟨w.heap.size+1+1,0,none⟩ (.int .i64 X.tm)).setCell ⟨w.heap.size+1+1,1,none⟩ (.int .i64 X.nx)).setCell ⟨w.heap.size+1+1,2,none⟩ ((.slice la ps.length lc))).setCell ⟨w.heap.size+1+1,3,none⟩ ((.slice ua X.ss.length uc))).setCell ⟨w.heap.size+1+1+1,0,none⟩ (.int .i64 6)).setCell ⟨w.heap.size+1+1+1,1,none⟩ (.int .i64 0)).setCell ⟨w.heap.size+1+1+1,2,none⟩ (.int .i64 (-1))).setCell ⟨w.heap.size+1+1+1,3,none⟩ (.int .i64 0)) w.heap.size (uV p) p.1.ws)∧Wa.OwnS ((((((((wr5.setCell ⟨w.heap.size+1+1,0,none⟩ (.int .i64 X.tm)).setCell ⟨w.heap.size+1+1,1,none⟩ (.int .i64 X.nx)).setCell ⟨w.heap.size+1+1,2,none⟩ ((.slice la ps.length lc))).setCell ⟨w.heap.size+1+1,3,none⟩ ((.slice ua X.ss.length uc))).setCell ⟨w.heap.size+1+1+1,0,none⟩ (.int .i64 6)).setCell ⟨w.heap.size+1+1+1,1,none⟩ (.int .i64 0)).setCell ⟨w.heap.size+1+1+1,2,none⟩ (.int .i64 (-1))).setCell ⟨w.heap.size+1+1+1,3,none⟩ (.int .i64 0)) w.heap.size (.slice ua X.ss.length uc) X.ss∧ps.map (·.1)=X.ls∧Apart ps):=TM.fin HTF.out (by omega) (fun j hj=>FF j (by omega) (by omega))
    have LFH:Hid (Below w.heap.size w ((((((((wr5.setCell ⟨w.heap.size+1+1,0,none⟩ (.int .i64 X.tm)).setCell ⟨w.heap.size+1+1,1,none⟩ (.int .i64 X.nx)).setCell ⟨w.heap.size+1+1,2,none⟩ ((.slice la ps.length lc))).setCell ⟨w.heap.size+1+1,3,none⟩ ((.slice ua X.ss.length uc))).setCell ⟨w.heap.size+1+1+1,0,none⟩ (.int .i64 6)).setCell ⟨w.heap.size+1+1+1,1,none⟩ (.int .i64 0)).setCell ⟨w.heap.size+1+1+1,2,none⟩ (.int .i64 (-1))).setCell ⟨w.heap.size+1+1+1,3,none⟩ (.int .i64 0))):=LF (HBX.out _ (HTF.out.bel)).2.2.2 (by omega) (by omega)
    generalize ((((((((wr5.setCell ⟨w.heap.size+1+1,0,none⟩ (.int .i64 X.tm)).setCell ⟨w.heap.size+1+1,1,none⟩ (.int .i64 X.nx)).setCell ⟨w.heap.size+1+1,2,none⟩ ((.slice la ps.length lc))).setCell ⟨w.heap.size+1+1,3,none⟩ ((.slice ua X.ss.length uc))).setCell ⟨w.heap.size+1+1+1,0,none⟩ (.int .i64 6)).setCell ⟨w.heap.size+1+1+1,1,none⟩ (.int .i64 0)).setCell ⟨w.heap.size+1+1+1,2,none⟩ (.int .i64 (-1))).setCell ⟨w.heap.size+1+1+1,3,none⟩ (.int .i64 0))=wf at AF BF KF LFH ⊢
    have d0:=(zAA AF 0 (x:=.int .i64 X.tm) rfl).1
    have d1:=(zAA AF 1 (x:=.int .i64 X.nx) rfl).1
    have d2:=(zAA AF 2 (x:=(.slice la ps.length lc)) rfl).1
    have d3:=(zAA AF 3 (x:=(.slice ua X.ss.length uc)) rfl).1
    have e0:=(zAA BF 0 (x:=.int .i64 6) rfl).1
    have e1:=(zAA BF 1 (x:=.int .i64 0) rfl).1
    have e2:=(zAA BF 2 (x:=.int .i64 (-1)) rfl).1
    have e3:=(zAA BF 3 (x:=.int .i64 0) rfl).1
    refine bodyPost_ret (v:=.tuple #[.agg #[.int .i64 X.tm,.int .i64 X.nx,(.slice la ps.length lc),(.slice ua X.ss.length uc)],.agg #[.int .i64 6,.int .i64 0,.int .i64 (-1),.int .i64 0]]) (by simp [results,Tryz.results57,go_sem,d0,d1,d2,d3,e0,e1,e2,e3]) rfl ?_
    refine ⟨⟨(.slice la ps.length lc),(.slice ua X.ss.length uc),ps,?_,KF.out.1,KF.out.2.1,?_,?_,KF.out.2.2.2.2⟩,(by first | exact LFH.out | exact LFH.out.drew)⟩
    ·rw [HAP.out];rfl
    ·rw [HAP.out];exact KF.out.2.2.1
    ·rw [HAP.out];exact KF.out.2.2.2.1
   have HAP:Hid (R=({ (doT X r).1 with ss:=putAt X.ss j (sn r (doT X r).2) },(doT X r).2)):=by show _=_;rw [HAP1,if_neg h6]
   clear HAP1
   have h6':((X.ss.length:Int) == 6)=false:=by simp;omega
   have y3:=(zAA (HX.out _ G5.out).hx 3 (x:=.slice ua X.ss.length uc) rfl).1
   go_upto_region 12 with fail
   clear y3
  all_goals
   obtain ⟨D,HD⟩ : ∃ D,Hid (doT X r=D):=⟨_,rfl⟩
   rw [HD.out] at HAP HDS
   have HDO:=l05Do_any (HX.out _ G5.out) HXO.out.1 HXO.out.2 r HRO.out
   rw [HD.out] at HDO
   have qr:=(HBX.out _ (HX.out _ G5.out).bel).1
   have c0:=(zAA qr 0 (x:=.int .i64 r.cl) rfl).1
   have c1:=(zAA qr 1 (x:=.int .i64 r.st) rfl).1
   have c2:=(zAA qr 2 (x:=.int .i64 r.kd) rfl).1
   have c3:=(zAA qr 3 (x:=.int .i64 r.le) rfl).1
   have c4:=(zAA qr 4 (x:=.string r.nm) rfl).1
   clear qr
   go_wp2_with fail
   refine HDO.mono ?_
   rintro e w5 ⟨rfl,⟨u2,u3,qs,t5⟩,_⟩
   obtain ⟨xa,xc,rfl⟩:=t5.ol.slice
   clear HDO c0 c1 c2 c3 c4
   have sA:(w5.alloc (.cells #[.int .i64 D.2.k,.int .i64 D.2.t,.int .i64 D.2.h,.int .i64 D.2.e] 38)).heap.size=w5.heap.size+1:=by simp
   have bA:=zAD w5 (.cells #[.int .i64 D.2.k,.int .i64 D.2.t,.int .i64 D.2.h,.int .i64 D.2.e] 38)
   have bS:=zAD (w5.alloc (.cells #[.int .i64 D.2.k,.int .i64 D.2.t,.int .i64 D.2.h,.int .i64 D.2.e] 38)) (.cells #[.int .i64 r.cl,.int .i64 r.st,.int .i64 D.2.k,.int .i64 D.2.t,.int .i64 D.2.h,.int .i64 D.2.e] 116)
   have HX6:Hid (∀ W,Below ((w5.alloc (.cells #[.int .i64 D.2.k,.int .i64 D.2.t,.int .i64 D.2.h,.int .i64 D.2.e] 38)).alloc (.cells #[.int .i64 r.cl,.int .i64 r.st,.int .i64 D.2.k,.int .i64 D.2.t,.int .i64 D.2.h,.int .i64 D.2.e] 116)).heap.size ((w5.alloc (.cells #[.int .i64 D.2.k,.int .i64 D.2.t,.int .i64 D.2.h,.int .i64 D.2.e] 38)).alloc (.cells #[.int .i64 r.cl,.int .i64 r.st,.int .i64 D.2.k,.int .i64 D.2.t,.int .i64 D.2.h,.int .i64 D.2.e] 116)) W→TM wA W wA.heap.size b D.1 (.slice xa qs.length xc) u3 qs∧W.heap[w5.heap.size]?=some (.cells #[.int .i64 D.2.k,.int .i64 D.2.t,.int .i64 D.2.h,.int .i64 D.2.e] 38 (0,0))∧W.heap[w5.heap.size+1]?=some (.cells #[.int .i64 r.cl,.int .i64 r.st,.int .i64 D.2.k,.int .i64 D.2.t,.int .i64 D.2.h,.int .i64 D.2.e] 116 (0,0))):=fun W hW=>by
    have b6:=bA.trans (bS.mono bA.size)
    refine ⟨t5.up (b6.trans (hW.mono b6.size)),?_,?_⟩
    ·rw [hW.block _ (by simp;omega),bS.block _ (by simp)];exact zAJ _ _ _
    ·rw [hW.block _ (by simp),← sA];exact zAJ _ _ _
   have hq5:=(HBX.out _ (t5.up bA).bel).1
   have c0:=(zAA hq5 0 (x:=.int .i64 r.cl) rfl).1
   have c1:=(zAA hq5 1 (x:=.int .i64 r.st) rfl).1
   have hw5:wA.heap.size≤w5.heap.size:=t5.bel.size
   clear t5 bA bS sA hq5
   go_upto_region 14 with fail
   clear c0 c1
   generalize ((w5.alloc (.cells #[.int .i64 D.2.k,.int .i64 D.2.t,.int .i64 D.2.h,.int .i64 D.2.e] 38)).alloc (.cells #[.int .i64 r.cl,.int .i64 r.st,.int .i64 D.2.k,.int .i64 D.2.t,.int .i64 D.2.h,.int .i64 D.2.e] 116))=w6 at HX6 ⊢
   generalize w5.heap.size=ab at HX6 hw5 ⊢
   obtain ⟨U,HU⟩ : ∃ U:Tab,Hid ({ D.1 with ss:=putAt X.ss j (sn r D.2) }=U):=⟨_,rfl⟩
   rw [HU.out] at HAP
   obtain ⟨da,dc,hd3⟩:=OwnS.slice (HX6.out w6 (Below.refl _ _)).1.os
   rw [HDS.out] at hd3
   subst hd3
   have hl6:ab+1<w6.heap.size:=(Array.getElem?_eq_some_iff.1 (HX6.out w6 (Below.refl _ _)).2.2).1
   have HS6:Hid (∀ W,Below w6.heap.size w6 W→(W.cell? ⟨b,3,none⟩=some (.slice da X.ss.length dc)∧W.cell? ⟨ab+1,0,none⟩=some (.int .i64 r.cl)∧W.cell? ⟨ab+1,1,none⟩=some (.int .i64 r.st)∧W.cell? ⟨ab+1,2,none⟩=some (.int .i64 D.2.k)∧W.cell? ⟨ab+1,3,none⟩=some (.int .i64 D.2.t)∧W.cell? ⟨ab+1,4,none⟩=some (.int .i64 D.2.h)∧W.cell? ⟨ab+1,5,none⟩=some (.int .i64 D.2.e))):=fun W hW=>by
    obtain ⟨e1,_,e3⟩:=HX6.out W hW
    exact ⟨(zAA e1.hx 3 rfl).1,(zAA e3 0 rfl).1,(zAA e3 1 rfl).1,(zAA e3 2 rfl).1,(zAA e3 3 rfl).1,(zAA e3 4 rfl).1,(zAA e3 5 rfl).1⟩
   have HOS:Hid (∀ W,Below w6.heap.size w6 W→Wa.OwnS W wA.heap.size (.slice da X.ss.length dc) X.ss):=fun W hW=>by
    have:=(HX6.out W hW).1.os
    rw [HDS.out] at this
    exact this
   have hjd:j≤dc:=by
    rcases (HOS.out w6 (Below.refl _ _)).2 with ⟨e,h1⟩ | ⟨g',cap,cur,e,_,_,hc,_⟩
    ·omega
    ·cases e;omega
   have hjI:(j:Int)≤(dc:Int):=by omega
   have hjN:(j:Int)≤(X.ss.length:Int):=by omega
   have hjn0:¬ (j:Int)<0:=by omega
   clear hl6
   go_upto_region 16 with fail
   refine wp_region_noPanic ?_
   refine zAm 15 (S:=fun W=>(W.cell? ⟨b,3,none⟩=some (.slice da X.ss.length dc)∧W.cell? ⟨ab+1,0,none⟩=some (.int .i64 r.cl)∧W.cell? ⟨ab+1,1,none⟩=some (.int .i64 r.st)∧W.cell? ⟨ab+1,2,none⟩=some (.int .i64 D.2.k)∧W.cell? ⟨ab+1,3,none⟩=some (.int .i64 D.2.t)∧W.cell? ⟨ab+1,4,none⟩=some (.int .i64 D.2.h)∧W.cell? ⟨ab+1,5,none⟩=some (.int .i64 D.2.e))) (by kernel_rfl) (HS6.out _ (Below.refl w6.heap.size w6).drew) (fun hHeld=>?_)
   refine tz 1 ⟨some 111,.fieldAddr 30 (.tmp 8) 3,0,"l05_locks.go:204",#[],none⟩ ?_ ?_ hHeld ?_
   rotate_left
   ·rintro wz ⟨y3,k0,k1,k2,k3,k4,k5⟩;go_simp;try (with_reducible rfl)
   simp only [Act.put,sA,sB,sC]
   refine tz 2 ⟨some 112,.load 28 (.tmp 111),28,"l05_locks.go:204",#[⟨1,.data⟩],none⟩ ?_ ?_ hHeld ?_
   rotate_left
   ·rintro wz ⟨y3,k0,k1,k2,k3,k4,k5⟩;go_simp;try (with_reducible rfl)
   simp only [Act.put,sA,sB,sC]
   refine tz 3 ⟨some 113,.move (.tmp 9),3,"l05_locks.go:204",#[],none⟩ ?_ ?_ hHeld ?_
   rotate_left
   ·rintro wz ⟨y3,k0,k1,k2,k3,k4,k5⟩;go_simp;try (with_reducible rfl)
   simp only [Act.put,sA,sB,sC]
   refine tz 4 ⟨some 114,.slice 28 (.tmp 112) none (some (.tmp 113)) none,28,"l05_locks.go:204",#[⟨2,.data⟩,⟨3,.data⟩],none⟩ ?_ ?_ hHeld ?_
   rotate_left
   ·rintro wz ⟨y3,k0,k1,k2,k3,k4,k5⟩;go_simp;try (with_reducible rfl)
   simp only [Act.put,sA,sB,sC]
   refine tz 6 ⟨some 116,.load 116 (.tmp 12),116,"l05_locks.go:204",#[],none⟩ ?_ ?_ hHeld ?_
   rotate_left
   ·rintro wz ⟨y3,k0,k1,k2,k3,k4,k5⟩;go_simp;try (with_reducible rfl)
   simp only [Act.put,sA,sB,sC]
   refine tz 9 ⟨some 119,.fieldAddr 30 (.tmp 8) 3,0,"l05_locks.go:204",#[],none⟩ ?_ ?_ hHeld ?_
   rotate_left
   ·rintro wz ⟨y3,k0,k1,k2,k3,k4,k5⟩;go_simp;try (with_reducible rfl)
   simp only [Act.put,sA,sB,sC]
   refine tz 10 ⟨some 120,.load 28 (.tmp 119),28,"l05_locks.go:204",#[⟨9,.data⟩],none⟩ ?_ ?_ hHeld ?_
   rotate_left
   ·rintro wz ⟨y3,k0,k1,k2,k3,k4,k5⟩;go_simp;try (with_reducible rfl)
   simp only [Act.put,sA,sB,sC]
   refine tz 11 ⟨some 121,.move (.tmp 9),3,"l05_locks.go:204",#[],none⟩ ?_ ?_ hHeld ?_
   rotate_left
   ·rintro wz ⟨y3,k0,k1,k2,k3,k4,k5⟩;go_simp;try (with_reducible rfl)
   simp only [Act.put,sA,sB,sC]
   refine tz 12 ⟨some 122,.slice 28 (.tmp 120) (some (.tmp 121)) none none,28,"l05_locks.go:204",#[⟨10,.data⟩,⟨11,.data⟩],none⟩ (.slice (behindS da dc j) (X.ss.length - j) (dc - j)) ?_ hHeld ?_
   ·rintro wz ⟨y3,k0,k1,k2,k3,k4,k5⟩;unfold behindS;go_simp;try (with_reducible rfl)
   simp only [Act.put,sA,sB,sC]
   refine zAN (rs:=[0,7]) (by kernel_rfl) (by simp) ?_
   refine (ReadyZ.cons (o:=⟨some 110,.buildSlice 28 0 #[],28,"l05_locks.go:204",#[],none⟩) rfl (fun K hK=>?_) (ReadyZ.cons (o:=⟨some 117,.buildSlice 28 1 #[(0,Operand.tmp 116)],28,"l05_locks.go:204",#[⟨6,.data⟩],none⟩) rfl (fun K hK=>?_) ReadyZ.nil))
   focus
    go_simp
    refine hK.out _ _ ?_ (fun hHeld=>?_)
    ·exact HS6.out _ ((Below.refl w6.heap.size w6).drew.alloc (Below.refl w6.heap.size w6).drew.size _)
    clear hK K
    (try simp only [Act.put,sA,sB,sC])
    have oE:Wa.OwnS (w6.drew.alloc (.cells #[] 116)) w6.heap.size (.slice (some ⟨w6.heap.size,0,none⟩) 0 0) []:=(by rw [show (w6.heap.size:Nat)=w6.drew.heap.size by simp];exact OwnS.made _ _ (Below.refl w6.heap.size w6).drew.size)
    have bE:Below w6.heap.size w6 (w6.drew.alloc (.cells #[] 116)):=((Below.refl w6.heap.size w6).drew.alloc (Below.refl w6.heap.size w6).drew.size _)
    refine zAN (rs:=[5,7]) (by kernel_rfl) (by simp) ?_
    refine (ReadyZ.cons (o:=⟨some 115,.call { callee:=Callee.builtin Builtin.append,args:=#[Operand.tmp 110,Operand.tmp 114],argTypes:=#[28,28] },28,"l05_locks.go:204",#[⟨0,.data⟩,⟨4,.data⟩],none⟩) rfl (fun K hK=>?_) (ReadyZ.cons (o:=⟨some 117,.buildSlice 28 1 #[(0,Operand.tmp 116)],28,"l05_locks.go:204",#[⟨6,.data⟩],none⟩) rfl (fun K hK=>?_) ReadyZ.nil))
    focus
     refine step_sk (by rfl) _ _ 28 (by rfl) Tryz.underlying28 hsi0 sz0 sz1 sz2 _ oE (src_take2S (HOS.out _ bE) (k:=j) (by omega)) bE.size (by simp;omega) (by rfl) (by rfl) ?_
     intro v57 w57 o57 b57 f57
     have c57:Below w6.heap.size w6 w57:=bE.trans b57
     refine hK.out _ _ ?_ (fun hHeld=>?_)
     ·exact HS6.out _ c57
     clear hK K
     (try simp only [Act.put,sA,sB,sC])
     refine zAN (rs:=[7]) (by kernel_rfl) (by simp) ?_
     refine (ReadyZ.cons (o:=⟨some 117,.buildSlice 28 1 #[(0,Operand.tmp 116)],28,"l05_locks.go:204",#[⟨6,.data⟩],none⟩) rfl (fun K hK=>?_) ReadyZ.nil)
     go_simp
     refine hK.out _ _ ?_ (fun hHeld=>?_)
     ·exact HS6.out _ (c57.alloc c57.size _)
     clear hK K
     (try simp only [Act.put,sA,sB,sC])
     have qY:SrcS (w57.alloc (.cells #[.int .i64 r.cl,.int .i64 r.st,.int .i64 D.2.k,.int .i64 D.2.t,.int .i64 D.2.h,.int .i64 D.2.e] 116)) (.slice (some ⟨w57.heap.size,0,none⟩) 1 1) [sn r D.2]:=(by rw [show (w57.heap.size:Nat)=w57.heap.size by simp];exact src_oneS (sn r D.2))
     have bY:Below w6.heap.size w6 (w57.alloc (.cells #[.int .i64 r.cl,.int .i64 r.st,.int .i64 D.2.k,.int .i64 D.2.t,.int .i64 D.2.h,.int .i64 D.2.e] 116)):=(c57.alloc c57.size _)
     have oY:=OwnS.below o57 (zAD _ (.cells #[.int .i64 r.cl,.int .i64 r.st,.int .i64 D.2.k,.int .i64 D.2.t,.int .i64 D.2.h,.int .i64 D.2.e] 116))
     refine zAN (rs:=[8]) (by kernel_rfl) (by simp) ?_
     refine (ReadyZ.cons (o:=⟨some 118,.call { callee:=Callee.builtin Builtin.append,args:=#[Operand.tmp 115,Operand.tmp 117],argTypes:=#[28,28] },28,"l05_locks.go:204",#[⟨5,.data⟩,⟨7,.data⟩,⟨5,.chain⟩],none⟩) rfl (fun K hK=>?_) ReadyZ.nil)
     refine step_sk (by rfl) _ _ 28 (by rfl) Tryz.underlying28 hsi0 sz0 sz1 sz2 _ oY qY bY.size (by simp;omega) (by rfl) (by rfl) ?_
     intro v60 w60 o60 b60 f60
     have c60:Below w6.heap.size w6 w60:=bY.trans b60
    rotate_left
    focus
     go_simp
     refine hK.out _ _ ?_ (fun hHeld=>?_)
     ·exact HS6.out _ (bE.alloc bE.size _)
     clear hK K
     (try simp only [Act.put,sA,sB,sC])
     have qY:SrcS ((w6.drew.alloc (.cells #[] 116)).alloc (.cells #[.int .i64 r.cl,.int .i64 r.st,.int .i64 D.2.k,.int .i64 D.2.t,.int .i64 D.2.h,.int .i64 D.2.e] 116)) (.slice (some ⟨w6.heap.size+1,0,none⟩) 1 1) [sn r D.2]:=(by rw [show (w6.heap.size+1:Nat)=(w6.drew.alloc (.cells #[] 116)).heap.size by simp];exact src_oneS (sn r D.2))
     have bY:Below w6.heap.size w6 ((w6.drew.alloc (.cells #[] 116)).alloc (.cells #[.int .i64 r.cl,.int .i64 r.st,.int .i64 D.2.k,.int .i64 D.2.t,.int .i64 D.2.h,.int .i64 D.2.e] 116)):=(bE.alloc bE.size _)
     have oY:=OwnS.below oE (zAD _ (.cells #[.int .i64 r.cl,.int .i64 r.st,.int .i64 D.2.k,.int .i64 D.2.t,.int .i64 D.2.h,.int .i64 D.2.e] 116))
     refine zAN (rs:=[5]) (by kernel_rfl) (by simp) ?_
     refine (ReadyZ.cons (o:=⟨some 115,.call { callee:=Callee.builtin Builtin.append,args:=#[Operand.tmp 110,Operand.tmp 114],argTypes:=#[28,28] },28,"l05_locks.go:204",#[⟨0,.data⟩,⟨4,.data⟩],none⟩) rfl (fun K hK=>?_) ReadyZ.nil)
     refine step_sk (by rfl) _ _ 28 (by rfl) Tryz.underlying28 hsi0 sz0 sz1 sz2 _ oY (src_take2S (HOS.out _ bY) (k:=j) (by omega)) bY.size (by simp;omega) (by rfl) (by rfl) ?_
     intro v57 w57 o57 b57 f57
     have c57:Below w6.heap.size w6 w57:=bY.trans b57
     have q57:=SrcS.kept qY (W':=w57) (fun b hb=>f57 b (by cases hb;simp <;> omega) (by cases hb;simp [Value.ownBlock]))
     refine hK.out _ _ ?_ (fun hHeld=>?_)
     ·exact HS6.out _ c57
     clear hK K
     (try simp only [Act.put,sA,sB,sC])
     refine zAN (rs:=[8]) (by kernel_rfl) (by simp) ?_
     refine (ReadyZ.cons (o:=⟨some 118,.call { callee:=Callee.builtin Builtin.append,args:=#[Operand.tmp 115,Operand.tmp 117],argTypes:=#[28,28] },28,"l05_locks.go:204",#[⟨5,.data⟩,⟨7,.data⟩,⟨5,.chain⟩],none⟩) rfl (fun K hK=>?_) ReadyZ.nil)
     refine step_sk (by rfl) _ _ 28 (by rfl) Tryz.underlying28 hsi0 sz0 sz1 sz2 _ o57 q57 c57.size (by simp;omega) (by rfl) (by rfl) ?_
     intro v60 w60 o60 b60 f60
     have c60:Below w6.heap.size w6 w60:=c57.trans b60
    rotate_left
   rotate_left 2
   focus
    go_simp
    refine hK.out _ _ ?_ (fun hHeld=>?_)
    ·exact HS6.out _ ((Below.refl w6.heap.size w6).drew.alloc (Below.refl w6.heap.size w6).drew.size _)
    clear hK K
    (try simp only [Act.put,sA,sB,sC])
    have qY:SrcS (w6.drew.alloc (.cells #[.int .i64 r.cl,.int .i64 r.st,.int .i64 D.2.k,.int .i64 D.2.t,.int .i64 D.2.h,.int .i64 D.2.e] 116)) (.slice (some ⟨w6.heap.size,0,none⟩) 1 1) [sn r D.2]:=(by rw [show (w6.heap.size:Nat)=w6.drew.heap.size by simp];exact src_oneS (sn r D.2))
    have bY:Below w6.heap.size w6 (w6.drew.alloc (.cells #[.int .i64 r.cl,.int .i64 r.st,.int .i64 D.2.k,.int .i64 D.2.t,.int .i64 D.2.h,.int .i64 D.2.e] 116)):=((Below.refl w6.heap.size w6).drew.alloc (Below.refl w6.heap.size w6).drew.size _)
    refine zAN (rs:=[0]) (by kernel_rfl) (by simp) ?_
    refine (ReadyZ.cons (o:=⟨some 110,.buildSlice 28 0 #[],28,"l05_locks.go:204",#[],none⟩) rfl (fun K hK=>?_) ReadyZ.nil)
    go_simp
    refine hK.out _ _ ?_ (fun hHeld=>?_)
    ·exact HS6.out _ (bY.alloc bY.size _)
    clear hK K
    (try simp only [Act.put,sA,sB,sC])
    have oE:Wa.OwnS ((w6.drew.alloc (.cells #[.int .i64 r.cl,.int .i64 r.st,.int .i64 D.2.k,.int .i64 D.2.t,.int .i64 D.2.h,.int .i64 D.2.e] 116)).alloc (.cells #[] 116)) w6.heap.size (.slice (some ⟨w6.heap.size+1,0,none⟩) 0 0) []:=(by rw [show (w6.heap.size+1:Nat)=(w6.drew.alloc (.cells #[.int .i64 r.cl,.int .i64 r.st,.int .i64 D.2.k,.int .i64 D.2.t,.int .i64 D.2.h,.int .i64 D.2.e] 116)).heap.size by simp];exact OwnS.made _ _ bY.size)
    have bE:Below w6.heap.size w6 ((w6.drew.alloc (.cells #[.int .i64 r.cl,.int .i64 r.st,.int .i64 D.2.k,.int .i64 D.2.t,.int .i64 D.2.h,.int .i64 D.2.e] 116)).alloc (.cells #[] 116)):=(bY.alloc bY.size _)
    have qE:=SrcS.below qY (zAD (w6.drew.alloc (.cells #[.int .i64 r.cl,.int .i64 r.st,.int .i64 D.2.k,.int .i64 D.2.t,.int .i64 D.2.h,.int .i64 D.2.e] 116)) (.cells #[] 116)) (fun b hb=>by cases hb;simp <;> omega)
    refine zAN (rs:=[5]) (by kernel_rfl) (by simp) ?_
    refine (ReadyZ.cons (o:=⟨some 115,.call { callee:=Callee.builtin Builtin.append,args:=#[Operand.tmp 110,Operand.tmp 114],argTypes:=#[28,28] },28,"l05_locks.go:204",#[⟨0,.data⟩,⟨4,.data⟩],none⟩) rfl (fun K hK=>?_) ReadyZ.nil)
    refine step_sk (by rfl) _ _ 28 (by rfl) Tryz.underlying28 hsi0 sz0 sz1 sz2 _ oE (src_take2S (HOS.out _ bE) (k:=j) (by omega)) bE.size (by simp;omega) (by rfl) (by rfl) ?_
    intro v57 w57 o57 b57 f57
    have c57:Below w6.heap.size w6 w57:=bE.trans b57
    have q57:=SrcS.kept qE (W':=w57) (fun b hb=>f57 b (by cases hb;simp <;> omega) (by cases hb;simp [Value.ownBlock]))
    refine hK.out _ _ ?_ (fun hHeld=>?_)
    ·exact HS6.out _ c57
    clear hK K
    (try simp only [Act.put,sA,sB,sC])
    refine zAN (rs:=[8]) (by kernel_rfl) (by simp) ?_
    refine (ReadyZ.cons (o:=⟨some 118,.call { callee:=Callee.builtin Builtin.append,args:=#[Operand.tmp 115,Operand.tmp 117],argTypes:=#[28,28] },28,"l05_locks.go:204",#[⟨5,.data⟩,⟨7,.data⟩,⟨5,.chain⟩],none⟩) rfl (fun K hK=>?_) ReadyZ.nil)
    refine step_sk (by rfl) _ _ 28 (by rfl) Tryz.underlying28 hsi0 sz0 sz1 sz2 _ o57 q57 c57.size (by simp;omega) (by rfl) (by rfl) ?_
    intro v60 w60 o60 b60 f60
    have c60:Below w6.heap.size w6 w60:=c57.trans b60
   rotate_left
   all_goals
    refine hK.out _ _ ?_ (fun hHeld=>?_)
    ·exact HS6.out _ c60
    clear hK K
    (try simp only [Act.put,sA,sB,sC])
    refine zAN (rs:=[13]) (by kernel_rfl) (by simp) ?_
    refine (ReadyZ.cons (o:=⟨some 123,.call { callee:=Callee.builtin Builtin.append,args:=#[Operand.tmp 118,Operand.tmp 122],argTypes:=#[28,28] },28,"l05_locks.go:204",#[⟨8,.data⟩,⟨12,.data⟩,⟨8,.chain⟩],none⟩) rfl (fun K hK=>?_) ReadyZ.nil)
    refine step_sk (by rfl) _ _ 28 (by rfl) Tryz.underlying28 hsi0 sz0 sz1 sz2 _ o60 (src_drop2S (HOS.out _ c60) (k:=j) (by omega)) c60.size (by simp;omega) (by rfl) (by rfl) ?_
    intro v67 w67 o67 b67 f67
    replace o67:Wa.OwnS w67 w6.heap.size v67 (putAt X.ss j (sn r D.2)):=(by unfold putAt;simpa using o67)
    obtain ⟨a67,k67,rfl⟩:=OwnS.slice o67
    have c67:Below w6.heap.size w6 w67:=c60.trans b67
    refine hK.out _ _ ?_ (fun hHeld=>?_)
    ·exact HS6.out _ c67
    clear hK K
    (try simp only [Act.put,sA,sB,sC])
    refine tz 14 ⟨some 124,.fieldAddr 30 (.tmp 8) 3,0,"l05_locks.go:204",#[⟨0,.phase⟩,⟨1,.phase⟩,⟨2,.phase⟩,⟨3,.phase⟩,⟨4,.phase⟩,⟨5,.phase⟩,⟨6,.phase⟩,⟨7,.phase⟩,⟨8,.phase⟩,⟨9,.phase⟩,⟨10,.phase⟩,⟨11,.phase⟩,⟨12,.phase⟩,⟨13,.phase⟩],none⟩ ?_ ?_ hHeld ?_
    rotate_left
    ·rintro wz ⟨y3,k0,k1,k2,k3,k4,k5⟩;go_simp;try (with_reducible rfl)
    simp only [Act.put,sA,sB,sC]
    refine zAN (rs:=[15]) (by kernel_rfl) (by simp) ?_
    refine ReadyZ.last (o:=⟨none,.store 28 (.tmp 124) (.tmp 123),0,"l05_locks.go:204",#[⟨14,.data⟩,⟨13,.data⟩,⟨13,.chain⟩,⟨0,.phase⟩,⟨1,.phase⟩,⟨2,.phase⟩,⟨3,.phase⟩,⟨4,.phase⟩,⟨5,.phase⟩,⟨6,.phase⟩,⟨7,.phase⟩,⟨8,.phase⟩,⟨9,.phase⟩,⟨10,.phase⟩,⟨11,.phase⟩,⟨12,.phase⟩,⟨13,.phase⟩],none⟩) rfl (fun K hK=>?_)
    have s67:=(HX6.out _ c67).1
    obtain ⟨z2,f2⟩:=zAA s67.hx 3 (x:=.slice da X.ss.length dc) rfl
    go_simp
    refine hK.out _ _ ?_
    clear hK K
    (try simp only [Act.put,sA,sB,sC])
    refine zBa (by kernel_rfl) ?_ _
    refine NoPanic.normal ?_
    have h66:=HX6.out w6 (Below.refl _ _)
    have T7:=h66.1.sreloc c67 (OwnS.mono o67 h66.1.size)
    have h67:=HX6.out _ c67
    have Q7:Hid ((w67.setCell ⟨b,3,none⟩ (.slice a67 (putAt X.ss j (sn r D.2)).length k67)).heap[ab]?=some (.cells #[.int .i64 D.2.k,.int .i64 D.2.t,.int .i64 D.2.h,.int .i64 D.2.e] 38 (0,0))):=(zAE (zAK h67.2.1 h67.1.hx (by decide)) _ _).trans h67.2.1
    have HTF:Hid (TM wA (w67.setCell ⟨b,3,none⟩ (.slice a67 (putAt X.ss j (sn r D.2)).length k67)) wA.heap.size b U (.slice xa qs.length xc) (.slice a67 (putAt X.ss j (sn r D.2)).length k67) qs):=by
     rw [← HU.out];exact T7
    clear T7 h66 h67 s67 z2 f2 c67 o67 hHeld HX6 HS6 HOS
    generalize w67.setCell ⟨b,3,none⟩ (.slice a67 (putAt X.ss j (sn r D.2)).length k67)=w7 at HTF Q7 ⊢
    have HS7:Hid (∀ W:World,(∀ i,wA.heap.size≤i→W.heap[i]?=w7.heap[i]?)→(W.cell? ⟨b,0,none⟩=some (.int .i64 U.tm)∧W.cell? ⟨b,1,none⟩=some (.int .i64 U.nx)∧W.cell? ⟨b,2,none⟩=some (.slice xa qs.length xc)∧W.cell? ⟨b,3,none⟩=some (.slice a67 (putAt X.ss j (sn r D.2)).length k67))∧W.cell? ⟨ab,0,none⟩=some (.int .i64 D.2.k)∧W.cell? ⟨ab,1,none⟩=some (.int .i64 D.2.t)∧W.cell? ⟨ab,2,none⟩=some (.int .i64 D.2.h)∧W.cell? ⟨ab,3,none⟩=some (.int .i64 D.2.e)):=fun W hW=>by
     have e1:=(hW b hbA).trans HTF.out.hx
     have e2:=(hW ab hw5).trans Q7.out
     exact ⟨⟨(zAA e1 0 rfl).1,(zAA e1 1 rfl).1,(zAA e1 2 rfl).1,(zAA e1 3 rfl).1⟩,(zAA e2 0 rfl).1,(zAA e2 1 rfl).1,(zAA e2 2 rfl).1,(zAA e2 3 rfl).1⟩
    go_upto_region 17 with fail
    have hbx:=HBX.out _ HTF.out.bel
    obtain ⟨zt0,ft0⟩:=zAA hbx.2.1 0 (x:=.int .i64 0) rfl
    obtain ⟨zt1,ft1⟩:=zAA hbx.2.1 1 (x:=.int .i64 0) rfl
    obtain ⟨zt2,ft2⟩:=zAA hbx.2.1 2 (x:=.slice none 0 0) rfl
    obtain ⟨zt3,ft3⟩:=zAA hbx.2.1 3 (x:=.slice none 0 0) rfl
    obtain ⟨za0,fa0⟩:=zAA hbx.2.2.1 0 (x:=.int .i64 0) rfl
    obtain ⟨za1,fa1⟩:=zAA hbx.2.2.1 1 (x:=.int .i64 0) rfl
    obtain ⟨za2,fa2⟩:=zAA hbx.2.2.1 2 (x:=.int .i64 0) rfl
    obtain ⟨za3,fa3⟩:=zAA hbx.2.2.1 3 (x:=.int .i64 0) rfl
    clear hbx
    refine wp_region_noPanic ?_
    refine zAm 3 (S:=fun W=>(W.cell? ⟨b,0,none⟩=some (.int .i64 U.tm)∧W.cell? ⟨b,1,none⟩=some (.int .i64 U.nx)∧W.cell? ⟨b,2,none⟩=some (.slice xa qs.length xc)∧W.cell? ⟨b,3,none⟩=some (.slice a67 (putAt X.ss j (sn r D.2)).length k67))∧W.cell? ⟨ab,0,none⟩=some (.int .i64 D.2.k)∧W.cell? ⟨ab,1,none⟩=some (.int .i64 D.2.t)∧W.cell? ⟨ab,2,none⟩=some (.int .i64 D.2.h)∧W.cell? ⟨ab,3,none⟩=some (.int .i64 D.2.e)) (by kernel_rfl) (HS7.out _ (fun _ _=>rfl)) (fun hHeld=>?_)
    refine tz 0 ⟨some 125,.load 30 (.tmp 8),30,"l05_locks.go:206",#[],none⟩ ?_ ?_ hHeld ?_
    rotate_left
    ·rintro wz ⟨⟨y0,y1,y2,y3⟩,y4,y5,y6,y7⟩;go_simp;try (with_reducible rfl)
    simp only [Act.put,sA,sB,sC]
    refine tz 1 ⟨some 126,.load 38 (.tmp 11),38,"l05_locks.go:206",#[⟨2,.gcOnly .lateStores⟩],none⟩ ?_ ?_ hHeld ?_
    rotate_left
    ·rintro wz ⟨⟨y0,y1,y2,y3⟩,y4,y5,y6,y7⟩;go_simp;try (with_reducible rfl)
    simp only [Act.put,sA,sB,sC]
    refine zAN (rs:=[2]) (by kernel_rfl) (by simp) ?_
    refine (ReadyZ.cons (o:=⟨none,.store 30 (.tmp 6) (.tmp 125),0,"l05_locks.go:206",#[⟨0,.data⟩,⟨0,.phase⟩,⟨1,.textOnly .lateStores⟩],none⟩) rfl (fun K hK=>?_) ReadyZ.nil)
    go_simp
    refine hK.out _ _ ?_ (fun hHeld=>?_)
    ·exact HS7.out _ (fun i hi=>far4 (w:=w7.drew) (by omega) _ _ _ _)
    clear hK K
    (try simp only [Act.put,sA,sB,sC])
    refine zAN (rs:=[3]) (by kernel_rfl) (by simp) ?_
    refine ReadyZ.last (o:=⟨none,.store 38 (.tmp 7) (.tmp 126),0,"l05_locks.go:206",#[⟨1,.data⟩,⟨2,.chain⟩,⟨0,.phase⟩,⟨1,.phase⟩,⟨2,.phase⟩],none⟩) rfl (fun K hK=>?_)
    go_simp
    refine hK.out _ _ ?_
    clear hK K
    (try simp only [Act.put,sA,sB,sC])
    refine zBa (by kernel_rfl) ?_ _
    refine NoPanic.normal ?_
    clear hHeld HS7
    go_wp2_with fail
    have S44:=(set44 (w:=w7) (a:=w.heap.size+1+1) (b:=w.heap.size+1+1+1) (.int .i64 0) (.int .i64 0) (.slice none 0 0) (.slice none 0 0) (.int .i64 0) (.int .i64 0) (.int .i64 0) (.int .i64 0) (.int .i64 U.tm) (.int .i64 U.nx) ((.slice xa qs.length xc)) ((.slice a67 (putAt X.ss j (sn r D.2)).length k67)) (.int .i64 D.2.k) (.int .i64 D.2.t) (.int .i64 D.2.h) (.int .i64 D.2.e) (by omega) (HBX.out _ (HTF.out.bel)).2.1 (HBX.out _ (HTF.out.bel)).2.2.1).1
    obtain ⟨AF,BF,FF,LF⟩:=S44
    have KF:Hid (OwnL ((((((((w7.setCell ⟨w.heap.size+1+1,0,none⟩ (.int .i64 U.tm)).setCell ⟨w.heap.size+1+1,1,none⟩ (.int .i64 U.nx)).setCell ⟨w.heap.size+1+1,2,none⟩ ((.slice xa qs.length xc))).setCell ⟨w.heap.size+1+1,3,none⟩ ((.slice a67 (putAt X.ss j (sn r D.2)).length k67))).setCell ⟨w.heap.size+1+1+1,0,none⟩ (.int .i64 D.2.k)).setCell ⟨w.heap.size+1+1+1,1,none⟩ (.int .i64 D.2.t)).setCell ⟨w.heap.size+1+1+1,2,none⟩ (.int .i64 D.2.h)).setCell ⟨w.heap.size+1+1+1,3,none⟩ (.int .i64 D.2.e)) w.heap.size (.slice xa qs.length xc) qs∧(∀ p ∈ qs,Wa.OwnW ((((((((w7.setCell ⟨w.heap.size+1+1,0,none⟩ (.int .i64 U.tm)).setCell ⟨w.heap.size+1+1,1,none⟩ (.int .i64 U.nx)).setCell ⟨w.heap.size+1+1,2,none⟩ ((.slice xa qs.length xc))).setCell ⟨w.heap.size+1+1,3,none⟩ ((.slice a67 (putAt X.ss j (sn r D.2)).length k67))).setCell ⟨w.heap.size+1+1+1,0,none⟩ (.int .i64 D.2.k)).setCell ⟨w.heap.size+1+1+1,1,none⟩ (.int .i64 D.2.t)).setCell ⟨w.heap.size+1+1+1,2,none⟩ (.int .i64 D.2.h)).setCell ⟨w.heap.size+1+1+1,3,none⟩ (.int .i64 D.2.e)) w.heap.size (uV p) p.1.ws)∧Wa.OwnS ((((((((w7.setCell ⟨w.heap.size+1+1,0,none⟩ (.int .i64 U.tm)).setCell ⟨w.heap.size+1+1,1,none⟩ (.int .i64 U.nx)).setCell ⟨w.heap.size+1+1,2,none⟩ ((.slice xa qs.length xc))).setCell ⟨w.heap.size+1+1,3,none⟩ ((.slice a67 (putAt X.ss j (sn r D.2)).length k67))).setCell ⟨w.heap.size+1+1+1,0,none⟩ (.int .i64 D.2.k)).setCell ⟨w.heap.size+1+1+1,1,none⟩ (.int .i64 D.2.t)).setCell ⟨w.heap.size+1+1+1,2,none⟩ (.int .i64 D.2.h)).setCell ⟨w.heap.size+1+1+1,3,none⟩ (.int .i64 D.2.e)) w.heap.size (.slice a67 (putAt X.ss j (sn r D.2)).length k67) U.ss∧qs.map (·.1)=U.ls∧Apart qs):=TM.fin HTF.out (by omega) (fun j hj=>FF j (by omega) (by omega))
    have LFH:Hid (Below w.heap.size w ((((((((w7.setCell ⟨w.heap.size+1+1,0,none⟩ (.int .i64 U.tm)).setCell ⟨w.heap.size+1+1,1,none⟩ (.int .i64 U.nx)).setCell ⟨w.heap.size+1+1,2,none⟩ ((.slice xa qs.length xc))).setCell ⟨w.heap.size+1+1,3,none⟩ ((.slice a67 (putAt X.ss j (sn r D.2)).length k67))).setCell ⟨w.heap.size+1+1+1,0,none⟩ (.int .i64 D.2.k)).setCell ⟨w.heap.size+1+1+1,1,none⟩ (.int .i64 D.2.t)).setCell ⟨w.heap.size+1+1+1,2,none⟩ (.int .i64 D.2.h)).setCell ⟨w.heap.size+1+1+1,3,none⟩ (.int .i64 D.2.e))):=LF (HBX.out _ (HTF.out.bel)).2.2.2 (by omega) (by omega)
    generalize ((((((((w7.setCell ⟨w.heap.size+1+1,0,none⟩ (.int .i64 U.tm)).setCell ⟨w.heap.size+1+1,1,none⟩ (.int .i64 U.nx)).setCell ⟨w.heap.size+1+1,2,none⟩ ((.slice xa qs.length xc))).setCell ⟨w.heap.size+1+1,3,none⟩ ((.slice a67 (putAt X.ss j (sn r D.2)).length k67))).setCell ⟨w.heap.size+1+1+1,0,none⟩ (.int .i64 D.2.k)).setCell ⟨w.heap.size+1+1+1,1,none⟩ (.int .i64 D.2.t)).setCell ⟨w.heap.size+1+1+1,2,none⟩ (.int .i64 D.2.h)).setCell ⟨w.heap.size+1+1+1,3,none⟩ (.int .i64 D.2.e))=wf at AF BF KF LFH ⊢
    have d0:=(zAA AF 0 (x:=.int .i64 U.tm) rfl).1
    have d1:=(zAA AF 1 (x:=.int .i64 U.nx) rfl).1
    have d2:=(zAA AF 2 (x:=(.slice xa qs.length xc)) rfl).1
    have d3:=(zAA AF 3 (x:=(.slice a67 (putAt X.ss j (sn r D.2)).length k67)) rfl).1
    have e0:=(zAA BF 0 (x:=.int .i64 D.2.k) rfl).1
    have e1:=(zAA BF 1 (x:=.int .i64 D.2.t) rfl).1
    have e2:=(zAA BF 2 (x:=.int .i64 D.2.h) rfl).1
    have e3:=(zAA BF 3 (x:=.int .i64 D.2.e) rfl).1
    refine bodyPost_ret (v:=.tuple #[.agg #[.int .i64 U.tm,.int .i64 U.nx,(.slice xa qs.length xc),(.slice a67 (putAt X.ss j (sn r D.2)).length k67)],.agg #[.int .i64 D.2.k,.int .i64 D.2.t,.int .i64 D.2.h,.int .i64 D.2.e]]) (by simp [results,Tryz.results57,go_sem,d0,d1,d2,d3,e0,e1,e2,e3]) rfl ?_
    refine ⟨⟨(.slice xa qs.length xc),(.slice a67 (putAt X.ss j (sn r D.2)).length k67),qs,?_,KF.out.1,KF.out.2.1,?_,?_,KF.out.2.2.2.2⟩,(by first | exact LFH.out | exact LFH.out.drew)⟩
    ·rw [HAP.out]
    ·rw [HAP.out];exact KF.out.2.2.1
    ·rw [HAP.out];exact KF.out.2.2.2.1
end Go.Proofs.YticokpbelgpfmaaGreat.Ea
namespace Go.Proofs.YticokpbelgpfmaaGreat.Jza
open Ea (ApP l05Apply_any)
open Tq (zBF)
open Go.RowKit By Ap Tb Tw Mw Wa Bk Tp Da Ja Jb Jc
open Lo (LkA uV clL OwnL zAG zAK Apart zAP zAX OwnL.below OwnL.slice OwnL.kept OwnL.lt OwnL.mono OwnL.row)
open Jx0 Jz Jm Jk Jj
open Tx (zAA zAC zAE zAJ zAD)
open Rq Ji Je Jf Jd Jh Jl Jr Jt Ju Jv Jw
theorem TabE.mono {w:World} {B B':Nat} {vl vs:Value} {T:Tab} {ps:List LkA} (h:TabE w B vl vs T ps) (hb:B'≤B):TabE w B' vl vs T ps:=⟨OwnL.mono h.ol hb,OwnS.mono h.os hb,fun q hq=>OwnW.mono (h.ow q hq) hb,h.eq⟩
theorem ap_endE {w w3 w8:World} {z0 z1:Array Value} {u0 u1 u2 u3 v0 v1 v2 v3:Value} {t0 t1:TypeId} {V2 V3:Value} {TT:Tab} {ps:List LkA} {BB:Nat} (h0:TabE w8 BB V2 V3 TT ps∧w3.heap.size≤BB∧Below w3.heap.size w3 w8) (hb:w3.heap[w.heap.size]?=some (.cells z0 t0 (0,0))∧w3.heap[w.heap.size+1]?=some (.cells z1 t1 (0,0))∧w3.heap[w.heap.size+1+1]?=some (.cells #[u0,u1,u2,u3] 30 (0,0))∧w3.heap[w.heap.size+1+1+1]?=some (.cells #[v0,v1,v2,v3] 38 (0,0))∧Below w.heap.size w w3) (x0 x1 a b c d:Value) :
 ((((((((w8.setCell ⟨w.heap.size+1+1,0,none⟩ x0).setCell ⟨w.heap.size+1+1,1,none⟩ x1).setCell ⟨w.heap.size+1+1,2,none⟩ V2).setCell ⟨w.heap.size+1+1,3,none⟩ V3).setCell ⟨w.heap.size+1+1+1,0,none⟩ a).setCell ⟨w.heap.size+1+1+1,1,none⟩ b).setCell ⟨w.heap.size+1+1+1,2,none⟩ c).setCell ⟨w.heap.size+1+1+1,3,none⟩ d).heap[w.heap.size+1+1]?=some (.cells #[x0,x1,V2,V3] 30 (0,0)) ∧
 ((((((((w8.setCell ⟨w.heap.size+1+1,0,none⟩ x0).setCell ⟨w.heap.size+1+1,1,none⟩ x1).setCell ⟨w.heap.size+1+1,2,none⟩ V2).setCell ⟨w.heap.size+1+1,3,none⟩ V3).setCell ⟨w.heap.size+1+1+1,0,none⟩ a).setCell ⟨w.heap.size+1+1+1,1,none⟩ b).setCell ⟨w.heap.size+1+1+1,2,none⟩ c).setCell ⟨w.heap.size+1+1+1,3,none⟩ d).heap[w.heap.size+1+1+1]?=some (.cells #[a,b,c,d] 38 (0,0)) ∧
 (∃ qs,TabE ((((((((w8.setCell ⟨w.heap.size+1+1,0,none⟩ x0).setCell ⟨w.heap.size+1+1,1,none⟩ x1).setCell ⟨w.heap.size+1+1,2,none⟩ V2).setCell ⟨w.heap.size+1+1,3,none⟩ V3).setCell ⟨w.heap.size+1+1+1,0,none⟩ a).setCell ⟨w.heap.size+1+1+1,1,none⟩ b).setCell ⟨w.heap.size+1+1+1,2,none⟩ c).setCell ⟨w.heap.size+1+1+1,3,none⟩ d) w.heap.size V2 V3 TT qs)∧Below w.heap.size w ((((((((w8.setCell ⟨w.heap.size+1+1,0,none⟩ x0).setCell ⟨w.heap.size+1+1,1,none⟩ x1).setCell ⟨w.heap.size+1+1,2,none⟩ V2).setCell ⟨w.heap.size+1+1,3,none⟩ V3).setCell ⟨w.heap.size+1+1+1,0,none⟩ a).setCell ⟨w.heap.size+1+1+1,1,none⟩ b).setCell ⟨w.heap.size+1+1+1,2,none⟩ c).setCell ⟨w.heap.size+1+1+1,3,none⟩ d):=by
 have h:TabE w8 BB V2 V3 TT ps∧Below w3.heap.size w3 w8:=⟨h0.1,h0.2.2⟩
 have hbk:=h0.2.1
 have hs:=(Array.getElem?_eq_some_iff.1 hb.2.2.2.1).1
 have hr:=(h.2.block _ (by omega)).trans hb.2.2.1
 have ha:=(h.2.block _ (by omega)).trans hb.2.2.2.1
 have hbb:=hb.2.2.2.2.trans (h.2.mono hb.2.2.2.2.size)
 have far:∀ k,k ≠ w.heap.size+1+1→k ≠ w.heap.size+1+1+1→((((((((w8.setCell ⟨w.heap.size+1+1,0,none⟩ x0).setCell ⟨w.heap.size+1+1,1,none⟩ x1).setCell ⟨w.heap.size+1+1,2,none⟩ V2).setCell ⟨w.heap.size+1+1,3,none⟩ V3).setCell ⟨w.heap.size+1+1+1,0,none⟩ a).setCell ⟨w.heap.size+1+1+1,1,none⟩ b).setCell ⟨w.heap.size+1+1+1,2,none⟩ c).setCell ⟨w.heap.size+1+1+1,3,none⟩ d).heap[k]?=w8.heap[k]?:=fun k h1 h2=>(zAE h2 3 _).trans ((zAE h2 2 _).trans ((zAE h2 1 _).trans ((zAE h2 0 _).trans ((zAE h1 3 _).trans ((zAE h1 2 _).trans ((zAE h1 1 _).trans (zAE h1 0 _)))))))
 have l5:w.heap.size+1+1 ≠ w.heap.size+1+1+1:=by omega
 have l1:w.heap.size≤w.heap.size+1+1:=by omega
 have l3:w.heap.size≤w.heap.size+1+1+1:=by omega
 have e1:=zAC (zAC (zAC (zAC hr 0 x0) 1 x1) 2 V2) 3 V3
 have f4:=((zAE (Ne.symm l5) 3 V3).trans ((zAE (Ne.symm l5) 2 V2).trans ((zAE (Ne.symm l5) 1 x1).trans (zAE (Ne.symm l5) 0 x0)))).trans ha
 refine ⟨((zAE l5 3 _).trans ((zAE l5 2 _).trans ((zAE l5 1 _).trans (zAE l5 0 _)))).trans e1,zAC (zAC (zAC (zAC f4 0 a) 1 b) 2 c) 3 d,⟨_,TabE.mono (h.1.kept fun g hg _=>far g (by omega) (by omega)) (by omega)⟩,?_⟩
 exact Below.setCell (Below.setCell (Below.setCell (Below.setCell (Below.setCell (Below.setCell (Below.setCell (Below.setCell hbb (p:=⟨w.heap.size+1+1,0,none⟩) l1 _) (p:=⟨w.heap.size+1+1,1,none⟩) l1 _) (p:=⟨w.heap.size+1+1,2,none⟩) l1 _) (p:=⟨w.heap.size+1+1,3,none⟩) l1 _) (p:=⟨w.heap.size+1+1+1,0,none⟩) l3 _) (p:=⟨w.heap.size+1+1+1,1,none⟩) l3 _) (p:=⟨w.heap.size+1+1+1,2,none⟩) l3 _) (p:=⟨w.heap.size+1+1+1,3,none⟩) l3 _
set_option maxRecDepth 100000 in
set_option maxHeartbeats 6400000 in
theorem specApplyRequest_any (T:Tab) (vl vs:Value) (now:Int) (r:Da.Ask) (w:World) (hl:RowL w vl T.ls) (hs:RowS w vs T.ss) (hw:∀ x ∈ T.ls,x.n.size≤1048576∧x.ws.length≤1048576) (hy1:T.ls.length≤1048576) (hy2:T.ss.length≤1048576) (hrn:r.nm.size≤maxLen) :
 Calls Tryz.prog 28 #[tabV T.tm T.nx vl vs,.int .i64 now,rqA r] w fun e w'=>∃ ul us,e=.returned (.tuple #[tabV (apX T now r).tm (apX T now r).nx ul us,anV (apA T now r),.int .i64 (apC T now r)])∧(∃ qs,TabE w' w.heap.size ul us (apX T now r) qs)∧Below w.heap.size w w':=by
 obtain ⟨la,lc,rfl⟩:=RowG.slice hl
 obtain ⟨sa,sc,rfl⟩:=RowG.slice hs
 have HTO:Hid (∀ W,Below w.heap.size w W→Calls Tryz.prog 76 #[.agg #[.int .i64 T.tm,.int .i64 T.nx,.slice la T.ls.length lc,.slice sa T.ss.length sc]] W fun e w'=>e=.returned (.bool (bOf (TOK T)))∧Below W.heap.size W w'):=fun W hW=>zBF T.tm T.nx _ _ T.ls T.ss W (hl.below hW) (hs.below hW) hw hy1 hy2
 have HRW:Hid (TabR w (.slice la T.ls.length lc) (.slice sa T.ss.length sc) T):=⟨hl,hs⟩
 have HRO:Hid (∀ W,Calls Tryz.prog 55 #[.agg #[.int .i64 r.cl,.int .i64 r.st,.int .i64 r.kd,.int .i64 r.le,.string r.nm]] W fun e w'=>e=.returned (.bool (reqB r.cl r.st r.kd r.le r.nm))∧Below W.heap.size W w'):=fun W=>specRequestOK_any r.cl r.st r.kd r.le r.nm W hrn
 have HB:Hid (((((w.alloc (.cells #[.int .i64 T.tm,.int .i64 T.nx,.slice la T.ls.length lc,.slice sa T.ss.length sc] 30)).alloc (.cells #[.int .i64 r.cl,.int .i64 r.st,.int .i64 r.kd,.int .i64 r.le,.string r.nm] 42)).alloc (.cells #[.int .i64 0,.int .i64 0,.slice none 0 0,.slice none 0 0] 30)).alloc (.cells #[.int .i64 0,.int .i64 0,.int .i64 0,.int .i64 0] 38)).heap[w.heap.size]?=some (.cells #[.int .i64 T.tm,.int .i64 T.nx,.slice la T.ls.length lc,.slice sa T.ss.length sc] 30 (0,0))∧((((w.alloc (.cells #[.int .i64 T.tm,.int .i64 T.nx,.slice la T.ls.length lc,.slice sa T.ss.length sc] 30)).alloc (.cells #[.int .i64 r.cl,.int .i64 r.st,.int .i64 r.kd,.int .i64 r.le,.string r.nm] 42)).alloc (.cells #[.int .i64 0,.int .i64 0,.slice none 0 0,.slice none 0 0] 30)).alloc (.cells #[.int .i64 0,.int .i64 0,.int .i64 0,.int .i64 0] 38)).heap[w.heap.size+1]?=some (.cells #[.int .i64 r.cl,.int .i64 r.st,.int .i64 r.kd,.int .i64 r.le,.string r.nm] 42 (0,0))∧((((w.alloc (.cells #[.int .i64 T.tm,.int .i64 T.nx,.slice la T.ls.length lc,.slice sa T.ss.length sc] 30)).alloc (.cells #[.int .i64 r.cl,.int .i64 r.st,.int .i64 r.kd,.int .i64 r.le,.string r.nm] 42)).alloc (.cells #[.int .i64 0,.int .i64 0,.slice none 0 0,.slice none 0 0] 30)).alloc (.cells #[.int .i64 0,.int .i64 0,.int .i64 0,.int .i64 0] 38)).heap[w.heap.size+1+1]?=some (.cells #[.int .i64 0,.int .i64 0,.slice none 0 0,.slice none 0 0] 30 (0,0))∧((((w.alloc (.cells #[.int .i64 T.tm,.int .i64 T.nx,.slice la T.ls.length lc,.slice sa T.ss.length sc] 30)).alloc (.cells #[.int .i64 r.cl,.int .i64 r.st,.int .i64 r.kd,.int .i64 r.le,.string r.nm] 42)).alloc (.cells #[.int .i64 0,.int .i64 0,.slice none 0 0,.slice none 0 0] 30)).alloc (.cells #[.int .i64 0,.int .i64 0,.int .i64 0,.int .i64 0] 38)).heap[w.heap.size+1+1+1]?=some (.cells #[.int .i64 0,.int .i64 0,.int .i64 0,.int .i64 0] 38 (0,0))∧Below w.heap.size w ((((w.alloc (.cells #[.int .i64 T.tm,.int .i64 T.nx,.slice la T.ls.length lc,.slice sa T.ss.length sc] 30)).alloc (.cells #[.int .i64 r.cl,.int .i64 r.st,.int .i64 r.kd,.int .i64 r.le,.string r.nm] 42)).alloc (.cells #[.int .i64 0,.int .i64 0,.slice none 0 0,.slice none 0 0] 30)).alloc (.cells #[.int .i64 0,.int .i64 0,.int .i64 0,.int .i64 0] 38))):=nest4x w _ _ _ _ _ _ _ _
 clear hl hs hw
 unfold tabV rqA
 go_enter Tryz.func28,Tryz.ntmps28
 go_upto_region 1 with fail
 generalize ((((w.alloc (.cells #[.int .i64 T.tm,.int .i64 T.nx,.slice la T.ls.length lc,.slice sa T.ss.length sc] 30)).alloc (.cells #[.int .i64 r.cl,.int .i64 r.st,.int .i64 r.kd,.int .i64 r.le,.string r.nm] 42)).alloc (.cells #[.int .i64 0,.int .i64 0,.slice none 0 0,.slice none 0 0] 30)).alloc (.cells #[.int .i64 0,.int .i64 0,.int .i64 0,.int .i64 0] 38))=w1 at HB ⊢
 have c0:=(zAA HB.out.1 0 rfl).1
 have c1:=(zAA HB.out.1 1 rfl).1
 have c2:=(zAA HB.out.1 2 rfl).1
 have c3:=(zAA HB.out.1 3 rfl).1
 have q0:=(zAA HB.out.2.1 0 rfl).1
 have q1:=(zAA HB.out.2.1 1 rfl).1
 have q2:=(zAA HB.out.2.1 2 rfl).1
 have q3:=(zAA HB.out.2.1 3 rfl).1
 have q4:=(zAA HB.out.2.1 4 rfl).1
 obtain ⟨z0,y0⟩:=zAA HB.out.2.2.1 0 rfl
 obtain ⟨z1,y1⟩:=zAA HB.out.2.2.1 1 rfl
 obtain ⟨z2,y2⟩:=zAA HB.out.2.2.1 2 rfl
 obtain ⟨z3,y3⟩:=zAA HB.out.2.2.1 3 rfl
 obtain ⟨a0,b0⟩:=zAA HB.out.2.2.2.1 0 rfl
 obtain ⟨a1,b1⟩:=zAA HB.out.2.2.2.1 1 rfl
 obtain ⟨a2,b2⟩:=zAA HB.out.2.2.2.1 2 rfl
 obtain ⟨a3,b3⟩:=zAA HB.out.2.2.2.1 3 rfl
 cases hK:bOf (TOK T) with
 | false =>
   have HST:Hid (apX T now r=t00∧apA T now r=⟨0,0,0,0⟩∧apC T now r=1):=by
    have e:apC T now r=1:=by unfold apC;split <;> first | rfl | (unfold sfC;rw [if_pos hK])
    exact ⟨by unfold apX;rw [e];rfl,by unfold apA;rw [e];rfl,e⟩
   go_wp2_with ((go_at_call 76;go_must (refine (HTO.out w1 HB.out.2.2.2.2).mono ?_;rintro e w2 ⟨rfl,b2⟩;have B2:Hid (w2.heap[w.heap.size]?=some (.cells #[.int .i64 T.tm,.int .i64 T.nx,.slice la T.ls.length lc,.slice sa T.ss.length sc] 30 (0,0))∧w2.heap[w.heap.size+1]?=some (.cells #[.int .i64 r.cl,.int .i64 r.st,.int .i64 r.kd,.int .i64 r.le,.string r.nm] 42 (0,0))∧w2.heap[w.heap.size+1+1]?=some (.cells #[.int .i64 0,.int .i64 0,.slice none 0 0,.slice none 0 0] 30 (0,0))∧w2.heap[w.heap.size+1+1+1]?=some (.cells #[.int .i64 0,.int .i64 0,.int .i64 0,.int .i64 0] 38 (0,0))∧Below w.heap.size w w2):=⟨(b2.block _ (Array.getElem?_eq_some_iff.1 HB.out.1).1).trans HB.out.1,(b2.block _ (Array.getElem?_eq_some_iff.1 HB.out.2.1).1).trans HB.out.2.1,(b2.block _ (Array.getElem?_eq_some_iff.1 HB.out.2.2.1).1).trans HB.out.2.2.1,(b2.block _ (Array.getElem?_eq_some_iff.1 HB.out.2.2.2.1).1).trans HB.out.2.2.2.1,HB.out.2.2.2.2.trans (b2.mono HB.out.2.2.2.2.size)⟩;clear b2;clear c0 c1 c2 c3 q0 q1 q2 q3 q4;clear z0 y0 z1 y1 z2 y2 z3 y3 a0 b0 a1 b1 a2 b2 a3 b3;have c0:=(zAA B2.out.1 0 rfl).1;have c1:=(zAA B2.out.1 1 rfl).1;have c2:=(zAA B2.out.1 2 rfl).1;have c3:=(zAA B2.out.1 3 rfl).1;have q0:=(zAA B2.out.2.1 0 rfl).1;have q1:=(zAA B2.out.2.1 1 rfl).1;have q2:=(zAA B2.out.2.1 2 rfl).1;have q3:=(zAA B2.out.2.1 3 rfl).1;have q4:=(zAA B2.out.2.1 4 rfl).1;obtain ⟨z0,y0⟩:=zAA B2.out.2.2.1 0 rfl;obtain ⟨z1,y1⟩:=zAA B2.out.2.2.1 1 rfl;obtain ⟨z2,y2⟩:=zAA B2.out.2.2.1 2 rfl;obtain ⟨z3,y3⟩:=zAA B2.out.2.2.1 3 rfl;obtain ⟨a0,b0⟩:=zAA B2.out.2.2.2.1 0 rfl;obtain ⟨a1,b1⟩:=zAA B2.out.2.2.2.1 1 rfl;obtain ⟨a2,b2⟩:=zAA B2.out.2.2.2.1 2 rfl;obtain ⟨a3,b3⟩:=zAA B2.out.2.2.2.1 3 rfl;rw [hK])))
   have HF:Hid (((((((((w2.setCell ⟨w.heap.size+1+1,0,none⟩ (.int .i64 0)).setCell ⟨w.heap.size+1+1,1,none⟩ (.int .i64 0)).setCell ⟨w.heap.size+1+1,2,none⟩ (.slice none 0 0)).setCell ⟨w.heap.size+1+1,3,none⟩ (.slice none 0 0)).setCell ⟨w.heap.size+1+1+1,0,none⟩ (.int .i64 0)).setCell ⟨w.heap.size+1+1+1,1,none⟩ (.int .i64 0)).setCell ⟨w.heap.size+1+1+1,2,none⟩ (.int .i64 0)).setCell ⟨w.heap.size+1+1+1,3,none⟩ (.int .i64 0)).heap[w.heap.size+1+1]?=some (.cells #[.int .i64 0,.int .i64 0,.slice none 0 0,.slice none 0 0] 30 (0,0))∧((((((((w2.setCell ⟨w.heap.size+1+1,0,none⟩ (.int .i64 0)).setCell ⟨w.heap.size+1+1,1,none⟩ (.int .i64 0)).setCell ⟨w.heap.size+1+1,2,none⟩ (.slice none 0 0)).setCell ⟨w.heap.size+1+1,3,none⟩ (.slice none 0 0)).setCell ⟨w.heap.size+1+1+1,0,none⟩ (.int .i64 0)).setCell ⟨w.heap.size+1+1+1,1,none⟩ (.int .i64 0)).setCell ⟨w.heap.size+1+1+1,2,none⟩ (.int .i64 0)).setCell ⟨w.heap.size+1+1+1,3,none⟩ (.int .i64 0)).heap[w.heap.size+1+1+1]?=some (.cells #[.int .i64 0,.int .i64 0,.int .i64 0,.int .i64 0] 38 (0,0))∧(∃ qs,TabE ((((((((w2.setCell ⟨w.heap.size+1+1,0,none⟩ (.int .i64 0)).setCell ⟨w.heap.size+1+1,1,none⟩ (.int .i64 0)).setCell ⟨w.heap.size+1+1,2,none⟩ (.slice none 0 0)).setCell ⟨w.heap.size+1+1,3,none⟩ (.slice none 0 0)).setCell ⟨w.heap.size+1+1+1,0,none⟩ (.int .i64 0)).setCell ⟨w.heap.size+1+1+1,1,none⟩ (.int .i64 0)).setCell ⟨w.heap.size+1+1+1,2,none⟩ (.int .i64 0)).setCell ⟨w.heap.size+1+1+1,3,none⟩ (.int .i64 0)) w.heap.size (.slice none 0 0) (.slice none 0 0) t00 qs)∧Below w.heap.size w ((((((((w2.setCell ⟨w.heap.size+1+1,0,none⟩ (.int .i64 0)).setCell ⟨w.heap.size+1+1,1,none⟩ (.int .i64 0)).setCell ⟨w.heap.size+1+1,2,none⟩ (.slice none 0 0)).setCell ⟨w.heap.size+1+1,3,none⟩ (.slice none 0 0)).setCell ⟨w.heap.size+1+1+1,0,none⟩ (.int .i64 0)).setCell ⟨w.heap.size+1+1+1,1,none⟩ (.int .i64 0)).setCell ⟨w.heap.size+1+1+1,2,none⟩ (.int .i64 0)).setCell ⟨w.heap.size+1+1+1,3,none⟩ (.int .i64 0))):=ap_endE ⟨TabE.nil w2 w2.heap.size,Nat.le_refl _,Below.refl _ _⟩ B2.out _ _ _ _ _ _
   generalize ((((((((w2.setCell ⟨w.heap.size+1+1,0,none⟩ (.int .i64 0)).setCell ⟨w.heap.size+1+1,1,none⟩ (.int .i64 0)).setCell ⟨w.heap.size+1+1,2,none⟩ (.slice none 0 0)).setCell ⟨w.heap.size+1+1,3,none⟩ (.slice none 0 0)).setCell ⟨w.heap.size+1+1+1,0,none⟩ (.int .i64 0)).setCell ⟨w.heap.size+1+1+1,1,none⟩ (.int .i64 0)).setCell ⟨w.heap.size+1+1+1,2,none⟩ (.int .i64 0)).setCell ⟨w.heap.size+1+1+1,3,none⟩ (.int .i64 0))=wf at HF ⊢
   have d0:=(zAA HF.out.1 0 (x:=.int .i64 0) rfl).1
   have d1:=(zAA HF.out.1 1 (x:=.int .i64 0) rfl).1
   have d2:=(zAA HF.out.1 2 (x:=.slice none 0 0) rfl).1
   have d3:=(zAA HF.out.1 3 (x:=.slice none 0 0) rfl).1
   have f0:=(zAA HF.out.2.1 0 (x:=.int .i64 0) rfl).1
   have f1:=(zAA HF.out.2.1 1 (x:=.int .i64 0) rfl).1
   have f2:=(zAA HF.out.2.1 2 (x:=.int .i64 0) rfl).1
   have f3:=(zAA HF.out.2.1 3 (x:=.int .i64 0) rfl).1
   exact bodyPost_ret (v:=.tuple #[.agg #[.int .i64 0,.int .i64 0,.slice none 0 0,.slice none 0 0],.agg #[.int .i64 0,.int .i64 0,.int .i64 0,.int .i64 0],.int .i64 1]) (by simp [results,Tryz.results28,go_sem,d0,d1,d2,d3,f0,f1,f2,f3]) rfl ⟨_,_,(by rw [HST.out.1,HST.out.2.1,HST.out.2.2];try rfl),by rw [HST.out.1];exact HF.out.2.2.1,HF.out.2.2.2⟩
 | true =>
   have hTok:TOK T:=Lp.tok_true hK
   obtain ⟨_,htw,hln1,hln2⟩:=tok_bk hTok
   have HTW:Hid ((∀ x ∈ T.ls,x.ws.length≤1000)∧T.ls.length≤1000∧T.ss.length≤1000):=⟨fun x hx=>(htw x hx).2,by omega,by omega⟩
   clear htw
   cases hq:reqB r.cl r.st r.kd r.le r.nm with
   | false =>
     have HST:Hid (apX T now r=t00∧apA T now r=⟨0,0,0,0⟩∧apC T now r=1):=by
      have e:apC T now r=1:=by unfold apC;rw [hq];rfl
      exact ⟨by unfold apX;rw [e];rfl,by unfold apA;rw [e];rfl,e⟩
     go_wp2_with (first | (go_at_call 76;go_must (refine (HTO.out w1 HB.out.2.2.2.2).mono ?_;rintro e w2 ⟨rfl,b2⟩;have B2:Hid (w2.heap[w.heap.size]?=some (.cells #[.int .i64 T.tm,.int .i64 T.nx,.slice la T.ls.length lc,.slice sa T.ss.length sc] 30 (0,0))∧w2.heap[w.heap.size+1]?=some (.cells #[.int .i64 r.cl,.int .i64 r.st,.int .i64 r.kd,.int .i64 r.le,.string r.nm] 42 (0,0))∧w2.heap[w.heap.size+1+1]?=some (.cells #[.int .i64 0,.int .i64 0,.slice none 0 0,.slice none 0 0] 30 (0,0))∧w2.heap[w.heap.size+1+1+1]?=some (.cells #[.int .i64 0,.int .i64 0,.int .i64 0,.int .i64 0] 38 (0,0))∧Below w.heap.size w w2):=⟨(b2.block _ (Array.getElem?_eq_some_iff.1 HB.out.1).1).trans HB.out.1,(b2.block _ (Array.getElem?_eq_some_iff.1 HB.out.2.1).1).trans HB.out.2.1,(b2.block _ (Array.getElem?_eq_some_iff.1 HB.out.2.2.1).1).trans HB.out.2.2.1,(b2.block _ (Array.getElem?_eq_some_iff.1 HB.out.2.2.2.1).1).trans HB.out.2.2.2.1,HB.out.2.2.2.2.trans (b2.mono HB.out.2.2.2.2.size)⟩;clear b2;clear c0 c1 c2 c3 q0 q1 q2 q3 q4;clear z0 y0 z1 y1 z2 y2 z3 y3 a0 b0 a1 b1 a2 b2 a3 b3;have c0:=(zAA B2.out.1 0 rfl).1;have c1:=(zAA B2.out.1 1 rfl).1;have c2:=(zAA B2.out.1 2 rfl).1;have c3:=(zAA B2.out.1 3 rfl).1;have q0:=(zAA B2.out.2.1 0 rfl).1;have q1:=(zAA B2.out.2.1 1 rfl).1;have q2:=(zAA B2.out.2.1 2 rfl).1;have q3:=(zAA B2.out.2.1 3 rfl).1;have q4:=(zAA B2.out.2.1 4 rfl).1;obtain ⟨z0,y0⟩:=zAA B2.out.2.2.1 0 rfl;obtain ⟨z1,y1⟩:=zAA B2.out.2.2.1 1 rfl;obtain ⟨z2,y2⟩:=zAA B2.out.2.2.1 2 rfl;obtain ⟨z3,y3⟩:=zAA B2.out.2.2.1 3 rfl;obtain ⟨a0,b0⟩:=zAA B2.out.2.2.2.1 0 rfl;obtain ⟨a1,b1⟩:=zAA B2.out.2.2.2.1 1 rfl;obtain ⟨a2,b2⟩:=zAA B2.out.2.2.2.1 2 rfl;obtain ⟨a3,b3⟩:=zAA B2.out.2.2.2.1 3 rfl;rw [hK])) | (go_at_call 55;go_must (refine (HRO.out w2).mono ?_;rintro e w3 ⟨rfl,b2⟩;have B3:Hid (w3.heap[w.heap.size]?=some (.cells #[.int .i64 T.tm,.int .i64 T.nx,.slice la T.ls.length lc,.slice sa T.ss.length sc] 30 (0,0))∧w3.heap[w.heap.size+1]?=some (.cells #[.int .i64 r.cl,.int .i64 r.st,.int .i64 r.kd,.int .i64 r.le,.string r.nm] 42 (0,0))∧w3.heap[w.heap.size+1+1]?=some (.cells #[.int .i64 0,.int .i64 0,.slice none 0 0,.slice none 0 0] 30 (0,0))∧w3.heap[w.heap.size+1+1+1]?=some (.cells #[.int .i64 0,.int .i64 0,.int .i64 0,.int .i64 0] 38 (0,0))∧Below w.heap.size w w3):=⟨(b2.block _ (Array.getElem?_eq_some_iff.1 B2.out.1).1).trans B2.out.1,(b2.block _ (Array.getElem?_eq_some_iff.1 B2.out.2.1).1).trans B2.out.2.1,(b2.block _ (Array.getElem?_eq_some_iff.1 B2.out.2.2.1).1).trans B2.out.2.2.1,(b2.block _ (Array.getElem?_eq_some_iff.1 B2.out.2.2.2.1).1).trans B2.out.2.2.2.1,B2.out.2.2.2.2.trans (b2.mono B2.out.2.2.2.2.size)⟩;clear b2;clear c0 c1 c2 c3 q0 q1 q2 q3 q4;clear z0 y0 z1 y1 z2 y2 z3 y3 a0 b0 a1 b1 a2 b2 a3 b3;have c0:=(zAA B3.out.1 0 rfl).1;have c1:=(zAA B3.out.1 1 rfl).1;have c2:=(zAA B3.out.1 2 rfl).1;have c3:=(zAA B3.out.1 3 rfl).1;have q0:=(zAA B3.out.2.1 0 rfl).1;have q1:=(zAA B3.out.2.1 1 rfl).1;have q2:=(zAA B3.out.2.1 2 rfl).1;have q3:=(zAA B3.out.2.1 3 rfl).1;have q4:=(zAA B3.out.2.1 4 rfl).1;obtain ⟨z0,y0⟩:=zAA B3.out.2.2.1 0 rfl;obtain ⟨z1,y1⟩:=zAA B3.out.2.2.1 1 rfl;obtain ⟨z2,y2⟩:=zAA B3.out.2.2.1 2 rfl;obtain ⟨z3,y3⟩:=zAA B3.out.2.2.1 3 rfl;obtain ⟨a0,b0⟩:=zAA B3.out.2.2.2.1 0 rfl;obtain ⟨a1,b1⟩:=zAA B3.out.2.2.2.1 1 rfl;obtain ⟨a2,b2⟩:=zAA B3.out.2.2.2.1 2 rfl;obtain ⟨a3,b3⟩:=zAA B3.out.2.2.2.1 3 rfl;rw [hq])))
     have HF:Hid (((((((((w3.setCell ⟨w.heap.size+1+1,0,none⟩ (.int .i64 0)).setCell ⟨w.heap.size+1+1,1,none⟩ (.int .i64 0)).setCell ⟨w.heap.size+1+1,2,none⟩ (.slice none 0 0)).setCell ⟨w.heap.size+1+1,3,none⟩ (.slice none 0 0)).setCell ⟨w.heap.size+1+1+1,0,none⟩ (.int .i64 0)).setCell ⟨w.heap.size+1+1+1,1,none⟩ (.int .i64 0)).setCell ⟨w.heap.size+1+1+1,2,none⟩ (.int .i64 0)).setCell ⟨w.heap.size+1+1+1,3,none⟩ (.int .i64 0)).heap[w.heap.size+1+1]?=some (.cells #[.int .i64 0,.int .i64 0,.slice none 0 0,.slice none 0 0] 30 (0,0))∧((((((((w3.setCell ⟨w.heap.size+1+1,0,none⟩ (.int .i64 0)).setCell ⟨w.heap.size+1+1,1,none⟩ (.int .i64 0)).setCell ⟨w.heap.size+1+1,2,none⟩ (.slice none 0 0)).setCell ⟨w.heap.size+1+1,3,none⟩ (.slice none 0 0)).setCell ⟨w.heap.size+1+1+1,0,none⟩ (.int .i64 0)).setCell ⟨w.heap.size+1+1+1,1,none⟩ (.int .i64 0)).setCell ⟨w.heap.size+1+1+1,2,none⟩ (.int .i64 0)).setCell ⟨w.heap.size+1+1+1,3,none⟩ (.int .i64 0)).heap[w.heap.size+1+1+1]?=some (.cells #[.int .i64 0,.int .i64 0,.int .i64 0,.int .i64 0] 38 (0,0))∧(∃ qs,TabE ((((((((w3.setCell ⟨w.heap.size+1+1,0,none⟩ (.int .i64 0)).setCell ⟨w.heap.size+1+1,1,none⟩ (.int .i64 0)).setCell ⟨w.heap.size+1+1,2,none⟩ (.slice none 0 0)).setCell ⟨w.heap.size+1+1,3,none⟩ (.slice none 0 0)).setCell ⟨w.heap.size+1+1+1,0,none⟩ (.int .i64 0)).setCell ⟨w.heap.size+1+1+1,1,none⟩ (.int .i64 0)).setCell ⟨w.heap.size+1+1+1,2,none⟩ (.int .i64 0)).setCell ⟨w.heap.size+1+1+1,3,none⟩ (.int .i64 0)) w.heap.size (.slice none 0 0) (.slice none 0 0) t00 qs)∧Below w.heap.size w ((((((((w3.setCell ⟨w.heap.size+1+1,0,none⟩ (.int .i64 0)).setCell ⟨w.heap.size+1+1,1,none⟩ (.int .i64 0)).setCell ⟨w.heap.size+1+1,2,none⟩ (.slice none 0 0)).setCell ⟨w.heap.size+1+1,3,none⟩ (.slice none 0 0)).setCell ⟨w.heap.size+1+1+1,0,none⟩ (.int .i64 0)).setCell ⟨w.heap.size+1+1+1,1,none⟩ (.int .i64 0)).setCell ⟨w.heap.size+1+1+1,2,none⟩ (.int .i64 0)).setCell ⟨w.heap.size+1+1+1,3,none⟩ (.int .i64 0))):=ap_endE ⟨TabE.nil w3 w3.heap.size,Nat.le_refl _,Below.refl _ _⟩ B3.out _ _ _ _ _ _
     generalize ((((((((w3.setCell ⟨w.heap.size+1+1,0,none⟩ (.int .i64 0)).setCell ⟨w.heap.size+1+1,1,none⟩ (.int .i64 0)).setCell ⟨w.heap.size+1+1,2,none⟩ (.slice none 0 0)).setCell ⟨w.heap.size+1+1,3,none⟩ (.slice none 0 0)).setCell ⟨w.heap.size+1+1+1,0,none⟩ (.int .i64 0)).setCell ⟨w.heap.size+1+1+1,1,none⟩ (.int .i64 0)).setCell ⟨w.heap.size+1+1+1,2,none⟩ (.int .i64 0)).setCell ⟨w.heap.size+1+1+1,3,none⟩ (.int .i64 0))=wf at HF ⊢
     have d0:=(zAA HF.out.1 0 (x:=.int .i64 0) rfl).1
     have d1:=(zAA HF.out.1 1 (x:=.int .i64 0) rfl).1
     have d2:=(zAA HF.out.1 2 (x:=.slice none 0 0) rfl).1
     have d3:=(zAA HF.out.1 3 (x:=.slice none 0 0) rfl).1
     have f0:=(zAA HF.out.2.1 0 (x:=.int .i64 0) rfl).1
     have f1:=(zAA HF.out.2.1 1 (x:=.int .i64 0) rfl).1
     have f2:=(zAA HF.out.2.1 2 (x:=.int .i64 0) rfl).1
     have f3:=(zAA HF.out.2.1 3 (x:=.int .i64 0) rfl).1
     exact bodyPost_ret (v:=.tuple #[.agg #[.int .i64 0,.int .i64 0,.slice none 0 0,.slice none 0 0],.agg #[.int .i64 0,.int .i64 0,.int .i64 0,.int .i64 0],.int .i64 1]) (by simp [results,Tryz.results28,go_sem,d0,d1,d2,d3,f0,f1,f2,f3]) rfl ⟨_,_,(by rw [HST.out.1,HST.out.2.1,HST.out.2.2];try rfl),by rw [HST.out.1];exact HF.out.2.2.1,HF.out.2.2.2⟩
   | true =>
     go_upto_region 3 with (first | (go_at_call 76;go_must (refine (HTO.out w1 HB.out.2.2.2.2).mono ?_;rintro e w2 ⟨rfl,b2⟩;have B2:Hid (w2.heap[w.heap.size]?=some (.cells #[.int .i64 T.tm,.int .i64 T.nx,.slice la T.ls.length lc,.slice sa T.ss.length sc] 30 (0,0))∧w2.heap[w.heap.size+1]?=some (.cells #[.int .i64 r.cl,.int .i64 r.st,.int .i64 r.kd,.int .i64 r.le,.string r.nm] 42 (0,0))∧w2.heap[w.heap.size+1+1]?=some (.cells #[.int .i64 0,.int .i64 0,.slice none 0 0,.slice none 0 0] 30 (0,0))∧w2.heap[w.heap.size+1+1+1]?=some (.cells #[.int .i64 0,.int .i64 0,.int .i64 0,.int .i64 0] 38 (0,0))∧Below w.heap.size w w2):=⟨(b2.block _ (Array.getElem?_eq_some_iff.1 HB.out.1).1).trans HB.out.1,(b2.block _ (Array.getElem?_eq_some_iff.1 HB.out.2.1).1).trans HB.out.2.1,(b2.block _ (Array.getElem?_eq_some_iff.1 HB.out.2.2.1).1).trans HB.out.2.2.1,(b2.block _ (Array.getElem?_eq_some_iff.1 HB.out.2.2.2.1).1).trans HB.out.2.2.2.1,HB.out.2.2.2.2.trans (b2.mono HB.out.2.2.2.2.size)⟩;clear b2;clear c0 c1 c2 c3 q0 q1 q2 q3 q4;clear z0 y0 z1 y1 z2 y2 z3 y3 a0 b0 a1 b1 a2 b2 a3 b3;have c0:=(zAA B2.out.1 0 rfl).1;have c1:=(zAA B2.out.1 1 rfl).1;have c2:=(zAA B2.out.1 2 rfl).1;have c3:=(zAA B2.out.1 3 rfl).1;have q0:=(zAA B2.out.2.1 0 rfl).1;have q1:=(zAA B2.out.2.1 1 rfl).1;have q2:=(zAA B2.out.2.1 2 rfl).1;have q3:=(zAA B2.out.2.1 3 rfl).1;have q4:=(zAA B2.out.2.1 4 rfl).1;obtain ⟨z0,y0⟩:=zAA B2.out.2.2.1 0 rfl;obtain ⟨z1,y1⟩:=zAA B2.out.2.2.1 1 rfl;obtain ⟨z2,y2⟩:=zAA B2.out.2.2.1 2 rfl;obtain ⟨z3,y3⟩:=zAA B2.out.2.2.1 3 rfl;obtain ⟨a0,b0⟩:=zAA B2.out.2.2.2.1 0 rfl;obtain ⟨a1,b1⟩:=zAA B2.out.2.2.2.1 1 rfl;obtain ⟨a2,b2⟩:=zAA B2.out.2.2.2.1 2 rfl;obtain ⟨a3,b3⟩:=zAA B2.out.2.2.2.1 3 rfl;rw [hK])) | (go_at_call 55;go_must (refine (HRO.out w2).mono ?_;rintro e w3 ⟨rfl,b2⟩;have B3:Hid (w3.heap[w.heap.size]?=some (.cells #[.int .i64 T.tm,.int .i64 T.nx,.slice la T.ls.length lc,.slice sa T.ss.length sc] 30 (0,0))∧w3.heap[w.heap.size+1]?=some (.cells #[.int .i64 r.cl,.int .i64 r.st,.int .i64 r.kd,.int .i64 r.le,.string r.nm] 42 (0,0))∧w3.heap[w.heap.size+1+1]?=some (.cells #[.int .i64 0,.int .i64 0,.slice none 0 0,.slice none 0 0] 30 (0,0))∧w3.heap[w.heap.size+1+1+1]?=some (.cells #[.int .i64 0,.int .i64 0,.int .i64 0,.int .i64 0] 38 (0,0))∧Below w.heap.size w w3):=⟨(b2.block _ (Array.getElem?_eq_some_iff.1 B2.out.1).1).trans B2.out.1,(b2.block _ (Array.getElem?_eq_some_iff.1 B2.out.2.1).1).trans B2.out.2.1,(b2.block _ (Array.getElem?_eq_some_iff.1 B2.out.2.2.1).1).trans B2.out.2.2.1,(b2.block _ (Array.getElem?_eq_some_iff.1 B2.out.2.2.2.1).1).trans B2.out.2.2.2.1,B2.out.2.2.2.2.trans (b2.mono B2.out.2.2.2.2.size)⟩;clear b2;clear c0 c1 c2 c3 q0 q1 q2 q3 q4;clear z0 y0 z1 y1 z2 y2 z3 y3 a0 b0 a1 b1 a2 b2 a3 b3;have c0:=(zAA B3.out.1 0 rfl).1;have c1:=(zAA B3.out.1 1 rfl).1;have c2:=(zAA B3.out.1 2 rfl).1;have c3:=(zAA B3.out.1 3 rfl).1;have q0:=(zAA B3.out.2.1 0 rfl).1;have q1:=(zAA B3.out.2.1 1 rfl).1;have q2:=(zAA B3.out.2.1 2 rfl).1;have q3:=(zAA B3.out.2.1 3 rfl).1;have q4:=(zAA B3.out.2.1 4 rfl).1;obtain ⟨z0,y0⟩:=zAA B3.out.2.2.1 0 rfl;obtain ⟨z1,y1⟩:=zAA B3.out.2.2.1 1 rfl;obtain ⟨z2,y2⟩:=zAA B3.out.2.2.1 2 rfl;obtain ⟨z3,y3⟩:=zAA B3.out.2.2.1 3 rfl;obtain ⟨a0,b0⟩:=zAA B3.out.2.2.2.1 0 rfl;obtain ⟨a1,b1⟩:=zAA B3.out.2.2.2.1 1 rfl;obtain ⟨a2,b2⟩:=zAA B3.out.2.2.2.1 2 rfl;obtain ⟨a3,b3⟩:=zAA B3.out.2.2.2.1 3 rfl;rw [hq])))
     cases hI:inB now 0 1000000000 with
     | false =>
       have HST:Hid (apX T now r=t00∧apA T now r=⟨0,0,0,0⟩∧apC T now r=4):=by
        have e:apC T now r=4:=by unfold apC;rw [hq,if_pos rfl];unfold sfC;rw [if_neg (by rw [hK];decide),if_pos hI]
        exact ⟨by unfold apX;rw [e];rfl,by unfold apA;rw [e];rfl,e⟩
       go_wp2_with ((go_at_call 56;refine (in_b _ _ _ _).mono ?_;rintro e w4 ⟨rfl,hw4⟩;rw [hw4,hI];clear hw4))
       have HF:Hid (((((((((w3.setCell ⟨w.heap.size+1+1,0,none⟩ (.int .i64 0)).setCell ⟨w.heap.size+1+1,1,none⟩ (.int .i64 0)).setCell ⟨w.heap.size+1+1,2,none⟩ (.slice none 0 0)).setCell ⟨w.heap.size+1+1,3,none⟩ (.slice none 0 0)).setCell ⟨w.heap.size+1+1+1,0,none⟩ (.int .i64 0)).setCell ⟨w.heap.size+1+1+1,1,none⟩ (.int .i64 0)).setCell ⟨w.heap.size+1+1+1,2,none⟩ (.int .i64 0)).setCell ⟨w.heap.size+1+1+1,3,none⟩ (.int .i64 0)).heap[w.heap.size+1+1]?=some (.cells #[.int .i64 0,.int .i64 0,.slice none 0 0,.slice none 0 0] 30 (0,0))∧((((((((w3.setCell ⟨w.heap.size+1+1,0,none⟩ (.int .i64 0)).setCell ⟨w.heap.size+1+1,1,none⟩ (.int .i64 0)).setCell ⟨w.heap.size+1+1,2,none⟩ (.slice none 0 0)).setCell ⟨w.heap.size+1+1,3,none⟩ (.slice none 0 0)).setCell ⟨w.heap.size+1+1+1,0,none⟩ (.int .i64 0)).setCell ⟨w.heap.size+1+1+1,1,none⟩ (.int .i64 0)).setCell ⟨w.heap.size+1+1+1,2,none⟩ (.int .i64 0)).setCell ⟨w.heap.size+1+1+1,3,none⟩ (.int .i64 0)).heap[w.heap.size+1+1+1]?=some (.cells #[.int .i64 0,.int .i64 0,.int .i64 0,.int .i64 0] 38 (0,0))∧(∃ qs,TabE ((((((((w3.setCell ⟨w.heap.size+1+1,0,none⟩ (.int .i64 0)).setCell ⟨w.heap.size+1+1,1,none⟩ (.int .i64 0)).setCell ⟨w.heap.size+1+1,2,none⟩ (.slice none 0 0)).setCell ⟨w.heap.size+1+1,3,none⟩ (.slice none 0 0)).setCell ⟨w.heap.size+1+1+1,0,none⟩ (.int .i64 0)).setCell ⟨w.heap.size+1+1+1,1,none⟩ (.int .i64 0)).setCell ⟨w.heap.size+1+1+1,2,none⟩ (.int .i64 0)).setCell ⟨w.heap.size+1+1+1,3,none⟩ (.int .i64 0)) w.heap.size (.slice none 0 0) (.slice none 0 0) t00 qs)∧Below w.heap.size w ((((((((w3.setCell ⟨w.heap.size+1+1,0,none⟩ (.int .i64 0)).setCell ⟨w.heap.size+1+1,1,none⟩ (.int .i64 0)).setCell ⟨w.heap.size+1+1,2,none⟩ (.slice none 0 0)).setCell ⟨w.heap.size+1+1,3,none⟩ (.slice none 0 0)).setCell ⟨w.heap.size+1+1+1,0,none⟩ (.int .i64 0)).setCell ⟨w.heap.size+1+1+1,1,none⟩ (.int .i64 0)).setCell ⟨w.heap.size+1+1+1,2,none⟩ (.int .i64 0)).setCell ⟨w.heap.size+1+1+1,3,none⟩ (.int .i64 0))):=ap_endE ⟨TabE.nil w3 w3.heap.size,Nat.le_refl _,Below.refl _ _⟩ B3.out _ _ _ _ _ _
       generalize ((((((((w3.setCell ⟨w.heap.size+1+1,0,none⟩ (.int .i64 0)).setCell ⟨w.heap.size+1+1,1,none⟩ (.int .i64 0)).setCell ⟨w.heap.size+1+1,2,none⟩ (.slice none 0 0)).setCell ⟨w.heap.size+1+1,3,none⟩ (.slice none 0 0)).setCell ⟨w.heap.size+1+1+1,0,none⟩ (.int .i64 0)).setCell ⟨w.heap.size+1+1+1,1,none⟩ (.int .i64 0)).setCell ⟨w.heap.size+1+1+1,2,none⟩ (.int .i64 0)).setCell ⟨w.heap.size+1+1+1,3,none⟩ (.int .i64 0))=wf at HF ⊢
       have d0:=(zAA HF.out.1 0 (x:=.int .i64 0) rfl).1
       have d1:=(zAA HF.out.1 1 (x:=.int .i64 0) rfl).1
       have d2:=(zAA HF.out.1 2 (x:=.slice none 0 0) rfl).1
       have d3:=(zAA HF.out.1 3 (x:=.slice none 0 0) rfl).1
       have f0:=(zAA HF.out.2.1 0 (x:=.int .i64 0) rfl).1
       have f1:=(zAA HF.out.2.1 1 (x:=.int .i64 0) rfl).1
       have f2:=(zAA HF.out.2.1 2 (x:=.int .i64 0) rfl).1
       have f3:=(zAA HF.out.2.1 3 (x:=.int .i64 0) rfl).1
       exact bodyPost_ret (v:=.tuple #[.agg #[.int .i64 0,.int .i64 0,.slice none 0 0,.slice none 0 0],.agg #[.int .i64 0,.int .i64 0,.int .i64 0,.int .i64 0],.int .i64 4]) (by simp [results,Tryz.results28,go_sem,d0,d1,d2,d3,f0,f1,f2,f3]) rfl ⟨_,_,(by rw [HST.out.1,HST.out.2.1,HST.out.2.2];try rfl),by rw [HST.out.1];exact HF.out.2.2.1,HF.out.2.2.2⟩
     | true =>
       have hnow:=zAQ hI
       by_cases hN:999000<T.nx
       ·have HST:Hid (apX T now r=T∧apA T now r=⟨0,0,0,0⟩∧apC T now r=13):=by
         have e:apC T now r=13:=by unfold apC;rw [hq,if_pos rfl];unfold sfC;rw [if_neg (by rw [hK];decide),if_neg (by rw [hI];decide),if_pos hN]
         exact ⟨by unfold apX;rw [e];rfl,by unfold apA;rw [e];rfl,e⟩
        go_wp2_with (first | (go_at_call 56;refine (in_b _ _ _ _).mono ?_;rintro e w4 ⟨rfl,hw4⟩;rw [hw4,hI];clear hw4) | (go_at_call 58;go_must (refine (own_tab _ _ _ (HRW.out.below B3.out.2.2.2.2) HTW.out.1 HTW.out.2.1 HTW.out.2.2).mono ?_;rintro e w5 ⟨a8,c8,a9,c9,ps,rfl,HO⟩;have ho:=(HO.out.2.block _ (Array.getElem?_eq_some_iff.1 B3.out.2.2.1).1).trans B3.out.2.2.1;have hz:=(HO.out.2.block _ (Array.getElem?_eq_some_iff.1 B3.out.2.2.2.1).1).trans B3.out.2.2.2.1;clear z0 y0 z1 y1 z2 y2 z3 y3 a0 b0 a1 b1 a2 b2 a3 b3;obtain ⟨z0,y0⟩:=zAA ho 0 rfl;obtain ⟨z1,y1⟩:=zAA ho 1 rfl;obtain ⟨z2,y2⟩:=zAA ho 2 rfl;obtain ⟨z3,y3⟩:=zAA ho 3 rfl;obtain ⟨a0,b0⟩:=zAA hz 0 rfl;obtain ⟨a1,b1⟩:=zAA hz 1 rfl;obtain ⟨a2,b2⟩:=zAA hz 2 rfl;obtain ⟨a3,b3⟩:=zAA hz 3 rfl;clear ho hz)))
        have HF:Hid (((((((((w5.setCell ⟨w.heap.size+1+1,0,none⟩ (.int .i64 T.tm)).setCell ⟨w.heap.size+1+1,1,none⟩ (.int .i64 T.nx)).setCell ⟨w.heap.size+1+1,2,none⟩ (.slice a8 T.ls.length c8)).setCell ⟨w.heap.size+1+1,3,none⟩ (.slice a9 T.ss.length c9)).setCell ⟨w.heap.size+1+1+1,0,none⟩ (.int .i64 0)).setCell ⟨w.heap.size+1+1+1,1,none⟩ (.int .i64 0)).setCell ⟨w.heap.size+1+1+1,2,none⟩ (.int .i64 0)).setCell ⟨w.heap.size+1+1+1,3,none⟩ (.int .i64 0)).heap[w.heap.size+1+1]?=some (.cells #[.int .i64 T.tm,.int .i64 T.nx,.slice a8 T.ls.length c8,.slice a9 T.ss.length c9] 30 (0,0))∧((((((((w5.setCell ⟨w.heap.size+1+1,0,none⟩ (.int .i64 T.tm)).setCell ⟨w.heap.size+1+1,1,none⟩ (.int .i64 T.nx)).setCell ⟨w.heap.size+1+1,2,none⟩ (.slice a8 T.ls.length c8)).setCell ⟨w.heap.size+1+1,3,none⟩ (.slice a9 T.ss.length c9)).setCell ⟨w.heap.size+1+1+1,0,none⟩ (.int .i64 0)).setCell ⟨w.heap.size+1+1+1,1,none⟩ (.int .i64 0)).setCell ⟨w.heap.size+1+1+1,2,none⟩ (.int .i64 0)).setCell ⟨w.heap.size+1+1+1,3,none⟩ (.int .i64 0)).heap[w.heap.size+1+1+1]?=some (.cells #[.int .i64 0,.int .i64 0,.int .i64 0,.int .i64 0] 38 (0,0))∧(∃ qs,TabE ((((((((w5.setCell ⟨w.heap.size+1+1,0,none⟩ (.int .i64 T.tm)).setCell ⟨w.heap.size+1+1,1,none⟩ (.int .i64 T.nx)).setCell ⟨w.heap.size+1+1,2,none⟩ (.slice a8 T.ls.length c8)).setCell ⟨w.heap.size+1+1,3,none⟩ (.slice a9 T.ss.length c9)).setCell ⟨w.heap.size+1+1+1,0,none⟩ (.int .i64 0)).setCell ⟨w.heap.size+1+1+1,1,none⟩ (.int .i64 0)).setCell ⟨w.heap.size+1+1+1,2,none⟩ (.int .i64 0)).setCell ⟨w.heap.size+1+1+1,3,none⟩ (.int .i64 0)) w.heap.size (.slice a8 T.ls.length c8) (.slice a9 T.ss.length c9) T qs)∧Below w.heap.size w ((((((((w5.setCell ⟨w.heap.size+1+1,0,none⟩ (.int .i64 T.tm)).setCell ⟨w.heap.size+1+1,1,none⟩ (.int .i64 T.nx)).setCell ⟨w.heap.size+1+1,2,none⟩ (.slice a8 T.ls.length c8)).setCell ⟨w.heap.size+1+1,3,none⟩ (.slice a9 T.ss.length c9)).setCell ⟨w.heap.size+1+1+1,0,none⟩ (.int .i64 0)).setCell ⟨w.heap.size+1+1+1,1,none⟩ (.int .i64 0)).setCell ⟨w.heap.size+1+1+1,2,none⟩ (.int .i64 0)).setCell ⟨w.heap.size+1+1+1,3,none⟩ (.int .i64 0))):=ap_endE ⟨HO.out.1,Nat.le_refl _,HO.out.2⟩ B3.out _ _ _ _ _ _
        generalize ((((((((w5.setCell ⟨w.heap.size+1+1,0,none⟩ (.int .i64 T.tm)).setCell ⟨w.heap.size+1+1,1,none⟩ (.int .i64 T.nx)).setCell ⟨w.heap.size+1+1,2,none⟩ (.slice a8 T.ls.length c8)).setCell ⟨w.heap.size+1+1,3,none⟩ (.slice a9 T.ss.length c9)).setCell ⟨w.heap.size+1+1+1,0,none⟩ (.int .i64 0)).setCell ⟨w.heap.size+1+1+1,1,none⟩ (.int .i64 0)).setCell ⟨w.heap.size+1+1+1,2,none⟩ (.int .i64 0)).setCell ⟨w.heap.size+1+1+1,3,none⟩ (.int .i64 0))=wf at HF ⊢
        have d0:=(zAA HF.out.1 0 (x:=.int .i64 T.tm) rfl).1
        have d1:=(zAA HF.out.1 1 (x:=.int .i64 T.nx) rfl).1
        have d2:=(zAA HF.out.1 2 (x:=.slice a8 T.ls.length c8) rfl).1
        have d3:=(zAA HF.out.1 3 (x:=.slice a9 T.ss.length c9) rfl).1
        have f0:=(zAA HF.out.2.1 0 (x:=.int .i64 0) rfl).1
        have f1:=(zAA HF.out.2.1 1 (x:=.int .i64 0) rfl).1
        have f2:=(zAA HF.out.2.1 2 (x:=.int .i64 0) rfl).1
        have f3:=(zAA HF.out.2.1 3 (x:=.int .i64 0) rfl).1
        exact bodyPost_ret (v:=.tuple #[.agg #[.int .i64 T.tm,.int .i64 T.nx,.slice a8 T.ls.length c8,.slice a9 T.ss.length c9],.agg #[.int .i64 0,.int .i64 0,.int .i64 0,.int .i64 0],.int .i64 13]) (by simp [results,Tryz.results28,go_sem,d0,d1,d2,d3,f0,f1,f2,f3]) rfl ⟨_,_,(by rw [HST.out.1,HST.out.2.1,HST.out.2.2];try rfl),by rw [HST.out.1];exact HF.out.2.2.1,HF.out.2.2.2⟩
       ·have HST:Hid (apX T now r=(apT T now r).1∧apA T now r=(apT T now r).2∧apC T now r=0):=by
         have e:apC T now r=0:=by unfold apC;rw [hq,if_pos rfl];unfold sfC;rw [if_neg (by rw [hK];decide),if_neg (by rw [hI];decide),if_neg hN]
         exact ⟨by unfold apX;rw [e];rfl,by unfold apA;rw [e];rfl,e⟩
        have HQ:=ask_of hq
        obtain ⟨X,a,HXA⟩ : ∃ X a,Hid (apT T now r=(X,a)):=⟨_,_,rfl⟩
        obtain ⟨ka,ta,ha,ea⟩:=a
        have HSX:Hid (apX T now r=X∧apA T now r=⟨ka,ta,ha,ea⟩∧apC T now r=0):=by have h:=HXA.out;exact ⟨HST.out.1.trans (by rw [h]),HST.out.2.1.trans (by rw [h]),HST.out.2.2⟩
        have HLX:Hid ((∀ x ∈ X.ls,x.ws.length≤1000)∧X.ls.length≤1000∧X.ss.length≤1000):=by
         have h:=(tok_bk (apT_ok hTok hnow.1 hnow.2 HQ.1 HQ.2 (by omega)).1).2
         rw [HXA.out] at h
         dsimp only at h
         exact ⟨fun x hx=>(h.1 x hx).2,by have:=h.2.1;omega,by have:=h.2.2;omega⟩
        have HAP:Hid (Calls Tryz.prog 57 #[.agg #[.int .i64 T.tm,.int .i64 T.nx,.slice la T.ls.length lc,.slice sa T.ss.length sc],.int .i64 now,.agg #[.int .i64 r.cl,.int .i64 r.st,.int .i64 r.kd,.int .i64 r.le,.string r.nm]] w3 fun e w'=>∃ al cl as' cs ps,e=.returned (.tuple #[.agg #[.int .i64 X.tm,.int .i64 X.nx,.slice al X.ls.length cl,.slice as' X.ss.length cs],.agg #[.int .i64 ka,.int .i64 ta,.int .i64 ha,.int .i64 ea]])∧Hid (TabE w' w3.heap.size (.slice al X.ls.length cl) (.slice as' X.ss.length cs) X ps∧Below w3.heap.size w3 w')):=by
         refine (l05Apply_any T _ _ now r w3 (HRW.out.below B3.out.2.2.2.2).1 (HRW.out.below B3.out.2.2.2.2).2 hTok hnow.1 hnow.2 (by omega) HQ.1).mono ?_
         rintro e w' ⟨⟨ul,us,ps,rfl,o1,o2,o3,o4,_⟩,hb⟩
         rw [HXA.out] at o3 o4 ⊢
         obtain ⟨al,cl,rfl⟩:=OwnL.slice o1
         obtain ⟨as',cs,rfl⟩:=OwnS.slice o3
         have hl:ps.length=X.ls.length:=by rw [← o4,List.length_map]
         rw [hl] at o1 ⊢
         exact ⟨al,cl,as',cs,ps,rfl,⟨o1,o3,o2,o4⟩,hb⟩
        go_upto_region 8 with (first | (go_at_call 56;refine (in_b _ _ _ _).mono ?_;rintro e w4 ⟨rfl,hw4⟩;rw [hw4,hI];clear hw4) | (go_at_call 57;go_must (refine HAP.out.mono ?_;rintro e w5 ⟨al,cl,as',cs,ps,rfl,H5⟩;clear c0 c1 c2 c3 q0 q1 q2 q3 q4;clear z0 y0 z1 y1 z2 y2 z3 y3 a0 b0 a1 b1 a2 b2 a3 b3)))
        obtain ⟨ps5,hp5⟩ : ∃ ps5,Hid (TabE w5 w3.heap.size (.slice al X.ls.length cl) (.slice as' X.ss.length cs) X ps5∧Below w3.heap.size w3 w5):=⟨_,H5⟩
        have HS3:Hid (w.heap.size+1+1+1<w3.heap.size):=(Array.getElem?_eq_some_iff.1 B3.out.2.2.2.1).1
        have H6:Hid (((w5.alloc (.cells #[.int .i64 X.tm,.int .i64 X.nx,.slice al X.ls.length cl,.slice as' X.ss.length cs] 30)).alloc (.cells #[.int .i64 ka,.int .i64 ta,.int .i64 ha,.int .i64 ea] 38)).heap[w5.heap.size]?=some (.cells #[.int .i64 X.tm,.int .i64 X.nx,.slice al X.ls.length cl,.slice as' X.ss.length cs] 30 (0,0))∧((w5.alloc (.cells #[.int .i64 X.tm,.int .i64 X.nx,.slice al X.ls.length cl,.slice as' X.ss.length cs] 30)).alloc (.cells #[.int .i64 ka,.int .i64 ta,.int .i64 ha,.int .i64 ea] 38)).heap[w5.heap.size+1]?=some (.cells #[.int .i64 ka,.int .i64 ta,.int .i64 ha,.int .i64 ea] 38 (0,0))∧TabR ((w5.alloc (.cells #[.int .i64 X.tm,.int .i64 X.nx,.slice al X.ls.length cl,.slice as' X.ss.length cs] 30)).alloc (.cells #[.int .i64 ka,.int .i64 ta,.int .i64 ha,.int .i64 ea] 38)) (.slice al X.ls.length cl) (.slice as' X.ss.length cs) X∧Below w3.heap.size w3 ((w5.alloc (.cells #[.int .i64 X.tm,.int .i64 X.nx,.slice al X.ls.length cl,.slice as' X.ss.length cs] 30)).alloc (.cells #[.int .i64 ka,.int .i64 ta,.int .i64 ha,.int .i64 ea] 38))∧w3.heap.size≤w5.heap.size):=⟨(zAP w5 _ _).1,(zAP w5 _ _).2,H5.out.1.row.below (bel2 _ _ _),H5.out.2.trans ((bel2 w5 _ _).mono H5.out.2.size),H5.out.2.size⟩
        clear hp5 H5
        try clear ps5
        generalize ((w5.alloc (.cells #[.int .i64 X.tm,.int .i64 X.nx,.slice al X.ls.length cl,.slice as' X.ss.length cs] 30)).alloc (.cells #[.int .i64 ka,.int .i64 ta,.int .i64 ha,.int .i64 ea] 38))=w6 at H6 ⊢
        obtain ⟨tb,htb⟩ : ∃ tb,w5.heap.size=tb:=⟨_,rfl⟩
        obtain ⟨ub,hub⟩ : ∃ ub,w5.heap.size+1=ub:=⟨_,rfl⟩
        have HUB:Hid (w3.heap.size≤tb∧w3.heap.size≤ub):=by have:=H6.out.2.2.2.2;exact ⟨by omega,by omega⟩
        rw [hub,htb] at H6
        rw [hub,htb]
        clear hub htb
        have HOL:Hid (tb ≠ w.heap.size+1+1∧tb ≠ w.heap.size+1+1+1∧ub ≠ w.heap.size+1+1∧ub ≠ w.heap.size+1+1+1):=by have h1:=HUB.out;have h2:=HS3.out;exact ⟨by omega,by omega,by omega,by omega⟩
        have HOW:Hid (∀ W,Below w6.heap.size w6 W→Calls Tryz.prog 58 #[.agg #[.int .i64 X.tm,.int .i64 X.nx,.slice al X.ls.length cl,.slice as' X.ss.length cs]] W fun e w'=>∃ a8 c8 a9 c9 ps,e=.returned (.agg #[.int .i64 X.tm,.int .i64 X.nx,.slice a8 X.ls.length c8,.slice a9 X.ss.length c9])∧(w'.cell? ⟨tb,0,none⟩=some (.int .i64 X.tm)∧w'.cell? ⟨tb,1,none⟩=some (.int .i64 X.nx)∧w'.cell? ⟨tb,2,none⟩=some (.slice al X.ls.length cl)∧w'.cell? ⟨tb,3,none⟩=some (.slice as' X.ss.length cs)∧w'.cell? ⟨ub,0,none⟩=some (.int .i64 ka)∧w'.cell? ⟨ub,1,none⟩=some (.int .i64 ta)∧w'.cell? ⟨ub,2,none⟩=some (.int .i64 ha)∧w'.cell? ⟨ub,3,none⟩=some (.int .i64 ea))∧((w'.cell? ⟨w.heap.size+1+1,0,none⟩=some (.int .i64 0)∧w'.frozen? ⟨w.heap.size+1+1,0,none⟩=false)∧(w'.cell? ⟨w.heap.size+1+1,1,none⟩=some (.int .i64 0)∧w'.frozen? ⟨w.heap.size+1+1,1,none⟩=false)∧(w'.cell? ⟨w.heap.size+1+1,2,none⟩=some (.slice none 0 0)∧w'.frozen? ⟨w.heap.size+1+1,2,none⟩=false)∧(w'.cell? ⟨w.heap.size+1+1,3,none⟩=some (.slice none 0 0)∧w'.frozen? ⟨w.heap.size+1+1,3,none⟩=false)∧(w'.cell? ⟨w.heap.size+1+1+1,0,none⟩=some (.int .i64 0)∧w'.frozen? ⟨w.heap.size+1+1+1,0,none⟩=false)∧(w'.cell? ⟨w.heap.size+1+1+1,1,none⟩=some (.int .i64 0)∧w'.frozen? ⟨w.heap.size+1+1+1,1,none⟩=false)∧(w'.cell? ⟨w.heap.size+1+1+1,2,none⟩=some (.int .i64 0)∧w'.frozen? ⟨w.heap.size+1+1+1,2,none⟩=false)∧(w'.cell? ⟨w.heap.size+1+1+1,3,none⟩=some (.int .i64 0)∧w'.frozen? ⟨w.heap.size+1+1+1,3,none⟩=false))∧Hid (TabE w' W.heap.size (.slice a8 X.ls.length c8) (.slice a9 X.ss.length c9) X ps∧w3.heap.size≤W.heap.size∧Below w3.heap.size w3 w')):=fun W hW=>by
         refine (own_tab _ _ W (H6.out.2.2.1.below hW) HLX.out.1 HLX.out.2.1 HLX.out.2.2).mono ?_
         rintro e w' ⟨a8,c8,a9,c9,ps,rfl,ho⟩
         have hb:=hW.trans (ho.out.2.mono hW.size)
         have h1:=(hb.block _ (Array.getElem?_eq_some_iff.1 H6.out.1).1).trans H6.out.1
         have h2:=(hb.block _ (Array.getElem?_eq_some_iff.1 H6.out.2.1).1).trans H6.out.2.1
         have hb3:=H6.out.2.2.2.1.trans (hb.mono H6.out.2.2.2.1.size)
         have h3:=(hb3.block _ (Array.getElem?_eq_some_iff.1 B3.out.2.2.1).1).trans B3.out.2.2.1
         have h4:=(hb3.block _ (Array.getElem?_eq_some_iff.1 B3.out.2.2.2.1).1).trans B3.out.2.2.2.1
         exact ⟨a8,c8,a9,c9,ps,rfl,⟨(zAA h1 0 rfl).1,(zAA h1 1 rfl).1,(zAA h1 2 rfl).1,(zAA h1 3 rfl).1,(zAA h2 0 rfl).1,(zAA h2 1 rfl).1,(zAA h2 2 rfl).1,(zAA h2 3 rfl).1⟩,⟨zAA h3 0 rfl,zAA h3 1 rfl,zAA h3 2 rfl,zAA h3 3 rfl,zAA h4 0 rfl,zAA h4 1 rfl,zAA h4 2 rfl,zAA h4 3 rfl⟩,ho.out.1,Nat.le_trans H6.out.2.2.2.1.size hW.size,hb3⟩
        have C1:w6.cell? ⟨tb,0,none⟩=some (.int .i64 X.tm)∧w6.cell? ⟨tb,1,none⟩=some (.int .i64 X.nx)∧w6.cell? ⟨tb,2,none⟩=some (.slice al X.ls.length cl)∧w6.cell? ⟨tb,3,none⟩=some (.slice as' X.ss.length cs)∧w6.cell? ⟨ub,0,none⟩=some (.int .i64 ka)∧w6.cell? ⟨ub,1,none⟩=some (.int .i64 ta)∧w6.cell? ⟨ub,2,none⟩=some (.int .i64 ha)∧w6.cell? ⟨ub,3,none⟩=some (.int .i64 ea):=⟨(zAA H6.out.1 0 rfl).1,(zAA H6.out.1 1 rfl).1,(zAA H6.out.1 2 rfl).1,(zAA H6.out.1 3 rfl).1,(zAA H6.out.2.1 0 rfl).1,(zAA H6.out.2.1 1 rfl).1,(zAA H6.out.2.1 2 rfl).1,(zAA H6.out.2.1 3 rfl).1⟩
        have C1d:w6.drew.cell? ⟨tb,0,none⟩=some (.int .i64 X.tm)∧w6.drew.cell? ⟨tb,1,none⟩=some (.int .i64 X.nx)∧w6.drew.cell? ⟨tb,2,none⟩=some (.slice al X.ls.length cl)∧w6.drew.cell? ⟨tb,3,none⟩=some (.slice as' X.ss.length cs)∧w6.drew.cell? ⟨ub,0,none⟩=some (.int .i64 ka)∧w6.drew.cell? ⟨ub,1,none⟩=some (.int .i64 ta)∧w6.drew.cell? ⟨ub,2,none⟩=some (.int .i64 ha)∧w6.drew.cell? ⟨ub,3,none⟩=some (.int .i64 ea):=C1
        go_region_held_law (fun W=>W.cell? ⟨tb,0,none⟩=some (.int .i64 X.tm)∧W.cell? ⟨tb,1,none⟩=some (.int .i64 X.nx)∧W.cell? ⟨tb,2,none⟩=some (.slice al X.ls.length cl)∧W.cell? ⟨tb,3,none⟩=some (.slice as' X.ss.length cs)∧W.cell? ⟨ub,0,none⟩=some (.int .i64 ka)∧W.cell? ⟨ub,1,none⟩=some (.int .i64 ta)∧W.cell? ⟨ub,2,none⟩=some (.int .i64 ha)∧W.cell? ⟨ub,3,none⟩=some (.int .i64 ea)) (first | with_reducible exact C1 | with_reducible exact C1d | with_reducible exact C2 | exact ⟨cf4 HOL.out.1 C2.1,cf4 HOL.out.1 C2.2.1,cf4 HOL.out.1 C2.2.2.1,cf4 HOL.out.1 C2.2.2.2.1,cf4 HOL.out.2.2.1 C2.2.2.2.2.1,cf4 HOL.out.2.2.1 C2.2.2.2.2.2.1,cf4 HOL.out.2.2.1 C2.2.2.2.2.2.2.1,cf4 HOL.out.2.2.1 C2.2.2.2.2.2.2.2⟩ | exact ⟨cf4 HOL.out.2.1 (cf4 HOL.out.1 C2.1),cf4 HOL.out.2.1 (cf4 HOL.out.1 C2.2.1),cf4 HOL.out.2.1 (cf4 HOL.out.1 C2.2.2.1),cf4 HOL.out.2.1 (cf4 HOL.out.1 C2.2.2.2.1),cf4 HOL.out.2.2.2 (cf4 HOL.out.2.2.1 C2.2.2.2.2.1),cf4 HOL.out.2.2.2 (cf4 HOL.out.2.2.1 C2.2.2.2.2.2.1),cf4 HOL.out.2.2.2 (cf4 HOL.out.2.2.1 C2.2.2.2.2.2.2.1),cf4 HOL.out.2.2.2 (cf4 HOL.out.2.2.1 C2.2.2.2.2.2.2.2)⟩ | exact ⟨cf4 HOL.out.2.1 C2.1,cf4 HOL.out.2.1 C2.2.1,cf4 HOL.out.2.1 C2.2.2.1,cf4 HOL.out.2.1 C2.2.2.2.1,cf4 HOL.out.2.2.2 C2.2.2.2.2.1,cf4 HOL.out.2.2.2 C2.2.2.2.2.2.1,cf4 HOL.out.2.2.2 C2.2.2.2.2.2.2.1,cf4 HOL.out.2.2.2 C2.2.2.2.2.2.2.2⟩) ((go_at_call 58;refine (HOW.out _ (by first | exact Below.refl _ _ | exact (Below.refl _ _).drew)).mono ?_;rintro e w8 ⟨a8,c8,a9,c9,ps,rfl,C2,⟨⟨z0,y0⟩,⟨z1,y1⟩,⟨z2,y2⟩,⟨z3,y3⟩,⟨a0,b0⟩,⟨a1,b1⟩,⟨a2,b2⟩,⟨a3,b3⟩⟩,H8⟩))
        all_goals
         clear C1 C1d C2
         go_wp2_with fail
         have HF:Hid (((((((((w8.setCell ⟨w.heap.size+1+1,0,none⟩ (.int .i64 X.tm)).setCell ⟨w.heap.size+1+1,1,none⟩ (.int .i64 X.nx)).setCell ⟨w.heap.size+1+1,2,none⟩ (.slice a8 X.ls.length c8)).setCell ⟨w.heap.size+1+1,3,none⟩ (.slice a9 X.ss.length c9)).setCell ⟨w.heap.size+1+1+1,0,none⟩ (.int .i64 ka)).setCell ⟨w.heap.size+1+1+1,1,none⟩ (.int .i64 ta)).setCell ⟨w.heap.size+1+1+1,2,none⟩ (.int .i64 ha)).setCell ⟨w.heap.size+1+1+1,3,none⟩ (.int .i64 ea)).heap[w.heap.size+1+1]?=some (.cells #[.int .i64 X.tm,.int .i64 X.nx,.slice a8 X.ls.length c8,.slice a9 X.ss.length c9] 30 (0,0))∧((((((((w8.setCell ⟨w.heap.size+1+1,0,none⟩ (.int .i64 X.tm)).setCell ⟨w.heap.size+1+1,1,none⟩ (.int .i64 X.nx)).setCell ⟨w.heap.size+1+1,2,none⟩ (.slice a8 X.ls.length c8)).setCell ⟨w.heap.size+1+1,3,none⟩ (.slice a9 X.ss.length c9)).setCell ⟨w.heap.size+1+1+1,0,none⟩ (.int .i64 ka)).setCell ⟨w.heap.size+1+1+1,1,none⟩ (.int .i64 ta)).setCell ⟨w.heap.size+1+1+1,2,none⟩ (.int .i64 ha)).setCell ⟨w.heap.size+1+1+1,3,none⟩ (.int .i64 ea)).heap[w.heap.size+1+1+1]?=some (.cells #[.int .i64 ka,.int .i64 ta,.int .i64 ha,.int .i64 ea] 38 (0,0))∧(∃ qs,TabE ((((((((w8.setCell ⟨w.heap.size+1+1,0,none⟩ (.int .i64 X.tm)).setCell ⟨w.heap.size+1+1,1,none⟩ (.int .i64 X.nx)).setCell ⟨w.heap.size+1+1,2,none⟩ (.slice a8 X.ls.length c8)).setCell ⟨w.heap.size+1+1,3,none⟩ (.slice a9 X.ss.length c9)).setCell ⟨w.heap.size+1+1+1,0,none⟩ (.int .i64 ka)).setCell ⟨w.heap.size+1+1+1,1,none⟩ (.int .i64 ta)).setCell ⟨w.heap.size+1+1+1,2,none⟩ (.int .i64 ha)).setCell ⟨w.heap.size+1+1+1,3,none⟩ (.int .i64 ea)) w.heap.size (.slice a8 X.ls.length c8) (.slice a9 X.ss.length c9) X qs)∧Below w.heap.size w ((((((((w8.setCell ⟨w.heap.size+1+1,0,none⟩ (.int .i64 X.tm)).setCell ⟨w.heap.size+1+1,1,none⟩ (.int .i64 X.nx)).setCell ⟨w.heap.size+1+1,2,none⟩ (.slice a8 X.ls.length c8)).setCell ⟨w.heap.size+1+1,3,none⟩ (.slice a9 X.ss.length c9)).setCell ⟨w.heap.size+1+1+1,0,none⟩ (.int .i64 ka)).setCell ⟨w.heap.size+1+1+1,1,none⟩ (.int .i64 ta)).setCell ⟨w.heap.size+1+1+1,2,none⟩ (.int .i64 ha)).setCell ⟨w.heap.size+1+1+1,3,none⟩ (.int .i64 ea))):=ap_endE H8.out B3.out _ _ _ _ _ _
         generalize ((((((((w8.setCell ⟨w.heap.size+1+1,0,none⟩ (.int .i64 X.tm)).setCell ⟨w.heap.size+1+1,1,none⟩ (.int .i64 X.nx)).setCell ⟨w.heap.size+1+1,2,none⟩ (.slice a8 X.ls.length c8)).setCell ⟨w.heap.size+1+1,3,none⟩ (.slice a9 X.ss.length c9)).setCell ⟨w.heap.size+1+1+1,0,none⟩ (.int .i64 ka)).setCell ⟨w.heap.size+1+1+1,1,none⟩ (.int .i64 ta)).setCell ⟨w.heap.size+1+1+1,2,none⟩ (.int .i64 ha)).setCell ⟨w.heap.size+1+1+1,3,none⟩ (.int .i64 ea))=wf at HF ⊢
         have d0:=(zAA HF.out.1 0 (x:=.int .i64 X.tm) rfl).1
         have d1:=(zAA HF.out.1 1 (x:=.int .i64 X.nx) rfl).1
         have d2:=(zAA HF.out.1 2 (x:=.slice a8 X.ls.length c8) rfl).1
         have d3:=(zAA HF.out.1 3 (x:=.slice a9 X.ss.length c9) rfl).1
         have f0:=(zAA HF.out.2.1 0 (x:=.int .i64 ka) rfl).1
         have f1:=(zAA HF.out.2.1 1 (x:=.int .i64 ta) rfl).1
         have f2:=(zAA HF.out.2.1 2 (x:=.int .i64 ha) rfl).1
         have f3:=(zAA HF.out.2.1 3 (x:=.int .i64 ea) rfl).1
         exact bodyPost_ret (v:=.tuple #[.agg #[.int .i64 X.tm,.int .i64 X.nx,.slice a8 X.ls.length c8,.slice a9 X.ss.length c9],.agg #[.int .i64 ka,.int .i64 ta,.int .i64 ha,.int .i64 ea],.int .i64 0]) (by simp [results,Tryz.results28,go_sem,d0,d1,d2,d3,f0,f1,f2,f3]) rfl ⟨_,_,(by rw [HSX.out.1,HSX.out.2.1,HSX.out.2.2];try rfl),by rw [HSX.out.1];exact HF.out.2.2.1,HF.out.2.2.2⟩
end Go.Proofs.YticokpbelgpfmaaGreat.Jza
