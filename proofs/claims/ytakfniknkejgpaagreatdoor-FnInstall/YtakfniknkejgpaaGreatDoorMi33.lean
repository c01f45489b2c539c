/- Texts put together: Ee, Fd, Ef. -/
import Derived.Test.YtakfniknkejgpaaGreatDoorMi32
namespace Go.Proofs.YtakfniknkejgpaaGreatDoor.Ea
open Go.RowKit Sl By Ap Tb Tw Mw Wa Tp Da
open Lo (LkA uV clL OwnL OwnL.kept OwnL.lt OwnL.below OwnL.row OwnL.slice zAI zAO Apart)
open Tx (zAA zAE zAB zAK zAD)
theorem TM.wadd {w0 w w':World} {B x:Nat} {T:Tab} {v3:Value} {ps:List LkA} {g cap n:Nat} (h:TM w0 w B x T (.slice (some ⟨g,0,none⟩) n cap) v3 ps) {k:Nat} {p:LkA} (hk:ps[k]?=some p) (hg:B≤g) {ws:List Wt} {a':Option Addr} {c':Nat}
 (ho:OwnW w' B (.slice a' ws.length c') ws) (hgr:w.grownBy w' (uV p).ownBlock) (hat:(Value.slice a' ws.length c').ownBlock=(uV p).ownBlock ∨ (Value.slice a' ws.length c').ownBlock=some w.heap.size) :
 TM w0 (w'.setCell ⟨g,k * 5+4,none⟩ (.slice a' ws.length c')) B x { T with ls:=T.ls.set k { p.1 with ws:=ws } } (.slice (some ⟨g,0,none⟩) n cap) v3 (ps.set k ({ p.1 with ws:=ws },a',c')):=by
 have hpw:=h.ow p (List.mem_of_getElem? hk)
 have hkl:k<ps.length:=(List.getElem?_eq_some_iff.1 hk).1
 obtain ⟨cl,hcl⟩:=zAI h.ol (g:=g) rfl
 have kx:∀ (b:Nat) (cs:Array Value) (e:TypeId),w.heap[b]?=some (.cells cs e (0,0))→e ≠ 98→w'.heap[b]?=w.heap[b]?:=fun b cs e hb he=>hgr.block b (Array.getElem?_eq_some_iff.1 hb).1 (fun e2=>by
  obtain ⟨c2,h2⟩:=zAI hpw e2.symm
  exact zAO hb h2 he rfl)
 have hcl':w'.heap[g]?=some (.cells cl 95 (0,0)):=(kx g cl _ hcl (by decide)).trans hcl
 have hx':=(kx x _ _ h.hx (by decide)).trans h.hx
 have ol':OwnL w' B (.slice (some ⟨g,0,none⟩) n cap) ps:=h.ol.kept (fun g' hg'=>by
  obtain ⟨c1,h1⟩:=zAI h.ol hg'
  exact kx g' c1 _ h1 (by decide))
 have os':OwnS w' B v3 T.ss:=h.os.kept (fun g' hg'=>by
  obtain ⟨c1,h1⟩:=zAI h.os hg'
  exact kx g' c1 _ h1 (by decide))
 have far:∀ (u:Value) (zs:List Wt),OwnW w' B u zs→OwnW (w'.setCell ⟨g,k * 5+4,none⟩ (.slice a' ws.length c')) B u zs:=fun u zs hu=>hu.kept (fun g' hg'=>by
  obtain ⟨c1,h1⟩:=zAI hu hg'
  exact zAB (zAO h1 hcl' (by decide)) _ _)
 have hbel:Below B w0 w':=h.bel.grown hgr h.size (fun j hj=>(hpw.lt j hj).1)
 refine ⟨(zAB (zAO hx' hcl' (by decide)) _ _).trans hx',OwnL.set ol' hk (q:=({ p.1 with ws:=ws },a',c')) rfl (by decide),os'.kept (fun g' hg'=>?_),fun q hq=>?_,?_,map_set h.eq,Below.setCell hbel (p:=⟨g,_,none⟩) hg _,h.b0,h.le⟩
 ·obtain ⟨c1,h1⟩:=zAI os' hg'
  exact zAB (zAO h1 hcl' (by decide)) _ _
 ·obtain ⟨i,hi,e⟩:=List.mem_iff_getElem.1 hq
  have hq2:(ps.set k (({ p.1 with ws:=ws }:Lk),a',c'))[i]?=some q:=by rw [List.getElem?_eq_getElem hi,e]
  by_cases hik:k=i
  ·subst hik
   rw [zBt hk] at hq2
   cases hq2
   exact far _ _ ho
  ·rw [List.getElem?_set,if_neg hik] at hq2
   have hqw:=h.ow q (List.mem_of_getElem? hq2)
   exact far _ _ (hqw.kept (fun g' hg'=>hgr.block g' (hqw.lt g' hg').2 (fun e2=>h.ap i k q p hq2 hk (fun e3=>hik e3.symm) g' hg' e2.symm)))
 ·rcases hat with hat | hat
  ·exact h.ap.set hk hat
  ·exact Apart.fresh h.ap (G:=w.heap.size) (fun g' hg'=>by rw [show uV (({ p.1 with ws:=ws }:Lk),a',c')=.slice a' ws.length c' from rfl,hat] at hg';cases hg';exact Nat.le_refl _) (fun q hq g' hg'=>((h.ow q hq).lt g' hg').2)
theorem TM.reloc {w0 w w':World} {B x:Nat} {T:Tab} {v2 v3 v':Value} {ps qs:List LkA} (h:TM w0 w B x T v2 v3 ps) (hb:Below w.heap.size w w') (ho:OwnL w' B v' qs) (hw:∀ q ∈ qs,OwnW w' B (uV q) q.1.ws) (ha:Apart qs) :
 TM w0 (w'.setCell ⟨x,2,none⟩ v') B x { T with ls:=qs.map (·.1) } v' v3 qs:=by
 have h2:=h.up hb
 refine ⟨by rw [zAE h2.hx];rfl,ho.kept (fun g hg=>?_),h2.os.kept (fun g hg=>?_),fun p hp=>(hw p hp).kept (fun g hg=>?_),ha,rfl,Below.setCell h2.bel (p:=⟨x,_,none⟩) h.le v',h.b0,h.le⟩
 ·obtain ⟨c1,h1⟩:=zAI ho hg
  exact zAB (zAO h1 h2.hx (by decide)) _ _
 ·obtain ⟨c1,h1⟩:=zAI h2.os hg
  exact zAB (zAO h1 h2.hx (by decide)) _ _
 ·obtain ⟨c1,h1⟩:=zAI (hw p hp) hg
  exact zAB (zAO h1 h2.hx (by decide)) _ _
theorem Apart.ins {ps:List LkA} (h:Apart ps) {k:Nat} (hk:k≤ps.length) {q:LkA} {G:Nat} (hq:∀ g,(uV q).ownBlock=some g→G≤g) (hp:∀ p ∈ ps,∀ g,(uV p).ownBlock=some g→g<G):Apart (putAt ps k q):=by
 intro i j a c ha hc hij g hg hg2
 rw [putAt_at hk] at ha hc
 have key:∀ (i:Nat) (a:LkA),(if i<k then ps[i]? else if i=k then some q else ps[i - 1]?)=some a→(i=k∧a=q) ∨ ∃ m,ps[m]?=some a∧(if i<k then m=i else m+1=i)∧i ≠ k:=fun i a ha=>by
  by_cases h1:i<k
  ·rw [if_pos h1] at ha;exact .inr ⟨i,ha,by rw [if_pos h1],by omega⟩
  ·rw [if_neg h1] at ha
   by_cases h2:i=k
   ·rw [if_pos h2] at ha;cases ha;exact .inl ⟨h2,rfl⟩
   ·rw [if_neg h2] at ha;exact .inr ⟨i - 1,ha,by rw [if_neg h1];omega,h2⟩
 rcases key i a ha with ⟨ei,ea⟩ | ⟨m,hm,em,_⟩
 ·rcases key j c hc with ⟨ej,ec⟩ | ⟨m',hm',em',_⟩
  ·omega
  ·rw [ea] at hg
   have:=hq g hg
   have:=hp c (List.mem_of_getElem? hm') g hg2
   omega
 ·rcases key j c hc with ⟨ej,ec⟩ | ⟨m',hm',em',_⟩
  ·rw [ec] at hg2
   have:=hq g hg2
   have:=hp a (List.mem_of_getElem? hm) g hg
   omega
  ·refine h m m' a c hm hm' (fun e=>hij ?_) g hg hg2
   subst e
   split at em <;> split at em' <;> omega
end Go.Proofs.YtakfniknkejgpaaGreatDoor.Ea
namespace Go.Proofs.YtakfniknkejgpaaGreatDoor.Da
open Go.RowKit Tb Tw Tp Rq
def newL (nm:ByteArray):Lk:=⟨nm,0,-1,0,[]⟩
def doT (t:Tab) (r:Ask):Tab × An :=
 match idx t.ls r.nm with
 | some k=>(⟨t.tm,acN t.nx r (t.ls.getD k default),t.ls.set k (acL t.tm t.nx r (t.ls.getD k default)),t.ss⟩,tell (acK r (t.ls.getD k default)) (acL t.tm t.nx r (t.ls.getD k default)))
 | none=>if r.kd ≠ 1 then (t,bare 3) else if 4≤t.ls.length then (t,bare 6) else
   (⟨t.tm,acN t.nx r (newL r.nm),putAt t.ls (plc t.ls r.nm) (acL t.tm t.nx r (newL r.nm)),t.ss⟩,tell (acK r (newL r.nm)) (acL t.tm t.nx r (newL r.nm)))
def AnOK (a:An):Prop:=zBi a.k a.t a.h a.e
theorem bare_ok {k:Int} (h1:1≤k) (h2:k≤8):AnOK (bare k):=⟨zAx h1 h2,zAx (show (0:Int)≤0 by decide) (show (0:Int)≤1000000 by decide),zAx (show (-1:Int)≤-1 by decide) (show (-1:Int)≤255 by decide),zAx (show (0:Int)≤0 by decide) (show (0:Int)≤2000000000 by decide)⟩
theorem stK_in (x:Lk):1≤stK x∧stK x≤8:=by unfold stK;split <;> omega
theorem acK_in (r:Ask) (x:Lk):1≤acK r x∧acK r x≤8:=by
 have:=stK_in x
 unfold acK
 repeat' split
 all_goals omega
theorem hd_in {x:Lk} (h:HdOK x):(-1≤x.h∧x.h≤255)∧0≤x.e∧x.e≤2000000000:=by
 rcases h with ⟨h1,h2,_⟩ | ⟨_,h2,h3,_⟩
 ·omega
 ·have:=zAa h2;have:=zAa h3;omega
theorem tell_ok {k:Int} {x:Lk} (h1:1≤k) (h2:k≤8) (h:HdOK x) (h3:0≤x.t) (h4:x.t≤1000000):AnOK (tell k x):=by
 have:=hd_in h
 exact ⟨zAx h1 h2,zAx h3 h4,zAx this.1.1 this.1.2,zAx this.2.1 this.2.2⟩
theorem new_hd (nm:ByteArray):HdOK (newL nm):=.inl ⟨rfl,rfl,rfl⟩
theorem doT_nx (t:Tab) (r:Ask):t.nx≤(doT t r).1.nx∧(doT t r).1.nx≤t.nx+1:=by
 unfold doT
 repeat' split
 all_goals first | exact acN_le _ _ _ | (simp only;omega)
theorem doT_ss (t:Tab) (r:Ask):(doT t r).1.ss=t.ss∧(doT t r).1.tm=t.tm:=by
 unfold doT
 repeat' split
 all_goals exact ⟨rfl,rfl⟩
theorem doT_ok {t:Tab} {r:Ask} (h:TOK t) (hr:AskOK r) (he:less ⟨#[]⟩ r.nm=true) (hn:t.nx≤999999):TOK (doT t r).1∧AnOK (doT t r).2:=by
 obtain ⟨a1,a2,a3,a4,a5,a6⟩:=h
 have b1:=zAa a1
 have b2:=zAa a2
 unfold doT
 split
 ·rename_i k hk
  obtain ⟨x,hx,hxn⟩:=zCa _ _ hk
  have e:t.ls.getD k default=x:=by rw [List.getD_eq_getElem?_getD,hx];rfl
  rw [e]
  obtain ⟨c1,c2,c3,c4⟩:=a4 k x hx
  have c5:=zAa c3
  have d1:=acL_tok (tm:=t.tm) (nx:=t.nx) (r:=r) (x:=x) c5.1 c5.2 (by omega)
  have d2:=acN_le t.nx r x
  have d3:=acL_hd (tm:=t.tm) (nx:=t.nx) c4 hr b1.1 b1.2
  have d4:=acK_in r x
  exact ⟨⟨a1,zAx (show 1≤acN t.nx r x by omega) (show acN t.nx r x≤1000000 by omega),by simp only [List.length_set];exact a3,set_ok a4 d2.1 hx (acL_name _ _ _ _) (zAx d1.1 d1.2) d3,a5,a6⟩,tell_ok d4.1 d4.2 d3 d1.1 (by omega)⟩
 ·rename_i hk
  split
  ·exact ⟨⟨a1,a2,a3,a4,a5,a6⟩,bare_ok (by decide) (by decide)⟩
  ·split
   ·exact ⟨⟨a1,a2,a3,a4,a5,a6⟩,bare_ok (by decide) (by decide)⟩
   ·rename_i h4
    have d1:=acL_tok (tm:=t.tm) (nx:=t.nx) (r:=r) (x:=newL r.nm) (show (0:Int)≤0 by decide) (show (0:Int)≤t.nx - 1 by omega) (by omega)
    have d2:=acN_le t.nx r (newL r.nm)
    have d3:=acL_hd (tm:=t.tm) (nx:=t.nx) (new_hd r.nm) hr b1.1 b1.2
    have d4:=acK_in r (newL r.nm)
    have d5:(acL t.tm t.nx r (newL r.nm)).n=r.nm:=acL_name _ _ _ _
    have d6:=put_ok (x:=acL t.tm t.nx r (newL r.nm)) (ls_up a4 d2.1) (by rw [d5];exact hk) (by rw [d5];exact hr.2.2.2) (by rw [d5];exact he) (zAx d1.1 d1.2) d3
    rw [d5] at d6
    exact ⟨⟨a1,zAx (show 1≤acN t.nx r (newL r.nm) by omega) (show acN t.nx r (newL r.nm)≤1000000 by omega),by simp only;rw [show plc t.ls r.nm=plP (fun y:Lk=>less y.n r.nm) t.ls from rfl,putAt_len (plP_le _)];omega,d6,a5,a6⟩,tell_ok d4.1 d4.2 d3 d1.1 (by omega)⟩
def sn (r:Ask) (a:An):Sn:=⟨r.cl,r.st,a.k,a.t,a.h,a.e⟩
def ansOf (s:Sn):An:=⟨s.k,s.t,s.h,s.e⟩
def sidx (ss:List Sn) (c:Int):Option Nat:=fiP (fun s=>s.c == c) ss
def splc (ss:List Sn) (c:Int):Nat:=plP (fun s=>decide (s.c<c)) ss
theorem pc_put {ss:List Sn} {k:Nat} {x:Sn} (hk:k≤ss.length) (i:Nat):pc (putAt ss k x) i=if i≤k then pc ss i else if i=k+1 then x.c+1 else pc ss (i - 1):=by
 unfold pc
 by_cases h0:i=0
 ·subst h0;simp
 ·rw [if_neg h0,List.getD_eq_getElem?_getD,putAt_at hk]
  by_cases h1:i≤k
  ·rw [if_pos h1,if_pos (by omega),if_neg h0,List.getD_eq_getElem?_getD]
  ·rw [if_neg h1,if_neg (by omega)]
   by_cases h2:i=k+1
   ·rw [if_pos h2,if_pos (by omega)];rfl
   ·rw [if_neg h2,if_neg (by omega),if_neg (by omega),List.getD_eq_getElem?_getD]
theorem sput_ok {ss:List Sn} {x:Sn} (h:SsOK ss) (hn:sidx ss x.c=none) (h1:inB x.c 0 255=true) (h2:inB x.s 1 65535=true) (h3:zBi x.k x.t x.h x.e):SsOK (putAt ss (splc ss x.c) x):=by
 have hk:=plP_le (p:=fun s:Sn=>decide (s.c<x.c)) ss
 have b1:=zAa h1
 unfold splc
 intro i l hl
 rw [putAt_at hk] at hl
 rw [pc_put hk]
 generalize hK:plP (fun s:Sn=>decide (s.c<x.c)) ss=k at hk hl ⊢
 by_cases g1:i<k
 ·rw [if_pos g1] at hl
  rw [if_pos (by omega)]
  exact h i l hl
 ·rw [if_neg g1] at hl
  by_cases g2:i=k
  ·rw [if_pos g2] at hl
   obtain rfl:x=l:=by simpa using hl
   rw [if_pos (by omega)]
   refine ⟨zAx ?_ b1.2,h2,h3⟩
   subst g2
   unfold pc
   by_cases h0:i=0
   ·rw [if_pos h0];exact b1.1
   ·rw [if_neg h0,List.getD_eq_getElem?_getD]
    obtain ⟨y,hy⟩ : ∃ y,ss[i - 1]?=some y:=⟨_,List.getElem?_eq_getElem (show i - 1<ss.length by omega)⟩
    rw [hy]
    have:=zCP (p:=fun s:Sn=>decide (s.c<x.c)) ss (i - 1) y (by omega) hy
    simp at this
    show y.c+1≤x.c
    omega
  ·rw [if_neg g2] at hl
   rw [if_neg (by omega)]
   obtain ⟨a1,a2,a3⟩:=h (i - 1) l hl
   have b2:=zAa a1
   by_cases g3:i=k+1
   ·rw [if_pos g3]
    refine ⟨zAx ?_ b2.2,a2,a3⟩
    have e:i - 1=k:=by omega
    have q1:¬ l.c<x.c:=by
     rw [e,← hK] at hl
     have:=plP_here (p:=fun s:Sn=>decide (s.c<x.c)) ss l hl
     simpa using this
    have q2:l.c ≠ x.c:=by
     have:=fiP_none (p:=fun s:Sn=>s.c == x.c) ss hn (i - 1) l hl
     simpa using this
    omega
   ·rw [if_neg g3]
    exact ⟨a1,a2,a3⟩
theorem sset_ok {ss:List Sn} {k:Nat} {x y:Sn} (h:SsOK ss) (hx:ss[k]?=some x) (hc:y.c=x.c) (h2:inB y.s 1 65535=true) (h3:zBi y.k y.t y.h y.e):SsOK (ss.set k y):=by
 have hp:∀ i,pc (ss.set k y) i=pc ss i:=fun i=>by
  unfold pc
  by_cases h0:i=0
  ·rw [if_pos h0,if_pos h0]
  ·rw [if_neg h0,if_neg h0,List.getD_eq_getElem?_getD,List.getD_eq_getElem?_getD,List.getElem?_set]
   by_cases e:k=i - 1
   ·rw [if_pos e]
    subst e
    rw [if_pos (List.getElem?_eq_some_iff.1 hx).1,hx]
    show y.c+1=x.c+1
    rw [hc]
   ·rw [if_neg e]
 intro i l hl
 rw [hp]
 rw [List.getElem?_set] at hl
 by_cases e:k=i
 ·subst e
  rw [if_pos rfl,if_pos (List.getElem?_eq_some_iff.1 hx).1] at hl
  obtain rfl:y=l:=by simpa using hl
  obtain ⟨a1,_,_⟩:=h k x hx
  exact ⟨by rw [hc];exact a1,h2,h3⟩
 ·rw [if_neg e] at hl
  exact h i l hl
def apT (t:Tab) (now:Int) (r:Ask):Tab × An :=
 match sidx t.ss r.cl with
 | some k =>
   if r.st=(t.ss.getD k default).s then (exT t now,ansOf (t.ss.getD k default))
   else if r.st<(t.ss.getD k default).s then (exT t now,bare 7)
   else ({ (doT (exT t now) r).1 with ss:=t.ss.set k (sn r (doT (exT t now) r).2) },(doT (exT t now) r).2)
 | none=>if 6≤t.ss.length then (exT t now,bare 6)
   else ({ (doT (exT t now) r).1 with ss:=putAt t.ss (splc t.ss r.cl) (sn r (doT (exT t now) r).2) },(doT (exT t now) r).2)
theorem exT_nx (t:Tab) (now:Int) (h:t.ls.length≤4):t.nx≤(exT t now).nx∧(exT t now).nx≤t.nx+4:=by
 have:=exN_le (tm:=max t.tm now) (nx:=t.nx) (ls:=t.ls) t.ls.length
 unfold exT
 simp only
 omega
theorem apT_ok {t:Tab} {now:Int} {r:Ask} (h:TOK t) (h0:0≤now) (h1:now≤1000000000) (hr:AskOK r) (he:less ⟨#[]⟩ r.nm=true) (hn:t.nx≤999990):TOK (apT t now r).1∧AnOK (apT t now r).2∧(apT t now r).1.nx≤t.nx+5:=by
 have hx:=exT_ok h h0 h1 hn
 have hn1:=exT_nx t now h.2.2.1
 obtain ⟨a1,a2,a3,a4,a5,a6⟩:=h
 have hd:=doT_ok hx hr he (by omega)
 have hd2:=doT_nx (exT t now) r
 unfold apT
 split
 ·rename_i k hk
  obtain ⟨s,hs,hsc⟩:=zCa _ _ hk
  have hsc':s.c=r.cl:=by simpa using hsc
  have e:t.ss.getD k default=s:=by rw [List.getD_eq_getElem?_getD,hs];rfl
  rw [e]
  split
  ·exact ⟨hx,(a6 k s hs).2.2,by simp only;omega⟩
  ·split
   ·exact ⟨hx,bare_ok (by decide) (by decide),by simp only;omega⟩
   ·obtain ⟨c1,c2,c3,c4,c5,c6⟩:=hd.1
    exact ⟨⟨c1,c2,c3,c4,by simp only [List.length_set];exact a5,sset_ok a6 hs hsc'.symm hr.2.1 hd.2⟩,hd.2,by simp only;omega⟩
 ·rename_i hk
  split
  ·exact ⟨hx,bare_ok (by decide) (by decide),by simp only;omega⟩
  ·obtain ⟨c1,c2,c3,c4,c5,c6⟩:=hd.1
   exact ⟨⟨c1,c2,c3,c4,by simp only;rw [show splc t.ss r.cl=plP (fun s:Sn=>decide (s.c<r.cl)) t.ss from rfl,putAt_len (plP_le _)];omega,sput_ok (x:=sn r (doT (exT t now) r).2) a6 hk hr.1 hr.2.1 hd.2⟩,hd.2,by simp only;omega⟩
def t0:Tab:=⟨0,1,[],[]⟩
def runT:List (Ask × Int)→Nat→Tab
 | _,0=>t0
 | rs,k+1=>match rs[k]? with
   | some p=>(apT (runT rs k) p.2 p.1).1
   | none=>runT rs k
def runA (rs:List (Ask × Int)) (k:Nat):List An:=(List.range k).filterMap fun j=>(rs[j]?).map fun p=>(apT (runT rs j) p.2 p.1).2
theorem t0_ok:TOK t0:=⟨by decide,by decide,by decide,fun i l hl=>by simp [t0] at hl,by decide,fun i s hs=>by simp [t0] at hs⟩
theorem runT_ok {rs:List (Ask × Int)} (h:∀ p ∈ rs,AskOK p.1∧less ⟨#[]⟩ p.1.nm=true∧0≤p.2∧p.2≤1000000000) (hl:rs.length≤200):∀ k,k≤rs.length→TOK (runT rs k)∧(runT rs k).nx≤1+5 * k
 | 0,_=>by unfold runT;exact ⟨t0_ok,by simp [t0]⟩
 | k+1,hk=>by
   obtain ⟨ih1,ih2⟩:=runT_ok h hl k (by omega)
   obtain ⟨p,hp⟩ : ∃ p,rs[k]?=some p:=⟨_,List.getElem?_eq_getElem (show k<rs.length by omega)⟩
   obtain ⟨g1,g2,g3,g4⟩:=h p (List.mem_of_getElem? hp)
   have:=apT_ok ih1 g3 g4 g1 g2 (by omega)
   rw [runT,hp]
   exact ⟨this.1,by simp only;omega⟩
end Go.Proofs.YtakfniknkejgpaaGreatDoor.Da
namespace Go.Proofs.YtakfniknkejgpaaGreatDoor.Ea
open Go.RowKit Sl By Ap Tb Tw Mw Wa Tp Da
open Lo (LkA uV clL OwnL OwnL.kept OwnL.lt OwnL.below OwnL.row OwnL.slice zAI zAO Apart)
open Lf (Fnd zAc)
open Tx (zAA zAE zAB zAK zAD)
theorem fiP_first {α:Type} {p:α→Bool}:∀ (xs:List α) (k:Nat),fiP p xs=some k→∀ (j:Nat) (z:α),j<k→xs[j]?=some z→p z=false
 | [],k,h,_,_,_,_=>by simp [fiP] at h
 | y :: r,k,h,j,z,hj,hz=>by
   unfold fiP at h
   split at h
   ·cases h;omega
   ·rename_i hy
    obtain ⟨m,hm,rfl⟩:=Option.map_eq_some_iff.1 h
    cases j with
    | zero=>simp at hz;subst hz;simpa using hy
    | succ j=>exact fiP_first r m hm j z (by omega) (by simpa using hz)
theorem fnd_idx {ls:List Lk} {nm:ByteArray} {k:Nat} {r:Int} (h:idx ls nm=some k) (hf:Fnd ls nm r):r=k:=by
 obtain ⟨y,hy,hn⟩:=zCa ls k h
 have hn':y.n=nm:=toList_inj (by simpa using hn)
 rcases hf with ⟨m,z,rfl,hz,hzn,hb⟩ | ⟨_,hb⟩
 ·by_cases e:m=k
  ·rw [e]
  ·rcases Nat.lt_or_gt_of_ne e with hlt | hgt
   ·have:=fiP_first ls k h m z hlt hz
    rw [hzn] at this
    simp at this
   ·exact absurd hn' (hb k y hgt hy)
 ·exact absurd hn' (hb k y hy)
def DoP (w0 w:World) (B x:Nat) (R:Tab × Da.An) (e:Ending) (w':World):Prop:=e=.returned (.agg #[.int .i64 R.2.k,.int .i64 R.2.t,.int .i64 R.2.h,.int .i64 R.2.e])∧(∃ v2 v3 ps,TM w0 w' B x R.1 v2 v3 ps)∧Oth w w'
theorem TM.rows {w0 w:World} {B x:Nat} {T:Tab} {v2 v3:Value} {ps:List LkA} (h:TM w0 w B x T v2 v3 ps):RowL w v2 T.ls:=by
 have:=h.ol.row (fun p hp=>(h.ow p hp).row)
 rwa [h.eq] at this
theorem zBj {ls:List Lk} {k:Nat} {y:Lk} (h:ls[k]?=some y):ls.set k y=ls:=by
 apply List.ext_getElem? fun i=>?_
 rw [List.getElem?_set]
 by_cases e:k=i
 ·subst e;rw [if_pos rfl,h,if_pos (List.getElem?_eq_some_iff.1 h).1]
 ·rw [if_neg e]
theorem zBB {w0 w w1:World} {B x r:Nat} {T:Tab} {v2 v3:Value} {ps:List LkA} (hr:w1.heap[r]?=some (.cells #[.int .i64 0,.int .i64 0,.int .i64 0,.int .i64 0] 100 (0,0))) (h:TM w0 w1 B x T v2 v3 ps) (ho:Oth w w1) (hn:¬ r<w.heap.size) (hB:B≤r) (a b c d:Value) :
 ((((w1.setCell ⟨r,0,none⟩ a).setCell ⟨r,1,none⟩ b).setCell ⟨r,2,none⟩ c).setCell ⟨r,3,none⟩ d).heap[r]?=some (.cells #[a,b,c,d] 100 (0,0))∧TM w0 ((((w1.setCell ⟨r,0,none⟩ a).setCell ⟨r,1,none⟩ b).setCell ⟨r,2,none⟩ c).setCell ⟨r,3,none⟩ d) B x T v2 v3 ps∧Oth w ((((w1.setCell ⟨r,0,none⟩ a).setCell ⟨r,1,none⟩ b).setCell ⟨r,2,none⟩ c).setCell ⟨r,3,none⟩ d):=by
 have h1:=zAE hr 0 a
 have h2:=zAE h1 1 b
 have h3:=zAE h2 2 c
 have h4:=zAE h3 3 d
 refine ⟨h4,(((h.far hr (by decide) (by decide) (by decide) (by decide) hB 0 a).far h1 (by decide) (by decide) (by decide) (by decide) hB 1 b).far h2 (by decide) (by decide) (by decide) (by decide) hB 2 c).far h3 (by decide) (by decide) (by decide) (by decide) hB 3 d,fun z cs e hz e1 e2 e3 e4=>?_⟩
 have hne:z ≠ r:=fun e5=>hn (by rw [← e5];exact (Array.getElem?_eq_some_iff.1 hz).1)
 rw [zAB hne,zAB hne,zAB hne,zAB hne]
 exact ho z cs e hz e1 e2 e3 e4
theorem getD_at {ls:List Lk} {k:Nat} {y:Lk} (h:ls[k]?=some y):ls.getD k default=y:=by rw [List.getD_eq_getElem?_getD,h];rfl
set_option maxRecDepth 100000 in
set_option maxHeartbeats 6400000 in
theorem zBL {w0 w:World} {B x:Nat} {T:Tab} {v2 v3:Value} {ps:List LkA} (h:TM w0 w B x T v2 v3 ps) (hT:TOK T) (hn:T.nx≤999999) (r:Da.Ask) (hr:AskOK r) (hkd:r.kd=1) {k:Nat} (hidx:idx T.ls r.nm=some k) {y:Lk} (hy:T.ls[k]?=some y) (hq:y.h=r.cl ∨ wtB y.ws r.cl=true ∨ y.h = -1 ∨ 4≤y.ws.length) :
 Calls Tryz.prog 108 #[.pointer (some ⟨x,0,none⟩),.agg #[.int .i64 r.cl,.int .i64 r.st,.int .i64 r.kd,.int .i64 r.le,.string r.nm]] w fun e w'=>DoP w0 w B x (doT T r) e w':=by
 obtain ⟨p,hp,hpy⟩:=h.at hy
 have htm:=zAa hT.1
 have hnx:=zAa hT.2.1
 have hle:0≤r.le∧r.le≤1000:=by
  rcases hr.2.2.1 with ⟨_,h⟩ | ⟨h,_⟩
  ·have:=zAa h;omega
  ·omega
 have hl4:T.ls.length≤4:=hT.2.2.1
 have HDO:Hid (doT T r=(⟨T.tm,acN T.nx r y,T.ls.set k (acL T.tm T.nx r y),T.ss⟩,tell (acK r y) (acL T.tm T.nx r y))):=by
  show _=_
  unfold doT
  rw [hidx]
  simp only [getD_at hy]
 have HF0:Hid (∀ W,TM w0 W B x T v2 v3 ps→Calls Tryz.prog 109 #[.agg #[.int .i64 T.tm,.int .i64 T.nx,v2,v3],.string r.nm] W fun e w'=>e=.returned (.int .i64 (k:Int))∧Below W.heap.size W w'):=fun W hW=>(zAc T.tm T.nx v2 v3 T.ls r.nm W hW.rows (by omega)).mono fun e w' ⟨q,h1,h2,h3⟩=>⟨by rw [h1,fnd_idx hidx h2],h3⟩
 have H0:Hid (TM w0 w B x T v2 v3 ps):=h
 have HX:Hid (∀ W,Below ((w.alloc (.cells #[.int .i64 r.cl,.int .i64 r.st,.int .i64 r.kd,.int .i64 r.le,.string r.nm] 123)).alloc (.cells #[.int .i64 0,.int .i64 0,.int .i64 0,.int .i64 0] 100)).heap.size ((w.alloc (.cells #[.int .i64 r.cl,.int .i64 r.st,.int .i64 r.kd,.int .i64 r.le,.string r.nm] 123)).alloc (.cells #[.int .i64 0,.int .i64 0,.int .i64 0,.int .i64 0] 100)) W→TM w0 W B x T v2 v3 ps∧W.heap[w.heap.size]?=some (.cells #[.int .i64 r.cl,.int .i64 r.st,.int .i64 r.kd,.int .i64 r.le,.string r.nm] 123 (0,0))∧W.heap[w.heap.size+1]?=some (.cells #[.int .i64 0,.int .i64 0,.int .i64 0,.int .i64 0] 100 (0,0))∧Oth w W):=fun W hW=>by
  have e1:(w.alloc (.cells #[.int .i64 r.cl,.int .i64 r.st,.int .i64 r.kd,.int .i64 r.le,.string r.nm] 123)).heap.size=w.heap.size+1:=by simp
  have b2:Below w.heap.size w ((w.alloc (.cells #[.int .i64 r.cl,.int .i64 r.st,.int .i64 r.kd,.int .i64 r.le,.string r.nm] 123)).alloc (.cells #[.int .i64 0,.int .i64 0,.int .i64 0,.int .i64 0] 100)):=(zAD w _).trans ((zAD _ _).mono (zAD w _).size)
  have bb:=b2.trans (hW.mono b2.size)
  refine ⟨H0.out.up bb,?_,?_,Oth.of_below bb⟩
  ·rw [hW.block _ (by simp;omega),(zAD (w.alloc (.cells #[.int .i64 r.cl,.int .i64 r.st,.int .i64 r.kd,.int .i64 r.le,.string r.nm] 123)) (.cells #[.int .i64 0,.int .i64 0,.int .i64 0,.int .i64 0] 100)).block _ (by simp)];exact zAK _ _ _
  ·rw [hW.block _ (by simp),← e1];exact zAK _ _ _
 obtain ⟨g,cap,hv,hgB,_,_,_⟩:=h.row hp
 subst hv
 have hpl:ps.length=T.ls.length:=h.len
 have hkl:k<ps.length:=(List.getElem?_eq_some_iff.1 hp).1
 have hkI:(k:Int)<(ps.length:Int):=by omega
 have hk0:¬ (k:Int)<0:=by omega
 have hsB:Hid (B≤w.heap.size):=h.size
 have HP:Hid (ps[k]?=some p∧p.1=y∧T.ls[k]?=some y∧B≤g):=⟨hp,hpy,hy,hgB⟩
 have HLN:Hid (ps.length=T.ls.length):=hpl
 have HTK:Hid (TOK T):=hT
 have HKD:Hid (r.kd=1):=hkd
 clear h hy hp hpy hpl hT hidx hkd
 go_enter Tryz.func108,Tryz.ntmps108
 go_upto_region 1 with fail
 generalize (w.alloc (.cells #[.int .i64 r.cl,.int .i64 r.st,.int .i64 r.kd,.int .i64 r.le,.string r.nm] 123)).alloc (.cells #[.int .i64 0,.int .i64 0,.int .i64 0,.int .i64 0] 100)=w2 at HX ⊢
 obtain ⟨X,hX,W,QI0,QO0⟩:=Qc.zAo w2
 have QI:Hid (∀ w',Below w2.heap.size w2 w'→∃ x,w'=W x):=QI0
 have QO:Hid (∀ x,Below w2.heap.size w2 (W x)):=QO0
 clear QI0 QO0
 have HF:Hid (∀ q,Calls Tryz.prog 109 #[.agg #[.int .i64 T.tm,.int .i64 T.nx,.slice (some ⟨g,0,none⟩) ps.length cap,v3],.string r.nm] (W q) fun e w'=>e=.returned (.int .i64 (k:Int))∧Below (W q).heap.size (W q) w'):=fun q=>HF0.out _ (HX.out _ (QO.out q)).1
 have y0:=fun q=>(zAA (HX.out _ (QO.out q)).1.hx 0 (x:=.int .i64 T.tm) rfl).1
 have y1:=fun q=>(zAA (HX.out _ (QO.out q)).1.hx 1 (x:=.int .i64 T.nx) rfl).1
 have y2:=fun q=>(zAA (HX.out _ (QO.out q)).1.hx 2 (x:=.slice (some ⟨g,0,none⟩) ps.length cap) rfl).1
 have y3:=fun q=>(zAA (HX.out _ (QO.out q)).1.hx 3 (x:=v3) rfl).1
 have z4:=fun q=>(zAA (HX.out _ (QO.out q)).2.1 4 (x:=.string r.nm) rfl).1
 refine Qc.zAF (W:=W) (by kernel_rfl) (by kernel_rfl) (QI.out _ Qc.zAJ) ?_
 repeat (go_big_quiet_step (first | (go_at_call 109;refine (HF.out _).mono ?_;rintro e w2 ⟨rfl,b2⟩;exact ⟨rfl,Qc.back QI.out QO.out b2⟩)))
 refine wpQuiet_nil ?_
 rintro _ ⟨xq,rfl⟩
 have G3:Hid (Below w2.heap.size w2 (W xq)):=QO.out xq
 clear y0 y1 y2 y3 z4 HF HF0 QO QI
 generalize W xq=w3 at G3 ⊢
 obtain ⟨t3,q3,_,_⟩:=HX.out _ G3.out
 have x2:=(zAA t3.hx 2 (x:=.slice (some ⟨g,0,none⟩) ps.length cap) rfl).1
 have c0:=(zAA q3 0 (x:=.int .i64 r.cl) rfl).1
 have HM3:Hid (∀ j u,(clL p)[j]?=some u→w3.cell? ⟨g,k * 5+j,none⟩=some u):=fun j u hj=>by
  obtain ⟨g',cap',e,_,_,_,hc⟩:=t3.row HP.out.1
  cases e
  exact (hc j u hj).1
 have HRW:Hid (RowW w3 (uV p) p.1.ws):=(t3.ow p (List.mem_of_getElem? HP.out.1)).row
 have HWL:Hid (p.1.ws.length≤4∧p.1.ws.length≤1000):=by
  have hh:=(HTK.out.2.2.2.1 k y HP.out.2.2.1).2.2.2
  have h5:y.ws.length≤4:=by
   rcases hh with hh | hh
   ·have:=hh.2.2;omega
   ·exact hh.2.2.2.1
  rw [HP.out.2.1]
  exact ⟨h5,by omega⟩
 clear t3 q3
 go_upto_region 11 with fail
 clear x2
 have m0:w3.cell? ⟨g,k * 5,none⟩=some (.string p.1.n):=HM3.out 0 (.string p.1.n) rfl
 have m1:=HM3.out 1 (.int .i64 p.1.t) rfl
 have m2:=HM3.out 2 (.int .i64 p.1.h) rfl
 have m3:=HM3.out 3 (.int .i64 p.1.e) rfl
 have m4:=HM3.out 4 (.slice p.2.1 p.1.ws.length p.2.2) rfl
 clear HM3
 by_cases hA:p.1.h=r.cl
 ·have HAC:Hid (acN T.nx r y=T.nx∧acL T.tm T.nx r y=y∧acK r y=8):=by
   rw [HP.out.2.1] at hA
   have hor:y.h=r.cl ∨ wtB y.ws r.cl=true:=.inl hA
   unfold acN acL acK
   rw [HKD.out]
   simp only [if_true,hor]
   exact ⟨trivial,trivial,trivial⟩
  have hA':(p.1.h == r.cl)=true:=by simpa using hA
  clear hA
  obtain ⟨X,hX,W,QI0,QO0⟩:=Qc.zAo w3
  have QI:Hid (∀ w',Below w3.heap.size w3 w'→∃ x,w'=W x):=QI0
  have QO:Hid (∀ x,Below w3.heap.size w3 (W x)):=QO0
  clear QI0 QO0
  have y0:=Qc.zAC QO.out m0
  have y1:=Qc.zAC QO.out m1
  have y2:=Qc.zAC QO.out m2
  have y3:=Qc.zAC QO.out m3
  have y4:=Qc.zAC QO.out m4
  have z0:=Qc.zAC QO.out c0
  refine Qc.zAF (W:=W) (by kernel_rfl) (by kernel_rfl) (QI.out _ Qc.zAJ) ?_
  repeat (go_big_quiet_step (fail))
  refine wpQuiet_nil ?_
  rintro _ ⟨xq,rfl⟩
  have G4:Hid (Below w2.heap.size w2 (W xq)):=G3.out.trans ((QO.out xq).mono G3.out.size)
  clear y0 y1 y2 y3 y4 z0 QO QI m0 m1 m2 m3 m4 c0 G3
  generalize W xq=w4 at G4 ⊢
  obtain ⟨t4,q4,z4,_⟩:=HX.out _ G4.out
  have HM:Hid (∀ j u,(clL p)[j]?=some u→w4.cell? ⟨g,k * 5+j,none⟩=some u):=fun j u hj=>by
   obtain ⟨g',cap',e,_,_,_,hc⟩:=t4.row HP.out.1
   cases e
   exact (hc j u hj).1
  have m0:w4.cell? ⟨g,k * 5,none⟩=some (.string p.1.n):=HM.out 0 (.string p.1.n) rfl
  have m1:=HM.out 1 (.int .i64 p.1.t) rfl
  have m2:=HM.out 2 (.int .i64 p.1.h) rfl
  have m3:=HM.out 3 (.int .i64 p.1.e) rfl
  have m4:=HM.out 4 (.slice p.2.1 p.1.ws.length p.2.2) rfl
  clear t4 q4 z4 HM
  have HTL:Hid (∀ W,Calls Tryz.prog 110 #[.int .i64 8,.agg #[.string p.1.n,.int .i64 p.1.t,.int .i64 p.1.h,.int .i64 p.1.e,.slice p.2.1 p.1.ws.length p.2.2]] W fun e w'=>e=.returned (.agg #[.int .i64 8,.int .i64 p.1.t,.int .i64 p.1.h,.int .i64 p.1.e])∧Below W.heap.size W w'):=fun W=>zAe 8 p.1 (uV p) W
  go_wp2_with fail
  refine (HTL.out _).mono ?_
  rintro e w5 ⟨rfl,b5⟩
  have G5:Hid (Below w2.heap.size w2 w5):=G4.out.trans (b5.mono G4.out.size)
  clear b5 m0 m1 m2 m3 m4
  have AX:Hid (w5.heap[w.heap.size+1]?=some (.cells #[.int .i64 0,.int .i64 0,.int .i64 0,.int .i64 0] 100 (0,0))):=(HX.out _ G5.out).2.2.1
  have RF:=zBB AX.out (HX.out _ G5.out).1 (HX.out _ G5.out).2.2.2 (by omega) (Nat.le_succ_of_le hsB.out) (.int .i64 8) (.int .i64 p.1.t) (.int .i64 p.1.h) (.int .i64 p.1.e)
  obtain ⟨n0,f0⟩:=zAA AX.out 0 (x:=.int .i64 0) rfl
  obtain ⟨n1,f1⟩:=zAA AX.out 1 (x:=.int .i64 0) rfl
  obtain ⟨n2,f2⟩:=zAA AX.out 2 (x:=.int .i64 0) rfl
  obtain ⟨n3,f3⟩:=zAA AX.out 3 (x:=.int .i64 0) rfl
  have RFH:Hid _:=RF
  clear RF
  go_wp2_with fail
  generalize ((((w5.setCell ⟨w.heap.size+1,0,none⟩ (.int .i64 8)).setCell ⟨w.heap.size+1,1,none⟩ (.int .i64 p.1.t)).setCell ⟨w.heap.size+1,2,none⟩ (.int .i64 p.1.h)).setCell ⟨w.heap.size+1,3,none⟩ (.int .i64 p.1.e))=wf at RFH ⊢
  have d0:=(zAA RFH.out.1 0 (x:=.int .i64 8) rfl).1
  have d1:=(zAA RFH.out.1 1 (x:=.int .i64 p.1.t) rfl).1
  have d2:=(zAA RFH.out.1 2 (x:=.int .i64 p.1.h) rfl).1
  have d3:=(zAA RFH.out.1 3 (x:=.int .i64 p.1.e) rfl).1
  refine bodyPost_ret (v:=.agg #[.int .i64 8,.int .i64 p.1.t,.int .i64 p.1.h,.int .i64 p.1.e]) (by simp [results,Tryz.results108,go_sem,d0,d1,d2,d3]) rfl ?_
  refine ⟨?_,⟨.slice (some ⟨g,0,none⟩) ps.length cap,v3,ps,?_⟩,RFH.out.2.2⟩
  ·rw [HDO.out,HAC.out.1,HAC.out.2.1,HAC.out.2.2,← HP.out.2.1];rfl
  ·rw [HDO.out,HAC.out.1,HAC.out.2.1,zBj HP.out.2.2.1];exact RFH.out.2.1
 ·have hA':(p.1.h == r.cl)=false:=by simpa using hA
  have HNA:Hid (¬ y.h=r.cl):=by rw [← HP.out.2.1];exact hA
  clear hA
  obtain ⟨ix,HIX⟩ : ∃ ix,Hid (wIx p.1.ws r.cl=ix):=⟨_,rfl⟩
  cases hB:wtB p.1.ws r.cl with
  | true =>
    have hix:(0:Int)≤ix:=by rw [← HIX.out];unfold wIx;rw [if_pos hB];omega
    have HAC:Hid (acN T.nx r y=T.nx∧acL T.tm T.nx r y=y∧acK r y=8):=by
     have hor:y.h=r.cl ∨ wtB y.ws r.cl=true:=.inr (by rw [← HP.out.2.1];exact hB)
     unfold acN acL acK
     rw [HKD.out]
     simp only [if_true,hor]
     exact ⟨trivial,trivial,trivial⟩
    clear hB
    obtain ⟨X,hX,W,QI0,QO0⟩:=Qc.zAo w3
    have QI:Hid (∀ w',Below w3.heap.size w3 w'→∃ x,w'=W x):=QI0
    have QO:Hid (∀ x,Below w3.heap.size w3 (W x)):=QO0
    clear QI0 QO0
    have y0:=Qc.zAC QO.out m0
    have y1:=Qc.zAC QO.out m1
    have y2:=Qc.zAC QO.out m2
    have y3:=Qc.zAC QO.out m3
    have y4:=Qc.zAC QO.out m4
    have z0:=Qc.zAC QO.out c0
    have HW:Hid (∀ q,Calls Tryz.prog 111 #[.agg #[.string p.1.n,.int .i64 p.1.t,.int .i64 p.1.h,.int .i64 p.1.e,.slice p.2.1 p.1.ws.length p.2.2],.int .i64 r.cl] (W q) fun e w'=>e=.returned (.int .i64 ix)∧Below (W q).heap.size (W q) w'):=fun q=>by
     rw [← HIX.out]
     exact zBS p.1 (uV p) r.cl (W q) (RowW.below HRW.out (QO.out q)) HWL.out.2
    refine Qc.zAF (W:=W) (by kernel_rfl) (by kernel_rfl) (QI.out _ Qc.zAJ) ?_
    repeat (go_big_quiet_step (first | (go_at_call 111;refine (HW.out _).mono ?_;rintro e w2 ⟨rfl,b2⟩;exact ⟨rfl,Qc.back QI.out QO.out b2⟩)))
    refine wpQuiet_nil ?_
    rintro _ ⟨xq,rfl⟩
    have G4:Hid (Below w2.heap.size w2 (W xq)):=G3.out.trans ((QO.out xq).mono G3.out.size)
    clear y0 y1 y2 y3 y4 z0 QO QI HW m0 m1 m2 m3 m4 c0 G3
    generalize W xq=w4 at G4 ⊢
    obtain ⟨t4,q4,z4,_⟩:=HX.out _ G4.out
    have HM:Hid (∀ j u,(clL p)[j]?=some u→w4.cell? ⟨g,k * 5+j,none⟩=some u):=fun j u hj=>by
     obtain ⟨g',cap',e,_,_,_,hc⟩:=t4.row HP.out.1
     cases e
     exact (hc j u hj).1
    have m0:w4.cell? ⟨g,k * 5,none⟩=some (.string p.1.n):=HM.out 0 (.string p.1.n) rfl
    have m1:=HM.out 1 (.int .i64 p.1.t) rfl
    have m2:=HM.out 2 (.int .i64 p.1.h) rfl
    have m3:=HM.out 3 (.int .i64 p.1.e) rfl
    have m4:=HM.out 4 (.slice p.2.1 p.1.ws.length p.2.2) rfl
    clear t4 q4 z4 HM
    have HTL:Hid (∀ W,Calls Tryz.prog 110 #[.int .i64 8,.agg #[.string p.1.n,.int .i64 p.1.t,.int .i64 p.1.h,.int .i64 p.1.e,.slice p.2.1 p.1.ws.length p.2.2]] W fun e w'=>e=.returned (.agg #[.int .i64 8,.int .i64 p.1.t,.int .i64 p.1.h,.int .i64 p.1.e])∧Below W.heap.size W w'):=fun W=>zAe 8 p.1 (uV p) W
    go_wp2_with fail
    refine (HTL.out _).mono ?_
    rintro e w5 ⟨rfl,b5⟩
    have G5:Hid (Below w2.heap.size w2 w5):=G4.out.trans (b5.mono G4.out.size)
    clear b5 m0 m1 m2 m3 m4
    have AX:Hid (w5.heap[w.heap.size+1]?=some (.cells #[.int .i64 0,.int .i64 0,.int .i64 0,.int .i64 0] 100 (0,0))):=(HX.out _ G5.out).2.2.1
    have RF:=zBB AX.out (HX.out _ G5.out).1 (HX.out _ G5.out).2.2.2 (by omega) (Nat.le_succ_of_le hsB.out) (.int .i64 8) (.int .i64 p.1.t) (.int .i64 p.1.h) (.int .i64 p.1.e)
    obtain ⟨n0,f0⟩:=zAA AX.out 0 (x:=.int .i64 0) rfl
    obtain ⟨n1,f1⟩:=zAA AX.out 1 (x:=.int .i64 0) rfl
    obtain ⟨n2,f2⟩:=zAA AX.out 2 (x:=.int .i64 0) rfl
    obtain ⟨n3,f3⟩:=zAA AX.out 3 (x:=.int .i64 0) rfl
    have RFH:Hid _:=RF
    clear RF
    go_wp2_with fail
    generalize ((((w5.setCell ⟨w.heap.size+1,0,none⟩ (.int .i64 8)).setCell ⟨w.heap.size+1,1,none⟩ (.int .i64 p.1.t)).setCell ⟨w.heap.size+1,2,none⟩ (.int .i64 p.1.h)).setCell ⟨w.heap.size+1,3,none⟩ (.int .i64 p.1.e))=wf at RFH ⊢
    have d0:=(zAA RFH.out.1 0 (x:=.int .i64 8) rfl).1
    have d1:=(zAA RFH.out.1 1 (x:=.int .i64 p.1.t) rfl).1
    have d2:=(zAA RFH.out.1 2 (x:=.int .i64 p.1.h) rfl).1
    have d3:=(zAA RFH.out.1 3 (x:=.int .i64 p.1.e) rfl).1
    refine bodyPost_ret (v:=.agg #[.int .i64 8,.int .i64 p.1.t,.int .i64 p.1.h,.int .i64 p.1.e]) (by simp [results,Tryz.results108,go_sem,d0,d1,d2,d3]) rfl ?_
    refine ⟨?_,⟨.slice (some ⟨g,0,none⟩) ps.length cap,v3,ps,?_⟩,RFH.out.2.2⟩
    ·rw [HDO.out,HAC.out.1,HAC.out.2.1,HAC.out.2.2,← HP.out.2.1];rfl
    ·rw [HDO.out,HAC.out.1,HAC.out.2.1,zBj HP.out.2.2.1];exact RFH.out.2.1
  | false =>
    have hix:¬ (0:Int)≤ix:=by rw [← HIX.out];unfold wIx;rw [if_neg (by rw [hB];decide)];decide
    have HNO:Hid (¬ (y.h=r.cl ∨ wtB y.ws r.cl=true)):=fun h=>by
     rcases h with h | h
     ·exact HNA.out h
     ·rw [← HP.out.2.1,hB] at h;cases h
    clear hB
    by_cases hC:p.1.h<0
    ·have hy1:y.h = -1:=by
      have hh:=(HTK.out.2.2.2.1 k y HP.out.2.2.1).2.2.2
      rcases hh with hh | hh
      ·exact hh.1
      ·have:=(zAa hh.2.1).1;rw [HP.out.2.1] at hC;omega
     have HAC:Hid (acN T.nx r y=T.nx+1∧acL T.tm T.nx r y=grL T.tm T.nx y r.cl r.le∧acK r y=1):=by
      unfold acN acL acK
      rw [HKD.out]
      refine ⟨?_,?_,?_⟩
      ·rw [if_pos rfl,if_neg HNO.out,if_pos hy1]
      ·rw [if_pos rfl,if_neg HNO.out,if_pos hy1]
      ·rw [if_pos rfl,if_neg HNO.out,if_pos hy1]
     clear hy1
     obtain ⟨X,hX,W,QI0,QO0⟩:=Qc.zAo w3
     have QI:Hid (∀ w',Below w3.heap.size w3 w'→∃ x,w'=W x):=QI0
     have QO:Hid (∀ x,Below w3.heap.size w3 (W x)):=QO0
     clear QI0 QO0
     have y0:=Qc.zAC QO.out m0
     have y1:=Qc.zAC QO.out m1
     have y2:=Qc.zAC QO.out m2
     have y3:=Qc.zAC QO.out m3
     have y4:=Qc.zAC QO.out m4
     have z0:=Qc.zAC QO.out c0
     have HW:Hid (∀ q,Calls Tryz.prog 111 #[.agg #[.string p.1.n,.int .i64 p.1.t,.int .i64 p.1.h,.int .i64 p.1.e,.slice p.2.1 p.1.ws.length p.2.2],.int .i64 r.cl] (W q) fun e w'=>e=.returned (.int .i64 ix)∧Below (W q).heap.size (W q) w'):=fun q=>by
      rw [← HIX.out]
      exact zBS p.1 (uV p) r.cl (W q) (RowW.below HRW.out (QO.out q)) HWL.out.2
     refine Qc.zAF (W:=W) (by kernel_rfl) (by kernel_rfl) (QI.out _ Qc.zAJ) ?_
     repeat (go_big_quiet_step (first | (go_at_call 111;refine (HW.out _).mono ?_;rintro e w2 ⟨rfl,b2⟩;exact ⟨rfl,Qc.back QI.out QO.out b2⟩)))
     refine wpQuiet_nil ?_
     rintro _ ⟨xq,rfl⟩
     have G4:Hid (Below w2.heap.size w2 (W xq)):=G3.out.trans ((QO.out xq).mono G3.out.size)
     clear y0 y1 y2 y3 y4 z0 QO QI HW m0 m1 m2 m3 m4 c0 G3
     generalize W xq=w4 at G4 ⊢
     obtain ⟨t4,q4,z4,ot4⟩:=HX.out _ G4.out
     have m2:w4.cell? ⟨g,k * 5+2,none⟩=some (.int .i64 p.1.h):=by
      obtain ⟨g',cap',e,_,_,_,hc⟩:=t4.row HP.out.1
      cases e
      exact (hc 2 _ rfl).1
     have c0:=(zAA q4 0 (x:=.int .i64 r.cl) rfl).1
     have c3:=(zAA q4 3 (x:=.int .i64 r.le) rfl).1
     have HG:=zBv t4 HP.out.1 r.cl r.le htm.1 htm.2 hnx.1 hn hle.1 hle.2
     have Z4:Hid (w4.heap[w.heap.size+1]?=some (.cells #[.int .i64 0,.int .i64 0,.int .i64 0,.int .i64 0] 100 (0,0))∧Oth w w4):=⟨z4,ot4⟩
     clear t4 q4 z4 ot4
     go_wp2_with fail
     refine HG.mono ?_
     rintro e w5 ⟨rfl,t5,o5⟩
     have T5:Hid (TM w0 w5 B x { T with nx:=T.nx+1,ls:=T.ls.set k (grL T.tm T.nx p.1 r.cl r.le) } (.slice (some ⟨g,0,none⟩) ps.length cap) v3 (ps.set k ((grL T.tm T.nx p.1 r.cl r.le),p.2))∧w5.heap[w.heap.size+1]?=some (.cells #[.int .i64 0,.int .i64 0,.int .i64 0,.int .i64 0] 100 (0,0))∧Oth w w5):=⟨t5,o5 _ _ _ Z4.out.1 (by decide) (by decide) (by decide) (by decide),Z4.out.2.trans o5⟩
     clear t5 o5 HG m2 c0 c3
     have HM5:Hid (∀ j u,(clL ((grL T.tm T.nx p.1 r.cl r.le),p.2))[j]?=some u→w5.cell? ⟨g,k * 5+j,none⟩=some u):=fun j u hj=>by
      obtain ⟨g',cap',e,_,_,_,hc⟩:=T5.out.1.row (zBt HP.out.1)
      rw [List.length_set] at e
      cases e
      exact (hc j u hj).1
     have m0:w5.cell? ⟨g,k * 5,none⟩=some (.string p.1.n):=HM5.out 0 _ rfl
     have m1:=HM5.out 1 (.int .i64 T.nx) rfl
     have m2:=HM5.out 2 (.int .i64 r.cl) rfl
     have m3:=HM5.out 3 (.int .i64 (T.tm+r.le)) rfl
     have m4:=HM5.out 4 (.slice p.2.1 p.1.ws.length p.2.2) rfl
     have x2:=(zAA T5.out.1.hx 2 (x:=.slice (some ⟨g,0,none⟩) ps.length cap) rfl).1
     have HTL:Hid (∀ W,Calls Tryz.prog 110 #[.int .i64 1,.agg #[.string p.1.n,.int .i64 T.nx,.int .i64 r.cl,.int .i64 (T.tm+r.le),.slice p.2.1 p.1.ws.length p.2.2]] W fun e w'=>e=.returned (.agg #[.int .i64 1,.int .i64 T.nx,.int .i64 r.cl,.int .i64 (T.tm+r.le)])∧Below W.heap.size W w'):=fun W=>zAe 1 (grL T.tm T.nx p.1 r.cl r.le) (uV p) W
     clear HM5
     go_wp2_with fail
     refine (HTL.out _).mono ?_
     rintro e w6 ⟨rfl,b6⟩
     have T6:Hid (TM w0 w6 B x { T with nx:=T.nx+1,ls:=T.ls.set k (grL T.tm T.nx p.1 r.cl r.le) } (.slice (some ⟨g,0,none⟩) ps.length cap) v3 (ps.set k ((grL T.tm T.nx p.1 r.cl r.le),p.2))∧w6.heap[w.heap.size+1]?=some (.cells #[.int .i64 0,.int .i64 0,.int .i64 0,.int .i64 0] 100 (0,0))∧Oth w w6):=⟨T5.out.1.up b6,(b6.block _ (Array.getElem?_eq_some_iff.1 T5.out.2.1).1).trans T5.out.2.1,T5.out.2.2.trans (Oth.of_below b6)⟩
     clear b6 m0 m1 m2 m3 m4 x2 T5
     have RFH:Hid _:=zBB T6.out.2.1 T6.out.1 T6.out.2.2 (by omega) (Nat.le_succ_of_le hsB.out) (.int .i64 1) (.int .i64 T.nx) (.int .i64 r.cl) (.int .i64 (T.tm+r.le))
     obtain ⟨n0,f0⟩:=zAA T6.out.2.1 0 (x:=.int .i64 0) rfl
     obtain ⟨n1,f1⟩:=zAA T6.out.2.1 1 (x:=.int .i64 0) rfl
     obtain ⟨n2,f2⟩:=zAA T6.out.2.1 2 (x:=.int .i64 0) rfl
     obtain ⟨n3,f3⟩:=zAA T6.out.2.1 3 (x:=.int .i64 0) rfl
     clear T6
     go_wp2_with fail
     generalize ((((w6.setCell ⟨w.heap.size+1,0,none⟩ (.int .i64 1)).setCell ⟨w.heap.size+1,1,none⟩ (.int .i64 T.nx)).setCell ⟨w.heap.size+1,2,none⟩ (.int .i64 r.cl)).setCell ⟨w.heap.size+1,3,none⟩ (.int .i64 (T.tm+r.le)))=wf at RFH ⊢
     have d0:=(zAA RFH.out.1 0 (x:=.int .i64 1) rfl).1
     have d1:=(zAA RFH.out.1 1 (x:=.int .i64 T.nx) rfl).1
     have d2:=(zAA RFH.out.1 2 (x:=.int .i64 r.cl) rfl).1
     have d3:=(zAA RFH.out.1 3 (x:=.int .i64 (T.tm+r.le)) rfl).1
     refine bodyPost_ret (v:=.agg #[.int .i64 1,.int .i64 T.nx,.int .i64 r.cl,.int .i64 (T.tm+r.le)]) (by simp [results,Tryz.results108,go_sem,d0,d1,d2,d3]) rfl ?_
     refine ⟨?_,⟨.slice (some ⟨g,0,none⟩) ps.length cap,v3,ps.set k ((grL T.tm T.nx p.1 r.cl r.le),p.2),?_⟩,RFH.out.2.2⟩
     ·rw [HDO.out,HAC.out.1,HAC.out.2.1,HAC.out.2.2];rfl
     ·rw [HDO.out,HAC.out.1,HAC.out.2.1];rw [← HP.out.2.1];exact RFH.out.2.1
    ·have hyn:¬ y.h = -1:=by rw [← HP.out.2.1];omega
     by_cases hD:4≤p.1.ws.length
     ·have HAC:Hid (acN T.nx r y=T.nx∧acL T.tm T.nx r y=y∧acK r y=6):=by
       rw [HP.out.2.1] at hD
       unfold acN acL acK
       rw [HKD.out]
       simp only [if_true,HNO.out,hyn,hD,if_false]
       exact ⟨trivial,trivial,trivial⟩
      have hD4:((p.1.ws.length:Int) == 4)=true:=by have:=HWL.out.1;simp;omega
      clear hyn hD
      obtain ⟨X,hX,W,QI0,QO0⟩:=Qc.zAo w3
      have QI:Hid (∀ w',Below w3.heap.size w3 w'→∃ x,w'=W x):=QI0
      have QO:Hid (∀ x,Below w3.heap.size w3 (W x)):=QO0
      clear QI0 QO0
      have y0:=Qc.zAC QO.out m0
      have y1:=Qc.zAC QO.out m1
      have y2:=Qc.zAC QO.out m2
      have y3:=Qc.zAC QO.out m3
      have y4:=Qc.zAC QO.out m4
      have z0:=Qc.zAC QO.out c0
      have HW:Hid (∀ q,Calls Tryz.prog 111 #[.agg #[.string p.1.n,.int .i64 p.1.t,.int .i64 p.1.h,.int .i64 p.1.e,.slice p.2.1 p.1.ws.length p.2.2],.int .i64 r.cl] (W q) fun e w'=>e=.returned (.int .i64 ix)∧Below (W q).heap.size (W q) w'):=fun q=>by
       rw [← HIX.out]
       exact zBS p.1 (uV p) r.cl (W q) (RowW.below HRW.out (QO.out q)) HWL.out.2
      refine Qc.zAF (W:=W) (by kernel_rfl) (by kernel_rfl) (QI.out _ Qc.zAJ) ?_
      repeat (go_big_quiet_step (first | (go_at_call 111;refine (HW.out _).mono ?_;rintro e w2 ⟨rfl,b2⟩;exact ⟨rfl,Qc.back QI.out QO.out b2⟩)))
      refine wpQuiet_nil ?_
      rintro _ ⟨xq,rfl⟩
      have G4:Hid (Below w2.heap.size w2 (W xq)):=G3.out.trans ((QO.out xq).mono G3.out.size)
      clear y0 y1 y2 y3 y4 z0 QO QI HW m0 m1 m2 m3 m4 c0 G3
      generalize W xq=w4 at G4 ⊢
      obtain ⟨t4,q4,z4,_⟩:=HX.out _ G4.out
      have HM:Hid (∀ j u,(clL p)[j]?=some u→w4.cell? ⟨g,k * 5+j,none⟩=some u):=fun j u hj=>by
       obtain ⟨g',cap',e,_,_,_,hc⟩:=t4.row HP.out.1
       cases e
       exact (hc j u hj).1
      have m0:w4.cell? ⟨g,k * 5,none⟩=some (.string p.1.n):=HM.out 0 (.string p.1.n) rfl
      have m1:=HM.out 1 (.int .i64 p.1.t) rfl
      have m2:=HM.out 2 (.int .i64 p.1.h) rfl
      have m3:=HM.out 3 (.int .i64 p.1.e) rfl
      have m4:=HM.out 4 (.slice p.2.1 p.1.ws.length p.2.2) rfl
      clear t4 q4 z4 HM
      have HTL:Hid (∀ W,Calls Tryz.prog 110 #[.int .i64 6,.agg #[.string p.1.n,.int .i64 p.1.t,.int .i64 p.1.h,.int .i64 p.1.e,.slice p.2.1 p.1.ws.length p.2.2]] W fun e w'=>e=.returned (.agg #[.int .i64 6,.int .i64 p.1.t,.int .i64 p.1.h,.int .i64 p.1.e])∧Below W.heap.size W w'):=fun W=>zAe 6 p.1 (uV p) W
      go_wp2_with fail
      refine (HTL.out _).mono ?_
      rintro e w5 ⟨rfl,b5⟩
      have G5:Hid (Below w2.heap.size w2 w5):=G4.out.trans (b5.mono G4.out.size)
      clear b5 m0 m1 m2 m3 m4
      have AX:Hid (w5.heap[w.heap.size+1]?=some (.cells #[.int .i64 0,.int .i64 0,.int .i64 0,.int .i64 0] 100 (0,0))):=(HX.out _ G5.out).2.2.1
      have RF:=zBB AX.out (HX.out _ G5.out).1 (HX.out _ G5.out).2.2.2 (by omega) (Nat.le_succ_of_le hsB.out) (.int .i64 6) (.int .i64 p.1.t) (.int .i64 p.1.h) (.int .i64 p.1.e)
      obtain ⟨n0,f0⟩:=zAA AX.out 0 (x:=.int .i64 0) rfl
      obtain ⟨n1,f1⟩:=zAA AX.out 1 (x:=.int .i64 0) rfl
      obtain ⟨n2,f2⟩:=zAA AX.out 2 (x:=.int .i64 0) rfl
      obtain ⟨n3,f3⟩:=zAA AX.out 3 (x:=.int .i64 0) rfl
      have RFH:Hid _:=RF
      clear RF
      go_wp2_with fail
      generalize ((((w5.setCell ⟨w.heap.size+1,0,none⟩ (.int .i64 6)).setCell ⟨w.heap.size+1,1,none⟩ (.int .i64 p.1.t)).setCell ⟨w.heap.size+1,2,none⟩ (.int .i64 p.1.h)).setCell ⟨w.heap.size+1,3,none⟩ (.int .i64 p.1.e))=wf at RFH ⊢
      have d0:=(zAA RFH.out.1 0 (x:=.int .i64 6) rfl).1
      have d1:=(zAA RFH.out.1 1 (x:=.int .i64 p.1.t) rfl).1
      have d2:=(zAA RFH.out.1 2 (x:=.int .i64 p.1.h) rfl).1
      have d3:=(zAA RFH.out.1 3 (x:=.int .i64 p.1.e) rfl).1
      refine bodyPost_ret (v:=.agg #[.int .i64 6,.int .i64 p.1.t,.int .i64 p.1.h,.int .i64 p.1.e]) (by simp [results,Tryz.results108,go_sem,d0,d1,d2,d3]) rfl ?_
      refine ⟨?_,⟨.slice (some ⟨g,0,none⟩) ps.length cap,v3,ps,?_⟩,RFH.out.2.2⟩
      ·rw [HDO.out,HAC.out.1,HAC.out.2.1,HAC.out.2.2,← HP.out.2.1];rfl
      ·rw [HDO.out,HAC.out.1,HAC.out.2.1,zBj HP.out.2.2.1];exact RFH.out.2.1
     ·exfalso
      rcases hq with hq | hq | hq | hq
      ·exact HNO.out (.inl hq)
      ·exact HNO.out (.inr hq)
      ·exact hyn hq
      ·rw [HP.out.2.1] at hD;exact hD hq
end Go.Proofs.YtakfniknkejgpaaGreatDoor.Ea
