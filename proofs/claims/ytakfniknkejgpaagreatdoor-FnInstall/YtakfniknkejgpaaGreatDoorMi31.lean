/- Texts put together: Fa, Ea, Fb. -/
import Derived.Test.YtakfniknkejgpaaGreatDoorMi30
namespace Go.Proofs.YtakfniknkejgpaaGreatDoor.Da
open Go.RowKit Tb Tw Tp Rq
def grL (tm nx:Int) (x:Lk) (c l:Int):Lk:={ x with h:=c,t:=nx,e:=tm+l }
def frL (tm nx:Int) (x:Lk):Lk:=match x.ws with
 | []=>{ x with h:=-1,e:=0 }
 | w :: r=>grL tm nx { x with ws:=r } w.c w.l
def frN (nx:Int) (x:Lk):Int:=match x.ws with
 | []=>nx
 | _ :: _=>nx+1
def due (tm:Int) (x:Lk):Bool:=decide (x.h ≠ -1∧x.e≤tm)
def exN (tm nx:Int) (ls:List Lk):Nat→Int
 | 0=>nx
 | k+1=>match ls[k]? with
   | some x=>if due tm x=true then frN (exN tm nx ls k) x else exN tm nx ls k
   | none=>exN tm nx ls k
def exK (tm nx:Int) (ls:List Lk) (k:Nat) (x:Lk):Lk:=if due tm x=true then frL tm (exN tm nx ls k) x else x
def exL (tm nx:Int) (ls:List Lk):List Lk:=ls.mapIdx (exK tm nx ls)
def exT (t:Tab) (now:Int):Tab:=⟨max t.tm now,exN (max t.tm now) t.nx t.ls t.ls.length,exL (max t.tm now) t.nx t.ls,t.ss⟩
section
variable {tm nx:Int} {ls:List Lk}
theorem frL_name (x:Lk):(frL tm nx x).n=x.n:=by unfold frL;split <;> rfl
theorem exK_name (k:Nat) (x:Lk):(exK tm nx ls k x).n=x.n:=by unfold exK;split;exact frL_name x;rfl
theorem exL_len:(exL tm nx ls).length=ls.length:=by unfold exL;simp
theorem exL_at {k:Nat} {x:Lk} (h:ls[k]?=some x):(exL tm nx ls)[k]?=some (exK tm nx ls k x):=by unfold exL;rw [List.getElem?_mapIdx,h];rfl
theorem exL_get {k:Nat} {y:Lk} (h:(exL tm nx ls)[k]?=some y):∃ x,ls[k]?=some x∧y=exK tm nx ls k x:=by
 unfold exL at h
 rw [List.getElem?_mapIdx] at h
 obtain ⟨x,hx,e⟩:=Option.map_eq_some_iff.1 h
 exact ⟨x,hx,e.symm⟩
theorem frN_le (n:Int) (x:Lk):n≤frN n x∧frN n x≤n+1:=by unfold frN;split <;> omega
theorem exN_succ {k:Nat} {x:Lk} (h:ls[k]?=some x):exN tm nx ls (k+1)=if due tm x=true then frN (exN tm nx ls k) x else exN tm nx ls k:=by
 rw [exN,h]
theorem exN_step (k:Nat):exN tm nx ls k≤exN tm nx ls (k+1)∧exN tm nx ls (k+1)≤exN tm nx ls k+1:=by
 rw [exN]
 split
 ·split
  ·exact frN_le _ _
  ·omega
 ·omega
theorem exN_le:∀ k,nx≤exN tm nx ls k∧exN tm nx ls k≤nx+k
 | 0=>by simp [exN]
 | k+1=>by have:=exN_le k;have:=exN_step (tm:=tm) (nx:=nx) (ls:=ls) k;omega
theorem exN_mono (k:Nat):∀ m,k≤m→exN tm nx ls k≤exN tm nx ls m
 | 0,h=>by have:k=0:=by omega
           subst this;omega
 | m+1,h=>by
   by_cases e:k=m+1
   ·subst e;omega
   ·have:=exN_mono k m (by omega);have:=exN_step (tm:=tm) (nx:=nx) (ls:=ls) m;omega
theorem pn_ex (i:Nat) (hi:i≤ls.length):pn (exL tm nx ls) i=pn ls i:=by
 unfold pn
 by_cases e:i=0
 ·rw [if_pos e,if_pos e]
 ·rw [if_neg e,if_neg e]
  obtain ⟨x,hx⟩ : ∃ x,ls[i - 1]?=some x:=⟨_,List.getElem?_eq_getElem (show i - 1<ls.length by omega)⟩
  rw [List.getD_eq_getElem?_getD,List.getD_eq_getElem?_getD,exL_at hx,hx]
  exact exK_name _ _
end
theorem zAx {x a b:Int} (h1:a≤x) (h2:x≤b):inB x a b=true:=by unfold inB;simp [h1,h2]
theorem free_hd {tm nx:Int} {x:Lk} (hx:HdOK x) (h0:0≤tm) (h1:tm≤1000000000):HdOK (frL tm nx x):=by
 unfold frL
 split
 ·rename_i e
  exact .inl ⟨rfl,rfl,by simp [e]⟩
 ·rename_i w r e
  rcases hx with ⟨_,_,h⟩ | ⟨_,_,_,h4,h5⟩
  ·rw [e] at h;simp at h
  ·rw [e] at h4 h5
   obtain ⟨a1,a2,a3,_⟩:=h5 0 w rfl
   have b1:=zAa a1
   have b2:=zAa a2
   refine .inr ⟨by simp only [grL];omega,by simpa only [grL] using a1,by simp only [grL];exact zAx (by omega) (by omega),by simp only [grL];simp at h4;omega,?_⟩
   intro k y hy
   simp only [grL] at hy ⊢
   obtain ⟨c1,c2,c3,c4⟩:=h5 (k+1) y (by simpa using hy)
   refine ⟨c1,c2,fun e2=>c4 0 w (by omega) rfl e2.symm,fun j z hj hz=>c4 (j+1) z (by omega) (by simpa using hz)⟩
theorem ex_ok {tm nx:Int} {ls:List Lk} (h:LsOK nx ls) (h0:0≤tm) (h1:tm≤1000000000) (hn:1≤nx):LsOK (exN tm nx ls ls.length) (exL tm nx ls):=by
 intro i l hl
 obtain ⟨x,hx,rfl⟩:=exL_get hl
 have hi:i<ls.length:=(List.getElem?_eq_some_iff.1 hx).1
 obtain ⟨a1,a2,a3,a4⟩:=h i x hx
 have b3:=zAa a3
 have m1:=exN_le (tm:=tm) (nx:=nx) (ls:=ls) i
 have m2:=exN_mono (tm:=tm) (nx:=nx) (ls:=ls) (i+1) ls.length hi
 have m3:=exN_step (tm:=tm) (nx:=nx) (ls:=ls) i
 refine ⟨by rw [pn_ex i (by omega),exK_name];exact a1,by rw [exK_name];exact a2,?_,?_⟩
 ·unfold exK
  split
  ·rename_i hd
   have hs:=exN_succ (tm:=tm) (nx:=nx) hx
   rw [if_pos hd] at hs
   unfold frL
   unfold frN at hs
   split
   ·exact zAx (show 0≤x.t by omega) (show x.t≤_ by omega)
   ·rename_i w r e
    rw [e] at hs
    simp only at hs
    exact zAx (show 0≤exN tm nx ls i by omega) (show exN tm nx ls i≤_ by omega)
  ·exact zAx (by omega) (by omega)
 ·unfold exK
  split
  ·exact free_hd a4 h0 h1
  ·exact a4
theorem exT_ok {t:Tab} {now:Int} (h:TOK t) (h0:0≤now) (h1:now≤1000000000) (hn:t.nx≤999990):TOK (exT t now):=by
 obtain ⟨a1,a2,a3,a4,a5,a6⟩:=h
 have b1:=zAa a1
 have b2:=zAa a2
 have hm:0≤max t.tm now∧max t.tm now≤1000000000:=by omega
 have m1:=exN_le (tm:=max t.tm now) (nx:=t.nx) (ls:=t.ls) t.ls.length
 unfold exT
 refine ⟨zAx hm.1 hm.2,zAx (show 1≤exN (max t.tm now) t.nx t.ls t.ls.length by omega) (show exN (max t.tm now) t.nx t.ls t.ls.length≤1000000 by omega),by simp only;rw [exL_len];exact a3,?_,a5,a6⟩
 exact ex_ok a4 hm.1 hm.2 b2.1
end Go.Proofs.YtakfniknkejgpaaGreatDoor.Da
namespace Go.Proofs.YtakfniknkejgpaaGreatDoor.Ea
open Go.RowKit Sl By Ap Tb Tw Mw Wa Tp Da
open Lo (LkA uV clL OwnL OwnL.kept OwnL.lt OwnL.below OwnL.row OwnL.slice zAI zAO Apart)
open Tx (zAA zAE zAB zAK zAD)
structure TM (w0 w:World) (B x:Nat) (T:Tab) (v2 v3:Value) (ps:List LkA):Prop where
 hx:w.heap[x]?=some (.cells #[.int .i64 T.tm,.int .i64 T.nx,v2,v3] 26 (0,0))
 ol:OwnL w B v2 ps
 os:OwnS w B v3 T.ss
 ow:∀ p ∈ ps,OwnW w B (uV p) p.1.ws
 ap:Apart ps
 eq:ps.map (·.1)=T.ls
 bel:Below B w0 w
 b0:B≤w0.heap.size
 le:B≤x
theorem TM.size {w0 w:World} {B x:Nat} {T:Tab} {v2 v3:Value} {ps:List LkA} (h:TM w0 w B x T v2 v3 ps):B≤w.heap.size:=Nat.le_trans h.b0 h.bel.size
theorem TM.xlt {w0 w:World} {B x:Nat} {T:Tab} {v2 v3:Value} {ps:List LkA} (h:TM w0 w B x T v2 v3 ps):x<w.heap.size:=(Array.getElem?_eq_some_iff.1 h.hx).1
theorem TM.up {w0 w w':World} {B x:Nat} {T:Tab} {v2 v3:Value} {ps:List LkA} (h:TM w0 w B x T v2 v3 ps) (hb:Below w.heap.size w w'):TM w0 w' B x T v2 v3 ps :=
 ⟨(hb.block x h.xlt).trans h.hx,h.ol.below hb,h.os.below hb,fun p hp=>(h.ow p hp).below hb,h.ap,h.eq,h.bel.trans (hb.mono h.size),h.b0,h.le⟩
theorem TM.at {w0 w:World} {B x:Nat} {T:Tab} {v2 v3:Value} {ps:List LkA} (h:TM w0 w B x T v2 v3 ps) {k:Nat} {y:Lk} (hk:T.ls[k]?=some y):∃ p,ps[k]?=some p∧p.1=y:=by
 rw [← h.eq,List.getElem?_map] at hk
 obtain ⟨p,hp,e⟩:=Option.map_eq_some_iff.1 hk
 exact ⟨p,hp,e⟩
theorem TM.len {w0 w:World} {B x:Nat} {T:Tab} {v2 v3:Value} {ps:List LkA} (h:TM w0 w B x T v2 v3 ps):ps.length=T.ls.length:=by rw [← h.eq,List.length_map]
theorem TM.row {w0 w:World} {B x:Nat} {T:Tab} {v2 v3:Value} {ps:List LkA} (h:TM w0 w B x T v2 v3 ps) {k:Nat} {p:LkA} (hk:ps[k]?=some p) :
 ∃ g cap,v2=.slice (some ⟨g,0,none⟩) ps.length cap∧B≤g∧g ≠ x∧ps.length≤cap∧(∀ j u,(clL p)[j]?=some u→w.cell? ⟨g,k * 5+j,none⟩=some u∧w.frozen? ⟨g,k * 5+j,none⟩=false):=by
 have hlt:k<ps.length:=(List.getElem?_eq_some_iff.1 hk).1
 obtain ⟨hl,h1 | ⟨g,cap,cur,e,hB,hg,hc,hm,hs,htk⟩⟩:=h.ol
 ·rw [h1.2] at hlt;exact absurd hlt (by omega)
 refine ⟨g,cap,e,hB,fun hgx=>by rw [hgx] at hg;have:=h.hx;rw [hg] at this;injection this with this;injection this with _ h2 _;exact absurd h2 (by decide),hc,fun j u hj=>?_⟩
 have hj5:j<5:=(List.getElem?_eq_some_iff.1 hj).1
 have h1:=Lo.atL ps k p j hk hj5
 rw [← htk,List.getElem?_take,if_pos (by omega),hj] at h1
 refine ⟨by rw [Joins.cell_of_block hg,← Array.getElem?_toList];exact h1,by simp [World.frozen?,hg]⟩
theorem flat_set:∀ (ps:List LkA) (k j:Nat) (p q:LkA) (z:Value),ps[k]?=some p→clL q=(clL p).set j z→j<5→(ps.flatMap clL).set (k * 5+j) z=(ps.set k q).flatMap clL
 | [],k,j,p,q,z,h,_,_=>by simp at h
 | a :: r,0,j,p,q,z,h,hq,hj=>by
   simp at h;subst h
   rw [List.flatMap_cons,List.set_cons_zero,List.flatMap_cons,hq,Nat.zero_mul,Nat.zero_add,List.set_append_left _ _ (by show _<5;omega)]
 | a :: r,k+1,j,p,q,z,h,hq,hj=>by
   have h':r[k]?=some p:=by simpa using h
   rw [List.flatMap_cons,List.set_cons_succ,List.flatMap_cons,List.set_append_right _ _ (by show 5≤_;omega)]
   rw [show (k+1) * 5+j - (clL a).length=k * 5+j by show _ - 5=_;omega,flat_set r k j p q z h' hq hj]
theorem OwnL.set {w:World} {B:Nat} {g cap n:Nat} {ps:List LkA} (h:OwnL w B (.slice (some ⟨g,0,none⟩) n cap) ps) {k j:Nat} {p q:LkA} {z:Value} (hk:ps[k]?=some p) (hq:clL q=(clL p).set j z) (hj:j<5) :
 OwnL (w.setCell ⟨g,k * 5+j,none⟩ z) B (.slice (some ⟨g,0,none⟩) n cap) (ps.set k q):=by
 have hlt:k<ps.length:=(List.getElem?_eq_some_iff.1 hk).1
 obtain ⟨hl,h1 | ⟨g',cap',cur,e,hB,hg,hc,hm,hs,htk⟩⟩:=h
 ·exact absurd h1.1 (by simp)
 cases e
 refine ⟨by rw [← flat_set ps k j p q z hk hq hj,List.length_set,List.length_set];exact hl,.inr ⟨g,cap,cur.setIfInBounds (k * 5+j) z,by rw [List.length_set],hB,zAE hg _ _,by rw [List.length_set];exact hc,hm,by simpa using hs,?_⟩⟩
 rw [List.length_set,← flat_set ps k j p q z hk hq hj,← htk,Array.toList_setIfInBounds,List.take_set]
theorem map_set {ps:List LkA} {k:Nat} {q:LkA} {ls:List Lk} (h:ps.map (·.1)=ls):(ps.set k q).map (·.1)=ls.set k q.1:=by rw [List.map_set,h]
theorem TM.put {w0 w:World} {B x:Nat} {T:Tab} {v3:Value} {ps:List LkA} {g cap n:Nat} (h:TM w0 w B x T (.slice (some ⟨g,0,none⟩) n cap) v3 ps) {k j:Nat} {p q:LkA} {z:Value} (hk:ps[k]?=some p) (hq:clL q=(clL p).set j z) (hj:j<5) (hw:OwnW w B (uV q) q.1.ws) (ha:Apart (ps.set k q)) (hg:B≤g) :
 TM w0 (w.setCell ⟨g,k * 5+j,none⟩ z) B x { T with ls:=T.ls.set k q.1 } (.slice (some ⟨g,0,none⟩) n cap) v3 (ps.set k q):=by
 obtain ⟨cl,hcl⟩:=zAI h.ol (g:=g) rfl
 have far:∀ (u:Value) (ws:List Wt),OwnW w B u ws→OwnW (w.setCell ⟨g,k * 5+j,none⟩ z) B u ws:=fun u ws hu=>hu.kept (fun g' hg'=>by
  obtain ⟨c1,h1⟩:=zAI hu hg'
  exact zAB (zAO h1 hcl (by decide)) _ _)
 refine ⟨(zAB (zAO h.hx hcl (by decide)) _ _).trans h.hx,OwnL.set h.ol hk hq hj,h.os.kept (fun g' hg'=>?_),fun a ha'=>?_,ha,map_set h.eq,Below.setCell h.bel (p:=⟨g,_,none⟩) hg z,h.b0,h.le⟩
 ·obtain ⟨c1,h1⟩:=zAI h.os hg'
  exact zAB (zAO h1 hcl (by decide)) _ _
 ·rcases List.mem_or_eq_of_mem_set ha' with ha' | rfl
  ·exact far _ _ (h.ow a ha')
  ·exact far _ _ hw
theorem TM.box {w0 w:World} {B x:Nat} {T T':Tab} {v2 v3:Value} {ps:List LkA} (h:TM w0 w B x T v2 v3 ps) (i:Nat) (z:Value) (hs:T'.ss=T.ss) (hl:T'.ls=T.ls) (hz:(#[.int .i64 T.tm,.int .i64 T.nx,v2,v3]:Array Value).setIfInBounds i z=#[.int .i64 T'.tm,.int .i64 T'.nx,v2,v3]) :
 TM w0 (w.setCell ⟨x,i,none⟩ z) B x T' v2 v3 ps:=by
 refine ⟨by rw [zAE h.hx,hz],h.ol.kept (fun g hg=>?_),hs ▸ (h.os.kept (fun g hg=>by obtain ⟨c1,h1⟩:=zAI h.os hg;exact zAB (zAO h1 h.hx (by decide)) _ _)),fun p hp=>(h.ow p hp).kept (fun g hg=>?_),h.ap,by rw [hl];exact h.eq,Below.setCell h.bel (p:=⟨x,_,none⟩) h.le z,h.b0,h.le⟩
 ·obtain ⟨c1,h1⟩:=zAI h.ol hg
  exact zAB (zAO h1 h.hx (by decide)) _ _
 ·obtain ⟨c1,h1⟩:=zAI (h.ow p hp) hg
  exact zAB (zAO h1 h.hx (by decide)) _ _
def Oth (w w':World):Prop:=∀ (b:Nat) (cs:Array Value) (e:TypeId),w.heap[b]?=some (.cells cs e (0,0))→e ≠ 26→e ≠ 95→e ≠ 98→e ≠ 102→w'.heap[b]?=some (.cells cs e (0,0))
theorem Oth.trans {w w1 w2:World} (h:Oth w w1) (g:Oth w1 w2):Oth w w2:=fun b cs e hb h1 h2 h3 h4=>g b cs e (h b cs e hb h1 h2 h3 h4) h1 h2 h3 h4
theorem Oth.of_below {w w':World} (h:Below w.heap.size w w'):Oth w w':=fun b _ _ hb _ _ _ _=>(h.block b (Array.getElem?_eq_some_iff.1 hb).1).trans hb
theorem Oth.drew {w w':World} (h:Oth w w'):Oth w w'.drew:=h
theorem TM.othL {w0 w:World} {B x:Nat} {T:Tab} {v3:Value} {ps:List LkA} {g cap n:Nat} (h:TM w0 w B x T (.slice (some ⟨g,0,none⟩) n cap) v3 ps) (i:Nat) (z:Value):Oth w (w.setCell ⟨g,i,none⟩ z):=fun _ _ _ hb _ h2 _ _=>by
 obtain ⟨cl,hcl⟩:=zAI h.ol (g:=g) rfl
 exact (zAB (zAO hb hcl h2) _ _).trans hb
theorem TM.othX {w0 w:World} {B x:Nat} {T:Tab} {v2 v3:Value} {ps:List LkA} (h:TM w0 w B x T v2 v3 ps) (i:Nat) (z:Value):Oth w (w.setCell ⟨x,i,none⟩ z):=fun _ _ _ hb h1 _ _ _=>(zAB (zAO hb h.hx h1) _ _).trans hb
theorem TM.far {w0 w:World} {B x:Nat} {T:Tab} {v2 v3:Value} {ps:List LkA} (h:TM w0 w B x T v2 v3 ps) {r:Nat} {cs:Array Value} {e:TypeId} (hr:w.heap[r]?=some (.cells cs e (0,0))) (h1:e ≠ 26) (h2:e ≠ 95) (h3:e ≠ 98) (h4:e ≠ 102) (hB:B≤r) (i:Nat) (z:Value):TM w0 (w.setCell ⟨r,i,none⟩ z) B x T v2 v3 ps:=by
 refine ⟨(zAB (zAO h.hx hr (Ne.symm h1)) _ _).trans h.hx,h.ol.kept (fun g hg=>?_),h.os.kept (fun g hg=>?_),fun p hp=>(h.ow p hp).kept (fun g hg=>?_),h.ap,h.eq,Below.setCell h.bel (p:=⟨r,_,none⟩) hB z,h.b0,h.le⟩
 ·obtain ⟨c1,hc⟩:=zAI h.ol hg
  exact zAB (zAO hc hr (Ne.symm h2)) _ _
 ·obtain ⟨c1,hc⟩:=zAI h.os hg
  exact zAB (zAO hc hr (Ne.symm h4)) _ _
 ·obtain ⟨c1,hc⟩:=zAI (h.ow p hp) hg
  exact zAB (zAO hc hr (Ne.symm h3)) _ _
end Go.Proofs.YtakfniknkejgpaaGreatDoor.Ea
namespace Go.Proofs.YtakfniknkejgpaaGreatDoor.Da
open Go.RowKit Tb Tw Tp Rq
structure Ask where
 kd:Int
 cl:Int
 st:Int
 nm:ByteArray
 le:Int
def AskOK (r:Ask):Prop:=inB r.cl 0 255=true∧inB r.st 1 65535=true∧((r.kd=1 ∨ r.kd=3)∧inB r.le 1 1000=true ∨ (r.kd=2 ∨ r.kd=4)∧r.le=0)∧opB r.nm=true
def wtB (ws:List Wt) (c:Int):Bool:=ws.any fun w=>w.c == c
def stK (x:Lk):Int:=if x.h = -1 then 4 else 5
def acL (tm nx:Int) (r:Ask) (x:Lk):Lk :=
 if r.kd=1 then (if x.h=r.cl ∨ wtB x.ws r.cl=true then x else if x.h = -1 then grL tm nx x r.cl r.le else if 4≤x.ws.length then x else { x with ws:=x.ws ++ [⟨r.cl,r.le⟩] })
 else if r.kd=2 then (if wtB x.ws r.cl=true then { x with ws:=x.ws.eraseIdx (x.ws.findIdx fun w=>w.c == r.cl) } else if x.h=r.cl then frL tm nx x else x)
 else if r.kd=3 then (if x.h=r.cl then { x with e:=tm+r.le } else x) else x
def acN (nx:Int) (r:Ask) (x:Lk):Int :=
 if r.kd=1 then (if x.h=r.cl ∨ wtB x.ws r.cl=true then nx else if x.h = -1 then nx+1 else nx)
 else if r.kd=2 then (if wtB x.ws r.cl=true then nx else if x.h=r.cl then frN nx x else nx) else nx
def acK (r:Ask) (x:Lk):Int :=
 if r.kd=1 then (if x.h=r.cl ∨ wtB x.ws r.cl=true then 8 else if x.h = -1 then 1 else if 4≤x.ws.length then 6 else 2)
 else if r.kd=2 then (if wtB x.ws r.cl=true then 1 else if x.h=r.cl then 1 else stK x)
 else if r.kd=3 then (if x.h=r.cl then 1 else stK x) else stK x
theorem wt_no {ws:List Wt} {c:Int} (h:¬ wtB ws c=true) {k:Nat} {y:Wt} (hy:ws[k]?=some y):y.c ≠ c:=fun e=>h (by
 unfold wtB
 rw [List.any_eq_true]
 exact ⟨y,List.mem_of_getElem? hy,by simpa using e⟩)
theorem acL_name (tm nx:Int) (r:Ask) (x:Lk):(acL tm nx r x).n=x.n:=by
 unfold acL
 repeat' split
 all_goals first | rfl | exact frL_name x
theorem acN_le (nx:Int) (r:Ask) (x:Lk):nx≤acN nx r x∧acN nx r x≤nx+1:=by
 unfold acN
 repeat' split
 all_goals first | omega | exact frN_le _ _
theorem frL_tok {tm nx:Int} {x:Lk} (h0:0≤x.t) (h1:x.t≤nx - 1) (hn:0≤nx):0≤(frL tm nx x).t∧(frL tm nx x).t≤frN nx x - 1:=by
 unfold frL frN
 split
 ·exact ⟨h0,h1⟩
 ·simp only [grL];omega
theorem acL_tok {tm nx:Int} {r:Ask} {x:Lk} (h0:0≤x.t) (h1:x.t≤nx - 1) (hn:0≤nx):0≤(acL tm nx r x).t∧(acL tm nx r x).t≤acN nx r x - 1:=by
 unfold acL acN
 by_cases k1:r.kd=1
 ·rw [if_pos k1,if_pos k1]
  by_cases c1:x.h=r.cl ∨ wtB x.ws r.cl=true
  ·rw [if_pos c1,if_pos c1];exact ⟨h0,h1⟩
  ·rw [if_neg c1,if_neg c1]
   by_cases c2:x.h = -1
   ·rw [if_pos c2,if_pos c2];simp only [grL];omega
   ·rw [if_neg c2,if_neg c2];split <;> exact ⟨h0,h1⟩
 ·rw [if_neg k1,if_neg k1]
  by_cases k2:r.kd=2
  ·rw [if_pos k2,if_pos k2]
   by_cases c1:wtB x.ws r.cl=true
   ·rw [if_pos c1,if_pos c1];exact ⟨h0,h1⟩
   ·rw [if_neg c1,if_neg c1]
    by_cases c2:x.h=r.cl
    ·rw [if_pos c2,if_pos c2];exact frL_tok h0 h1 hn
    ·rw [if_neg c2,if_neg c2];exact ⟨h0,h1⟩
  ·rw [if_neg k2,if_neg k2]
   repeat' split
   all_goals exact ⟨h0,h1⟩
theorem ws_erase {h:Int} {ws:List Wt} (hw:WsOK h ws) (i:Nat):WsOK h (ws.eraseIdx i):=fun k x hx=>by
 have key:∀ (j:Nat) (y:Wt),(ws.eraseIdx i)[j]?=some y→ws[if j<i then j else j+1]?=some y:=fun j y hy=>by
  rw [List.getElem?_eraseIdx] at hy
  split at hy
  ·rename_i hlt;rw [if_pos hlt];exact hy
  ·rename_i hlt;rw [if_neg hlt];exact hy
 obtain ⟨a1,a2,a3,a4⟩:=hw _ x (key k x hx)
 refine ⟨a1,a2,a3,fun j y hj hy=>a4 _ y ?_ (key j y hy)⟩
 repeat' split
 all_goals omega
theorem ws_push {h:Int} {ws:List Wt} (hw:WsOK h ws) {w:Wt} (h1:inB w.c 0 255=true) (h2:inB w.l 1 1000=true) (h3:w.c ≠ h) (h4:¬ wtB ws w.c=true):WsOK h (ws ++ [w]):=fun k x hx=>by
 by_cases hk:k<ws.length
 ·rw [List.getElem?_append_left hk] at hx
  obtain ⟨a1,a2,a3,a4⟩:=hw k x hx
  exact ⟨a1,a2,a3,fun j y hj hy=>a4 j y hj (by rwa [List.getElem?_append_left (by omega)] at hy)⟩
 ·have e:k=ws.length:=by have:=(List.getElem?_eq_some_iff.1 hx).1;simp at this;omega
  subst e
  rw [List.getElem?_append_right (Nat.le_refl _),Nat.sub_self] at hx
  obtain rfl:w=x:=by simpa using hx
  exact ⟨h1,h2,h3,fun j y hj hy=>wt_no h4 (by rwa [List.getElem?_append_left hj] at hy)⟩
theorem acL_hd {tm nx:Int} {r:Ask} {x:Lk} (hx:HdOK x) (hr:AskOK r) (h0:0≤tm) (h1:tm≤1000000000):HdOK (acL tm nx r x):=by
 obtain ⟨r1,_,r3,_⟩:=hr
 have b1:=zAa r1
 unfold acL
 by_cases k1:r.kd=1
 ·have b3:inB r.le 1 1000=true:=by
   rcases r3 with ⟨_,h⟩ | ⟨h,_⟩
   ·exact h
   ·omega
  have b4:=zAa b3
  rw [if_pos k1]
  by_cases c1:x.h=r.cl ∨ wtB x.ws r.cl=true
  ·rw [if_pos c1];exact hx
  ·rw [if_neg c1]
   by_cases c2:x.h = -1
   ·rw [if_pos c2]
    rcases hx with ⟨_,_,a3⟩ | ⟨a1,_⟩
    ·refine .inr ⟨show r.cl ≠ -1 by omega,r1,zAx (show 0≤tm+r.le by omega) (show tm+r.le≤2000000000 by omega),show x.ws.length≤4 by omega,?_⟩
     intro k y hy
     have:x.ws=[]:=List.length_eq_zero_iff.1 a3
     simp only [grL,this] at hy
     simp at hy
    ·exact absurd c2 a1
   ·rw [if_neg c2]
    rcases hx with ⟨a1,_⟩ | ⟨a1,a2,a3,a4,a5⟩
    ·exact absurd a1 c2
    ·by_cases c3:4≤x.ws.length
     ·rw [if_pos c3];exact .inr ⟨a1,a2,a3,a4,a5⟩
     ·rw [if_neg c3]
      exact .inr ⟨a1,a2,a3,by simp only [List.length_append,List.length_cons,List.length_nil];omega,ws_push a5 r1 b3 (fun e=>c1 (.inl e.symm)) (fun e=>c1 (.inr e))⟩
 ·rw [if_neg k1]
  by_cases k2:r.kd=2
  ·rw [if_pos k2]
   by_cases c1:wtB x.ws r.cl=true
   ·rw [if_pos c1]
    rcases hx with ⟨a1,a2,a3⟩ | ⟨a1,a2,a3,a4,a5⟩
    ·have:x.ws=[]:=List.length_eq_zero_iff.1 a3
     rw [this] at c1
     simp [wtB] at c1
    ·exact .inr ⟨a1,a2,a3,by have:=List.length_eraseIdx_le x.ws (x.ws.findIdx fun w=>w.c == r.cl);simp only;omega,ws_erase a5 _⟩
   ·rw [if_neg c1]
    by_cases c2:x.h=r.cl
    ·rw [if_pos c2];exact free_hd hx h0 h1
    ·rw [if_neg c2];exact hx
  ·rw [if_neg k2]
   by_cases k3:r.kd=3
   ·rw [if_pos k3]
    have b3:inB r.le 1 1000=true:=by
     rcases r3 with ⟨_,h⟩ | ⟨h,_⟩
     ·exact h
     ·omega
    have b4:=zAa b3
    by_cases c2:x.h=r.cl
    ·rw [if_pos c2]
     rcases hx with ⟨a1,_⟩ | ⟨a1,a2,a3,a4,a5⟩
     ·omega
     ·exact .inr ⟨a1,a2,zAx (show 0≤tm+r.le by omega) (show tm+r.le≤2000000000 by omega),a4,a5⟩
    ·rw [if_neg c2];exact hx
   ·rw [if_neg k3];exact hx
end Go.Proofs.YtakfniknkejgpaaGreatDoor.Da
