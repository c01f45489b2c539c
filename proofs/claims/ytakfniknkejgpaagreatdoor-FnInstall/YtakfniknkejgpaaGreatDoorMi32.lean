/- Texts put together: Fc, Ed, Eb. -/
import Derived.Test.YtakfniknkejgpaaGreatDoorMi31
namespace Go.Proofs.YtakfniknkejgpaaGreatDoor.Da
open Go.RowKit Tb Tw Tp Rq
structure An where
 k:Int
 t:Int
 h:Int
 e:Int
def tell (k:Int) (x:Lk):An:=⟨k,x.t,x.h,x.e⟩
def bare (k:Int):An:=⟨k,0,-1,0⟩
def putAt {α:Type} (xs:List α) (k:Nat) (x:α):List α:=xs.take k ++ x :: xs.drop k
theorem putAt_len {α:Type} {xs:List α} {k:Nat} {x:α} (hk:k≤xs.length):(putAt xs k x).length=xs.length+1:=by
 unfold putAt
 simp
 omega
theorem putAt_at {α:Type} {xs:List α} {k:Nat} {x:α} (hk:k≤xs.length) (i:Nat):(putAt xs k x)[i]?=if i<k then xs[i]? else if i=k then some x else xs[i - 1]?:=by
 unfold putAt
 by_cases h1:i<k
 ·rw [if_pos h1,List.getElem?_append_left (by rw [List.length_take];omega),List.getElem?_take,if_pos h1]
 ·rw [if_neg h1,List.getElem?_append_right (by rw [List.length_take];omega),List.length_take,Nat.min_eq_left hk]
  by_cases h2:i=k
  ·subst h2;simp
  ·rw [if_neg h2]
   obtain ⟨m,rfl⟩ : ∃ m,i=k+m+1:=⟨i - k - 1,by omega⟩
   rw [show k+m+1 - k=m+1 by omega,List.getElem?_cons_succ,List.getElem?_drop]
   congr 1
def plP {α:Type} (p:α→Bool):List α→Nat
 | []=>0
 | x :: r=>if p x=true then plP p r+1 else 0
theorem plP_le {α:Type} {p:α→Bool}:∀ xs:List α,plP p xs≤xs.length
 | []=>by simp [plP]
 | x :: r=>by
   have:=plP_le (p:=p) r
   unfold plP
   split <;> simp <;> omega
theorem zCP {α:Type} {p:α→Bool}:∀ (xs:List α) (i:Nat) (x:α),i<plP p xs→xs[i]?=some x→p x=true
 | [],i,x,h,_=>by simp [plP] at h
 | y :: r,i,x,h,hx=>by
   unfold plP at h
   by_cases e:p y=true
   ·rw [if_pos e] at h
    cases i with
    | zero=>simp at hx;subst hx;exact e
    | succ i=>exact zCP r i x (by omega) (by simpa using hx)
   ·rw [if_neg e] at h;omega
theorem plP_here {α:Type} {p:α→Bool}:∀ (xs:List α) (x:α),xs[plP p xs]?=some x→p x=false
 | [],x,h=>by simp at h
 | y :: r,x,h=>by
   unfold plP at h
   by_cases e:p y=true
   ·rw [if_pos e,List.getElem?_cons_succ] at h
    exact plP_here r x h
   ·rw [if_neg e] at h
    simp at h
    subst h
    simpa using e
def fiP {α:Type} (p:α→Bool):List α→Option Nat
 | []=>none
 | x :: r=>if p x=true then some 0 else (fiP p r).map (·+1)
theorem zCa {α:Type} {p:α→Bool}:∀ (xs:List α) (k:Nat),fiP p xs=some k→∃ x,xs[k]?=some x∧p x=true
 | [],k,h=>by simp [fiP] at h
 | y :: r,k,h=>by
   unfold fiP at h
   by_cases e:p y=true
   ·rw [if_pos e] at h;cases h;exact ⟨y,rfl,e⟩
   ·rw [if_neg e] at h
    obtain ⟨m,hm,rfl⟩:=Option.map_eq_some_iff.1 h
    obtain ⟨x,h1,h2⟩:=zCa r m hm
    exact ⟨x,by simpa using h1,h2⟩
theorem fiP_none {α:Type} {p:α→Bool}:∀ (xs:List α),fiP p xs=none→∀ (k:Nat) (x:α),xs[k]?=some x→p x=false
 | [],_,k,x,hx=>by simp at hx
 | y :: r,h,k,x,hx=>by
   unfold fiP at h
   by_cases e:p y=true
   ·rw [if_pos e] at h;cases h
   ·rw [if_neg e] at h
    have h1:fiP p r=none:=by simpa using h
    cases k with
    | zero=>simp at hx;subst hx;simpa using e
    | succ k=>exact fiP_none r h1 k x (by simpa using hx)
def less (a b:ByteArray):Bool:=Op.bytesLess a.toList b.toList
theorem after_iff (a b:ByteArray):(Op.bytesLess b.toList a.toList || b.toList == a.toList)=false ↔ less a b=true:=by
 unfold less
 rw [Tq.less_total a.toList b.toList]
 cases (Op.bytesLess b.toList a.toList || b.toList == a.toList) <;> simp
theorem toList_inj {a b:ByteArray} (h:a.toList=b.toList):a=b:=by
 rw [Lib.toList_data,Lib.toList_data] at h
 cases a
 cases b
 have h2:=Array.toList_inj.1 h
 simp only at h2
 rw [h2]
theorem less_or {a b:ByteArray} (h1:less a b=false) (h2:a ≠ b):less b a=true:=by
 unfold less at h1 ⊢
 rw [Tq.less_total b.toList a.toList,h1,Bool.false_or]
 have:(a.toList == b.toList)=false:=by rw [beq_eq_false_iff_ne];exact fun e=>h2 (toList_inj e)
 rw [this]
 rfl
def plc (ls:List Lk) (nm:ByteArray):Nat:=plP (fun x=>less x.n nm) ls
def idx (ls:List Lk) (nm:ByteArray):Option Nat:=fiP (fun x=>x.n.toList == nm.toList) ls
theorem pn_put {ls:List Lk} {k:Nat} {x:Lk} (hk:k≤ls.length) (i:Nat):pn (putAt ls k x) i=if i≤k then pn ls i else if i=k+1 then x.n else pn ls (i - 1):=by
 unfold pn
 by_cases h0:i=0
 ·subst h0;simp
 ·rw [if_neg h0,List.getD_eq_getElem?_getD,putAt_at hk]
  by_cases h1:i≤k
  ·rw [if_pos h1,if_pos (by omega),if_neg h0,List.getD_eq_getElem?_getD]
  ·rw [if_neg h1,if_neg (by omega)]
   by_cases h2:i=k+1
   ·rw [if_pos h2,if_pos (by omega)];rfl
   ·rw [if_neg h2,if_neg (by omega),if_neg (by omega),List.getD_eq_getElem?_getD]
theorem put_ok {nx:Int} {ls:List Lk} {x:Lk} (h:LsOK nx ls) (hn:idx ls x.n=none) (hx:opB x.n=true) (he:less ⟨#[]⟩ x.n=true) (ht:inB x.t 0 (nx - 1)=true) (hh:HdOK x):LsOK nx (putAt ls (plc ls x.n) x):=by
 have hk:=plP_le (p:=fun y:Lk=>less y.n x.n) ls
 unfold plc
 intro i l hl
 rw [putAt_at hk] at hl
 rw [pn_put hk]
 generalize hK:plP (fun y:Lk=>less y.n x.n) ls=k at hk hl ⊢
 by_cases h1:i<k
 ·rw [if_pos h1] at hl
  rw [if_pos (by omega)]
  exact h i l hl
 ·rw [if_neg h1] at hl
  by_cases h2:i=k
  ·rw [if_pos h2] at hl
   obtain rfl:x=l:=by simpa using hl
   rw [if_pos (by omega)]
   refine ⟨(after_iff _ _).2 ?_,hx,ht,hh⟩
   subst h2
   unfold pn
   by_cases h0:i=0
   ·rw [if_pos h0];exact he
   ·rw [if_neg h0,List.getD_eq_getElem?_getD]
    obtain ⟨y,hy⟩ : ∃ y,ls[i - 1]?=some y:=⟨_,List.getElem?_eq_getElem (show i - 1<ls.length by omega)⟩
    rw [hy]
    exact zCP (p:=fun y:Lk=>less y.n x.n) ls (i - 1) y (by omega) hy
  ·rw [if_neg h2] at hl
   rw [if_neg (by omega)]
   obtain ⟨a1,a2,a3,a4⟩:=h (i - 1) l hl
   by_cases h3:i=k+1
   ·rw [if_pos h3]
    refine ⟨(after_iff _ _).2 (less_or ?_ ?_),a2,a3,a4⟩
    ·have:i - 1=k:=by omega
     rw [this,← hK] at hl
     exact plP_here (p:=fun y:Lk=>less y.n x.n) ls l hl
    ·intro e
     have:=fiP_none (p:=fun y:Lk=>y.n.toList == x.n.toList) ls hn (i - 1) l hl
     rw [e] at this
     simp at this
   ·rw [if_neg h3]
    exact ⟨a1,a2,a3,a4⟩
theorem set_ok {nx nx':Int} {ls:List Lk} {k:Nat} {x y:Lk} (h:LsOK nx ls) (hle:nx≤nx') (hx:ls[k]?=some x) (hn:y.n=x.n) (ht:inB y.t 0 (nx' - 1)=true) (hh:HdOK y):LsOK nx' (ls.set k y):=by
 have hp:∀ i,pn (ls.set k y) i=pn ls i:=fun i=>by
  unfold pn
  by_cases h0:i=0
  ·rw [if_pos h0,if_pos h0]
  ·rw [if_neg h0,if_neg h0,List.getD_eq_getElem?_getD,List.getD_eq_getElem?_getD,List.getElem?_set]
   by_cases e:k=i - 1
   ·rw [if_pos e]
    subst e
    rw [if_pos (List.getElem?_eq_some_iff.1 hx).1,hx]
    exact hn
   ·rw [if_neg e]
 intro i l hl
 rw [hp]
 rw [List.getElem?_set] at hl
 by_cases e:k=i
 ·subst e
  rw [if_pos rfl,if_pos (List.getElem?_eq_some_iff.1 hx).1] at hl
  obtain rfl:y=l:=by simpa using hl
  obtain ⟨a1,a2,_,_⟩:=h k x hx
  exact ⟨by rw [hn];exact a1,by rw [hn];exact a2,ht,hh⟩
 ·rw [if_neg e] at hl
  obtain ⟨a1,a2,a3,a4⟩:=h i l hl
  have b:=zAa a3
  exact ⟨a1,a2,zAx b.1 (by omega),a4⟩
theorem ls_up {nx nx':Int} {ls:List Lk} (h:LsOK nx ls) (hle:nx≤nx'):LsOK nx' ls:=fun i l hl=>by
 obtain ⟨a1,a2,a3,a4⟩:=h i l hl
 have b:=zAa a3
 exact ⟨a1,a2,zAx b.1 (by omega),a4⟩
end Go.Proofs.YtakfniknkejgpaaGreatDoor.Da
namespace Go.Proofs.YtakfniknkejgpaaGreatDoor.Ea
open Go.RowKit Sl By Ap Tb Tw Mw Wa Tp Da
open Tx (zAA zAE zAB zAK zAD)
def wIx (ws:List Wt) (c:Int):Int:=if wtB ws c=true then ((ws.findIdx fun w=>w.c == c:Nat):Int) else -1
theorem wIx_here {ws:List Wt} {c:Int} {k:Nat} {y:Wt} (h:∀ (j:Nat) (z:Wt),j<k→ws[j]?=some z→¬ z.c=c) (hy:ws[k]?=some y) (hc:y.c=c):wIx ws c=k:=by
 have hk:=(List.getElem?_eq_some_iff.1 hy)
 have h1:wtB ws c=true:=by
  unfold wtB
  rw [List.any_eq_true]
  exact ⟨y,List.mem_of_getElem? hy,by simpa using hc⟩
 have h2:(ws.findIdx fun w=>w.c == c)=k:=by
  rw [List.findIdx_eq hk.1]
  refine ⟨by rw [hk.2];simpa using hc,fun j hj=>?_⟩
  have:=h j _ hj (List.getElem?_eq_getElem (Nat.lt_trans hj hk.1))
  simpa using this
 unfold wIx
 rw [if_pos h1,h2]
theorem wIx_none {ws:List Wt} {c:Int} (h:∀ (j:Nat) (z:Wt),j<ws.length→ws[j]?=some z→¬ z.c=c):wIx ws c = -1:=by
 unfold wIx
 rw [if_neg]
 intro h1
 unfold wtB at h1
 rw [List.any_eq_true] at h1
 obtain ⟨y,hy,hc⟩:=h1
 obtain ⟨j,hj,e⟩:=List.mem_iff_getElem.1 hy
 exact h j y hj (by rw [List.getElem?_eq_getElem hj,e]) (by simpa using hc)
theorem ret_int {a b:Int} (h:a=b):Ending.returned (.int .i64 a)=.returned (.int .i64 b):=by rw [h]
set_option maxRecDepth 100000 in
set_option maxHeartbeats 1600000 in
theorem zBS (y:Lk) (u:Value) (c:Int) (w:World) (h:RowW w u y.ws) (hl:y.ws.length≤1000) :
 Calls Tryz.prog 111 #[lkV y u,.int .i64 c] w fun e w'=>e=.returned (.int .i64 (wIx y.ws c))∧Below w.heap.size w w':=by
 obtain ⟨ua,uc,rfl⟩:=RowG.slice h
 have HX:Hid (∀ W,Below (w.alloc (.cells #[.string y.n,.int .i64 y.t,.int .i64 y.h,.int .i64 y.e,.slice ua y.ws.length uc] 95)).heap.size (w.alloc (.cells #[.string y.n,.int .i64 y.t,.int .i64 y.h,.int .i64 y.e,.slice ua y.ws.length uc] 95)) W→W.cell? ⟨w.heap.size,4,none⟩=some (.slice ua y.ws.length uc)∧RowW W (.slice ua y.ws.length uc) y.ws∧Below w.heap.size w W):=fun W hW=>by
  have h1:=(hW.block w.heap.size (by simp)).trans (heap_alloc_new w _)
  have b:=(zAD w (.cells #[.string y.n,.int .i64 y.t,.int .i64 y.h,.int .i64 y.e,.slice ua y.ws.length uc] 95)).trans (hW.mono (by simp))
  exact ⟨(zAA h1 4 rfl).1,h.below b,b⟩
 clear h
 unfold lkV
 go_enter Tryz.func111,Tryz.ntmps111
 go_upto_region 1 with fail
 generalize w.alloc (.cells #[.string y.n,.int .i64 y.t,.int .i64 y.h,.int .i64 y.e,.slice ua y.ws.length uc] 95)=wb at HX ⊢
 go_wp2_with fail
 go_loopw [5] (fun i wr=>∃ k:Nat,k≤y.ws.length∧i=.int .i64 k∧Hid ((∀ (j:Nat) (z:Wt),j<k→y.ws[j]?=some z→¬ z.c=c)∧Below wb.heap.size wb wr)) (fun i _=>y.ws.length - (intOf i).toNat)
 case atStart=>exact ⟨0,by omega,rfl,⟨fun j z hj=>by omega,Below.refl _ _⟩⟩
 case round =>
  obtain ⟨k,hk,rfl,HK⟩:=hrel
  obtain ⟨x4,hrow,hbw⟩:=HX.out _ HK.out.2
  have HB:Hid (Below w.heap.size w wr):=hbw
  by_cases hlt:k<y.ws.length
  ·obtain ⟨z,hz⟩:=Tw.get_at hlt
   obtain ⟨b,off,rfl,hbl,c0,c1⟩:=RowG.at hrow rfl hz
   have HZ:Hid (y.ws[k]?=some z):=hz
   clear hz hrow hbw
   by_cases hc:z.c=c
   ·have HE:Hid (wIx y.ws c=k):=wIx_here HK.out.1 HZ.out hc
    have hc':(z.c == c)=true:=by simpa using hc
    clear hc
    go_wp2_with fail
    go_ret
    exact ⟨ret_int HE.out.symm,HB.out⟩
   ·have HN:Hid (∀ (j:Nat) (z':Wt),j<k+1→y.ws[j]?=some z'→¬ z'.c=c):=fun j z' hj hz'=>by
     by_cases e:j=k
     ·subst e;rw [HZ.out] at hz';cases hz';exact hc
     ·exact HK.out.1 j z' (by omega) hz'
    have hc':(z.c == c)=false:=by simpa using hc
    clear hc
    go_wp2_with fail
    exact ⟨⟨k+1,by omega,by go_num,⟨HN.out,HK.out.2⟩⟩,by simp [intOf];omega⟩
  ·obtain rfl:k=y.ws.length:=by omega
   have HE:Hid (wIx y.ws c = -1):=wIx_none HK.out.1
   clear hrow hbw
   go_wp2_with fail
   go_ret
   exact ⟨ret_int HE.out.symm,HB.out⟩
set_option maxRecDepth 100000 in
set_option maxHeartbeats 1600000 in
theorem zAe (k:Int) (y:Lk) (u:Value) (w:World) :
 Calls Tryz.prog 110 #[.int .i64 k,lkV y u] w fun e w'=>e=.returned (.agg #[.int .i64 k,.int .i64 y.t,.int .i64 y.h,.int .i64 y.e])∧Below w.heap.size w w':=by
 unfold lkV
 go_enter Tryz.func110,Tryz.ntmps110
 go_wp2_with fail
 refine bodyPost_ret (v:=.agg #[.int .i64 k,.int .i64 y.t,.int .i64 y.h,.int .i64 y.e]) (by simp [results,Tryz.results110,go_sem]) rfl ⟨rfl,?_⟩
 exact ((Below.refl _ _).alloc (Nat.le_refl _) _).alloc (by simp) _
end Go.Proofs.YtakfniknkejgpaaGreatDoor.Ea
namespace Go.Proofs.YtakfniknkejgpaaGreatDoor.Ea
open Go.RowKit Sl By Ap Tb Tw Mw Wa Tp Da
open Lo (LkA uV clL OwnL OwnL.kept OwnL.lt OwnL.below OwnL.row OwnL.slice zAI zAO Apart)
open Tx (zAA zAE zAB zAK zAD)
theorem add_small {a b:Int} (h0:0≤a) (h1:a≤1000000000) (h2:0≤b) (h3:b≤1000000000):Tm.adT a b=a+b:=by unfold Tm.adT;omega
theorem zBt {α:Type} {ps:List α} {k:Nat} {p q:α} (h:ps[k]?=some p):(ps.set k q)[k]?=some q:=by rw [List.getElem?_set];simp [(List.getElem?_eq_some_iff.1 h).1]
set_option maxRecDepth 100000 in
set_option maxHeartbeats 3200000 in
theorem zBv {w0 w:World} {B x:Nat} {T:Tab} {v2 v3:Value} {ps:List LkA} (h:TM w0 w B x T v2 v3 ps) {k:Nat} {p:LkA} (hk:ps[k]?=some p) (cl le:Int) (ht0:0≤T.tm) (ht1:T.tm≤1000000000) (hn0:1≤T.nx) (hn1:T.nx≤999999) (hle0:0≤le) (hle1:le≤1000) :
 Calls Tryz.prog 128 #[.pointer (some ⟨x,0,none⟩),.int .i64 (k:Int),.int .i64 cl,.int .i64 le] w fun e w'=>e=.returned (.tuple #[])∧TM w0 w' B x { T with nx:=T.nx+1,ls:=T.ls.set k (grL T.tm T.nx p.1 cl le) } v2 v3 (ps.set k (grL T.tm T.nx p.1 cl le,p.2))∧Oth w w':=by
 have hkl:k<ps.length:=(List.getElem?_eq_some_iff.1 hk).1
 have hkI:(k:Int)<(ps.length:Int):=by omega
 obtain ⟨g,cap,rfl,hgB,hgx,hcap,hcell⟩:=h.row hk
 obtain ⟨m2,f2⟩:=hcell 2 (.int .i64 p.1.h) rfl
 have hadd:=add_small ht0 ht1 hle0 (by omega:le≤1000000000)
 have HAD:Hid (∀ W,Calls Tryz.prog 112 #[.int .i64 T.tm,.int .i64 le] W fun e w'=>e=.returned (.int .i64 (T.tm+le))∧w'=W):=fun W=>by
  have:=Tm.specAddTime_any T.tm le W (by omega) (by omega)
  rwa [hadd] at this
 have hmin:min (1000000:Int) (T.nx+1)=T.nx+1:=by omega
 have hmin2:¬ (1000000:Int)<T.nx+1:=by omega
 -- the holder
 have H1:Hid (TM w0 (w.setCell ⟨g,k * 5+2,none⟩ (.int .i64 cl)) B x { T with ls:=T.ls.set k { p.1 with h:=cl } } (.slice (some ⟨g,0,none⟩) ps.length cap) v3 (ps.set k ({ p.1 with h:=cl },p.2))∧(ps.set k ({ p.1 with h:=cl },p.2))[k]?=some ({ p.1 with h:=cl },p.2)):=⟨h.put hk (q:=({ p.1 with h:=cl },p.2)) rfl (by decide) (h.ow p (List.mem_of_getElem? hk)) (h.ap.set hk rfl) hgB,zBt hk⟩
 have HLEN:Hid ((ps.set k (({ p.1 with h:=cl }:Lk),p.2)).length=ps.length):=List.length_set
 have x0:=(zAA h.hx 0 (x:=.int .i64 T.tm) rfl).1
 have x1:=(zAA h.hx 1 (x:=.int .i64 T.nx) rfl).1
 have x2:=(zAA h.hx 2 (x:=.slice (some ⟨g,0,none⟩) ps.length cap) rfl).1
 have HP:Hid (OwnW w B (uV p) p.1.ws):=h.ow p (List.mem_of_getElem? hk)
 have HGB:Hid (B≤g):=hgB
 have OT1:Hid (Oth w (w.setCell ⟨g,k * 5+2,none⟩ (.int .i64 cl))):=h.othL _ _
 clear h hcell hadd
 go_enter Tryz.func128,Tryz.ntmps128
 go_upto_region 1 with fail
 generalize w.setCell ⟨g,k * 5+2,none⟩ (.int .i64 cl)=w1 at H1 OT1 ⊢
 clear m2 f2 x0 x1 x2
 have x0:=(zAA H1.out.1.hx 0 (x:=.int .i64 T.tm) rfl).1
 have x1:=(zAA H1.out.1.hx 1 (x:=.int .i64 T.nx) rfl).1
 have x2:=(zAA H1.out.1.hx 2 (x:=.slice (some ⟨g,0,none⟩) ps.length cap) rfl).1
 obtain ⟨m1,f1⟩ : w1.cell? ⟨g,k * 5+1,none⟩=some (.int .i64 p.1.t)∧w1.frozen? ⟨g,k * 5+1,none⟩=false:=by
  obtain ⟨g',cap',e,_,_,_,hc⟩:=H1.out.1.row H1.out.2
  rw [HLEN.out] at e
  cases e
  exact hc 1 (.int .i64 p.1.t) rfl
 have H2:Hid (TM w0 (w1.setCell ⟨g,k * 5+1,none⟩ (.int .i64 T.nx)).drew B x { T with ls:=(T.ls.set k ({ p.1 with h:=cl }:Lk)).set k ({ p.1 with h:=cl,t:=T.nx }:Lk) } (.slice (some ⟨g,0,none⟩) ps.length cap) v3 ((ps.set k (({ p.1 with h:=cl }:Lk),p.2)).set k (({ p.1 with h:=cl,t:=T.nx }:Lk),p.2))):=(H1.out.1.put H1.out.2 (q:=(({ p.1 with h:=cl,t:=T.nx }:Lk),p.2)) rfl (by decide) (H1.out.1.ow (({ p.1 with h:=cl }:Lk),p.2) (List.mem_of_getElem? H1.out.2)) (H1.out.1.ap.set H1.out.2 rfl) HGB.out).up (Below.refl _ _).drew
 rw [List.set_set,List.set_set] at H2
 have OT2:Hid (Oth w (w1.setCell ⟨g,k * 5+1,none⟩ (.int .i64 T.nx)).drew):=OT1.out.trans (H1.out.1.othL _ _).drew
 go_region_held_law (fun W=>W.cell? ⟨x,0,none⟩=some (.int .i64 T.tm)∧W.cell? ⟨x,1,none⟩=some (.int .i64 T.nx)∧W.cell? ⟨x,2,none⟩=some (.slice (some ⟨g,0,none⟩) ps.length cap)) (first | exact ⟨x0,x1,x2⟩ | exact ⟨(zAA H2.out.hx 0 rfl).1,(zAA H2.out.hx 1 rfl).1,(zAA H2.out.hx 2 rfl).1⟩) (fail)
 all_goals
  go_upto_region 2 with fail
  clear m1 f1 x0 x1 x2 H1
  generalize (w1.setCell ⟨g,k * 5+1,none⟩ (.int .i64 T.nx)).drew=w2 at H2 OT2 ⊢
  have HL2:Hid ((ps.set k (({ p.1 with h:=cl,t:=T.nx }:Lk),p.2)).length=ps.length∧(ps.set k (({ p.1 with h:=cl,t:=T.nx }:Lk),p.2))[k]?=some (({ p.1 with h:=cl,t:=T.nx }:Lk),p.2)):=⟨List.length_set,zBt hk⟩
  have x0:=(zAA H2.out.hx 0 (x:=.int .i64 T.tm) rfl).1
  have x1:=(zAA H2.out.hx 1 (x:=.int .i64 T.nx) rfl).1
  have x2:=(zAA H2.out.hx 2 (x:=.slice (some ⟨g,0,none⟩) ps.length cap) rfl).1
  obtain ⟨m3,f3⟩ : w2.cell? ⟨g,k * 5+3,none⟩=some (.int .i64 p.1.e)∧w2.frozen? ⟨g,k * 5+3,none⟩=false:=by
   obtain ⟨g',cap',e,_,_,_,hc⟩:=H2.out.row HL2.out.2
   rw [HL2.out.1] at e
   cases e
   exact hc 3 (.int .i64 p.1.e) rfl
  have H3:Hid (TM w0 (w2.setCell ⟨g,k * 5+3,none⟩ (.int .i64 (T.tm+le))).drew B x { T with ls:=(T.ls.set k ({ p.1 with h:=cl,t:=T.nx }:Lk)).set k (grL T.tm T.nx p.1 cl le) } (.slice (some ⟨g,0,none⟩) ps.length cap) v3 ((ps.set k (({ p.1 with h:=cl,t:=T.nx }:Lk),p.2)).set k ((grL T.tm T.nx p.1 cl le),p.2))):=(H2.out.put HL2.out.2 (q:=((grL T.tm T.nx p.1 cl le),p.2)) rfl (by decide) (H2.out.ow (({ p.1 with h:=cl,t:=T.nx }:Lk),p.2) (List.mem_of_getElem? HL2.out.2)) (H2.out.ap.set HL2.out.2 rfl) HGB.out).up (Below.refl _ _).drew
  rw [List.set_set,List.set_set] at H3
  have OT3:Hid (Oth w (w2.setCell ⟨g,k * 5+3,none⟩ (.int .i64 (T.tm+le))).drew):=OT2.out.trans (H2.out.othL _ _).drew
  go_region_held_law (fun W=>W.cell? ⟨x,0,none⟩=some (.int .i64 T.tm)∧W.cell? ⟨x,1,none⟩=some (.int .i64 T.nx)∧W.cell? ⟨x,2,none⟩=some (.slice (some ⟨g,0,none⟩) ps.length cap)) (first | exact ⟨x0,x1,x2⟩ | exact ⟨(zAA H3.out.hx 0 rfl).1,(zAA H3.out.hx 1 rfl).1,(zAA H3.out.hx 2 rfl).1⟩) ((go_simp;go_at_call 112;(with_reducible refine (HAD.out _).mono ?_);rintro e w5 ⟨rfl,rfl⟩;try go_simp))
  all_goals
   go_upto_region 3 with fail
   clear m3 f3 x0 x1 x2 H2
   generalize (w2.setCell ⟨g,k * 5+3,none⟩ (.int .i64 (T.tm+le))).drew=w3 at H3 OT3 ⊢
   obtain ⟨y1,z1⟩:=zAA H3.out.hx 1 (x:=.int .i64 T.nx) rfl
   have H4:Hid (TM w0 (w3.setCell ⟨x,1,none⟩ (.int .i64 (T.nx+1))) B x { T with nx:=T.nx+1,ls:=T.ls.set k (grL T.tm T.nx p.1 cl le) } (.slice (some ⟨g,0,none⟩) ps.length cap) v3 (ps.set k ((grL T.tm T.nx p.1 cl le),p.2))):=H3.out.box 1 _ rfl rfl rfl
   have OT4:Hid (Oth w (w3.setCell ⟨x,1,none⟩ (.int .i64 (T.nx+1)))):=OT3.out.trans (H3.out.othX _ _)
   go_wp2_with fail
   go_end0
   exact ⟨rfl,H4.out,OT4.out⟩
theorem frL_nil {tm nx:Int} {y:Lk} (h:y.ws=[]):frL tm nx y = { y with h:=-1,e:=0 }∧frN nx y=nx:=by unfold frL frN;rw [h];exact ⟨rfl,rfl⟩
theorem frL_cons {tm nx:Int} {y:Lk} {a:Wt} {r:List Wt} (h:y.ws=a :: r):frL tm nx y=grL tm nx { y with ws:=r } a.c a.l∧frN nx y=nx+1:=by unfold frL frN;rw [h];exact ⟨rfl,rfl⟩
theorem row_tail {w:World} {b off cap n:Nat} {a:Wt} {r:List Wt} (h:RowW w (.slice (some ⟨b,off,none⟩) n cap) (a :: r)):RowW w (.slice (some ⟨b,off+2,none⟩) r.length (cap - 1)) r:=by
 obtain ⟨a',cap',e,h⟩:=h
 cases e
 refine ⟨_,_,rfl,?_⟩
 rcases h with h | ⟨b',off',e,hc,hlt,hx⟩
 ·cases h
 cases e
 refine .inr ⟨b,off+2,rfl,by simp at hc;omega,hlt,fun i y hi=>?_⟩
 have:=hx (i+1) y (by simpa using hi)
 rwa [show off+(i+1) * 2=off+2+i * 2 by omega] at this
def FrP (w0:World) (B x:Nat) (T:Tab) (v2 v3:Value) (ps:List LkA) (k:Nat) (p:LkA) (w':World):Prop:=∃ q:LkA,q.1=frL T.tm T.nx p.1∧TM w0 w' B x { T with nx:=frN T.nx p.1,ls:=T.ls.set k q.1 } v2 v3 (ps.set k q)
set_option maxRecDepth 100000 in
set_option maxHeartbeats 3200000 in
theorem l05Free_any {w0 w:World} {B x:Nat} {T:Tab} {v2 v3:Value} {ps:List LkA} (h:TM w0 w B x T v2 v3 ps) {k:Nat} {p:LkA} (hk:ps[k]?=some p) (ht0:0≤T.tm) (ht1:T.tm≤1000000000) (hn0:1≤T.nx) (hn1:T.nx≤999999) (hw:p.1.ws.length≤1000) (hle:∀ y ∈ p.1.ws,0≤y.l∧y.l≤1000) :
 Calls Tryz.prog 107 #[.pointer (some ⟨x,0,none⟩),.int .i64 (k:Int)] w fun e w'=>e=.returned (.tuple #[])∧FrP w0 B x T v2 v3 ps k p w'∧Oth w w':=by
 have hkl:k<ps.length:=(List.getElem?_eq_some_iff.1 hk).1
 have hkI:(k:Int)<(ps.length:Int):=by omega
 obtain ⟨g,cap,rfl,hgB,hgx,hcap,hcell⟩:=h.row hk
 have H:Hid (TM w0 w B x T (.slice (some ⟨g,0,none⟩) ps.length cap) v3 ps):=h
 have HGB:Hid (B≤g):=hgB
 have x2:=(zAA h.hx 2 (x:=.slice (some ⟨g,0,none⟩) ps.length cap) rfl).1
 obtain ⟨m4,f4⟩:=hcell 4 (uV p) rfl
 obtain ⟨m2,f2⟩:=hcell 2 (.int .i64 p.1.h) rfl
 obtain ⟨m3,f3⟩:=hcell 3 (.int .i64 p.1.e) rfl
 clear h
 cases hws:p.1.ws with
 | nil =>
   have hu:uV p=.slice p.2.1 0 p.2.2:=by unfold uV;rw [hws];rfl
   rw [hu] at m4
   have e1:=(frL_nil (tm:=T.tm) (nx:=T.nx) hws)
   have H1:Hid (TM w0 (w.setCell ⟨g,k * 5+2,none⟩ (.int .i64 (-1))) B x { T with ls:=T.ls.set k ({ p.1 with h:=-1 }:Lk) } (.slice (some ⟨g,0,none⟩) ps.length cap) v3 (ps.set k (({ p.1 with h:=-1 }:Lk),p.2))):=H.out.put hk (q:=(({ p.1 with h:=-1 }:Lk),p.2)) rfl (by decide) (H.out.ow p (List.mem_of_getElem? hk)) (H.out.ap.set hk rfl) HGB.out
   have H2:Hid (TM w0 ((w.setCell ⟨g,k * 5+2,none⟩ (.int .i64 (-1))).setCell ⟨g,k * 5+3,none⟩ (.int .i64 0)) B x { T with ls:=(T.ls.set k ({ p.1 with h:=-1 }:Lk)).set k ({ p.1 with h:=-1,e:=0 }:Lk) } (.slice (some ⟨g,0,none⟩) ps.length cap) v3 ((ps.set k (({ p.1 with h:=-1 }:Lk),p.2)).set k (({ p.1 with h:=-1,e:=0 }:Lk),p.2))):=H1.out.put (zBt hk) (q:=(({ p.1 with h:=-1,e:=0 }:Lk),p.2)) rfl (by decide) (H1.out.ow (({ p.1 with h:=-1 }:Lk),p.2) (List.mem_of_getElem? (zBt hk))) (H1.out.ap.set (zBt hk) rfl) HGB.out
   rw [List.set_set,List.set_set] at H2
   have OT:Hid (Oth w ((w.setCell ⟨g,k * 5+2,none⟩ (.int .i64 (-1))).setCell ⟨g,k * 5+3,none⟩ (.int .i64 0))):=(H.out.othL _ _).trans (H1.out.othL _ _)
   have HE:Hid (frL T.tm T.nx p.1 = { p.1 with h:=-1,e:=0 }∧frN T.nx p.1=T.nx):=e1
   clear e1 hws hu hcell hle hw
   go_enter Tryz.func107,Tryz.ntmps107
   go_wp2_with fail
   refine bodyPost_ret (results_none rfl _ _ _) rfl ?_
   refine ⟨rfl,⟨(({ p.1 with h:=-1,e:=0 }:Lk),p.2),HE.out.1.symm,?_⟩,OT.out⟩
   rw [HE.out.2]
   exact H2.out
 | cons a r =>
   obtain ⟨j0,hj0,hjz,hj1,hj2⟩:=info_parts infoW
   have HOW:Hid (OwnW w B (uV p) p.1.ws):=H.out.ow p (List.mem_of_getElem? hk)
   have hrow:RowW w (uV p) (a :: r):=hws ▸ HOW.out.row
   obtain ⟨pa,pcap,hpv⟩:=RowG.slice hrow
   rw [hpv] at m4 hrow
   obtain ⟨b,off,rfl,hbl,c0,c1⟩:=RowG.at hrow rfl (i:=0) (x:=a) rfl
   rw [Nat.zero_mul,Nat.add_zero] at c0 c1
   have hpc:r.length+1≤pcap:=by
    obtain ⟨_,_,e,hh⟩:=id hrow
    cases e
    rcases hh with hh | ⟨_,_,_,hc,_⟩
    ·cases hh
    ·exact hc
   have HT:Hid (∀ W,Below w.heap.size w W→RowW W (.slice (some ⟨b,off+2,none⟩) r.length (pcap - 1)) r):=fun W hW=>(row_tail hrow).below hW
   have HT0:Hid (∀ W,r.length=0→RowW W (.slice (some ⟨b,off,none⟩) r.length 0) r):=fun W h0=>⟨_,_,rfl,.inl (List.length_eq_zero_iff.1 h0)⟩
   have hla:=hle a (by rw [hws];exact List.mem_cons_self)
   have hrl:r.length≤1000:=by rw [hws] at hw;simp at hw;omega
   have HE:Hid (frL T.tm T.nx p.1=grL T.tm T.nx { p.1 with ws:=r } a.c a.l∧frN T.nx p.1=T.nx+1):=frL_cons hws
   have HB:Hid (TM w0 (w.alloc (.cells #[.int .i64 a.c,.int .i64 a.l] 98)) B x T (.slice (some ⟨g,0,none⟩) ps.length cap) v3 ps∧(w.alloc (.cells #[.int .i64 a.c,.int .i64 a.l] 98)).heap[w.heap.size]?=some (.cells #[.int .i64 a.c,.int .i64 a.l] 98 (0,0))∧Below w.heap.size w (w.alloc (.cells #[.int .i64 a.c,.int .i64 a.l] 98))):=⟨H.out.up (zAD _ _),zAK _ _ _,zAD _ _⟩
   have hlen0:((r.length+1:Nat):Int)=(r.length:Int)+1:=by omega
   have hwb:(w.alloc (.cells #[.int .i64 a.c,.int .i64 a.l] 98)).cell? ⟨g,k * 5+4,none⟩=some (.slice (some ⟨b,off,none⟩) (r.length+1) pcap):=by
    rw [(zAD w _).cell (p:=⟨g,k * 5+4,none⟩) (World.block_lt_of_cell? w _ m4)]
    exact m4
   clear hws hle hw hcell hpv hrow
   go_enter Tryz.func107,Tryz.ntmps107
   go_upto_region 5 with fail
   generalize w.alloc (.cells #[.int .i64 a.c,.int .i64 a.l] 98)=wb at HB hwb ⊢
   have HT2:Hid (∀ o,RowW (wb.alloc o) (.slice (some ⟨b,off+2,none⟩) r.length (pcap - 1)) r):=fun o=>HT.out _ (HB.out.2.2.trans ((zAD wb o).mono HB.out.2.2.size))
   have OTB:Hid (Oth w wb):=Oth.of_below HB.out.2.2
   generalize w.heap.size=bw at HB ⊢
   clear m2 f2 m3 f3 m4 f4 x2 c0 c1 hbl
   have hwa:∀ o,(wb.alloc o).cell? ⟨g,k * 5+4,none⟩=some (.slice (some ⟨b,off,none⟩) (r.length+1) pcap):=fun o=>by
    rw [(zAD wb o).cell (p:=⟨g,k * 5+4,none⟩) (World.block_lt_of_cell? wb _ hwb)]
    exact hwb
   have hfz:wb.frozen? ⟨g,k * 5+4,none⟩=false:=by
    obtain ⟨g',cap',e,_,_,_,hc⟩:=HB.out.1.row hk
    cases e
    exact (hc 4 (uV p) rfl).2
   have HFZ:Hid (∀ W,TM w0 W B x T (.slice (some ⟨g,0,none⟩) ps.length cap) v3 ps→W.frozen? ⟨g,k * 5+4,none⟩=false∧∃ u,W.cell? ⟨g,k * 5+4,none⟩=some u):=fun W hW=>by
    obtain ⟨g',cap',e,_,_,_,hc⟩:=hW.row hk
    cases e
    exact ⟨(hc 4 (uV p) rfl).2,_,(hc 4 (uV p) rfl).1⟩
   by_cases hp1:pcap=1
   ·subst hp1
    obtain rfl:r=[]:=List.length_eq_zero_iff.1 (by omega)
    rw [List.length_nil,Nat.zero_add] at hwb
    simp only [List.length_nil,Nat.zero_add] at hwa
    go_upto_region 6 with (at_builtin;go_must (refine appW (by rfl) _ _ 93 (by rfl) j0 Tryz.underlying93 hj0 hjz hj1 hj2 wb.heap.size wb (wb.alloc (.cells #[] 98)) (.slice (some ⟨wb.heap.size,0,none⟩) 0 0) (.slice (some ⟨b,off,none⟩) 0 0) [] [] (by rfl) (OwnW.made _ _ (Nat.le_refl _)) (zAD _ _) (zAD wb _).size (by rfl) ⟨_,_,rfl,.inl rfl⟩ (by simp;try omega) ?_;intro v6 w6 o6 b6 _;rw [List.nil_append] at o6;obtain ⟨a6,c6,rfl⟩:=OwnW.slice o6;have T6:Hid (TM w0 w6 B x T (.slice (some ⟨g,0,none⟩) ps.length cap) v3 ps∧OwnW w6 wb.heap.size (.slice a6 0 c6) []∧Below wb.heap.size wb w6):=⟨HB.out.1.up b6,o6,b6⟩;clear o6 b6;obtain ⟨f6,u6,m6⟩:=HFZ.out _ T6.out.1;(try rw [List.length_nil])))
    have H7:Hid (TM w0 (w6.setCell ⟨g,k * 5+4,none⟩ (.slice a6 0 c6)) B x { T with ls:=T.ls.set k ({ p.1 with ws:=[] }:Lk) } (.slice (some ⟨g,0,none⟩) ps.length cap) v3 (ps.set k (({ p.1 with ws:=[] }:Lk),a6,c6))∧(w6.setCell ⟨g,k * 5+4,none⟩ (.slice a6 0 c6)).heap[bw]?=some (.cells #[.int .i64 a.c,.int .i64 a.l] 98 (0,0))):=by
     refine ⟨T6.out.1.put hk (q:=(({ p.1 with ws:=[] }:Lk),a6,c6)) rfl (by decide) (T6.out.2.1.mono HB.out.1.size) (Apart.fresh T6.out.1.ap (G:=wb.heap.size) (fun g' hg'=>(T6.out.2.1.lt g' hg').1) (fun p' hp' g' hg'=>((HB.out.1.ow p' hp').lt g' hg').2)) HGB.out,?_⟩
     have h1:=(T6.out.2.2.block bw (Array.getElem?_eq_some_iff.1 HB.out.2.1).1).trans HB.out.2.1
     obtain ⟨cl,hcl⟩:=zAI T6.out.1.ol (g:=g) rfl
     exact (zAB (zAO h1 hcl (by decide)) _ _).trans h1
    have OT7:Hid (Oth w (w6.setCell ⟨g,k * 5+4,none⟩ (.slice a6 0 c6))):=(OTB.out.trans (Oth.of_below T6.out.2.2)).trans (T6.out.1.othL _ _)
    clear f6 m6 hwb hwa hfz HFZ HT2 HT0 HT T6 HB
    generalize w6.setCell ⟨g,k * 5+4,none⟩ (.slice a6 0 c6)=w7 at H7 OT7 ⊢
    have d0:=(zAA H7.out.2 0 (x:=.int .i64 a.c) rfl).1
    have d1:=(zAA H7.out.2 1 (x:=.int .i64 a.l) rfl).1
    have HG:=zBv H7.out.1 (zBt hk) a.c a.l ht0 ht1 hn0 hn1 hla.1 hla.2
    go_wp2_with fail
    refine HG.mono ?_
    rintro e w8 ⟨rfl,t8,ot8⟩
    have OT8:Hid (Oth w w8):=OT7.out.trans ot8
    clear ot8
    have T8:Hid (FrP w0 B x T (.slice (some ⟨g,0,none⟩) ps.length cap) v3 ps k p w8):=by
     refine ⟨(grL T.tm T.nx ({ p.1 with ws:=[] }:Lk) a.c a.l,a6,c6),HE.out.1.symm,?_⟩
     rw [HE.out.2]
     rw [List.set_set,List.set_set] at t8
     exact t8
    clear t8 d0 d1 H7
    go_wp2_with fail
    go_end0
    exact ⟨rfl,T8.out,OT8.out⟩
   ·go_upto_region 6 with (at_builtin;go_must (refine appW (by rfl) _ _ 93 (by rfl) j0 Tryz.underlying93 hj0 hjz hj1 hj2 wb.heap.size wb (wb.alloc (.cells #[] 98)) (.slice (some ⟨wb.heap.size,0,none⟩) 0 0) (.slice (some ⟨b,off+2,none⟩) r.length (pcap - 1)) [] r (by rfl) (OwnW.made _ _ (Nat.le_refl _)) (zAD _ _) (zAD wb _).size (by rfl) (HT2.out _) (by simp;try omega) ?_;intro v6 w6 o6 b6 _;rw [List.nil_append] at o6;obtain ⟨a6,c6,rfl⟩:=OwnW.slice o6;have T6:Hid (TM w0 w6 B x T (.slice (some ⟨g,0,none⟩) ps.length cap) v3 ps∧OwnW w6 wb.heap.size (.slice a6 r.length c6) r∧Below wb.heap.size wb w6):=⟨HB.out.1.up b6,o6,b6⟩;clear o6 b6;obtain ⟨f6,u6,m6⟩:=HFZ.out _ T6.out.1;(try rw [List.length_nil])))
    have H7:Hid (TM w0 (w6.setCell ⟨g,k * 5+4,none⟩ (.slice a6 r.length c6)) B x { T with ls:=T.ls.set k ({ p.1 with ws:=r }:Lk) } (.slice (some ⟨g,0,none⟩) ps.length cap) v3 (ps.set k (({ p.1 with ws:=r }:Lk),a6,c6))∧(w6.setCell ⟨g,k * 5+4,none⟩ (.slice a6 r.length c6)).heap[bw]?=some (.cells #[.int .i64 a.c,.int .i64 a.l] 98 (0,0))):=by
     refine ⟨T6.out.1.put hk (q:=(({ p.1 with ws:=r }:Lk),a6,c6)) rfl (by decide) (T6.out.2.1.mono HB.out.1.size) (Apart.fresh T6.out.1.ap (G:=wb.heap.size) (fun g' hg'=>(T6.out.2.1.lt g' hg').1) (fun p' hp' g' hg'=>((HB.out.1.ow p' hp').lt g' hg').2)) HGB.out,?_⟩
     have h1:=(T6.out.2.2.block bw (Array.getElem?_eq_some_iff.1 HB.out.2.1).1).trans HB.out.2.1
     obtain ⟨cl,hcl⟩:=zAI T6.out.1.ol (g:=g) rfl
     exact (zAB (zAO h1 hcl (by decide)) _ _).trans h1
    have OT7:Hid (Oth w (w6.setCell ⟨g,k * 5+4,none⟩ (.slice a6 r.length c6))):=(OTB.out.trans (Oth.of_below T6.out.2.2)).trans (T6.out.1.othL _ _)
    clear f6 m6 hwb hwa hfz HFZ HT2 HT0 HT T6 HB
    generalize w6.setCell ⟨g,k * 5+4,none⟩ (.slice a6 r.length c6)=w7 at H7 OT7 ⊢
    have d0:=(zAA H7.out.2 0 (x:=.int .i64 a.c) rfl).1
    have d1:=(zAA H7.out.2 1 (x:=.int .i64 a.l) rfl).1
    have HG:=zBv H7.out.1 (zBt hk) a.c a.l ht0 ht1 hn0 hn1 hla.1 hla.2
    go_wp2_with fail
    refine HG.mono ?_
    rintro e w8 ⟨rfl,t8,ot8⟩
    have OT8:Hid (Oth w w8):=OT7.out.trans ot8
    clear ot8
    have T8:Hid (FrP w0 B x T (.slice (some ⟨g,0,none⟩) ps.length cap) v3 ps k p w8):=by
     refine ⟨(grL T.tm T.nx ({ p.1 with ws:=r }:Lk) a.c a.l,a6,c6),HE.out.1.symm,?_⟩
     rw [HE.out.2]
     rw [List.set_set,List.set_set] at t8
     exact t8
    clear t8 d0 d1 H7
    go_wp2_with fail
    go_end0
    exact ⟨rfl,T8.out,OT8.out⟩
end Go.Proofs.YtakfniknkejgpaaGreatDoor.Ea
