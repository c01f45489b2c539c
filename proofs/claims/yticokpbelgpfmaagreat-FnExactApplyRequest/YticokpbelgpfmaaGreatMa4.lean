/- Texts put together: Tp, Fa, Fb. -/
import Derived.Test.YticokpbelgpfmaaGreatMa3
namespace Go.Proofs.YticokpbelgpfmaaGreat.Tp
open Go.RowKit Ap Tx Tb Tw Rq
noncomputable def bOf (p:Prop):Bool:=@decide p (Classical.propDecidable p)
theorem zAW {p:Prop} (h:p):bOf p=true:=by unfold bOf;simp [h]
theorem zAM {p:Prop} (h:¬ p):bOf p=false:=by unfold bOf;simp [h]
def FstOf (ws:List Wt) (c:Int) (r:Int):Prop:=(r = -1∧∀ (j:Nat) (y:Wt),ws[j]?=some y→y.c ≠ c) ∨ ∃ (k:Nat) (x:Wt),r=k∧ws[k]?=some x∧x.c=c∧∀ (j:Nat) (y:Wt),j<k→ws[j]?=some y→y.c ≠ c
def WOne (h:Int) (ws:List Wt) (k:Nat) (x:Wt):Prop:=inB x.c 0 255=true∧inB x.l 1 1000=true∧x.c ≠ h∧∀ (j:Nat) (y:Wt),j<k→ws[j]?=some y→y.c ≠ x.c
def WsOK (h:Int) (ws:List Wt):Prop:=∀ k x,ws[k]?=some x→WOne h ws k x
def HdOK (l:Lk):Prop:=(l.h = -1∧l.e=0∧l.ws.length=0) ∨ (l.h ≠ -1∧inB l.h 0 255=true∧inB l.e 0 2000000000=true∧l.ws.length≤4∧WsOK l.h l.ws)
def pn (ls:List Lk) (i:Nat):ByteArray:=if i=0 then ⟨#[]⟩ else (ls.getD (i - 1) default).n
def LOne (nx:Int) (p:ByteArray) (l:Lk):Prop:=(Op.bytesLess l.n.toList p.toList || l.n.toList == p.toList)=false∧opB l.n=true∧inB l.t 0 (nx - 1)=true∧HdOK l
def LsOK (nx:Int) (ls:List Lk):Prop:=∀ i l,ls[i]?=some l→LOne nx (pn ls i) l
def zBD (k t h e:Int):Prop:=inB k 1 8=true∧inB t 0 1000000=true∧inB h (-1) 255=true∧inB e 0 2000000000=true
def pc (ss:List Sn) (i:Nat):Int:=if i=0 then 0 else (ss.getD (i - 1) default).c+1
def SOne (p:Int) (s:Sn):Prop:=inB s.c p 255=true∧inB s.s 1 65535=true∧zBD s.k s.t s.h s.e
def SsOK (ss:List Sn):Prop:=∀ i s,ss[i]?=some s→SOne (pc ss i) s
def TOK (t:Tab):Prop:=inB t.tm 0 1000000000=true∧inB t.nx 1 1000000=true∧t.ls.length≤4∧LsOK t.nx t.ls∧t.ss.length≤6∧SsOK t.ss
theorem pn_succ {ls:List Lk} {k:Nat} {x:Lk} (h:ls[k]?=some x):pn ls (k+1)=x.n:=by
 unfold pn
 rw [if_neg (by omega),Nat.add_sub_cancel,List.getD_eq_getElem?_getD,h]
 rfl
theorem pc_succ {ss:List Sn} {k:Nat} {x:Sn} (h:ss[k]?=some x):pc ss (k+1)=x.c+1:=by
 unfold pc
 rw [if_neg (by omega),Nat.add_sub_cancel,List.getD_eq_getElem?_getD,h]
 rfl
theorem zAQ {x a b:Int} (h:inB x a b=true):a≤x∧x≤b:=by unfold inB at h;simpa using h
theorem upto {α:Type} {xs:List α} {k:Nat} {P:Nat→α→Prop} (h:∀ j y,j<k→xs[j]?=some y→P j y) {x:α} (hx:xs[k]?=some x) (hp:P k x):∀ j y,j<k+1→xs[j]?=some y→P j y:=fun j y hj hy=>by
 by_cases e:j=k
 ·subst e
  rw [hx] at hy
  cases hy
  exact hp
 ·exact h j y (by omega) hy
set_option maxRecDepth 100000 in
set_option maxHeartbeats 800000 in
theorem waits1_any (x:Wt) (p:Nat) (c:Int) (w:World) (h:w.cell? ⟨p,0,none⟩=some (.int .i64 c)) :
 Calls Tryz.prog 172 #[wtV x,.pointer (some ⟨p,0,none⟩)] w fun e w'=>e=.returned (.bool (x.c == c))∧Below w.heap.size w w':=by
 unfold wtV
 have hp:=World.block_lt_of_cell? w _ h
 have h2:∀ o,(w.alloc o).cell? ⟨p,0,none⟩=some (.int .i64 c):=fun o=>(World.cell?_alloc_lt _ _ _ hp).trans h
 go_enter Tryz.func172,Tryz.ntmps172
 go_wp2_with fail
 go_ret
 exact ⟨rfl,zAD _ _⟩
set_option maxRecDepth 100000 in
set_option maxHeartbeats 800000 in
theorem indexFunc_any (v:Value) (xs:List Wt) (c:Int) (p:Nat) (w:World) (h:RowW w v xs) (hl:xs.length≤1048576) (hc:w.cell? ⟨p,0,none⟩=some (.int .i64 c)) :
 Calls Tryz.prog 171 #[v,.func (.func 172) #[] #[.pointer (some ⟨p,0,none⟩)]] w fun e w'=>(∃ r,e=.returned (.int .i64 r)∧FstOf xs c r)∧Below w.heap.size w w':=by
 have HR:Hid (RowW w v xs∧w.cell? ⟨p,0,none⟩=some (.int .i64 c)):=⟨h,hc⟩
 obtain ⟨a,cap,rfl⟩:=RowG.slice h
 clear h hc
 go_enter Tryz.func171,Tryz.ntmps171
 go_wp2_with fail
 go_loopw [8] (fun i wr=>∃ k:Nat,k≤xs.length∧i=.int .i64 k∧Hid ((∀ (j:Nat) (y:Wt),j<k→xs[j]?=some y→y.c ≠ c)∧Below w.heap.size w wr)) (fun i _=>xs.length - (intOf i).toNat)
 case atStart=>exact ⟨0,by omega,rfl,⟨fun j y hj=>by omega,Below.refl _ _⟩⟩
 case round =>
  obtain ⟨k,hk,rfl,HK⟩:=hrel
  by_cases hlt:k<xs.length
  ·obtain ⟨x,hx⟩:=Tw.get_at hlt
   obtain ⟨b,off,rfl,hbl,c0,c1⟩:=RowG.at (HR.out.1.below HK.out.2) rfl hx
   have HX:Hid (xs[k]?=some x∧wr.cell? ⟨p,0,none⟩=some (.int .i64 c)):=⟨hx,(HK.out.2.cell (World.block_lt_of_cell? w _ HR.out.2)).trans HR.out.2⟩
   clear hx
   go_wp2_with fail
   refine (waits1_any x p c wr HX.out.2).mono ?_
   rintro e w2 ⟨rfl,b2⟩
   have HB2:Hid (Below w.heap.size w w2):=HK.out.2.trans (b2.mono HK.out.2.size)
   clear b2
   by_cases he:x.c=c
   ·have he':(x.c == c)=true:=by simpa using he
    rw [he']
    have HE:Hid (x.c=c):=he
    clear he he'
    go_wp2_with fail
    go_ret
    exact ⟨⟨_,rfl,Or.inr ⟨k,x,rfl,HX.out.1,HE.out,HK.out.1⟩⟩,HB2.out⟩
   ·have he':(x.c == c)=false:=by simpa using he
    rw [he']
    have HE:Hid (x.c ≠ c):=he
    clear he he'
    go_wp2_with fail
    exact ⟨⟨k+1,by omega,by go_num,⟨upto (P:=fun _ y=>y.c ≠ c) HK.out.1 HX.out.1 HE.out,HB2.out⟩⟩,by simp [intOf];omega⟩
  ·obtain rfl:k=xs.length:=by omega
   go_wp2_with fail
   go_ret
   exact ⟨⟨_,rfl,Or.inl ⟨rfl,fun j y hy=>HK.out.1 j y (zAw hy) hy⟩⟩,HK.out.2⟩
set_option maxRecDepth 100000 in
set_option maxHeartbeats 800000 in
theorem waitsAt_any (v:Value) (xs:List Wt) (c:Int) (w:World) (h:RowW w v xs) (hl:xs.length≤1048576) :
 Calls Tryz.prog 147 #[v,.int .i64 c] w fun e w'=>(∃ r,e=.returned (.int .i64 r)∧FstOf xs c r)∧Below w.heap.size w w':=by
 have HR:Hid (RowW w v xs):=h
 obtain ⟨a,cap,rfl⟩:=RowG.slice h
 clear h
 have HB:Hid (Below w.heap.size w (w.alloc (.cells #[.int .i64 c] 3))):=zAD _ _
 have HC:Hid ((w.alloc (.cells #[.int .i64 c] 3)).cell? ⟨w.heap.size,0,none⟩=some (.int .i64 c)):=(zAA (zAJ w _ _) 0 rfl).1
 go_enter Tryz.func147,Tryz.ntmps147
 go_wp2_with fail
 refine (indexFunc_any _ xs c w.heap.size _ (HR.out.below HB.out) hl HC.out).mono ?_
 rintro e w2 ⟨⟨r,rfl,hr⟩,b2⟩
 have HF:Hid (FstOf xs c r∧Below w.heap.size w w2):=⟨hr,HB.out.trans (b2.mono HB.out.size)⟩
 clear hr b2
 go_wp2_with fail
 go_ret
 exact ⟨⟨_,rfl,HF.out.1⟩,HF.out.2⟩
theorem fst_own {ws:List Wt} {k:Nat} {x:Wt} {r:Int} (hx:ws[k]?=some x) (h:FstOf ws x.c r):(r<(k:Int)) ↔ ¬ ∀ (j:Nat) (y:Wt),j<k→ws[j]?=some y→y.c ≠ x.c:=by
 rcases h with ⟨_,h⟩ | ⟨i,z,rfl,hz,hc,h⟩
 ·exact absurd rfl (h k x hx)
 ·constructor
  ·intro hlt hh
   exact hh i z (by omega) hz hc
  ·intro hn
   rcases Nat.lt_or_ge i k with hi | hi
   ·omega
   ·exact absurd (fun j y hj hy=>h j y (by omega) hy) hn
set_option maxRecDepth 100000 in
set_option maxHeartbeats 1600000 in
theorem waitersOK_any (l:Lk) (u:Value) (w:World) (h:RowW w u l.ws) (hl:l.ws.length≤1048576) :
 Calls Tryz.prog 137 #[lkV l u] w fun e w'=>e=.returned (.bool (bOf (WsOK l.h l.ws)))∧Below w.heap.size w w':=by
 obtain ⟨ln,lt,hh,le,ws⟩:=l
 unfold lkV
 dsimp only at h hl ⊢
 obtain ⟨a,cap,rfl⟩:=RowG.slice h
 have HX:Hid (∀ W,Below (w.alloc (.cells #[.string ln,.int .i64 lt,.int .i64 hh,.int .i64 le,.slice a ws.length cap] 45)).heap.size (w.alloc (.cells #[.string ln,.int .i64 lt,.int .i64 hh,.int .i64 le,.slice a ws.length cap] 45)) W→W.cell? ⟨w.heap.size,2,none⟩=some (.int .i64 hh)∧W.cell? ⟨w.heap.size,4,none⟩=some (.slice a ws.length cap)∧RowW W (.slice a ws.length cap) ws∧Below w.heap.size w W):=fun W hW=>by
  have h1:=(hW.block w.heap.size (by simp)).trans (heap_alloc_new w _)
  exact ⟨(zAA h1 2 rfl).1,(zAA h1 4 rfl).1,(h.below (zAD _ _)).below hW,(zAD w _).trans (hW.mono (by simp))⟩
 clear h
 go_enter Tryz.func137,Tryz.ntmps137
 go_upto_region 1 with fail
 generalize w.alloc (.cells #[.string ln,.int .i64 lt,.int .i64 hh,.int .i64 le,.slice a ws.length cap] 45)=wb at HX ⊢
 obtain ⟨x2,x4,_,_⟩:=HX.out wb (Below.refl _ _)
 go_wp2_with fail
 clear x2 x4
 go_loopw [8] (fun i wr=>∃ k:Nat,k≤ws.length∧i=.int .i64 k∧Hid ((∀ j y,j<k→ws[j]?=some y→WOne hh ws j y)∧Below wb.heap.size wb wr)) (fun i _=>ws.length - (intOf i).toNat)
 case atStart=>exact ⟨0,by omega,rfl,⟨fun j y hj=>by omega,Below.refl _ _⟩⟩
 case round =>
  obtain ⟨k,hk,rfl,HK⟩:=hrel
  obtain ⟨x2,x4,hr0,hb0⟩:=HX.out wr HK.out.2
  have HB0:Hid (Below w.heap.size w wr):=hb0
  by_cases hlt:k<ws.length
  ·obtain ⟨x,hx⟩:=Tw.get_at hlt
   obtain ⟨b,off,rfl,hbl,c0,c1⟩:=RowG.at hr0 rfl hx
   have HN:Hid (WOne hh ws k x ↔ (inB x.c 0 255=true∧inB x.l 1 1000=true∧x.c ≠ hh∧∀ (j:Nat) (y:Wt),j<k→ws[j]?=some y→y.c ≠ x.c)):=Iff.rfl
   have HNO:Hid (¬ WOne hh ws k x→bOf (WsOK hh ws)=false):=fun h=>zAM fun hh=>h (hh k x hx)
   have HYS:Hid (WOne hh ws k x→∀ j y,j<k+1→ws[j]?=some y→WOne hh ws j y):=fun h=>upto (P:=fun j y=>WOne hh ws j y) HK.out.1 hx h
   have HW:Hid (∀ o,Below wb.heap.size wb (wr.alloc o)∧Below w.heap.size w (wr.alloc o)):=fun o=>⟨HK.out.2.trans ((zAD wr o).mono HK.out.2.size),HB0.out.trans ((zAD wr o).mono HB0.out.size)⟩
   have y2:∀ o,(wr.alloc o).cell? ⟨w.heap.size,2,none⟩=some (.int .i64 hh):=fun o=>(HX.out _ (HW.out o).1).1
   have y4:∀ o,(wr.alloc o).cell? ⟨w.heap.size,4,none⟩=some (.slice (some ⟨b,off,none⟩) ws.length cap):=fun o=>(HX.out _ (HW.out o).1).2.1
   have HWA:Hid (∀ o,Calls Tryz.prog 147 #[.slice (some ⟨b,off,none⟩) ws.length cap,.int .i64 x.c] (wr.alloc o) fun e w'=>(∃ r:Int,e=.returned (.int .i64 r)∧decide (r<(k:Int))=bOf (¬ ∀ (j:Nat) (y:Wt),j<k→ws[j]?=some y→y.c ≠ x.c))∧Below wb.heap.size wb w'∧Below w.heap.size w w'):=fun o =>
    (waitsAt_any _ ws x.c _ (HX.out _ (HW.out o).1).2.2.1 hl).mono fun e w' ⟨⟨r,he,hf⟩,b2⟩=>⟨⟨r,he,by
      have:=fst_own hx hf
      by_cases hq:∀ (j:Nat) (y:Wt),j<k→ws[j]?=some y→y.c ≠ x.c
      ·rw [zAM (fun h=>h hq),decide_eq_false (fun h=>this.1 h hq)]
      ·rw [zAW hq,decide_eq_true (this.2 hq)]⟩,(HW.out o).1.trans (b2.mono (HW.out o).1.size),(HW.out o).2.trans (b2.mono (HW.out o).2.size)⟩
   clear hx hr0 hb0 x2 x4
   cases h1:inB x.c 0 255 with
   | false =>
     have HF:Hid (bOf (WsOK hh ws)=false):=HNO.out fun h=>by have:=(HN.out.1 h).1;rw [h1] at this;cases this
     go_wp2_with (go_at_call 60;refine (zAO _ _ _ _).mono ?_;rintro e w1 ⟨rfl,rfl⟩;rw [h1])
     go_ret
     exact ⟨zAH HF.out.symm,(HW.out _).2⟩
   | true =>
     cases h2:inB x.l 1 1000 with
     | false =>
       have HF:Hid (bOf (WsOK hh ws)=false):=HNO.out fun h=>by have:=(HN.out.1 h).2.1;rw [h2] at this;cases this
       go_wp2_with (go_at_call 60;refine (zAO _ _ _ _).mono ?_;rintro e w1 ⟨rfl,rfl⟩;first | rw [h1] | rw [h2])
       go_ret
       exact ⟨zAH HF.out.symm,(HW.out _).2⟩
     | true =>
       by_cases h3:x.c=hh
       ·have HF:Hid (bOf (WsOK hh ws)=false):=HNO.out fun h=>(HN.out.1 h).2.2.1 h3
        have h3':(x.c == hh)=true:=by simpa using h3
        clear h3
        go_wp2_with (go_at_call 60;refine (zAO _ _ _ _).mono ?_;rintro e w1 ⟨rfl,rfl⟩;first | rw [h1] | rw [h2])
        go_ret
        exact ⟨zAH HF.out.symm,(HW.out _).2⟩
       ·have h3':(x.c == hh)=false:=by simpa using h3
        cases h4:bOf (¬ ∀ (j:Nat) (y:Wt),j<k→ws[j]?=some y→y.c ≠ x.c) with
        | true =>
          have HF:Hid (bOf (WsOK hh ws)=false):=HNO.out fun h=>by rw [zAM (fun hn=>hn (HN.out.1 h).2.2.2)] at h4;cases h4
          rw [h4] at HWA
          clear h3 h4
          go_wp2_with (first | (go_at_call 60;refine (zAO _ _ _ _).mono ?_;rintro e w1 ⟨rfl,rfl⟩;first | rw [h1] | rw [h2]) | (go_at_call 147;refine (HWA.out _).mono ?_;rintro e w2 ⟨⟨r,rfl,hd⟩,g1,g2⟩))
          go_ret
          exact ⟨zAH HF.out.symm,g2⟩
        | false =>
          have HT:Hid (WOne hh ws k x):=HN.out.2 ⟨h1,h2,h3,Classical.byContradiction fun hn=>by rw [zAW hn] at h4;cases h4⟩
          rw [h4] at HWA
          clear h3 h4
          go_wp2_with (first | (go_at_call 60;refine (zAO _ _ _ _).mono ?_;rintro e w1 ⟨rfl,rfl⟩;first | rw [h1] | rw [h2]) | (go_at_call 147;refine (HWA.out _).mono ?_;rintro e w2 ⟨⟨r,rfl,hd⟩,g1,g2⟩))
          exact ⟨⟨k+1,by omega,by go_num,⟨HYS.out HT.out,g1⟩⟩,by simp [intOf];omega⟩
  ·obtain rfl:k=ws.length:=by omega
   have HT:Hid (bOf (WsOK hh ws)=true):=zAW fun j y hy=>HK.out.1 j y (zAw hy) hy
   clear hr0 hb0
   go_wp2_with fail
   go_ret
   exact ⟨zAH HT.out.symm,HB0.out⟩
end Go.Proofs.YticokpbelgpfmaaGreat.Tp
namespace Go.Proofs.YticokpbelgpfmaaGreat.Da
open Go.RowKit Tb Tw Tp Rq
def grL (tm nx:Int) (x:Lk) (c l:Int):Lk:={ x with h:=c,t:=nx,e:=tm+l }
def frL (tm nx:Int) (x:Lk):Lk:=match x.ws with
 | []=>{ x with h:=-1,e:=0 }
 | w :: r=>grL tm nx { x with ws:=r } w.c w.l
def frN (nx:Int) (x:Lk):Int:=match x.ws with
 | []=>nx
 | _ :: _=>nx+1
def due (tm:Int) (x:Lk):Bool:=decide (x.h ≠ -1∧x.e≤tm)
def exN (tm nx:Int) (ls:List Lk):Nat→Int
 | 0=>nx
 | k+1=>match ls[k]? with
   | some x=>if due tm x=true then frN (exN tm nx ls k) x else exN tm nx ls k
   | none=>exN tm nx ls k
def exK (tm nx:Int) (ls:List Lk) (k:Nat) (x:Lk):Lk:=if due tm x=true then frL tm (exN tm nx ls k) x else x
def exL (tm nx:Int) (ls:List Lk):List Lk:=ls.mapIdx (exK tm nx ls)
def exT (t:Tab) (now:Int):Tab:=⟨max t.tm now,exN (max t.tm now) t.nx t.ls t.ls.length,exL (max t.tm now) t.nx t.ls,t.ss⟩
section
variable {tm nx:Int} {ls:List Lk}
theorem frL_name (x:Lk):(frL tm nx x).n=x.n:=by unfold frL;split <;> rfl
theorem exK_name (k:Nat) (x:Lk):(exK tm nx ls k x).n=x.n:=by unfold exK;split;exact frL_name x;rfl
theorem exL_len:(exL tm nx ls).length=ls.length:=by unfold exL;simp
theorem exL_at {k:Nat} {x:Lk} (h:ls[k]?=some x):(exL tm nx ls)[k]?=some (exK tm nx ls k x):=by unfold exL;rw [List.getElem?_mapIdx,h];rfl
theorem exL_get {k:Nat} {y:Lk} (h:(exL tm nx ls)[k]?=some y):∃ x,ls[k]?=some x∧y=exK tm nx ls k x:=by
 unfold exL at h
 rw [List.getElem?_mapIdx] at h
 obtain ⟨x,hx,e⟩:=Option.map_eq_some_iff.1 h
 exact ⟨x,hx,e.symm⟩
theorem frN_le (n:Int) (x:Lk):n≤frN n x∧frN n x≤n+1:=by unfold frN;split <;> omega
theorem zBV {k:Nat} {x:Lk} (h:ls[k]?=some x):exN tm nx ls (k+1)=if due tm x=true then frN (exN tm nx ls k) x else exN tm nx ls k:=by
 rw [exN,h]
theorem exN_step (k:Nat):exN tm nx ls k≤exN tm nx ls (k+1)∧exN tm nx ls (k+1)≤exN tm nx ls k+1:=by
 rw [exN]
 split
 ·split
  ·exact frN_le _ _
  ·omega
 ·omega
theorem exN_le:∀ k,nx≤exN tm nx ls k∧exN tm nx ls k≤nx+k
 | 0=>by simp [exN]
 | k+1=>by have:=exN_le k;have:=exN_step (tm:=tm) (nx:=nx) (ls:=ls) k;omega
theorem exN_mono (k:Nat):∀ m,k≤m→exN tm nx ls k≤exN tm nx ls m
 | 0,h=>by have:k=0:=by omega
           subst this;omega
 | m+1,h=>by
   by_cases e:k=m+1
   ·subst e;omega
   ·have:=exN_mono k m (by omega);have:=exN_step (tm:=tm) (nx:=nx) (ls:=ls) m;omega
theorem pn_ex (i:Nat) (hi:i≤ls.length):pn (exL tm nx ls) i=pn ls i:=by
 unfold pn
 by_cases e:i=0
 ·rw [if_pos e,if_pos e]
 ·rw [if_neg e,if_neg e]
  obtain ⟨x,hx⟩ : ∃ x,ls[i - 1]?=some x:=⟨_,List.getElem?_eq_getElem (show i - 1<ls.length by omega)⟩
  rw [List.getD_eq_getElem?_getD,List.getD_eq_getElem?_getD,exL_at hx,hx]
  exact exK_name _ _
end
theorem zAf {x a b:Int} (h1:a≤x) (h2:x≤b):inB x a b=true:=by unfold inB;simp [h1,h2]
theorem free_hd {tm nx:Int} {x:Lk} (hx:HdOK x) (h0:0≤tm) (h1:tm≤1000000000):HdOK (frL tm nx x):=by
 unfold frL
 split
 ·rename_i e
  exact .inl ⟨rfl,rfl,by simp [e]⟩
 ·rename_i w r e
  rcases hx with ⟨_,_,h⟩ | ⟨_,_,_,h4,h5⟩
  ·rw [e] at h;simp at h
  ·rw [e] at h4 h5
   obtain ⟨a1,a2,a3,_⟩:=h5 0 w rfl
   have b1:=zAQ a1
   have b2:=zAQ a2
   refine .inr ⟨by simp only [grL];omega,by simpa only [grL] using a1,by simp only [grL];exact zAf (by omega) (by omega),by simp only [grL];simp at h4;omega,?_⟩
   intro k y hy
   simp only [grL] at hy ⊢
   obtain ⟨c1,c2,c3,c4⟩:=h5 (k+1) y (by simpa using hy)
   refine ⟨c1,c2,fun e2=>c4 0 w (by omega) rfl e2.symm,fun j z hj hz=>c4 (j+1) z (by omega) (by simpa using hz)⟩
theorem ex_ok {tm nx:Int} {ls:List Lk} (h:LsOK nx ls) (h0:0≤tm) (h1:tm≤1000000000) (hn:1≤nx):LsOK (exN tm nx ls ls.length) (exL tm nx ls):=by
 intro i l hl
 obtain ⟨x,hx,rfl⟩:=exL_get hl
 have hi:i<ls.length:=(List.getElem?_eq_some_iff.1 hx).1
 obtain ⟨a1,a2,a3,a4⟩:=h i x hx
 have b3:=zAQ a3
 have m1:=exN_le (tm:=tm) (nx:=nx) (ls:=ls) i
 have m2:=exN_mono (tm:=tm) (nx:=nx) (ls:=ls) (i+1) ls.length hi
 have m3:=exN_step (tm:=tm) (nx:=nx) (ls:=ls) i
 refine ⟨by rw [pn_ex i (by omega),exK_name];exact a1,by rw [exK_name];exact a2,?_,?_⟩
 ·unfold exK
  split
  ·rename_i hd
   have hs:=zBV (tm:=tm) (nx:=nx) hx
   rw [if_pos hd] at hs
   unfold frL
   unfold frN at hs
   split
   ·exact zAf (show 0≤x.t by omega) (show x.t≤_ by omega)
   ·rename_i w r e
    rw [e] at hs
    simp only at hs
    exact zAf (show 0≤exN tm nx ls i by omega) (show exN tm nx ls i≤_ by omega)
  ·exact zAf (by omega) (by omega)
 ·unfold exK
  split
  ·exact free_hd a4 h0 h1
  ·exact a4
theorem exT_ok {t:Tab} {now:Int} (h:TOK t) (h0:0≤now) (h1:now≤1000000000) (hn:t.nx≤999990):TOK (exT t now):=by
 obtain ⟨a1,a2,a3,a4,a5,a6⟩:=h
 have b1:=zAQ a1
 have b2:=zAQ a2
 have hm:0≤max t.tm now∧max t.tm now≤1000000000:=by omega
 have m1:=exN_le (tm:=max t.tm now) (nx:=t.nx) (ls:=t.ls) t.ls.length
 unfold exT
 refine ⟨zAf hm.1 hm.2,zAf (show 1≤exN (max t.tm now) t.nx t.ls t.ls.length by omega) (show exN (max t.tm now) t.nx t.ls t.ls.length≤1000000 by omega),by simp only;rw [exL_len];exact a3,?_,a5,a6⟩
 exact ex_ok a4 hm.1 hm.2 b2.1
end Go.Proofs.YticokpbelgpfmaaGreat.Da
namespace Go.Proofs.YticokpbelgpfmaaGreat.Da
open Go.RowKit Tb Tw Tp Rq
structure Ask where
 kd:Int
 cl:Int
 st:Int
 nm:ByteArray
 le:Int
def zBQ (r:Ask):Prop:=inB r.cl 0 255=true∧inB r.st 1 65535=true∧((r.kd=1 ∨ r.kd=3)∧inB r.le 1 1000=true ∨ (r.kd=2 ∨ r.kd=4)∧r.le=0)∧opB r.nm=true
def wtB (ws:List Wt) (c:Int):Bool:=ws.any fun w=>w.c == c
def stK (x:Lk):Int:=if x.h = -1 then 4 else 5
def acL (tm nx:Int) (r:Ask) (x:Lk):Lk :=
 if r.kd=1 then (if x.h=r.cl ∨ wtB x.ws r.cl=true then x else if x.h = -1 then grL tm nx x r.cl r.le else if 4≤x.ws.length then x else { x with ws:=x.ws ++ [⟨r.cl,r.le⟩] })
 else if r.kd=2 then (if wtB x.ws r.cl=true then { x with ws:=x.ws.eraseIdx (x.ws.findIdx fun w=>w.c == r.cl) } else if x.h=r.cl then frL tm nx x else x)
 else if r.kd=3 then (if x.h=r.cl then { x with e:=tm+r.le } else x) else x
def acN (nx:Int) (r:Ask) (x:Lk):Int :=
 if r.kd=1 then (if x.h=r.cl ∨ wtB x.ws r.cl=true then nx else if x.h = -1 then nx+1 else nx)
 else if r.kd=2 then (if wtB x.ws r.cl=true then nx else if x.h=r.cl then frN nx x else nx) else nx
def acK (r:Ask) (x:Lk):Int :=
 if r.kd=1 then (if x.h=r.cl ∨ wtB x.ws r.cl=true then 8 else if x.h = -1 then 1 else if 4≤x.ws.length then 6 else 2)
 else if r.kd=2 then (if wtB x.ws r.cl=true then 1 else if x.h=r.cl then 1 else stK x)
 else if r.kd=3 then (if x.h=r.cl then 1 else stK x) else stK x
theorem wt_no {ws:List Wt} {c:Int} (h:¬ wtB ws c=true) {k:Nat} {y:Wt} (hy:ws[k]?=some y):y.c ≠ c:=fun e=>h (by
 unfold wtB
 rw [List.any_eq_true]
 exact ⟨y,List.mem_of_getElem? hy,by simpa using e⟩)
theorem zBT (tm nx:Int) (r:Ask) (x:Lk):(acL tm nx r x).n=x.n:=by
 unfold acL
 repeat' split
 all_goals first | rfl | exact frL_name x
theorem acN_le (nx:Int) (r:Ask) (x:Lk):nx≤acN nx r x∧acN nx r x≤nx+1:=by
 unfold acN
 repeat' split
 all_goals first | omega | exact frN_le _ _
theorem frL_tok {tm nx:Int} {x:Lk} (h0:0≤x.t) (h1:x.t≤nx - 1) (hn:0≤nx):0≤(frL tm nx x).t∧(frL tm nx x).t≤frN nx x - 1:=by
 unfold frL frN
 split
 ·exact ⟨h0,h1⟩
 ·simp only [grL];omega
theorem acL_tok {tm nx:Int} {r:Ask} {x:Lk} (h0:0≤x.t) (h1:x.t≤nx - 1) (hn:0≤nx):0≤(acL tm nx r x).t∧(acL tm nx r x).t≤acN nx r x - 1:=by
 unfold acL acN
 by_cases k1:r.kd=1
 ·rw [if_pos k1,if_pos k1]
  by_cases c1:x.h=r.cl ∨ wtB x.ws r.cl=true
  ·rw [if_pos c1,if_pos c1];exact ⟨h0,h1⟩
  ·rw [if_neg c1,if_neg c1]
   by_cases c2:x.h = -1
   ·rw [if_pos c2,if_pos c2];simp only [grL];omega
   ·rw [if_neg c2,if_neg c2];split <;> exact ⟨h0,h1⟩
 ·rw [if_neg k1,if_neg k1]
  by_cases k2:r.kd=2
  ·rw [if_pos k2,if_pos k2]
   by_cases c1:wtB x.ws r.cl=true
   ·rw [if_pos c1,if_pos c1];exact ⟨h0,h1⟩
   ·rw [if_neg c1,if_neg c1]
    by_cases c2:x.h=r.cl
    ·rw [if_pos c2,if_pos c2];exact frL_tok h0 h1 hn
    ·rw [if_neg c2,if_neg c2];exact ⟨h0,h1⟩
  ·rw [if_neg k2,if_neg k2]
   repeat' split
   all_goals exact ⟨h0,h1⟩
theorem ws_erase {h:Int} {ws:List Wt} (hw:WsOK h ws) (i:Nat):WsOK h (ws.eraseIdx i):=fun k x hx=>by
 have key:∀ (j:Nat) (y:Wt),(ws.eraseIdx i)[j]?=some y→ws[if j<i then j else j+1]?=some y:=fun j y hy=>by
  rw [List.getElem?_eraseIdx] at hy
  split at hy
  ·rename_i hlt;rw [if_pos hlt];exact hy
  ·rename_i hlt;rw [if_neg hlt];exact hy
 obtain ⟨a1,a2,a3,a4⟩:=hw _ x (key k x hx)
 refine ⟨a1,a2,a3,fun j y hj hy=>a4 _ y ?_ (key j y hy)⟩
 repeat' split
 all_goals omega
theorem ws_push {h:Int} {ws:List Wt} (hw:WsOK h ws) {w:Wt} (h1:inB w.c 0 255=true) (h2:inB w.l 1 1000=true) (h3:w.c ≠ h) (h4:¬ wtB ws w.c=true):WsOK h (ws ++ [w]):=fun k x hx=>by
 by_cases hk:k<ws.length
 ·rw [List.getElem?_append_left hk] at hx
  obtain ⟨a1,a2,a3,a4⟩:=hw k x hx
  exact ⟨a1,a2,a3,fun j y hj hy=>a4 j y hj (by rwa [List.getElem?_append_left (by omega)] at hy)⟩
 ·have e:k=ws.length:=by have:=(List.getElem?_eq_some_iff.1 hx).1;simp at this;omega
  subst e
  rw [List.getElem?_append_right (Nat.le_refl _),Nat.sub_self] at hx
  obtain rfl:w=x:=by simpa using hx
  exact ⟨h1,h2,h3,fun j y hj hy=>wt_no h4 (by rwa [List.getElem?_append_left hj] at hy)⟩
theorem acL_hd {tm nx:Int} {r:Ask} {x:Lk} (hx:HdOK x) (hr:zBQ r) (h0:0≤tm) (h1:tm≤1000000000):HdOK (acL tm nx r x):=by
 obtain ⟨r1,_,r3,_⟩:=hr
 have b1:=zAQ r1
 unfold acL
 by_cases k1:r.kd=1
 ·have b3:inB r.le 1 1000=true:=by
   rcases r3 with ⟨_,h⟩ | ⟨h,_⟩
   ·exact h
   ·omega
  have b4:=zAQ b3
  rw [if_pos k1]
  by_cases c1:x.h=r.cl ∨ wtB x.ws r.cl=true
  ·rw [if_pos c1];exact hx
  ·rw [if_neg c1]
   by_cases c2:x.h = -1
   ·rw [if_pos c2]
    rcases hx with ⟨_,_,a3⟩ | ⟨a1,_⟩
    ·refine .inr ⟨show r.cl ≠ -1 by omega,r1,zAf (show 0≤tm+r.le by omega) (show tm+r.le≤2000000000 by omega),show x.ws.length≤4 by omega,?_⟩
     intro k y hy
     have:x.ws=[]:=List.length_eq_zero_iff.1 a3
     simp only [grL,this] at hy
     simp at hy
    ·exact absurd c2 a1
   ·rw [if_neg c2]
    rcases hx with ⟨a1,_⟩ | ⟨a1,a2,a3,a4,a5⟩
    ·exact absurd a1 c2
    ·by_cases c3:4≤x.ws.length
     ·rw [if_pos c3];exact .inr ⟨a1,a2,a3,a4,a5⟩
     ·rw [if_neg c3]
      exact .inr ⟨a1,a2,a3,by simp only [List.length_append,List.length_cons,List.length_nil];omega,ws_push a5 r1 b3 (fun e=>c1 (.inl e.symm)) (fun e=>c1 (.inr e))⟩
 ·rw [if_neg k1]
  by_cases k2:r.kd=2
  ·rw [if_pos k2]
   by_cases c1:wtB x.ws r.cl=true
   ·rw [if_pos c1]
    rcases hx with ⟨a1,a2,a3⟩ | ⟨a1,a2,a3,a4,a5⟩
    ·have:x.ws=[]:=List.length_eq_zero_iff.1 a3
     rw [this] at c1
     simp [wtB] at c1
    ·exact .inr ⟨a1,a2,a3,by have:=List.length_eraseIdx_le x.ws (x.ws.findIdx fun w=>w.c == r.cl);simp only;omega,ws_erase a5 _⟩
   ·rw [if_neg c1]
    by_cases c2:x.h=r.cl
    ·rw [if_pos c2];exact free_hd hx h0 h1
    ·rw [if_neg c2];exact hx
  ·rw [if_neg k2]
   by_cases k3:r.kd=3
   ·rw [if_pos k3]
    have b3:inB r.le 1 1000=true:=by
     rcases r3 with ⟨_,h⟩ | ⟨h,_⟩
     ·exact h
     ·omega
    have b4:=zAQ b3
    by_cases c2:x.h=r.cl
    ·rw [if_pos c2]
     rcases hx with ⟨a1,_⟩ | ⟨a1,a2,a3,a4,a5⟩
     ·omega
     ·exact .inr ⟨a1,a2,zAf (show 0≤tm+r.le by omega) (show tm+r.le≤2000000000 by omega),a4,a5⟩
    ·rw [if_neg c2];exact hx
   ·rw [if_neg k3];exact hx
end Go.Proofs.YticokpbelgpfmaaGreat.Da
