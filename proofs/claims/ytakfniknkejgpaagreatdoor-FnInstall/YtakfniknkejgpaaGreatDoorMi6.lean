/- Texts put together: Tw4, Tp, Tp2. -/
import Derived.Test.YtakfniknkejgpaaGreatDoorMi5
import Derived.Laws.Cover1
namespace Go.Proofs.YtakfniknkejgpaaGreatDoor.Tw
open Go.RowKit Sl Ap Tx Tb
theorem two_new (w:World) (o0 o1:Obj):Below w.heap.size w ((w.alloc o0).alloc o1):=((Below.refl _ _).alloc (Nat.le_refl _) _).alloc (by simp) _
theorem two {w w1:World} {o0 o1:Obj} (b:Below ((w.alloc o0).alloc o1).heap.size ((w.alloc o0).alloc o1) w1) :
 w1.heap[w.heap.size]?=some o0∧w1.heap[w.heap.size+1]?=some o1∧Below w.heap.size w w1:=by
 have e1:(w.alloc o0).heap.size=w.heap.size+1:=zAN _ _
 have e2:((w.alloc o0).alloc o1).heap.size=w.heap.size+1+1:=by rw [zAN,e1]
 have b1:=two_new w o0 o1
 rw [e2] at b
 refine ⟨?_,?_,b1.trans (b.mono (by omega))⟩
 ·rw [b.block _ (by omega),Below.heap_alloc _ _ _ (by omega)];exact heap_alloc_new w _
 ·rw [b.block _ (by omega),← e1];exact heap_alloc_new _ _
end Go.Proofs.YtakfniknkejgpaaGreatDoor.Tw
namespace Go.Proofs.YtakfniknkejgpaaGreatDoor.Tp
open Go.RowKit Sl Ap Tx Tb Tw Rq
noncomputable def bOf (p:Prop):Bool:=@decide p (Classical.propDecidable p)
theorem zAY {p:Prop} (h:p):bOf p=true:=by unfold bOf;simp [h]
theorem zAP {p:Prop} (h:¬ p):bOf p=false:=by unfold bOf;simp [h]
def FstOf (ws:List Wt) (c:Int) (r:Int):Prop:=(r = -1∧∀ (j:Nat) (y:Wt),ws[j]?=some y→y.c ≠ c) ∨ ∃ (k:Nat) (x:Wt),r=k∧ws[k]?=some x∧x.c=c∧∀ (j:Nat) (y:Wt),j<k→ws[j]?=some y→y.c ≠ c
def WOne (h:Int) (ws:List Wt) (k:Nat) (x:Wt):Prop:=inB x.c 0 255=true∧inB x.l 1 1000=true∧x.c ≠ h∧∀ (j:Nat) (y:Wt),j<k→ws[j]?=some y→y.c ≠ x.c
def WsOK (h:Int) (ws:List Wt):Prop:=∀ k x,ws[k]?=some x→WOne h ws k x
def HdOK (l:Lk):Prop:=(l.h = -1∧l.e=0∧l.ws.length=0) ∨ (l.h ≠ -1∧inB l.h 0 255=true∧inB l.e 0 2000000000=true∧l.ws.length≤4∧WsOK l.h l.ws)
def pn (ls:List Lk) (i:Nat):ByteArray:=if i=0 then ⟨#[]⟩ else (ls.getD (i - 1) default).n
def LOne (nx:Int) (p:ByteArray) (l:Lk):Prop:=(Op.bytesLess l.n.toList p.toList || l.n.toList == p.toList)=false∧opB l.n=true∧inB l.t 0 (nx - 1)=true∧HdOK l
def LsOK (nx:Int) (ls:List Lk):Prop:=∀ i l,ls[i]?=some l→LOne nx (pn ls i) l
def zBi (k t h e:Int):Prop:=inB k 1 8=true∧inB t 0 1000000=true∧inB h (-1) 255=true∧inB e 0 2000000000=true
def pc (ss:List Sn) (i:Nat):Int:=if i=0 then 0 else (ss.getD (i - 1) default).c+1
def SOne (p:Int) (s:Sn):Prop:=inB s.c p 255=true∧inB s.s 1 65535=true∧zBi s.k s.t s.h s.e
def SsOK (ss:List Sn):Prop:=∀ i s,ss[i]?=some s→SOne (pc ss i) s
def TOK (t:Tab):Prop:=inB t.tm 0 1000000000=true∧inB t.nx 1 1000000=true∧t.ls.length≤4∧LsOK t.nx t.ls∧t.ss.length≤6∧SsOK t.ss
theorem pn_succ {ls:List Lk} {k:Nat} {x:Lk} (h:ls[k]?=some x):pn ls (k+1)=x.n:=by
 unfold pn
 rw [if_neg (by omega),Nat.add_sub_cancel,List.getD_eq_getElem?_getD,h]
 rfl
theorem pc_succ {ss:List Sn} {k:Nat} {x:Sn} (h:ss[k]?=some x):pc ss (k+1)=x.c+1:=by
 unfold pc
 rw [if_neg (by omega),Nat.add_sub_cancel,List.getD_eq_getElem?_getD,h]
 rfl
theorem zAa {x a b:Int} (h:inB x a b=true):a≤x∧x≤b:=by unfold inB at h;simpa using h
theorem upto {α:Type} {xs:List α} {k:Nat} {P:Nat→α→Prop} (h:∀ j y,j<k→xs[j]?=some y→P j y) {x:α} (hx:xs[k]?=some x) (hp:P k x):∀ j y,j<k+1→xs[j]?=some y→P j y:=fun j y hj hy=>by
 by_cases e:j=k
 ·subst e
  rw [hx] at hy
  cases hy
  exact hp
 ·exact h j y (by omega) hy
set_option maxRecDepth 100000 in
set_option maxHeartbeats 800000 in
theorem waits1_any (x:Wt) (p:Nat) (c:Int) (w:World) (h:w.cell? ⟨p,0,none⟩=some (.int .i64 c)) :
 Calls Tryz.prog 146 #[wtV x,.pointer (some ⟨p,0,none⟩)] w fun e w'=>e=.returned (.bool (x.c == c))∧Below w.heap.size w w':=by
 unfold wtV
 have hp:=World.block_lt_of_cell? w _ h
 have h2:∀ o,(w.alloc o).cell? ⟨p,0,none⟩=some (.int .i64 c):=fun o=>(World.cell?_alloc_lt _ _ _ hp).trans h
 go_enter Tryz.func146,Tryz.ntmps146
 go_wp2_with fail
 go_ret
 exact ⟨rfl,zAD _ _⟩
set_option maxRecDepth 100000 in
set_option maxHeartbeats 800000 in
theorem indexFunc_any (v:Value) (xs:List Wt) (c:Int) (p:Nat) (w:World) (h:RowW w v xs) (hl:xs.length≤1048576) (hc:w.cell? ⟨p,0,none⟩=some (.int .i64 c)) :
 Calls Tryz.prog 145 #[v,.func (.func 146) #[] #[.pointer (some ⟨p,0,none⟩)]] w fun e w'=>(∃ r,e=.returned (.int .i64 r)∧FstOf xs c r)∧Below w.heap.size w w':=by
 have HR:Hid (RowW w v xs∧w.cell? ⟨p,0,none⟩=some (.int .i64 c)):=⟨h,hc⟩
 obtain ⟨a,cap,rfl⟩:=RowG.slice h
 clear h hc
 go_enter Tryz.func145,Tryz.ntmps145
 go_wp2_with fail
 go_loopw [8] (fun i wr=>∃ k:Nat,k≤xs.length∧i=.int .i64 k∧Hid ((∀ (j:Nat) (y:Wt),j<k→xs[j]?=some y→y.c ≠ c)∧Below w.heap.size w wr)) (fun i _=>xs.length - (intOf i).toNat)
 case atStart=>exact ⟨0,by omega,rfl,⟨fun j y hj=>by omega,Below.refl _ _⟩⟩
 case round =>
  obtain ⟨k,hk,rfl,HK⟩:=hrel
  by_cases hlt:k<xs.length
  ·obtain ⟨x,hx⟩:=Tw.get_at hlt
   obtain ⟨b,off,rfl,hbl,c0,c1⟩:=RowG.at (HR.out.1.below HK.out.2) rfl hx
   have HX:Hid (xs[k]?=some x∧wr.cell? ⟨p,0,none⟩=some (.int .i64 c)):=⟨hx,(HK.out.2.cell (World.block_lt_of_cell? w _ HR.out.2)).trans HR.out.2⟩
   clear hx
   go_wp2_with fail
   refine (waits1_any x p c wr HX.out.2).mono ?_
   rintro e w2 ⟨rfl,b2⟩
   have HB2:Hid (Below w.heap.size w w2):=HK.out.2.trans (b2.mono HK.out.2.size)
   clear b2
   by_cases he:x.c=c
   ·have he':(x.c == c)=true:=by simpa using he
    rw [he']
    have HE:Hid (x.c=c):=he
    clear he he'
    go_wp2_with fail
    go_ret
    exact ⟨⟨_,rfl,Or.inr ⟨k,x,rfl,HX.out.1,HE.out,HK.out.1⟩⟩,HB2.out⟩
   ·have he':(x.c == c)=false:=by simpa using he
    rw [he']
    have HE:Hid (x.c ≠ c):=he
    clear he he'
    go_wp2_with fail
    exact ⟨⟨k+1,by omega,by go_num,⟨upto (P:=fun _ y=>y.c ≠ c) HK.out.1 HX.out.1 HE.out,HB2.out⟩⟩,by simp [intOf];omega⟩
  ·obtain rfl:k=xs.length:=by omega
   go_wp2_with fail
   go_ret
   exact ⟨⟨_,rfl,Or.inl ⟨rfl,fun j y hy=>HK.out.1 j y (lt_at hy) hy⟩⟩,HK.out.2⟩
set_option maxRecDepth 100000 in
set_option maxHeartbeats 800000 in
theorem waitsAt_any (v:Value) (xs:List Wt) (c:Int) (w:World) (h:RowW w v xs) (hl:xs.length≤1048576) :
 Calls Tryz.prog 141 #[v,.int .i64 c] w fun e w'=>(∃ r,e=.returned (.int .i64 r)∧FstOf xs c r)∧Below w.heap.size w w':=by
 have HR:Hid (RowW w v xs):=h
 obtain ⟨a,cap,rfl⟩:=RowG.slice h
 clear h
 have HB:Hid (Below w.heap.size w (w.alloc (.cells #[.int .i64 c] 3))):=zAD _ _
 have HC:Hid ((w.alloc (.cells #[.int .i64 c] 3)).cell? ⟨w.heap.size,0,none⟩=some (.int .i64 c)):=(zAA (zAK w _ _) 0 rfl).1
 go_enter Tryz.func141,Tryz.ntmps141
 go_wp2_with fail
 refine (indexFunc_any _ xs c w.heap.size _ (HR.out.below HB.out) hl HC.out).mono ?_
 rintro e w2 ⟨⟨r,rfl,hr⟩,b2⟩
 have HF:Hid (FstOf xs c r∧Below w.heap.size w w2):=⟨hr,HB.out.trans (b2.mono HB.out.size)⟩
 clear hr b2
 go_wp2_with fail
 go_ret
 exact ⟨⟨_,rfl,HF.out.1⟩,HF.out.2⟩
theorem fst_own {ws:List Wt} {k:Nat} {x:Wt} {r:Int} (hx:ws[k]?=some x) (h:FstOf ws x.c r):(r<(k:Int)) ↔ ¬ ∀ (j:Nat) (y:Wt),j<k→ws[j]?=some y→y.c ≠ x.c:=by
 rcases h with ⟨_,h⟩ | ⟨i,z,rfl,hz,hc,h⟩
 ·exact absurd rfl (h k x hx)
 ·constructor
  ·intro hlt hh
   exact hh i z (by omega) hz hc
  ·intro hn
   rcases Nat.lt_or_ge i k with hi | hi
   ·omega
   ·exact absurd (fun j y hj hy=>h j y (by omega) hy) hn
set_option maxRecDepth 100000 in
set_option maxHeartbeats 1600000 in
theorem waitersOK_any (l:Lk) (u:Value) (w:World) (h:RowW w u l.ws) (hl:l.ws.length≤1048576) :
 Calls Tryz.prog 130 #[lkV l u] w fun e w'=>e=.returned (.bool (bOf (WsOK l.h l.ws)))∧Below w.heap.size w w':=by
 obtain ⟨ln,lt,hh,le,ws⟩:=l
 unfold lkV
 dsimp only at h hl ⊢
 obtain ⟨a,cap,rfl⟩:=RowG.slice h
 have HX:Hid (∀ W,Below (w.alloc (.cells #[.string ln,.int .i64 lt,.int .i64 hh,.int .i64 le,.slice a ws.length cap] 95)).heap.size (w.alloc (.cells #[.string ln,.int .i64 lt,.int .i64 hh,.int .i64 le,.slice a ws.length cap] 95)) W→W.cell? ⟨w.heap.size,2,none⟩=some (.int .i64 hh)∧W.cell? ⟨w.heap.size,4,none⟩=some (.slice a ws.length cap)∧RowW W (.slice a ws.length cap) ws∧Below w.heap.size w W):=fun W hW=>by
  have h1:=(hW.block w.heap.size (by simp)).trans (heap_alloc_new w _)
  exact ⟨(zAA h1 2 rfl).1,(zAA h1 4 rfl).1,(h.below (zAD _ _)).below hW,(zAD w _).trans (hW.mono (by simp))⟩
 clear h
 go_enter Tryz.func130,Tryz.ntmps130
 go_upto_region 1 with fail
 generalize w.alloc (.cells #[.string ln,.int .i64 lt,.int .i64 hh,.int .i64 le,.slice a ws.length cap] 95)=wb at HX ⊢
 obtain ⟨x2,x4,_,_⟩:=HX.out wb (Below.refl _ _)
 go_wp2_with fail
 clear x2 x4
 go_loopw [8] (fun i wr=>∃ k:Nat,k≤ws.length∧i=.int .i64 k∧Hid ((∀ j y,j<k→ws[j]?=some y→WOne hh ws j y)∧Below wb.heap.size wb wr)) (fun i _=>ws.length - (intOf i).toNat)
 case atStart=>exact ⟨0,by omega,rfl,⟨fun j y hj=>by omega,Below.refl _ _⟩⟩
 case round =>
  obtain ⟨k,hk,rfl,HK⟩:=hrel
  obtain ⟨x2,x4,hr0,hb0⟩:=HX.out wr HK.out.2
  have HB0:Hid (Below w.heap.size w wr):=hb0
  by_cases hlt:k<ws.length
  ·obtain ⟨x,hx⟩:=Tw.get_at hlt
   obtain ⟨b,off,rfl,hbl,c0,c1⟩:=RowG.at hr0 rfl hx
   have HN:Hid (WOne hh ws k x ↔ (inB x.c 0 255=true∧inB x.l 1 1000=true∧x.c ≠ hh∧∀ (j:Nat) (y:Wt),j<k→ws[j]?=some y→y.c ≠ x.c)):=Iff.rfl
   have HNO:Hid (¬ WOne hh ws k x→bOf (WsOK hh ws)=false):=fun h=>zAP fun hh=>h (hh k x hx)
   have HYS:Hid (WOne hh ws k x→∀ j y,j<k+1→ws[j]?=some y→WOne hh ws j y):=fun h=>upto (P:=fun j y=>WOne hh ws j y) HK.out.1 hx h
   have HW:Hid (∀ o,Below wb.heap.size wb (wr.alloc o)∧Below w.heap.size w (wr.alloc o)):=fun o=>⟨HK.out.2.trans ((zAD wr o).mono HK.out.2.size),HB0.out.trans ((zAD wr o).mono HB0.out.size)⟩
   have y2:∀ o,(wr.alloc o).cell? ⟨w.heap.size,2,none⟩=some (.int .i64 hh):=fun o=>(HX.out _ (HW.out o).1).1
   have y4:∀ o,(wr.alloc o).cell? ⟨w.heap.size,4,none⟩=some (.slice (some ⟨b,off,none⟩) ws.length cap):=fun o=>(HX.out _ (HW.out o).1).2.1
   have HWA:Hid (∀ o,Calls Tryz.prog 141 #[.slice (some ⟨b,off,none⟩) ws.length cap,.int .i64 x.c] (wr.alloc o) fun e w'=>(∃ r:Int,e=.returned (.int .i64 r)∧decide (r<(k:Int))=bOf (¬ ∀ (j:Nat) (y:Wt),j<k→ws[j]?=some y→y.c ≠ x.c))∧Below wb.heap.size wb w'∧Below w.heap.size w w'):=fun o =>
    (waitsAt_any _ ws x.c _ (HX.out _ (HW.out o).1).2.2.1 hl).mono fun e w' ⟨⟨r,he,hf⟩,b2⟩=>⟨⟨r,he,by
      have:=fst_own hx hf
      by_cases hq:∀ (j:Nat) (y:Wt),j<k→ws[j]?=some y→y.c ≠ x.c
      ·rw [zAP (fun h=>h hq),decide_eq_false (fun h=>this.1 h hq)]
      ·rw [zAY hq,decide_eq_true (this.2 hq)]⟩,(HW.out o).1.trans (b2.mono (HW.out o).1.size),(HW.out o).2.trans (b2.mono (HW.out o).2.size)⟩
   clear hx hr0 hb0 x2 x4
   cases h1:inB x.c 0 255 with
   | false =>
     have HF:Hid (bOf (WsOK hh ws)=false):=HNO.out fun h=>by have:=(HN.out.1 h).1;rw [h1] at this;cases this
     go_wp2_with (go_at_call 33;refine (zAR _ _ _ _).mono ?_;rintro e w1 ⟨rfl,rfl⟩;rw [h1])
     go_ret
     exact ⟨zAG HF.out.symm,(HW.out _).2⟩
   | true =>
     cases h2:inB x.l 1 1000 with
     | false =>
       have HF:Hid (bOf (WsOK hh ws)=false):=HNO.out fun h=>by have:=(HN.out.1 h).2.1;rw [h2] at this;cases this
       go_wp2_with (go_at_call 33;refine (zAR _ _ _ _).mono ?_;rintro e w1 ⟨rfl,rfl⟩;first | rw [h1] | rw [h2])
       go_ret
       exact ⟨zAG HF.out.symm,(HW.out _).2⟩
     | true =>
       by_cases h3:x.c=hh
       ·have HF:Hid (bOf (WsOK hh ws)=false):=HNO.out fun h=>(HN.out.1 h).2.2.1 h3
        have h3':(x.c == hh)=true:=by simpa using h3
        clear h3
        go_wp2_with (go_at_call 33;refine (zAR _ _ _ _).mono ?_;rintro e w1 ⟨rfl,rfl⟩;first | rw [h1] | rw [h2])
        go_ret
        exact ⟨zAG HF.out.symm,(HW.out _).2⟩
       ·have h3':(x.c == hh)=false:=by simpa using h3
        cases h4:bOf (¬ ∀ (j:Nat) (y:Wt),j<k→ws[j]?=some y→y.c ≠ x.c) with
        | true =>
          have HF:Hid (bOf (WsOK hh ws)=false):=HNO.out fun h=>by rw [zAP (fun hn=>hn (HN.out.1 h).2.2.2)] at h4;cases h4
          rw [h4] at HWA
          clear h3 h4
          go_wp2_with (first | (go_at_call 33;refine (zAR _ _ _ _).mono ?_;rintro e w1 ⟨rfl,rfl⟩;first | rw [h1] | rw [h2]) | (go_at_call 141;refine (HWA.out _).mono ?_;rintro e w2 ⟨⟨r,rfl,hd⟩,g1,g2⟩))
          go_ret
          exact ⟨zAG HF.out.symm,g2⟩
        | false =>
          have HT:Hid (WOne hh ws k x):=HN.out.2 ⟨h1,h2,h3,Classical.byContradiction fun hn=>by rw [zAY hn] at h4;cases h4⟩
          rw [h4] at HWA
          clear h3 h4
          go_wp2_with (first | (go_at_call 33;refine (zAR _ _ _ _).mono ?_;rintro e w1 ⟨rfl,rfl⟩;first | rw [h1] | rw [h2]) | (go_at_call 141;refine (HWA.out _).mono ?_;rintro e w2 ⟨⟨r,rfl,hd⟩,g1,g2⟩))
          exact ⟨⟨k+1,by omega,by go_num,⟨HYS.out HT.out,g1⟩⟩,by simp [intOf];omega⟩
  ·obtain rfl:k=ws.length:=by omega
   have HT:Hid (bOf (WsOK hh ws)=true):=zAY fun j y hy=>HK.out.1 j y (lt_at hy) hy
   clear hr0 hb0
   go_wp2_with fail
   go_ret
   exact ⟨zAG HT.out.symm,HB0.out⟩
end Go.Proofs.YtakfniknkejgpaaGreatDoor.Tp
namespace Go.Proofs.YtakfniknkejgpaaGreatDoor.Tp
open Go.RowKit Sl Ap Tx Tb Tw Rq
set_option maxRecDepth 100000 in
set_option maxHeartbeats 1600000 in
theorem holdOK_any (l:Lk) (u:Value) (w:World) (h:RowW w u l.ws) (hl:l.ws.length≤1048576) :
 Calls Tryz.prog 114 #[lkV l u] w fun e w'=>e=.returned (.bool (bOf (HdOK l)))∧Below w.heap.size w w':=by
 obtain ⟨a,cap,rfl⟩:=RowG.slice h
 have HD:Hid (HdOK l ↔ ((l.h = -1∧l.e=0∧l.ws.length=0) ∨ (l.h ≠ -1∧inB l.h 0 255=true∧inB l.e 0 2000000000=true∧l.ws.length≤4∧WsOK l.h l.ws))):=Iff.rfl
 have HWO:Hid (∀ o,Calls Tryz.prog 130 #[.agg #[.string l.n,.int .i64 l.t,.int .i64 l.h,.int .i64 l.e,.slice a l.ws.length cap]] (w.alloc o) fun e w'=>e=.returned (.bool (bOf (WsOK l.h l.ws)))∧Below w.heap.size w w'):=fun o =>
  (waitersOK_any l _ _ (h.below (zAD w o)) hl).mono fun e w' ⟨he,hb⟩=>⟨he,(zAD w o).trans (hb.mono (zAD w o).size)⟩
 clear h
 unfold lkV
 by_cases h0:l.h = -1
 ·have h0':(l.h == -1)=true:=by simpa using h0
  by_cases he:l.e=0
  ·have he':(l.e == 0)=true:=by simpa using he
   by_cases hn:l.ws.length=0
   ·have hn':((l.ws.length:Int) == 0)=true:=by simpa using hn
    have HF:Hid (bOf (HdOK l)=true):=zAY (HD.out.2 (.inl ⟨h0,he,hn⟩))
    clear h0 he hn hl
    go_enter Tryz.func114,Tryz.ntmps114
    go_wp2_with fail
    go_ret
    exact ⟨zAG HF.out.symm,zAD _ _⟩
   ·have hn':((l.ws.length:Int) == 0)=false:=by simpa using hn
    have HF:Hid (bOf (HdOK l)=false):=zAP fun h=>by rcases HD.out.1 h with h | h;exact hn h.2.2;exact h.1 h0
    clear h0 he hn hl
    go_enter Tryz.func114,Tryz.ntmps114
    go_wp2_with fail
    go_ret
    exact ⟨zAG HF.out.symm,zAD _ _⟩
  ·have he':(l.e == 0)=false:=by simpa using he
   have HF:Hid (bOf (HdOK l)=false):=zAP fun h=>by rcases HD.out.1 h with h | h;exact he h.2.1;exact h.1 h0
   clear h0 he hl
   go_enter Tryz.func114,Tryz.ntmps114
   go_wp2_with fail
   go_ret
   exact ⟨zAG HF.out.symm,zAD _ _⟩
 ·have h0':(l.h == -1)=false:=by simpa using h0
  have HD2:Hid (HdOK l ↔ (inB l.h 0 255=true∧inB l.e 0 2000000000=true∧l.ws.length≤4∧WsOK l.h l.ws)):=⟨fun h=>by rcases HD.out.1 h with h | h;exact absurd h.1 h0;exact h.2,fun h=>HD.out.2 (.inr ⟨h0,h⟩)⟩
  clear HD h0
  cases h1:inB l.h 0 255 with
  | false =>
    have HF:Hid (bOf (HdOK l)=false):=zAP fun h=>by have:=(HD2.out.1 h).1;rw [h1] at this;cases this
    clear hl
    go_enter Tryz.func114,Tryz.ntmps114
    go_wp2_with (go_at_call 33;refine (zAR _ _ _ _).mono ?_;rintro e w1 ⟨rfl,rfl⟩;rw [h1])
    go_ret
    exact ⟨zAG HF.out.symm,zAD _ _⟩
  | true =>
    cases h2:inB l.e 0 2000000000 with
    | false =>
      have HF:Hid (bOf (HdOK l)=false):=zAP fun h=>by have:=(HD2.out.1 h).2.1;rw [h2] at this;cases this
      clear hl
      go_enter Tryz.func114,Tryz.ntmps114
      go_wp2_with (go_at_call 33;refine (zAR _ _ _ _).mono ?_;rintro e w1 ⟨rfl,rfl⟩;first | rw [h1] | rw [h2])
      go_ret
      exact ⟨zAG HF.out.symm,zAD _ _⟩
    | true =>
      by_cases h3:l.ws.length≤4
      ·have h3':(l.ws.length:Int)≤4:=by omega
       have HF:Hid (bOf (HdOK l)=bOf (WsOK l.h l.ws)):=by
        show _=_
        by_cases hw:WsOK l.h l.ws
        ·rw [zAY hw,zAY (HD2.out.2 ⟨h1,h2,h3,hw⟩)]
        ·rw [zAP hw,zAP fun h=>hw (HD2.out.1 h).2.2.2]
       clear hl
       generalize bOf (WsOK l.h l.ws)=bb at HWO HF
       go_enter Tryz.func114,Tryz.ntmps114
       go_wp2_with (first | (go_at_call 33;refine (zAR _ _ _ _).mono ?_;rintro e w1 ⟨rfl,rfl⟩;first | rw [h1] | rw [h2]) | (go_at_call 130;refine (HWO.out _).mono ?_;rintro e w2 ⟨rfl,g2⟩))
       go_ret
       exact ⟨zAG HF.out.symm,g2⟩
      ·have h3':¬ (l.ws.length:Int)≤4:=by omega
       have h3'':decide ((l.ws.length:Int)≤4)=false:=decide_eq_false h3'
       have HF:Hid (bOf (HdOK l)=false):=zAP fun h=>h3 (HD2.out.1 h).2.2.1
       clear hl h3
       go_enter Tryz.func114,Tryz.ntmps114
       go_wp2_with (go_at_call 33;refine (zAR _ _ _ _).mono ?_;rintro e w1 ⟨rfl,rfl⟩;first | rw [h1] | rw [h2])
       go_ret
       exact ⟨zAG HF.out.symm,zAD _ _⟩
set_option maxRecDepth 100000 in
set_option maxHeartbeats 1600000 in
theorem answerOK_any (k t h e0:Int) (w:World) :
 Calls Tryz.prog 131 #[.agg #[.int .i64 k,.int .i64 t,.int .i64 h,.int .i64 e0]] w fun e w'=>e=.returned (.bool (bOf (zBi k t h e0)))∧Below w.heap.size w w':=by
 cases h1:inB k 1 8 with
 | false =>
   have HF:Hid (bOf (zBi k t h e0)=false):=zAP fun h=>by have:=(h.1);rw [h1] at this;cases this
   go_enter Tryz.func131,Tryz.ntmps131
   go_wp2_with (go_at_call 33;refine (zAR _ _ _ _).mono ?_;rintro e w1 ⟨rfl,rfl⟩;rw [h1])
   go_ret
   exact ⟨zAG HF.out.symm,zAD _ _⟩
 | true =>
   cases h2:inB t 0 1000000 with
   | false =>
     have HF:Hid (bOf (zBi k t h e0)=false):=zAP fun h=>by have:=(h.2.1);rw [h2] at this;cases this
     go_enter Tryz.func131,Tryz.ntmps131
     go_wp2_with (go_at_call 33;refine (zAR _ _ _ _).mono ?_;rintro e w1 ⟨rfl,rfl⟩;first | rw [h1] | rw [h2])
     go_ret
     exact ⟨zAG HF.out.symm,zAD _ _⟩
   | true =>
     cases h3:inB h (-1) 255 with
     | false =>
       have HF:Hid (bOf (zBi k t h e0)=false):=zAP fun h=>by have:=(h.2.2.1);rw [h3] at this;cases this
       go_enter Tryz.func131,Tryz.ntmps131
       go_wp2_with (go_at_call 33;refine (zAR _ _ _ _).mono ?_;rintro e w1 ⟨rfl,rfl⟩;first | rw [h1] | rw [h2] | rw [h3])
       go_ret
       exact ⟨zAG HF.out.symm,zAD _ _⟩
     | true =>
       cases h4:inB e0 0 2000000000 with
       | false =>
         have HF:Hid (bOf (zBi k t h e0)=false):=zAP fun h=>by have:=(h.2.2.2);rw [h4] at this;cases this
         go_enter Tryz.func131,Tryz.ntmps131
         go_wp2_with (go_at_call 33;refine (zAR _ _ _ _).mono ?_;rintro e w1 ⟨rfl,rfl⟩;first | rw [h1] | rw [h2] | rw [h3] | rw [h4])
         go_ret
         exact ⟨zAG HF.out.symm,zAD _ _⟩
       | true =>
         have HF:Hid (bOf (zBi k t h e0)=true):=zAY ⟨h1,h2,h3,h4⟩
         go_enter Tryz.func131,Tryz.ntmps131
         go_wp2_with (go_at_call 33;refine (zAR _ _ _ _).mono ?_;rintro e w1 ⟨rfl,rfl⟩;first | rw [h1] | rw [h2] | rw [h3] | rw [h4])
         go_ret
         exact ⟨zAG HF.out.symm,zAD _ _⟩
set_option maxRecDepth 100000 in
set_option maxHeartbeats 1600000 in
theorem zAm (k t h e0:Int) (w:World) :
 Calls Tryz.prog 42 #[.agg #[.int .i64 k,.int .i64 t,.int .i64 h,.int .i64 e0]] w fun e w'=>e=.returned (.bool (bOf (zBi k t h e0)))∧Below w.heap.size w w':=by
 cases h1:inB k 1 8 with
 | false =>
   have HF:Hid (bOf (zBi k t h e0)=false):=zAP fun h=>by have:=(h.1);rw [h1] at this;cases this
   go_enter Tryz.func42,Tryz.ntmps42
   go_wp2_with (go_at_call 40;refine (zAl _ _ _ _).mono ?_;rintro e w1 ⟨rfl,rfl⟩;rw [h1])
   go_ret
   exact ⟨zAG HF.out.symm,zAD _ _⟩
 | true =>
   cases h2:inB t 0 1000000 with
   | false =>
     have HF:Hid (bOf (zBi k t h e0)=false):=zAP fun h=>by have:=(h.2.1);rw [h2] at this;cases this
     go_enter Tryz.func42,Tryz.ntmps42
     go_wp2_with (go_at_call 40;refine (zAl _ _ _ _).mono ?_;rintro e w1 ⟨rfl,rfl⟩;first | rw [h1] | rw [h2])
     go_ret
     exact ⟨zAG HF.out.symm,zAD _ _⟩
   | true =>
     cases h3:inB h (-1) 255 with
     | false =>
       have HF:Hid (bOf (zBi k t h e0)=false):=zAP fun h=>by have:=(h.2.2.1);rw [h3] at this;cases this
       go_enter Tryz.func42,Tryz.ntmps42
       go_wp2_with (go_at_call 40;refine (zAl _ _ _ _).mono ?_;rintro e w1 ⟨rfl,rfl⟩;first | rw [h1] | rw [h2] | rw [h3])
       go_ret
       exact ⟨zAG HF.out.symm,zAD _ _⟩
     | true =>
       cases h4:inB e0 0 2000000000 with
       | false =>
         have HF:Hid (bOf (zBi k t h e0)=false):=zAP fun h=>by have:=(h.2.2.2);rw [h4] at this;cases this
         go_enter Tryz.func42,Tryz.ntmps42
         go_wp2_with (go_at_call 40;refine (zAl _ _ _ _).mono ?_;rintro e w1 ⟨rfl,rfl⟩;first | rw [h1] | rw [h2] | rw [h3] | rw [h4])
         go_ret
         exact ⟨zAG HF.out.symm,zAD _ _⟩
       | true =>
         have HF:Hid (bOf (zBi k t h e0)=true):=zAY ⟨h1,h2,h3,h4⟩
         go_enter Tryz.func42,Tryz.ntmps42
         go_wp2_with (go_at_call 40;refine (zAl _ _ _ _).mono ?_;rintro e w1 ⟨rfl,rfl⟩;first | rw [h1] | rw [h2] | rw [h3] | rw [h4])
         go_ret
         exact ⟨zAG HF.out.symm,zAD _ _⟩
theorem pc_ge {xs:List Sn}:∀ {k:Nat},(∀ (j:Nat) (y:Sn),j<k→xs[j]?=some y→SOne (pc xs j) y)→k≤xs.length→0≤pc xs k
 | 0,_,_=>by unfold pc;simp
 | k+1,h,hk=>by
   obtain ⟨x,hx⟩:=Tw.get_at (xs:=xs) (k:=k) (by omega)
   have ih:=pc_ge (k:=k) (fun j y hj hy=>h j y (by omega) hy) (by omega)
   have:=(zAa (h k x (by omega) hx).1).1
   rw [pc_succ hx]
   omega
def SnOK (x:Sn):Prop:=inB x.c 0 255=true∧inB x.s 1 65535=true∧zBi x.k x.t x.h x.e
theorem sone_iff {p:Int} {x:Sn} (h:0≤p):SOne p x ↔ (¬ x.c<p∧SnOK x):=by
 unfold SOne SnOK
 have e:inB x.c p 255=true ↔ (¬ x.c<p∧inB x.c 0 255=true):=by
  unfold inB
  simp
  omega
 rw [e,and_assoc]
set_option maxRecDepth 100000 in
set_option maxHeartbeats 1600000 in
theorem seenOK_any (x:Sn) (w:World) :
 Calls Tryz.prog 115 #[snV x] w fun e w'=>e=.returned (.bool (bOf (SnOK x)))∧Below w.heap.size w w':=by
 unfold snV
 cases h1:inB x.c 0 255 with
 | false =>
   have HF:Hid (bOf (SnOK x)=false):=zAP fun h=>by have:=h.1;rw [h1] at this;cases this
   go_enter Tryz.func115,Tryz.ntmps115
   go_wp2_with (go_at_call 33;refine (zAR _ _ _ _).mono ?_;rintro e w1 ⟨rfl,rfl⟩;rw [h1])
   go_ret
   exact ⟨zAG HF.out.symm,zAD _ _⟩
 | true =>
   cases h2:inB x.s 1 65535 with
   | false =>
     have HF:Hid (bOf (SnOK x)=false):=zAP fun h=>by have:=h.2.1;rw [h2] at this;cases this
     go_enter Tryz.func115,Tryz.ntmps115
     go_wp2_with (go_at_call 33;refine (zAR _ _ _ _).mono ?_;rintro e w1 ⟨rfl,rfl⟩;first | rw [h1] | rw [h2])
     go_ret
     exact ⟨zAG HF.out.symm,zAD _ _⟩
   | true =>
     have HF:Hid (bOf (SnOK x)=bOf (zBi x.k x.t x.h x.e)):=by
      show _=_
      by_cases h:zBi x.k x.t x.h x.e
      ·rw [zAY h,zAY (show SnOK x from ⟨h1,h2,h⟩)]
      ·rw [zAP h,zAP (fun g:SnOK x=>h g.2.2)]
     go_enter Tryz.func115,Tryz.ntmps115
     go_wp2_with (first | (go_at_call 33;refine (zAR _ _ _ _).mono ?_;rintro e w1 ⟨rfl,rfl⟩;first | rw [h1] | rw [h2]) | (go_at_call 131;refine (answerOK_any _ _ _ _ _).mono ?_;rintro e w2 ⟨rfl,b2⟩))
     go_ret
     exact ⟨zAG HF.out.symm,(zAD _ _).trans (b2.mono (zAD _ _).size)⟩
set_option maxRecDepth 100000 in
set_option maxHeartbeats 1600000 in
theorem seensOK_any (v:Value) (xs:List Sn) (w:World) (h:RowS w v xs) (hl:xs.length≤1048576) :
 Calls Tryz.prog 92 #[v] w fun e w'=>e=.returned (.bool (bOf (SsOK xs)))∧Below w.heap.size w w':=by
 have HR:Hid (RowS w v xs):=h
 obtain ⟨a,cap,rfl⟩:=RowG.slice h
 clear h
 go_enter Tryz.func92,Tryz.ntmps92
 go_wp2_with fail
 go_loopw [3,8] (fun p i wr=>∃ k:Nat,k≤xs.length∧i=.int .i64 k∧p=.int .i64 (pc xs k)∧Hid ((∀ (j:Nat) (y:Sn),j<k→xs[j]?=some y→SOne (pc xs j) y)∧Below w.heap.size w wr)) (fun _ i _=>xs.length - (intOf i).toNat)
 case atStart=>exact ⟨0,by omega,rfl,rfl,⟨fun j y hj=>by omega,Below.refl _ _⟩⟩
 case round =>
  obtain ⟨k,hk,rfl,rfl,HK⟩:=hrel
  by_cases hlt:k<xs.length
  ·obtain ⟨x,hx⟩:=Tw.get_at hlt
   obtain ⟨b,off,rfl,hbl,c0,c1,c2,c3,c4,c5⟩:=RowG.at (HR.out.below HK.out.2) rfl hx
   have HN:Hid (SOne (pc xs k) x ↔ (¬ x.c<pc xs k∧SnOK x)):=sone_iff (pc_ge HK.out.1 (by omega))
   have HNO:Hid (¬ SOne (pc xs k) x→bOf (SsOK xs)=false):=fun h=>zAP fun hh=>h (hh k x hx)
   have HYS:Hid (SOne (pc xs k) x→∀ (j:Nat) (y:Sn),j<k+1→xs[j]?=some y→SOne (pc xs j) y):=fun h=>upto (P:=fun j y=>SOne (pc xs j) y) HK.out.1 hx h
   have HP:Hid (pc xs (k+1)=x.c+1):=pc_succ hx
   have HW:Hid (∀ o,Below w.heap.size w (wr.alloc o)):=fun o=>HK.out.2.trans ((zAD wr o).mono HK.out.2.size)
   have HSN:Hid (∀ o,Calls Tryz.prog 115 #[.agg #[.int .i64 x.c,.int .i64 x.s,.int .i64 x.k,.int .i64 x.t,.int .i64 x.h,.int .i64 x.e]] (wr.alloc o) fun e w'=>e=.returned (.bool (bOf (SnOK x)))∧(∀ i,w'.cell? ⟨wr.heap.size,i,none⟩=(wr.alloc o).cell? ⟨wr.heap.size,i,none⟩)∧Below w.heap.size w w'):=fun o =>
    (seenOK_any x _).mono fun e w' ⟨he,hb⟩=>⟨he,fun i=>hb.cell (p:=⟨wr.heap.size,i,none⟩) (by rw [zAN];exact Nat.lt_succ_self _),(HW.out o).trans (hb.mono (HW.out o).size)⟩
   clear hx
   generalize pc xs k=p at HN HNO HYS ⊢
   by_cases h1:x.c<p
   ·have HF:Hid (bOf (SsOK xs)=false):=HNO.out fun h=>(HN.out.1 h).1 h1
    go_wp2_with fail
    go_ret
    exact ⟨zAG HF.out.symm,HW.out _⟩
   ·cases h3:bOf (SnOK x) with
    | false =>
      have HF:Hid (bOf (SsOK xs)=false):=HNO.out fun h=>by rw [zAY (HN.out.1 h).2] at h3;cases h3
      rw [h3] at HSN
      clear h3
      go_wp2_with (go_at_call 115;refine (HSN.out _).mono ?_;rintro e w2 ⟨rfl,_,g2⟩)
      go_ret
      exact ⟨zAG HF.out.symm,g2⟩
    | true =>
      have hs:SnOK x:=Classical.byContradiction fun hn=>by rw [zAP hn] at h3;cases h3
      have HT:Hid (SOne p x):=HN.out.2 ⟨h1,hs⟩
      have hb1:0≤x.c∧x.c≤255:=zAa hs.1
      rw [h3] at HSN
      clear h3 hs
      go_wp2_with (go_at_call 115;refine (HSN.out _).mono ?_;rintro e w2 ⟨rfl,q2,g2⟩;have q20:=q2 0)
      exact ⟨⟨k+1,by omega,by go_num,by rw [HP.out],⟨HYS.out HT.out,g2⟩⟩,by simp [intOf];omega⟩
  ·obtain rfl:k=xs.length:=by omega
   have HT:Hid (bOf (SsOK xs)=true):=zAY fun j y hy=>HK.out.1 j y (lt_at hy) hy
   go_wp2_with fail
   go_ret
   exact ⟨zAG HT.out.symm,HK.out.2⟩
set_option maxRecDepth 100000 in
set_option maxHeartbeats 1600000 in
theorem locksOK_any (v:Value) (xs:List Lk) (nx:Int) (w:World) (h:RowL w v xs) (hl:xs.length≤1048576) (hw:∀ x ∈ xs,x.n.size≤1048576∧x.ws.length≤1048576) (hn1:1≤nx) (hn2:nx≤1000000) :
 Calls Tryz.prog 91 #[v,.int .i64 nx] w fun e w'=>e=.returned (.bool (bOf (LsOK nx xs)))∧Below w.heap.size w w':=by
 have HR:Hid (RowL w v xs∧∀ x ∈ xs,x.n.size≤1048576∧x.ws.length≤1048576):=⟨h,hw⟩
 obtain ⟨a,cap,rfl⟩:=RowG.slice h
 clear h hw
 go_enter Tryz.func91,Tryz.ntmps91
 go_wp2_with fail
 go_loopw [5,10] (fun p i wr=>∃ k:Nat,k≤xs.length∧i=.int .i64 k∧p=.string (pn xs k)∧Hid ((∀ (j:Nat) (y:Lk),j<k→xs[j]?=some y→LOne nx (pn xs j) y)∧Below w.heap.size w wr)) (fun _ i _=>xs.length - (intOf i).toNat)
 case atStart=>exact ⟨0,by omega,rfl,rfl,⟨fun j y hj=>by omega,Below.refl _ _⟩⟩
 case round =>
  obtain ⟨k,hk,rfl,rfl,HK⟩:=hrel
  by_cases hlt:k<xs.length
  ·obtain ⟨x,hx⟩:=Tw.get_at hlt
   obtain ⟨b,off,rfl,hbl,u,c0,c1,c2,c3,c4,c5⟩:=RowG.at (HR.out.1.below HK.out.2) rfl hx
   obtain ⟨ua,uc,rfl⟩:=RowG.slice c5
   have HN:Hid (LOne nx (pn xs k) x ↔ ((Op.bytesLess x.n.toList (pn xs k).toList || x.n.toList == (pn xs k).toList)=false∧opB x.n=true∧inB x.t 0 (nx - 1)=true∧HdOK x)):=Iff.rfl
   have HNO:Hid (¬ LOne nx (pn xs k) x→bOf (LsOK nx xs)=false):=fun h=>zAP fun hh=>h (hh k x hx)
   have HYS:Hid (LOne nx (pn xs k) x→∀ (j:Nat) (y:Lk),j<k+1→xs[j]?=some y→LOne nx (pn xs j) y):=fun h=>upto (P:=fun j y=>LOne nx (pn xs j) y) HK.out.1 hx h
   have HP:Hid (pn xs (k+1)=x.n):=pn_succ hx
   have HW:Hid (∀ o,Below w.heap.size w (wr.alloc o)):=fun o=>HK.out.2.trans ((zAD wr o).mono HK.out.2.size)
   -- the box and what it holds,in every later world
   have HBX:Hid (∀ W,Below (wr.alloc (.cells #[.string x.n,.int .i64 x.t,.int .i64 x.h,.int .i64 x.e,.slice ua x.ws.length uc] 95)).heap.size (wr.alloc (.cells #[.string x.n,.int .i64 x.t,.int .i64 x.h,.int .i64 x.e,.slice ua x.ws.length uc] 95)) W→W.cell? ⟨wr.heap.size,0,none⟩=some (.string x.n)∧W.cell? ⟨wr.heap.size,1,none⟩=some (.int .i64 x.t)∧W.cell? ⟨wr.heap.size,2,none⟩=some (.int .i64 x.h)∧W.cell? ⟨wr.heap.size,3,none⟩=some (.int .i64 x.e)∧W.cell? ⟨wr.heap.size,4,none⟩=some (.slice ua x.ws.length uc)∧RowW W (.slice ua x.ws.length uc) x.ws∧Below w.heap.size w W):=fun W hW=>by
    have h1:=(hW.block wr.heap.size (by simp)).trans (heap_alloc_new wr _)
    exact ⟨(zAA h1 0 rfl).1,(zAA h1 1 rfl).1,(zAA h1 2 rfl).1,(zAA h1 3 rfl).1,(zAA h1 4 rfl).1,(c5.below (zAD _ _)).below hW,(HW.out _).trans (hW.mono (HW.out _).size)⟩
   have HZ:Hid (x.n.size≤maxLen∧x.ws.length≤1048576):=by have:=HR.out.2 x (mem_at hx);exact ⟨by unfold maxLen;omega,this.2⟩
   clear hx c5
   generalize pn xs k=p at HN HNO HYS ⊢
   go_upto_region 5 with fail
   clear c0 c1 c2 c3 c4
   generalize wr.alloc (.cells #[.string x.n,.int .i64 x.t,.int .i64 x.h,.int .i64 x.e,.slice ua x.ws.length uc] 95)=wb at HBX ⊢
   obtain ⟨b0,b1,b2,b3,b4,_,g0⟩:=HBX.out wb (Below.refl _ _)
   have HG0:Hid (Below w.heap.size w wb):=g0
   clear g0
   cases h1:(Op.bytesLess x.n.toList p.toList || x.n.toList == p.toList) with
   | true =>
     have HF:Hid (bOf (LsOK nx xs)=false):=HNO.out fun h=>by have:=(HN.out.1 h).1;rw [h1] at this;cases this
     go_wp2_with fail
     go_ret
     exact ⟨zAG HF.out.symm,HG0.out⟩
   | false =>
     have h1a:Op.bytesLess x.n.toList p.toList=false:=by cases hh:Op.bytesLess x.n.toList p.toList;rfl;rw [hh] at h1;cases h1
     have h1b:(x.n.toList == p.toList)=false:=by cases hh:(x.n.toList == p.toList);rfl;rw [hh,Bool.or_true] at h1;cases h1
     -- the name's test adds to memory
     have HNM:Hid (Calls Tryz.prog 113 #[.string x.n] wb fun e w'=>e=.returned (.bool (opB x.n))∧w'.cell? ⟨wr.heap.size,0,none⟩=some (.string x.n)∧w'.cell? ⟨wr.heap.size,1,none⟩=some (.int .i64 x.t)∧w'.cell? ⟨wr.heap.size,2,none⟩=some (.int .i64 x.h)∧w'.cell? ⟨wr.heap.size,3,none⟩=some (.int .i64 x.e)∧w'.cell? ⟨wr.heap.size,4,none⟩=some (.slice ua x.ws.length uc)∧Hid (Below wb.heap.size wb w')∧Hid (Below w.heap.size w w')):=(opNameOK_any x.n wb HZ.out.1).mono fun e w' ⟨he,hb⟩=>by
      obtain ⟨q0,q1,q2,q3,q4,_,q6⟩:=HBX.out w' hb
      exact ⟨he,q0,q1,q2,q3,q4,hb,q6⟩
     have HHD:Hid (∀ w1,Below wb.heap.size wb w1→Calls Tryz.prog 114 #[.agg #[.string x.n,.int .i64 x.t,.int .i64 x.h,.int .i64 x.e,.slice ua x.ws.length uc]] w1 fun e w'=>e=.returned (.bool (bOf (HdOK x)))∧w'.cell? ⟨wr.heap.size,0,none⟩=some (.string x.n)∧Hid (Below w.heap.size w w')):=fun w1 hb1=>(holdOK_any x _ w1 (HBX.out w1 hb1).2.2.2.2.2.1 HZ.out.2).mono fun e w' ⟨he,hb⟩=>by
      obtain ⟨q0,_,_,_,_,_,q6⟩:=HBX.out w' (hb1.trans (hb.mono hb1.size))
      exact ⟨he,q0,q6⟩
     cases h2:opB x.n with
     | false =>
       have HF:Hid (bOf (LsOK nx xs)=false):=HNO.out fun h=>by have:=(HN.out.1 h).2.1;rw [h2] at this;cases this
       rw [h2] at HNM
       go_wp2_with (go_at_call 113;refine HNM.out.mono ?_;rintro e w1 ⟨rfl,r0,r1,r2,r3,r4,R5,R6⟩)
       go_ret
       exact ⟨zAG HF.out.symm,R6.out⟩
     | true =>
       rw [h2] at HNM
       cases h3:inB x.t 0 (nx - 1) with
       | false =>
         have HF:Hid (bOf (LsOK nx xs)=false):=HNO.out fun h=>by have:=(HN.out.1 h).2.2.1;rw [h3] at this;cases this
         go_wp2_with (first | (go_at_call 113;refine HNM.out.mono ?_;rintro e w1 ⟨rfl,r0,r1,r2,r3,r4,R5,R6⟩;clear b0 b1 b2 b3 b4) | (go_at_call 33;refine (zAR _ _ _ _).mono ?_;rintro e w2 ⟨rfl,rfl⟩;rw [h3]))
         go_ret
         exact ⟨zAG HF.out.symm,R6.out⟩
       | true =>
         cases h4:bOf (HdOK x) with
         | false =>
           have HF:Hid (bOf (LsOK nx xs)=false):=HNO.out fun h=>by rw [zAY (HN.out.1 h).2.2.2] at h4;cases h4
           rw [h4] at HHD
           clear h4
           go_wp2_with (first | (go_at_call 113;refine HNM.out.mono ?_;rintro e w1 ⟨rfl,r0,r1,r2,r3,r4,R5,R6⟩;clear b0 b1 b2 b3 b4) | (go_at_call 33;refine (zAR _ _ _ _).mono ?_;rintro e w2 ⟨rfl,rfl⟩;rw [h3]) | (go_at_call 114;refine (HHD.out _ R5.out).mono ?_;rintro e w3 ⟨rfl,s0,R7⟩))
           go_ret
           exact ⟨zAG HF.out.symm,R7.out⟩
         | true =>
           have HT:Hid (LOne nx p x):=HN.out.2 ⟨h1,h2,h3,Classical.byContradiction fun hn=>by rw [zAP hn] at h4;cases h4⟩
           rw [h4] at HHD
           clear h4 h1
           go_wp2_with (first | (go_at_call 113;refine HNM.out.mono ?_;rintro e w1 ⟨rfl,r0,r1,r2,r3,r4,R5,R6⟩;clear b0 b1 b2 b3 b4) | (go_at_call 33;refine (zAR _ _ _ _).mono ?_;rintro e w2 ⟨rfl,rfl⟩;rw [h3]) | (go_at_call 114;refine (HHD.out _ R5.out).mono ?_;rintro e w3 ⟨rfl,s0,R7⟩;clear r0 r1 r2 r3 r4))
           exact ⟨⟨k+1,by omega,by go_num,by rw [HP.out],⟨HYS.out HT.out,R7.out⟩⟩,by simp [intOf];omega⟩
  ·obtain rfl:k=xs.length:=by omega
   have HT:Hid (bOf (LsOK nx xs)=true):=zAY fun j y hy=>HK.out.1 j y (lt_at hy) hy
   go_wp2_with fail
   go_ret
   exact ⟨zAG HT.out.symm,HK.out.2⟩
end Go.Proofs.YtakfniknkejgpaaGreatDoor.Tp
