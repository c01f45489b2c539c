/- Texts put together: Tp2, Tq, Fc. -/
import Derived.Test.YticokpbelgpfmaaGreatMa4
import Derived.Laws.Cover1
namespace Go.Proofs.YticokpbelgpfmaaGreat.Tp
open Go.RowKit Ap Tx Tb Tw Rq
set_option maxRecDepth 100000 in
set_option maxHeartbeats 1600000 in
theorem holdOK_any (l:Lk) (u:Value) (w:World) (h:RowW w u l.ws) (hl:l.ws.length≤1048576) :
 Calls Tryz.prog 101 #[lkV l u] w fun e w'=>e=.returned (.bool (bOf (HdOK l)))∧Below w.heap.size w w':=by
 obtain ⟨a,cap,rfl⟩:=RowG.slice h
 have HD:Hid (HdOK l ↔ ((l.h = -1∧l.e=0∧l.ws.length=0) ∨ (l.h ≠ -1∧inB l.h 0 255=true∧inB l.e 0 2000000000=true∧l.ws.length≤4∧WsOK l.h l.ws))):=Iff.rfl
 have HWO:Hid (∀ o,Calls Tryz.prog 137 #[.agg #[.string l.n,.int .i64 l.t,.int .i64 l.h,.int .i64 l.e,.slice a l.ws.length cap]] (w.alloc o) fun e w'=>e=.returned (.bool (bOf (WsOK l.h l.ws)))∧Below w.heap.size w w'):=fun o =>
  (waitersOK_any l _ _ (h.below (zAD w o)) hl).mono fun e w' ⟨he,hb⟩=>⟨he,(zAD w o).trans (hb.mono (zAD w o).size)⟩
 clear h
 unfold lkV
 by_cases h0:l.h = -1
 ·have h0':(l.h == -1)=true:=by simpa using h0
  by_cases he:l.e=0
  ·have he':(l.e == 0)=true:=by simpa using he
   by_cases hn:l.ws.length=0
   ·have hn':((l.ws.length:Int) == 0)=true:=by simpa using hn
    have HF:Hid (bOf (HdOK l)=true):=zAW (HD.out.2 (.inl ⟨h0,he,hn⟩))
    clear h0 he hn hl
    go_enter Tryz.func101,Tryz.ntmps101
    go_wp2_with fail
    go_ret
    exact ⟨zAH HF.out.symm,zAD _ _⟩
   ·have hn':((l.ws.length:Int) == 0)=false:=by simpa using hn
    have HF:Hid (bOf (HdOK l)=false):=zAM fun h=>by rcases HD.out.1 h with h | h;exact hn h.2.2;exact h.1 h0
    clear h0 he hn hl
    go_enter Tryz.func101,Tryz.ntmps101
    go_wp2_with fail
    go_ret
    exact ⟨zAH HF.out.symm,zAD _ _⟩
  ·have he':(l.e == 0)=false:=by simpa using he
   have HF:Hid (bOf (HdOK l)=false):=zAM fun h=>by rcases HD.out.1 h with h | h;exact he h.2.1;exact h.1 h0
   clear h0 he hl
   go_enter Tryz.func101,Tryz.ntmps101
   go_wp2_with fail
   go_ret
   exact ⟨zAH HF.out.symm,zAD _ _⟩
 ·have h0':(l.h == -1)=false:=by simpa using h0
  have HD2:Hid (HdOK l ↔ (inB l.h 0 255=true∧inB l.e 0 2000000000=true∧l.ws.length≤4∧WsOK l.h l.ws)):=⟨fun h=>by rcases HD.out.1 h with h | h;exact absurd h.1 h0;exact h.2,fun h=>HD.out.2 (.inr ⟨h0,h⟩)⟩
  clear HD h0
  cases h1:inB l.h 0 255 with
  | false =>
    have HF:Hid (bOf (HdOK l)=false):=zAM fun h=>by have:=(HD2.out.1 h).1;rw [h1] at this;cases this
    clear hl
    go_enter Tryz.func101,Tryz.ntmps101
    go_wp2_with (go_at_call 60;refine (zAO _ _ _ _).mono ?_;rintro e w1 ⟨rfl,rfl⟩;rw [h1])
    go_ret
    exact ⟨zAH HF.out.symm,zAD _ _⟩
  | true =>
    cases h2:inB l.e 0 2000000000 with
    | false =>
      have HF:Hid (bOf (HdOK l)=false):=zAM fun h=>by have:=(HD2.out.1 h).2.1;rw [h2] at this;cases this
      clear hl
      go_enter Tryz.func101,Tryz.ntmps101
      go_wp2_with (go_at_call 60;refine (zAO _ _ _ _).mono ?_;rintro e w1 ⟨rfl,rfl⟩;first | rw [h1] | rw [h2])
      go_ret
      exact ⟨zAH HF.out.symm,zAD _ _⟩
    | true =>
      by_cases h3:l.ws.length≤4
      ·have h3':(l.ws.length:Int)≤4:=by omega
       have HF:Hid (bOf (HdOK l)=bOf (WsOK l.h l.ws)):=by
        show _=_
        by_cases hw:WsOK l.h l.ws
        ·rw [zAW hw,zAW (HD2.out.2 ⟨h1,h2,h3,hw⟩)]
        ·rw [zAM hw,zAM fun h=>hw (HD2.out.1 h).2.2.2]
       clear hl
       generalize bOf (WsOK l.h l.ws)=bb at HWO HF
       go_enter Tryz.func101,Tryz.ntmps101
       go_wp2_with (first | (go_at_call 60;refine (zAO _ _ _ _).mono ?_;rintro e w1 ⟨rfl,rfl⟩;first | rw [h1] | rw [h2]) | (go_at_call 137;refine (HWO.out _).mono ?_;rintro e w2 ⟨rfl,g2⟩))
       go_ret
       exact ⟨zAH HF.out.symm,g2⟩
      ·have h3':¬ (l.ws.length:Int)≤4:=by omega
       have h3'':decide ((l.ws.length:Int)≤4)=false:=decide_eq_false h3'
       have HF:Hid (bOf (HdOK l)=false):=zAM fun h=>h3 (HD2.out.1 h).2.2.1
       clear hl h3
       go_enter Tryz.func101,Tryz.ntmps101
       go_wp2_with (go_at_call 60;refine (zAO _ _ _ _).mono ?_;rintro e w1 ⟨rfl,rfl⟩;first | rw [h1] | rw [h2])
       go_ret
       exact ⟨zAH HF.out.symm,zAD _ _⟩
set_option maxRecDepth 100000 in
set_option maxHeartbeats 1600000 in
theorem answerOK_any (k t h e0:Int) (w:World) :
 Calls Tryz.prog 138 #[.agg #[.int .i64 k,.int .i64 t,.int .i64 h,.int .i64 e0]] w fun e w'=>e=.returned (.bool (bOf (zBD k t h e0)))∧Below w.heap.size w w':=by
 cases h1:inB k 1 8 with
 | false =>
   have HF:Hid (bOf (zBD k t h e0)=false):=zAM fun h=>by have:=(h.1);rw [h1] at this;cases this
   go_enter Tryz.func138,Tryz.ntmps138
   go_wp2_with (go_at_call 60;refine (zAO _ _ _ _).mono ?_;rintro e w1 ⟨rfl,rfl⟩;rw [h1])
   go_ret
   exact ⟨zAH HF.out.symm,zAD _ _⟩
 | true =>
   cases h2:inB t 0 1000000 with
   | false =>
     have HF:Hid (bOf (zBD k t h e0)=false):=zAM fun h=>by have:=(h.2.1);rw [h2] at this;cases this
     go_enter Tryz.func138,Tryz.ntmps138
     go_wp2_with (go_at_call 60;refine (zAO _ _ _ _).mono ?_;rintro e w1 ⟨rfl,rfl⟩;first | rw [h1] | rw [h2])
     go_ret
     exact ⟨zAH HF.out.symm,zAD _ _⟩
   | true =>
     cases h3:inB h (-1) 255 with
     | false =>
       have HF:Hid (bOf (zBD k t h e0)=false):=zAM fun h=>by have:=(h.2.2.1);rw [h3] at this;cases this
       go_enter Tryz.func138,Tryz.ntmps138
       go_wp2_with (go_at_call 60;refine (zAO _ _ _ _).mono ?_;rintro e w1 ⟨rfl,rfl⟩;first | rw [h1] | rw [h2] | rw [h3])
       go_ret
       exact ⟨zAH HF.out.symm,zAD _ _⟩
     | true =>
       cases h4:inB e0 0 2000000000 with
       | false =>
         have HF:Hid (bOf (zBD k t h e0)=false):=zAM fun h=>by have:=(h.2.2.2);rw [h4] at this;cases this
         go_enter Tryz.func138,Tryz.ntmps138
         go_wp2_with (go_at_call 60;refine (zAO _ _ _ _).mono ?_;rintro e w1 ⟨rfl,rfl⟩;first | rw [h1] | rw [h2] | rw [h3] | rw [h4])
         go_ret
         exact ⟨zAH HF.out.symm,zAD _ _⟩
       | true =>
         have HF:Hid (bOf (zBD k t h e0)=true):=zAW ⟨h1,h2,h3,h4⟩
         go_enter Tryz.func138,Tryz.ntmps138
         go_wp2_with (go_at_call 60;refine (zAO _ _ _ _).mono ?_;rintro e w1 ⟨rfl,rfl⟩;first | rw [h1] | rw [h2] | rw [h3] | rw [h4])
         go_ret
         exact ⟨zAH HF.out.symm,zAD _ _⟩
set_option maxRecDepth 100000 in
set_option maxHeartbeats 1600000 in
theorem zAa (k t h e0:Int) (w:World) :
 Calls Tryz.prog 112 #[.agg #[.int .i64 k,.int .i64 t,.int .i64 h,.int .i64 e0]] w fun e w'=>e=.returned (.bool (bOf (zBD k t h e0)))∧Below w.heap.size w w':=by
 cases h1:inB k 1 8 with
 | false =>
   have HF:Hid (bOf (zBD k t h e0)=false):=zAM fun h=>by have:=(h.1);rw [h1] at this;cases this
   go_enter Tryz.func112,Tryz.ntmps112
   go_wp2_with (go_at_call 56;refine (zAY _ _ _ _).mono ?_;rintro e w1 ⟨rfl,rfl⟩;rw [h1])
   go_ret
   exact ⟨zAH HF.out.symm,zAD _ _⟩
 | true =>
   cases h2:inB t 0 1000000 with
   | false =>
     have HF:Hid (bOf (zBD k t h e0)=false):=zAM fun h=>by have:=(h.2.1);rw [h2] at this;cases this
     go_enter Tryz.func112,Tryz.ntmps112
     go_wp2_with (go_at_call 56;refine (zAY _ _ _ _).mono ?_;rintro e w1 ⟨rfl,rfl⟩;first | rw [h1] | rw [h2])
     go_ret
     exact ⟨zAH HF.out.symm,zAD _ _⟩
   | true =>
     cases h3:inB h (-1) 255 with
     | false =>
       have HF:Hid (bOf (zBD k t h e0)=false):=zAM fun h=>by have:=(h.2.2.1);rw [h3] at this;cases this
       go_enter Tryz.func112,Tryz.ntmps112
       go_wp2_with (go_at_call 56;refine (zAY _ _ _ _).mono ?_;rintro e w1 ⟨rfl,rfl⟩;first | rw [h1] | rw [h2] | rw [h3])
       go_ret
       exact ⟨zAH HF.out.symm,zAD _ _⟩
     | true =>
       cases h4:inB e0 0 2000000000 with
       | false =>
         have HF:Hid (bOf (zBD k t h e0)=false):=zAM fun h=>by have:=(h.2.2.2);rw [h4] at this;cases this
         go_enter Tryz.func112,Tryz.ntmps112
         go_wp2_with (go_at_call 56;refine (zAY _ _ _ _).mono ?_;rintro e w1 ⟨rfl,rfl⟩;first | rw [h1] | rw [h2] | rw [h3] | rw [h4])
         go_ret
         exact ⟨zAH HF.out.symm,zAD _ _⟩
       | true =>
         have HF:Hid (bOf (zBD k t h e0)=true):=zAW ⟨h1,h2,h3,h4⟩
         go_enter Tryz.func112,Tryz.ntmps112
         go_wp2_with (go_at_call 56;refine (zAY _ _ _ _).mono ?_;rintro e w1 ⟨rfl,rfl⟩;first | rw [h1] | rw [h2] | rw [h3] | rw [h4])
         go_ret
         exact ⟨zAH HF.out.symm,zAD _ _⟩
theorem pc_ge {xs:List Sn}:∀ {k:Nat},(∀ (j:Nat) (y:Sn),j<k→xs[j]?=some y→SOne (pc xs j) y)→k≤xs.length→0≤pc xs k
 | 0,_,_=>by unfold pc;simp
 | k+1,h,hk=>by
   obtain ⟨x,hx⟩:=Tw.get_at (xs:=xs) (k:=k) (by omega)
   have ih:=pc_ge (k:=k) (fun j y hj hy=>h j y (by omega) hy) (by omega)
   have:=(zAQ (h k x (by omega) hx).1).1
   rw [pc_succ hx]
   omega
def SnOK (x:Sn):Prop:=inB x.c 0 255=true∧inB x.s 1 65535=true∧zBD x.k x.t x.h x.e
theorem sone_iff {p:Int} {x:Sn} (h:0≤p):SOne p x ↔ (¬ x.c<p∧SnOK x):=by
 unfold SOne SnOK
 have e:inB x.c p 255=true ↔ (¬ x.c<p∧inB x.c 0 255=true):=by
  unfold inB
  simp
  omega
 rw [e,and_assoc]
set_option maxRecDepth 100000 in
set_option maxHeartbeats 1600000 in
theorem seenOK_any (x:Sn) (w:World) :
 Calls Tryz.prog 102 #[snV x] w fun e w'=>e=.returned (.bool (bOf (SnOK x)))∧Below w.heap.size w w':=by
 unfold snV
 cases h1:inB x.c 0 255 with
 | false =>
   have HF:Hid (bOf (SnOK x)=false):=zAM fun h=>by have:=h.1;rw [h1] at this;cases this
   go_enter Tryz.func102,Tryz.ntmps102
   go_wp2_with (go_at_call 60;refine (zAO _ _ _ _).mono ?_;rintro e w1 ⟨rfl,rfl⟩;rw [h1])
   go_ret
   exact ⟨zAH HF.out.symm,zAD _ _⟩
 | true =>
   cases h2:inB x.s 1 65535 with
   | false =>
     have HF:Hid (bOf (SnOK x)=false):=zAM fun h=>by have:=h.2.1;rw [h2] at this;cases this
     go_enter Tryz.func102,Tryz.ntmps102
     go_wp2_with (go_at_call 60;refine (zAO _ _ _ _).mono ?_;rintro e w1 ⟨rfl,rfl⟩;first | rw [h1] | rw [h2])
     go_ret
     exact ⟨zAH HF.out.symm,zAD _ _⟩
   | true =>
     have HF:Hid (bOf (SnOK x)=bOf (zBD x.k x.t x.h x.e)):=by
      show _=_
      by_cases h:zBD x.k x.t x.h x.e
      ·rw [zAW h,zAW (show SnOK x from ⟨h1,h2,h⟩)]
      ·rw [zAM h,zAM (fun g:SnOK x=>h g.2.2)]
     go_enter Tryz.func102,Tryz.ntmps102
     go_wp2_with (first | (go_at_call 60;refine (zAO _ _ _ _).mono ?_;rintro e w1 ⟨rfl,rfl⟩;first | rw [h1] | rw [h2]) | (go_at_call 138;refine (answerOK_any _ _ _ _ _).mono ?_;rintro e w2 ⟨rfl,b2⟩))
     go_ret
     exact ⟨zAH HF.out.symm,(zAD _ _).trans (b2.mono (zAD _ _).size)⟩
set_option maxRecDepth 100000 in
set_option maxHeartbeats 1600000 in
theorem seensOK_any (v:Value) (xs:List Sn) (w:World) (h:RowS w v xs) (hl:xs.length≤1048576) :
 Calls Tryz.prog 62 #[v] w fun e w'=>e=.returned (.bool (bOf (SsOK xs)))∧Below w.heap.size w w':=by
 have HR:Hid (RowS w v xs):=h
 obtain ⟨a,cap,rfl⟩:=RowG.slice h
 clear h
 go_enter Tryz.func62,Tryz.ntmps62
 go_wp2_with fail
 go_loopw [3,8] (fun p i wr=>∃ k:Nat,k≤xs.length∧i=.int .i64 k∧p=.int .i64 (pc xs k)∧Hid ((∀ (j:Nat) (y:Sn),j<k→xs[j]?=some y→SOne (pc xs j) y)∧Below w.heap.size w wr)) (fun _ i _=>xs.length - (intOf i).toNat)
 case atStart=>exact ⟨0,by omega,rfl,rfl,⟨fun j y hj=>by omega,Below.refl _ _⟩⟩
 case round =>
  obtain ⟨k,hk,rfl,rfl,HK⟩:=hrel
  by_cases hlt:k<xs.length
  ·obtain ⟨x,hx⟩:=Tw.get_at hlt
   obtain ⟨b,off,rfl,hbl,c0,c1,c2,c3,c4,c5⟩:=RowG.at (HR.out.below HK.out.2) rfl hx
   have HN:Hid (SOne (pc xs k) x ↔ (¬ x.c<pc xs k∧SnOK x)):=sone_iff (pc_ge HK.out.1 (by omega))
   have HNO:Hid (¬ SOne (pc xs k) x→bOf (SsOK xs)=false):=fun h=>zAM fun hh=>h (hh k x hx)
   have HYS:Hid (SOne (pc xs k) x→∀ (j:Nat) (y:Sn),j<k+1→xs[j]?=some y→SOne (pc xs j) y):=fun h=>upto (P:=fun j y=>SOne (pc xs j) y) HK.out.1 hx h
   have HP:Hid (pc xs (k+1)=x.c+1):=pc_succ hx
   have HW:Hid (∀ o,Below w.heap.size w (wr.alloc o)):=fun o=>HK.out.2.trans ((zAD wr o).mono HK.out.2.size)
   have HSN:Hid (∀ o,Calls Tryz.prog 102 #[.agg #[.int .i64 x.c,.int .i64 x.s,.int .i64 x.k,.int .i64 x.t,.int .i64 x.h,.int .i64 x.e]] (wr.alloc o) fun e w'=>e=.returned (.bool (bOf (SnOK x)))∧(∀ i,w'.cell? ⟨wr.heap.size,i,none⟩=(wr.alloc o).cell? ⟨wr.heap.size,i,none⟩)∧Below w.heap.size w w'):=fun o =>
    (seenOK_any x _).mono fun e w' ⟨he,hb⟩=>⟨he,fun i=>hb.cell (p:=⟨wr.heap.size,i,none⟩) (by rw [zAL];exact Nat.lt_succ_self _),(HW.out o).trans (hb.mono (HW.out o).size)⟩
   clear hx
   generalize pc xs k=p at HN HNO HYS ⊢
   by_cases h1:x.c<p
   ·have HF:Hid (bOf (SsOK xs)=false):=HNO.out fun h=>(HN.out.1 h).1 h1
    go_wp2_with fail
    go_ret
    exact ⟨zAH HF.out.symm,HW.out _⟩
   ·cases h3:bOf (SnOK x) with
    | false =>
      have HF:Hid (bOf (SsOK xs)=false):=HNO.out fun h=>by rw [zAW (HN.out.1 h).2] at h3;cases h3
      rw [h3] at HSN
      clear h3
      go_wp2_with (go_at_call 102;refine (HSN.out _).mono ?_;rintro e w2 ⟨rfl,_,g2⟩)
      go_ret
      exact ⟨zAH HF.out.symm,g2⟩
    | true =>
      have hs:SnOK x:=Classical.byContradiction fun hn=>by rw [zAM hn] at h3;cases h3
      have HT:Hid (SOne p x):=HN.out.2 ⟨h1,hs⟩
      have hb1:0≤x.c∧x.c≤255:=zAQ hs.1
      rw [h3] at HSN
      clear h3 hs
      go_wp2_with (go_at_call 102;refine (HSN.out _).mono ?_;rintro e w2 ⟨rfl,q2,g2⟩;have q20:=q2 0)
      exact ⟨⟨k+1,by omega,by go_num,by rw [HP.out],⟨HYS.out HT.out,g2⟩⟩,by simp [intOf];omega⟩
  ·obtain rfl:k=xs.length:=by omega
   have HT:Hid (bOf (SsOK xs)=true):=zAW fun j y hy=>HK.out.1 j y (zAw hy) hy
   go_wp2_with fail
   go_ret
   exact ⟨zAH HT.out.symm,HK.out.2⟩
set_option maxRecDepth 100000 in
set_option maxHeartbeats 1600000 in
theorem locksOK_any (v:Value) (xs:List Lk) (nx:Int) (w:World) (h:RowL w v xs) (hl:xs.length≤1048576) (hw:∀ x ∈ xs,x.n.size≤1048576∧x.ws.length≤1048576) (hn1:1≤nx) (hn2:nx≤1000000) :
 Calls Tryz.prog 61 #[v,.int .i64 nx] w fun e w'=>e=.returned (.bool (bOf (LsOK nx xs)))∧Below w.heap.size w w':=by
 have HR:Hid (RowL w v xs∧∀ x ∈ xs,x.n.size≤1048576∧x.ws.length≤1048576):=⟨h,hw⟩
 obtain ⟨a,cap,rfl⟩:=RowG.slice h
 clear h hw
 go_enter Tryz.func61,Tryz.ntmps61
 go_wp2_with fail
 go_loopw [5,10] (fun p i wr=>∃ k:Nat,k≤xs.length∧i=.int .i64 k∧p=.string (pn xs k)∧Hid ((∀ (j:Nat) (y:Lk),j<k→xs[j]?=some y→LOne nx (pn xs j) y)∧Below w.heap.size w wr)) (fun _ i _=>xs.length - (intOf i).toNat)
 case atStart=>exact ⟨0,by omega,rfl,rfl,⟨fun j y hj=>by omega,Below.refl _ _⟩⟩
 case round =>
  obtain ⟨k,hk,rfl,rfl,HK⟩:=hrel
  by_cases hlt:k<xs.length
  ·obtain ⟨x,hx⟩:=Tw.get_at hlt
   obtain ⟨b,off,rfl,hbl,u,c0,c1,c2,c3,c4,c5⟩:=RowG.at (HR.out.1.below HK.out.2) rfl hx
   obtain ⟨ua,uc,rfl⟩:=RowG.slice c5
   have HN:Hid (LOne nx (pn xs k) x ↔ ((Op.bytesLess x.n.toList (pn xs k).toList || x.n.toList == (pn xs k).toList)=false∧opB x.n=true∧inB x.t 0 (nx - 1)=true∧HdOK x)):=Iff.rfl
   have HNO:Hid (¬ LOne nx (pn xs k) x→bOf (LsOK nx xs)=false):=fun h=>zAM fun hh=>h (hh k x hx)
   have HYS:Hid (LOne nx (pn xs k) x→∀ (j:Nat) (y:Lk),j<k+1→xs[j]?=some y→LOne nx (pn xs j) y):=fun h=>upto (P:=fun j y=>LOne nx (pn xs j) y) HK.out.1 hx h
   have HP:Hid (pn xs (k+1)=x.n):=pn_succ hx
   have HW:Hid (∀ o,Below w.heap.size w (wr.alloc o)):=fun o=>HK.out.2.trans ((zAD wr o).mono HK.out.2.size)
   -- the box and what it holds,in every later world
   have HBX:Hid (∀ W,Below (wr.alloc (.cells #[.string x.n,.int .i64 x.t,.int .i64 x.h,.int .i64 x.e,.slice ua x.ws.length uc] 45)).heap.size (wr.alloc (.cells #[.string x.n,.int .i64 x.t,.int .i64 x.h,.int .i64 x.e,.slice ua x.ws.length uc] 45)) W→W.cell? ⟨wr.heap.size,0,none⟩=some (.string x.n)∧W.cell? ⟨wr.heap.size,1,none⟩=some (.int .i64 x.t)∧W.cell? ⟨wr.heap.size,2,none⟩=some (.int .i64 x.h)∧W.cell? ⟨wr.heap.size,3,none⟩=some (.int .i64 x.e)∧W.cell? ⟨wr.heap.size,4,none⟩=some (.slice ua x.ws.length uc)∧RowW W (.slice ua x.ws.length uc) x.ws∧Below w.heap.size w W):=fun W hW=>by
    have h1:=(hW.block wr.heap.size (by simp)).trans (heap_alloc_new wr _)
    exact ⟨(zAA h1 0 rfl).1,(zAA h1 1 rfl).1,(zAA h1 2 rfl).1,(zAA h1 3 rfl).1,(zAA h1 4 rfl).1,(c5.below (zAD _ _)).below hW,(HW.out _).trans (hW.mono (HW.out _).size)⟩
   have HZ:Hid (x.n.size≤maxLen∧x.ws.length≤1048576):=by have:=HR.out.2 x (zAp hx);exact ⟨by unfold maxLen;omega,this.2⟩
   clear hx c5
   generalize pn xs k=p at HN HNO HYS ⊢
   go_upto_region 5 with fail
   clear c0 c1 c2 c3 c4
   generalize wr.alloc (.cells #[.string x.n,.int .i64 x.t,.int .i64 x.h,.int .i64 x.e,.slice ua x.ws.length uc] 45)=wb at HBX ⊢
   obtain ⟨b0,b1,b2,b3,b4,_,g0⟩:=HBX.out wb (Below.refl _ _)
   have HG0:Hid (Below w.heap.size w wb):=g0
   clear g0
   cases h1:(Op.bytesLess x.n.toList p.toList || x.n.toList == p.toList) with
   | true =>
     have HF:Hid (bOf (LsOK nx xs)=false):=HNO.out fun h=>by have:=(HN.out.1 h).1;rw [h1] at this;cases this
     go_wp2_with fail
     go_ret
     exact ⟨zAH HF.out.symm,HG0.out⟩
   | false =>
     have h1a:Op.bytesLess x.n.toList p.toList=false:=by cases hh:Op.bytesLess x.n.toList p.toList;rfl;rw [hh] at h1;cases h1
     have h1b:(x.n.toList == p.toList)=false:=by cases hh:(x.n.toList == p.toList);rfl;rw [hh,Bool.or_true] at h1;cases h1
     -- the name's test adds to memory
     have HNM:Hid (Calls Tryz.prog 100 #[.string x.n] wb fun e w'=>e=.returned (.bool (opB x.n))∧w'.cell? ⟨wr.heap.size,0,none⟩=some (.string x.n)∧w'.cell? ⟨wr.heap.size,1,none⟩=some (.int .i64 x.t)∧w'.cell? ⟨wr.heap.size,2,none⟩=some (.int .i64 x.h)∧w'.cell? ⟨wr.heap.size,3,none⟩=some (.int .i64 x.e)∧w'.cell? ⟨wr.heap.size,4,none⟩=some (.slice ua x.ws.length uc)∧Hid (Below wb.heap.size wb w')∧Hid (Below w.heap.size w w')):=(opNameOK_any x.n wb HZ.out.1).mono fun e w' ⟨he,hb⟩=>by
      obtain ⟨q0,q1,q2,q3,q4,_,q6⟩:=HBX.out w' hb
      exact ⟨he,q0,q1,q2,q3,q4,hb,q6⟩
     have HHD:Hid (∀ w1,Below wb.heap.size wb w1→Calls Tryz.prog 101 #[.agg #[.string x.n,.int .i64 x.t,.int .i64 x.h,.int .i64 x.e,.slice ua x.ws.length uc]] w1 fun e w'=>e=.returned (.bool (bOf (HdOK x)))∧w'.cell? ⟨wr.heap.size,0,none⟩=some (.string x.n)∧Hid (Below w.heap.size w w')):=fun w1 hb1=>(holdOK_any x _ w1 (HBX.out w1 hb1).2.2.2.2.2.1 HZ.out.2).mono fun e w' ⟨he,hb⟩=>by
      obtain ⟨q0,_,_,_,_,_,q6⟩:=HBX.out w' (hb1.trans (hb.mono hb1.size))
      exact ⟨he,q0,q6⟩
     cases h2:opB x.n with
     | false =>
       have HF:Hid (bOf (LsOK nx xs)=false):=HNO.out fun h=>by have:=(HN.out.1 h).2.1;rw [h2] at this;cases this
       rw [h2] at HNM
       go_wp2_with (go_at_call 100;refine HNM.out.mono ?_;rintro e w1 ⟨rfl,r0,r1,r2,r3,r4,R5,R6⟩)
       go_ret
       exact ⟨zAH HF.out.symm,R6.out⟩
     | true =>
       rw [h2] at HNM
       cases h3:inB x.t 0 (nx - 1) with
       | false =>
         have HF:Hid (bOf (LsOK nx xs)=false):=HNO.out fun h=>by have:=(HN.out.1 h).2.2.1;rw [h3] at this;cases this
         go_wp2_with (first | (go_at_call 100;refine HNM.out.mono ?_;rintro e w1 ⟨rfl,r0,r1,r2,r3,r4,R5,R6⟩;clear b0 b1 b2 b3 b4) | (go_at_call 60;refine (zAO _ _ _ _).mono ?_;rintro e w2 ⟨rfl,rfl⟩;rw [h3]))
         go_ret
         exact ⟨zAH HF.out.symm,R6.out⟩
       | true =>
         cases h4:bOf (HdOK x) with
         | false =>
           have HF:Hid (bOf (LsOK nx xs)=false):=HNO.out fun h=>by rw [zAW (HN.out.1 h).2.2.2] at h4;cases h4
           rw [h4] at HHD
           clear h4
           go_wp2_with (first | (go_at_call 100;refine HNM.out.mono ?_;rintro e w1 ⟨rfl,r0,r1,r2,r3,r4,R5,R6⟩;clear b0 b1 b2 b3 b4) | (go_at_call 60;refine (zAO _ _ _ _).mono ?_;rintro e w2 ⟨rfl,rfl⟩;rw [h3]) | (go_at_call 101;refine (HHD.out _ R5.out).mono ?_;rintro e w3 ⟨rfl,s0,R7⟩))
           go_ret
           exact ⟨zAH HF.out.symm,R7.out⟩
         | true =>
           have HT:Hid (LOne nx p x):=HN.out.2 ⟨h1,h2,h3,Classical.byContradiction fun hn=>by rw [zAM hn] at h4;cases h4⟩
           rw [h4] at HHD
           clear h4 h1
           go_wp2_with (first | (go_at_call 100;refine HNM.out.mono ?_;rintro e w1 ⟨rfl,r0,r1,r2,r3,r4,R5,R6⟩;clear b0 b1 b2 b3 b4) | (go_at_call 60;refine (zAO _ _ _ _).mono ?_;rintro e w2 ⟨rfl,rfl⟩;rw [h3]) | (go_at_call 101;refine (HHD.out _ R5.out).mono ?_;rintro e w3 ⟨rfl,s0,R7⟩;clear r0 r1 r2 r3 r4))
           exact ⟨⟨k+1,by omega,by go_num,by rw [HP.out],⟨HYS.out HT.out,R7.out⟩⟩,by simp [intOf];omega⟩
  ·obtain rfl:k=xs.length:=by omega
   have HT:Hid (bOf (LsOK nx xs)=true):=zAW fun j y hy=>HK.out.1 j y (zAw hy) hy
   go_wp2_with fail
   go_ret
   exact ⟨zAH HT.out.symm,HK.out.2⟩
end Go.Proofs.YticokpbelgpfmaaGreat.Tp
namespace Go.Proofs.YticokpbelgpfmaaGreat.Tq
open Go.RowKit Ap Tx Tb Tw Rq Tp
theorem zAV (x a b:Int) (w:World):Calls Tryz.prog 56 #[.int .i64 x,.int .i64 a,.int .i64 b] w fun e w'=>e=.returned (.bool (inB x a b))∧w=w':=(zAY x a b w).mono fun _ _ ⟨h1,h2⟩=>⟨h1,h2.symm⟩
theorem zAk (n:ByteArray) (w:World) (hs:n.size≤maxLen):Calls Tryz.prog 96 #[.string n,.int .i64 12] w fun e w'=>e=.returned (.bool (opB n))∧w=w':=(zBb n w hs).mono fun _ _ ⟨h1,h2⟩=>⟨h1,h2.symm⟩
theorem zBO:∀ (a b:List UInt8),Op.bytesLess a b = !(Op.bytesLess b a || b == a)
 | [],[]=>rfl
 | [],_ :: _=>by simp [Op.bytesLess]
 | _ :: _,[]=>by simp [Op.bytesLess]
 | a :: x,b :: y=>by
   have ih:=zBO x y
   rw [Op.bytesLess,Op.bytesLess,ih]
   have hc:(b :: y == a :: x)=(b == a && y == x):=rfl
   rw [hc]
   rcases Nat.lt_trichotomy a.toNat b.toNat with h | h | h
   ·have e1:decide (a<b)=true:=decide_eq_true (UInt8.lt_iff_toNat_lt.2 h)
    have e2:decide (b<a)=false:=decide_eq_false (fun hh=>by have:=UInt8.lt_iff_toNat_lt.1 hh;omega)
    have e3:(b == a)=false:=beq_eq_false_iff_ne.2 (fun hh=>by rw [hh] at h;omega)
    rw [e1,e2,e3]
    rfl
   ·have e:a=b:=UInt8.toNat_inj.1 h
    subst e
    have e1:decide (a<a)=false:=decide_eq_false (fun hh=>by have:=UInt8.lt_iff_toNat_lt.1 hh;omega)
    rw [e1,beq_self_eq_true]
    cases Op.bytesLess y x <;> cases (y == x) <;> rfl
   ·have e1:decide (a<b)=false:=decide_eq_false (fun hh=>by have:=UInt8.lt_iff_toNat_lt.1 hh;omega)
    have e2:decide (b<a)=true:=decide_eq_true (UInt8.lt_iff_toNat_lt.2 h)
    have e3:(a == b)=false:=beq_eq_false_iff_ne.2 (fun hh=>by rw [hh] at h;omega)
    rw [e1,e2,e3]
    rfl
theorem op_some {n:ByteArray} (h:opB n=true):(n.toList == ([]:List UInt8))=false:=by
 unfold opB Nm.zBH at h
 simp only [Bool.and_eq_true,decide_eq_true_eq] at h
 cases hh:n.toList with
 | nil =>
   have:=h.2.1
   have hl:n.toList.length=n.size:=by rw [Lib.toList_data,Array.length_toList];rfl
   rw [hh] at hl
   simp at hl
   omega
 | cons a l=>rfl
theorem hd_iff (x:Lk):HdOK x ↔ (inB x.h (-1) 255=true∧inB x.e 0 2000000000=true∧x.ws.length≤4∧(x.h<0→x.e=0∧x.ws.length=0)∧WsOK x.h x.ws):=by
 unfold HdOK inB
 simp only [decide_eq_true_eq]
 constructor
 ·rintro (⟨h1,h2,h3⟩ | ⟨h1,h2,h3,h4,h5⟩)
  ·refine ⟨by omega,by omega,by omega,fun _=>⟨h2,h3⟩,fun k y hy=>?_⟩
   rw [List.length_eq_zero_iff.1 h3] at hy
   simp at hy
  ·exact ⟨by omega,by omega,h4,fun h=>by omega,h5⟩
 ·rintro ⟨h1,h2,h3,h4,h5⟩
  by_cases h:x.h = -1
  ·exact .inl ⟨h,(h4 (by omega)).1,(h4 (by omega)).2⟩
  ·exact .inr ⟨h,by omega,by omega,h3,h5⟩
theorem bel_n {B:Nat} {w0 w:World} (h:Below B w0 w) {n:Nat}:Below B w0 (w.drewN n):=⟨h.os,h.tape,h.output,h.size,h.block⟩
def Asks (nx:Int) (ls:List Lk) (k:Nat) (x:Lk):Prop:=opB x.n=true∧(0<k→Op.bytesLess (pn ls k).toList x.n.toList=true)∧inB x.t 0 (nx - 1)=true∧inB x.h (-1) 255=true∧inB x.e 0 2000000000=true∧x.ws.length≤4∧(x.h<0→x.e=0∧x.ws.length=0)∧WsOK x.h x.ws
theorem one_iff (nx:Int) (ls:List Lk) (k:Nat) (x:Lk):LOne nx (pn ls k) x ↔ Asks nx ls k x:=by
 unfold LOne Asks
 rw [hd_iff]
 have hless:opB x.n=true→((Op.bytesLess x.n.toList (pn ls k).toList || x.n.toList == (pn ls k).toList)=false ↔ (0<k→Op.bytesLess (pn ls k).toList x.n.toList=true)):=fun ho=>by
  rw [zBO (pn ls k).toList x.n.toList]
  by_cases hk:k=0
  ·subst hk
   have e0:(pn ls 0).toList=[]:=by unfold pn;rw [if_pos rfl,Lib.toList_data]
   rw [e0,op_some ho]
   have:Op.bytesLess x.n.toList []=false:=by cases x.n.toList <;> rfl
   rw [this]
   simp
  ·constructor
   ·intro h _
    rw [h];rfl
   ·intro h
    have:=h (by omega)
    cases hh:(Op.bytesLess x.n.toList (pn ls k).toList || x.n.toList == (pn ls k).toList) with
    | false=>rfl
    | true=>rw [hh] at this;cases this
 constructor
 ·rintro ⟨h1,h2,h3,h4,h5,h6,h7,h8⟩
  exact ⟨h2,(hless h2).1 h1,h3,h4,h5,h6,h7,h8⟩
 ·rintro ⟨h1,h2,h3,h4,h5,h6,h7,h8⟩
  exact ⟨(hless h1).2 h2,h1,h3,h4,h5,h6,h7,h8⟩
theorem seen_iff {ss:List Sn} {k:Nat} {x p:Sn} (h:∀ (j:Nat) (y:Sn),j<k+1→ss[j]?=some y→SOne (pc ss j) y) (hp:ss[k]?=some p) :
 SOne (pc ss (k+1)) x ↔ (inB x.c 0 255=true∧inB x.s 1 65535=true∧zBD x.k x.t x.h x.e∧p.c<x.c):=by
 have h0:=pc_ge (k:=k) (fun j y hj hy=>h j y (by omega) hy) (Nat.le_of_lt (zAw hp))
 have h1:=(zAQ (h k p (by omega) hp).1).1
 rw [pc_succ hp]
 unfold SOne inB
 simp only [decide_eq_true_eq]
 constructor
 ·rintro ⟨⟨a,b⟩,c,d⟩
  exact ⟨⟨by omega,b⟩,c,d,by omega⟩
 ·rintro ⟨⟨a,b⟩,c,d,e⟩
  exact ⟨⟨by omega,b⟩,c,d⟩
set_option maxRecDepth 100000 in
set_option maxHeartbeats 6400000 in
theorem zBF (tm nx:Int) (vl vs:Value) (ls:List Lk) (ss:List Sn) (w:World) (hl:RowL w vl ls) (hs:RowS w vs ss) (hw:∀ x ∈ ls,x.n.size≤1048576∧x.ws.length≤1048576) (hy1:ls.length≤1048576) (hy2:ss.length≤1048576) :
 Calls Tryz.prog 76 #[tabV tm nx vl vs] w fun e w'=>e=.returned (.bool (bOf (TOK ⟨tm,nx,ls,ss⟩)))∧Below w.heap.size w w':=by
 obtain ⟨la,lc,rfl⟩:=RowG.slice hl
 obtain ⟨sa,sc,rfl⟩:=RowG.slice hs
 have HTK:Hid (TOK ⟨tm,nx,ls,ss⟩ ↔ (inB tm 0 1000000000=true∧inB nx 1 1000000=true∧ls.length≤4∧LsOK nx ls∧ss.length≤6∧SsOK ss)):=Iff.rfl
 have HWZ:Hid (∀ x ∈ ls,x.n.size≤1048576∧x.ws.length≤1048576):=hw
 unfold tabV
 have HX:Hid (∀ W,Below (w.alloc (.cells #[.int .i64 tm,.int .i64 nx,.slice la ls.length lc,.slice sa ss.length sc] 30)).heap.size (w.alloc (.cells #[.int .i64 tm,.int .i64 nx,.slice la ls.length lc,.slice sa ss.length sc] 30)) W→(W.cell? ⟨w.heap.size,0,none⟩=some (.int .i64 tm)∧W.cell? ⟨w.heap.size,1,none⟩=some (.int .i64 nx)∧W.cell? ⟨w.heap.size,2,none⟩=some (.slice la ls.length lc)∧W.cell? ⟨w.heap.size,3,none⟩=some (.slice sa ss.length sc))∧RowL W (.slice la ls.length lc) ls∧RowS W (.slice sa ss.length sc) ss∧Below w.heap.size w W):=fun W hW=>by
  have h1:=(hW.block w.heap.size (by simp)).trans (heap_alloc_new w _)
  exact ⟨⟨(zAA h1 0 rfl).1,(zAA h1 1 rfl).1,(zAA h1 2 rfl).1,(zAA h1 3 rfl).1⟩,(hl.below (zAD _ _)).below hW,(hs.below (zAD _ _)).below hW,(zAD w _).trans (hW.mono (by simp))⟩
 clear hl hs hw
 generalize HTO:bOf (TOK ⟨tm,nx,ls,ss⟩)=tok
 have HT:Hid (bOf (TOK ⟨tm,nx,ls,ss⟩)=tok):=HTO
 clear HTO
 go_enter Tryz.func76,Tryz.ntmps76
 go_upto_region 1 with fail
 generalize w.alloc (.cells #[.int .i64 tm,.int .i64 nx,.slice la ls.length lc,.slice sa ss.length sc] 30)=wb at HX ⊢
 obtain ⟨⟨x0,x1,x2,x3⟩,_,_,hb0⟩:=HX.out wb (Below.refl _ _)
 have HB0:Hid (Below w.heap.size w wb):=hb0
 clear hb0
 cases h1:inB tm 0 1000000000 with
 | false =>
   have HF:Hid (tok=false):=HT.out.symm.trans (zAM fun h=>by have:=(HTK.out.1 h).1;rw [h1] at this;cases this)
   go_wp2_with (go_at_call 56;refine (zAV _ _ _ _).mono ?_;rintro e w1 ⟨rfl,rfl⟩;first | rw [h1])
   go_ret
   exact ⟨zAH HF.out.symm,HB0.out⟩
 | true =>
 cases h2:inB nx 1 1000000 with
 | false =>
   have HF:Hid (tok=false):=HT.out.symm.trans (zAM fun h=>by have:=(HTK.out.1 h).2.1;rw [h2] at this;cases this)
   go_wp2_with (go_at_call 56;refine (zAV _ _ _ _).mono ?_;rintro e w1 ⟨rfl,rfl⟩;first | rw [h1] | rw [h2])
   go_ret
   exact ⟨zAH HF.out.symm,HB0.out⟩
 | true =>
 by_cases h3:4<ls.length
 ·have h3':(4:Int)<(ls.length:Int):=by omega
  have HF:Hid (tok=false):=HT.out.symm.trans (zAM fun h=>by have:=(HTK.out.1 h).2.2.1;omega)
  go_wp2_with (go_at_call 56;refine (zAV _ _ _ _).mono ?_;rintro e w1 ⟨rfl,rfl⟩;first | rw [h1] | rw [h2])
  go_ret
  exact ⟨zAH HF.out.symm,HB0.out⟩
 have h3':¬ (4:Int)<(ls.length:Int):=by omega
 have h3'':decide ((4:Int)<(ls.length:Int))=false:=decide_eq_false h3'
 by_cases h4:6<ss.length
 ·have h4':(6:Int)<(ss.length:Int):=by omega
  have HF:Hid (tok=false):=HT.out.symm.trans (zAM fun h=>by have:=(HTK.out.1 h).2.2.2.2.1;omega)
  go_wp2_with (go_at_call 56;refine (zAV _ _ _ _).mono ?_;rintro e w1 ⟨rfl,rfl⟩;first | rw [h1] | rw [h2])
  go_ret
  exact ⟨zAH HF.out.symm,HB0.out⟩
 have h4':¬ (6:Int)<(ss.length:Int):=by omega
 have hnx:=zAQ h2
 have HT2:Hid (TOK ⟨tm,nx,ls,ss⟩ ↔ (LsOK nx ls∧SsOK ss)):=⟨fun h=>⟨(HTK.out.1 h).2.2.2.1,(HTK.out.1 h).2.2.2.2.2⟩,fun h=>HTK.out.2 ⟨h1,h2,by omega,h.1,by omega,h.2⟩⟩
 clear HTK
 go_wp2_with (go_at_call 56;refine (zAV _ _ _ _).mono ?_;rintro e w1 ⟨rfl,rfl⟩;first | rw [h1] | rw [h2])
 clear x0 x1 x2 x3 h3'' h4' h3'
 go_loopw [3] (fun i wr=>∃ k:Nat,k≤ls.length∧i=.int .i64 k∧Hid ((∀ (j:Nat) (y:Lk),j<k→ls[j]?=some y→LOne nx (pn ls j) y)∧Below wb.heap.size wb wr)) (fun i _=>ls.length - (intOf i).toNat)
 case atStart=>exact ⟨0,by omega,rfl,⟨fun j y hj=>by omega,Below.refl _ _⟩⟩
 case round =>
  rename World=>wk
  obtain ⟨k,hk,rfl,HK⟩:=hrel
  obtain ⟨⟨_,x1,x2,x3⟩,hr0,_,_⟩:=HX.out wk HK.out.2
  by_cases hlt:k<ls.length
  ·obtain ⟨x,hx⟩:=Tw.get_at hlt
   obtain ⟨b,off,rfl,hbl,u,c0,c1,c2,c3,c4,c5⟩:=RowG.at hr0 rfl hx
   obtain ⟨ua,uc,rfl⟩:=RowG.slice c5
   have HN:Hid (LOne nx (pn ls k) x ↔ Asks nx ls k x):=one_iff nx ls k x
   have HNO:Hid (¬ Asks nx ls k x→tok=false):=fun h=>HT.out.symm.trans (zAM fun hh=>h ((one_iff nx ls k x).1 ((HT2.out.1 hh).1 k x hx)))
   have HYS:Hid (Asks nx ls k x→∀ (j:Nat) (y:Lk),j<k+1→ls[j]?=some y→LOne nx (pn ls j) y):=fun h=>upto (P:=fun j y=>LOne nx (pn ls j) y) HK.out.1 hx ((one_iff nx ls k x).2 h)
   have HZ:Hid (x.n.size≤maxLen∧x.ws.length≤1048576):=by have:=HWZ.out x (zAp hx);exact ⟨by unfold maxLen;omega,this.2⟩
   have HY:Hid (∀ W,Below (wk.alloc (.cells #[.string x.n,.int .i64 x.t,.int .i64 x.h,.int .i64 x.e,.slice ua x.ws.length uc] 45)).heap.size (wk.alloc (.cells #[.string x.n,.int .i64 x.t,.int .i64 x.h,.int .i64 x.e,.slice ua x.ws.length uc] 45)) W→(W.cell? ⟨wk.heap.size,0,none⟩=some (.string x.n)∧W.cell? ⟨wk.heap.size,1,none⟩=some (.int .i64 x.t)∧W.cell? ⟨wk.heap.size,2,none⟩=some (.int .i64 x.h)∧W.cell? ⟨wk.heap.size,3,none⟩=some (.int .i64 x.e)∧W.cell? ⟨wk.heap.size,4,none⟩=some (.slice ua x.ws.length uc))∧(W.cell? ⟨w.heap.size,1,none⟩=some (.int .i64 nx)∧W.cell? ⟨w.heap.size,2,none⟩=some (.slice (some ⟨b,off,none⟩) ls.length lc))∧RowW W (.slice ua x.ws.length uc) x.ws∧(∀ j y,ls[j]?=some y→W.cell? ⟨b,off+j * 5,none⟩=some (.string y.n))∧Below wb.heap.size wb W):=fun W hW=>by
    have h1:=(hW.block wk.heap.size (by simp)).trans (heap_alloc_new wk _)
    have hW2:Below wb.heap.size wb W:=HK.out.2.trans (((zAD wk _).mono HK.out.2.size).trans (hW.mono (Nat.le_trans HK.out.2.size (by simp))))
    obtain ⟨⟨_,q1,q2,_⟩,q3,_,_⟩:=HX.out W hW2
    refine ⟨⟨(zAA h1 0 rfl).1,(zAA h1 1 rfl).1,(zAA h1 2 rfl).1,(zAA h1 3 rfl).1,(zAA h1 4 rfl).1⟩,⟨q1,q2⟩,(c5.below (zAD _ _)).below hW,fun j y hj=>?_,hW2⟩
    obtain ⟨b',off',e,_,u',d0,_⟩:=RowG.at q3 rfl hj
    cases e
    exact d0
   have HKX:Hid (ls[k]?=some x):=hx
   clear hx c5 hr0
   go_upto_region 7 with fail
   clear c0 c1 c2 c3 c4 x1 x2 x3
   have HKN:Hid (Below wb.heap.size wb (wk.alloc (.cells #[.string x.n,.int .i64 x.t,.int .i64 x.h,.int .i64 x.e,.slice ua x.ws.length uc] 45))∧wk.heap.size+1≤(wk.alloc (.cells #[.string x.n,.int .i64 x.t,.int .i64 x.h,.int .i64 x.e,.slice ua x.ws.length uc] 45)).heap.size):=⟨(HY.out _ (Below.refl _ _)).2.2.2.2,by rw [zAL];exact Nat.le_refl _⟩
   generalize wk.alloc (.cells #[.string x.n,.int .i64 x.t,.int .i64 x.h,.int .i64 x.e,.slice ua x.ws.length uc] 45)=wc at HY HKN ⊢
   obtain ⟨X,hX,W,QI0,QO0⟩:=Qc.zAZ wc
   have QI:Hid (∀ w',Below wc.heap.size wc w'→∃ x,w'=W x):=QI0
   have QO:Hid (∀ x,Below wc.heap.size wc (W x)):=QO0
   clear QI0 QO0
   have y0:=fun q=>(HY.out _ (QO.out q)).1.1
   have y1:=fun q=>(HY.out _ (QO.out q)).1.2.1
   have y2:=fun q=>(HY.out _ (QO.out q)).1.2.2.1
   have y3:=fun q=>(HY.out _ (QO.out q)).1.2.2.2.1
   have y4:=fun q=>(HY.out _ (QO.out q)).1.2.2.2.2
   have y5:=fun q=>(HY.out _ (QO.out q)).2.1.1
   have y6:=fun q=>(HY.out _ (QO.out q)).2.1.2
   have HBW:Hid (∀ q,Below w.heap.size w (W q)):=fun q=>HB0.out.trans ((HY.out _ (QO.out q)).2.2.2.2.mono HB0.out.size)
   by_cases hk0:k=0
   ·subst hk0
    cases t1:opB x.n with
    | false =>
      have HF:Hid (tok=false):=HNO.out fun h=>by have:=h.1;rw [t1] at this;cases this
      refine Qc.zAF (W:=W) (by kernel_rfl) (by kernel_rfl) (QI.out _ Qc.zAI) ?_
      repeat (go_big_quiet_step (first | (go_at_call 96;refine (zAk _ _ HZ.out.1).mono ?_;rintro e w2 ⟨rfl,rfl⟩;rw [t1];exact ⟨rfl,_,rfl⟩) | (go_at_call 56;refine (zAV _ _ _ _).mono ?_;rintro e w2 ⟨rfl,rfl⟩;(first | rw [t1]);exact ⟨rfl,_,rfl⟩)))
      refine wpQuiet_nil ?_
      rintro _ ⟨xq,rfl⟩
      have G2:Hid (Below w.heap.size w (W xq)):=HBW.out xq
      clear y0 y1 y2 y3 y4 y5 y6
      generalize W xq=wq at G2 ⊢
      go_wp2_with fail
      go_ret
      exact ⟨zAH HF.out.symm,G2.out⟩
    | true =>
    have HRS:Hid (0<0→Op.bytesLess (pn ls 0).toList x.n.toList=true):=fun h=>absurd h (by omega)
    cases t2:inB x.t 0 (nx - 1) with
    | false =>
      have HF:Hid (tok=false):=HNO.out fun h=>by have:=h.2.2.1;rw [t2] at this;cases this
      refine Qc.zAF (W:=W) (by kernel_rfl) (by kernel_rfl) (QI.out _ Qc.zAI) ?_
      repeat (go_big_quiet_step (first | (go_at_call 96;refine (zAk _ _ HZ.out.1).mono ?_;rintro e w2 ⟨rfl,rfl⟩;rw [t1];exact ⟨rfl,_,rfl⟩) | (go_at_call 56;refine (zAV _ _ _ _).mono ?_;rintro e w2 ⟨rfl,rfl⟩;(first | rw [t2]);exact ⟨rfl,_,rfl⟩)))
      refine wpQuiet_nil ?_
      rintro _ ⟨xq,rfl⟩
      have G2:Hid (Below w.heap.size w (W xq)):=HBW.out xq
      clear y0 y1 y2 y3 y4 y5 y6
      generalize W xq=wq at G2 ⊢
      go_wp2_with fail
      go_ret
      exact ⟨zAH HF.out.symm,G2.out⟩
    | true =>
    cases t3:inB x.h (-1) 255 with
    | false =>
      have HF:Hid (tok=false):=HNO.out fun h=>by have:=h.2.2.2.1;rw [t3] at this;cases this
      refine Qc.zAF (W:=W) (by kernel_rfl) (by kernel_rfl) (QI.out _ Qc.zAI) ?_
      repeat (go_big_quiet_step (first | (go_at_call 96;refine (zAk _ _ HZ.out.1).mono ?_;rintro e w2 ⟨rfl,rfl⟩;rw [t1];exact ⟨rfl,_,rfl⟩) | (go_at_call 56;refine (zAV _ _ _ _).mono ?_;rintro e w2 ⟨rfl,rfl⟩;(first | rw [t2] | rw [t3]);exact ⟨rfl,_,rfl⟩)))
      refine wpQuiet_nil ?_
      rintro _ ⟨xq,rfl⟩
      have G2:Hid (Below w.heap.size w (W xq)):=HBW.out xq
      clear y0 y1 y2 y3 y4 y5 y6
      generalize W xq=wq at G2 ⊢
      go_wp2_with fail
      go_ret
      exact ⟨zAH HF.out.symm,G2.out⟩
    | true =>
    cases t4:inB x.e 0 2000000000 with
    | false =>
      have HF:Hid (tok=false):=HNO.out fun h=>by have:=h.2.2.2.2.1;rw [t4] at this;cases this
      refine Qc.zAF (W:=W) (by kernel_rfl) (by kernel_rfl) (QI.out _ Qc.zAI) ?_
      repeat (go_big_quiet_step (first | (go_at_call 96;refine (zAk _ _ HZ.out.1).mono ?_;rintro e w2 ⟨rfl,rfl⟩;rw [t1];exact ⟨rfl,_,rfl⟩) | (go_at_call 56;refine (zAV _ _ _ _).mono ?_;rintro e w2 ⟨rfl,rfl⟩;(first | rw [t2] | rw [t3] | rw [t4]);exact ⟨rfl,_,rfl⟩)))
      refine wpQuiet_nil ?_
      rintro _ ⟨xq,rfl⟩
      have G2:Hid (Below w.heap.size w (W xq)):=HBW.out xq
      clear y0 y1 y2 y3 y4 y5 y6
      generalize W xq=wq at G2 ⊢
      go_wp2_with fail
      go_ret
      exact ⟨zAH HF.out.symm,G2.out⟩
    | true =>
    by_cases t5:x.ws.length≤4
    ·have t5':decide ((4:Int)<(x.ws.length:Int))=false:=decide_eq_false (by omega)
     refine Qc.zAF (W:=W) (by kernel_rfl) (by kernel_rfl) (QI.out _ Qc.zAI) ?_
     repeat (go_big_quiet_step (first | (go_at_call 96;refine (zAk _ _ HZ.out.1).mono ?_;rintro e w2 ⟨rfl,rfl⟩;rw [t1];exact ⟨rfl,_,rfl⟩) | (go_at_call 56;refine (zAV _ _ _ _).mono ?_;rintro e w2 ⟨rfl,rfl⟩;(first | rw [t2] | rw [t3] | rw [t4]);exact ⟨rfl,_,rfl⟩)))
     refine wpQuiet_nil ?_
     rintro _ ⟨xq,rfl⟩
     have hb9:=(HY.out _ (QO.out xq)).1
     have HQ9:Hid (Below wc.heap.size wc (W xq)):=QO.out xq
     clear y0 y1 y2 y3 y4 y5 y6
     generalize W xq=wq at hb9 HQ9 ⊢
     obtain ⟨z0,z1,z2,z3,z4⟩:=hb9
     by_cases hneg:x.h<0
     ·have hneg':decide (x.h<0)=true:=decide_eq_true hneg
      by_cases he0:x.e=0
      ·have he0':(x.e != 0)=false:=by simpa using he0
       by_cases hn0:x.ws.length=0
       ·have hn0':((x.ws.length:Int) != 0)=false:=by simpa using hn0
        have HAS:Hid (Asks nx ls 0 x):=⟨t1,HRS.out,t2,t3,t4,t5,fun _=>⟨he0,hn0⟩,fun q y hy=>by rw [List.length_eq_zero_iff.1 hn0] at hy;simp at hy⟩
        have hn00:¬ (0:Int)<(x.ws.length:Int):=by omega
        go_wp2_with fail
        go_loopw [5] (fun i wi=>i=.int .i64 0∧Hid (Below wc.heap.size wc wi)) (fun i _=>x.ws.length - (intOf i).toNat)
        case atStart=>exact ⟨rfl,HQ9⟩
        case round =>
         rename World=>wi
         clear z0 z1 z2 z3 z4
         obtain ⟨rfl,HM⟩:=hrel
         obtain ⟨⟨_,_,_,_,z4⟩,_,_,_,hbx⟩:=HY.out wi HM.out
         have HBX:Hid (Below wb.heap.size wb wi):=hbx
         clear hbx
         go_wp2_with fail
         exact ⟨⟨0+1,by omega,by go_num,⟨HYS.out HAS.out,HBX.out⟩⟩,by simp [intOf];omega⟩
       ·have hn0':((x.ws.length:Int) != 0)=true:=by simpa using hn0
        have HF:Hid (tok=false):=HNO.out fun h=>hn0 (h.2.2.2.2.2.2.1 hneg).2
        have HBF:Hid (Below w.heap.size w wq):=HB0.out.trans ((HY.out _ HQ9.out).2.2.2.2.mono HB0.out.size)
        go_wp2_with fail
        go_ret
        exact ⟨zAH HF.out.symm,HBF.out⟩
      ·have he0':(x.e != 0)=true:=by simpa using he0
       have HF:Hid (tok=false):=HNO.out fun h=>he0 (h.2.2.2.2.2.2.1 hneg).1
       have HBF:Hid (Below w.heap.size w wq):=HB0.out.trans ((HY.out _ HQ9.out).2.2.2.2.mono HB0.out.size)
       go_wp2_with fail
       go_ret
       exact ⟨zAH HF.out.symm,HBF.out⟩
     ·have hneg':decide (x.h<0)=false:=decide_eq_false hneg
      have HAI:Hid (Asks nx ls 0 x ↔ WsOK x.h x.ws):=⟨fun h=>h.2.2.2.2.2.2.2,fun h=>⟨t1,HRS.out,t2,t3,t4,t5,fun hh=>absurd hh hneg,h⟩⟩
      clear hneg
      go_wp2_with fail
      clear z0 z1 z2 z3 z4 hneg'
      go_loopw [5] (fun i wi=>∃ m:Nat,m≤x.ws.length∧i=.int .i64 m∧Hid ((∀ (j:Nat) (y:Wt),j<m→x.ws[j]?=some y→WOne x.h x.ws j y)∧Below wc.heap.size wc wi)) (fun i _=>x.ws.length - (intOf i).toNat)
      case atStart=>exact ⟨0,by omega,rfl,⟨fun j y hj=>by omega,HQ9.out⟩⟩
      case round =>
       rename World=>wi
       clear HQ9
       obtain ⟨m,hm,rfl,HM⟩:=hrel
       obtain ⟨⟨_,_,z2,_,z4⟩,_,hrw,_,_⟩:=HY.out wi HM.out.2
       by_cases hlt2:m<x.ws.length
       ·obtain ⟨z,hz⟩:=Tw.get_at hlt2
        obtain ⟨b2,off2,rfl,hbl2,d0,d1⟩:=RowG.at hrw rfl hz
        have HW1:Hid (WOne x.h x.ws m z ↔ (inB z.c 0 255=true∧inB z.l 1 1000=true∧z.c ≠ x.h∧∀ (j:Nat) (y:Wt),j<m→x.ws[j]?=some y→y.c ≠ z.c)):=Iff.rfl
        have HWN:Hid (¬ WOne x.h x.ws m z→tok=false):=fun h=>HNO.out fun hh=>h ((HAI.out.1 hh) m z hz)
        have HWY:Hid (WOne x.h x.ws m z→∀ (j:Nat) (y:Wt),j<m+1→x.ws[j]?=some y→WOne x.h x.ws j y):=fun h=>upto (P:=fun j y=>WOne x.h x.ws j y) HM.out.1 hz h
        have HV:Hid (∀ W,Below (wi.alloc (.cells #[.int .i64 z.c,.int .i64 z.l] 153)).heap.size (wi.alloc (.cells #[.int .i64 z.c,.int .i64 z.l] 153)) W→(W.cell? ⟨wi.heap.size,0,none⟩=some (.int .i64 z.c)∧W.cell? ⟨wi.heap.size,1,none⟩=some (.int .i64 z.l))∧(W.cell? ⟨wk.heap.size,2,none⟩=some (.int .i64 x.h)∧W.cell? ⟨wk.heap.size,4,none⟩=some (.slice (some ⟨b2,off2,none⟩) x.ws.length uc))∧(∀ j y,x.ws[j]?=some y→W.cell? ⟨b2,off2+j * 2,none⟩=some (.int .i64 y.c))∧Below wc.heap.size wc W):=fun W hW=>by
         have h1:=(hW.block wi.heap.size (by simp)).trans (heap_alloc_new wi _)
         have hW2:Below wc.heap.size wc W:=HM.out.2.trans (((zAD wi _).mono HM.out.2.size).trans (hW.mono (Nat.le_trans HM.out.2.size (by simp))))
         obtain ⟨⟨_,_,q2,_,q4⟩,_,q5,_,_⟩:=HY.out W hW2
         refine ⟨⟨(zAA h1 0 rfl).1,(zAA h1 1 rfl).1⟩,⟨q2,q4⟩,fun j y hj=>?_,hW2⟩
         obtain ⟨b',off',e,_,d0,_⟩:=RowG.at q5 rfl hj
         cases e
         exact d0
        clear hz hrw
        go_upto_region 15 with fail
        clear d0 d1 z2 z4
        generalize wi.alloc (.cells #[.int .i64 z.c,.int .i64 z.l] 153)=wz at HV ⊢
        obtain ⟨⟨p0,p1⟩,⟨p2,p4⟩,_,hbz⟩:=HV.out wz (Below.refl _ _)
        have HBZ:Hid (Below w.heap.size w wz):=HB0.out.trans ((HY.out _ hbz).2.2.2.2.mono HB0.out.size)
        clear hbz
        cases g1:inB z.c 0 255 with
        | false =>
          have HF:Hid (tok=false):=HWN.out fun h=>by have:=(HW1.out.1 h).1;rw [g1] at this;cases this
          go_wp2_with (go_at_call 56;refine (zAV _ _ _ _).mono ?_;rintro e w1 ⟨rfl,rfl⟩;first | rw [g1])
          go_ret
          exact ⟨zAH HF.out.symm,HBZ.out⟩
        | true =>
        cases g2:inB z.l 1 1000 with
        | false =>
          have HF:Hid (tok=false):=HWN.out fun h=>by have:=(HW1.out.1 h).2.1;rw [g2] at this;cases this
          go_wp2_with (go_at_call 56;refine (zAV _ _ _ _).mono ?_;rintro e w1 ⟨rfl,rfl⟩;first | rw [g1] | rw [g2])
          go_ret
          exact ⟨zAH HF.out.symm,HBZ.out⟩
        | true =>
        by_cases g3:z.c=x.h
        ·have g3':(z.c == x.h)=true:=by simpa using g3
         have HF:Hid (tok=false):=HWN.out fun h=>(HW1.out.1 h).2.2.1 g3
         clear g3
         go_wp2_with (go_at_call 56;refine (zAV _ _ _ _).mono ?_;rintro e w1 ⟨rfl,rfl⟩;first | rw [g1] | rw [g2])
         go_ret
         exact ⟨zAH HF.out.symm,HBZ.out⟩
        ·have g3':(z.c == x.h)=false:=by simpa using g3
         have HW2:Hid (WOne x.h x.ws m z ↔ ∀ (j:Nat) (y:Wt),j<m→x.ws[j]?=some y→y.c ≠ z.c):=⟨fun h=>h.2.2.2,fun h=>⟨g1,g2,g3,h⟩⟩
         clear g3
         go_wp2_with (go_at_call 56;refine (zAV _ _ _ _).mono ?_;rintro e w1 ⟨rfl,rfl⟩;first | rw [g1] | rw [g2])
         clear p0 p1 p2 p4 g3'
         go_loopw [7] (fun i wj=>∃ q:Nat,q≤m∧i=.int .i64 q∧Hid ((∀ (j:Nat) (y:Wt),j<q→x.ws[j]?=some y→y.c ≠ z.c)∧Below wz.heap.size wz wj)) (fun i _=>m - (intOf i).toNat)
         case atStart=>exact ⟨0,by omega,rfl,⟨fun j y hj=>by omega,Below.refl _ _⟩⟩
         case round =>
          rename World=>wj
          obtain ⟨q,hq,rfl,HJ⟩:=hrel
          obtain ⟨⟨p0,_⟩,⟨_,p4⟩,pr,pb⟩:=HV.out wj HJ.out.2
          have HPB:Hid (Below wc.heap.size wc wj):=pb
          by_cases hlt3:q<m
          ·obtain ⟨v,hv⟩:=Tw.get_at (xs:=x.ws) (k:=q) (by omega)
           have p5:=pr q v hv
           have HVV:Hid (x.ws[q]?=some v):=hv
           have l1:(0:Int)≤(q:Int):=by omega
           have l2:(q:Int)<(x.ws.length:Int):=by omega
           have l3:(q:Int)<(m:Int):=by omega
           clear pr pb hv
           by_cases hsame:v.c=z.c
           ·have hs':(v.c == z.c)=true:=by simpa using hsame
            have HF:Hid (tok=false):=HWN.out fun h=>(HW2.out.1 h) q v hlt3 HVV.out hsame
            have HBF:Hid (Below w.heap.size w wj):=HB0.out.trans ((HY.out _ HPB.out).2.2.2.2.mono HB0.out.size)
            clear hsame
            go_wp2_with fail
            go_quiet (fail)
            go_wp2_with fail
            go_ret
            exact ⟨zAH HF.out.symm,bel_n HBF.out⟩
           ·have hs':(v.c == z.c)=false:=by simpa using hsame
            have HJJ:Hid (∀ (j:Nat) (y:Wt),j<q+1→x.ws[j]?=some y→y.c ≠ z.c):=(show ∀ (j:Nat) (y:Wt),j<q+1→x.ws[j]?=some y→y.c ≠ z.c from upto (P:=fun (_:Nat) (y:Wt)=>y.c ≠ z.c) HJ.out.1 HVV.out hsame)
            have HJB:Hid (Below wz.heap.size wz wj):=HJ.out.2
            clear hsame HJ
            go_wp2_with fail
            go_quiet (fail)
            go_wp2_with fail
            exact ⟨⟨q+1,by omega,by go_num,⟨HJJ.out,bel_n HJB.out⟩⟩,by simp [intOf];omega⟩
          ·obtain rfl:q=m:=by omega
           have HDN:Hid (WOne x.h x.ws q z):=HW2.out.2 HJ.out.1
           clear p0 p4 pr pb HJ
           go_wp2_with fail
           go_roundw
           case rel=>(repeat apply Exists.intro);exact ⟨⟨q+1,by omega,by go_num,⟨HWY.out HDN.out,HPB.out⟩⟩,rfl⟩
           case measure=>simp [intOf];omega
       ·obtain rfl:m=x.ws.length:=by omega
        have HAS:Hid (Asks nx ls 0 x):=HAI.out.2 fun j y hy=>HM.out.1 j y (zAw hy) hy
        obtain ⟨_,_,_,_,hbx⟩:=HY.out wi HM.out.2
        have HBX:Hid (Below wb.heap.size wb wi):=hbx
        clear hbx hrw
        go_wp2_with fail
        exact ⟨⟨0+1,by omega,by go_num,⟨HYS.out HAS.out,HBX.out⟩⟩,by simp [intOf];omega⟩
    ·have t5':decide ((4:Int)<(x.ws.length:Int))=true:=decide_eq_true (by omega)
     have HF:Hid (tok=false):=HNO.out fun h=>t5 h.2.2.2.2.2.1
     refine Qc.zAF (W:=W) (by kernel_rfl) (by kernel_rfl) (QI.out _ Qc.zAI) ?_
     repeat (go_big_quiet_step (first | (go_at_call 96;refine (zAk _ _ HZ.out.1).mono ?_;rintro e w2 ⟨rfl,rfl⟩;rw [t1];exact ⟨rfl,_,rfl⟩) | (go_at_call 56;refine (zAV _ _ _ _).mono ?_;rintro e w2 ⟨rfl,rfl⟩;(first | rw [t2] | rw [t3] | rw [t4]);exact ⟨rfl,_,rfl⟩)))
     refine wpQuiet_nil ?_
     rintro _ ⟨xq,rfl⟩
     have G2:Hid (Below w.heap.size w (W xq)):=HBW.out xq
     clear y0 y1 y2 y3 y4 y5 y6
     generalize W xq=wq at G2 ⊢
     go_wp2_with fail
     go_ret
     exact ⟨zAH HF.out.symm,G2.out⟩
   ·obtain ⟨j,rfl⟩ : ∃ j,k=j+1:=⟨k - 1,by omega⟩
    obtain ⟨p,hp⟩:=Tw.get_at (xs:=ls) (k:=j) (by omega)
    have HPN:Hid (pn ls (j+1)=p.n):=pn_succ hp
    have y7:=fun q=>(HY.out _ (QO.out q)).2.2.2.1 j p hp
    have r1:(0:Int)<(j:Int)+1:=by omega
    have r2:(j:Int)+1<(ls.length:Int):=by omega
    have r3:(j:Int)<(ls.length:Int):=by omega
    clear hp
    cases t1:opB x.n with
    | false =>
      have HF:Hid (tok=false):=HNO.out fun h=>by have:=h.1;rw [t1] at this;cases this
      refine Qc.zAF (W:=W) (by kernel_rfl) (by kernel_rfl) (QI.out _ Qc.zAI) ?_
      repeat (go_big_quiet_step (first | (go_at_call 96;refine (zAk _ _ HZ.out.1).mono ?_;rintro e w2 ⟨rfl,rfl⟩;rw [t1];exact ⟨rfl,_,rfl⟩) | (go_at_call 56;refine (zAV _ _ _ _).mono ?_;rintro e w2 ⟨rfl,rfl⟩;(first | rw [t1]);exact ⟨rfl,_,rfl⟩)))
      refine wpQuiet_nil ?_
      rintro _ ⟨xq,rfl⟩
      have G2:Hid (Below w.heap.size w (W xq)):=HBW.out xq
      clear y0 y1 y2 y3 y4 y5 y6 y7
      generalize W xq=wq at G2 ⊢
      go_wp2_with fail
      go_ret
      exact ⟨zAH HF.out.symm,G2.out⟩
    | true =>
    cases t0:Op.bytesLess p.n.toList x.n.toList with
    | false =>
      have HF:Hid (tok=false):=HNO.out fun h=>by have:=h.2.1 (by omega);rw [HPN.out,t0] at this;cases this
      refine Qc.zAF (W:=W) (by kernel_rfl) (by kernel_rfl) (QI.out _ Qc.zAI) ?_
      repeat (go_big_quiet_step (first | (go_at_call 96;refine (zAk _ _ HZ.out.1).mono ?_;rintro e w2 ⟨rfl,rfl⟩;rw [t1];exact ⟨rfl,_,rfl⟩) | (go_at_call 56;refine (zAV _ _ _ _).mono ?_;rintro e w2 ⟨rfl,rfl⟩;(first | rw [t1]);exact ⟨rfl,_,rfl⟩)))
      refine wpQuiet_nil ?_
      rintro _ ⟨xq,rfl⟩
      have G2:Hid (Below w.heap.size w (W xq)):=HBW.out xq
      clear y0 y1 y2 y3 y4 y5 y6 y7
      generalize W xq=wq at G2 ⊢
      go_wp2_with fail
      go_ret
      exact ⟨zAH HF.out.symm,G2.out⟩
    | true =>
    have HRS:Hid (0<j+1→Op.bytesLess (pn ls (j+1)).toList x.n.toList=true):=fun _=>by rw [HPN.out];exact t0
    cases t2:inB x.t 0 (nx - 1) with
    | false =>
      have HF:Hid (tok=false):=HNO.out fun h=>by have:=h.2.2.1;rw [t2] at this;cases this
      refine Qc.zAF (W:=W) (by kernel_rfl) (by kernel_rfl) (QI.out _ Qc.zAI) ?_
      repeat (go_big_quiet_step (first | (go_at_call 96;refine (zAk _ _ HZ.out.1).mono ?_;rintro e w2 ⟨rfl,rfl⟩;rw [t1];exact ⟨rfl,_,rfl⟩) | (go_at_call 56;refine (zAV _ _ _ _).mono ?_;rintro e w2 ⟨rfl,rfl⟩;(first | rw [t2]);exact ⟨rfl,_,rfl⟩)))
      refine wpQuiet_nil ?_
      rintro _ ⟨xq,rfl⟩
      have G2:Hid (Below w.heap.size w (W xq)):=HBW.out xq
      clear y0 y1 y2 y3 y4 y5 y6 y7
      generalize W xq=wq at G2 ⊢
      go_wp2_with fail
      go_ret
      exact ⟨zAH HF.out.symm,G2.out⟩
    | true =>
    cases t3:inB x.h (-1) 255 with
    | false =>
      have HF:Hid (tok=false):=HNO.out fun h=>by have:=h.2.2.2.1;rw [t3] at this;cases this
      refine Qc.zAF (W:=W) (by kernel_rfl) (by kernel_rfl) (QI.out _ Qc.zAI) ?_
      repeat (go_big_quiet_step (first | (go_at_call 96;refine (zAk _ _ HZ.out.1).mono ?_;rintro e w2 ⟨rfl,rfl⟩;rw [t1];exact ⟨rfl,_,rfl⟩) | (go_at_call 56;refine (zAV _ _ _ _).mono ?_;rintro e w2 ⟨rfl,rfl⟩;(first | rw [t2] | rw [t3]);exact ⟨rfl,_,rfl⟩)))
      refine wpQuiet_nil ?_
      rintro _ ⟨xq,rfl⟩
      have G2:Hid (Below w.heap.size w (W xq)):=HBW.out xq
      clear y0 y1 y2 y3 y4 y5 y6 y7
      generalize W xq=wq at G2 ⊢
      go_wp2_with fail
      go_ret
      exact ⟨zAH HF.out.symm,G2.out⟩
    | true =>
    cases t4:inB x.e 0 2000000000 with
    | false =>
      have HF:Hid (tok=false):=HNO.out fun h=>by have:=h.2.2.2.2.1;rw [t4] at this;cases this
      refine Qc.zAF (W:=W) (by kernel_rfl) (by kernel_rfl) (QI.out _ Qc.zAI) ?_
      repeat (go_big_quiet_step (first | (go_at_call 96;refine (zAk _ _ HZ.out.1).mono ?_;rintro e w2 ⟨rfl,rfl⟩;rw [t1];exact ⟨rfl,_,rfl⟩) | (go_at_call 56;refine (zAV _ _ _ _).mono ?_;rintro e w2 ⟨rfl,rfl⟩;(first | rw [t2] | rw [t3] | rw [t4]);exact ⟨rfl,_,rfl⟩)))
      refine wpQuiet_nil ?_
      rintro _ ⟨xq,rfl⟩
      have G2:Hid (Below w.heap.size w (W xq)):=HBW.out xq
      clear y0 y1 y2 y3 y4 y5 y6 y7
      generalize W xq=wq at G2 ⊢
      go_wp2_with fail
      go_ret
      exact ⟨zAH HF.out.symm,G2.out⟩
    | true =>
    by_cases t5:x.ws.length≤4
    ·have t5':decide ((4:Int)<(x.ws.length:Int))=false:=decide_eq_false (by omega)
     refine Qc.zAF (W:=W) (by kernel_rfl) (by kernel_rfl) (QI.out _ Qc.zAI) ?_
     repeat (go_big_quiet_step (first | (go_at_call 96;refine (zAk _ _ HZ.out.1).mono ?_;rintro e w2 ⟨rfl,rfl⟩;rw [t1];exact ⟨rfl,_,rfl⟩) | (go_at_call 56;refine (zAV _ _ _ _).mono ?_;rintro e w2 ⟨rfl,rfl⟩;(first | rw [t2] | rw [t3] | rw [t4]);exact ⟨rfl,_,rfl⟩)))
     refine wpQuiet_nil ?_
     rintro _ ⟨xq,rfl⟩
     have hb9:=(HY.out _ (QO.out xq)).1
     have HQ9:Hid (Below wc.heap.size wc (W xq)):=QO.out xq
     clear y0 y1 y2 y3 y4 y5 y6 y7
     generalize W xq=wq at hb9 HQ9 ⊢
     obtain ⟨z0,z1,z2,z3,z4⟩:=hb9
     by_cases hneg:x.h<0
     ·have hneg':decide (x.h<0)=true:=decide_eq_true hneg
      by_cases he0:x.e=0
      ·have he0':(x.e != 0)=false:=by simpa using he0
       by_cases hn0:x.ws.length=0
       ·have hn0':((x.ws.length:Int) != 0)=false:=by simpa using hn0
        have HAS:Hid (Asks nx ls (j+1) x):=⟨t1,HRS.out,t2,t3,t4,t5,fun _=>⟨he0,hn0⟩,fun q y hy=>by rw [List.length_eq_zero_iff.1 hn0] at hy;simp at hy⟩
        have hn00:¬ (0:Int)<(x.ws.length:Int):=by omega
        go_wp2_with fail
        go_loopw [5] (fun i wi=>i=.int .i64 0∧Hid (Below wc.heap.size wc wi)) (fun i _=>x.ws.length - (intOf i).toNat)
        case atStart=>exact ⟨rfl,HQ9⟩
        case round =>
         rename World=>wi
         clear z0 z1 z2 z3 z4
         obtain ⟨rfl,HM⟩:=hrel
         obtain ⟨⟨_,_,_,_,z4⟩,_,_,_,hbx⟩:=HY.out wi HM.out
         have HBX:Hid (Below wb.heap.size wb wi):=hbx
         clear hbx
         go_wp2_with fail
         exact ⟨⟨(j+1)+1,by omega,by go_num,⟨HYS.out HAS.out,HBX.out⟩⟩,by simp [intOf];omega⟩
       ·have hn0':((x.ws.length:Int) != 0)=true:=by simpa using hn0
        have HF:Hid (tok=false):=HNO.out fun h=>hn0 (h.2.2.2.2.2.2.1 hneg).2
        have HBF:Hid (Below w.heap.size w wq):=HB0.out.trans ((HY.out _ HQ9.out).2.2.2.2.mono HB0.out.size)
        go_wp2_with fail
        go_ret
        exact ⟨zAH HF.out.symm,HBF.out⟩
      ·have he0':(x.e != 0)=true:=by simpa using he0
       have HF:Hid (tok=false):=HNO.out fun h=>he0 (h.2.2.2.2.2.2.1 hneg).1
       have HBF:Hid (Below w.heap.size w wq):=HB0.out.trans ((HY.out _ HQ9.out).2.2.2.2.mono HB0.out.size)
       go_wp2_with fail
       go_ret
       exact ⟨zAH HF.out.symm,HBF.out⟩
     ·have hneg':decide (x.h<0)=false:=decide_eq_false hneg
      have HAI:Hid (Asks nx ls (j+1) x ↔ WsOK x.h x.ws):=⟨fun h=>h.2.2.2.2.2.2.2,fun h=>⟨t1,HRS.out,t2,t3,t4,t5,fun hh=>absurd hh hneg,h⟩⟩
      clear hneg
      go_wp2_with fail
      clear z0 z1 z2 z3 z4 hneg'
      go_loopw [5] (fun i wi=>∃ m:Nat,m≤x.ws.length∧i=.int .i64 m∧Hid ((∀ (j:Nat) (y:Wt),j<m→x.ws[j]?=some y→WOne x.h x.ws j y)∧Below wc.heap.size wc wi)) (fun i _=>x.ws.length - (intOf i).toNat)
      case atStart=>exact ⟨0,by omega,rfl,⟨fun j y hj=>by omega,HQ9.out⟩⟩
      case round =>
       rename World=>wi
       clear HQ9
       obtain ⟨m,hm,rfl,HM⟩:=hrel
       obtain ⟨⟨_,_,z2,_,z4⟩,_,hrw,_,_⟩:=HY.out wi HM.out.2
       by_cases hlt2:m<x.ws.length
       ·obtain ⟨z,hz⟩:=Tw.get_at hlt2
        obtain ⟨b2,off2,rfl,hbl2,d0,d1⟩:=RowG.at hrw rfl hz
        have HW1:Hid (WOne x.h x.ws m z ↔ (inB z.c 0 255=true∧inB z.l 1 1000=true∧z.c ≠ x.h∧∀ (j:Nat) (y:Wt),j<m→x.ws[j]?=some y→y.c ≠ z.c)):=Iff.rfl
        have HWN:Hid (¬ WOne x.h x.ws m z→tok=false):=fun h=>HNO.out fun hh=>h ((HAI.out.1 hh) m z hz)
        have HWY:Hid (WOne x.h x.ws m z→∀ (j:Nat) (y:Wt),j<m+1→x.ws[j]?=some y→WOne x.h x.ws j y):=fun h=>upto (P:=fun j y=>WOne x.h x.ws j y) HM.out.1 hz h
        have HV:Hid (∀ W,Below (wi.alloc (.cells #[.int .i64 z.c,.int .i64 z.l] 153)).heap.size (wi.alloc (.cells #[.int .i64 z.c,.int .i64 z.l] 153)) W→(W.cell? ⟨wi.heap.size,0,none⟩=some (.int .i64 z.c)∧W.cell? ⟨wi.heap.size,1,none⟩=some (.int .i64 z.l))∧(W.cell? ⟨wk.heap.size,2,none⟩=some (.int .i64 x.h)∧W.cell? ⟨wk.heap.size,4,none⟩=some (.slice (some ⟨b2,off2,none⟩) x.ws.length uc))∧(∀ j y,x.ws[j]?=some y→W.cell? ⟨b2,off2+j * 2,none⟩=some (.int .i64 y.c))∧Below wc.heap.size wc W):=fun W hW=>by
         have h1:=(hW.block wi.heap.size (by simp)).trans (heap_alloc_new wi _)
         have hW2:Below wc.heap.size wc W:=HM.out.2.trans (((zAD wi _).mono HM.out.2.size).trans (hW.mono (Nat.le_trans HM.out.2.size (by simp))))
         obtain ⟨⟨_,_,q2,_,q4⟩,_,q5,_,_⟩:=HY.out W hW2
         refine ⟨⟨(zAA h1 0 rfl).1,(zAA h1 1 rfl).1⟩,⟨q2,q4⟩,fun j y hj=>?_,hW2⟩
         obtain ⟨b',off',e,_,d0,_⟩:=RowG.at q5 rfl hj
         cases e
         exact d0
        clear hz hrw
        go_upto_region 15 with fail
        clear d0 d1 z2 z4
        generalize wi.alloc (.cells #[.int .i64 z.c,.int .i64 z.l] 153)=wz at HV ⊢
        obtain ⟨⟨p0,p1⟩,⟨p2,p4⟩,_,hbz⟩:=HV.out wz (Below.refl _ _)
        have HBZ:Hid (Below w.heap.size w wz):=HB0.out.trans ((HY.out _ hbz).2.2.2.2.mono HB0.out.size)
        clear hbz
        cases g1:inB z.c 0 255 with
        | false =>
          have HF:Hid (tok=false):=HWN.out fun h=>by have:=(HW1.out.1 h).1;rw [g1] at this;cases this
          go_wp2_with (go_at_call 56;refine (zAV _ _ _ _).mono ?_;rintro e w1 ⟨rfl,rfl⟩;first | rw [g1])
          go_ret
          exact ⟨zAH HF.out.symm,HBZ.out⟩
        | true =>
        cases g2:inB z.l 1 1000 with
        | false =>
          have HF:Hid (tok=false):=HWN.out fun h=>by have:=(HW1.out.1 h).2.1;rw [g2] at this;cases this
          go_wp2_with (go_at_call 56;refine (zAV _ _ _ _).mono ?_;rintro e w1 ⟨rfl,rfl⟩;first | rw [g1] | rw [g2])
          go_ret
          exact ⟨zAH HF.out.symm,HBZ.out⟩
        | true =>
        by_cases g3:z.c=x.h
        ·have g3':(z.c == x.h)=true:=by simpa using g3
         have HF:Hid (tok=false):=HWN.out fun h=>(HW1.out.1 h).2.2.1 g3
         clear g3
         go_wp2_with (go_at_call 56;refine (zAV _ _ _ _).mono ?_;rintro e w1 ⟨rfl,rfl⟩;first | rw [g1] | rw [g2])
         go_ret
         exact ⟨zAH HF.out.symm,HBZ.out⟩
        ·have g3':(z.c == x.h)=false:=by simpa using g3
         have HW2:Hid (WOne x.h x.ws m z ↔ ∀ (j:Nat) (y:Wt),j<m→x.ws[j]?=some y→y.c ≠ z.c):=⟨fun h=>h.2.2.2,fun h=>⟨g1,g2,g3,h⟩⟩
         clear g3
         go_wp2_with (go_at_call 56;refine (zAV _ _ _ _).mono ?_;rintro e w1 ⟨rfl,rfl⟩;first | rw [g1] | rw [g2])
         clear p0 p1 p2 p4 g3'
         go_loopw [7] (fun i wj=>∃ q:Nat,q≤m∧i=.int .i64 q∧Hid ((∀ (j:Nat) (y:Wt),j<q→x.ws[j]?=some y→y.c ≠ z.c)∧Below wz.heap.size wz wj)) (fun i _=>m - (intOf i).toNat)
         case atStart=>exact ⟨0,by omega,rfl,⟨fun j y hj=>by omega,Below.refl _ _⟩⟩
         case round =>
          rename World=>wj
          obtain ⟨q,hq,rfl,HJ⟩:=hrel
          obtain ⟨⟨p0,_⟩,⟨_,p4⟩,pr,pb⟩:=HV.out wj HJ.out.2
          have HPB:Hid (Below wc.heap.size wc wj):=pb
          by_cases hlt3:q<m
          ·obtain ⟨v,hv⟩:=Tw.get_at (xs:=x.ws) (k:=q) (by omega)
           have p5:=pr q v hv
           have HVV:Hid (x.ws[q]?=some v):=hv
           have l1:(0:Int)≤(q:Int):=by omega
           have l2:(q:Int)<(x.ws.length:Int):=by omega
           have l3:(q:Int)<(m:Int):=by omega
           clear pr pb hv
           by_cases hsame:v.c=z.c
           ·have hs':(v.c == z.c)=true:=by simpa using hsame
            have HF:Hid (tok=false):=HWN.out fun h=>(HW2.out.1 h) q v hlt3 HVV.out hsame
            have HBF:Hid (Below w.heap.size w wj):=HB0.out.trans ((HY.out _ HPB.out).2.2.2.2.mono HB0.out.size)
            clear hsame
            go_wp2_with fail
            go_quiet (fail)
            go_wp2_with fail
            go_ret
            exact ⟨zAH HF.out.symm,bel_n HBF.out⟩
           ·have hs':(v.c == z.c)=false:=by simpa using hsame
            have HJJ:Hid (∀ (j:Nat) (y:Wt),j<q+1→x.ws[j]?=some y→y.c ≠ z.c):=(show ∀ (j:Nat) (y:Wt),j<q+1→x.ws[j]?=some y→y.c ≠ z.c from upto (P:=fun (_:Nat) (y:Wt)=>y.c ≠ z.c) HJ.out.1 HVV.out hsame)
            have HJB:Hid (Below wz.heap.size wz wj):=HJ.out.2
            clear hsame HJ
            go_wp2_with fail
            go_quiet (fail)
            go_wp2_with fail
            exact ⟨⟨q+1,by omega,by go_num,⟨HJJ.out,bel_n HJB.out⟩⟩,by simp [intOf];omega⟩
          ·obtain rfl:q=m:=by omega
           have HDN:Hid (WOne x.h x.ws q z):=HW2.out.2 HJ.out.1
           clear p0 p4 pr pb HJ
           go_wp2_with fail
           go_roundw
           case rel=>(repeat apply Exists.intro);exact ⟨⟨q+1,by omega,by go_num,⟨HWY.out HDN.out,HPB.out⟩⟩,rfl⟩
           case measure=>simp [intOf];omega
       ·obtain rfl:m=x.ws.length:=by omega
        have HAS:Hid (Asks nx ls (j+1) x):=HAI.out.2 fun j y hy=>HM.out.1 j y (zAw hy) hy
        obtain ⟨_,_,_,_,hbx⟩:=HY.out wi HM.out.2
        have HBX:Hid (Below wb.heap.size wb wi):=hbx
        clear hbx hrw
        go_wp2_with fail
        exact ⟨⟨(j+1)+1,by omega,by go_num,⟨HYS.out HAS.out,HBX.out⟩⟩,by simp [intOf];omega⟩
    ·have t5':decide ((4:Int)<(x.ws.length:Int))=true:=decide_eq_true (by omega)
     have HF:Hid (tok=false):=HNO.out fun h=>t5 h.2.2.2.2.2.1
     refine Qc.zAF (W:=W) (by kernel_rfl) (by kernel_rfl) (QI.out _ Qc.zAI) ?_
     repeat (go_big_quiet_step (first | (go_at_call 96;refine (zAk _ _ HZ.out.1).mono ?_;rintro e w2 ⟨rfl,rfl⟩;rw [t1];exact ⟨rfl,_,rfl⟩) | (go_at_call 56;refine (zAV _ _ _ _).mono ?_;rintro e w2 ⟨rfl,rfl⟩;(first | rw [t2] | rw [t3] | rw [t4]);exact ⟨rfl,_,rfl⟩)))
     refine wpQuiet_nil ?_
     rintro _ ⟨xq,rfl⟩
     have G2:Hid (Below w.heap.size w (W xq)):=HBW.out xq
     clear y0 y1 y2 y3 y4 y5 y6 y7
     generalize W xq=wq at G2 ⊢
     go_wp2_with fail
     go_ret
     exact ⟨zAH HF.out.symm,G2.out⟩
  ·obtain rfl:k=ls.length:=by omega
   have HLS:Hid (LsOK nx ls):=fun j y hy=>HK.out.1 j y (zAw hy) hy
   have HKB:Hid (Below wb.heap.size wb wk):=HK.out.2
   clear HK hr0
   go_wp2_with fail
   clear x1 x2 x3
   go_loopw [8] (fun i wi=>∃ k:Nat,k≤ss.length∧i=.int .i64 k∧Hid ((∀ (j:Nat) (y:Sn),j<k→ss[j]?=some y→SOne (pc ss j) y)∧Below wb.heap.size wb wi)) (fun i _=>ss.length - (intOf i).toNat)
   case atStart=>exact ⟨0,by omega,rfl,⟨fun j y hj=>by omega,HKB.out⟩⟩
   case round =>
    rename World=>wi
    clear HKB
    obtain ⟨k,hk,rfl,HK⟩:=hrel
    obtain ⟨⟨_,_,_,x3⟩,_,hr0,hbw⟩:=HX.out wi HK.out.2
    by_cases hlt:k<ss.length
    ·obtain ⟨x,hx⟩:=Tw.get_at hlt
     obtain ⟨b,off,rfl,hbl,c0,c1,c2,c3,c4,c5⟩:=RowG.at hr0 rfl hx
     have HNO:Hid (¬ SOne (pc ss k) x→tok=false):=fun h=>HT.out.symm.trans (zAM fun hh=>h ((HT2.out.1 hh).2 k x hx))
     have HYS:Hid (SOne (pc ss k) x→∀ (j:Nat) (y:Sn),j<k+1→ss[j]?=some y→SOne (pc ss j) y):=fun h=>upto (P:=fun j y=>SOne (pc ss j) y) HK.out.1 hx h
     have HY:Hid (∀ W,Below (wi.alloc (.cells #[.int .i64 x.c,.int .i64 x.s,.int .i64 x.k,.int .i64 x.t,.int .i64 x.h,.int .i64 x.e] 116)).heap.size (wi.alloc (.cells #[.int .i64 x.c,.int .i64 x.s,.int .i64 x.k,.int .i64 x.t,.int .i64 x.h,.int .i64 x.e] 116)) W→(W.cell? ⟨wi.heap.size,0,none⟩=some (.int .i64 x.c)∧W.cell? ⟨wi.heap.size,1,none⟩=some (.int .i64 x.s)∧W.cell? ⟨wi.heap.size,2,none⟩=some (.int .i64 x.k)∧W.cell? ⟨wi.heap.size,3,none⟩=some (.int .i64 x.t)∧W.cell? ⟨wi.heap.size,4,none⟩=some (.int .i64 x.h)∧W.cell? ⟨wi.heap.size,5,none⟩=some (.int .i64 x.e))∧W.cell? ⟨w.heap.size,3,none⟩=some (.slice (some ⟨b,off,none⟩) ss.length sc)∧(∀ j y,ss[j]?=some y→W.cell? ⟨b,off+j * 6,none⟩=some (.int .i64 y.c))∧Below wb.heap.size wb W):=fun W hW=>by
      have h1:=(hW.block wi.heap.size (by simp)).trans (heap_alloc_new wi _)
      have hW2:Below wb.heap.size wb W:=HK.out.2.trans (((zAD wi _).mono HK.out.2.size).trans (hW.mono (Nat.le_trans HK.out.2.size (by simp))))
      obtain ⟨⟨_,_,_,q3⟩,_,q4,_⟩:=HX.out W hW2
      refine ⟨⟨(zAA h1 0 rfl).1,(zAA h1 1 rfl).1,(zAA h1 2 rfl).1,(zAA h1 3 rfl).1,(zAA h1 4 rfl).1,(zAA h1 5 rfl).1⟩,q3,fun j y hj=>?_,hW2⟩
      obtain ⟨b',off',e,_,d0,_⟩:=RowG.at q4 rfl hj
      cases e
      exact d0
     have HKX:Hid ((∀ (j:Nat) (y:Sn),j<k→ss[j]?=some y→SOne (pc ss j) y)∧ss[k]?=some x):=⟨HK.out.1,hx⟩
     clear hx hr0 HK hbw
     go_upto_region 26 with fail
     clear c0 c1 c2 c3 c4 c5 x3
     generalize wi.alloc (.cells #[.int .i64 x.c,.int .i64 x.s,.int .i64 x.k,.int .i64 x.t,.int .i64 x.h,.int .i64 x.e] 116)=wc at HY ⊢
     obtain ⟨X,hX,W,QI0,QO0⟩:=Qc.zAZ wc
     have QI:Hid (∀ w',Below wc.heap.size wc w'→∃ x,w'=W x):=QI0
     have QO:Hid (∀ x,Below wc.heap.size wc (W x)):=QO0
     clear QI0 QO0
     have y0:=fun q=>(HY.out _ (QO.out q)).1.1
     have y1:=fun q=>(HY.out _ (QO.out q)).1.2.1
     have y2:=fun q=>(HY.out _ (QO.out q)).1.2.2.1
     have y3:=fun q=>(HY.out _ (QO.out q)).1.2.2.2.1
     have y4:=fun q=>(HY.out _ (QO.out q)).1.2.2.2.2.1
     have y5:=fun q=>(HY.out _ (QO.out q)).1.2.2.2.2.2
     have y6:=fun q=>(HY.out _ (QO.out q)).2.1
     have HBW:Hid (∀ q,Below wb.heap.size wb (W q)∧Below w.heap.size w (W q)):=fun q=>⟨(HY.out _ (QO.out q)).2.2.2,HB0.out.trans ((HY.out _ (QO.out q)).2.2.2.mono HB0.out.size)⟩
     by_cases hk0:k=0
     ·subst hk0
      have HSI:Hid (SOne (pc ss 0) x ↔ (inB x.c 0 255=true∧inB x.s 1 65535=true∧zBD x.k x.t x.h x.e)):=Iff.rfl
      cases t1:inB x.c 0 255 with
      | false =>
        have HF:Hid (tok=false):=HNO.out fun h0=>by have h:=HSI.out.1 h0;have:=h.1;rw [t1] at this;cases this
        refine Qc.zAF (W:=W) (by kernel_rfl) (by kernel_rfl) (QI.out _ Qc.zAI) ?_
        repeat (go_big_quiet_step (first | (go_at_call 112;refine (zAa _ _ _ _ _).mono ?_;rintro e w2 ⟨rfl,b2⟩;rw [t3];exact ⟨rfl,Qc.back QI.out QO.out b2⟩) | (go_at_call 56;refine (zAV _ _ _ _).mono ?_;rintro e w2 ⟨rfl,rfl⟩;(first | rw [t1]);exact ⟨rfl,_,rfl⟩)))
        refine wpQuiet_nil ?_
        rintro _ ⟨xq,rfl⟩
        have G2:Hid (Below wb.heap.size wb (W xq)∧Below w.heap.size w (W xq)):=HBW.out xq
        clear y0 y1 y2 y3 y4 y5 y6
        generalize W xq=wq at G2 ⊢
        go_wp2_with fail
        go_ret
        exact ⟨zAH HF.out.symm,G2.out.2⟩
      | true =>
      cases t2:inB x.s 1 65535 with
      | false =>
        have HF:Hid (tok=false):=HNO.out fun h0=>by have h:=HSI.out.1 h0;have:=h.2.1;rw [t2] at this;cases this
        refine Qc.zAF (W:=W) (by kernel_rfl) (by kernel_rfl) (QI.out _ Qc.zAI) ?_
        repeat (go_big_quiet_step (first | (go_at_call 112;refine (zAa _ _ _ _ _).mono ?_;rintro e w2 ⟨rfl,b2⟩;rw [t3];exact ⟨rfl,Qc.back QI.out QO.out b2⟩) | (go_at_call 56;refine (zAV _ _ _ _).mono ?_;rintro e w2 ⟨rfl,rfl⟩;(first | rw [t1] | rw [t2]);exact ⟨rfl,_,rfl⟩)))
        refine wpQuiet_nil ?_
        rintro _ ⟨xq,rfl⟩
        have G2:Hid (Below wb.heap.size wb (W xq)∧Below w.heap.size w (W xq)):=HBW.out xq
        clear y0 y1 y2 y3 y4 y5 y6
        generalize W xq=wq at G2 ⊢
        go_wp2_with fail
        go_ret
        exact ⟨zAH HF.out.symm,G2.out.2⟩
      | true =>
      cases t3:bOf (zBD x.k x.t x.h x.e) with
      | false =>
        have HF:Hid (tok=false):=HNO.out fun h0=>by have h:=HSI.out.1 h0;rw [zAW (h.2.2)] at t3;cases t3
        refine Qc.zAF (W:=W) (by kernel_rfl) (by kernel_rfl) (QI.out _ Qc.zAI) ?_
        repeat (go_big_quiet_step (first | (go_at_call 112;refine (zAa _ _ _ _ _).mono ?_;rintro e w2 ⟨rfl,b2⟩;rw [t3];exact ⟨rfl,Qc.back QI.out QO.out b2⟩) | (go_at_call 56;refine (zAV _ _ _ _).mono ?_;rintro e w2 ⟨rfl,rfl⟩;(first | rw [t1] | rw [t2]);exact ⟨rfl,_,rfl⟩)))
        refine wpQuiet_nil ?_
        rintro _ ⟨xq,rfl⟩
        have G2:Hid (Below wb.heap.size wb (W xq)∧Below w.heap.size w (W xq)):=HBW.out xq
        clear y0 y1 y2 y3 y4 y5 y6
        generalize W xq=wq at G2 ⊢
        go_wp2_with fail
        go_ret
        exact ⟨zAH HF.out.symm,G2.out.2⟩
      | true =>
      have HSO:Hid (SOne (pc ss 0) x):=HSI.out.2 ⟨t1,t2,(Classical.byContradiction fun hn=>by rw [zAM hn] at t3;cases t3)⟩
      refine Qc.zAF (W:=W) (by kernel_rfl) (by kernel_rfl) (QI.out _ Qc.zAI) ?_
      repeat (go_big_quiet_step (first | (go_at_call 112;refine (zAa _ _ _ _ _).mono ?_;rintro e w2 ⟨rfl,b2⟩;rw [t3];exact ⟨rfl,Qc.back QI.out QO.out b2⟩) | (go_at_call 56;refine (zAV _ _ _ _).mono ?_;rintro e w2 ⟨rfl,rfl⟩;(first | rw [t1] | rw [t2]);exact ⟨rfl,_,rfl⟩)))
      refine wpQuiet_nil ?_
      rintro _ ⟨xq,rfl⟩
      have G2:Hid (Below wb.heap.size wb (W xq)∧Below w.heap.size w (W xq)):=HBW.out xq
      clear y0 y1 y2 y3 y4 y5 y6
      generalize W xq=wq at G2 ⊢
      go_wp2_with fail
      exact ⟨⟨0+1,by omega,by go_num,⟨HYS.out HSO.out,G2.out.1⟩⟩,by simp [intOf];omega⟩
     ·obtain ⟨j,rfl⟩ : ∃ j,k=j+1:=⟨k - 1,by omega⟩
      obtain ⟨p,hp⟩:=Tw.get_at (xs:=ss) (k:=j) (by omega)
      have HSI:Hid (SOne (pc ss (j+1)) x ↔ (inB x.c 0 255=true∧inB x.s 1 65535=true∧zBD x.k x.t x.h x.e∧p.c<x.c)):=seen_iff HKX.out.1 hp
      have y7:=fun q=>(HY.out _ (QO.out q)).2.2.1 j p hp
      have r1:(0:Int)<(j:Int)+1:=by omega
      have r2:(j:Int)+1<(ss.length:Int):=by omega
      have r3:(j:Int)<(ss.length:Int):=by omega
      clear hp
      cases t1:inB x.c 0 255 with
      | false =>
        have HF:Hid (tok=false):=HNO.out fun h0=>by have h:=HSI.out.1 h0;have:=h.1;rw [t1] at this;cases this
        refine Qc.zAF (W:=W) (by kernel_rfl) (by kernel_rfl) (QI.out _ Qc.zAI) ?_
        repeat (go_big_quiet_step (first | (go_at_call 112;refine (zAa _ _ _ _ _).mono ?_;rintro e w2 ⟨rfl,b2⟩;rw [t3];exact ⟨rfl,Qc.back QI.out QO.out b2⟩) | (go_at_call 56;refine (zAV _ _ _ _).mono ?_;rintro e w2 ⟨rfl,rfl⟩;(first | rw [t1]);exact ⟨rfl,_,rfl⟩)))
        refine wpQuiet_nil ?_
        rintro _ ⟨xq,rfl⟩
        have G2:Hid (Below wb.heap.size wb (W xq)∧Below w.heap.size w (W xq)):=HBW.out xq
        clear y0 y1 y2 y3 y4 y5 y6 y7
        generalize W xq=wq at G2 ⊢
        go_wp2_with fail
        go_ret
        exact ⟨zAH HF.out.symm,G2.out.2⟩
      | true =>
      cases t2:inB x.s 1 65535 with
      | false =>
        have HF:Hid (tok=false):=HNO.out fun h0=>by have h:=HSI.out.1 h0;have:=h.2.1;rw [t2] at this;cases this
        refine Qc.zAF (W:=W) (by kernel_rfl) (by kernel_rfl) (QI.out _ Qc.zAI) ?_
        repeat (go_big_quiet_step (first | (go_at_call 112;refine (zAa _ _ _ _ _).mono ?_;rintro e w2 ⟨rfl,b2⟩;rw [t3];exact ⟨rfl,Qc.back QI.out QO.out b2⟩) | (go_at_call 56;refine (zAV _ _ _ _).mono ?_;rintro e w2 ⟨rfl,rfl⟩;(first | rw [t1] | rw [t2]);exact ⟨rfl,_,rfl⟩)))
        refine wpQuiet_nil ?_
        rintro _ ⟨xq,rfl⟩
        have G2:Hid (Below wb.heap.size wb (W xq)∧Below w.heap.size w (W xq)):=HBW.out xq
        clear y0 y1 y2 y3 y4 y5 y6 y7
        generalize W xq=wq at G2 ⊢
        go_wp2_with fail
        go_ret
        exact ⟨zAH HF.out.symm,G2.out.2⟩
      | true =>
      cases t3:bOf (zBD x.k x.t x.h x.e) with
      | false =>
        have HF:Hid (tok=false):=HNO.out fun h0=>by have h:=HSI.out.1 h0;rw [zAW (h.2.2.1)] at t3;cases t3
        refine Qc.zAF (W:=W) (by kernel_rfl) (by kernel_rfl) (QI.out _ Qc.zAI) ?_
        repeat (go_big_quiet_step (first | (go_at_call 112;refine (zAa _ _ _ _ _).mono ?_;rintro e w2 ⟨rfl,b2⟩;rw [t3];exact ⟨rfl,Qc.back QI.out QO.out b2⟩) | (go_at_call 56;refine (zAV _ _ _ _).mono ?_;rintro e w2 ⟨rfl,rfl⟩;(first | rw [t1] | rw [t2]);exact ⟨rfl,_,rfl⟩)))
        refine wpQuiet_nil ?_
        rintro _ ⟨xq,rfl⟩
        have G2:Hid (Below wb.heap.size wb (W xq)∧Below w.heap.size w (W xq)):=HBW.out xq
        clear y0 y1 y2 y3 y4 y5 y6 y7
        generalize W xq=wq at G2 ⊢
        go_wp2_with fail
        go_ret
        exact ⟨zAH HF.out.symm,G2.out.2⟩
      | true =>
      by_cases t4:x.c≤p.c
      ·have t4':decide (x.c≤p.c)=true:=decide_eq_true t4
       have HF:Hid (tok=false):=HNO.out fun h0=>by have h:=(HSI.out.1 h0).2.2.2;omega
       refine Qc.zAF (W:=W) (by kernel_rfl) (by kernel_rfl) (QI.out _ Qc.zAI) ?_
       repeat (go_big_quiet_step (first | (go_at_call 112;refine (zAa _ _ _ _ _).mono ?_;rintro e w2 ⟨rfl,b2⟩;rw [t3];exact ⟨rfl,Qc.back QI.out QO.out b2⟩) | (go_at_call 56;refine (zAV _ _ _ _).mono ?_;rintro e w2 ⟨rfl,rfl⟩;(first | rw [t1] | rw [t2]);exact ⟨rfl,_,rfl⟩)))
       refine wpQuiet_nil ?_
       rintro _ ⟨xq,rfl⟩
       have G2:Hid (Below wb.heap.size wb (W xq)∧Below w.heap.size w (W xq)):=HBW.out xq
       clear y0 y1 y2 y3 y4 y5 y6 y7
       generalize W xq=wq at G2 ⊢
       go_wp2_with fail
       go_ret
       exact ⟨zAH HF.out.symm,G2.out.2⟩
      ·have t4':decide (x.c≤p.c)=false:=decide_eq_false t4
       have HSO:Hid (SOne (pc ss (j+1)) x):=HSI.out.2 ⟨t1,t2,(Classical.byContradiction fun hn=>by rw [zAM hn] at t3;cases t3),by omega⟩
       refine Qc.zAF (W:=W) (by kernel_rfl) (by kernel_rfl) (QI.out _ Qc.zAI) ?_
       repeat (go_big_quiet_step (first | (go_at_call 112;refine (zAa _ _ _ _ _).mono ?_;rintro e w2 ⟨rfl,b2⟩;rw [t3];exact ⟨rfl,Qc.back QI.out QO.out b2⟩) | (go_at_call 56;refine (zAV _ _ _ _).mono ?_;rintro e w2 ⟨rfl,rfl⟩;(first | rw [t1] | rw [t2]);exact ⟨rfl,_,rfl⟩)))
       refine wpQuiet_nil ?_
       rintro _ ⟨xq,rfl⟩
       have G2:Hid (Below wb.heap.size wb (W xq)∧Below w.heap.size w (W xq)):=HBW.out xq
       clear y0 y1 y2 y3 y4 y5 y6 y7
       generalize W xq=wq at G2 ⊢
       go_wp2_with fail
       exact ⟨⟨(j+1)+1,by omega,by go_num,⟨HYS.out HSO.out,G2.out.1⟩⟩,by simp [intOf];omega⟩
    ·obtain rfl:k=ss.length:=by omega
     have HF:Hid (tok=true):=HT.out.symm.trans (zAW (HT2.out.2 ⟨HLS.out,fun j y hy=>HK.out.1 j y (zAw hy) hy⟩))
     have HBF:Hid (Below w.heap.size w wi):=hbw
     clear hbw hr0
     go_wp2_with fail
     go_ret
     exact ⟨zAH HF.out.symm,HBF.out⟩
end Go.Proofs.YticokpbelgpfmaaGreat.Tq
namespace Go.Proofs.YticokpbelgpfmaaGreat.Da
open Go.RowKit Tb Tw Tp Rq
structure An where
 k:Int
 t:Int
 h:Int
 e:Int
def tell (k:Int) (x:Lk):An:=⟨k,x.t,x.h,x.e⟩
def bare (k:Int):An:=⟨k,0,-1,0⟩
def putAt {α:Type} (xs:List α) (k:Nat) (x:α):List α:=xs.take k ++ x :: xs.drop k
theorem putAt_len {α:Type} {xs:List α} {k:Nat} {x:α} (hk:k≤xs.length):(putAt xs k x).length=xs.length+1:=by
 unfold putAt
 simp
 omega
theorem zBc {α:Type} {xs:List α} {k:Nat} {x:α} (hk:k≤xs.length) (i:Nat):(putAt xs k x)[i]?=if i<k then xs[i]? else if i=k then some x else xs[i - 1]?:=by
 unfold putAt
 by_cases h1:i<k
 ·rw [if_pos h1,List.getElem?_append_left (by rw [List.length_take];omega),List.getElem?_take,if_pos h1]
 ·rw [if_neg h1,List.getElem?_append_right (by rw [List.length_take];omega),List.length_take,Nat.min_eq_left hk]
  by_cases h2:i=k
  ·subst h2;simp
  ·rw [if_neg h2]
   obtain ⟨m,rfl⟩ : ∃ m,i=k+m+1:=⟨i - k - 1,by omega⟩
   rw [show k+m+1 - k=m+1 by omega,List.getElem?_cons_succ,List.getElem?_drop]
   congr 1
def plP {α:Type} (p:α→Bool):List α→Nat
 | []=>0
 | x :: r=>if p x=true then plP p r+1 else 0
theorem plP_le {α:Type} {p:α→Bool}:∀ xs:List α,plP p xs≤xs.length
 | []=>by simp [plP]
 | x :: r=>by
   have:=plP_le (p:=p) r
   unfold plP
   split <;> simp <;> omega
theorem zAt {α:Type} {p:α→Bool}:∀ (xs:List α) (i:Nat) (x:α),i<plP p xs→xs[i]?=some x→p x=true
 | [],i,x,h,_=>by simp [plP] at h
 | y :: r,i,x,h,hx=>by
   unfold plP at h
   by_cases e:p y=true
   ·rw [if_pos e] at h
    cases i with
    | zero=>simp at hx;subst hx;exact e
    | succ i=>exact zAt r i x (by omega) (by simpa using hx)
   ·rw [if_neg e] at h;omega
theorem zBd {α:Type} {p:α→Bool}:∀ (xs:List α) (x:α),xs[plP p xs]?=some x→p x=false
 | [],x,h=>by simp at h
 | y :: r,x,h=>by
   unfold plP at h
   by_cases e:p y=true
   ·rw [if_pos e,List.getElem?_cons_succ] at h
    exact zBd r x h
   ·rw [if_neg e] at h
    simp at h
    subst h
    simpa using e
def fiP {α:Type} (p:α→Bool):List α→Option Nat
 | []=>none
 | x :: r=>if p x=true then some 0 else (fiP p r).map (·+1)
theorem zBC {α:Type} {p:α→Bool}:∀ (xs:List α) (k:Nat),fiP p xs=some k→∃ x,xs[k]?=some x∧p x=true
 | [],k,h=>by simp [fiP] at h
 | y :: r,k,h=>by
   unfold fiP at h
   by_cases e:p y=true
   ·rw [if_pos e] at h;cases h;exact ⟨y,rfl,e⟩
   ·rw [if_neg e] at h
    obtain ⟨m,hm,rfl⟩:=Option.map_eq_some_iff.1 h
    obtain ⟨x,h1,h2⟩:=zBC r m hm
    exact ⟨x,by simpa using h1,h2⟩
theorem fiP_none {α:Type} {p:α→Bool}:∀ (xs:List α),fiP p xs=none→∀ (k:Nat) (x:α),xs[k]?=some x→p x=false
 | [],_,k,x,hx=>by simp at hx
 | y :: r,h,k,x,hx=>by
   unfold fiP at h
   by_cases e:p y=true
   ·rw [if_pos e] at h;cases h
   ·rw [if_neg e] at h
    have h1:fiP p r=none:=by simpa using h
    cases k with
    | zero=>simp at hx;subst hx;simpa using e
    | succ k=>exact fiP_none r h1 k x (by simpa using hx)
def less (a b:ByteArray):Bool:=Op.bytesLess a.toList b.toList
theorem after_iff (a b:ByteArray):(Op.bytesLess b.toList a.toList || b.toList == a.toList)=false ↔ less a b=true:=by
 unfold less
 rw [Tq.zBO a.toList b.toList]
 cases (Op.bytesLess b.toList a.toList || b.toList == a.toList) <;> simp
theorem toList_inj {a b:ByteArray} (h:a.toList=b.toList):a=b:=by
 rw [Lib.toList_data,Lib.toList_data] at h
 cases a
 cases b
 have h2:=Array.toList_inj.1 h
 simp only at h2
 rw [h2]
theorem less_or {a b:ByteArray} (h1:less a b=false) (h2:a ≠ b):less b a=true:=by
 unfold less at h1 ⊢
 rw [Tq.zBO b.toList a.toList,h1,Bool.false_or]
 have:(a.toList == b.toList)=false:=by rw [beq_eq_false_iff_ne];exact fun e=>h2 (toList_inj e)
 rw [this]
 rfl
def plc (ls:List Lk) (nm:ByteArray):Nat:=plP (fun x=>less x.n nm) ls
def idx (ls:List Lk) (nm:ByteArray):Option Nat:=fiP (fun x=>x.n.toList == nm.toList) ls
theorem pn_put {ls:List Lk} {k:Nat} {x:Lk} (hk:k≤ls.length) (i:Nat):pn (putAt ls k x) i=if i≤k then pn ls i else if i=k+1 then x.n else pn ls (i - 1):=by
 unfold pn
 by_cases h0:i=0
 ·subst h0;simp
 ·rw [if_neg h0,List.getD_eq_getElem?_getD,zBc hk]
  by_cases h1:i≤k
  ·rw [if_pos h1,if_pos (by omega),if_neg h0,List.getD_eq_getElem?_getD]
  ·rw [if_neg h1,if_neg (by omega)]
   by_cases h2:i=k+1
   ·rw [if_pos h2,if_pos (by omega)];rfl
   ·rw [if_neg h2,if_neg (by omega),if_neg (by omega),List.getD_eq_getElem?_getD]
theorem put_ok {nx:Int} {ls:List Lk} {x:Lk} (h:LsOK nx ls) (hn:idx ls x.n=none) (hx:opB x.n=true) (he:less ⟨#[]⟩ x.n=true) (ht:inB x.t 0 (nx - 1)=true) (hh:HdOK x):LsOK nx (putAt ls (plc ls x.n) x):=by
 have hk:=plP_le (p:=fun y:Lk=>less y.n x.n) ls
 unfold plc
 intro i l hl
 rw [zBc hk] at hl
 rw [pn_put hk]
 generalize hK:plP (fun y:Lk=>less y.n x.n) ls=k at hk hl ⊢
 by_cases h1:i<k
 ·rw [if_pos h1] at hl
  rw [if_pos (by omega)]
  exact h i l hl
 ·rw [if_neg h1] at hl
  by_cases h2:i=k
  ·rw [if_pos h2] at hl
   obtain rfl:x=l:=by simpa using hl
   rw [if_pos (by omega)]
   refine ⟨(after_iff _ _).2 ?_,hx,ht,hh⟩
   subst h2
   unfold pn
   by_cases h0:i=0
   ·rw [if_pos h0];exact he
   ·rw [if_neg h0,List.getD_eq_getElem?_getD]
    obtain ⟨y,hy⟩ : ∃ y,ls[i - 1]?=some y:=⟨_,List.getElem?_eq_getElem (show i - 1<ls.length by omega)⟩
    rw [hy]
    exact zAt (p:=fun y:Lk=>less y.n x.n) ls (i - 1) y (by omega) hy
  ·rw [if_neg h2] at hl
   rw [if_neg (by omega)]
   obtain ⟨a1,a2,a3,a4⟩:=h (i - 1) l hl
   by_cases h3:i=k+1
   ·rw [if_pos h3]
    refine ⟨(after_iff _ _).2 (less_or ?_ ?_),a2,a3,a4⟩
    ·have:i - 1=k:=by omega
     rw [this,← hK] at hl
     exact zBd (p:=fun y:Lk=>less y.n x.n) ls l hl
    ·intro e
     have:=fiP_none (p:=fun y:Lk=>y.n.toList == x.n.toList) ls hn (i - 1) l hl
     rw [e] at this
     simp at this
   ·rw [if_neg h3]
    exact ⟨a1,a2,a3,a4⟩
theorem set_ok {nx nx':Int} {ls:List Lk} {k:Nat} {x y:Lk} (h:LsOK nx ls) (hle:nx≤nx') (hx:ls[k]?=some x) (hn:y.n=x.n) (ht:inB y.t 0 (nx' - 1)=true) (hh:HdOK y):LsOK nx' (ls.set k y):=by
 have hp:∀ i,pn (ls.set k y) i=pn ls i:=fun i=>by
  unfold pn
  by_cases h0:i=0
  ·rw [if_pos h0,if_pos h0]
  ·rw [if_neg h0,if_neg h0,List.getD_eq_getElem?_getD,List.getD_eq_getElem?_getD,List.getElem?_set]
   by_cases e:k=i - 1
   ·rw [if_pos e]
    subst e
    rw [if_pos (List.getElem?_eq_some_iff.1 hx).1,hx]
    exact hn
   ·rw [if_neg e]
 intro i l hl
 rw [hp]
 rw [List.getElem?_set] at hl
 by_cases e:k=i
 ·subst e
  rw [if_pos rfl,if_pos (List.getElem?_eq_some_iff.1 hx).1] at hl
  obtain rfl:y=l:=by simpa using hl
  obtain ⟨a1,a2,_,_⟩:=h k x hx
  exact ⟨by rw [hn];exact a1,by rw [hn];exact a2,ht,hh⟩
 ·rw [if_neg e] at hl
  obtain ⟨a1,a2,a3,a4⟩:=h i l hl
  have b:=zAQ a3
  exact ⟨a1,a2,zAf b.1 (by omega),a4⟩
theorem ls_up {nx nx':Int} {ls:List Lk} (h:LsOK nx ls) (hle:nx≤nx'):LsOK nx' ls:=fun i l hl=>by
 obtain ⟨a1,a2,a3,a4⟩:=h i l hl
 have b:=zAQ a3
 exact ⟨a1,a2,zAf b.1 (by omega),a4⟩
end Go.Proofs.YticokpbelgpfmaaGreat.Da
