/- Texts put together: Jk, Jl, Jm. -/
import Derived.Test.YticokpbelgpfmaaGreatMa14
namespace Go.Proofs.YticokpbelgpfmaaGreat.Jk
open Go.RowKit By Ap Tb Tw Mw Wa Bk Tp Da Ja Jb Jc
open Lo (LkA uV clL OwnL zAG zAK Apart zAP OwnL.below OwnL.slice OwnL.kept OwnL.lt OwnL.mono atL)
open Tx (zAA zAC zAE zAJ zAD)
open Je Jf Jd Jh Ji Jj Rq
noncomputable def sfC (T:Tab) (now:Int):Int:=if bOf (TOK T)=false then 1 else if inB now 0 1000000000=false then 4 else if 999000<T.nx then 13 else 0
theorem timeOK_any (now:Int) (w:World):Calls Tryz.prog 91 #[.int .i64 now] w fun e w'=>e=.returned (.bool (inB now 0 1000000000))∧w'=w:=by
 go_enter Tryz.func91,Tryz.ntmps91
 go_wp2_with (go_at_call 60;refine (zAO _ _ _ _).mono ?_;rintro e w1 ⟨rfl,rfl⟩)
 go_ret
 exact ⟨rfl,rfl⟩
set_option maxRecDepth 100000 in
set_option maxHeartbeats 1600000 in
theorem stepFault_any (T:Tab) (vl vs:Value) (now:Int) (w:World) (hl:RowL w vl T.ls) (hs:RowS w vs T.ss) (hw:∀ x ∈ T.ls,x.n.size≤1048576∧x.ws.length≤1048576) (hy1:T.ls.length≤1048576) (hy2:T.ss.length≤1048576) :
 Calls Tryz.prog 64 #[tabV T.tm T.nx vl vs,.int .i64 now] w fun e w'=>e=.returned (.int .i64 (sfC T now))∧Below w.heap.size w w':=by
 obtain ⟨la,lc,rfl⟩:=RowG.slice hl
 obtain ⟨sa,sc,rfl⟩:=RowG.slice hs
 have HOK:Hid (∀ W,Below w.heap.size w W→Calls Tryz.prog 15 #[.agg #[.int .i64 T.tm,.int .i64 T.nx,.slice la T.ls.length lc,.slice sa T.ss.length sc]] W fun e w'=>e=.returned (.bool (bOf (TOK T)))∧Below W.heap.size W w'):=fun W hW=>implTableOK_any T.tm T.nx _ _ T.ls T.ss W (hl.below hW) (hs.below hW) hw hy1 hy2
 have HB:Hid (Below w.heap.size w (w.alloc (.cells #[.int .i64 T.tm,.int .i64 T.nx,.slice la T.ls.length lc,.slice sa T.ss.length sc] 30))∧(w.alloc (.cells #[.int .i64 T.tm,.int .i64 T.nx,.slice la T.ls.length lc,.slice sa T.ss.length sc] 30)).heap[w.heap.size]?=some (.cells #[.int .i64 T.tm,.int .i64 T.nx,.slice la T.ls.length lc,.slice sa T.ss.length sc] 30 (0,0))):=⟨zAD _ _,zAJ _ _ _⟩
 clear hl hs hw
 unfold tabV
 go_enter Tryz.func64,Tryz.ntmps64
 go_upto_region 1 with fail
 generalize w.alloc (.cells #[.int .i64 T.tm,.int .i64 T.nx,.slice la T.ls.length lc,.slice sa T.ss.length sc] 30)=w1 at HB ⊢
 have c0:=(zAA HB.out.2 0 (x:=.int .i64 T.tm) rfl).1
 have c1:=(zAA HB.out.2 1 (x:=.int .i64 T.nx) rfl).1
 have c2:=(zAA HB.out.2 2 (x:=.slice la T.ls.length lc) rfl).1
 have c3:=(zAA HB.out.2 3 (x:=.slice sa T.ss.length sc) rfl).1
 cases hK:bOf (TOK T) with
 | false =>
   have HE:Hid (sfC T now=1):=by show _=_;unfold sfC;rw [if_pos hK]
   rw [hK] at HOK
   go_wp2_with (go_at_call 15;refine (HOK.out _ HB.out.1).mono ?_;rintro e w2 ⟨rfl,b2⟩;have B2:Hid (Below w.heap.size w w2∧w2.heap[w.heap.size]?=some (.cells #[.int .i64 T.tm,.int .i64 T.nx,.slice la T.ls.length lc,.slice sa T.ss.length sc] 30 (0,0))):=⟨HB.out.1.trans (b2.mono HB.out.1.size),(b2.block _ (Array.getElem?_eq_some_iff.1 HB.out.2).1).trans HB.out.2⟩;have d1:=(zAA B2.out.2 1 (x:=.int .i64 T.nx) rfl).1;clear b2)
   go_ret
   exact ⟨by rw [HE.out];rfl,B2.out.1⟩
 | true =>
   rw [hK] at HOK
   cases hI:inB now 0 1000000000 with
   | false =>
     have HE:Hid (sfC T now=4):=by show _=_;unfold sfC;rw [if_neg (by rw [hK];decide),if_pos hI]
     go_wp2_with (first | (go_at_call 15;refine (HOK.out _ HB.out.1).mono ?_;rintro e w2 ⟨rfl,b2⟩;have B2:Hid (Below w.heap.size w w2∧w2.heap[w.heap.size]?=some (.cells #[.int .i64 T.tm,.int .i64 T.nx,.slice la T.ls.length lc,.slice sa T.ss.length sc] 30 (0,0))):=⟨HB.out.1.trans (b2.mono HB.out.1.size),(b2.block _ (Array.getElem?_eq_some_iff.1 HB.out.2).1).trans HB.out.2⟩;have d1:=(zAA B2.out.2 1 (x:=.int .i64 T.nx) rfl).1;clear b2) | (go_at_call 91;refine (timeOK_any _ _).mono ?_;rintro e w3 ⟨rfl,rfl⟩;rw [hI]))
     go_ret
     exact ⟨by rw [HE.out];rfl,B2.out.1⟩
   | true =>
     by_cases hN:999000<T.nx
     ·have HE:Hid (sfC T now=13):=by show _=_;unfold sfC;rw [if_neg (by rw [hK];decide),if_neg (by rw [hI];decide),if_pos hN]
      go_wp2_with (first | (go_at_call 15;refine (HOK.out _ HB.out.1).mono ?_;rintro e w2 ⟨rfl,b2⟩;have B2:Hid (Below w.heap.size w w2∧w2.heap[w.heap.size]?=some (.cells #[.int .i64 T.tm,.int .i64 T.nx,.slice la T.ls.length lc,.slice sa T.ss.length sc] 30 (0,0))):=⟨HB.out.1.trans (b2.mono HB.out.1.size),(b2.block _ (Array.getElem?_eq_some_iff.1 HB.out.2).1).trans HB.out.2⟩;have d1:=(zAA B2.out.2 1 (x:=.int .i64 T.nx) rfl).1;clear b2) | (go_at_call 91;refine (timeOK_any _ _).mono ?_;rintro e w3 ⟨rfl,rfl⟩;rw [hI]))
      go_ret
      exact ⟨by rw [HE.out];rfl,B2.out.1⟩
     ·have HE:Hid (sfC T now=0):=by show _=_;unfold sfC;rw [if_neg (by rw [hK];decide),if_neg (by rw [hI];decide),if_neg hN]
      go_wp2_with (first | (go_at_call 15;refine (HOK.out _ HB.out.1).mono ?_;rintro e w2 ⟨rfl,b2⟩;have B2:Hid (Below w.heap.size w w2∧w2.heap[w.heap.size]?=some (.cells #[.int .i64 T.tm,.int .i64 T.nx,.slice la T.ls.length lc,.slice sa T.ss.length sc] 30 (0,0))):=⟨HB.out.1.trans (b2.mono HB.out.1.size),(b2.block _ (Array.getElem?_eq_some_iff.1 HB.out.2).1).trans HB.out.2⟩;have d1:=(zAA B2.out.2 1 (x:=.int .i64 T.nx) rfl).1;clear b2) | (go_at_call 91;refine (timeOK_any _ _).mono ?_;rintro e w3 ⟨rfl,rfl⟩;rw [hI]))
      go_ret
      exact ⟨by rw [HE.out];rfl,B2.out.1⟩
end Go.Proofs.YticokpbelgpfmaaGreat.Jk
namespace Go.Proofs.YticokpbelgpfmaaGreat.Jl
open Go.RowKit By Ap Tb Tw Mw Wa Bk Tp Da Ja Jb Jc
open Lo (LkA uV clL OwnL zAG zAK Apart zAP OwnL.below OwnL.slice OwnL.kept OwnL.lt OwnL.mono atL)
open Tx (zAA zAC zAE zAJ zAD)
open Je Jf Jd Jg Jh Ji Jj Jk Rq
def t00:Tab:=⟨0,0,[],[]⟩
theorem sf_0 {T:Tab} {now:Int} (h:sfC T now=0):TOK T∧(0≤now∧now≤1000000000)∧T.nx≤999000:=by
 unfold sfC at h
 split at h
 ·omega
 ·split at h
  ·omega
  ·split at h
   ·omega
   ·rename_i h1 h2 h3
    exact ⟨Lp.tok_true (by simpa using h1),zAQ (by simpa using h2),by omega⟩
theorem sf_13 {T:Tab} {now:Int} (h:sfC T now=13):TOK T:=by
 unfold sfC at h
 split at h
 ·omega
 ·rename_i h1
  exact Lp.tok_true (by simpa using h1)
theorem sf_in (T:Tab) (now:Int):sfC T now=0 ∨ sfC T now=1 ∨ sfC T now=4 ∨ sfC T now=13:=by
 unfold sfC
 split
 ·exact .inr (.inl rfl)
 ·split
  ·exact .inr (.inr (.inl rfl))
  ·split
   ·exact .inr (.inr (.inr rfl))
   ·exact .inl rfl
theorem tabO_mono {w:World} {B B':Nat} {vl vs:Value} {T:Tab} {ps:List LkA} (h:TabO w B vl vs T ps) (hb:B'≤B):TabO w B' vl vs T ps:=⟨h.ol.mono hb,h.os.mono hb,fun q hq=>(h.ow q hq).mono hb,h.ap,h.eq⟩
theorem tabO_kept {w w':World} {B:Nat} {vl vs:Value} {T:Tab} {ps:List LkA} (h:TabO w B vl vs T ps) (hk:∀ g,B≤g→g<w.heap.size→w'.heap[g]?=w.heap[g]?):TabO w' B vl vs T ps:=⟨h.ol.kept fun g hg=>hk g (h.ol.lt g hg).1 (h.ol.lt g hg).2,h.os.kept fun g hg=>hk g (h.os.lt g hg).1 (h.os.lt g hg).2,fun q hq=>(h.ow q hq).kept fun g hg=>hk g ((h.ow q hq).lt g hg).1 ((h.ow q hq).lt g hg).2,h.ap,h.eq⟩
theorem tabO_nil (w:World) (B:Nat):TabO w B (.slice none 0 0) (.slice none 0 0) t00 []:=⟨World.ownsRow_nil _ _ _ _,OwnS.nil _ _,fun q hq=>(by cases hq),fun i j x y hx=>(by simp at hx),rfl⟩
theorem pc_nn {ss:List Sn} (h:SsOK ss):∀ k,k≤ss.length→0≤pc ss k
 | 0,_=>by simp [pc]
 | k+1,hk=>by
   obtain ⟨y,hy⟩:=Tw.get_at (xs:=ss) (k:=k) (by omega)
   rw [pc_succ hy]
   have h1:=pc_nn h k (by omega)
   have h2:=zAQ (h k y hy).1
   omega
theorem tok_bk {T:Tab} (h:TOK T):(NmA T.ls∧ClA T.ss∧(∀ x ∈ T.ls,x.n.size≤1000000)∧∀ s ∈ T.ss,0≤s.c∧s.c≤255)∧(∀ x ∈ T.ls,x.n.size≤1048576∧x.ws.length≤1000)∧T.ls.length≤4∧T.ss.length≤6:=by
 obtain ⟨_,_,h2,h3,h4,h5⟩:=h
 have hn:∀ x ∈ T.ls,x.n.size≤1000000:=fun x hx=>by
  obtain ⟨k,hk⟩:=List.mem_iff_getElem?.1 hx
  have:=(h3 k x hk).2.1
  unfold opB at this
  simp at this
  omega
 refine ⟨⟨NmA.of h3,ClA.of h5,hn,fun s hs=>?_⟩,fun x hx=>⟨by have:=hn x hx;omega,?_⟩,h2,h4⟩
 ·obtain ⟨k,hk⟩:=List.mem_iff_getElem?.1 hs
  have h6:=zAQ (h5 k s hk).1
  have:=pc_nn h5 k (by have:=(List.getElem?_eq_some_iff.1 hk).1;omega)
  omega
 ·obtain ⟨k,hk⟩:=List.mem_iff_getElem?.1 hx
  rcases (h3 k x hk).2.2.2 with ⟨_,_,h6⟩ | ⟨_,_,_,h6,_⟩
  ·omega
  ·omega
theorem open_any {T:Tab} (hT:TOK T) (vl vs:Value) (w:World) (hl:RowL w vl T.ls) (hs:RowS w vs T.ss) :
 Calls Tryz.prog 65 #[tabV T.tm T.nx vl vs] w fun e w'=>∃ bL bS p qs,e=.returned (.pointer (some ⟨p,0,none⟩))∧BK w w' w.heap.size p bL bS T qs:=by
 obtain ⟨⟨h1,h2,h3,h4⟩,h5,h6,h7⟩:=tok_bk hT
 refine (openBook_ap T.tm T.nx vl vs T.ls T.ss w hl hs h5 h4 (by omega) (by omega)).mono ?_
 rintro e w' ⟨b,bL,bS,p,ps,rfl,ho,he⟩
 obtain ⟨qs,hq⟩:=ho.bk he h1 h2 h3 h4
 exact ⟨bL,bS,p,qs,rfl,hq⟩
end Go.Proofs.YticokpbelgpfmaaGreat.Jl
namespace Go.Proofs.YticokpbelgpfmaaGreat.Jm
open Go.RowKit By Ap Tb Tw Mw Wa Bk Tp Da Ja Jb Jc
open Lo (LkA uV clL OwnL zAG zAK Apart zAP OwnL.below OwnL.slice OwnL.kept OwnL.lt OwnL.mono OwnL.row)
open Tx (zAA zAC zAE zAJ zAD)
open Jj Jk Jl Rq
open Ea (OwnT l05Expire_any)
open Tq (zBF)
def TabR (w:World) (vl vs:Value) (T:Tab):Prop:=RowL w vl T.ls∧RowS w vs T.ss
theorem TabR.below {w w':World} {vl vs:Value} {T:Tab} (h:TabR w vl vs T) (hb:Below w.heap.size w w'):TabR w' vl vs T:=⟨h.1.below hb,h.2.below hb⟩
structure TabE (w:World) (B:Nat) (vl vs:Value) (T:Tab) (ps:List LkA):Prop where
 ol:OwnL w B vl ps
 os:OwnS w B vs T.ss
 ow:∀ q ∈ ps,OwnW w B (uV q) q.1.ws
 eq:ps.map (·.1)=T.ls
theorem TabE.row {w:World} {B:Nat} {vl vs:Value} {T:Tab} {ps:List LkA} (h:TabE w B vl vs T ps):TabR w vl vs T:=⟨by rw [← h.eq];exact h.ol.row fun q hq=>(h.ow q hq).row,h.os.row⟩
theorem TabE.kept {w w':World} {B:Nat} {vl vs:Value} {T:Tab} {ps:List LkA} (h:TabE w B vl vs T ps) (hk:∀ g,B≤g→g<w.heap.size→w'.heap[g]?=w.heap[g]?):TabE w' B vl vs T ps:=⟨h.ol.kept fun g hg=>hk g (h.ol.lt g hg).1 (h.ol.lt g hg).2,h.os.kept fun g hg=>hk g (h.os.lt g hg).1 (h.os.lt g hg).2,fun q hq=>(h.ow q hq).kept fun g hg=>hk g ((h.ow q hq).lt g hg).1 ((h.ow q hq).lt g hg).2,h.eq⟩
theorem TabE.nil (w:World) (B:Nat):TabE w B (.slice none 0 0) (.slice none 0 0) t00 []:=⟨World.ownsRow_nil _ _ _ _,OwnS.nil _ _,fun q hq=>(by cases hq),rfl⟩
theorem own_tab {T:Tab} (vl vs:Value) (w:World) (h:TabR w vl vs T) (hw:∀ x ∈ T.ls,x.ws.length≤1000) (hy1:T.ls.length≤1000) (hy2:T.ss.length≤1000) :
 Calls Tryz.prog 58 #[tabV T.tm T.nx vl vs] w fun e w'=>∃ a c a' c' ps,e=.returned (.agg #[.int .i64 T.tm,.int .i64 T.nx,.slice a T.ls.length c,.slice a' T.ss.length c'])∧Hid (TabE w' w.heap.size (.slice a T.ls.length c) (.slice a' T.ss.length c') T ps∧Below w.heap.size w w'):=by
 refine (Lo.l05Own_all T.tm T.nx vl vs T.ls T.ss w h.1 h.2 hw hy1 hy2).mono ?_
 rintro e w' ⟨ul,us,ps,rfl,⟨o1,o2,o3,_⟩,o4,b⟩
 obtain ⟨a,c,rfl⟩:=OwnL.slice o1
 obtain ⟨a',c',rfl⟩:=OwnS.slice o4
 have hl:ps.length=T.ls.length:=by rw [← o3,List.length_map]
 rw [hl] at o1 ⊢
 exact ⟨a,c,a',c',ps,rfl,⟨o1,o4,o2,o3⟩,b⟩
theorem in_b (x a b:Int) (w:World):Calls Tryz.prog 56 #[.int .i64 x,.int .i64 a,.int .i64 b] w fun e w'=>e=.returned (.bool (inB x a b))∧w'=w:=zAY x a b w
end Go.Proofs.YticokpbelgpfmaaGreat.Jm
