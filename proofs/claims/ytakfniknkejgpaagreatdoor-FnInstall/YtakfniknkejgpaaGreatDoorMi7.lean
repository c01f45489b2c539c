/- Texts put together: Tr, Rg, Gt. -/
import Derived.Test.YtakfniknkejgpaaGreatDoorMi6
import Derived.Deep.RegionWith
namespace Go.Proofs.YtakfniknkejgpaaGreatDoor.Tp
open Go.RowKit Sl Ap Tx Tb Tw Rq
theorem zBz (x a b:Int) (w:World):Calls Tryz.prog 33 #[.int .i64 x,.int .i64 a,.int .i64 b] w fun e w'=>e=.returned (.bool (inB x a b))∧w=w':=(zAR x a b w).mono fun _ _ ⟨h1,h2⟩=>⟨h1,h2.symm⟩
set_option maxRecDepth 100000 in
set_option maxHeartbeats 1600000 in
theorem zBo (tm nx:Int) (vl vs:Value) (ls:List Lk) (ss:List Sn) (w:World) (hl:RowL w vl ls) (hs:RowS w vs ss) (hw:∀ x ∈ ls,x.n.size≤1048576∧x.ws.length≤1048576) (hy1:ls.length≤1048576) (hy2:ss.length≤1048576) :
 Calls Tryz.prog 65 #[tabV tm nx vl vs] w fun e w'=>e=.returned (.bool (bOf (TOK ⟨tm,nx,ls,ss⟩)))∧Below w.heap.size w w':=by
 obtain ⟨la,lc,rfl⟩:=RowG.slice hl
 obtain ⟨sa,sc,rfl⟩:=RowG.slice hs
 have HTK:Hid (TOK ⟨tm,nx,ls,ss⟩ ↔ (inB tm 0 1000000000=true∧inB nx 1 1000000=true∧ls.length≤4∧LsOK nx ls∧ss.length≤6∧SsOK ss)):=Iff.rfl
 have HWZ:Hid (∀ x ∈ ls,x.n.size≤1048576∧x.ws.length≤1048576):=hw
 unfold tabV
 have HX:Hid (∀ W,Below (w.alloc (.cells #[.int .i64 tm,.int .i64 nx,.slice la ls.length lc,.slice sa ss.length sc] 26)).heap.size (w.alloc (.cells #[.int .i64 tm,.int .i64 nx,.slice la ls.length lc,.slice sa ss.length sc] 26)) W→(W.cell? ⟨w.heap.size,0,none⟩=some (.int .i64 tm)∧W.cell? ⟨w.heap.size,1,none⟩=some (.int .i64 nx)∧W.cell? ⟨w.heap.size,2,none⟩=some (.slice la ls.length lc)∧W.cell? ⟨w.heap.size,3,none⟩=some (.slice sa ss.length sc))∧RowL W (.slice la ls.length lc) ls∧RowS W (.slice sa ss.length sc) ss∧Below w.heap.size w W):=fun W hW=>by
  have h1:=(hW.block w.heap.size (by simp)).trans (heap_alloc_new w _)
  exact ⟨⟨(zAA h1 0 rfl).1,(zAA h1 1 rfl).1,(zAA h1 2 rfl).1,(zAA h1 3 rfl).1⟩,(hl.below (zAD _ _)).below hW,(hs.below (zAD _ _)).below hW,(zAD w _).trans (hW.mono (by simp))⟩
 clear hl hs hw
 generalize HTO:bOf (TOK ⟨tm,nx,ls,ss⟩)=tok
 have HT:Hid (bOf (TOK ⟨tm,nx,ls,ss⟩)=tok):=HTO
 clear HTO
 go_enter Tryz.func65,Tryz.ntmps65
 go_upto_region 1 with fail
 generalize w.alloc (.cells #[.int .i64 tm,.int .i64 nx,.slice la ls.length lc,.slice sa ss.length sc] 26)=wb at HX ⊢
 obtain ⟨⟨x0,x1,x2,x3⟩,_,_,hb0⟩:=HX.out wb (Below.refl _ _)
 have HB0:Hid (Below w.heap.size w wb):=hb0
 clear hb0
 cases h1:inB tm 0 1000000000 with
 | false =>
   have HF:Hid (tok=false):=HT.out.symm.trans (zAP fun h=>by have:=(HTK.out.1 h).1;rw [h1] at this;cases this)
   go_wp2_with (go_at_call 33;refine (zBz _ _ _ _).mono ?_;rintro e w1 ⟨rfl,rfl⟩;rw [h1])
   go_ret
   exact ⟨zAG HF.out.symm,HB0.out⟩
 | true =>
 cases h2:inB nx 1 1000000 with
 | false =>
   have HF:Hid (tok=false):=HT.out.symm.trans (zAP fun h=>by have:=(HTK.out.1 h).2.1;rw [h2] at this;cases this)
   go_wp2_with (go_at_call 33;refine (zBz _ _ _ _).mono ?_;rintro e w1 ⟨rfl,rfl⟩;first | rw [h1] | rw [h2])
   go_ret
   exact ⟨zAG HF.out.symm,HB0.out⟩
 | true =>
 by_cases h3:ls.length≤4
 ·have h3':(ls.length:Int)≤4:=by omega
  have hnx:=zAa h2
  have HLO:Hid (Calls Tryz.prog 91 #[.slice la ls.length lc,.int .i64 nx] wb fun e w'=>e=.returned (.bool (bOf (LsOK nx ls)))∧w'.cell? ⟨w.heap.size,3,none⟩=some (.slice sa ss.length sc)∧Hid (RowS w' (.slice sa ss.length sc) ss∧Below w.heap.size w w')):=(locksOK_any _ ls nx wb (HX.out wb (Below.refl _ _)).2.1 hy1 HWZ.out hnx.1 hnx.2).mono fun e w' ⟨he,hb⟩=>by
   obtain ⟨⟨_,_,_,q3⟩,_,q5,q6⟩:=HX.out w' hb
   exact ⟨he,q3,q5,q6⟩
  cases h4:bOf (LsOK nx ls) with
  | false =>
    have HF:Hid (tok=false):=HT.out.symm.trans (zAP fun h=>by rw [zAY (HTK.out.1 h).2.2.2.1] at h4;cases h4)
    rw [h4] at HLO
    clear h4
    go_wp2_with (first | (go_at_call 33;refine (zBz _ _ _ _).mono ?_;rintro e w1 ⟨rfl,rfl⟩;first | rw [h1] | rw [h2]) | (go_at_call 91;refine HLO.out.mono ?_;rintro e w2 ⟨rfl,q3,Q2⟩;clear x0 x1 x2 x3))
    go_ret
    exact ⟨zAG HF.out.symm,Q2.out.2⟩
  | true =>
    have HLS:Hid (LsOK nx ls):=(show LsOK nx ls from Classical.byContradiction fun hn=>by rw [zAP hn] at h4;cases h4)
    rw [h4] at HLO
    clear h4
    by_cases h5:ss.length≤6
    ·have h5':(ss.length:Int)≤6:=by omega
     have HF:Hid (tok=bOf (SsOK ss)):=by
      show _=_
      rw [← HT.out]
      by_cases hh:SsOK ss
      ·rw [zAY hh,zAY (HTK.out.2 ⟨h1,h2,h3,HLS.out,h5,hh⟩)]
      ·rw [zAP hh,zAP fun h=>hh (HTK.out.1 h).2.2.2.2.2]
     have HSO:Hid (∀ w2,RowS w2 (.slice sa ss.length sc) ss→Below w.heap.size w w2→Calls Tryz.prog 92 #[.slice sa ss.length sc] w2 fun e w'=>e=.returned (.bool tok)∧Below w.heap.size w w'):=fun w2 hr hb=>(seensOK_any _ ss w2 hr hy2).mono fun e w' ⟨he,hb2⟩=>⟨by rw [HF.out];exact he,hb.trans (hb2.mono hb.size)⟩
     go_wp2_with (first | (go_at_call 33;refine (zBz _ _ _ _).mono ?_;rintro e w1 ⟨rfl,rfl⟩;first | rw [h1] | rw [h2]) | (go_at_call 91;refine HLO.out.mono ?_;rintro e w2 ⟨rfl,q3,Q2⟩;clear x0 x1 x2 x3) | (go_at_call 92;refine (HSO.out _ Q2.out.1 Q2.out.2).mono ?_;rintro e w3 ⟨rfl,g3⟩))
     go_ret
     exact ⟨rfl,g3⟩
    ·have h5':decide ((ss.length:Int)≤6)=false:=decide_eq_false (by omega)
     have h5'':¬ (ss.length:Int)≤6:=by omega
     have HF:Hid (tok=false):=HT.out.symm.trans (zAP fun h=>h5 (HTK.out.1 h).2.2.2.2.1)
     go_wp2_with (first | (go_at_call 33;refine (zBz _ _ _ _).mono ?_;rintro e w1 ⟨rfl,rfl⟩;first | rw [h1] | rw [h2]) | (go_at_call 91;refine HLO.out.mono ?_;rintro e w2 ⟨rfl,q3,Q2⟩;clear x0 x1 x2 x3))
     go_ret
     exact ⟨zAG HF.out.symm,Q2.out.2⟩
 ·have h3':decide ((ls.length:Int)≤4)=false:=decide_eq_false (by omega)
  have h3'':¬ (ls.length:Int)≤4:=by omega
  have HF:Hid (tok=false):=HT.out.symm.trans (zAP fun h=>h3 (HTK.out.1 h).2.2.1)
  go_wp2_with (go_at_call 33;refine (zBz _ _ _ _).mono ?_;rintro e w1 ⟨rfl,rfl⟩;first | rw [h1] | rw [h2])
  go_ret
  exact ⟨zAG HF.out.symm,HB0.out⟩
end Go.Proofs.YtakfniknkejgpaaGreatDoor.Tp
namespace Go.Proofs.YtakfniknkejgpaaGreatDoor.Rg
open Go.RowKit Sl By Ap
theorem zAN (w:World) (o:Obj):(w.alloc o).heap.size=w.heap.size+1:=by simp
theorem zAA {w:World} {b:Nat} {cs:Array Value} {t:TypeId} (h:w.heap[b]?=some (.cells cs t (0,0))) (i:Nat) {x:Value} (hx:cs[i]?=some x):w.cell? ⟨b,i,none⟩=some x∧w.frozen? ⟨b,i,none⟩=false:=by
 refine ⟨(Joins.cell_of_block h i).trans hx,?_⟩
 simp [World.frozen?,h]
theorem zAE {w:World} {b:Nat} {cs:Array Value} {t:TypeId} (h:w.heap[b]?=some (.cells cs t (0,0))) (i:Nat) (x:Value):(w.setCell ⟨b,i,none⟩ x).heap[b]?=some (.cells (cs.setIfInBounds i x) t (0,0)):=Joins.block_setCell (i:=i) h x
theorem zAB {w:World} {b k:Nat} (hk:k ≠ b) (i:Nat) (x:Value):(w.setCell ⟨b,i,none⟩ x).heap[k]?=w.heap[k]?:=Below.heap_setCell w ⟨b,i,none⟩ x k hk
theorem zAD (w:World) (o:Obj):Below w.heap.size w (w.alloc o):=(Below.refl _ _).alloc (Nat.le_refl _) _
def RowG {α:Type} (c:Nat) (E:World→Nat→Nat→α→Prop) (w:World) (v:Value) (xs:List α):Prop :=
 ∃ a cap,v=.slice a xs.length cap∧(xs=[] ∨ ∃ b off,a=some ⟨b,off,none⟩∧xs.length≤cap∧b<w.heap.size∧∀ i x,xs[i]?=some x→E w b (off+i * c) x)
def Stays {α:Type} (E:World→Nat→Nat→α→Prop):Prop:=∀ w w' b o x,Below w.heap.size w w'→b<w.heap.size→E w b o x→E w' b o x
theorem RowG.below {α:Type} {c:Nat} {E:World→Nat→Nat→α→Prop} (hE:Stays E) {w w':World} {v:Value} {xs:List α} (h:RowG c E w v xs) (hb:Below w.heap.size w w'):RowG c E w' v xs:=by
 obtain ⟨a,cap,rfl,h⟩:=h
 refine ⟨a,cap,rfl,?_⟩
 rcases h with h | ⟨b,off,rfl,hc,hlt,h⟩
 ·exact .inl h
 ·exact .inr ⟨b,off,rfl,hc,Nat.lt_of_lt_of_le hlt hb.size,fun i x hi=>hE _ _ _ _ _ hb hlt (h i x hi)⟩
theorem RowG.at {α:Type} {c:Nat} {E:World→Nat→Nat→α→Prop} {w:World} {v:Value} {a:Option Addr} {n cap:Nat} {xs:List α} (h:RowG c E w v xs) (hv:v=.slice a n cap) {i:Nat} {x:α} (hi:xs[i]?=some x) :
 ∃ b off,a=some ⟨b,off,none⟩∧b<w.heap.size∧E w b (off+i * c) x:=by
 obtain ⟨a',cap',rfl,h⟩:=h
 cases hv
 rcases h with h | ⟨b,off,rfl,hc,hlt,h⟩
 ·rw [h] at hi;simp at hi
 ·exact ⟨b,off,rfl,hlt,h i x hi⟩
theorem RowG.slice {α:Type} {c:Nat} {E:World→Nat→Nat→α→Prop} {w:World} {v:Value} {xs:List α} (h:RowG c E w v xs):∃ a cap,v=.slice a xs.length cap:=by
 obtain ⟨a,cap,rfl,_⟩:=h
 exact ⟨a,cap,rfl⟩
theorem get_at {α:Type} {xs:List α} {k:Nat} (h:k<xs.length):∃ x,xs[k]?=some x:=⟨_,List.getElem?_eq_getElem h⟩
theorem lt_at {α:Type} {xs:List α} {k:Nat} {x:α} (h:xs[k]?=some x):k<xs.length:=(List.getElem?_eq_some_iff.1 h).1
theorem three {w w1:World} {o0 o1 o2:Obj} (b:Below (((w.alloc o0).alloc o1).alloc o2).heap.size (((w.alloc o0).alloc o1).alloc o2) w1) :
 w1.heap[w.heap.size]?=some o0∧w1.heap[w.heap.size+1]?=some o1∧w1.heap[w.heap.size+1+1]?=some o2∧w.heap.size+1+1+1≤w1.heap.size∧Below w.heap.size w w1:=by
 have e1:(w.alloc o0).heap.size=w.heap.size+1:=zAN _ _
 have e2:((w.alloc o0).alloc o1).heap.size=w.heap.size+1+1:=by rw [zAN,e1]
 have e3:(((w.alloc o0).alloc o1).alloc o2).heap.size=w.heap.size+1+1+1:=by rw [zAN,e2]
 have b1:Below w.heap.size w (((w.alloc o0).alloc o1).alloc o2):=(((Below.refl _ _).alloc (Nat.le_refl _) _).alloc (by rw [e1];omega) _).alloc (by rw [e2];omega) _
 have s:=b.size
 rw [e3] at b s
 refine ⟨?_,?_,?_,s,b1.trans (b.mono (by omega))⟩
 ·rw [b.block _ (by omega),Below.heap_alloc _ _ _ (by omega),Below.heap_alloc _ _ _ (by omega)];exact heap_alloc_new w _
 ·rw [b.block _ (by omega),Below.heap_alloc _ _ _ (by omega),← e1];exact heap_alloc_new _ _
 ·rw [b.block _ (by omega),← e2];exact heap_alloc_new _ _
structure Mid (B C:Nat) (w w':World):Prop where
 os:w'.os=w.os
 tape:w'.tape=w.tape
 output:w'.output=w.output
 size:w.heap.size≤w'.heap.size
 block:∀ k,k<w.heap.size→(k<B ∨ C≤k)→w'.heap[k]?=w.heap[k]?
theorem Mid.refl (B C:Nat) (w:World):Mid B C w w:=⟨rfl,rfl,rfl,Nat.le_refl _,fun _ _ _=>rfl⟩
theorem Mid.trans {B C:Nat} {w w1 w2:World} (h:Mid B C w w1) (g:Mid B C w1 w2):Mid B C w w2 :=
 ⟨g.os.trans h.os,g.tape.trans h.tape,g.output.trans h.output,Nat.le_trans h.size g.size,fun k hk hn=>(g.block k (Nat.lt_of_lt_of_le hk h.size) hn).trans (h.block k hk hn)⟩
theorem Mid.below {B C:Nat} {w w1:World} (h:Mid B C w w1) (hB:B≤w.heap.size):Below B w w1:=⟨h.os,h.tape,h.output,h.size,fun k hk=>h.block k (Nat.lt_of_lt_of_le hk hB) (.inl hk)⟩
def Wr (w:World) (g n:Nat):Prop:=∃ A t,w.heap[g]?=some (.cells A t (0,0))∧n≤A.size
theorem Wr.below {w w':World} {g n:Nat} (h:Wr w g n) (hb:Below w.heap.size w w'):Wr w' g n:=by
 obtain ⟨A,t,h,hn⟩:=h
 exact ⟨A,t,(hb.block g (Array.getElem?_eq_some_iff.1 h).1).trans h,hn⟩
def Kw (w w':World):Prop:=∀ g n,Wr w g n→Wr w' g n
theorem Kw.trans {w w1 w2:World} (h:Kw w w1) (g:Kw w1 w2):Kw w w2:=fun a n x=>g a n (h a n x)
end Go.Proofs.YtakfniknkejgpaaGreatDoor.Rg
namespace Go.Proofs.YtakfniknkejgpaaGreatDoor.Rg
open Go.ChangeShapes Go.WideShapes Go.ChangeAt Go.RowKit Go.Deep
end Go.Proofs.YtakfniknkejgpaaGreatDoor.Rg
namespace Go.Proofs.YtakfniknkejgpaaGreatDoor.Gt
open Go.RowKit Sl Ap Rg
structure Vo where
 f:Int
 m:ByteArray
instance:Inhabited Vo:=⟨⟨0,⟨#[]⟩⟩⟩
def E1 (w:World) (b o:Nat) (x:Vo):Prop:=w.cell? ⟨b,o,none⟩=some (.int .i64 x.f)∧w.cell? ⟨b,o+1,none⟩=some (.string x.m)
def Row (w:World) (v:Value) (xs:List Vo):Prop:=RowG 2 E1 w v xs
theorem stays1:Stays E1:=fun _ _ b _ _ hb hlt ⟨h0,h1⟩=>⟨(hb.cell (p:=⟨b,_,none⟩) hlt).trans h0,(hb.cell (p:=⟨b,_,none⟩) hlt).trans h1⟩
theorem Row.below {w w':World} {v:Value} {xs:List Vo} (h:Row w v xs) (hb:Below w.heap.size w w'):Row w' v xs:=RowG.below stays1 h hb
end Go.Proofs.YtakfniknkejgpaaGreatDoor.Gt
namespace Go.Proofs.YtakfniknkejgpaaGreatDoor.Op
open Go.ChangeShapes Go.WideShapes Go.ChangeAt Go.RowKit Go.Deep Rg Gt
end Go.Proofs.YtakfniknkejgpaaGreatDoor.Op
