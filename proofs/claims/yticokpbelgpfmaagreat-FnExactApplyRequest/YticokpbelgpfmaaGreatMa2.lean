/- Texts put together: Qc, Tb, Tw. -/
import Derived.Test.YticokpbelgpfmaaGreatProg
import Derived.RowKit
import Derived.Below
import Derived.Test.YticokpbelgpfmaaGreatMa0
import Derived.Test.YticokpbelgpfmaaGreatMa1
import Derived.Deep.Slices
import Derived.Deep.Fields23
import Derived.Deep.RegionLaw
import Derived.BigRegion
import Derived.Laws.ResultCell
namespace Go.Proofs.YticokpbelgpfmaaGreat.Qc
open Go.RowKit
theorem zAF {P:Program} {id:Nat} {Q:Exit→Act→World→Prop} {a:Act} {w:World} {l:List Oper} {X:Type} {W:X→World} (hm:P.follows .mixedOrders=true) (hB:Region.lexB .any l.toArray=true) (hC:∃ x,w.drew=W x)
 (h:wpQuiet P l.toArray (fun w'=>∃ x,w'=W x) (fun a'=>∀ w',(∃ x,w'=W x)→Q .normal a' w') l a):(Code.region id l.toArray true).wp P Q a w :=
 wp_region_quiet (C:=fun w'=>∃ x,w'=W x) hm hB hC (by simpa using h)
theorem zAZ (w:World):∃ (X:Type) (_:Nonempty X) (W:X→World),(∀ w',Below w.heap.size w w'→∃ x,w'=W x)∧∀ x,Below w.heap.size w (W x) :=
 ⟨{w':World // Below w.heap.size w w'},⟨⟨w,Below.refl _ _⟩⟩,fun x=>x.1,fun w' h=>⟨⟨w',h⟩,rfl⟩,fun x=>x.2⟩
theorem zAI {w:World}:Below w.heap.size w w.drew:=(Below.refl _ _).drew
theorem back {w:World} {X:Type} {W:X→World} {x:X} {w':World} (HI:∀ w',Below w.heap.size w w'→∃ x,w'=W x) (HO:∀ x,Below w.heap.size w (W x)) (h:Below (W x).heap.size (W x) w'):∃ m,w'=W m :=
 HI _ ((HO x).trans (h.mono (HO x).size))
theorem cell_in {w:World} {X:Type} {W:X→World} (HO:∀ x,Below w.heap.size w (W x)) {p:Addr} {v:Value} (hp:p.block<w.heap.size) (h:w.cell? p=some v):∀ x,(W x).cell? p=some v:=fun x=>((HO x).cell hp).trans h
theorem lt_of_cell {w:World} {p:Addr} {v:Value} (h:w.cell? p=some v):p.block<w.heap.size:=World.block_lt_of_cell? w p h
theorem zAB {w:World} {X:Type} {W:X→World} (HO:∀ x,Below w.heap.size w (W x)) {p:Addr} {v:Value} (h:w.cell? p=some v):∀ x,(W x).cell? p=some v:=cell_in HO (lt_of_cell h) h
end Go.Proofs.YticokpbelgpfmaaGreat.Qc
namespace Go.Proofs.YticokpbelgpfmaaGreat.Tb
open Go.RowKit Ap Tx
def RowG {α:Type} (c:Nat) (E:World→Nat→Nat→α→Prop) (w:World) (v:Value) (xs:List α):Prop :=
 ∃ a cap,v=.slice a xs.length cap∧(xs=[] ∨ ∃ b off,a=some ⟨b,off,none⟩∧xs.length≤cap∧b<w.heap.size∧∀ i x,xs[i]?=some x→E w b (off+i * c) x)
def Stays {α:Type} (E:World→Nat→Nat→α→Prop):Prop:=∀ w w' b o x,Below w.heap.size w w'→b<w.heap.size→E w b o x→E w' b o x
theorem RowG.below {α:Type} {c:Nat} {E:World→Nat→Nat→α→Prop} (hE:Stays E) {w w':World} {v:Value} {xs:List α} (h:RowG c E w v xs) (hb:Below w.heap.size w w'):RowG c E w' v xs:=by
 obtain ⟨a,cap,rfl,h⟩:=h
 refine ⟨a,cap,rfl,?_⟩
 rcases h with h | ⟨b,off,rfl,hc,hlt,h⟩
 ·exact .inl h
 ·exact .inr ⟨b,off,rfl,hc,Nat.lt_of_lt_of_le hlt hb.size,fun i x hi=>hE _ _ _ _ _ hb hlt (h i x hi)⟩
theorem RowG.at {α:Type} {c:Nat} {E:World→Nat→Nat→α→Prop} {w:World} {v:Value} {a:Option Addr} {n cap:Nat} {xs:List α} (h:RowG c E w v xs) (hv:v=.slice a n cap) {i:Nat} {x:α} (hi:xs[i]?=some x) :
 ∃ b off,a=some ⟨b,off,none⟩∧b<w.heap.size∧E w b (off+i * c) x:=by
 obtain ⟨a',cap',rfl,h⟩:=h
 cases hv
 rcases h with h | ⟨b,off,rfl,hc,hlt,h⟩
 ·rw [h] at hi;simp at hi
 ·exact ⟨b,off,rfl,hlt,h i x hi⟩
theorem RowG.slice {α:Type} {c:Nat} {E:World→Nat→Nat→α→Prop} {w:World} {v:Value} {xs:List α} (h:RowG c E w v xs):∃ a cap,v=.slice a xs.length cap:=by
 obtain ⟨a,cap,rfl,_⟩:=h
 exact ⟨a,cap,rfl⟩
structure Wt where
 c:Int
 l:Int
structure Lk where
 n:ByteArray
 t:Int
 h:Int
 e:Int
 ws:List Wt
structure Sn where
 c:Int
 s:Int
 k:Int
 t:Int
 h:Int
 e:Int
structure Tab where
 tm:Int
 nx:Int
 ls:List Lk
 ss:List Sn
instance:Inhabited Wt:=⟨⟨0,0⟩⟩
instance:Inhabited Lk:=⟨⟨⟨#[]⟩,0,0,0,[]⟩⟩
instance:Inhabited Sn:=⟨⟨0,0,0,0,0,0⟩⟩
def EW (w:World) (b o:Nat) (x:Wt):Prop:=w.cell? ⟨b,o,none⟩=some (.int .i64 x.c)∧w.cell? ⟨b,o+1,none⟩=some (.int .i64 x.l)
def RowW (w:World) (v:Value) (xs:List Wt):Prop:=RowG 2 EW w v xs
def EL (w:World) (b o:Nat) (x:Lk):Prop:=∃ u,w.cell? ⟨b,o,none⟩=some (.string x.n)∧w.cell? ⟨b,o+1,none⟩=some (.int .i64 x.t)∧w.cell? ⟨b,o+2,none⟩=some (.int .i64 x.h)∧w.cell? ⟨b,o+3,none⟩=some (.int .i64 x.e)∧w.cell? ⟨b,o+4,none⟩=some u∧RowW w u x.ws
def RowL (w:World) (v:Value) (xs:List Lk):Prop:=RowG 5 EL w v xs
def ES (w:World) (b o:Nat) (x:Sn):Prop:=w.cell? ⟨b,o,none⟩=some (.int .i64 x.c)∧w.cell? ⟨b,o+1,none⟩=some (.int .i64 x.s)∧w.cell? ⟨b,o+2,none⟩=some (.int .i64 x.k)∧w.cell? ⟨b,o+3,none⟩=some (.int .i64 x.t)∧w.cell? ⟨b,o+4,none⟩=some (.int .i64 x.h)∧w.cell? ⟨b,o+5,none⟩=some (.int .i64 x.e)
def RowS (w:World) (v:Value) (xs:List Sn):Prop:=RowG 6 ES w v xs
theorem stays_W:Stays EW:=fun _ _ b _ _ hb hlt ⟨h0,h1⟩=>⟨(hb.cell (p:=⟨b,_,none⟩) hlt).trans h0,(hb.cell (p:=⟨b,_,none⟩) hlt).trans h1⟩
theorem RowW.below {w w':World} {v:Value} {xs:List Wt} (h:RowW w v xs) (hb:Below w.heap.size w w'):RowW w' v xs:=RowG.below stays_W h hb
theorem stays_L:Stays EL:=fun _ _ b _ _ hb hlt ⟨u,h0,h1,h2,h3,h4,h5⟩=>⟨u,(hb.cell (p:=⟨b,_,none⟩) hlt).trans h0,(hb.cell (p:=⟨b,_,none⟩) hlt).trans h1,(hb.cell (p:=⟨b,_,none⟩) hlt).trans h2,(hb.cell (p:=⟨b,_,none⟩) hlt).trans h3,(hb.cell (p:=⟨b,_,none⟩) hlt).trans h4,h5.below hb⟩
theorem RowL.below {w w':World} {v:Value} {xs:List Lk} (h:RowL w v xs) (hb:Below w.heap.size w w'):RowL w' v xs:=RowG.below stays_L h hb
theorem stays_S:Stays ES:=fun _ _ b _ _ hb hlt ⟨h0,h1,h2,h3,h4,h5⟩=>⟨(hb.cell (p:=⟨b,_,none⟩) hlt).trans h0,(hb.cell (p:=⟨b,_,none⟩) hlt).trans h1,(hb.cell (p:=⟨b,_,none⟩) hlt).trans h2,(hb.cell (p:=⟨b,_,none⟩) hlt).trans h3,(hb.cell (p:=⟨b,_,none⟩) hlt).trans h4,(hb.cell (p:=⟨b,_,none⟩) hlt).trans h5⟩
theorem RowS.below {w w':World} {v:Value} {xs:List Sn} (h:RowS w v xs) (hb:Below w.heap.size w w'):RowS w' v xs:=RowG.below stays_S h hb
def LkZ (x:Lk):Prop:=x.n.size≤maxLen∧x.ws.length≤maxLen
def tabV (tm nx:Int) (vl vs:Value):Value:=.agg #[.int .i64 tm,.int .i64 nx,vl,vs]
end Go.Proofs.YticokpbelgpfmaaGreat.Tb
namespace Go.Proofs.YticokpbelgpfmaaGreat.Op
open Go.ChangeShapes Go.WideShapes Go.ChangeAt Go.RowKit Go.Deep Tb
theorem open_rows {α:Type} [Inhabited α] {H:Type} {enc:TypeId × Value→H} {P:Program} {w:World} {base:Nat} {spare:Nat→Bool} {held:Bool} {t e:TypeId} {c:Nat} {E:World→Nat→Nat→α→Prop} {G:α→Prop}
 (hu:P.underlying t=some (.slice e)) (hce:P.cellsOf e=c) (h0:0<c)
 (step:∀ (n:Nat) (cs:List Value) (b o:Nat) (y:DataW H × List MemPlace),cs.length=c→(∀ j,j<c→w.cell? ⟨b,o+j,none⟩=cs[j]?)→DataW.trod enc P w base spare held n e cs=some y→∃ q,E w b o q∧G q)
 {fuel:Nat} {cs:List Value} {y:DataW H × List MemPlace} (hf:DataW.trod enc P w base spare held fuel t cs=some y) :
 ∃ v xs,cs=[v]∧RowG c E w v xs∧xs.length≤maxLen∧∀ x ∈ xs,G x:=by
 rcases open_slice hu hf with ⟨hcs,_⟩ | ⟨x,len,cap,m,n,D,Pl,hcs,_,hl,hm,hmm,_,hcell⟩
 ·exact ⟨_,[],hcs,⟨none,0,rfl,.inl rfl⟩,by simp,fun _ hx=>by cases hx⟩
 ·have hlm:len≤m:=by rw [hmm];split <;> omega
  rw [hce] at hcell
  by_cases hz:len=0
  ·subst hz
   exact ⟨_,[],hcs,⟨some x,cap,rfl,.inl rfl⟩,by simp,fun _ hx=>by cases hx⟩
  obtain ⟨b,off,spot⟩:=x
  have hadd:∀ (s:Nat) (j:Nat),(⟨b,s,none⟩ : Addr).add j=⟨b,s+j,none⟩:=fun s j=>by unfold Addr.add;split <;> simp_all
  have hspot:spot=none:=by
   obtain ⟨cs',h1,_⟩:=hcell 0 (by omega)
   obtain ⟨_,hlen,hc⟩:=World.cells?_some h1
   have e0:=hc 0 h0
   rw [List.getElem?_eq_getElem (by omega)] at e0
   simpa [Addr.add] using World.cell?_spot e0
  subst hspot
  have hlt:b<w.heap.size:=by
   obtain ⟨cs',h1,_⟩:=hcell 0 (by omega)
   obtain ⟨_,hlen,hc⟩:=World.cells?_some h1
   have e0:=hc 0 h0
   rw [List.getElem?_eq_getElem (by omega),hadd,hadd] at e0
   exact World.block_lt_of_cell? w _ e0
  have each:∀ i,i<len→∃ q:α,E w b (off+i * c) q∧G q:=by
   intro i hi
   obtain ⟨cs',h1,h2⟩:=hcell i (by omega)
   obtain ⟨_,hlen,hc⟩:=World.cells?_some h1
   refine step n cs' b (off+i * c) _ hlen (fun j hj=>?_) h2
   have e0:=hc j hj
   rw [hadd,hadd] at e0
   exact e0
  obtain ⟨q,hq⟩:=choose_lt each
  have hrl:((List.range len).map q).length=len:=by simp
  refine ⟨_,(List.range len).map q,hcs,⟨some ⟨b,off,none⟩,cap,by rw [hrl],.inr ⟨b,off,rfl,by rw [hrl];exact hl,hlt,fun i x hi=>?_⟩⟩,by rw [hrl];omega,fun x hx=>?_⟩
  ·have hil:i<len:=by have:=(List.getElem?_eq_some_iff.1 hi).1;rw [hrl] at this;exact this
   simp [hil] at hi
   subst hi
   exact (hq i hil).1
  ·obtain ⟨i,hi,rfl⟩:=List.mem_map.1 hx
   exact (hq i (List.mem_range.1 hi)).2
theorem zAu {w:World} {b o:Nat} {cs:List Value} {c:Nat} (h:∀ j,j<c→w.cell? ⟨b,o+j,none⟩=cs[j]?) (j:Nat) (hj:j<c) {v:Value} (hv:cs[j]?=some v):w.cell? ⟨b,o+j,none⟩=some v:=(h j hj).trans hv
section
variable {H:Type} {enc:TypeId × Value→H} {w:World} {base:Nat} {spare:Nat→Bool} {held:Bool}
theorem k1:Tryz.prog.cellsOf 3=1:=by kernel_rfl
theorem k2:Tryz.prog.cellsOf 9=1:=by kernel_rfl
set_option maxRecDepth 100000 in
theorem open_waiters {fuel:Nat} {cs:List Value} {y:DataW H × List MemPlace} (hf:DataW.trod enc Tryz.prog w base spare held fuel 158 cs=some y) :
 ∃ v xs,cs=[v]∧RowW w v xs∧xs.length≤maxLen∧∀ x ∈ xs,(fun _:Wt=>True) x:=by
 refine open_rows Tryz.underlying158 (c:=2) (by kernel_rfl) (by decide) (fun n cs b o y hl hc ht=>?_) hf
 obtain ⟨xs,k,hk,_,_,hxl,hff⟩:=DataW.trod_struct Tryz.underlying211 ht
 match cs,hl with
 | [v0,v1],_ =>
   match xs,hxl with
   | [y0,y1],_ =>
     have g0:=hff 0 _ rfl
     have g1:=hff 1 _ rfl
     simp [k1] at g0 g1
     obtain ⟨z0,q0,_,_⟩:=DataW.trod_int Tryz.underlying3 g0
     obtain ⟨z1,q1,_,_⟩:=DataW.trod_int Tryz.underlying3 g1
     simp at q0 q1
     subst q0 q1
     exact ⟨⟨z0,z1⟩,⟨zAu hc 0 (by decide) rfl,zAu hc 1 (by decide) rfl⟩,trivial⟩
theorem ks:Tryz.prog.cellsOf 158=1:=by kernel_rfl
set_option maxRecDepth 100000 in
theorem open_locks {fuel:Nat} {cs:List Value} {y:DataW H × List MemPlace} (hf:DataW.trod enc Tryz.prog w base spare held fuel 63 cs=some y) :
 ∃ v xs,cs=[v]∧RowL w v xs∧xs.length≤maxLen∧∀ x ∈ xs,LkZ x:=by
 refine open_rows Tryz.underlying63 (c:=5) (by kernel_rfl) (by decide) (fun n cs b o y hl hc ht=>?_) hf
 obtain ⟨xs,k,hk,_,_,hxl,hff⟩:=DataW.trod_struct Tryz.underlying160 ht
 match cs,hl with
 | [v0,v1,v2,v3,v4],_ =>
   match xs,hxl with
   | [y0,y1,y2,y3,y4],_ =>
     have g0:=hff 0 _ rfl
     have g1:=hff 1 _ rfl
     have g2:=hff 2 _ rfl
     have g3:=hff 3 _ rfl
     have g4:=hff 4 _ rfl
     simp [k1,k2,ks] at g0 g1 g2 g3 g4
     obtain ⟨z0,q0,_,m0⟩:=DataW.trod_string Tryz.underlying9 g0
     obtain ⟨z1,q1,_,_⟩:=DataW.trod_int Tryz.underlying3 g1
     obtain ⟨z2,q2,_,_⟩:=DataW.trod_int Tryz.underlying3 g2
     obtain ⟨z3,q3,_,_⟩:=DataW.trod_int Tryz.underlying3 g3
     obtain ⟨z4,ws,q4,r4,m4,_⟩:=open_waiters g4
     simp at q0 q1 q2 q3 q4
     subst q0 q1 q2 q3 q4
     exact ⟨⟨z0,z1,z2,z3,ws⟩,⟨v4,zAu hc 0 (by decide) rfl,zAu hc 1 (by decide) rfl,zAu hc 2 (by decide) rfl,zAu hc 3 (by decide) rfl,zAu hc 4 (by decide) rfl,r4⟩,m0,m4⟩
set_option maxRecDepth 100000 in
theorem open_seens {fuel:Nat} {cs:List Value} {y:DataW H × List MemPlace} (hf:DataW.trod enc Tryz.prog w base spare held fuel 64 cs=some y) :
 ∃ v xs,cs=[v]∧RowS w v xs∧xs.length≤maxLen∧∀ x ∈ xs,(fun _:Sn=>True) x:=by
 refine open_rows Tryz.underlying64 (c:=6) (by kernel_rfl) (by decide) (fun n cs b o y hl hc ht=>?_) hf
 obtain ⟨xs,k,hk,_,_,hxl,hff⟩:=DataW.trod_struct Tryz.underlying166 ht
 have ka:Tryz.prog.cellsOf 164=4:=by kernel_rfl
 match cs,hl with
 | [v0,v1,v2,v3,v4,v5],_ =>
   match xs,hxl with
   | [y0,y1,y2],_ =>
     have g0:=hff 0 _ rfl
     have g1:=hff 1 _ rfl
     have g2:=hff 2 _ rfl
     simp [k1,ka] at g0 g1 g2
     obtain ⟨z0,q0,_,_⟩:=DataW.trod_int Tryz.underlying3 g0
     obtain ⟨z1,q1,_,_⟩:=DataW.trod_int Tryz.underlying3 g1
     obtain ⟨xs',k',_,_,_,hxl',hff'⟩:=DataW.trod_struct Tryz.underlying164 g2
     match xs',hxl' with
     | [y0',y1',y2',y3'],_ =>
       have g2:=hff' 0 _ rfl
       have g3:=hff' 1 _ rfl
       have g4:=hff' 2 _ rfl
       have g5:=hff' 3 _ rfl
       simp [k1] at g2 g3 g4 g5
       obtain ⟨z2,q2,_,_⟩:=DataW.trod_int Tryz.underlying3 g2
       obtain ⟨z3,q3,_,_⟩:=DataW.trod_int Tryz.underlying3 g3
       obtain ⟨z4,q4,_,_⟩:=DataW.trod_int Tryz.underlying3 g4
       obtain ⟨z5,q5,_,_⟩:=DataW.trod_int Tryz.underlying3 g5
       simp at q0 q1 q2 q3 q4 q5
       subst q0 q1 q2 q3 q4 q5
       exact ⟨⟨z0,z1,z2,z3,z4,z5⟩,⟨zAu hc 0 (by decide) rfl,zAu hc 1 (by decide) rfl,zAu hc 2 (by decide) rfl,zAu hc 3 (by decide) rfl,zAu hc 4 (by decide) rfl,zAu hc 5 (by decide) rfl⟩,trivial⟩
set_option maxRecDepth 100000 in
theorem open_table {r:Reach} {b0:Nat} {v:Value} {d:DataW H} {p:List MemPlace}
 (hv:Value.okWide Tryz.prog w r b0 66 v) (h:DataW.Trod enc Tryz.prog w base spare held 66 v d p) :
 ∃ (t:Tab) (vl vs:Value),v=tabV t.tm t.nx vl vs∧RowL w vl t.ls∧RowS w vs t.ss∧t.ls.length≤maxLen∧t.ss.length≤maxLen∧∀ x ∈ t.ls,LkZ x:=by
 obtain ⟨cs,rfl,hsz,hf⟩:=open_cells Tryz.underlying66 (by kernel_rfl) hv h
 have hsz4:cs.size=4:=hsz.trans (by kernel_rfl)
 obtain ⟨l⟩:=cs
 match l,hsz4 with
 | [c0,c1,c2,c3],_ =>
   obtain ⟨a0,rfl,_⟩:=cell_int Tryz.underlying3 (hf 0 _ _ rfl rfl)
   obtain ⟨a1,rfl,_⟩:=cell_int Tryz.underlying3 (hf 1 _ _ rfl rfl)
   obtain ⟨n2,y2,h2⟩:=hf 2 _ _ rfl rfl
   obtain ⟨n3,y3,h3⟩:=hf 3 _ _ rfl rfl
   obtain ⟨v2,ls,e2,r2,l2,z2⟩:=open_locks h2
   obtain ⟨v3,ss,e3,r3,l3,_⟩:=open_seens h3
   cases e2
   cases e3
   exact ⟨⟨a0,a1,ls,ss⟩,c2,c3,rfl,r2,r3,l2,l3,z2⟩
end
end Go.Proofs.YticokpbelgpfmaaGreat.Op
namespace Go.Proofs.YticokpbelgpfmaaGreat.Tw
open Go.RowKit Ap Tx Tb
theorem ret_i {a b:Int} (h:a=b):Ending.returned (.int .i64 a)=.returned (.int .i64 b):=by rw [h]
def lft (left s:Int):Int:=if left<s then -1 else left - s
theorem lft_no {left s:Int} (h:left<s):lft left s = -1:=if_pos h
theorem lft_yes {left s:Int} (h:¬ left<s):lft left s=left - s:=if_neg h
def lkV (x:Lk) (u:Value):Value:=.agg #[.string x.n,.int .i64 x.t,.int .i64 x.h,.int .i64 x.e,u]
def snV (x:Sn):Value:=.agg #[.int .i64 x.c,.int .i64 x.s,.int .i64 x.k,.int .i64 x.t,.int .i64 x.h,.int .i64 x.e]
def wtV (x:Wt):Value:=.agg #[.int .i64 x.c,.int .i64 x.l]
theorem get_at {α:Type} {xs:List α} {k:Nat} (h:k<xs.length):∃ x,xs[k]?=some x:=⟨_,List.getElem?_eq_getElem h⟩
theorem zAw {α:Type} {xs:List α} {k:Nat} {x:α} (h:xs[k]?=some x):k<xs.length:=(List.getElem?_eq_some_iff.1 h).1
theorem zAp {α:Type} {xs:List α} {k:Nat} {x:α} (h:xs[k]?=some x):x ∈ xs:=List.mem_of_getElem? h
set_option maxRecDepth 100000 in
set_option maxHeartbeats 800000 in
theorem szWaiterS_any (v:Value) (xs:List Wt) (left:Int) (w:World) (h:RowW w v xs) (hz:xs.length≤maxLen) (h0:0≤left) (h1:left≤1048576) :
 Calls Tryz.prog 143 #[v,.int .i64 left] w fun e w'=>e=.returned (.int .i64 (lft left xs.length))∧w'=w:=by
 obtain ⟨a,cap,rfl⟩:=RowG.slice h
 unfold maxLen at hz
 clear h
 by_cases h:left<(xs.length:Int)
 ·have HO:Hid (lft left (xs.length:Int) = -1):=lft_no h
  go_enter Tryz.func143,Tryz.ntmps143
  go_wp2
  go_ret
  exact ⟨ret_i HO.out.symm,rfl⟩
 ·have HO:Hid (lft left (xs.length:Int)=left - (xs.length:Int)):=lft_yes h
  go_enter Tryz.func143,Tryz.ntmps143
  go_wp2
  go_ret
  exact ⟨ret_i HO.out.symm,rfl⟩
set_option maxRecDepth 100000 in
set_option maxHeartbeats 800000 in
theorem szSeenS_any (v:Value) (xs:List Sn) (left:Int) (w:World) (h:RowS w v xs) (hz:xs.length≤maxLen) (h0:0≤left) (h1:left≤1048576) :
 Calls Tryz.prog 75 #[v,.int .i64 left] w fun e w'=>e=.returned (.int .i64 (lft left xs.length))∧w'=w:=by
 obtain ⟨a,cap,rfl⟩:=RowG.slice h
 unfold maxLen at hz
 clear h
 by_cases h:left<(xs.length:Int)
 ·have HO:Hid (lft left (xs.length:Int) = -1):=lft_no h
  go_enter Tryz.func75,Tryz.ntmps75
  go_wp2
  go_ret
  exact ⟨ret_i HO.out.symm,rfl⟩
 ·have HO:Hid (lft left (xs.length:Int)=left - (xs.length:Int)):=lft_yes h
  go_enter Tryz.func75,Tryz.ntmps75
  go_wp2
  go_ret
  exact ⟨ret_i HO.out.symm,rfl⟩
set_option maxRecDepth 100000 in
set_option maxHeartbeats 800000 in
theorem szLock_any (x:Lk) (u:Value) (l:Nat) (w:World) (hl:l≤1048576) (hz:LkZ x) (hu:RowW w u x.ws) :
 Calls Tryz.prog 111 #[lkV x u,.int .i64 l] w fun e w'=>(∃ r:Int,e=.returned (.int .i64 r)∧(r = -1 ∨ ∃ q:Nat,r=q∧q≤l∧x.n.size≤l∧x.ws.length≤l))∧Below w.heap.size w w':=by
 have HU:Hid (RowW w u x.ws):=hu
 have HZ:Hid (x.ws.length≤maxLen):=hz.2
 have hm:=hz.1
 unfold maxLen at hm
 clear hz hu
 unfold lkV
 by_cases h:(l:Int)<(x.n.size:Int)
 ·go_enter Tryz.func111,Tryz.ntmps111
  go_wp2_with fail
  go_ret
  exact ⟨⟨_,rfl,.inl rfl⟩,zAD _ _⟩
 ·have h':¬ (l:Int) - (x.n.size:Int)<0:=by omega
  go_enter Tryz.func111,Tryz.ntmps111
  go_wp2_with fail
  refine (szWaiterS_any u x.ws _ _ (HU.out.below (zAD _ _)) HZ.out (by omega) (by omega)).mono ?_
  rintro e w1 ⟨rfl,rfl⟩
  by_cases h2:(l:Int) - (x.n.size:Int)<(x.ws.length:Int)
  ·rw [lft_no h2]
   go_wp2_with fail
   go_ret
   exact ⟨⟨_,rfl,.inl rfl⟩,zAD _ _⟩
  ·rw [lft_yes h2]
   have h3:¬ (l:Int) - (x.n.size:Int) - (x.ws.length:Int)<0:=by omega
   go_wp2_with fail
   go_ret
   exact ⟨⟨_,rfl,.inr ⟨l - x.n.size - x.ws.length,by omega,by omega,by omega,by omega⟩⟩,zAD _ _⟩
set_option maxRecDepth 100000 in
set_option maxHeartbeats 800000 in
theorem toWaiter_any (x:Wt) (w:World) :
 Calls Tryz.prog 169 #[wtV x] w fun e w'=>e=.returned (wtV x)∧Below w.heap.size w w':=by
 unfold wtV
 go_enter Tryz.func169,Tryz.ntmps169
 go_wp2_with fail
 refine bodyPost_ret (v:=wtV x) (by simp [wtV,results,Tryz.results169,go_sem]) rfl ⟨rfl,?_⟩
 exact (((Below.refl _ _).alloc (Nat.le_refl _) _).alloc (by simp) _).alloc (by simp;omega) _
set_option maxRecDepth 100000 in
set_option maxHeartbeats 800000 in
theorem toAnswer_any (k t h e0:Int) (w:World) :
 Calls Tryz.prog 145 #[.agg #[.int .i64 k,.int .i64 t,.int .i64 h,.int .i64 e0]] w fun e w'=>e=.returned (.agg #[.int .i64 k,.int .i64 t,.int .i64 h,.int .i64 e0])∧Below w.heap.size w w':=by
 go_enter Tryz.func145,Tryz.ntmps145
 go_wp2_with fail
 refine bodyPost_ret (v:=.agg #[.int .i64 k,.int .i64 t,.int .i64 h,.int .i64 e0]) (by simp [results,Tryz.results145,go_sem]) rfl ⟨rfl,?_⟩
 exact (((Below.refl _ _).alloc (Nat.le_refl _) _).alloc (by simp) _).alloc (by simp;omega) _
end Go.Proofs.YticokpbelgpfmaaGreat.Tw
