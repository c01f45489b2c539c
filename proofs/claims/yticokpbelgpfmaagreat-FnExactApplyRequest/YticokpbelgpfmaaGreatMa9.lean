/- Texts put together: Ow, Lp, Ja. -/
import Derived.Test.YticokpbelgpfmaaGreatMa8
import Derived.Sort.Walk0
import Derived.WideShapes
import Derived.Sort.KeysCollected
import Derived.Lib.SlKeysI
namespace Go.Proofs.YticokpbelgpfmaaGreat.Lo
open Go.RowKit By Ap Tb Tw Mw Wa Bk Tp
open Tx (zAA zAC zAE zAJ zAD)
theorem belA {w1 W:World} (h:Below w1.heap.size w1 W) (o:Obj):Below w1.heap.size w1 (W.alloc o):=h.alloc h.size o
theorem belS {w1 W:World} (h:Below w1.heap.size w1 W) (x i:Nat) (v:Value) (hx:w1.heap.size≤x):Below w1.heap.size w1 (W.setCell ⟨x,i,none⟩ v):=Below.setCell h (p:=⟨x,i,none⟩) hx v
theorem runS (P:Program) (t ty:TypeId) (i:TypeInfo) (ht:P.underlying t=some (.slice 116)) (hi:P.info? 116=some i) (hz:i.zero=some (.agg #[.int .i64 0,.int .i64 0,.int .i64 0,.int .i64 0,.int .i64 0,.int .i64 0]))
 (hsize:i.size=6) (hby:i.bytes=48) (B:Nat) (W:World) (v u:Value) (zs xs:List Sn) (hown:OwnS W B v zs) (hB:B≤W.heap.size) (hu:RowS W u xs) (hlen:zs.length+xs.length≤1000000) :
 ∃ v' w',(Builtin.append_ #[t,t] ty #[v,u]).run P W=.ok v' w'∧OwnS w' B v' (zs ++ xs)∧W.grownBy w' v.ownBlock:=by
 have hu':=hu
 obtain ⟨ad,cap,rfl,hc⟩:=hu
 have hown2:=hown
 unfold OwnS at hown2
 cases ad with
 | none =>
   obtain rfl:xs=[]:=by
    rcases hc with h | ⟨_,_,h,_⟩
    ·exact h
    ·cases h
   have hr:(Builtin.append_ #[t,t] ty #[v,.slice none 0 cap]).run P W=.ok v W:=by
    rcases hown2.2 with ⟨rfl,_⟩ | ⟨g,c,cur,rfl,_,_,hn,_⟩
    ·exact run_append_nothing W t t ty _ i ht hi none 0 0 (Nat.le_refl _) _ (Src.ofNil W ht cap)
    ·exact run_append_nothing W t t ty _ i ht hi _ _ _ hn _ (Src.ofNil W ht cap)
   exact ⟨v,W,hr,by simpa using hown,⟨rfl,rfl,rfl,Nat.le_refl _,fun _ _ _=>rfl⟩⟩
 | some ad =>
   obtain ⟨v',w',hr,h2,h3,_,_⟩:=run_append_own_at (P:=P) W B t ty 116 i _ 6 48 ht hi hz hsize hby rfl (by decide) v zs.length _ hown2 ad xs.length cap (xs.flatMap clS) (lenS xs) (srcS hu') (memS xs) (by unfold maxLen;omega) (by omega) hB
   exact ⟨v',w',hr,by unfold OwnS;rw [List.flatMap_append,List.length_append];exact h2,h3⟩
theorem nest1 (W:World) (a:Obj):(W.alloc a).heap[W.heap.size]?=some a:=heap_alloc_new _ _
theorem zAP (W:World) (a b:Obj):((W.alloc a).alloc b).heap[W.heap.size]?=some a∧((W.alloc a).alloc b).heap[W.heap.size+1]?=some b :=
 ⟨(Below.heap_alloc _ _ _ (by rw [zAL];omega)).trans (nest1 _ _),by have:=nest1 (W.alloc a) b;rw [zAL] at this;exact this⟩
theorem zAX (W:World) (a b c:Obj):(((W.alloc a).alloc b).alloc c).heap[W.heap.size]?=some a∧(((W.alloc a).alloc b).alloc c).heap[W.heap.size+1]?=some b∧(((W.alloc a).alloc b).alloc c).heap[W.heap.size+1+1]?=some c :=
 ⟨(Below.heap_alloc _ _ _ (by rw [zAL,zAL];omega)).trans (zAP _ _ _).1,(Below.heap_alloc _ _ _ (by rw [zAL,zAL];omega)).trans (zAP _ _ _).2,by have:=nest1 ((W.alloc a).alloc b) c;rw [zAL,zAL] at this;exact this⟩
theorem step_appS {P:Program} {ops:Array Oper} {o:Oper} {a:Act} {K:Act→World→Prop} {Q:Exit→Act→World→Prop} {E:Prop} {i:TypeInfo} (hgd:o.guard=none) (s z:Operand) (t:TypeId) (ho:o.op=.call { callee:=.builtin .append,args:=#[s,z],argTypes:=#[t,t] }) (ht:P.underlying t=some (.slice 116)) (hi:P.info? 116=some i) (hz:i.zero=some (.agg #[.int .i64 0,.int .i64 0,.int .i64 0,.int .i64 0,.int .i64 0,.int .i64 0]))
 (hsize:i.size=6) (hby:i.bytes=48) (w1 W:World) (u:Value) (xs:List Sn) (g:Nat) (hs:a.eval s=.slice (some ⟨g,0,none⟩) 0 0) (hx:a.eval z=u) (hg:W.heap[g]?=some (.cells #[] 116 (0,0))) (hge:w1.heap.size≤g) (hb:Below w1.heap.size w1 W) (hu:∀ W,Below w1.heap.size w1 W→RowS W u xs) (hlen:xs.length≤1000)
 (h:∀ v' w',OwnS w' w1.heap.size v' xs→Below w1.heap.size w1 w'→(∀ k o',W.heap[k]?=some o'→k ≠ g→w'.heap[k]?=some o')→K (a.put o.dst v') w'):if Region.wanted o (yielded ops a.tmps)=true then Oper.wp P o a W K Q else E:=by
 have hw:Region.wanted o (yielded ops a.tmps)=true:=by simp [Region.wanted,hgd]
 rw [if_pos hw]
 have hown:OwnS W w1.heap.size (.slice (some ⟨g,0,none⟩) 0 0) []:=⟨rfl,.inr ⟨g,0,#[],rfl,hge,hg,Nat.le_refl _,by simp,by simp,by simp⟩⟩
 obtain ⟨v',w',hr,h2,h3⟩:=runS P t o.type i ht hi hz hsize hby w1.heap.size W _ u [] xs hown hb.size (hu W hb) (by simp;omega)
 exact wp_app ho hs hx hr (h v' w' (by simpa using h2) (hb.grown h3 hb.size (fun k hk=>by cases hk;exact hge)) (fun k o' hk hne=>(h3.block k (Array.getElem?_eq_some_iff.1 hk).1 (fun e=>hne (by injection e))).trans hk))
def Fin (w1:World) (tm nx:Int) (ss:List Sn) (px:Value) (wx:World):Prop:=∃ x gA a5 k5,px=.pointer (some ⟨x,0,none⟩)∧wx.heap[x]?=some (.cells #[.int .i64 tm,.int .i64 nx,.slice (some ⟨gA,0,none⟩) 0 0,.slice a5 ss.length k5] 30 (0,0))∧wx.heap[gA]?=some (.cells #[] 45 (0,0))∧OwnS wx w1.heap.size (.slice a5 ss.length k5) ss∧Below w1.heap.size w1 wx∧w1.heap.size≤x∧w1.heap.size≤gA
theorem set4 {W:World} {x:Nat} {z0 z1 z2 z3:Value} (hX:W.heap[x]?=some (.cells #[z0,z1,z2,z3] 30 (0,0))) (a b c d:Value):((((W.setCell ⟨x,0,none⟩ a).setCell ⟨x,1,none⟩ b).setCell ⟨x,2,none⟩ c).setCell ⟨x,3,none⟩ d).heap[x]?=some (.cells #[a,b,c,d] 30 (0,0)):=zAC (zAC (zAC (zAC hX 0 a) 1 b) 2 c) 3 d
theorem far4 {W:World} {x k:Nat} (hk:k ≠ x) (a b c d:Value):((((W.setCell ⟨x,0,none⟩ a).setCell ⟨x,1,none⟩ b).setCell ⟨x,2,none⟩ c).setCell ⟨x,3,none⟩ d).heap[k]?=W.heap[k]?:=(zAE hk 3 d).trans ((zAE hk 2 c).trans ((zAE hk 1 b).trans (zAE hk 0 a)))
theorem fin2 {w1 W:World} {tm nx:Int} {ss:List Sn} {x gA:Nat} {a5:Option Addr} {k5:Nat} {z0 z1 z2 z3:Value} (hX:W.heap[x]?=some (.cells #[z0,z1,z2,z3] 30 (0,0))) (hA:W.heap[gA]?=some (.cells #[] 45 (0,0))) (o5:OwnS W w1.heap.size (.slice a5 ss.length k5) ss) (b5:Below w1.heap.size w1 W) (hx:w1.heap.size≤x) (hg:w1.heap.size≤gA) :
 Fin w1 tm nx ss (.pointer (some ⟨x,0,none⟩)) ((((W.setCell ⟨x,0,none⟩ (.int .i64 tm)).setCell ⟨x,1,none⟩ (.int .i64 nx)).setCell ⟨x,2,none⟩ (.slice (some ⟨gA,0,none⟩) 0 0)).setCell ⟨x,3,none⟩ (.slice a5 ss.length k5)) :=
 ⟨x,gA,a5,k5,rfl,set4 hX _ _ _ _,(far4 (zAK hA hX (by decide)) _ _ _ _).trans hA,o5.kept (fun g hg=>by obtain ⟨cur,hc⟩:=zAG o5 hg;exact far4 (zAK hc hX (by decide)) _ _ _ _),belS (belS (belS (belS b5 _ _ _ hx) _ _ _ hx) _ _ _ hx) _ _ _ hx,hx,hg⟩
theorem fin1 {w1 W:World} {tm nx:Int} {ss:List Sn} {gA:Nat} {a5:Option Addr} {k5:Nat} (hA:W.heap[gA]?=some (.cells #[] 45 (0,0))) (o5:OwnS W w1.heap.size (.slice a5 ss.length k5) ss) (b5:Below w1.heap.size w1 W) (hg:w1.heap.size≤gA) :
 Fin w1 tm nx ss (.pointer (some ⟨W.heap.size,0,none⟩)) (W.alloc (.cells #[.int .i64 tm,.int .i64 nx,.slice (some ⟨gA,0,none⟩) 0 0,.slice a5 ss.length k5] 30)) :=
 ⟨W.heap.size,gA,a5,k5,rfl,zAJ _ _ _,(Below.heap_alloc _ _ _ (Array.getElem?_eq_some_iff.1 hA).1).trans hA,o5.alloc _,belA b5 _,b5.size,hg⟩
theorem fin3 {w1 W:World} {tm nx:Int} {ss:List Sn} {a5:Option Addr} {k5:Nat} (o5:OwnS W w1.heap.size (.slice a5 ss.length k5) ss) (b5:Below w1.heap.size w1 W) :
 Fin w1 tm nx ss (.pointer (some ⟨W.heap.size+1,0,none⟩)) ((W.alloc (.cells #[] 45)).alloc (.cells #[.int .i64 tm,.int .i64 nx,.slice (some ⟨W.heap.size,0,none⟩) 0 0,.slice a5 ss.length k5] 30)) :=
 ⟨W.heap.size+1,W.heap.size,a5,k5,rfl,(zAP _ _ _).2,(zAP _ _ _).1,(o5.alloc _).alloc _,belA (belA b5 _) _,Nat.le_succ_of_le b5.size,b5.size⟩
theorem fin4 {w1 W:World} {tm nx:Int} {ss:List Sn} {a5:Option Addr} {k5:Nat} (o5:OwnS W w1.heap.size (.slice a5 ss.length k5) ss) (b5:Below w1.heap.size w1 W) :
 Fin w1 tm nx ss (.pointer (some ⟨W.heap.size,0,none⟩)) ((W.alloc (.cells #[.int .i64 tm,.int .i64 nx,.slice (some ⟨W.heap.size+1,0,none⟩) 0 0,.slice a5 ss.length k5] 30)).alloc (.cells #[] 45)) :=
 ⟨W.heap.size,W.heap.size+1,a5,k5,rfl,(zAP _ _ _).1,(zAP _ _ _).2,(o5.alloc _).alloc _,belA (belA b5 _) _,b5.size,Nat.le_succ_of_le b5.size⟩
theorem fin5 {w1 W:World} {tm nx:Int} {ss:List Sn} {x:Nat} {a5:Option Addr} {k5:Nat} {z0 z1 z2 z3:Value} (hX:W.heap[x]?=some (.cells #[z0,z1,z2,z3] 30 (0,0))) (o5:OwnS W w1.heap.size (.slice a5 ss.length k5) ss) (b5:Below w1.heap.size w1 W) (hx:w1.heap.size≤x) :
 Fin w1 tm nx ss (.pointer (some ⟨x,0,none⟩)) (((((W.alloc (.cells #[] 45)).setCell ⟨x,0,none⟩ (.int .i64 tm)).setCell ⟨x,1,none⟩ (.int .i64 nx)).setCell ⟨x,2,none⟩ (.slice (some ⟨W.heap.size,0,none⟩) 0 0)).setCell ⟨x,3,none⟩ (.slice a5 ss.length k5)) :=
 fin2 ((Below.heap_alloc _ _ _ (Array.getElem?_eq_some_iff.1 hX).1).trans hX) (zAJ _ _ _) (o5.alloc _) (belA b5 _) hx b5.size
def Apart (ps:List LkA):Prop:=∀ (i j:Nat) (p q:LkA),ps[i]?=some p→ps[j]?=some q→i ≠ j→∀ g,(uV p).ownBlock=some g→(uV q).ownBlock ≠ some g
theorem Apart.set {ps:List LkA} (h:Apart ps) {k:Nat} {p q:LkA} (hk:ps[k]?=some p) (hq:(uV q).ownBlock=(uV p).ownBlock):Apart (ps.set k q):=by
 intro i j a b ha hb hij g hg
 have hlt:k<ps.length:=(List.getElem?_eq_some_iff.1 hk).1
 rw [List.getElem?_set] at ha hb
 simp only [hlt,if_true] at ha hb
 split at ha <;> split at hb
 ·omega
 ·rename_i e1 e2
  subst e1
  cases ha
  rw [hq] at hg
  exact h k j p b hk hb hij g hg
 ·rename_i e1 e2
  subst e2
  cases hb
  rw [hq]
  exact h i k a p ha hk hij g hg
 ·exact h i j a b ha hb hij g hg
theorem Apart.fresh {ps:List LkA} (h:Apart ps) {k:Nat} {q:LkA} {G:Nat} (hq:∀ g,(uV q).ownBlock=some g→G≤g) (hp:∀ p ∈ ps,∀ g,(uV p).ownBlock=some g→g<G):Apart (ps.set k q):=by
 intro i j a c ha hc hij g hg hg2
 rw [List.getElem?_set] at ha hc
 split at ha <;> split at hc
 ·omega
 ·split at ha
  ·cases ha
   have:=hq g hg
   have:=hp c (List.mem_of_getElem? hc) g hg2
   omega
  ·cases ha
 ·split at hc
  ·cases hc
   have:=hq g hg2
   have:=hp a (List.mem_of_getElem? ha) g hg
   omega
  ·cases hc
 ·exact h i j a c ha hc hij g hg hg2
theorem Apart.push {ps:List LkA} (h:Apart ps) {q:LkA} {G:Nat} (hq:∀ g,(uV q).ownBlock=some g→G≤g) (hp:∀ p ∈ ps,∀ g,(uV p).ownBlock=some g→g<G):Apart (ps ++ [q]):=by
 intro i j a c ha hc hij g hg hg2
 have key:∀ (i:Nat) (a:LkA),(ps ++ [q])[i]?=some a→ps[i]?=some a ∨ (i=ps.length∧a=q):=fun i a ha=>by
  by_cases hi:i<ps.length
  ·rw [List.getElem?_append_left hi] at ha;exact .inl ha
  ·rw [List.getElem?_append_right (by omega)] at ha
   have:=(List.getElem?_eq_some_iff.1 ha).1
   simp at this
   obtain rfl:i=ps.length:=by omega
   simp at ha
   exact .inr ⟨rfl,ha.symm⟩
 rcases key i a ha with ha' | ⟨ei,ea⟩
 ·rcases key j c hc with hc' | ⟨ej,ec⟩
  ·exact h i j a c ha' hc' hij g hg hg2
  ·rw [ec] at hg2
   have:=hq g hg2
   have:=hp a (List.mem_of_getElem? ha') g hg
   omega
 ·rw [ea] at hg
  rcases key j c hc with hc' | ⟨ej,ec⟩
  ·have:=hq g hg
   have:=hp c (List.mem_of_getElem? hc') g hg2
   omega
  ·omega
structure Iv (w1 wr:World) (tm nx:Int) (x:Nat) (v2 v3:Value) (ps:List LkA) (ss:List Sn):Prop where
 hx:wr.heap[x]?=some (.cells #[.int .i64 tm,.int .i64 nx,v2,v3] 30 (0,0))
 ol:OwnL wr w1.heap.size v2 ps
 os:OwnS wr w1.heap.size v3 ss
 ow:∀ p ∈ ps,OwnW wr w1.heap.size (uV p) p.1.ws
 bel:Below w1.heap.size w1 wr
 le:w1.heap.size≤x
 ap:Apart ps
theorem Fin.iv {w1 wx:World} {tm nx:Int} {ss:List Sn} {px:Value} (h:Fin w1 tm nx ss px wx):∃ x a2 c2 a3 c3,px=.pointer (some ⟨x,0,none⟩)∧Iv w1 wx tm nx x (.slice a2 0 c2) (.slice a3 ss.length c3) [] ss:=by
 obtain ⟨x,gA,a5,k5,rfl,h1,h2,h3,h4,h5,h6⟩:=h
 exact ⟨x,_,0,a5,k5,rfl,h1,⟨rfl,.inr ⟨gA,0,#[],rfl,h6,h2,Nat.le_refl _,by simp,by simp,by simp⟩⟩,h3,fun p hp=>(by cases hp),h4,h5,fun i j p q h=>by simp at h⟩
theorem Iv.up {w1 wr w':World} {tm nx:Int} {x:Nat} {v2 v3:Value} {ps:List LkA} {ss:List Sn} (h:Iv w1 wr tm nx x v2 v3 ps ss) (hb:Below wr.heap.size wr w'):Iv w1 w' tm nx x v2 v3 ps ss :=
 ⟨(hb.block x (Array.getElem?_eq_some_iff.1 h.hx).1).trans h.hx,h.ol.below hb,h.os.below hb,fun p hp=>(h.ow p hp).below hb,h.bel.trans (hb.mono h.bel.size),h.le,h.ap⟩
theorem Iv.far {w1 wr:World} {tm nx:Int} {x:Nat} {v2 v3:Value} {ps:List LkA} {ss:List Sn} (h:Iv w1 wr tm nx x v2 v3 ps ss) (y i:Nat) (z:Value) (hy:w1.heap.size≤y) (hx:x ≠ y) (hl:v2.ownBlock ≠ some y) (hs:v3.ownBlock ≠ some y) (hw:∀ p ∈ ps,(uV p).ownBlock ≠ some y):Iv w1 (wr.setCell ⟨y,i,none⟩ z) tm nx x v2 v3 ps ss :=
 ⟨(zAE hx i z).trans h.hx,h.ol.kept (fun g hg=>zAE (fun e=>hl (by rw [hg,e])) i z),h.os.kept (fun g hg=>zAE (fun e=>hs (by rw [hg,e])) i z),fun p hp=>(h.ow p hp).kept (fun g hg=>zAE (fun e=>hw p hp (by rw [hg,e])) i z),belS h.bel y i z hy,h.le,h.ap⟩
theorem Iv.kx {w1 wr w':World} {tm nx:Int} {x:Nat} {v2 v3:Value} {ps:List LkA} {ss:List Sn} (h:Iv w1 wr tm nx x v2 v3 ps ss) (hk:∀ k,k<wr.heap.size→some k ≠ v2.ownBlock→w'.heap[k]?=wr.heap[k]?):w'.heap[x]?=some (.cells #[.int .i64 tm,.int .i64 nx,v2,v3] 30 (0,0)) :=
 (hk x (Array.getElem?_eq_some_iff.1 h.hx).1 (fun e=>by obtain ⟨cur,hc⟩:=zAG h.ol e.symm;exact zAK hc h.hx (by decide) rfl)).trans h.hx
theorem Iv.put {w1 wr w':World} {tm nx:Int} {x:Nat} {v2 v3 v':Value} {ps:List LkA} {ss:List Sn} (h:Iv w1 wr tm nx x v2 v3 ps ss) (p:LkA) (hp:OwnW wr w1.heap.size (uV p) p.1.ws) (ho:OwnL w' w1.heap.size v' (ps ++ [p])) (hb:Below w1.heap.size w1 w') (hk:∀ k,k<wr.heap.size→some k ≠ v2.ownBlock→w'.heap[k]?=wr.heap[k]?) (ha:Apart (ps ++ [p])) :
 Iv w1 (w'.setCell ⟨x,2,none⟩ v') tm nx x v' v3 (ps ++ [p]) ss:=by
 have hxl:=(Array.getElem?_eq_some_iff.1 h.hx).1
 have kx:w'.heap[x]?=some (.cells #[.int .i64 tm,.int .i64 nx,v2,v3] 30 (0,0)):=(hk x hxl (fun e=>by obtain ⟨cur,hc⟩:=zAG h.ol e.symm;exact zAK hc h.hx (by decide) rfl)).trans h.hx
 have ks:OwnS w' w1.heap.size v3 ss:=h.os.kept (fun g hg=>hk g (h.os.lt g hg).2 (fun e=>by
  obtain ⟨c1,h1⟩:=zAG h.os hg
  obtain ⟨c2,h2⟩:=zAG h.ol e.symm
  exact zAK h1 h2 (by decide) rfl))
 have kw:∀ (u:Value) (ws:List Wt),OwnW wr w1.heap.size u ws→OwnW w' w1.heap.size u ws:=fun u ws hu=>hu.kept (fun g hg=>hk g (hu.lt g hg).2 (fun e=>by
  obtain ⟨c1,h1⟩:=zAG hu hg
  obtain ⟨c2,h2⟩:=zAG h.ol e.symm
  exact zAK h1 h2 (by decide) rfl))
 have far:∀ (u:Value) (ws:List Wt),OwnW w' w1.heap.size u ws→OwnW (w'.setCell ⟨x,2,none⟩ v') w1.heap.size u ws:=fun u ws hu=>hu.kept (fun g hg=>by
  obtain ⟨c1,h1⟩:=zAG hu hg
  exact zAE (zAK h1 kx (by decide)) 2 v')
 refine ⟨zAC kx 2 v',ho.kept (fun g hg=>?_),ks.kept (fun g hg=>?_),fun q hq=>?_,belS hb x 2 v' h.le,h.le,ha⟩
 ·obtain ⟨c1,h1⟩:=zAG ho hg
  exact zAE (zAK h1 kx (by decide)) 2 v'
 ·obtain ⟨c1,h1⟩:=zAG ks hg
  exact zAE (zAK h1 kx (by decide)) 2 v'
 ·rcases List.mem_append.1 hq with hq | hq
  ·exact far _ _ (kw _ _ (h.ow q hq))
  ·simp at hq;subst hq;exact far _ _ (kw _ _ hp)
theorem Iv.done {w1 wr:World} {tm nx:Int} {x:Nat} {v2 v3:Value} {ps:List LkA} {ss:List Sn} (h:Iv w1 wr tm nx x v2 v3 ps ss) (B r:Nat) (hB:B≤w1.heap.size) (hr:r<w1.heap.size) (a b c d:Value) :
 OwnL ((((wr.setCell ⟨r,0,none⟩ a).setCell ⟨r,1,none⟩ b).setCell ⟨r,2,none⟩ c).setCell ⟨r,3,none⟩ d) B v2 ps∧(∀ p ∈ ps,OwnW ((((wr.setCell ⟨r,0,none⟩ a).setCell ⟨r,1,none⟩ b).setCell ⟨r,2,none⟩ c).setCell ⟨r,3,none⟩ d) B (uV p) p.1.ws)∧OwnS ((((wr.setCell ⟨r,0,none⟩ a).setCell ⟨r,1,none⟩ b).setCell ⟨r,2,none⟩ c).setCell ⟨r,3,none⟩ d) B v3 ss :=
 ⟨(h.ol.kept (fun g hg=>far4 (by have:=(h.ol.lt g hg).1;omega) _ _ _ _)).mono hB,fun p hp=>((h.ow p hp).kept (fun g hg=>far4 (by have:=((h.ow p hp).lt g hg).1;omega) _ _ _ _)).mono hB,(h.os.kept (fun g hg=>far4 (by have:=(h.os.lt g hg).1;omega) _ _ _ _)).mono hB⟩
theorem OwnL.slice' {w:World} {B n:Nat} {v:Value} {ms:List LkA} (h:OwnL w B v ms) (hn:ms.length=n):∃ a cap,v=.slice a n cap:=by subst hn;exact h.slice
end Go.Proofs.YticokpbelgpfmaaGreat.Lo
namespace Go.Proofs.YticokpbelgpfmaaGreat.Lp
open Go.RowKit By Ap Tb Tw Mw Wa Bk Tp Tq
theorem tok_true {p:Prop} (h:bOf p=true):p:=Classical.byContradiction fun hn=>by rw [zAM hn] at h;cases h
theorem toList_inj {a b:ByteArray} (h:a.data.toList=b.data.toList):a=b:=by
 cases a
 cases b
 have h2:=Array.toList_inj.1 h
 simp only at h2
 rw [h2]
theorem names_up {nx:Int} {ls:List Lk} (h:LsOK nx ls):∀ (d j:Nat) (x y:Lk),ls[j]?=some x→ls[j+1+d]?=some y→x.n.toList<y.n.toList
 | 0,j,x,y,hx,hy=>by
   have h1:=(h (j+1) y hy).1
   rw [pn_succ hx] at h1
   have h2:=zBO x.n.toList y.n.toList
   rw [h1,Go.Proofs.bytesLess_eq] at h2
   simpa using h2
 | d+1,j,x,y,hx,hy=>by
   have hl:=zAw hy
   obtain ⟨z,hz⟩:=Tw.get_at (xs:=ls) (k:=j+1+d) (by omega)
   have h0:=names_up h d j x z hx hz
   have h1:=names_up h 0 (j+1+d) z y hz (by rw [← hy];congr 1)
   exact List.lt_trans h0 h1
def l0:Lk:=⟨⟨#[]⟩,0,0,0,[]⟩
end Go.Proofs.YticokpbelgpfmaaGreat.Lp
namespace Go.Proofs.YticokpbelgpfmaaGreat.Lo
open Go.RowKit Tb Tw
end Go.Proofs.YticokpbelgpfmaaGreat.Lo
namespace Go.Proofs.YticokpbelgpfmaaGreat.Ja
open Go.RowKit Tb Tw Tp Bk Da Rq
open Lo (LkA uV)
theorem before_irr (a:Lit):a.before a=false:=by
 cases a with
 | bool b=>cases b <;> rfl
 | int q b=>simp [Lit.before]
 | string b=>exact WideAt.bytes_irrefl b
 | _=>rfl
theorem bytes_lt:∀ a b:List UInt8,bytesBefore a b=decide (a<b)
 | [],[]=>by simp [bytesBefore]
 | [],y :: s=>by simp [bytesBefore]
 | x :: r,[]=>by simp [bytesBefore]
 | x :: r,y :: s=>by
   have ih:=bytes_lt r s
   simp only [bytesBefore,ih,List.cons_lt_cons_iff]
   by_cases h1:x<y
   ·simp [h1]
   ·by_cases h2:x=y
    ·simp [h2]
    ·simp [h1,h2]
theorem zBe (a b:Lit) (h:a.before b=true):b.before a=false:=by
 cases a <;> cases b <;> simp [Lit.before] at h ⊢
 ·exact fun _=>h.1
 ·omega
 ·rw [bytes_lt] at h ⊢
  simp at h ⊢
  exact fun h2=>List.lt_irrefl _ (List.lt_trans h h2)
section
variable {α:Type} (E:α→Lit × DataW Value)
def mapOf (xs:List α):DataW Value:=.map (xs.map E)
def Asc (xs:List α):Prop:=xs.Pairwise fun x y=>(E x).1.before (E y).1=true
variable {E}
theorem Asc.ne {xs:List α} (h:Asc E xs):(xs.map E).Pairwise fun p q=>p.1 ≠ q.1:=by
 refine List.pairwise_map.2 (List.Pairwise.imp ?_ h)
 intro a b hab e
 rw [e,before_irr] at hab
 cases hab
theorem Asc.lt {xs:List α} (h:Asc E xs) {i j:Nat} {x y:α} (hi:xs[i]?=some x) (hj:xs[j]?=some y) (hij:i<j):(E x).1.before (E y).1=true:=by
 obtain ⟨h1,rfl⟩:=List.getElem?_eq_some_iff.1 hi
 obtain ⟨h2,rfl⟩:=List.getElem?_eq_some_iff.1 hj
 exact List.pairwise_iff_getElem.1 h i j h1 h2 hij
theorem zAe (xs:List α):Maps.size (mapOf E xs)=xs.length:=by unfold mapOf Maps.size;simp
theorem at_hit (hk:∀ x,WideAt.IsKeyLit (E x).1) {xs:List α} (h:Asc E xs) {x:α} (hx:x ∈ xs) (z:DataW Value):(mapOf E xs).atKey (E x).1 z=(E x).2 :=
 WideAt.atKey_mem z (hk x) h.ne (List.mem_map.2 ⟨x,hx,rfl⟩)
theorem has_hit (hk:∀ x,WideAt.IsKeyLit (E x).1) {xs:List α} {x:α} (hx:x ∈ xs):Maps.has (mapOf E xs) (E x).1=true:=by
 unfold mapOf
 rw [Maps.has_eq,List.any_eq_true]
 exact ⟨E x,List.mem_map.2 ⟨x,hx,rfl⟩,WideAt.sameKey_self (hk x)⟩
theorem has_miss {xs:List α} {k:Lit} (h:∀ x ∈ xs,(E x).1 ≠ k):Maps.has (mapOf E xs) k=false:=by
 unfold mapOf
 rw [Maps.has_eq,Bool.eq_false_iff]
 intro e
 obtain ⟨p,hp,hs⟩:=List.any_eq_true.1 e
 obtain ⟨x,hx,rfl⟩:=List.mem_map.1 hp
 exact h x hx (WideAt.sameKey_eq hs)
theorem at_miss {xs:List α} {k:Lit} (h:∀ x ∈ xs,(E x).1 ≠ k) (z:DataW Value):(mapOf E xs).atKey k z=z:=Maps.atKey_of_not_has (has_miss h) z
theorem insert_at (y:α):∀ (xs:List α) (i:Nat),i≤xs.length→(∀ (j:Nat) (x:α),j<i→xs[j]?=some x→(E y).1.before (E x).1=false)→(∀ x,xs[i]?=some x→(E y).1.before (E x).1=true)→DataW.insert (E y) (xs.map E)=(putAt xs i y).map E
 | [],i,hi,_,_=>by
   obtain rfl:i=0:=by simpa using hi
   rfl
 | x :: r,0,_,_,h2=>by
   have:=h2 x rfl
   simp only [List.map_cons,DataW.insert,this,if_true]
   simp [putAt]
 | x :: r,i+1,hi,h1,h2=>by
   have h0:=h1 0 x (by omega) rfl
   have ih:=insert_at y r i (by simpa using hi) (fun j z hj hz=>h1 (j+1) z (by omega) (by simpa using hz)) (fun z hz=>h2 z (by simpa using hz))
   simp only [List.map_cons,DataW.insert,h0]
   rw [if_neg (by decide),ih]
   simp [putAt]
theorem filter_miss {xs:List α} {k:Lit} (h:∀ x ∈ xs,(E x).1 ≠ k):(xs.map E).filter (fun p=>!p.1.sameKey k)=xs.map E:=by
 refine List.filter_eq_self.2 fun p hp=>?_
 obtain ⟨x,hx,rfl⟩:=List.mem_map.1 hp
 simp only [Bool.not_eq_true',Bool.eq_false_iff]
 exact fun e=>h x hx (WideAt.sameKey_eq e)
theorem filter_hit {k:Lit} (hk:WideAt.IsKeyLit k):∀ (xs:List α) (i:Nat) (x:α),(xs.map E).Pairwise (fun p q=>p.1 ≠ q.1)→xs[i]?=some x→(E x).1=k→(xs.map E).filter (fun p=>!p.1.sameKey k)=(xs.eraseIdx i).map E
 | [],i,x,_,h,_=>by simp at h
 | y :: r,0,x,hp,h,hx=>by
   simp at h
   subst h
   rw [List.map_cons] at hp
   have h2:=List.pairwise_cons.1 hp
   rw [List.map_cons,List.filter_cons_of_neg (by rw [hx];simp [WideAt.sameKey_self hk]),List.eraseIdx_cons_zero]
   exact filter_miss fun z hz e=>h2.1 (E z) (List.mem_map.2 ⟨z,hz,rfl⟩) (hx.trans e.symm)
 | y :: r,i+1,x,hp,h,hx=>by
   have h':r[i]?=some x:=by simpa using h
   rw [List.map_cons] at hp
   have h2:=List.pairwise_cons.1 hp
   have hne:(E y).1 ≠ k:=fun e=>h2.1 (E x) (List.mem_map.2 ⟨x,List.mem_of_getElem? h',rfl⟩) (e.trans hx.symm)
   have hf:(!(E y).1.sameKey k)=true:=by simp only [Bool.not_eq_true',Bool.eq_false_iff];exact fun e=>hne (WideAt.sameKey_eq e)
   rw [List.map_cons,List.filter_cons_of_pos (by simpa using hf),filter_hit hk r i x h2.2 h' hx,List.eraseIdx_cons_succ,List.map_cons]
theorem put_erase {y:α}:∀ (xs:List α) (i:Nat),i<xs.length→putAt (xs.eraseIdx i) i y=xs.set i y
 | [],i,h=>by simp at h
 | x :: r,0,_=>by simp [putAt]
 | x :: r,i+1,h=>by
   have ih:=put_erase (y:=y) r i (by simpa using h)
   simp only [putAt] at ih ⊢
   simp [ih]
theorem put_hit (hk:∀ x,WideAt.IsKeyLit (E x).1) {xs:List α} (h:Asc E xs) {i:Nat} {x y:α} (hx:xs[i]?=some x) (he:(E y).1=(E x).1):(mapOf E xs).put (E y).1 (E y).2=mapOf E (xs.set i y):=by
 have hil:=(List.getElem?_eq_some_iff.1 hx).1
 show DataW.map (DataW.insert ((E y).1,(E y).2) ((xs.map E).filter fun p=>!p.1.sameKey (E y).1))=_
 rw [filter_hit (hk y) xs i x h.ne hx he.symm,show ((E y).1,(E y).2)=E y from rfl,insert_at y (xs.eraseIdx i) i (by rw [List.length_eraseIdx];split <;> omega) ?_ ?_,put_erase xs i hil]
 ·rfl
 ·intro j z hj hz
  rw [List.getElem?_eraseIdx,if_pos hj] at hz
  have:=h.lt hz hx hj
  rw [he]
  exact zBe _ _ this
 ·intro z hz
  rw [List.getElem?_eraseIdx,if_neg (by omega)] at hz
  rw [he]
  exact h.lt hx hz (by omega)
theorem put_miss {xs:List α} {i:Nat} {y:α} (hn:∀ x ∈ xs,(E x).1 ≠ (E y).1) (hi:i≤xs.length) (h1:∀ (j:Nat) (x:α),j<i→xs[j]?=some x→(E y).1.before (E x).1=false) (h2:∀ x,xs[i]?=some x→(E y).1.before (E x).1=true):(mapOf E xs).put (E y).1 (E y).2=mapOf E (putAt xs i y):=by
 show DataW.map (DataW.insert ((E y).1,(E y).2) ((xs.map E).filter fun p=>!p.1.sameKey (E y).1))=_
 rw [filter_miss hn,show ((E y).1,(E y).2)=E y from rfl,insert_at y xs i hi h1 h2]
 rfl
theorem put_last {xs:List α} {y:α} (h:Asc E (xs ++ [y])):(mapOf E xs).put (E y).1 (E y).2=mapOf E (xs ++ [y]):=by
 have hp:=List.pairwise_append.1 h
 have hb:∀ x ∈ xs,(E x).1.before (E y).1=true:=fun x hx=>hp.2.2 x hx y (List.mem_singleton.2 rfl)
 rw [put_miss (i:=xs.length) (fun x hx e=>by have:=hb x hx;rw [e,before_irr] at this;cases this) (Nat.le_refl _) (fun j x _ hj=>zBe _ _ (hb x (List.mem_of_getElem? hj))) (fun x hx=>by simp at hx)]
 simp [putAt]
end
def eV (q:Lk × Value):Lit × DataW Value:=(kS q.1.n,.held (lkV q.1 q.2))
def eL (p:LkA):Lit × DataW Value:=(kS p.1.n,.held (lkV p.1 (uV p)))
def eS (s:Sn):Lit × DataW Value:=(kI s.c,.held (snV s))
theorem key_L (p:LkA):WideAt.IsKeyLit (eL p).1:=trivial
theorem key_S (s:Sn):WideAt.IsKeyLit (eS s).1:=trivial
abbrev mL (ps:List LkA):DataW Value:=mapOf eL ps
abbrev mS (ss:List Sn):DataW Value:=mapOf eS ss
theorem fold_eq {α:Type} {E:α→Lit × DataW Value}:∀ (qs ps:List α),Asc E (ps ++ qs)→qs.foldl (fun D q=>D.put (E q).1 (E q).2) (mapOf E ps)=mapOf E (ps ++ qs)
 | [],ps,_=>by simp
 | q :: r,ps,h=>by
   have h':Asc E ((ps ++ [q]) ++ r):=by simpa using h
   rw [List.foldl_cons,put_last (List.pairwise_append.1 h').1,fold_eq r (ps ++ [q]) h']
   simp
theorem dL_eq {ps:List (Lk × Value)} (h:Asc eV ps):dL ps=mapOf eV ps:=fold_eq (E:=eV) ps [] h
theorem dS_eq {ss:List Sn} (h:Asc eS ss):dS ss=mapOf eS ss:=fold_eq (E:=eS) ss [] h
def NmA (ls:List Lk):Prop:=ls.Pairwise fun x y=>less x.n y.n=true
def ClA (ss:List Sn):Prop:=ss.Pairwise fun x y=>x.c<y.c
theorem zBX (a b:ByteArray):(kS a).before (kS b)=less a b:=by
 show bytesBefore a.data.toList b.data.toList=Op.bytesLess a.toList b.toList
 rw [bytes_lt,Go.Proofs.bytesLess_eq,ByteArray.toList_eq,ByteArray.toList_eq]
theorem NmA.asc {ps:List LkA} (h:NmA (ps.map (·.1))):Asc eL ps:=by
 refine List.Pairwise.imp ?_ (List.pairwise_map.1 h)
 intro a b hab
 rw [← zBX] at hab
 exact hab
theorem NmA.ascV {ps:List (Lk × Value)} (h:NmA (ps.map (·.1))):Asc eV ps:=by
 refine List.Pairwise.imp ?_ (List.pairwise_map.1 h)
 intro a b hab
 rw [← zBX] at hab
 exact hab
theorem ClA.asc {ss:List Sn} (h:ClA ss):Asc eS ss:=by
 refine List.Pairwise.imp ?_ h
 intro a b hab
 show decide (a.c<b.c)=true
 simpa using hab
theorem NmA.of {nx:Int} {ls:List Lk} (h:LsOK nx ls):NmA ls:=by
 refine List.pairwise_iff_getElem.2 fun i j hi hj hij=>?_
 have h1:=Lp.names_up h (j - i - 1) i _ _ (List.getElem?_eq_getElem hi) (by rw [← List.getElem?_eq_getElem hj];congr 1;omega)
 unfold less
 rw [Go.Proofs.bytesLess_eq]
 simpa using h1
theorem cl_up {ss:List Sn} (h:SsOK ss):∀ (d j:Nat) (x y:Sn),ss[j]?=some x→ss[j+1+d]?=some y→x.c<y.c
 | 0,j,x,y,hx,hy=>by
   have h1:=(h (j+1) y hy).1
   rw [pc_succ hx] at h1
   unfold inB at h1
   simp at h1
   omega
 | d+1,j,x,y,hx,hy=>by
   obtain ⟨z,hz⟩:=Tw.get_at (xs:=ss) (k:=j+1+d) (by have:=(List.getElem?_eq_some_iff.1 hy).1;omega)
   have h0:=cl_up h d j x z hx hz
   have h1:=cl_up h 0 (j+1+d) z y hz (by rw [← hy];congr 1)
   omega
theorem ClA.of {ss:List Sn} (h:SsOK ss):ClA ss:=by
 refine List.pairwise_iff_getElem.2 fun i j hi hj hij=>?_
 exact cl_up h (j - i - 1) i _ _ (List.getElem?_eq_getElem hi) (by rw [← List.getElem?_eq_getElem hj];congr 1;omega)
theorem keys_L (ps:List LkA):strKeys (mL ps)=ps.map fun p=>p.1.n.data.toList:=by
 show List.map _ (List.map _ ps)=_
 rw [List.map_map]
 rfl
theorem keys_S (ss:List Sn):intKeys (mS ss)=ss.map fun s=>s.c:=by
 show List.map _ (List.map _ ss)=_
 rw [List.map_map]
 rfl
theorem sort_L {ps:List LkA} (h:NmA (ps.map (·.1))) {ks:List (List UInt8)} (hp:ks.Perm (strKeys (mL ps))):ks.mergeSort (fun x y=>decide (x≤y))=ps.map fun p=>p.1.n.data.toList:=by
 rw [keys_L] at hp
 rw [show ks.mergeSort (fun x y=>decide (x≤y))=_ from mergeSort_of_perm hp]
 refine List.mergeSort_of_pairwise (List.pairwise_map.2 (List.Pairwise.imp ?_ (List.pairwise_map.1 h)))
 intro a b hab
 unfold less at hab
 rw [Go.Proofs.bytesLess_eq,ByteArray.toList_eq,ByteArray.toList_eq] at hab
 simp only [decide_eq_true_eq] at hab ⊢
 exact List.le_of_lt hab
theorem sort_S {ss:List Sn} (h:ClA ss) {ks:List Int} (hp:ks.Perm (intKeys (mS ss))):ks.mergeSort (fun x y=>decide (x≤y))=ss.map fun s=>s.c:=by
 rw [keys_S] at hp
 rw [show ks.mergeSort (fun x y=>decide (x≤y))=_ from mergeSort_of_perm_i hp]
 refine List.mergeSort_of_pairwise (List.pairwise_map.2 (List.Pairwise.imp ?_ h))
 intro a b hab
 simp only [decide_eq_true_eq]
 omega
end Go.Proofs.YticokpbelgpfmaaGreat.Ja
