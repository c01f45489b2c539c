/- Texts put together: Tw2, Tw3, Tw4. -/
import Derived.Test.YticokpbelgpfmaaGreatMa2
import Derived.Deep.CutRange
import Derived.Deep.DeepCutAuto
namespace Go.Proofs.YticokpbelgpfmaaGreat.Tw
open Go.RowKit Ap Tx Tb
theorem three {w w1:World} {o0 o1 o2:Obj} (b:Below (((w.alloc o0).alloc o1).alloc o2).heap.size (((w.alloc o0).alloc o1).alloc o2) w1) :
 w1.heap[w.heap.size]?=some o0∧w1.heap[w.heap.size+1]?=some o1∧w1.heap[w.heap.size+1+1]?=some o2∧w.heap.size+1+1+1≤w1.heap.size∧Below w.heap.size w w1:=by
 have e1:(w.alloc o0).heap.size=w.heap.size+1:=zAL _ _
 have e2:((w.alloc o0).alloc o1).heap.size=w.heap.size+1+1:=by rw [zAL,e1]
 have e3:(((w.alloc o0).alloc o1).alloc o2).heap.size=w.heap.size+1+1+1:=by rw [zAL,e2]
 have b1:Below w.heap.size w (((w.alloc o0).alloc o1).alloc o2):=(((Below.refl _ _).alloc (Nat.le_refl _) _).alloc (by rw [e1];omega) _).alloc (by rw [e2];omega) _
 have s:=b.size
 rw [e3] at b s
 refine ⟨?_,?_,?_,s,b1.trans (b.mono (by omega))⟩
 ·rw [b.block _ (by omega),Below.heap_alloc _ _ _ (by omega),Below.heap_alloc _ _ _ (by omega)];exact heap_alloc_new w _
 ·rw [b.block _ (by omega),Below.heap_alloc _ _ _ (by omega),← e1];exact heap_alloc_new _ _
 ·rw [b.block _ (by omega),← e2];exact heap_alloc_new _ _
set_option maxRecDepth 100000 in
set_option maxHeartbeats 800000 in
theorem toSeen_any (x:Sn) (w:World) :
 Calls Tryz.prog 114 #[snV x] w fun e w'=>e=.returned (snV x)∧Below w.heap.size w w':=by
 unfold snV
 go_enter Tryz.func114,Tryz.ntmps114
 go_wp2_with fail
 refine (toAnswer_any x.k x.t x.h x.e _).mono ?_
 rintro e w1 ⟨rfl,b1⟩
 obtain ⟨k0,k1,k2,kS,kB⟩:=three b1
 have K0:Hid (w1.heap[w.heap.size]?=some (.cells #[.int .i64 x.c,.int .i64 x.s,.int .i64 x.k,.int .i64 x.t,.int .i64 x.h,.int .i64 x.e] 166)):=k0
 have K1:Hid (w1.heap[w.heap.size+1]?=some (.cells #[.int .i64 0,.int .i64 0,.int .i64 0,.int .i64 0,.int .i64 0,.int .i64 0] 116 (0,0))):=k1
 have K2:Hid (w1.heap[w.heap.size+1+1]?=some (.cells #[.int .i64 x.c,.int .i64 x.s,.int .i64 0,.int .i64 0,.int .i64 0,.int .i64 0] 116 (0,0))):=k2
 have KB:Hid (Below w.heap.size w w1):=kB
 clear b1 k0 k1 k2 kB kS
 obtain ⟨s0,t0⟩:=zAA K2.out 2 (x:=.int .i64 0) rfl
 obtain ⟨s1,t1⟩:=zAA K2.out 3 (x:=.int .i64 0) rfl
 obtain ⟨s2,t2⟩:=zAA K2.out 4 (x:=.int .i64 0) rfl
 obtain ⟨s3,t3⟩:=zAA K2.out 5 (x:=.int .i64 0) rfl
 have B2:Hid (((((w1.setCell ⟨w.heap.size+1+1,2,none⟩ (.int .i64 x.k)).setCell ⟨w.heap.size+1+1,3,none⟩ (.int .i64 x.t)).setCell ⟨w.heap.size+1+1,4,none⟩ (.int .i64 x.h)).setCell ⟨w.heap.size+1+1,5,none⟩ (.int .i64 x.e)).heap[w.heap.size+1+1]?=some (.cells #[.int .i64 x.c,.int .i64 x.s,.int .i64 x.k,.int .i64 x.t,.int .i64 x.h,.int .i64 x.e] 116 (0,0))):=(zAC (zAC (zAC (zAC K2.out 2 (.int .i64 x.k)) 3 (.int .i64 x.t)) 4 (.int .i64 x.h)) 5 (.int .i64 x.e))
 have A2:Hid (((((w1.setCell ⟨w.heap.size+1+1,2,none⟩ (.int .i64 x.k)).setCell ⟨w.heap.size+1+1,3,none⟩ (.int .i64 x.t)).setCell ⟨w.heap.size+1+1,4,none⟩ (.int .i64 x.h)).setCell ⟨w.heap.size+1+1,5,none⟩ (.int .i64 x.e)).heap[w.heap.size+1]?=some (.cells #[.int .i64 0,.int .i64 0,.int .i64 0,.int .i64 0,.int .i64 0,.int .i64 0] 116 (0,0))):=((zAE (by omega) 5 (.int .i64 x.e)).trans ((zAE (by omega) 4 (.int .i64 x.h)).trans ((zAE (by omega) 3 (.int .i64 x.t)).trans ((zAE (by omega) 2 (.int .i64 x.k)).trans K1.out))))
 have G2:Hid (Below w.heap.size w ((((w1.setCell ⟨w.heap.size+1+1,2,none⟩ (.int .i64 x.k)).setCell ⟨w.heap.size+1+1,3,none⟩ (.int .i64 x.t)).setCell ⟨w.heap.size+1+1,4,none⟩ (.int .i64 x.h)).setCell ⟨w.heap.size+1+1,5,none⟩ (.int .i64 x.e))):=(Below.setCell (Below.setCell (Below.setCell (Below.setCell KB.out (p:=⟨w.heap.size+1+1,2,none⟩) (by show _≤w.heap.size+1+1;omega) (.int .i64 x.k)) (p:=⟨w.heap.size+1+1,3,none⟩) (by show _≤w.heap.size+1+1;omega) (.int .i64 x.t)) (p:=⟨w.heap.size+1+1,4,none⟩) (by show _≤w.heap.size+1+1;omega) (.int .i64 x.h)) (p:=⟨w.heap.size+1+1,5,none⟩) (by show _≤w.heap.size+1+1;omega) (.int .i64 x.e))
 clear K0 K1 K2
 go_upto_region 5 with fail
 generalize ((((w1.setCell ⟨w.heap.size+1+1,2,none⟩ (.int .i64 x.k)).setCell ⟨w.heap.size+1+1,3,none⟩ (.int .i64 x.t)).setCell ⟨w.heap.size+1+1,4,none⟩ (.int .i64 x.h)).setCell ⟨w.heap.size+1+1,5,none⟩ (.int .i64 x.e))=w9 at B2 A2 G2 ⊢
 have p0:=(zAA B2.out 0 (x:=.int .i64 x.c) rfl).1
 have p1:=(zAA B2.out 1 (x:=.int .i64 x.s) rfl).1
 have p2:=(zAA B2.out 2 (x:=.int .i64 x.k) rfl).1
 have p3:=(zAA B2.out 3 (x:=.int .i64 x.t) rfl).1
 have p4:=(zAA B2.out 4 (x:=.int .i64 x.h) rfl).1
 have p5:=(zAA B2.out 5 (x:=.int .i64 x.e) rfl).1
 obtain ⟨m0,n0⟩:=zAA A2.out 0 (x:=.int .i64 0) rfl
 obtain ⟨m1,n1⟩:=zAA A2.out 1 (x:=.int .i64 0) rfl
 obtain ⟨m2,n2⟩:=zAA A2.out 2 (x:=.int .i64 0) rfl
 obtain ⟨m3,n3⟩:=zAA A2.out 3 (x:=.int .i64 0) rfl
 obtain ⟨m4,n4⟩:=zAA A2.out 4 (x:=.int .i64 0) rfl
 obtain ⟨m5,n5⟩:=zAA A2.out 5 (x:=.int .i64 0) rfl
 have AF:((((((w9.setCell ⟨w.heap.size+1,0,none⟩ (.int .i64 x.c)).setCell ⟨w.heap.size+1,1,none⟩ (.int .i64 x.s)).setCell ⟨w.heap.size+1,2,none⟩ (.int .i64 x.k)).setCell ⟨w.heap.size+1,3,none⟩ (.int .i64 x.t)).setCell ⟨w.heap.size+1,4,none⟩ (.int .i64 x.h)).setCell ⟨w.heap.size+1,5,none⟩ (.int .i64 x.e)).heap[w.heap.size+1]?=some (.cells #[.int .i64 x.c,.int .i64 x.s,.int .i64 x.k,.int .i64 x.t,.int .i64 x.h,.int .i64 x.e] 116 (0,0)):=(zAC (zAC (zAC (zAC (zAC (zAC A2.out 0 (.int .i64 x.c)) 1 (.int .i64 x.s)) 2 (.int .i64 x.k)) 3 (.int .i64 x.t)) 4 (.int .i64 x.h)) 5 (.int .i64 x.e))
 have GF:Below w.heap.size w ((((((w9.setCell ⟨w.heap.size+1,0,none⟩ (.int .i64 x.c)).setCell ⟨w.heap.size+1,1,none⟩ (.int .i64 x.s)).setCell ⟨w.heap.size+1,2,none⟩ (.int .i64 x.k)).setCell ⟨w.heap.size+1,3,none⟩ (.int .i64 x.t)).setCell ⟨w.heap.size+1,4,none⟩ (.int .i64 x.h)).setCell ⟨w.heap.size+1,5,none⟩ (.int .i64 x.e)):=(Below.setCell (Below.setCell (Below.setCell (Below.setCell (Below.setCell (Below.setCell G2.out (p:=⟨w.heap.size+1,0,none⟩) (by show _≤w.heap.size+1;omega) (.int .i64 x.c)) (p:=⟨w.heap.size+1,1,none⟩) (by show _≤w.heap.size+1;omega) (.int .i64 x.s)) (p:=⟨w.heap.size+1,2,none⟩) (by show _≤w.heap.size+1;omega) (.int .i64 x.k)) (p:=⟨w.heap.size+1,3,none⟩) (by show _≤w.heap.size+1;omega) (.int .i64 x.t)) (p:=⟨w.heap.size+1,4,none⟩) (by show _≤w.heap.size+1;omega) (.int .i64 x.h)) (p:=⟨w.heap.size+1,5,none⟩) (by show _≤w.heap.size+1;omega) (.int .i64 x.e))
 go_wp2_with fail
 generalize ((((((w9.setCell ⟨w.heap.size+1,0,none⟩ (.int .i64 x.c)).setCell ⟨w.heap.size+1,1,none⟩ (.int .i64 x.s)).setCell ⟨w.heap.size+1,2,none⟩ (.int .i64 x.k)).setCell ⟨w.heap.size+1,3,none⟩ (.int .i64 x.t)).setCell ⟨w.heap.size+1,4,none⟩ (.int .i64 x.h)).setCell ⟨w.heap.size+1,5,none⟩ (.int .i64 x.e))=wf at AF GF ⊢
 have d0:=(zAA AF 0 (x:=.int .i64 x.c) rfl).1
 have d1:=(zAA AF 1 (x:=.int .i64 x.s) rfl).1
 have d2:=(zAA AF 2 (x:=.int .i64 x.k) rfl).1
 have d3:=(zAA AF 3 (x:=.int .i64 x.t) rfl).1
 have d4:=(zAA AF 4 (x:=.int .i64 x.h) rfl).1
 have d5:=(zAA AF 5 (x:=.int .i64 x.e) rfl).1
 exact bodyPost_ret (v:=snV x) (by simp [snV,results,Tryz.results114,go_sem,d0,d1,d2,d3,d4,d5]) rfl ⟨rfl,GF⟩
theorem info_toWaiterS:(Tryz.prog.info? 153).map (fun i=>(i.zero,i.size,i.bytes))=some (some (.agg #[.int .i64 0,.int .i64 0]),2,16):=by kernel_rfl
def zAc (xs:List Wt) (k:Nat) (A:Array Value):Prop:=A.size=xs.length * 2∧∀ j x,j<k→xs[j]?=some x→A[j * 2]?=some (.int .i64 x.c)∧A[j * 2+1]?=some (.int .i64 x.l)
theorem cop_toWaiterS {xs:List Wt} {k:Nat} {A:Array Value} {x:Wt} (h:zAc xs k A) (hx:xs[k]?=some x) :
 zAc xs (k+1) (((A).setIfInBounds (k * 2) (.int .i64 x.c)).setIfInBounds (k * 2+1) (.int .i64 x.l)):=by
 have hk:=zAw hx
 have hs:=h.1
 refine ⟨by simpa using h.1,fun j y hj hy=>?_⟩
 simp only [Array.getElem?_setIfInBounds,Array.size_setIfInBounds]
 by_cases e:j=k
 ·subst e
  rw [hx] at hy
  cases hy
  refine ⟨?_,?_⟩
  all_goals (repeat' (first | rw [if_pos rfl,if_pos (by omega)] | rw [if_neg (by omega)]))
 ·obtain ⟨h0,h1⟩:=h.2 j y (by omega) hy
  refine ⟨?_,?_⟩
  all_goals (repeat' rw [if_neg (by omega)])
  all_goals assumption
set_option maxRecDepth 100000 in
set_option maxHeartbeats 800000 in
theorem toWaiterS_any (v:Value) (xs:List Wt) (w:World) (h:RowW w v xs) (hl:xs.length≤1048576) :
 Calls Tryz.prog 144 #[v] w fun e w'=>∃ g,e=.returned (.slice (some ⟨g,0,none⟩) xs.length xs.length)∧w.heap.size≤g∧g<w'.heap.size∧(∀ i x,xs[i]?=some x→EW w' g (i * 2) x)∧Below w.heap.size w w':=by
 have HR:Hid (RowW w v xs):=h
 obtain ⟨a,cap,rfl⟩:=RowG.slice h
 clear h
 obtain ⟨i0,hi,hz0,hz1,hz2⟩:=info_parts info_toWaiterS
 have hmk:=run_make (P:=Tryz.prog) w 43 153 i0 (.agg #[.int .i64 0,.int .i64 0]) Tryz.underlying43 hi hz0 .i64 .i64 (xs.length:Int) (xs.length:Int) (by omega) (by omega) (by rw [hz2];omega) (by omega)
 have hA0:zAc xs 0 (madeCells (Value.agg #[.int .i64 0,.int .i64 0]).cells ((xs.length:Int).toNat * i0.size)):=⟨by rw [hz1];simp [madeCells,Value.cells],fun j x hj=>absurd hj (by omega)⟩
 generalize madeCells (Value.agg #[.int .i64 0,.int .i64 0]).cells ((xs.length:Int).toNat * i0.size)=A0 at hmk hA0
 rw [Int.toNat_natCast] at hmk
 go_enter Tryz.func144,Tryz.ntmps144
 go_wp2_with fail
 clear hmk
 go_loopw [4] (fun i wr=>∃ k:Nat,∃ A:Array Value,k≤xs.length∧i=.int .i64 k∧Hid (wr.heap[w.heap.size]?=some (.cells A 153 (0,0))∧zAc xs k A∧Below w.heap.size w wr)) (fun i _=>xs.length - (intOf i).toNat)
 case atStart=>exact ⟨0,A0,by omega,rfl,⟨heap_alloc_new w _,hA0,zAD _ _⟩⟩
 case round =>
  clear hA0
  obtain ⟨k,A,hk,rfl,HA⟩:=hrel
  by_cases hlt:k<xs.length
  ·obtain ⟨x,hx⟩:=get_at hlt
   obtain ⟨b,off,rfl,hbl,c0,c1⟩:=RowG.at (HR.out.below HA.out.2.2) rfl hx
   have HX:Hid (xs[k]?=some x):=hx
   clear hx
   go_wp2_with fail
   refine (toWaiter_any x wr).mono ?_
   rintro e w2 ⟨rfl,b2⟩
   have hg:=(Array.getElem?_eq_some_iff.1 HA.out.1).1
   have HA2:Hid (w2.heap[w.heap.size]?=some (.cells A 153 (0,0))∧zAc xs k A∧Below w.heap.size w w2):=⟨(b2.block _ hg).trans HA.out.1,HA.out.2.1,HA.out.2.2.trans (b2.mono HA.out.2.2.size)⟩
   clear b2 c0 c1 HA
   have hsz:k * 2+1<A.size:=by rw [HA2.out.2.1.1];omega
   obtain ⟨d0,f0⟩:=zAA HA2.out.1 (k * 2) (x:=A[k * 2]) (Array.getElem?_eq_getElem (by omega))
   obtain ⟨d1,f1⟩:=zAA HA2.out.1 (k * 2+1) (x:=A[k * 2+1]) (Array.getElem?_eq_getElem (by omega))
   unfold wtV
   go_wp2_with fail
   refine ⟨⟨k+1,((A).setIfInBounds (k * 2) (.int .i64 x.c)).setIfInBounds (k * 2+1) (.int .i64 x.l),by omega,by go_num,⟨(zAC (zAC HA2.out.1 _ _) _ _),cop_toWaiterS HA2.out.2.1 HX.out,?_⟩⟩,by simp [intOf];omega⟩
   exact (Below.setCell (Below.setCell HA2.out.2.2 (p:=⟨w.heap.size,k * 2,none⟩) (Nat.le_refl _) (.int .i64 x.c)) (p:=⟨w.heap.size,k * 2+1,none⟩) (Nat.le_refl _) (.int .i64 x.l))
  ·obtain rfl:k=xs.length:=by omega
   go_wp2_with fail
   go_ret
   refine ⟨w.heap.size,rfl,Nat.le_refl _,(Array.getElem?_eq_some_iff.1 HA.out.1).1,fun i x hi=>?_,HA.out.2.2⟩
   obtain ⟨e0,e1⟩:=HA.out.2.1.2 i x (zAw hi) hi
   exact ⟨(Joins.cell_of_block HA.out.1 _).trans e0,(Joins.cell_of_block HA.out.1 _).trans e1⟩
theorem info_toSeenS:(Tryz.prog.info? 116).map (fun i=>(i.zero,i.size,i.bytes))=some (some (.agg #[.int .i64 0,.int .i64 0,.int .i64 0,.int .i64 0,.int .i64 0,.int .i64 0]),6,48):=by kernel_rfl
def zAj (xs:List Sn) (k:Nat) (A:Array Value):Prop:=A.size=xs.length * 6∧∀ j x,j<k→xs[j]?=some x→A[j * 6]?=some (.int .i64 x.c)∧A[j * 6+1]?=some (.int .i64 x.s)∧A[j * 6+2]?=some (.int .i64 x.k)∧A[j * 6+3]?=some (.int .i64 x.t)∧A[j * 6+4]?=some (.int .i64 x.h)∧A[j * 6+5]?=some (.int .i64 x.e)
theorem cop_toSeenS {xs:List Sn} {k:Nat} {A:Array Value} {x:Sn} (h:zAj xs k A) (hx:xs[k]?=some x) :
 zAj xs (k+1) (((((((A).setIfInBounds (k * 6) (.int .i64 x.c)).setIfInBounds (k * 6+1) (.int .i64 x.s)).setIfInBounds (k * 6+2) (.int .i64 x.k)).setIfInBounds (k * 6+3) (.int .i64 x.t)).setIfInBounds (k * 6+4) (.int .i64 x.h)).setIfInBounds (k * 6+5) (.int .i64 x.e)):=by
 have hk:=zAw hx
 have hs:=h.1
 refine ⟨by simpa using h.1,fun j y hj hy=>?_⟩
 simp only [Array.getElem?_setIfInBounds,Array.size_setIfInBounds]
 by_cases e:j=k
 ·subst e
  rw [hx] at hy
  cases hy
  refine ⟨?_,?_,?_,?_,?_,?_⟩
  all_goals (repeat' (first | rw [if_pos rfl,if_pos (by omega)] | rw [if_neg (by omega)]))
 ·obtain ⟨h0,h1,h2,h3,h4,h5⟩:=h.2 j y (by omega) hy
  refine ⟨?_,?_,?_,?_,?_,?_⟩
  all_goals (repeat' rw [if_neg (by omega)])
  all_goals assumption
set_option maxRecDepth 100000 in
set_option maxHeartbeats 800000 in
theorem toSeenS_any (v:Value) (xs:List Sn) (w:World) (h:RowS w v xs) (hl:xs.length≤1048576) :
 Calls Tryz.prog 78 #[v] w fun e w'=>∃ g,e=.returned (.slice (some ⟨g,0,none⟩) xs.length xs.length)∧w.heap.size≤g∧g<w'.heap.size∧(∀ i x,xs[i]?=some x→ES w' g (i * 6) x)∧Below w.heap.size w w':=by
 have HR:Hid (RowS w v xs):=h
 obtain ⟨a,cap,rfl⟩:=RowG.slice h
 clear h
 obtain ⟨i0,hi,hz0,hz1,hz2⟩:=info_parts info_toSeenS
 have hmk:=run_make (P:=Tryz.prog) w 28 116 i0 (.agg #[.int .i64 0,.int .i64 0,.int .i64 0,.int .i64 0,.int .i64 0,.int .i64 0]) Tryz.underlying28 hi hz0 .i64 .i64 (xs.length:Int) (xs.length:Int) (by omega) (by omega) (by rw [hz2];omega) (by omega)
 have hA0:zAj xs 0 (madeCells (Value.agg #[.int .i64 0,.int .i64 0,.int .i64 0,.int .i64 0,.int .i64 0,.int .i64 0]).cells ((xs.length:Int).toNat * i0.size)):=⟨by rw [hz1];simp [madeCells,Value.cells],fun j x hj=>absurd hj (by omega)⟩
 generalize madeCells (Value.agg #[.int .i64 0,.int .i64 0,.int .i64 0,.int .i64 0,.int .i64 0,.int .i64 0]).cells ((xs.length:Int).toNat * i0.size)=A0 at hmk hA0
 rw [Int.toNat_natCast] at hmk
 go_enter Tryz.func78,Tryz.ntmps78
 go_wp2_with fail
 clear hmk
 go_loopw [4] (fun i wr=>∃ k:Nat,∃ A:Array Value,k≤xs.length∧i=.int .i64 k∧Hid (wr.heap[w.heap.size]?=some (.cells A 116 (0,0))∧zAj xs k A∧Below w.heap.size w wr)) (fun i _=>xs.length - (intOf i).toNat)
 case atStart=>exact ⟨0,A0,by omega,rfl,⟨heap_alloc_new w _,hA0,zAD _ _⟩⟩
 case round =>
  clear hA0
  obtain ⟨k,A,hk,rfl,HA⟩:=hrel
  by_cases hlt:k<xs.length
  ·obtain ⟨x,hx⟩:=get_at hlt
   obtain ⟨b,off,rfl,hbl,c0,c1,c2,c3,c4,c5⟩:=RowG.at (HR.out.below HA.out.2.2) rfl hx
   have HX:Hid (xs[k]?=some x):=hx
   clear hx
   go_wp2_with fail
   refine (toSeen_any x wr).mono ?_
   rintro e w2 ⟨rfl,b2⟩
   have hg:=(Array.getElem?_eq_some_iff.1 HA.out.1).1
   have HA2:Hid (w2.heap[w.heap.size]?=some (.cells A 116 (0,0))∧zAj xs k A∧Below w.heap.size w w2):=⟨(b2.block _ hg).trans HA.out.1,HA.out.2.1,HA.out.2.2.trans (b2.mono HA.out.2.2.size)⟩
   clear b2 c0 c1 c2 c3 c4 c5 HA
   have hsz:k * 6+5<A.size:=by rw [HA2.out.2.1.1];omega
   obtain ⟨d0,f0⟩:=zAA HA2.out.1 (k * 6) (x:=A[k * 6]) (Array.getElem?_eq_getElem (by omega))
   obtain ⟨d1,f1⟩:=zAA HA2.out.1 (k * 6+1) (x:=A[k * 6+1]) (Array.getElem?_eq_getElem (by omega))
   obtain ⟨d2,f2⟩:=zAA HA2.out.1 (k * 6+2) (x:=A[k * 6+2]) (Array.getElem?_eq_getElem (by omega))
   obtain ⟨d3,f3⟩:=zAA HA2.out.1 (k * 6+3) (x:=A[k * 6+3]) (Array.getElem?_eq_getElem (by omega))
   obtain ⟨d4,f4⟩:=zAA HA2.out.1 (k * 6+4) (x:=A[k * 6+4]) (Array.getElem?_eq_getElem (by omega))
   obtain ⟨d5,f5⟩:=zAA HA2.out.1 (k * 6+5) (x:=A[k * 6+5]) (Array.getElem?_eq_getElem (by omega))
   unfold snV
   go_wp2_with fail
   refine ⟨⟨k+1,((((((A).setIfInBounds (k * 6) (.int .i64 x.c)).setIfInBounds (k * 6+1) (.int .i64 x.s)).setIfInBounds (k * 6+2) (.int .i64 x.k)).setIfInBounds (k * 6+3) (.int .i64 x.t)).setIfInBounds (k * 6+4) (.int .i64 x.h)).setIfInBounds (k * 6+5) (.int .i64 x.e),by omega,by go_num,⟨(zAC (zAC (zAC (zAC (zAC (zAC HA2.out.1 _ _) _ _) _ _) _ _) _ _) _ _),cop_toSeenS HA2.out.2.1 HX.out,?_⟩⟩,by simp [intOf];omega⟩
   exact (Below.setCell (Below.setCell (Below.setCell (Below.setCell (Below.setCell (Below.setCell HA2.out.2.2 (p:=⟨w.heap.size,k * 6,none⟩) (Nat.le_refl _) (.int .i64 x.c)) (p:=⟨w.heap.size,k * 6+1,none⟩) (Nat.le_refl _) (.int .i64 x.s)) (p:=⟨w.heap.size,k * 6+2,none⟩) (Nat.le_refl _) (.int .i64 x.k)) (p:=⟨w.heap.size,k * 6+3,none⟩) (Nat.le_refl _) (.int .i64 x.t)) (p:=⟨w.heap.size,k * 6+4,none⟩) (Nat.le_refl _) (.int .i64 x.h)) (p:=⟨w.heap.size,k * 6+5,none⟩) (Nat.le_refl _) (.int .i64 x.e))
  ·obtain rfl:k=xs.length:=by omega
   go_wp2_with fail
   go_ret
   refine ⟨w.heap.size,rfl,Nat.le_refl _,(Array.getElem?_eq_some_iff.1 HA.out.1).1,fun i x hi=>?_,HA.out.2.2⟩
   obtain ⟨e0,e1,e2,e3,e4,e5⟩:=HA.out.2.1.2 i x (zAw hi) hi
   exact ⟨(Joins.cell_of_block HA.out.1 _).trans e0,(Joins.cell_of_block HA.out.1 _).trans e1,(Joins.cell_of_block HA.out.1 _).trans e2,(Joins.cell_of_block HA.out.1 _).trans e3,(Joins.cell_of_block HA.out.1 _).trans e4,(Joins.cell_of_block HA.out.1 _).trans e5⟩
end Go.Proofs.YticokpbelgpfmaaGreat.Tw
namespace Go.Proofs.YticokpbelgpfmaaGreat.Tw
open Go.RowKit Ap Tx Tb
theorem zBP {w:World} {b o:Nat} {x:Wt} {p i:Nat} {v:Value} (hne:p ≠ b) (h:EW w b o x):EW (w.setCell ⟨p,i,none⟩ v) b o x :=
 ⟨(World.cell?_setCell_other _ _ _ _ (fun e=>hne (by have:=congrArg Addr.block e;exact this))).trans h.1,(World.cell?_setCell_other _ _ _ _ (fun e=>hne (by have:=congrArg Addr.block e;exact this))).trans h.2⟩
theorem ew_below {w w':World} {b o:Nat} {x:Wt} (hb:Below w.heap.size w w') (hlt:b<w.heap.size) (h:EW w b o x):EW w' b o x:=stays_W _ _ _ _ _ hb hlt h
def EWA (B:Nat) (w:World) (b o:Nat) (x:Wt):Prop:=B≤b∧EW w b o x
def ESA (B:Nat) (w:World) (b o:Nat) (x:Sn):Prop:=B≤b∧ES w b o x
def ELA (B:Nat) (w:World) (b o:Nat) (x:Lk):Prop:=B≤b∧∃ u,w.cell? ⟨b,o,none⟩=some (.string x.n)∧w.cell? ⟨b,o+1,none⟩=some (.int .i64 x.t)∧w.cell? ⟨b,o+2,none⟩=some (.int .i64 x.h)∧w.cell? ⟨b,o+3,none⟩=some (.int .i64 x.e)∧w.cell? ⟨b,o+4,none⟩=some u∧RowG 2 (EWA B) w u x.ws
def RowLA (B:Nat) (w:World) (v:Value) (xs:List Lk):Prop:=RowG 5 (ELA B) w v xs
def RowSA (B:Nat) (w:World) (v:Value) (xs:List Sn):Prop:=RowG 6 (ESA B) w v xs
def Abv (B:Nat) (w w':World):Prop:=w.heap.size≤w'.heap.size∧∀ k,B≤k→k<w.heap.size→w'.heap[k]?=w.heap[k]?
theorem Abv.cell {B:Nat} {w w':World} (h:Abv B w w') {b o:Nat} (hB:B≤b) {v:Value} (hc:w.cell? ⟨b,o,none⟩=some v):w'.cell? ⟨b,o,none⟩=some v :=
 (World.cell?_of_block (w:=w) (h.2 b hB (World.block_lt_of_cell? w _ hc))).trans hc
theorem Abv.set {B:Nat} {w w':World} (h:Abv B w w') {p i:Nat} (hp:p<B) (v:Value):Abv B w (w'.setCell ⟨p,i,none⟩ v) :=
 ⟨by simpa using h.1,fun k hk hk2=>(zAE (by omega) i v).trans (h.2 k hk hk2)⟩
theorem Abv.refl (B:Nat) (w:World):Abv B w w:=⟨Nat.le_refl _,fun _ _ _=>rfl⟩
theorem Abv.of {B:Nat} {w w':World} (h:Below w.heap.size w w'):Abv B w w':=⟨h.size,fun k _ hk=>h.block k hk⟩
theorem RowG.keep {α:Type} {c B:Nat} {E E':World→Nat→Nat→α→Prop} {w w':World} {v:Value} {xs:List α} (h:RowG c E w v xs) (ha:Abv B w w') (hE:∀ b o x,b<w.heap.size→E w b o x→E' w' b o x):RowG c E' w' v xs:=by
 obtain ⟨a,cap,rfl,h⟩:=h
 refine ⟨a,cap,rfl,?_⟩
 rcases h with h | ⟨b,off,rfl,hc,hlt,h⟩
 ·exact .inl h
 ·exact .inr ⟨b,off,rfl,hc,Nat.lt_of_lt_of_le hlt ha.1,fun i x hi=>hE _ _ _ hlt (h i x hi)⟩
theorem ewa_keep {B:Nat} {w w':World} (ha:Abv B w w') {b o:Nat} {x:Wt} (h:EWA B w b o x):EWA B w' b o x:=⟨h.1,ha.cell h.1 h.2.1,ha.cell h.1 h.2.2⟩
theorem RowLA.keep {B:Nat} {w w':World} {v:Value} {xs:List Lk} (h:RowLA B w v xs) (ha:Abv B w w'):RowLA B w' v xs :=
 RowG.keep h ha fun _ _ _ _ ⟨hB,u,h0,h1,h2,h3,h4,h5⟩=>⟨hB,u,ha.cell hB h0,ha.cell hB h1,ha.cell hB h2,ha.cell hB h3,ha.cell hB h4,RowG.keep h5 ha fun _ _ _ _ h=>ewa_keep ha h⟩
theorem RowSA.keep {B:Nat} {w w':World} {v:Value} {xs:List Sn} (h:RowSA B w v xs) (ha:Abv B w w'):RowSA B w' v xs :=
 RowG.keep h ha fun _ _ _ _ ⟨hB,h0,h1,h2,h3,h4,h5⟩=>⟨hB,ha.cell hB h0,ha.cell hB h1,ha.cell hB h2,ha.cell hB h3,ha.cell hB h4,ha.cell hB h5⟩
theorem RowLA.row {B:Nat} {w:World} {v:Value} {xs:List Lk} (h:RowLA B w v xs):RowL w v xs :=
 RowG.keep h (Abv.refl B w) fun _ _ _ _ ⟨_,u,h0,h1,h2,h3,h4,h5⟩=>⟨u,h0,h1,h2,h3,h4,RowG.keep h5 (Abv.refl B w) fun _ _ _ _ h=>h.2⟩
theorem RowSA.row {B:Nat} {w:World} {v:Value} {xs:List Sn} (h:RowSA B w v xs):RowS w v xs :=
 RowG.keep h (Abv.refl B w) fun _ _ _ _ h=>h.2
set_option maxRecDepth 100000 in
set_option maxHeartbeats 800000 in
theorem toLock_any (x:Lk) (u:Value) (w:World) (h:RowW w u x.ws) (hl:x.ws.length≤1048576) :
 Calls Tryz.prog 113 #[lkV x u] w fun e w'=>∃ g,e=.returned (lkV x (.slice (some ⟨g,0,none⟩) x.ws.length x.ws.length))∧w.heap.size≤g∧g<w'.heap.size∧(∀ i y,x.ws[i]?=some y→EW w' g (i * 2) y)∧Below w.heap.size w w':=by
 have HU:Hid (RowW w u x.ws):=h
 clear h
 unfold lkV
 have HB:Hid (∀ o0 o1 o2,Below w.heap.size w (((w.alloc o0).alloc o1).alloc o2)):=fun o0 o1 o2=>(three (Below.refl _ _)).2.2.2.2
 have HS:Hid (∀ o0 o1 o2,(((w.alloc o0).alloc o1).alloc o2).heap.size=w.heap.size+1+1+1):=fun o0 o1 o2=>by rw [zAL,zAL,zAL]
 go_enter Tryz.func113,Tryz.ntmps113
 go_wp2_with fail
 refine (toWaiterS_any u x.ws _ (HU.out.below (HB.out _ _ _)) hl).mono ?_
 rintro e w1 ⟨g,rfl,hg0,hg1,hr,b1⟩
 obtain ⟨k0,k1,k2,kS,kB⟩:=three b1
 rw [HS.out] at hg0
 have K0:Hid (w1.heap[w.heap.size]?=some (.cells #[.string x.n,.int .i64 x.t,.int .i64 x.h,.int .i64 x.e,u] 160)):=k0
 have K1:Hid (w1.heap[w.heap.size+1]?=some (.cells #[.string ⟨#[]⟩,.int .i64 0,.int .i64 0,.int .i64 0,.slice none 0 0] 45 (0,0))):=k1
 have K2:Hid (w1.heap[w.heap.size+1+1]?=some (.cells #[.string x.n,.int .i64 x.t,.int .i64 x.h,.int .i64 x.e,.slice none 0 0] 45 (0,0))):=k2
 have KB:Hid (Below w.heap.size w w1):=kB
 have KR:Hid (g<w1.heap.size∧∀ i y,x.ws[i]?=some y→EW w1 g (i * 2) y):=⟨hg1,hr⟩
 clear b1 k0 k1 k2 kB kS hr hg1 HB HS
 obtain ⟨s0,t0⟩:=zAA K2.out 4 (x:=.slice none 0 0) rfl
 have B2:Hid ((w1.setCell ⟨w.heap.size+1+1,4,none⟩ (.slice (some ⟨g,0,none⟩) x.ws.length x.ws.length)).heap[w.heap.size+1+1]?=some (.cells #[.string x.n,.int .i64 x.t,.int .i64 x.h,.int .i64 x.e,.slice (some ⟨g,0,none⟩) x.ws.length x.ws.length] 45 (0,0))):=(zAC K2.out 4 (.slice (some ⟨g,0,none⟩) x.ws.length x.ws.length))
 have A2:Hid ((w1.setCell ⟨w.heap.size+1+1,4,none⟩ (.slice (some ⟨g,0,none⟩) x.ws.length x.ws.length)).heap[w.heap.size+1]?=some (.cells #[.string ⟨#[]⟩,.int .i64 0,.int .i64 0,.int .i64 0,.slice none 0 0] 45 (0,0))):=((zAE (by omega) 4 (.slice (some ⟨g,0,none⟩) x.ws.length x.ws.length)).trans K1.out)
 have G2:Hid (Below w.heap.size w (w1.setCell ⟨w.heap.size+1+1,4,none⟩ (.slice (some ⟨g,0,none⟩) x.ws.length x.ws.length))):=(Below.setCell KB.out (p:=⟨w.heap.size+1+1,4,none⟩) (by show _≤w.heap.size+1+1;omega) (.slice (some ⟨g,0,none⟩) x.ws.length x.ws.length))
 have R2:Hid (g<(w1.setCell ⟨w.heap.size+1+1,4,none⟩ (.slice (some ⟨g,0,none⟩) x.ws.length x.ws.length)).heap.size∧∀ i y,x.ws[i]?=some y→EW (w1.setCell ⟨w.heap.size+1+1,4,none⟩ (.slice (some ⟨g,0,none⟩) x.ws.length x.ws.length)) g (i * 2) y):=⟨by simpa using KR.out.1,fun i y hy=>zBP (by omega) (KR.out.2 i y hy)⟩
 clear K0 K1 K2 KR
 go_upto_region 7 with fail
 generalize (w1.setCell ⟨w.heap.size+1+1,4,none⟩ (.slice (some ⟨g,0,none⟩) x.ws.length x.ws.length))=w9 at B2 A2 G2 R2 ⊢
 have p0:=(zAA B2.out 0 (x:=.string x.n) rfl).1
 have p1:=(zAA B2.out 1 (x:=.int .i64 x.t) rfl).1
 have p2:=(zAA B2.out 2 (x:=.int .i64 x.h) rfl).1
 have p3:=(zAA B2.out 3 (x:=.int .i64 x.e) rfl).1
 have p4:=(zAA B2.out 4 (x:=.slice (some ⟨g,0,none⟩) x.ws.length x.ws.length) rfl).1
 obtain ⟨m0,n0⟩:=zAA A2.out 0 (x:=.string ⟨#[]⟩) rfl
 obtain ⟨m1,n1⟩:=zAA A2.out 1 (x:=.int .i64 0) rfl
 obtain ⟨m2,n2⟩:=zAA A2.out 2 (x:=.int .i64 0) rfl
 obtain ⟨m3,n3⟩:=zAA A2.out 3 (x:=.int .i64 0) rfl
 obtain ⟨m4,n4⟩:=zAA A2.out 4 (x:=.slice none 0 0) rfl
 have AF:(((((w9.setCell ⟨w.heap.size+1,0,none⟩ (.string x.n)).setCell ⟨w.heap.size+1,1,none⟩ (.int .i64 x.t)).setCell ⟨w.heap.size+1,2,none⟩ (.int .i64 x.h)).setCell ⟨w.heap.size+1,3,none⟩ (.int .i64 x.e)).setCell ⟨w.heap.size+1,4,none⟩ (.slice (some ⟨g,0,none⟩) x.ws.length x.ws.length)).heap[w.heap.size+1]?=some (.cells #[.string x.n,.int .i64 x.t,.int .i64 x.h,.int .i64 x.e,.slice (some ⟨g,0,none⟩) x.ws.length x.ws.length] 45 (0,0)):=(zAC (zAC (zAC (zAC (zAC A2.out 0 (.string x.n)) 1 (.int .i64 x.t)) 2 (.int .i64 x.h)) 3 (.int .i64 x.e)) 4 (.slice (some ⟨g,0,none⟩) x.ws.length x.ws.length))
 have RF:g<(((((w9.setCell ⟨w.heap.size+1,0,none⟩ (.string x.n)).setCell ⟨w.heap.size+1,1,none⟩ (.int .i64 x.t)).setCell ⟨w.heap.size+1,2,none⟩ (.int .i64 x.h)).setCell ⟨w.heap.size+1,3,none⟩ (.int .i64 x.e)).setCell ⟨w.heap.size+1,4,none⟩ (.slice (some ⟨g,0,none⟩) x.ws.length x.ws.length)).heap.size∧∀ i y,x.ws[i]?=some y→EW (((((w9.setCell ⟨w.heap.size+1,0,none⟩ (.string x.n)).setCell ⟨w.heap.size+1,1,none⟩ (.int .i64 x.t)).setCell ⟨w.heap.size+1,2,none⟩ (.int .i64 x.h)).setCell ⟨w.heap.size+1,3,none⟩ (.int .i64 x.e)).setCell ⟨w.heap.size+1,4,none⟩ (.slice (some ⟨g,0,none⟩) x.ws.length x.ws.length)) g (i * 2) y:=⟨by simpa using R2.out.1,fun i y hy=>by have h:=R2.out.2 i y hy;exact zBP (by omega) (zBP (by omega) (zBP (by omega) (zBP (by omega) (zBP (by omega) (h)))))⟩
 have GF:Below w.heap.size w (((((w9.setCell ⟨w.heap.size+1,0,none⟩ (.string x.n)).setCell ⟨w.heap.size+1,1,none⟩ (.int .i64 x.t)).setCell ⟨w.heap.size+1,2,none⟩ (.int .i64 x.h)).setCell ⟨w.heap.size+1,3,none⟩ (.int .i64 x.e)).setCell ⟨w.heap.size+1,4,none⟩ (.slice (some ⟨g,0,none⟩) x.ws.length x.ws.length)):=(Below.setCell (Below.setCell (Below.setCell (Below.setCell (Below.setCell G2.out (p:=⟨w.heap.size+1,0,none⟩) (by show _≤w.heap.size+1;omega) (.string x.n)) (p:=⟨w.heap.size+1,1,none⟩) (by show _≤w.heap.size+1;omega) (.int .i64 x.t)) (p:=⟨w.heap.size+1,2,none⟩) (by show _≤w.heap.size+1;omega) (.int .i64 x.h)) (p:=⟨w.heap.size+1,3,none⟩) (by show _≤w.heap.size+1;omega) (.int .i64 x.e)) (p:=⟨w.heap.size+1,4,none⟩) (by show _≤w.heap.size+1;omega) (.slice (some ⟨g,0,none⟩) x.ws.length x.ws.length))
 have RFH:Hid (g<(((((w9.setCell ⟨w.heap.size+1,0,none⟩ (.string x.n)).setCell ⟨w.heap.size+1,1,none⟩ (.int .i64 x.t)).setCell ⟨w.heap.size+1,2,none⟩ (.int .i64 x.h)).setCell ⟨w.heap.size+1,3,none⟩ (.int .i64 x.e)).setCell ⟨w.heap.size+1,4,none⟩ (.slice (some ⟨g,0,none⟩) x.ws.length x.ws.length)).heap.size∧∀ i y,x.ws[i]?=some y→EW (((((w9.setCell ⟨w.heap.size+1,0,none⟩ (.string x.n)).setCell ⟨w.heap.size+1,1,none⟩ (.int .i64 x.t)).setCell ⟨w.heap.size+1,2,none⟩ (.int .i64 x.h)).setCell ⟨w.heap.size+1,3,none⟩ (.int .i64 x.e)).setCell ⟨w.heap.size+1,4,none⟩ (.slice (some ⟨g,0,none⟩) x.ws.length x.ws.length)) g (i * 2) y):=RF
 clear RF
 go_wp2_with fail
 generalize (((((w9.setCell ⟨w.heap.size+1,0,none⟩ (.string x.n)).setCell ⟨w.heap.size+1,1,none⟩ (.int .i64 x.t)).setCell ⟨w.heap.size+1,2,none⟩ (.int .i64 x.h)).setCell ⟨w.heap.size+1,3,none⟩ (.int .i64 x.e)).setCell ⟨w.heap.size+1,4,none⟩ (.slice (some ⟨g,0,none⟩) x.ws.length x.ws.length))=wf at AF GF RFH ⊢
 have d0:=(zAA AF 0 (x:=.string x.n) rfl).1
 have d1:=(zAA AF 1 (x:=.int .i64 x.t) rfl).1
 have d2:=(zAA AF 2 (x:=.int .i64 x.h) rfl).1
 have d3:=(zAA AF 3 (x:=.int .i64 x.e) rfl).1
 have d4:=(zAA AF 4 (x:=.slice (some ⟨g,0,none⟩) x.ws.length x.ws.length) rfl).1
 exact bodyPost_ret (v:=lkV x (.slice (some ⟨g,0,none⟩) x.ws.length x.ws.length)) (by simp [lkV,results,Tryz.results113,go_sem,d0,d1,d2,d3,d4]) rfl ⟨g,rfl,by omega,RFH.out.1,RFH.out.2,GF⟩
theorem info_toLockS:(Tryz.prog.info? 45).map (fun i=>(i.zero,i.size,i.bytes))=some (some (.agg #[.string ⟨#[]⟩,.int .i64 0,.int .i64 0,.int .i64 0,.slice none 0 0]),5,64):=by kernel_rfl
def CopL (w:World) (g:Nat) (xs:List Lk) (k:Nat) (A:Array Value):Prop:=A.size=xs.length * 5∧∀ j x,j<k→xs[j]?=some x→∃ h,A[j * 5]?=some (.string x.n)∧A[j * 5+1]?=some (.int .i64 x.t)∧A[j * 5+2]?=some (.int .i64 x.h)∧A[j * 5+3]?=some (.int .i64 x.e)∧A[j * 5+4]?=some (.slice (some ⟨h,0,none⟩) x.ws.length x.ws.length)∧g<h∧h<w.heap.size∧∀ i y,x.ws[i]?=some y→EW w h (i * 2) y
theorem CopL.below {w w':World} {g:Nat} {xs:List Lk} {k:Nat} {A:Array Value} (h:CopL w g xs k A) (hb:Below w.heap.size w w'):CopL w' g xs k A :=
 ⟨h.1,fun j x hj hx=>by
   obtain ⟨q,h0,h1,h2,h3,h4,h5,h6,h7⟩:=h.2 j x hj hx
   exact ⟨q,h0,h1,h2,h3,h4,h5,Nat.lt_of_lt_of_le h6 hb.size,fun i y hy=>ew_below hb h6 (h7 i y hy)⟩⟩
theorem CopL.set {w:World} {g i:Nat} {v:Value} {xs:List Lk} {k:Nat} {A:Array Value} (h:CopL w g xs k A):CopL (w.setCell ⟨g,i,none⟩ v) g xs k A :=
 ⟨h.1,fun j x hj hx=>by
   obtain ⟨q,h0,h1,h2,h3,h4,h5,h6,h7⟩:=h.2 j x hj hx
   exact ⟨q,h0,h1,h2,h3,h4,h5,by simpa using h6,fun i y hy=>zBP (by omega) (h7 i y hy)⟩⟩
theorem cop_toLockS {w:World} {g:Nat} {xs:List Lk} {k:Nat} {A:Array Value} {x:Lk} {q:Nat} (h:CopL w g xs k A) (hx:xs[k]?=some x) (hg:g<q) (hq:q<w.heap.size) (hr:∀ i y,x.ws[i]?=some y→EW w q (i * 2) y) :
 CopL w g xs (k+1) (((((A.setIfInBounds (k * 5) (.string x.n)).setIfInBounds (k * 5+1) (.int .i64 x.t)).setIfInBounds (k * 5+2) (.int .i64 x.h)).setIfInBounds (k * 5+3) (.int .i64 x.e)).setIfInBounds (k * 5+4) (.slice (some ⟨q,0,none⟩) x.ws.length x.ws.length)):=by
 have hk:=zAw hx
 have hs:=h.1
 refine ⟨by simpa using h.1,fun j y hj hy=>?_⟩
 simp only [Array.getElem?_setIfInBounds,Array.size_setIfInBounds]
 by_cases e:j=k
 ·subst e
  rw [hx] at hy
  cases hy
  refine ⟨q,?_,?_,?_,?_,?_,hg,hq,hr⟩
  all_goals (repeat' (first | rw [if_pos rfl,if_pos (by omega)] | rw [if_neg (by omega)]))
 ·obtain ⟨p,h0,h1,h2,h3,h4,h5⟩:=h.2 j y (by omega) hy
  refine ⟨p,?_,?_,?_,?_,?_,h5⟩
  all_goals (repeat' rw [if_neg (by omega)])
  all_goals assumption
set_option maxRecDepth 100000 in
set_option maxHeartbeats 800000 in
theorem toLockS_any (v:Value) (xs:List Lk) (w:World) (h:RowL w v xs) (hl:xs.length≤1048576) (hw:∀ x ∈ xs,x.ws.length≤1048576) :
 Calls Tryz.prog 77 #[v] w fun e w'=>∃ v',e=.returned v'∧RowLA w.heap.size w' v' xs∧Below w.heap.size w w':=by
 have HR:Hid (RowL w v xs∧∀ x ∈ xs,x.ws.length≤1048576):=⟨h,hw⟩
 obtain ⟨a,cap,rfl⟩:=RowG.slice h
 clear h hw
 obtain ⟨i0,hi,hz0,hz1,hz2⟩:=info_parts info_toLockS
 have hmk:=run_make (P:=Tryz.prog) w 27 45 i0 (.agg #[.string ⟨#[]⟩,.int .i64 0,.int .i64 0,.int .i64 0,.slice none 0 0]) Tryz.underlying27 hi hz0 .i64 .i64 (xs.length:Int) (xs.length:Int) (by omega) (by omega) (by rw [hz2];omega) (by omega)
 have hA0:CopL (w.alloc (.cells (madeCells (Value.agg #[.string ⟨#[]⟩,.int .i64 0,.int .i64 0,.int .i64 0,.slice none 0 0]).cells ((xs.length:Int).toNat * i0.size)) 45)) w.heap.size xs 0 (madeCells (Value.agg #[.string ⟨#[]⟩,.int .i64 0,.int .i64 0,.int .i64 0,.slice none 0 0]).cells ((xs.length:Int).toNat * i0.size)):=⟨by rw [hz1];simp [madeCells,Value.cells],fun j x hj=>absurd hj (by omega)⟩
 generalize madeCells (Value.agg #[.string ⟨#[]⟩,.int .i64 0,.int .i64 0,.int .i64 0,.slice none 0 0]).cells ((xs.length:Int).toNat * i0.size)=A0 at hmk hA0
 rw [Int.toNat_natCast] at hmk
 have HA0:Hid (CopL (w.alloc (.cells A0 45)) w.heap.size xs 0 A0):=hA0
 clear hA0
 go_enter Tryz.func77,Tryz.ntmps77
 go_wp2_with fail
 clear hmk
 go_loopw [4] (fun i wr=>∃ k:Nat,∃ A:Array Value,k≤xs.length∧i=.int .i64 k∧Hid (wr.heap[w.heap.size]?=some (.cells A 45 (0,0))∧CopL wr w.heap.size xs k A∧Below w.heap.size w wr)) (fun i _=>xs.length - (intOf i).toNat)
 case atStart=>exact ⟨0,A0,by omega,rfl,⟨heap_alloc_new w _,HA0.out,zAD _ _⟩⟩
 case round =>
  clear HA0
  obtain ⟨k,A,hk,rfl,HA⟩:=hrel
  by_cases hlt:k<xs.length
  ·obtain ⟨x,hx⟩:=get_at hlt
   obtain ⟨b,off,rfl,hbl,u,c0,c1,c2,c3,c4,c5⟩:=RowG.at (HR.out.1.below HA.out.2.2) rfl hx
   have HX:Hid (xs[k]?=some x∧RowW wr u x.ws):=⟨hx,c5⟩
   clear hx c5
   go_wp2_with fail
   refine (toLock_any x u wr HX.out.2 (HR.out.2 _ (zAp HX.out.1))).mono ?_
   rintro e w2 ⟨q,rfl,hq0,hq1,hqr,b2⟩
   have hg:=(Array.getElem?_eq_some_iff.1 HA.out.1).1
   have HA2:Hid (w2.heap[w.heap.size]?=some (.cells A 45 (0,0))∧CopL w2 w.heap.size xs k A∧Below w.heap.size w w2):=⟨(b2.block _ hg).trans HA.out.1,HA.out.2.1.below b2,HA.out.2.2.trans (b2.mono HA.out.2.2.size)⟩
   have HQ:Hid (w.heap.size<q∧q<w2.heap.size∧∀ i y,x.ws[i]?=some y→EW w2 q (i * 2) y):=⟨by omega,hq1,hqr⟩
   clear b2 c0 c1 c2 c3 c4 HA hq0 hq1 hqr
   have hsz:k * 5+4<A.size:=by rw [HA2.out.2.1.1];omega
   obtain ⟨d0,f0⟩:=zAA HA2.out.1 (k * 5) (x:=A[k * 5]) (Array.getElem?_eq_getElem (by omega))
   obtain ⟨d1,f1⟩:=zAA HA2.out.1 (k * 5+1) (x:=A[k * 5+1]) (Array.getElem?_eq_getElem (by omega))
   obtain ⟨d2,f2⟩:=zAA HA2.out.1 (k * 5+2) (x:=A[k * 5+2]) (Array.getElem?_eq_getElem (by omega))
   obtain ⟨d3,f3⟩:=zAA HA2.out.1 (k * 5+3) (x:=A[k * 5+3]) (Array.getElem?_eq_getElem (by omega))
   obtain ⟨d4,f4⟩:=zAA HA2.out.1 (k * 5+4) (x:=A[k * 5+4]) (Array.getElem?_eq_getElem (by omega))
   unfold lkV
   go_wp2_with fail
   refine ⟨⟨k+1,(((((A).setIfInBounds (k * 5) (.string x.n)).setIfInBounds (k * 5+1) (.int .i64 x.t)).setIfInBounds (k * 5+2) (.int .i64 x.h)).setIfInBounds (k * 5+3) (.int .i64 x.e)).setIfInBounds (k * 5+4) (.slice (some ⟨q,0,none⟩) x.ws.length x.ws.length),by omega,by go_num,⟨(zAC (zAC (zAC (zAC (zAC HA2.out.1 _ _) _ _) _ _) _ _) _ _),?_,(Below.setCell (Below.setCell (Below.setCell (Below.setCell (Below.setCell HA2.out.2.2 (p:=⟨w.heap.size,k * 5,none⟩) (Nat.le_refl _) (.string x.n)) (p:=⟨w.heap.size,k * 5+1,none⟩) (Nat.le_refl _) (.int .i64 x.t)) (p:=⟨w.heap.size,k * 5+2,none⟩) (Nat.le_refl _) (.int .i64 x.h)) (p:=⟨w.heap.size,k * 5+3,none⟩) (Nat.le_refl _) (.int .i64 x.e)) (p:=⟨w.heap.size,k * 5+4,none⟩) (Nat.le_refl _) (.slice (some ⟨q,0,none⟩) x.ws.length x.ws.length))⟩⟩,by simp [intOf];omega⟩
   exact (cop_toLockS HA2.out.2.1 HX.out.1 HQ.out.1 HQ.out.2.1 HQ.out.2.2).set.set.set.set.set
  ·obtain rfl:k=xs.length:=by omega
   go_wp2_with fail
   go_ret
   refine ⟨_,rfl,⟨some ⟨w.heap.size,0,none⟩,xs.length,rfl,.inr ⟨w.heap.size,0,rfl,Nat.le_refl _,(Array.getElem?_eq_some_iff.1 HA.out.1).1,fun i x hi=>?_⟩⟩,HA.out.2.2⟩
   obtain ⟨q,e0,e1,e2,e3,e4,e5,e6,e7⟩:=HA.out.2.1.2 i x (zAw hi) hi
   rw [Nat.zero_add]
   exact ⟨Nat.le_refl _,_,(Joins.cell_of_block HA.out.1 _).trans e0,(Joins.cell_of_block HA.out.1 _).trans e1,(Joins.cell_of_block HA.out.1 _).trans e2,(Joins.cell_of_block HA.out.1 _).trans e3,(Joins.cell_of_block HA.out.1 _).trans e4,some ⟨q,0,none⟩,_,rfl,.inr ⟨q,0,rfl,Nat.le_refl _,e6,fun i y hy=>by rw [Nat.zero_add];exact ⟨by omega,e7 i y hy⟩⟩⟩
end Go.Proofs.YticokpbelgpfmaaGreat.Tw
namespace Go.Proofs.YticokpbelgpfmaaGreat.Tw
open Go.RowKit Ap Tx Tb
set_option maxRecDepth 100000 in
set_option maxHeartbeats 800000 in
theorem toTable_any (tm nx:Int) (vl vs:Value) (ls:List Lk) (ss:List Sn) (w:World) (hl:RowL w vl ls) (hs:RowS w vs ss) (h1:ls.length≤1048576) (h2:ss.length≤1048576) (h3:∀ x ∈ ls,x.ws.length≤1048576) :
 Calls Tryz.prog 29 #[tabV tm nx vl vs] w fun e w'=>∃ ul us,e=.returned (tabV tm nx ul us)∧RowL w' ul ls∧RowS w' us ss∧Below w.heap.size w w':=by
 have HL:Hid (RowL w vl ls∧∀ x ∈ ls,x.ws.length≤1048576):=⟨hl,h3⟩
 have HSS:Hid (RowS w vs ss):=hs
 clear hl hs h3
 unfold tabV
 have HB:Hid (∀ o0 o1 o2,Below w.heap.size w (((w.alloc o0).alloc o1).alloc o2)):=fun o0 o1 o2=>(three (Below.refl _ _)).2.2.2.2
 have HS:Hid (∀ o0 o1 o2,(((w.alloc o0).alloc o1).alloc o2).heap.size=w.heap.size+1+1+1):=fun o0 o1 o2=>by rw [zAL,zAL,zAL]
 go_enter Tryz.func29,Tryz.ntmps29
 go_wp2_with fail
 refine (toLockS_any vl ls _ (HL.out.1.below (HB.out _ _ _)) h1 HL.out.2).mono ?_
 rintro e w1 ⟨ul0,rfl,hr,b1⟩
 obtain ⟨la,lc,rfl⟩:=RowG.slice hr
 obtain ⟨k0,k1,k2,kS,kB⟩:=three b1
 rw [HS.out] at hr
 obtain ⟨s0,t0⟩:=zAA k2 2 (x:=.slice none 0 0) rfl
 have c3:(w1.setCell ⟨w.heap.size+1+1,2,none⟩ (.slice la ls.length lc)).cell? ⟨w.heap.size,3,none⟩=some vs:=by
  have h:=(zAE (k:=w.heap.size) (b:=w.heap.size+1+1) (by omega) 2 (.slice la ls.length lc)).trans k0
  exact (zAA h 3 (x:=vs) rfl).1
 have K1:Hid ((w1.setCell ⟨w.heap.size+1+1,2,none⟩ (.slice la ls.length lc)).heap[w.heap.size+1]?=some (.cells #[.int .i64 0,.int .i64 0,.slice none 0 0,.slice none 0 0] 30 (0,0))):=(zAE (by omega) 2 (.slice la ls.length lc)).trans k1
 have K2:Hid ((w1.setCell ⟨w.heap.size+1+1,2,none⟩ (.slice la ls.length lc)).heap[w.heap.size+1+1]?=some (.cells #[.int .i64 tm,.int .i64 nx,(.slice la ls.length lc),.slice none 0 0] 30 (0,0))):=zAC k2 2 (.slice la ls.length lc)
 have KB:Hid (Below w.heap.size w (w1.setCell ⟨w.heap.size+1+1,2,none⟩ (.slice la ls.length lc))):=Below.setCell kB (p:=⟨w.heap.size+1+1,2,none⟩) (by show _≤w.heap.size+1+1;omega) (.slice la ls.length lc)
 have KR:Hid (RowLA (w.heap.size+1+1+1) (w1.setCell ⟨w.heap.size+1+1,2,none⟩ (.slice la ls.length lc)) (.slice la ls.length lc) ls):=hr.keep ((Abv.refl _ _).set (by omega) _)
 have KZ:Hid (w.heap.size+1+1+1≤((w1.setCell ⟨w.heap.size+1+1,2,none⟩ (.slice la ls.length lc))).heap.size):=by show _≤_;simpa using kS
 clear b1 k0 k1 k2 kB kS hr HB HS
 go_upto_region 5 with fail
 generalize (w1.setCell ⟨w.heap.size+1+1,2,none⟩ (.slice la ls.length lc))=w2 at c3 K1 K2 KB KR KZ ⊢
 clear s0 t0
 go_wp2_with fail
 refine (toSeenS_any vs ss w2 (HSS.out.below KB.out) h2).mono ?_
 rintro e w3 ⟨g,rfl,hg0,hg1,hr,b3⟩
 obtain ⟨us,HUS⟩ : ∃ us,us=Value.slice (some ⟨g,0,none⟩) ss.length ss.length:=⟨_,rfl⟩
 have KR3:Hid (RowLA (w.heap.size+1+1+1) w3 (.slice la ls.length lc) ls∧RowSA (w.heap.size+1+1+1) w3 us ss):=⟨KR.out.keep (Abv.of b3),⟨some ⟨g,0,none⟩,ss.length,HUS,.inr ⟨g,0,rfl,Nat.le_refl _,hg1,fun i x hi=>by rw [Nat.zero_add];exact ⟨by have:=KZ.out;omega,hr i x hi⟩⟩⟩⟩
 have K13:Hid (w3.heap[w.heap.size+1]?=some (.cells #[.int .i64 0,.int .i64 0,.slice none 0 0,.slice none 0 0] 30 (0,0))):=(b3.block _ (by have:=KZ.out;omega)).trans K1.out
 have K23:Hid (w3.heap[w.heap.size+1+1]?=some (.cells #[.int .i64 tm,.int .i64 nx,(.slice la ls.length lc),.slice none 0 0] 30 (0,0))):=(b3.block _ (by have:=KZ.out;omega)).trans K2.out
 have KB3:Hid (Below w.heap.size w w3):=KB.out.trans (b3.mono KB.out.size)
 clear hr hg0 hg1 b3 K1 K2 KB KR KZ c3
 have K1:=K13
 have K2:=K23
 have KB:=KB3
 have KR:=KR3
 clear K13 K23 KB3 KR3
 subst HUS
 obtain ⟨s0,t0⟩:=zAA K2.out 3 (x:=.slice none 0 0) rfl
 have B2:Hid ((w3.setCell ⟨w.heap.size+1+1,3,none⟩ ((.slice (some ⟨g,0,none⟩) ss.length ss.length))).heap[w.heap.size+1+1]?=some (.cells #[.int .i64 tm,.int .i64 nx,(.slice la ls.length lc),(.slice (some ⟨g,0,none⟩) ss.length ss.length)] 30 (0,0))):=(zAC K2.out 3 ((.slice (some ⟨g,0,none⟩) ss.length ss.length)))
 have A2:Hid ((w3.setCell ⟨w.heap.size+1+1,3,none⟩ ((.slice (some ⟨g,0,none⟩) ss.length ss.length))).heap[w.heap.size+1]?=some (.cells #[.int .i64 0,.int .i64 0,.slice none 0 0,.slice none 0 0] 30 (0,0))):=((zAE (by omega) 3 ((.slice (some ⟨g,0,none⟩) ss.length ss.length))).trans K1.out)
 have G2:Hid (Below w.heap.size w (w3.setCell ⟨w.heap.size+1+1,3,none⟩ ((.slice (some ⟨g,0,none⟩) ss.length ss.length)))):=(Below.setCell KB.out (p:=⟨w.heap.size+1+1,3,none⟩) (by show _≤w.heap.size+1+1;omega) ((.slice (some ⟨g,0,none⟩) ss.length ss.length)))
 have R2:Hid (RowLA (w.heap.size+1+1+1) (w3.setCell ⟨w.heap.size+1+1,3,none⟩ ((.slice (some ⟨g,0,none⟩) ss.length ss.length))) (.slice la ls.length lc) ls∧RowSA (w.heap.size+1+1+1) (w3.setCell ⟨w.heap.size+1+1,3,none⟩ ((.slice (some ⟨g,0,none⟩) ss.length ss.length))) (.slice (some ⟨g,0,none⟩) ss.length ss.length) ss):=⟨KR.out.1.keep ((Abv.refl _ _).set (by omega) _),KR.out.2.keep ((Abv.refl _ _).set (by omega) _)⟩
 clear K1 K2 KR
 go_upto_region 6 with fail
 generalize (w3.setCell ⟨w.heap.size+1+1,3,none⟩ ((.slice (some ⟨g,0,none⟩) ss.length ss.length)))=w9 at B2 A2 G2 R2 ⊢
 have p0:=(zAA B2.out 0 (x:=.int .i64 tm) rfl).1
 have p1:=(zAA B2.out 1 (x:=.int .i64 nx) rfl).1
 have p2:=(zAA B2.out 2 (x:=(.slice la ls.length lc)) rfl).1
 have p3:=(zAA B2.out 3 (x:=(.slice (some ⟨g,0,none⟩) ss.length ss.length)) rfl).1
 obtain ⟨m0,n0⟩:=zAA A2.out 0 (x:=.int .i64 0) rfl
 obtain ⟨m1,n1⟩:=zAA A2.out 1 (x:=.int .i64 0) rfl
 obtain ⟨m2,n2⟩:=zAA A2.out 2 (x:=.slice none 0 0) rfl
 obtain ⟨m3,n3⟩:=zAA A2.out 3 (x:=.slice none 0 0) rfl
 have AF:((((w9.setCell ⟨w.heap.size+1,0,none⟩ (.int .i64 tm)).setCell ⟨w.heap.size+1,1,none⟩ (.int .i64 nx)).setCell ⟨w.heap.size+1,2,none⟩ ((.slice la ls.length lc))).setCell ⟨w.heap.size+1,3,none⟩ ((.slice (some ⟨g,0,none⟩) ss.length ss.length))).heap[w.heap.size+1]?=some (.cells #[.int .i64 tm,.int .i64 nx,(.slice la ls.length lc),(.slice (some ⟨g,0,none⟩) ss.length ss.length)] 30 (0,0)):=(zAC (zAC (zAC (zAC A2.out 0 (.int .i64 tm)) 1 (.int .i64 nx)) 2 ((.slice la ls.length lc))) 3 ((.slice (some ⟨g,0,none⟩) ss.length ss.length)))
 have RF:Hid (RowL ((((w9.setCell ⟨w.heap.size+1,0,none⟩ (.int .i64 tm)).setCell ⟨w.heap.size+1,1,none⟩ (.int .i64 nx)).setCell ⟨w.heap.size+1,2,none⟩ ((.slice la ls.length lc))).setCell ⟨w.heap.size+1,3,none⟩ ((.slice (some ⟨g,0,none⟩) ss.length ss.length))) (.slice la ls.length lc) ls∧RowS ((((w9.setCell ⟨w.heap.size+1,0,none⟩ (.int .i64 tm)).setCell ⟨w.heap.size+1,1,none⟩ (.int .i64 nx)).setCell ⟨w.heap.size+1,2,none⟩ ((.slice la ls.length lc))).setCell ⟨w.heap.size+1,3,none⟩ ((.slice (some ⟨g,0,none⟩) ss.length ss.length))) (.slice (some ⟨g,0,none⟩) ss.length ss.length) ss):=⟨(R2.out.1.keep (Abv.set (Abv.set (Abv.set (Abv.set (Abv.refl _ _) (by omega) _) (by omega) _) (by omega) _) (by omega) _)).row,(R2.out.2.keep (Abv.set (Abv.set (Abv.set (Abv.set (Abv.refl _ _) (by omega) _) (by omega) _) (by omega) _) (by omega) _)).row⟩
 have GF:Below w.heap.size w ((((w9.setCell ⟨w.heap.size+1,0,none⟩ (.int .i64 tm)).setCell ⟨w.heap.size+1,1,none⟩ (.int .i64 nx)).setCell ⟨w.heap.size+1,2,none⟩ ((.slice la ls.length lc))).setCell ⟨w.heap.size+1,3,none⟩ ((.slice (some ⟨g,0,none⟩) ss.length ss.length))):=(Below.setCell (Below.setCell (Below.setCell (Below.setCell G2.out (p:=⟨w.heap.size+1,0,none⟩) (by show _≤w.heap.size+1;omega) (.int .i64 tm)) (p:=⟨w.heap.size+1,1,none⟩) (by show _≤w.heap.size+1;omega) (.int .i64 nx)) (p:=⟨w.heap.size+1,2,none⟩) (by show _≤w.heap.size+1;omega) ((.slice la ls.length lc))) (p:=⟨w.heap.size+1,3,none⟩) (by show _≤w.heap.size+1;omega) ((.slice (some ⟨g,0,none⟩) ss.length ss.length)))
 go_wp2_with fail
 generalize ((((w9.setCell ⟨w.heap.size+1,0,none⟩ (.int .i64 tm)).setCell ⟨w.heap.size+1,1,none⟩ (.int .i64 nx)).setCell ⟨w.heap.size+1,2,none⟩ ((.slice la ls.length lc))).setCell ⟨w.heap.size+1,3,none⟩ ((.slice (some ⟨g,0,none⟩) ss.length ss.length)))=wf at AF GF RF ⊢
 have d0:=(zAA AF 0 (x:=.int .i64 tm) rfl).1
 have d1:=(zAA AF 1 (x:=.int .i64 nx) rfl).1
 have d2:=(zAA AF 2 (x:=(.slice la ls.length lc)) rfl).1
 have d3:=(zAA AF 3 (x:=(.slice (some ⟨g,0,none⟩) ss.length ss.length)) rfl).1
 exact bodyPost_ret (v:=tabV tm nx (.slice la ls.length lc) (.slice (some ⟨g,0,none⟩) ss.length ss.length)) (by simp [tabV,results,Tryz.results29,go_sem,d0,d1,d2,d3]) rfl ⟨(.slice la ls.length lc),_,rfl,RF.out.1,RF.out.2,GF⟩
theorem two_new (w:World) (o0 o1:Obj):Below w.heap.size w ((w.alloc o0).alloc o1):=((Below.refl _ _).alloc (Nat.le_refl _) _).alloc (by simp) _
theorem two {w w1:World} {o0 o1:Obj} (b:Below ((w.alloc o0).alloc o1).heap.size ((w.alloc o0).alloc o1) w1) :
 w1.heap[w.heap.size]?=some o0∧w1.heap[w.heap.size+1]?=some o1∧Below w.heap.size w w1:=by
 have e1:(w.alloc o0).heap.size=w.heap.size+1:=zAL _ _
 have e2:((w.alloc o0).alloc o1).heap.size=w.heap.size+1+1:=by rw [zAL,e1]
 have b1:=two_new w o0 o1
 rw [e2] at b
 refine ⟨?_,?_,b1.trans (b.mono (by omega))⟩
 ·rw [b.block _ (by omega),Below.heap_alloc _ _ _ (by omega)];exact heap_alloc_new w _
 ·rw [b.block _ (by omega),← e1];exact heap_alloc_new _ _
set_option maxRecDepth 100000 in
set_option maxHeartbeats 800000 in
theorem eqWaiter_same (x:Wt) (w:World) :
 Calls Tryz.prog 170 #[wtV x,wtV x] w fun e w'=>e=.returned (.bool true)∧Below w.heap.size w w':=by
 unfold wtV
 have e0:(x.c != x.c)=false:=by simp
 have e1:(x.l != x.l)=false:=by simp
 go_enter Tryz.func170,Tryz.ntmps170
 go_wp2_with fail
 go_ret
 exact ⟨rfl,two_new _ _ _⟩
set_option maxRecDepth 100000 in
set_option maxHeartbeats 800000 in
theorem zBB (k t h e0:Int) (w:World) :
 Calls Tryz.prog 32 #[.agg #[.int .i64 k,.int .i64 t,.int .i64 h,.int .i64 e0],.agg #[.int .i64 k,.int .i64 t,.int .i64 h,.int .i64 e0]] w fun e w'=>e=.returned (.bool true)∧Below w.heap.size w w':=by
 have q0:(k != k)=false:=by simp
 have q1:(t != t)=false:=by simp
 have q2:(h != h)=false:=by simp
 have q3:(e0 != e0)=false:=by simp
 go_enter Tryz.func32,Tryz.ntmps32
 go_wp2_with fail
 go_ret
 exact ⟨rfl,two_new _ _ _⟩
set_option maxRecDepth 100000 in
set_option maxHeartbeats 800000 in
theorem eqSeen_same (x:Sn) (w:World) :
 Calls Tryz.prog 116 #[snV x,snV x] w fun e w'=>e=.returned (.bool true)∧Below w.heap.size w w':=by
 unfold snV
 have q0:(x.c != x.c)=false:=by simp
 have q1:(x.s != x.s)=false:=by simp
 go_enter Tryz.func116,Tryz.ntmps116
 go_wp2_with fail
 refine (zBB x.k x.t x.h x.e _).mono ?_
 rintro e w1 ⟨rfl,b1⟩
 have g1:=(two b1).2.2
 clear b1
 go_wp2_with fail
 go_ret
 exact ⟨rfl,g1⟩
set_option maxRecDepth 100000 in
set_option maxHeartbeats 800000 in
theorem eqWaiterS_same (v u0:Value) (xs:List Wt) (w:World) (h:RowW w v xs) (g:RowW w u0 xs) (hl:xs.length≤1048576) :
 Calls Tryz.prog 146 #[v,u0] w fun e w'=>e=.returned (.bool true)∧Below w.heap.size w w':=by
 have HR:Hid (RowW w v xs):=h
 have HG:Hid (RowW w u0 xs):=g
 obtain ⟨a,cap,rfl⟩:=RowG.slice h
 obtain ⟨a',cap',rfl⟩:=RowG.slice g
 clear h g
 have hne:((xs.length:Int) != (xs.length:Int))=false:=by simp
 go_enter Tryz.func146,Tryz.ntmps146
 go_wp2_with fail
 go_loopw [5] (fun i wr=>∃ k:Nat,k≤xs.length∧i=.int .i64 k∧Hid (Below w.heap.size w wr)) (fun i _=>xs.length - (intOf i).toNat)
 case atStart=>exact ⟨0,by omega,rfl,Below.refl _ _⟩
 case round =>
  obtain ⟨k,hk,rfl,HB⟩:=hrel
  by_cases hlt:k<xs.length
  ·obtain ⟨x,hx⟩:=get_at hlt
   obtain ⟨b,off,rfl,hb,c0,c1⟩:=RowG.at (HR.out.below HB.out) rfl hx
   obtain ⟨b',off',rfl,hb',d0,d1⟩:=RowG.at (HG.out.below HB.out) rfl hx
   have HK:Hid (xs[k]?=some x):=hx
   clear hx
   have hp0:(0:Int)≤(k:Int):=by omega
   have hp1:(k:Int)<(xs.length:Int):=by omega
   go_upto_region 6 with fail
   obtain ⟨X,hX,W,QI0,QO0⟩:=Qc.zAZ wr
   have QI:Hid (∀ w',Below wr.heap.size wr w'→∃ x,w'=W x):=QI0
   have QO:Hid (∀ x,Below wr.heap.size wr (W x)):=QO0
   clear QI0 QO0
   have y0:=Qc.zAB QO.out c0
   have z0:=Qc.zAB QO.out d0
   have y1:=Qc.zAB QO.out c1
   have z1:=Qc.zAB QO.out d1
   refine Qc.zAF (W:=W) (by kernel_rfl) (by kernel_rfl) (QI.out _ Qc.zAI) ?_
   repeat (go_big_quiet_step (first | (go_at_call 170;refine (eqWaiter_same x _).mono ?_;rintro e w2 ⟨rfl,b2⟩;exact ⟨rfl,Qc.back QI.out QO.out b2⟩)))
   refine wpQuiet_nil ?_
   rintro _ ⟨xq,rfl⟩
   have G2:Hid (Below w.heap.size w (W xq)):=HB.out.trans ((QO.out xq).mono HB.out.size)
   generalize W xq=wq at G2 ⊢
   go_wp2_with fail
   exact ⟨⟨k+1,by omega,by go_num,G2⟩,by simp [intOf];omega⟩
  ·go_wp2_with fail
   go_ret
   exact ⟨rfl,HB.out⟩
set_option maxRecDepth 100000 in
set_option maxHeartbeats 800000 in
theorem eqSeenS_same (v u0:Value) (xs:List Sn) (w:World) (h:RowS w v xs) (g:RowS w u0 xs) (hl:xs.length≤1048576) :
 Calls Tryz.prog 80 #[v,u0] w fun e w'=>e=.returned (.bool true)∧Below w.heap.size w w':=by
 have HR:Hid (RowS w v xs):=h
 have HG:Hid (RowS w u0 xs):=g
 obtain ⟨a,cap,rfl⟩:=RowG.slice h
 obtain ⟨a',cap',rfl⟩:=RowG.slice g
 clear h g
 have hne:((xs.length:Int) != (xs.length:Int))=false:=by simp
 go_enter Tryz.func80,Tryz.ntmps80
 go_wp2_with fail
 go_loopw [5] (fun i wr=>∃ k:Nat,k≤xs.length∧i=.int .i64 k∧Hid (Below w.heap.size w wr)) (fun i _=>xs.length - (intOf i).toNat)
 case atStart=>exact ⟨0,by omega,rfl,Below.refl _ _⟩
 case round =>
  obtain ⟨k,hk,rfl,HB⟩:=hrel
  by_cases hlt:k<xs.length
  ·obtain ⟨x,hx⟩:=get_at hlt
   obtain ⟨b,off,rfl,hb,c0,c1,c2,c3,c4,c5⟩:=RowG.at (HR.out.below HB.out) rfl hx
   obtain ⟨b',off',rfl,hb',d0,d1,d2,d3,d4,d5⟩:=RowG.at (HG.out.below HB.out) rfl hx
   have HK:Hid (xs[k]?=some x):=hx
   clear hx
   have hp0:(0:Int)≤(k:Int):=by omega
   have hp1:(k:Int)<(xs.length:Int):=by omega
   go_upto_region 6 with fail
   obtain ⟨X,hX,W,QI0,QO0⟩:=Qc.zAZ wr
   have QI:Hid (∀ w',Below wr.heap.size wr w'→∃ x,w'=W x):=QI0
   have QO:Hid (∀ x,Below wr.heap.size wr (W x)):=QO0
   clear QI0 QO0
   have y0:=Qc.zAB QO.out c0
   have z0:=Qc.zAB QO.out d0
   have y1:=Qc.zAB QO.out c1
   have z1:=Qc.zAB QO.out d1
   have y2:=Qc.zAB QO.out c2
   have z2:=Qc.zAB QO.out d2
   have y3:=Qc.zAB QO.out c3
   have z3:=Qc.zAB QO.out d3
   have y4:=Qc.zAB QO.out c4
   have z4:=Qc.zAB QO.out d4
   have y5:=Qc.zAB QO.out c5
   have z5:=Qc.zAB QO.out d5
   refine Qc.zAF (W:=W) (by kernel_rfl) (by kernel_rfl) (QI.out _ Qc.zAI) ?_
   repeat (go_big_quiet_step (first | (go_at_call 116;refine (eqSeen_same x _).mono ?_;rintro e w2 ⟨rfl,b2⟩;exact ⟨rfl,Qc.back QI.out QO.out b2⟩)))
   refine wpQuiet_nil ?_
   rintro _ ⟨xq,rfl⟩
   have G2:Hid (Below w.heap.size w (W xq)):=HB.out.trans ((QO.out xq).mono HB.out.size)
   generalize W xq=wq at G2 ⊢
   go_wp2_with fail
   exact ⟨⟨k+1,by omega,by go_num,G2⟩,by simp [intOf];omega⟩
  ·go_wp2_with fail
   go_ret
   exact ⟨rfl,HB.out⟩
set_option maxRecDepth 100000 in
set_option maxHeartbeats 800000 in
theorem eqLock_same (x:Lk) (u u':Value) (w:World) (h:RowW w u x.ws) (g:RowW w u' x.ws) (hl:x.ws.length≤1048576) :
 Calls Tryz.prog 115 #[lkV x u,lkV x u'] w fun e w'=>e=.returned (.bool true)∧Below w.heap.size w w':=by
 have HR:Hid (RowW w u x.ws∧RowW w u' x.ws):=⟨h,g⟩
 have HB:Hid (∀ o0 o1,Below w.heap.size w ((w.alloc o0).alloc o1)):=fun o0 o1=>two_new _ _ _
 clear h g
 unfold lkV
 have q0:(x.n.toList != x.n.toList)=false:=by simp
 have q1:(x.t != x.t)=false:=by simp
 have q2:(x.h != x.h)=false:=by simp
 have q3:(x.e != x.e)=false:=by simp
 go_enter Tryz.func115,Tryz.ntmps115
 go_wp2_with fail
 refine (eqWaiterS_same u u' x.ws _ (HR.out.1.below (HB.out _ _)) (HR.out.2.below (HB.out _ _)) hl).mono ?_
 rintro e w1 ⟨rfl,b1⟩
 have g1:=(two b1).2.2
 clear b1
 go_wp2_with fail
 go_ret
 exact ⟨rfl,g1⟩
set_option maxRecDepth 100000 in
set_option maxHeartbeats 800000 in
theorem eqLockS_same (v u0:Value) (xs:List Lk) (w:World) (h:RowL w v xs) (g:RowL w u0 xs) (hl:xs.length≤1048576) (hw:∀ x ∈ xs,x.ws.length≤1048576) :
 Calls Tryz.prog 79 #[v,u0] w fun e w'=>e=.returned (.bool true)∧Below w.heap.size w w':=by
 have HR:Hid (RowL w v xs):=h
 have HG:Hid (RowL w u0 xs):=g
 have HW:Hid (∀ x ∈ xs,x.ws.length≤1048576):=hw
 clear hw
 obtain ⟨a,cap,rfl⟩:=RowG.slice h
 obtain ⟨a',cap',rfl⟩:=RowG.slice g
 clear h g
 have hne:((xs.length:Int) != (xs.length:Int))=false:=by simp
 go_enter Tryz.func79,Tryz.ntmps79
 go_wp2_with fail
 go_loopw [5] (fun i wr=>∃ k:Nat,k≤xs.length∧i=.int .i64 k∧Hid (Below w.heap.size w wr)) (fun i _=>xs.length - (intOf i).toNat)
 case atStart=>exact ⟨0,by omega,rfl,Below.refl _ _⟩
 case round =>
  obtain ⟨k,hk,rfl,HB⟩:=hrel
  by_cases hlt:k<xs.length
  ·obtain ⟨x,hx⟩:=get_at hlt
   obtain ⟨b,off,rfl,hb,u,c0,c1,c2,c3,c4,cr⟩:=RowG.at (HR.out.below HB.out) rfl hx
   obtain ⟨b',off',rfl,hb',u',d0,d1,d2,d3,d4,dr⟩:=RowG.at (HG.out.below HB.out) rfl hx
   have HK:Hid (xs[k]?=some x):=hx
   clear hx
   have hp0:(0:Int)≤(k:Int):=by omega
   have hp1:(k:Int)<(xs.length:Int):=by omega
   go_upto_region 6 with fail
   obtain ⟨X,hX,W,QI0,QO0⟩:=Qc.zAZ wr
   have QI:Hid (∀ w',Below wr.heap.size wr w'→∃ x,w'=W x):=QI0
   have QO:Hid (∀ x,Below wr.heap.size wr (W x)):=QO0
   clear QI0 QO0
   have y0:=Qc.zAB QO.out c0
   have z0:=Qc.zAB QO.out d0
   have y1:=Qc.zAB QO.out c1
   have z1:=Qc.zAB QO.out d1
   have y2:=Qc.zAB QO.out c2
   have z2:=Qc.zAB QO.out d2
   have y3:=Qc.zAB QO.out c3
   have z3:=Qc.zAB QO.out d3
   have y4:=Qc.zAB QO.out c4
   have z4:=Qc.zAB QO.out d4
   have HX:Hid (∀ x',RowW (W x') u x.ws∧RowW (W x') u' x.ws):=fun x'=>⟨cr.below (QO.out x'),dr.below (QO.out x')⟩
   clear cr dr
   refine Qc.zAF (W:=W) (by kernel_rfl) (by kernel_rfl) (QI.out _ Qc.zAI) ?_
   repeat (go_big_quiet_step (first | (go_at_call 115;refine (eqLock_same x u u' _ (HX.out _).1 (HX.out _).2 (HW.out _ (zAp HK.out))).mono ?_;rintro e w2 ⟨rfl,b2⟩;exact ⟨rfl,Qc.back QI.out QO.out b2⟩)))
   refine wpQuiet_nil ?_
   rintro _ ⟨xq,rfl⟩
   have G2:Hid (Below w.heap.size w (W xq)):=HB.out.trans ((QO.out xq).mono HB.out.size)
   generalize W xq=wq at G2 ⊢
   go_wp2_with fail
   exact ⟨⟨k+1,by omega,by go_num,G2⟩,by simp [intOf];omega⟩
  ·go_wp2_with fail
   go_ret
   exact ⟨rfl,HB.out⟩
set_option maxRecDepth 100000 in
set_option maxHeartbeats 800000 in
theorem zBK (tm nx:Int) (vl vs ul us:Value) (ls:List Lk) (ss:List Sn) (w:World) (hl:RowL w vl ls) (hs:RowS w vs ss) (gl:RowL w ul ls) (gs:RowS w us ss) (h1:ls.length≤1048576) (h2:ss.length≤1048576) (h3:∀ x ∈ ls,x.ws.length≤1048576) :
 Calls Tryz.prog 31 #[tabV tm nx vl vs,tabV tm nx ul us] w fun e w'=>e=.returned (.bool true)∧Below w.heap.size w w':=by
 have HR:Hid (RowL w vl ls∧RowL w ul ls∧RowS w vs ss∧RowS w us ss):=⟨hl,gl,hs,gs⟩
 have HW:Hid (∀ x ∈ ls,x.ws.length≤1048576):=h3
 have HB:Hid (∀ o0 o1,Below w.heap.size w ((w.alloc o0).alloc o1)):=fun o0 o1=>two_new _ _ _
 clear hl hs gl gs h3
 unfold tabV
 have q0:(tm != tm)=false:=by simp
 have q1:(nx != nx)=false:=by simp
 go_enter Tryz.func31,Tryz.ntmps31
 go_wp2_with fail
 refine (eqLockS_same vl ul ls _ (HR.out.1.below (HB.out _ _)) (HR.out.2.1.below (HB.out _ _)) h1 HW.out).mono ?_
 rintro e w1 ⟨rfl,b1⟩
 obtain ⟨k0,k1,kb⟩:=two b1
 have c0:=(zAA k0 3 (x:=vs) rfl).1
 have c1:=(zAA k1 3 (x:=us) rfl).1
 have KB:Hid (Below w.heap.size w w1):=kb
 clear b1 k0 k1 kb
 go_wp2_with fail
 refine (eqSeenS_same vs us ss _ (HR.out.2.2.1.below KB.out) (HR.out.2.2.2.below KB.out) h2).mono ?_
 rintro e w2 ⟨rfl,b2⟩
 have g2:=KB.out.trans (b2.mono KB.out.size)
 clear b2
 go_wp2_with fail
 go_ret
 exact ⟨rfl,g2⟩
end Go.Proofs.YticokpbelgpfmaaGreat.Tw
