/- Texts put together: Mv, Mv2, Tg. -/
import Derived.Test.YticokpbelgpfmaaGreatMa6
namespace Go.Proofs.YticokpbelgpfmaaGreat.Mw
open Go.RowKit By Ap Tx Tb Tw
set_option maxRecDepth 100000 in
set_option maxHeartbeats 800000 in
theorem toWaiterSW_any (v:Value) (xs:List Wt) (w:World) (h:RowW w v xs) (hl:xs.length≤1048576) :
 Calls Tryz.prog 144 #[v] w fun e w'=>∃ g,e=.returned (.slice (some ⟨g,0,none⟩) xs.length xs.length)∧w.heap.size≤g∧g<w'.heap.size∧(∀ i x,xs[i]?=some x→EW w' g (i * 2) x)∧Below w.heap.size w w'∧Wr w' g (xs.length * 2):=by
 have HR:Hid (RowW w v xs):=h
 obtain ⟨a,cap,rfl⟩:=RowG.slice h
 clear h
 obtain ⟨i0,hi,hz0,hz1,hz2⟩:=info_parts info_toWaiterS
 have hmk:=run_make (P:=Tryz.prog) w 43 153 i0 (.agg #[.int .i64 0,.int .i64 0]) Tryz.underlying43 hi hz0 .i64 .i64 (xs.length:Int) (xs.length:Int) (by omega) (by omega) (by rw [hz2];omega) (by omega)
 have hA0:zAc xs 0 (madeCells (Value.agg #[.int .i64 0,.int .i64 0]).cells ((xs.length:Int).toNat * i0.size)):=⟨by rw [hz1];simp [madeCells,Value.cells],fun j x hj=>absurd hj (by omega)⟩
 generalize madeCells (Value.agg #[.int .i64 0,.int .i64 0]).cells ((xs.length:Int).toNat * i0.size)=A0 at hmk hA0
 rw [Int.toNat_natCast] at hmk
 go_enter Tryz.func144,Tryz.ntmps144
 go_wp2_with fail
 clear hmk
 go_loopw [4] (fun i wr=>∃ k:Nat,∃ A:Array Value,k≤xs.length∧i=.int .i64 k∧Hid (wr.heap[w.heap.size]?=some (.cells A 153 (0,0))∧zAc xs k A∧Below w.heap.size w wr)) (fun i _=>xs.length - (intOf i).toNat)
 case atStart=>exact ⟨0,A0,by omega,rfl,⟨heap_alloc_new w _,hA0,zAD _ _⟩⟩
 case round =>
  clear hA0
  obtain ⟨k,A,hk,rfl,HA⟩:=hrel
  by_cases hlt:k<xs.length
  ·obtain ⟨x,hx⟩:=Tw.get_at hlt
   obtain ⟨b,off,rfl,hbl,c0,c1⟩:=RowG.at (HR.out.below HA.out.2.2) rfl hx
   have HX:Hid (xs[k]?=some x):=hx
   clear hx
   go_wp2_with fail
   refine (toWaiter_any x wr).mono ?_
   rintro e w2 ⟨rfl,b2⟩
   have hg:=(Array.getElem?_eq_some_iff.1 HA.out.1).1
   have HA2:Hid (w2.heap[w.heap.size]?=some (.cells A 153 (0,0))∧zAc xs k A∧Below w.heap.size w w2):=⟨(b2.block _ hg).trans HA.out.1,HA.out.2.1,HA.out.2.2.trans (b2.mono HA.out.2.2.size)⟩
   clear b2 c0 c1 HA
   have hsz:k * 2+1<A.size:=by rw [HA2.out.2.1.1];omega
   obtain ⟨d0,f0⟩:=zAA HA2.out.1 (k * 2) (x:=A[k * 2]) (Array.getElem?_eq_getElem (by omega))
   obtain ⟨d1,f1⟩:=zAA HA2.out.1 (k * 2+1) (x:=A[k * 2+1]) (Array.getElem?_eq_getElem (by omega))
   unfold wtV
   go_wp2_with fail
   refine ⟨⟨k+1,((A).setIfInBounds (k * 2) (.int .i64 x.c)).setIfInBounds (k * 2+1) (.int .i64 x.l),by omega,by go_num,⟨(zAC (zAC HA2.out.1 _ _) _ _),cop_toWaiterS HA2.out.2.1 HX.out,?_⟩⟩,by simp [intOf];omega⟩
   exact (Below.setCell (Below.setCell HA2.out.2.2 (p:=⟨w.heap.size,k * 2,none⟩) (Nat.le_refl _) (.int .i64 x.c)) (p:=⟨w.heap.size,k * 2+1,none⟩) (Nat.le_refl _) (.int .i64 x.l))
  ·obtain rfl:k=xs.length:=by omega
   go_wp2_with fail
   go_ret
   refine ⟨w.heap.size,rfl,Nat.le_refl _,(Array.getElem?_eq_some_iff.1 HA.out.1).1,fun i x hi=>?_,HA.out.2.2,⟨A,_,HA.out.1,Nat.le_of_eq HA.out.2.1.1.symm⟩⟩
   obtain ⟨e0,e1⟩:=HA.out.2.1.2 i x (Tw.zAw hi) hi
   exact ⟨(Joins.cell_of_block HA.out.1 _).trans e0,(Joins.cell_of_block HA.out.1 _).trans e1⟩
set_option maxRecDepth 100000 in
set_option maxHeartbeats 800000 in
theorem toSeenSW_any (v:Value) (xs:List Sn) (w:World) (h:RowS w v xs) (hl:xs.length≤1048576) :
 Calls Tryz.prog 78 #[v] w fun e w'=>∃ g,e=.returned (.slice (some ⟨g,0,none⟩) xs.length xs.length)∧w.heap.size≤g∧g<w'.heap.size∧(∀ i x,xs[i]?=some x→ES w' g (i * 6) x)∧Below w.heap.size w w'∧Wr w' g (xs.length * 6):=by
 have HR:Hid (RowS w v xs):=h
 obtain ⟨a,cap,rfl⟩:=RowG.slice h
 clear h
 obtain ⟨i0,hi,hz0,hz1,hz2⟩:=info_parts info_toSeenS
 have hmk:=run_make (P:=Tryz.prog) w 28 116 i0 (.agg #[.int .i64 0,.int .i64 0,.int .i64 0,.int .i64 0,.int .i64 0,.int .i64 0]) Tryz.underlying28 hi hz0 .i64 .i64 (xs.length:Int) (xs.length:Int) (by omega) (by omega) (by rw [hz2];omega) (by omega)
 have hA0:zAj xs 0 (madeCells (Value.agg #[.int .i64 0,.int .i64 0,.int .i64 0,.int .i64 0,.int .i64 0,.int .i64 0]).cells ((xs.length:Int).toNat * i0.size)):=⟨by rw [hz1];simp [madeCells,Value.cells],fun j x hj=>absurd hj (by omega)⟩
 generalize madeCells (Value.agg #[.int .i64 0,.int .i64 0,.int .i64 0,.int .i64 0,.int .i64 0,.int .i64 0]).cells ((xs.length:Int).toNat * i0.size)=A0 at hmk hA0
 rw [Int.toNat_natCast] at hmk
 go_enter Tryz.func78,Tryz.ntmps78
 go_wp2_with fail
 clear hmk
 go_loopw [4] (fun i wr=>∃ k:Nat,∃ A:Array Value,k≤xs.length∧i=.int .i64 k∧Hid (wr.heap[w.heap.size]?=some (.cells A 116 (0,0))∧zAj xs k A∧Below w.heap.size w wr)) (fun i _=>xs.length - (intOf i).toNat)
 case atStart=>exact ⟨0,A0,by omega,rfl,⟨heap_alloc_new w _,hA0,zAD _ _⟩⟩
 case round =>
  clear hA0
  obtain ⟨k,A,hk,rfl,HA⟩:=hrel
  by_cases hlt:k<xs.length
  ·obtain ⟨x,hx⟩:=Tw.get_at hlt
   obtain ⟨b,off,rfl,hbl,c0,c1,c2,c3,c4,c5⟩:=RowG.at (HR.out.below HA.out.2.2) rfl hx
   have HX:Hid (xs[k]?=some x):=hx
   clear hx
   go_wp2_with fail
   refine (toSeen_any x wr).mono ?_
   rintro e w2 ⟨rfl,b2⟩
   have hg:=(Array.getElem?_eq_some_iff.1 HA.out.1).1
   have HA2:Hid (w2.heap[w.heap.size]?=some (.cells A 116 (0,0))∧zAj xs k A∧Below w.heap.size w w2):=⟨(b2.block _ hg).trans HA.out.1,HA.out.2.1,HA.out.2.2.trans (b2.mono HA.out.2.2.size)⟩
   clear b2 c0 c1 c2 c3 c4 c5 HA
   have hsz:k * 6+5<A.size:=by rw [HA2.out.2.1.1];omega
   obtain ⟨d0,f0⟩:=zAA HA2.out.1 (k * 6) (x:=A[k * 6]) (Array.getElem?_eq_getElem (by omega))
   obtain ⟨d1,f1⟩:=zAA HA2.out.1 (k * 6+1) (x:=A[k * 6+1]) (Array.getElem?_eq_getElem (by omega))
   obtain ⟨d2,f2⟩:=zAA HA2.out.1 (k * 6+2) (x:=A[k * 6+2]) (Array.getElem?_eq_getElem (by omega))
   obtain ⟨d3,f3⟩:=zAA HA2.out.1 (k * 6+3) (x:=A[k * 6+3]) (Array.getElem?_eq_getElem (by omega))
   obtain ⟨d4,f4⟩:=zAA HA2.out.1 (k * 6+4) (x:=A[k * 6+4]) (Array.getElem?_eq_getElem (by omega))
   obtain ⟨d5,f5⟩:=zAA HA2.out.1 (k * 6+5) (x:=A[k * 6+5]) (Array.getElem?_eq_getElem (by omega))
   unfold snV
   go_wp2_with fail
   refine ⟨⟨k+1,((((((A).setIfInBounds (k * 6) (.int .i64 x.c)).setIfInBounds (k * 6+1) (.int .i64 x.s)).setIfInBounds (k * 6+2) (.int .i64 x.k)).setIfInBounds (k * 6+3) (.int .i64 x.t)).setIfInBounds (k * 6+4) (.int .i64 x.h)).setIfInBounds (k * 6+5) (.int .i64 x.e),by omega,by go_num,⟨(zAC (zAC (zAC (zAC (zAC (zAC HA2.out.1 _ _) _ _) _ _) _ _) _ _) _ _),cop_toSeenS HA2.out.2.1 HX.out,?_⟩⟩,by simp [intOf];omega⟩
   exact (Below.setCell (Below.setCell (Below.setCell (Below.setCell (Below.setCell (Below.setCell HA2.out.2.2 (p:=⟨w.heap.size,k * 6,none⟩) (Nat.le_refl _) (.int .i64 x.c)) (p:=⟨w.heap.size,k * 6+1,none⟩) (Nat.le_refl _) (.int .i64 x.s)) (p:=⟨w.heap.size,k * 6+2,none⟩) (Nat.le_refl _) (.int .i64 x.k)) (p:=⟨w.heap.size,k * 6+3,none⟩) (Nat.le_refl _) (.int .i64 x.t)) (p:=⟨w.heap.size,k * 6+4,none⟩) (Nat.le_refl _) (.int .i64 x.h)) (p:=⟨w.heap.size,k * 6+5,none⟩) (Nat.le_refl _) (.int .i64 x.e))
  ·obtain rfl:k=xs.length:=by omega
   go_wp2_with fail
   go_ret
   refine ⟨w.heap.size,rfl,Nat.le_refl _,(Array.getElem?_eq_some_iff.1 HA.out.1).1,fun i x hi=>?_,HA.out.2.2,⟨A,_,HA.out.1,Nat.le_of_eq HA.out.2.1.1.symm⟩⟩
   obtain ⟨e0,e1,e2,e3,e4,e5⟩:=HA.out.2.1.2 i x (Tw.zAw hi) hi
   exact ⟨(Joins.cell_of_block HA.out.1 _).trans e0,(Joins.cell_of_block HA.out.1 _).trans e1,(Joins.cell_of_block HA.out.1 _).trans e2,(Joins.cell_of_block HA.out.1 _).trans e3,(Joins.cell_of_block HA.out.1 _).trans e4,(Joins.cell_of_block HA.out.1 _).trans e5⟩
set_option maxRecDepth 100000 in
set_option maxHeartbeats 800000 in
theorem toLockW_any (x:Lk) (u:Value) (w:World) (h:RowW w u x.ws) (hl:x.ws.length≤1048576) :
 Calls Tryz.prog 113 #[lkV x u] w fun e w'=>∃ g,e=.returned (lkV x (.slice (some ⟨g,0,none⟩) x.ws.length x.ws.length))∧w.heap.size≤g∧g<w'.heap.size∧(∀ i y,x.ws[i]?=some y→EW w' g (i * 2) y)∧Below w.heap.size w w'∧Wr w' g (x.ws.length * 2):=by
 have HU:Hid (RowW w u x.ws):=h
 clear h
 unfold lkV
 have HB:Hid (∀ o0 o1 o2,Below w.heap.size w (((w.alloc o0).alloc o1).alloc o2)):=fun o0 o1 o2=>(three (Below.refl _ _)).2.2.2.2
 have HS:Hid (∀ o0 o1 o2,(((w.alloc o0).alloc o1).alloc o2).heap.size=w.heap.size+1+1+1):=fun o0 o1 o2=>by rw [zAL,zAL,zAL]
 go_enter Tryz.func113,Tryz.ntmps113
 go_wp2_with fail
 refine (toWaiterSW_any u x.ws _ (HU.out.below (HB.out _ _ _)) hl).mono ?_
 rintro e w1 ⟨g,rfl,hg0,hg1,hr,b1,hwr⟩
 obtain ⟨k0,k1,k2,kS,kB⟩:=three b1
 rw [HS.out] at hg0
 have K0:Hid (w1.heap[w.heap.size]?=some (.cells #[.string x.n,.int .i64 x.t,.int .i64 x.h,.int .i64 x.e,u] 160)):=k0
 have K1:Hid (w1.heap[w.heap.size+1]?=some (.cells #[.string ⟨#[]⟩,.int .i64 0,.int .i64 0,.int .i64 0,.slice none 0 0] 45 (0,0))):=k1
 have K2:Hid (w1.heap[w.heap.size+1+1]?=some (.cells #[.string x.n,.int .i64 x.t,.int .i64 x.h,.int .i64 x.e,.slice none 0 0] 45 (0,0))):=k2
 have KB:Hid (Below w.heap.size w w1):=kB
 have KR:Hid (g<w1.heap.size∧∀ i y,x.ws[i]?=some y→EW w1 g (i * 2) y):=⟨hg1,hr⟩
 clear b1 k0 k1 k2 kB kS hr hg1 HB HS
 obtain ⟨s0,t0⟩:=zAA K2.out 4 (x:=.slice none 0 0) rfl
 have B2:Hid ((w1.setCell ⟨w.heap.size+1+1,4,none⟩ (.slice (some ⟨g,0,none⟩) x.ws.length x.ws.length)).heap[w.heap.size+1+1]?=some (.cells #[.string x.n,.int .i64 x.t,.int .i64 x.h,.int .i64 x.e,.slice (some ⟨g,0,none⟩) x.ws.length x.ws.length] 45 (0,0))):=(zAC K2.out 4 (.slice (some ⟨g,0,none⟩) x.ws.length x.ws.length))
 have A2:Hid ((w1.setCell ⟨w.heap.size+1+1,4,none⟩ (.slice (some ⟨g,0,none⟩) x.ws.length x.ws.length)).heap[w.heap.size+1]?=some (.cells #[.string ⟨#[]⟩,.int .i64 0,.int .i64 0,.int .i64 0,.slice none 0 0] 45 (0,0))):=((zAE (by omega) 4 (.slice (some ⟨g,0,none⟩) x.ws.length x.ws.length)).trans K1.out)
 have G2:Hid (Below w.heap.size w (w1.setCell ⟨w.heap.size+1+1,4,none⟩ (.slice (some ⟨g,0,none⟩) x.ws.length x.ws.length))):=(Below.setCell KB.out (p:=⟨w.heap.size+1+1,4,none⟩) (by show _≤w.heap.size+1+1;omega) (.slice (some ⟨g,0,none⟩) x.ws.length x.ws.length))
 have R2:Hid (g<(w1.setCell ⟨w.heap.size+1+1,4,none⟩ (.slice (some ⟨g,0,none⟩) x.ws.length x.ws.length)).heap.size∧∀ i y,x.ws[i]?=some y→EW (w1.setCell ⟨w.heap.size+1+1,4,none⟩ (.slice (some ⟨g,0,none⟩) x.ws.length x.ws.length)) g (i * 2) y):=⟨by simpa using KR.out.1,fun i y hy=>zBP (by omega) (KR.out.2 i y hy)⟩
 have W2:Hid (Wr (w1.setCell ⟨w.heap.size+1+1,4,none⟩ (.slice (some ⟨g,0,none⟩) x.ws.length x.ws.length)) g (x.ws.length * 2)):=hwr.set _ _ _
 clear K0 K1 K2 KR hwr
 go_upto_region 7 with fail
 generalize (w1.setCell ⟨w.heap.size+1+1,4,none⟩ (.slice (some ⟨g,0,none⟩) x.ws.length x.ws.length))=w9 at B2 A2 G2 R2 W2 ⊢
 have p0:=(zAA B2.out 0 (x:=.string x.n) rfl).1
 have p1:=(zAA B2.out 1 (x:=.int .i64 x.t) rfl).1
 have p2:=(zAA B2.out 2 (x:=.int .i64 x.h) rfl).1
 have p3:=(zAA B2.out 3 (x:=.int .i64 x.e) rfl).1
 have p4:=(zAA B2.out 4 (x:=.slice (some ⟨g,0,none⟩) x.ws.length x.ws.length) rfl).1
 obtain ⟨m0,n0⟩:=zAA A2.out 0 (x:=.string ⟨#[]⟩) rfl
 obtain ⟨m1,n1⟩:=zAA A2.out 1 (x:=.int .i64 0) rfl
 obtain ⟨m2,n2⟩:=zAA A2.out 2 (x:=.int .i64 0) rfl
 obtain ⟨m3,n3⟩:=zAA A2.out 3 (x:=.int .i64 0) rfl
 obtain ⟨m4,n4⟩:=zAA A2.out 4 (x:=.slice none 0 0) rfl
 have AF:(((((w9.setCell ⟨w.heap.size+1,0,none⟩ (.string x.n)).setCell ⟨w.heap.size+1,1,none⟩ (.int .i64 x.t)).setCell ⟨w.heap.size+1,2,none⟩ (.int .i64 x.h)).setCell ⟨w.heap.size+1,3,none⟩ (.int .i64 x.e)).setCell ⟨w.heap.size+1,4,none⟩ (.slice (some ⟨g,0,none⟩) x.ws.length x.ws.length)).heap[w.heap.size+1]?=some (.cells #[.string x.n,.int .i64 x.t,.int .i64 x.h,.int .i64 x.e,.slice (some ⟨g,0,none⟩) x.ws.length x.ws.length] 45 (0,0)):=(zAC (zAC (zAC (zAC (zAC A2.out 0 (.string x.n)) 1 (.int .i64 x.t)) 2 (.int .i64 x.h)) 3 (.int .i64 x.e)) 4 (.slice (some ⟨g,0,none⟩) x.ws.length x.ws.length))
 have RF:g<(((((w9.setCell ⟨w.heap.size+1,0,none⟩ (.string x.n)).setCell ⟨w.heap.size+1,1,none⟩ (.int .i64 x.t)).setCell ⟨w.heap.size+1,2,none⟩ (.int .i64 x.h)).setCell ⟨w.heap.size+1,3,none⟩ (.int .i64 x.e)).setCell ⟨w.heap.size+1,4,none⟩ (.slice (some ⟨g,0,none⟩) x.ws.length x.ws.length)).heap.size∧∀ i y,x.ws[i]?=some y→EW (((((w9.setCell ⟨w.heap.size+1,0,none⟩ (.string x.n)).setCell ⟨w.heap.size+1,1,none⟩ (.int .i64 x.t)).setCell ⟨w.heap.size+1,2,none⟩ (.int .i64 x.h)).setCell ⟨w.heap.size+1,3,none⟩ (.int .i64 x.e)).setCell ⟨w.heap.size+1,4,none⟩ (.slice (some ⟨g,0,none⟩) x.ws.length x.ws.length)) g (i * 2) y:=⟨by simpa using R2.out.1,fun i y hy=>by have h:=R2.out.2 i y hy;exact zBP (by omega) (zBP (by omega) (zBP (by omega) (zBP (by omega) (zBP (by omega) (h)))))⟩
 have GF:Below w.heap.size w (((((w9.setCell ⟨w.heap.size+1,0,none⟩ (.string x.n)).setCell ⟨w.heap.size+1,1,none⟩ (.int .i64 x.t)).setCell ⟨w.heap.size+1,2,none⟩ (.int .i64 x.h)).setCell ⟨w.heap.size+1,3,none⟩ (.int .i64 x.e)).setCell ⟨w.heap.size+1,4,none⟩ (.slice (some ⟨g,0,none⟩) x.ws.length x.ws.length)):=(Below.setCell (Below.setCell (Below.setCell (Below.setCell (Below.setCell G2.out (p:=⟨w.heap.size+1,0,none⟩) (by show _≤w.heap.size+1;omega) (.string x.n)) (p:=⟨w.heap.size+1,1,none⟩) (by show _≤w.heap.size+1;omega) (.int .i64 x.t)) (p:=⟨w.heap.size+1,2,none⟩) (by show _≤w.heap.size+1;omega) (.int .i64 x.h)) (p:=⟨w.heap.size+1,3,none⟩) (by show _≤w.heap.size+1;omega) (.int .i64 x.e)) (p:=⟨w.heap.size+1,4,none⟩) (by show _≤w.heap.size+1;omega) (.slice (some ⟨g,0,none⟩) x.ws.length x.ws.length))
 have RFH:Hid (g<(((((w9.setCell ⟨w.heap.size+1,0,none⟩ (.string x.n)).setCell ⟨w.heap.size+1,1,none⟩ (.int .i64 x.t)).setCell ⟨w.heap.size+1,2,none⟩ (.int .i64 x.h)).setCell ⟨w.heap.size+1,3,none⟩ (.int .i64 x.e)).setCell ⟨w.heap.size+1,4,none⟩ (.slice (some ⟨g,0,none⟩) x.ws.length x.ws.length)).heap.size∧∀ i y,x.ws[i]?=some y→EW (((((w9.setCell ⟨w.heap.size+1,0,none⟩ (.string x.n)).setCell ⟨w.heap.size+1,1,none⟩ (.int .i64 x.t)).setCell ⟨w.heap.size+1,2,none⟩ (.int .i64 x.h)).setCell ⟨w.heap.size+1,3,none⟩ (.int .i64 x.e)).setCell ⟨w.heap.size+1,4,none⟩ (.slice (some ⟨g,0,none⟩) x.ws.length x.ws.length)) g (i * 2) y):=RF
 have WF:Hid (Wr (((((w9.setCell ⟨w.heap.size+1,0,none⟩ (.string x.n)).setCell ⟨w.heap.size+1,1,none⟩ (.int .i64 x.t)).setCell ⟨w.heap.size+1,2,none⟩ (.int .i64 x.h)).setCell ⟨w.heap.size+1,3,none⟩ (.int .i64 x.e)).setCell ⟨w.heap.size+1,4,none⟩ (.slice (some ⟨g,0,none⟩) x.ws.length x.ws.length)) g (x.ws.length * 2)):=((((W2.out.set _ _ _).set _ _ _).set _ _ _).set _ _ _).set _ _ _
 clear RF W2
 go_wp2_with fail
 generalize (((((w9.setCell ⟨w.heap.size+1,0,none⟩ (.string x.n)).setCell ⟨w.heap.size+1,1,none⟩ (.int .i64 x.t)).setCell ⟨w.heap.size+1,2,none⟩ (.int .i64 x.h)).setCell ⟨w.heap.size+1,3,none⟩ (.int .i64 x.e)).setCell ⟨w.heap.size+1,4,none⟩ (.slice (some ⟨g,0,none⟩) x.ws.length x.ws.length))=wf at AF GF RFH WF ⊢
 have d0:=(zAA AF 0 (x:=.string x.n) rfl).1
 have d1:=(zAA AF 1 (x:=.int .i64 x.t) rfl).1
 have d2:=(zAA AF 2 (x:=.int .i64 x.h) rfl).1
 have d3:=(zAA AF 3 (x:=.int .i64 x.e) rfl).1
 have d4:=(zAA AF 4 (x:=.slice (some ⟨g,0,none⟩) x.ws.length x.ws.length) rfl).1
 exact bodyPost_ret (v:=lkV x (.slice (some ⟨g,0,none⟩) x.ws.length x.ws.length)) (by simp [lkV,results,Tryz.results113,go_sem,d0,d1,d2,d3,d4]) rfl ⟨g,rfl,by omega,RFH.out.1,RFH.out.2,GF,WF.out⟩
def CopW (w:World) (g:Nat) (xs:List Lk) (k:Nat) (A:Array Value):Prop:=CopL w g xs k A∧∀ j x h,j<k→xs[j]?=some x→A[j * 5+4]?=some (.slice (some ⟨h,0,none⟩) x.ws.length x.ws.length)→Wr w h (x.ws.length * 2)
theorem CopW.below {w w':World} {g:Nat} {xs:List Lk} {k:Nat} {A:Array Value} (h:CopW w g xs k A) (hb:Below w.heap.size w w'):CopW w' g xs k A:=⟨h.1.below hb,fun j x q hj hx hA=>(h.2 j x q hj hx hA).below hb⟩
theorem CopW.set {w:World} {g i:Nat} {v:Value} {xs:List Lk} {k:Nat} {A:Array Value} (h:CopW w g xs k A):CopW (w.setCell ⟨g,i,none⟩ v) g xs k A:=⟨h.1.set,fun j x q hj hx hA=>(h.2 j x q hj hx hA).set _ _ _⟩
theorem copW_toLockS {w:World} {g:Nat} {xs:List Lk} {k:Nat} {A:Array Value} {x:Lk} {q:Nat} (h:CopW w g xs k A) (hx:xs[k]?=some x) (hg:g<q) (hq:q<w.heap.size) (hr:∀ i y,x.ws[i]?=some y→EW w q (i * 2) y) (hw:Wr w q (x.ws.length * 2)) :
 CopW w g xs (k+1) (((((A.setIfInBounds (k * 5) (.string x.n)).setIfInBounds (k * 5+1) (.int .i64 x.t)).setIfInBounds (k * 5+2) (.int .i64 x.h)).setIfInBounds (k * 5+3) (.int .i64 x.e)).setIfInBounds (k * 5+4) (.slice (some ⟨q,0,none⟩) x.ws.length x.ws.length)):=by
 have hk:=Tw.zAw hx
 have hs:=h.1.1
 refine ⟨cop_toLockS h.1 hx hg hq hr,fun j y p hj hy hA=>?_⟩
 simp only [Array.getElem?_setIfInBounds,Array.size_setIfInBounds] at hA
 by_cases e:j=k
 ·subst e
  rw [hx] at hy
  cases hy
  rw [if_pos rfl,if_pos (by omega)] at hA
  simp only [Option.some.injEq,Value.slice.injEq,Addr.mk.injEq,and_true] at hA
  rw [← hA]
  exact hw
 ·refine h.2 j y p (by omega) hy ?_
  rw [if_neg (by omega),if_neg (by omega),if_neg (by omega),if_neg (by omega),if_neg (by omega)] at hA
  exact hA
set_option maxRecDepth 100000 in
set_option maxHeartbeats 800000 in
theorem toLockSW_any (v:Value) (xs:List Lk) (w:World) (h:RowL w v xs) (hl:xs.length≤1048576) (hw:∀ x ∈ xs,x.ws.length≤1048576) :
 Calls Tryz.prog 77 #[v] w fun e w'=>∃ g,e=.returned (.slice (some ⟨g,0,none⟩) xs.length xs.length)∧w.heap.size≤g∧g<w'.heap.size∧RowLA w.heap.size w' (.slice (some ⟨g,0,none⟩) xs.length xs.length) xs∧WrL w.heap.size w'.heap.size w' g (xs.map fun x=>x.ws.length)∧Below w.heap.size w w':=by
 have HR:Hid (RowL w v xs∧∀ x ∈ xs,x.ws.length≤1048576):=⟨h,hw⟩
 obtain ⟨a,cap,rfl⟩:=RowG.slice h
 clear h hw
 obtain ⟨i0,hi,hz0,hz1,hz2⟩:=info_parts info_toLockS
 have hmk:=run_make (P:=Tryz.prog) w 27 45 i0 (.agg #[.string ⟨#[]⟩,.int .i64 0,.int .i64 0,.int .i64 0,.slice none 0 0]) Tryz.underlying27 hi hz0 .i64 .i64 (xs.length:Int) (xs.length:Int) (by omega) (by omega) (by rw [hz2];omega) (by omega)
 have hA0:CopW (w.alloc (.cells (madeCells (Value.agg #[.string ⟨#[]⟩,.int .i64 0,.int .i64 0,.int .i64 0,.slice none 0 0]).cells ((xs.length:Int).toNat * i0.size)) 45)) w.heap.size xs 0 (madeCells (Value.agg #[.string ⟨#[]⟩,.int .i64 0,.int .i64 0,.int .i64 0,.slice none 0 0]).cells ((xs.length:Int).toNat * i0.size)):=⟨⟨by rw [hz1];simp [madeCells,Value.cells],fun j x hj=>absurd hj (by omega)⟩,fun j x h hj=>absurd hj (by omega)⟩
 generalize madeCells (Value.agg #[.string ⟨#[]⟩,.int .i64 0,.int .i64 0,.int .i64 0,.slice none 0 0]).cells ((xs.length:Int).toNat * i0.size)=A0 at hmk hA0
 rw [Int.toNat_natCast] at hmk
 have HA0:Hid (CopW (w.alloc (.cells A0 45)) w.heap.size xs 0 A0):=hA0
 clear hA0
 go_enter Tryz.func77,Tryz.ntmps77
 go_wp2_with fail
 clear hmk
 go_loopw [4] (fun i wr=>∃ k:Nat,∃ A:Array Value,k≤xs.length∧i=.int .i64 k∧Hid (wr.heap[w.heap.size]?=some (.cells A 45 (0,0))∧CopW wr w.heap.size xs k A∧Below w.heap.size w wr)) (fun i _=>xs.length - (intOf i).toNat)
 case atStart=>exact ⟨0,A0,by omega,rfl,⟨heap_alloc_new w _,HA0.out,zAD _ _⟩⟩
 case round =>
  clear HA0
  obtain ⟨k,A,hk,rfl,HA⟩:=hrel
  by_cases hlt:k<xs.length
  ·obtain ⟨x,hx⟩:=Tw.get_at hlt
   obtain ⟨b,off,rfl,hbl,u,c0,c1,c2,c3,c4,c5⟩:=RowG.at (HR.out.1.below HA.out.2.2) rfl hx
   have HX:Hid (xs[k]?=some x∧RowW wr u x.ws):=⟨hx,c5⟩
   clear hx c5
   go_wp2_with fail
   refine (toLockW_any x u wr HX.out.2 (HR.out.2 _ (Tw.zAp HX.out.1))).mono ?_
   rintro e w2 ⟨q,rfl,hq0,hq1,hqr,b2,hqw⟩
   have hg:=(Array.getElem?_eq_some_iff.1 HA.out.1).1
   have HA2:Hid (w2.heap[w.heap.size]?=some (.cells A 45 (0,0))∧CopW w2 w.heap.size xs k A∧Below w.heap.size w w2):=⟨(b2.block _ hg).trans HA.out.1,HA.out.2.1.below b2,HA.out.2.2.trans (b2.mono HA.out.2.2.size)⟩
   have HQ:Hid (w.heap.size<q∧q<w2.heap.size∧(∀ i y,x.ws[i]?=some y→EW w2 q (i * 2) y)∧Wr w2 q (x.ws.length * 2)):=⟨by omega,hq1,hqr,hqw⟩
   clear b2 c0 c1 c2 c3 c4 HA hq0 hq1 hqr hqw
   have hsz:k * 5+4<A.size:=by rw [HA2.out.2.1.1.1];omega
   obtain ⟨d0,f0⟩:=zAA HA2.out.1 (k * 5) (x:=A[k * 5]) (Array.getElem?_eq_getElem (by omega))
   obtain ⟨d1,f1⟩:=zAA HA2.out.1 (k * 5+1) (x:=A[k * 5+1]) (Array.getElem?_eq_getElem (by omega))
   obtain ⟨d2,f2⟩:=zAA HA2.out.1 (k * 5+2) (x:=A[k * 5+2]) (Array.getElem?_eq_getElem (by omega))
   obtain ⟨d3,f3⟩:=zAA HA2.out.1 (k * 5+3) (x:=A[k * 5+3]) (Array.getElem?_eq_getElem (by omega))
   obtain ⟨d4,f4⟩:=zAA HA2.out.1 (k * 5+4) (x:=A[k * 5+4]) (Array.getElem?_eq_getElem (by omega))
   unfold lkV
   go_wp2_with fail
   refine ⟨⟨k+1,(((((A).setIfInBounds (k * 5) (.string x.n)).setIfInBounds (k * 5+1) (.int .i64 x.t)).setIfInBounds (k * 5+2) (.int .i64 x.h)).setIfInBounds (k * 5+3) (.int .i64 x.e)).setIfInBounds (k * 5+4) (.slice (some ⟨q,0,none⟩) x.ws.length x.ws.length),by omega,by go_num,⟨(zAC (zAC (zAC (zAC (zAC HA2.out.1 _ _) _ _) _ _) _ _) _ _),?_,(Below.setCell (Below.setCell (Below.setCell (Below.setCell (Below.setCell HA2.out.2.2 (p:=⟨w.heap.size,k * 5,none⟩) (Nat.le_refl _) (.string x.n)) (p:=⟨w.heap.size,k * 5+1,none⟩) (Nat.le_refl _) (.int .i64 x.t)) (p:=⟨w.heap.size,k * 5+2,none⟩) (Nat.le_refl _) (.int .i64 x.h)) (p:=⟨w.heap.size,k * 5+3,none⟩) (Nat.le_refl _) (.int .i64 x.e)) (p:=⟨w.heap.size,k * 5+4,none⟩) (Nat.le_refl _) (.slice (some ⟨q,0,none⟩) x.ws.length x.ws.length))⟩⟩,by simp [intOf];omega⟩
   exact (copW_toLockS HA2.out.2.1 HX.out.1 HQ.out.1 HQ.out.2.1 HQ.out.2.2.1 HQ.out.2.2.2).set.set.set.set.set
  ·obtain rfl:k=xs.length:=by omega
   go_wp2_with fail
   go_ret
   refine ⟨w.heap.size,rfl,Nat.le_refl _,(Array.getElem?_eq_some_iff.1 HA.out.1).1,⟨some ⟨w.heap.size,0,none⟩,xs.length,rfl,.inr ⟨w.heap.size,0,rfl,Nat.le_refl _,(Array.getElem?_eq_some_iff.1 HA.out.1).1,fun i x hi=>?_⟩⟩,⟨⟨A,_,HA.out.1,by rw [List.length_map,HA.out.2.1.1.1];exact Nat.le_refl _⟩,fun j m hj=>?_⟩,HA.out.2.2⟩
   rotate_left
   ·rw [List.getElem?_map,Option.map_eq_some_iff] at hj
    obtain ⟨x,hx,rfl⟩:=hj
    obtain ⟨q,e0,e1,e2,e3,e4,e5,e6,e7⟩:=HA.out.2.1.1.2 j x (Tw.zAw hx) hx
    exact ⟨q,(Joins.cell_of_block HA.out.1 _).trans e4,by omega,e6,by omega,HA.out.2.1.2 j x q (Tw.zAw hx) hx e4⟩
   obtain ⟨q,e0,e1,e2,e3,e4,e5,e6,e7⟩:=HA.out.2.1.1.2 i x (Tw.zAw hi) hi
   rw [Nat.zero_add]
   exact ⟨Nat.le_refl _,_,(Joins.cell_of_block HA.out.1 _).trans e0,(Joins.cell_of_block HA.out.1 _).trans e1,(Joins.cell_of_block HA.out.1 _).trans e2,(Joins.cell_of_block HA.out.1 _).trans e3,(Joins.cell_of_block HA.out.1 _).trans e4,some ⟨q,0,none⟩,_,rfl,.inr ⟨q,0,rfl,Nat.le_refl _,e6,fun i y hy=>by rw [Nat.zero_add];exact ⟨by omega,e7 i y hy⟩⟩⟩
end Go.Proofs.YticokpbelgpfmaaGreat.Mw
namespace Go.Proofs.YticokpbelgpfmaaGreat.Mw
open Go.RowKit By Ap Tx Tb Tw
theorem WrL.far {B C:Nat} {w:World} {g p:Nat} {ns:List Nat} (h:WrL B C w g ns) (hp:p ≠ g) (j:Nat) (x:Value):WrL B C (w.setCell ⟨p,j,none⟩ x) g ns:=h.kept hp (fun _ _ h=>h.set _ _ _) (fun _ _ hk=>zAE hk j x)
theorem WrL.mono {B C B' C':Nat} {w:World} {g:Nat} {ns:List Nat} (h:WrL B C w g ns) (hB:B'≤B) (hC:C≤C'):WrL B' C' w g ns:=⟨h.1,fun j m hj=>by
 obtain ⟨q,h1,h2,h3,h4,h5⟩:=h.2 j m hj
 exact ⟨q,h1,Nat.le_trans hB h2,Nat.lt_of_lt_of_le h3 hC,h4,h5⟩⟩
set_option maxRecDepth 100000 in
set_option maxHeartbeats 800000 in
theorem toTableW_any (tm nx:Int) (vl vs:Value) (ls:List Lk) (ss:List Sn) (w:World) (hl:RowL w vl ls) (hs:RowS w vs ss) (h1:ls.length≤1048576) (h2:ss.length≤1048576) (h3:∀ x ∈ ls,x.ws.length≤1048576) :
 Calls Tryz.prog 29 #[tabV tm nx vl vs] w fun e w'=>∃ gl gs,e=.returned (tabV tm nx (.slice (some ⟨gl,0,none⟩) ls.length ls.length) (.slice (some ⟨gs,0,none⟩) ss.length ss.length))∧RowL w' (.slice (some ⟨gl,0,none⟩) ls.length ls.length) ls∧RowS w' (.slice (some ⟨gs,0,none⟩) ss.length ss.length) ss∧TabW w.heap.size w'.heap.size w' gl gs ls ss∧Below w.heap.size w w':=by
 have HL:Hid (RowL w vl ls∧∀ x ∈ ls,x.ws.length≤1048576):=⟨hl,h3⟩
 have HSS:Hid (RowS w vs ss):=hs
 clear hl hs h3
 unfold tabV
 have HB:Hid (∀ o0 o1 o2,Below w.heap.size w (((w.alloc o0).alloc o1).alloc o2)):=fun o0 o1 o2=>(three (Below.refl _ _)).2.2.2.2
 have HS:Hid (∀ o0 o1 o2,(((w.alloc o0).alloc o1).alloc o2).heap.size=w.heap.size+1+1+1):=fun o0 o1 o2=>by rw [zAL,zAL,zAL]
 go_enter Tryz.func29,Tryz.ntmps29
 go_wp2_with fail
 refine (toLockSW_any vl ls _ (HL.out.1.below (HB.out _ _ _)) h1 HL.out.2).mono ?_
 rintro e w1 ⟨gl,rfl,hgl,hgl2,hr,hwl,b1⟩
 obtain ⟨k0,k1,k2,kS,kB⟩:=three b1
 rw [HS.out] at hr hgl hwl
 obtain ⟨s0,t0⟩:=zAA k2 2 (x:=.slice none 0 0) rfl
 have c3:(w1.setCell ⟨w.heap.size+1+1,2,none⟩ (.slice (some ⟨gl,0,none⟩) ls.length ls.length)).cell? ⟨w.heap.size,3,none⟩=some vs:=by
  have h:=(zAE (k:=w.heap.size) (b:=w.heap.size+1+1) (by omega) 2 (.slice (some ⟨gl,0,none⟩) ls.length ls.length)).trans k0
  exact (zAA h 3 (x:=vs) rfl).1
 have K1:Hid ((w1.setCell ⟨w.heap.size+1+1,2,none⟩ (.slice (some ⟨gl,0,none⟩) ls.length ls.length)).heap[w.heap.size+1]?=some (.cells #[.int .i64 0,.int .i64 0,.slice none 0 0,.slice none 0 0] 30 (0,0))):=(zAE (by omega) 2 (.slice (some ⟨gl,0,none⟩) ls.length ls.length)).trans k1
 have K2:Hid ((w1.setCell ⟨w.heap.size+1+1,2,none⟩ (.slice (some ⟨gl,0,none⟩) ls.length ls.length)).heap[w.heap.size+1+1]?=some (.cells #[.int .i64 tm,.int .i64 nx,(.slice (some ⟨gl,0,none⟩) ls.length ls.length),.slice none 0 0] 30 (0,0))):=zAC k2 2 (.slice (some ⟨gl,0,none⟩) ls.length ls.length)
 have KB:Hid (Below w.heap.size w (w1.setCell ⟨w.heap.size+1+1,2,none⟩ (.slice (some ⟨gl,0,none⟩) ls.length ls.length))):=Below.setCell kB (p:=⟨w.heap.size+1+1,2,none⟩) (by show _≤w.heap.size+1+1;omega) (.slice (some ⟨gl,0,none⟩) ls.length ls.length)
 have KR:Hid (RowLA (w.heap.size+1+1+1) (w1.setCell ⟨w.heap.size+1+1,2,none⟩ (.slice (some ⟨gl,0,none⟩) ls.length ls.length)) (.slice (some ⟨gl,0,none⟩) ls.length ls.length) ls):=hr.keep ((Abv.refl _ _).set (by omega) _)
 have KZ:Hid (w.heap.size+1+1+1≤((w1.setCell ⟨w.heap.size+1+1,2,none⟩ (.slice (some ⟨gl,0,none⟩) ls.length ls.length))).heap.size):=by show _≤_;simpa using kS
 have KW:Hid (WrL w.heap.size w1.heap.size (w1.setCell ⟨w.heap.size+1+1,2,none⟩ (.slice (some ⟨gl,0,none⟩) ls.length ls.length)) gl (ls.map fun x=>x.ws.length)):=(hwl.far (by omega) _ _).mono (by omega) (Nat.le_refl _)
 have KG:Hid (w.heap.size+3≤gl∧gl<w1.heap.size∧w1.heap.size≤(w1.setCell ⟨w.heap.size+1+1,2,none⟩ (.slice (some ⟨gl,0,none⟩) ls.length ls.length)).heap.size):=⟨by omega,hgl2,by simp⟩
 clear b1 k0 k1 k2 kB kS hr hgl hgl2 hwl HB HS
 go_upto_region 5 with fail
 generalize (w1.setCell ⟨w.heap.size+1+1,2,none⟩ (.slice (some ⟨gl,0,none⟩) ls.length ls.length))=w2 at c3 K1 K2 KB KR KZ KW KG ⊢
 clear s0 t0
 go_wp2_with fail
 refine (toSeenSW_any vs ss w2 (HSS.out.below KB.out) h2).mono ?_
 rintro e w3 ⟨g,rfl,hg0,hg1,hr,b3,hws⟩
 obtain ⟨us,HUS⟩ : ∃ us,us=Value.slice (some ⟨g,0,none⟩) ss.length ss.length:=⟨_,rfl⟩
 have KR3:Hid (RowLA (w.heap.size+1+1+1) w3 (.slice (some ⟨gl,0,none⟩) ls.length ls.length) ls∧RowSA (w.heap.size+1+1+1) w3 us ss):=⟨KR.out.keep (Abv.of b3),⟨some ⟨g,0,none⟩,ss.length,HUS,.inr ⟨g,0,rfl,Nat.le_refl _,hg1,fun i x hi=>by rw [Nat.zero_add];exact ⟨by have:=KZ.out;omega,hr i x hi⟩⟩⟩⟩
 have K13:Hid (w3.heap[w.heap.size+1]?=some (.cells #[.int .i64 0,.int .i64 0,.slice none 0 0,.slice none 0 0] 30 (0,0))):=(b3.block _ (by have:=KZ.out;omega)).trans K1.out
 have K23:Hid (w3.heap[w.heap.size+1+1]?=some (.cells #[.int .i64 tm,.int .i64 nx,(.slice (some ⟨gl,0,none⟩) ls.length ls.length),.slice none 0 0] 30 (0,0))):=(b3.block _ (by have:=KZ.out;omega)).trans K2.out
 have KB3:Hid (Below w.heap.size w w3):=KB.out.trans (b3.mono KB.out.size)
 have KW3:Hid (WrL w.heap.size w3.heap.size w3 gl (ls.map fun x=>x.ws.length)∧Wr w3 g (ss.length * 6)∧w.heap.size+3≤gl∧gl<w3.heap.size∧w.heap.size+3≤g∧g<w3.heap.size):=⟨(KW.out.below b3).mono (Nat.le_refl _) (Nat.le_trans KG.out.2.2 b3.size),hws,KG.out.1,by have:=KG.out;have:=b3.size;omega,by have:=KG.out;have:=KZ.out;omega,hg1⟩
 clear hr hg0 hg1 b3 K1 K2 KB KR KZ c3 KW KG hws
 have K1:=K13
 have K2:=K23
 have KB:=KB3
 have KR:=KR3
 clear K13 K23 KB3 KR3
 subst HUS
 obtain ⟨s0,t0⟩:=zAA K2.out 3 (x:=.slice none 0 0) rfl
 have B2:Hid ((w3.setCell ⟨w.heap.size+1+1,3,none⟩ ((.slice (some ⟨g,0,none⟩) ss.length ss.length))).heap[w.heap.size+1+1]?=some (.cells #[.int .i64 tm,.int .i64 nx,(.slice (some ⟨gl,0,none⟩) ls.length ls.length),(.slice (some ⟨g,0,none⟩) ss.length ss.length)] 30 (0,0))):=(zAC K2.out 3 ((.slice (some ⟨g,0,none⟩) ss.length ss.length)))
 have A2:Hid ((w3.setCell ⟨w.heap.size+1+1,3,none⟩ ((.slice (some ⟨g,0,none⟩) ss.length ss.length))).heap[w.heap.size+1]?=some (.cells #[.int .i64 0,.int .i64 0,.slice none 0 0,.slice none 0 0] 30 (0,0))):=((zAE (by omega) 3 ((.slice (some ⟨g,0,none⟩) ss.length ss.length))).trans K1.out)
 have G2:Hid (Below w.heap.size w (w3.setCell ⟨w.heap.size+1+1,3,none⟩ ((.slice (some ⟨g,0,none⟩) ss.length ss.length)))):=(Below.setCell KB.out (p:=⟨w.heap.size+1+1,3,none⟩) (by show _≤w.heap.size+1+1;omega) ((.slice (some ⟨g,0,none⟩) ss.length ss.length)))
 have R2:Hid (RowLA (w.heap.size+1+1+1) (w3.setCell ⟨w.heap.size+1+1,3,none⟩ ((.slice (some ⟨g,0,none⟩) ss.length ss.length))) (.slice (some ⟨gl,0,none⟩) ls.length ls.length) ls∧RowSA (w.heap.size+1+1+1) (w3.setCell ⟨w.heap.size+1+1,3,none⟩ ((.slice (some ⟨g,0,none⟩) ss.length ss.length))) (.slice (some ⟨g,0,none⟩) ss.length ss.length) ss):=⟨KR.out.1.keep ((Abv.refl _ _).set (by omega) _),KR.out.2.keep ((Abv.refl _ _).set (by omega) _)⟩
 have W9:Hid (WrL w.heap.size w3.heap.size (w3.setCell ⟨w.heap.size+1+1,3,none⟩ ((.slice (some ⟨g,0,none⟩) ss.length ss.length))) gl (ls.map fun x=>x.ws.length)∧Wr (w3.setCell ⟨w.heap.size+1+1,3,none⟩ ((.slice (some ⟨g,0,none⟩) ss.length ss.length))) g (ss.length * 6)∧(w3.setCell ⟨w.heap.size+1+1,3,none⟩ ((.slice (some ⟨g,0,none⟩) ss.length ss.length))).heap.size=w3.heap.size):=⟨KW3.out.1.far (by have:=KW3.out;omega) _ _,KW3.out.2.1.set _ _ _,by simp⟩
 clear K1 K2 KR
 go_upto_region 6 with fail
 generalize (w3.setCell ⟨w.heap.size+1+1,3,none⟩ ((.slice (some ⟨g,0,none⟩) ss.length ss.length)))=w9 at B2 A2 G2 R2 W9 ⊢
 have p0:=(zAA B2.out 0 (x:=.int .i64 tm) rfl).1
 have p1:=(zAA B2.out 1 (x:=.int .i64 nx) rfl).1
 have p2:=(zAA B2.out 2 (x:=(.slice (some ⟨gl,0,none⟩) ls.length ls.length)) rfl).1
 have p3:=(zAA B2.out 3 (x:=(.slice (some ⟨g,0,none⟩) ss.length ss.length)) rfl).1
 obtain ⟨m0,n0⟩:=zAA A2.out 0 (x:=.int .i64 0) rfl
 obtain ⟨m1,n1⟩:=zAA A2.out 1 (x:=.int .i64 0) rfl
 obtain ⟨m2,n2⟩:=zAA A2.out 2 (x:=.slice none 0 0) rfl
 obtain ⟨m3,n3⟩:=zAA A2.out 3 (x:=.slice none 0 0) rfl
 have AF:((((w9.setCell ⟨w.heap.size+1,0,none⟩ (.int .i64 tm)).setCell ⟨w.heap.size+1,1,none⟩ (.int .i64 nx)).setCell ⟨w.heap.size+1,2,none⟩ ((.slice (some ⟨gl,0,none⟩) ls.length ls.length))).setCell ⟨w.heap.size+1,3,none⟩ ((.slice (some ⟨g,0,none⟩) ss.length ss.length))).heap[w.heap.size+1]?=some (.cells #[.int .i64 tm,.int .i64 nx,(.slice (some ⟨gl,0,none⟩) ls.length ls.length),(.slice (some ⟨g,0,none⟩) ss.length ss.length)] 30 (0,0)):=(zAC (zAC (zAC (zAC A2.out 0 (.int .i64 tm)) 1 (.int .i64 nx)) 2 ((.slice (some ⟨gl,0,none⟩) ls.length ls.length))) 3 ((.slice (some ⟨g,0,none⟩) ss.length ss.length)))
 have RF:Hid (RowL ((((w9.setCell ⟨w.heap.size+1,0,none⟩ (.int .i64 tm)).setCell ⟨w.heap.size+1,1,none⟩ (.int .i64 nx)).setCell ⟨w.heap.size+1,2,none⟩ ((.slice (some ⟨gl,0,none⟩) ls.length ls.length))).setCell ⟨w.heap.size+1,3,none⟩ ((.slice (some ⟨g,0,none⟩) ss.length ss.length))) (.slice (some ⟨gl,0,none⟩) ls.length ls.length) ls∧RowS ((((w9.setCell ⟨w.heap.size+1,0,none⟩ (.int .i64 tm)).setCell ⟨w.heap.size+1,1,none⟩ (.int .i64 nx)).setCell ⟨w.heap.size+1,2,none⟩ ((.slice (some ⟨gl,0,none⟩) ls.length ls.length))).setCell ⟨w.heap.size+1,3,none⟩ ((.slice (some ⟨g,0,none⟩) ss.length ss.length))) (.slice (some ⟨g,0,none⟩) ss.length ss.length) ss):=⟨(R2.out.1.keep (Abv.set (Abv.set (Abv.set (Abv.set (Abv.refl _ _) (by omega) _) (by omega) _) (by omega) _) (by omega) _)).row,(R2.out.2.keep (Abv.set (Abv.set (Abv.set (Abv.set (Abv.refl _ _) (by omega) _) (by omega) _) (by omega) _) (by omega) _)).row⟩
 have WF:Hid (WrL w.heap.size w3.heap.size ((((w9.setCell ⟨w.heap.size+1,0,none⟩ (.int .i64 tm)).setCell ⟨w.heap.size+1,1,none⟩ (.int .i64 nx)).setCell ⟨w.heap.size+1,2,none⟩ ((.slice (some ⟨gl,0,none⟩) ls.length ls.length))).setCell ⟨w.heap.size+1,3,none⟩ ((.slice (some ⟨g,0,none⟩) ss.length ss.length))) gl (ls.map fun x=>x.ws.length)∧Wr ((((w9.setCell ⟨w.heap.size+1,0,none⟩ (.int .i64 tm)).setCell ⟨w.heap.size+1,1,none⟩ (.int .i64 nx)).setCell ⟨w.heap.size+1,2,none⟩ ((.slice (some ⟨gl,0,none⟩) ls.length ls.length))).setCell ⟨w.heap.size+1,3,none⟩ ((.slice (some ⟨g,0,none⟩) ss.length ss.length))) g (ss.length * 6)∧((((w9.setCell ⟨w.heap.size+1,0,none⟩ (.int .i64 tm)).setCell ⟨w.heap.size+1,1,none⟩ (.int .i64 nx)).setCell ⟨w.heap.size+1,2,none⟩ ((.slice (some ⟨gl,0,none⟩) ls.length ls.length))).setCell ⟨w.heap.size+1,3,none⟩ ((.slice (some ⟨g,0,none⟩) ss.length ss.length))).heap.size=w3.heap.size):=⟨(((W9.out.1.far (by have:=KW3.out;omega) _ _).far (by have:=KW3.out;omega) _ _).far (by have:=KW3.out;omega) _ _).far (by have:=KW3.out;omega) _ _,(((W9.out.2.1.set _ _ _).set _ _ _).set _ _ _).set _ _ _,by simpa using W9.out.2.2⟩
 have GF:Below w.heap.size w ((((w9.setCell ⟨w.heap.size+1,0,none⟩ (.int .i64 tm)).setCell ⟨w.heap.size+1,1,none⟩ (.int .i64 nx)).setCell ⟨w.heap.size+1,2,none⟩ ((.slice (some ⟨gl,0,none⟩) ls.length ls.length))).setCell ⟨w.heap.size+1,3,none⟩ ((.slice (some ⟨g,0,none⟩) ss.length ss.length))):=(Below.setCell (Below.setCell (Below.setCell (Below.setCell G2.out (p:=⟨w.heap.size+1,0,none⟩) (by show _≤w.heap.size+1;omega) (.int .i64 tm)) (p:=⟨w.heap.size+1,1,none⟩) (by show _≤w.heap.size+1;omega) (.int .i64 nx)) (p:=⟨w.heap.size+1,2,none⟩) (by show _≤w.heap.size+1;omega) ((.slice (some ⟨gl,0,none⟩) ls.length ls.length))) (p:=⟨w.heap.size+1,3,none⟩) (by show _≤w.heap.size+1;omega) ((.slice (some ⟨g,0,none⟩) ss.length ss.length)))
 go_wp2_with fail
 generalize ((((w9.setCell ⟨w.heap.size+1,0,none⟩ (.int .i64 tm)).setCell ⟨w.heap.size+1,1,none⟩ (.int .i64 nx)).setCell ⟨w.heap.size+1,2,none⟩ ((.slice (some ⟨gl,0,none⟩) ls.length ls.length))).setCell ⟨w.heap.size+1,3,none⟩ ((.slice (some ⟨g,0,none⟩) ss.length ss.length)))=wf at AF GF RF WF ⊢
 have d0:=(zAA AF 0 (x:=.int .i64 tm) rfl).1
 have d1:=(zAA AF 1 (x:=.int .i64 nx) rfl).1
 have d2:=(zAA AF 2 (x:=(.slice (some ⟨gl,0,none⟩) ls.length ls.length)) rfl).1
 have d3:=(zAA AF 3 (x:=(.slice (some ⟨g,0,none⟩) ss.length ss.length)) rfl).1
 exact bodyPost_ret (v:=tabV tm nx (.slice (some ⟨gl,0,none⟩) ls.length ls.length) (.slice (some ⟨g,0,none⟩) ss.length ss.length)) (by simp [tabV,results,Tryz.results29,go_sem,d0,d1,d2,d3]) rfl ⟨gl,g,rfl,RF.out.1,RF.out.2,⟨by rw [WF.out.2.2];have:=KW3.out;omega,by rw [WF.out.2.2];exact WF.out.1,WF.out.2.1⟩,GF⟩
end Go.Proofs.YticokpbelgpfmaaGreat.Mw
namespace Go.Proofs.YticokpbelgpfmaaGreat.Tw
open Go.RowKit Ap Tx Tb
set_option maxRecDepth 100000 in
set_option maxHeartbeats 800000 in
theorem szLockG_any (v:Value) (xs:List Lk) (L:Nat) (hL:L≤1048576) (w:World) (h:RowL w v xs) (hm:∀ x ∈ xs,LkZ x) (hz:xs.length≤maxLen) :
 Calls Tryz.prog 74 #[v,.int .i64 (L:Int)] w fun e w'=>(∃ r:Int,e=.returned (.int .i64 r)∧(r = -1 ∨ ∃ q:Nat,r=q∧q≤1048576∧xs.length≤1048576∧∀ x ∈ xs,x.n.size≤1048576∧x.ws.length≤1048576))∧Below w.heap.size w w':=by
 have hz2:xs.length≤9223372036854775807:=by unfold maxLen at hz;omega
 have HM:Hid (∀ x ∈ xs,LkZ x):=hm
 have HR:Hid (RowL w v xs):=h
 obtain ⟨a,cap,rfl⟩:=RowG.slice h
 clear hz hm h
 by_cases hb:L<xs.length
 ·have hb':(L:Int) - (xs.length:Int)<0:=by omega
  go_enter Tryz.func74,Tryz.ntmps74
  go_wp2_with fail
  go_ret
  exact ⟨⟨_,rfl,.inl rfl⟩,Below.refl _ _⟩
 have hb':¬ (L:Int) - (xs.length:Int)<0:=by omega
 go_enter Tryz.func74,Tryz.ntmps74
 go_wp2_with fail
 go_loopw [1,5] (fun l i wr=>∃ (k q:Nat),k≤xs.length∧i=.int .i64 k∧l=.int .i64 q∧q≤1048576∧Hid (∀ j x,j<k→xs[j]?=some x→x.n.size≤1048576∧x.ws.length≤1048576)∧Hid (Below w.heap.size w wr)) (fun _ i _=>xs.length - (intOf i).toNat)
 case atStart=>exact ⟨0,L - xs.length,by omega,rfl,by congr 1;omega,by omega,fun j x hj=>by omega,Below.refl _ _⟩
 case round =>
  obtain ⟨k,q,hk,rfl,rfl,hq,HJ,HB⟩:=hrel
  by_cases hlt:k<xs.length
  ·obtain ⟨x,hx⟩:=get_at hlt
   obtain ⟨b,off,rfl,hbl,u,c0,c1,c2,c3,c4,c5⟩:=RowG.at (HR.out.below HB.out) rfl hx
   have HX:Hid (xs[k]?=some x∧RowW wr u x.ws):=⟨hx,c5⟩
   clear hx c5
   go_wp2_with fail
   refine (szLock_any x u q wr hq (HM.out _ (zAp HX.out.1)) HX.out.2).mono ?_
   rintro e w2 ⟨⟨r,rfl,hr⟩,b2⟩
   have HB2:Hid (Below w.heap.size w w2):=HB.out.trans (b2.mono HB.out.size)
   clear b2
   rcases hr with rfl | ⟨p,rfl,hp,hs,hs2⟩
   ·go_wp2_with fail
    go_ret
    exact ⟨⟨_,rfl,.inl rfl⟩,HB2.out⟩
   ·have HJ2:Hid (∀ j x,j<k+1→xs[j]?=some x→x.n.size≤1048576∧x.ws.length≤1048576):=fun j y hj hy=>by
     by_cases e:j=k
     ·subst e
      rw [HX.out.1] at hy
      cases hy
      omega
     ·exact HJ.out j y (by omega) hy
    have hp0:¬ (p:Int)<0:=by omega
    go_wp2_with fail
    exact ⟨⟨k+1,p,by omega,by go_num,rfl,by omega,HJ2,HB2⟩,by simp [intOf];omega⟩
  ·obtain rfl:k=xs.length:=by omega
   go_wp2_with fail
   go_ret
   refine ⟨⟨_,rfl,.inr ⟨q,rfl,hq,by omega,fun r hr=>?_⟩⟩,HB.out⟩
   obtain ⟨j,hj,rfl⟩:=List.mem_iff_getElem.1 hr
   exact HJ.out j _ hj (List.getElem?_eq_getElem hj)
set_option maxRecDepth 100000 in
set_option maxHeartbeats 800000 in
theorem szTableG_any (tm nx:Int) (vl vs:Value) (ls:List Lk) (ss:List Sn) (L:Nat) (hL:L≤1048576) (w:World) (hl:RowL w vl ls) (hs:RowS w vs ss) (hm:∀ x ∈ ls,LkZ x) (hz:ls.length≤maxLen) (hy:ss.length≤maxLen) :
 Calls Tryz.prog 26 #[tabV tm nx vl vs,.int .i64 (L:Int)] w fun e w'=>(∃ r:Int,e=.returned (.int .i64 r)∧(r = -1 ∨ (0≤r∧r≤1048576∧ls.length≤1048576∧ss.length≤1048576∧∀ x ∈ ls,x.n.size≤1048576∧x.ws.length≤1048576)))∧Below w.heap.size w w':=by
 have HL:Hid (RowL w vl ls∧∀ x ∈ ls,LkZ x):=⟨hl,hm⟩
 have HS:Hid (RowS w vs ss):=hs
 clear hl hs hm
 unfold tabV
 have HBX:Hid (Below w.heap.size w (w.alloc (.cells #[.int .i64 tm,.int .i64 nx,vl,vs] 66))):=zAD _ _
 go_enter Tryz.func26,Tryz.ntmps26
 go_wp2_with fail
 refine (szLockG_any vl ls L hL _ (HL.out.1.below HBX.out) HL.out.2 hz).mono ?_
 rintro e w2 ⟨⟨r,rfl,hr⟩,b2⟩
 have HB2:Hid (Below w.heap.size w w2):=HBX.out.trans (b2.mono HBX.out.size)
 have hc3:w2.cell? ⟨w.heap.size,3,none⟩=some vs:=by
  rw [b2.cell (p:=⟨w.heap.size,3,none⟩) (by rw [zAL];exact Nat.lt_succ_self _),World.cell?_alloc_at _ _ _ _ rfl]
  rfl
 clear b2
 rcases hr with rfl | ⟨q,rfl,hq,hr1,hr2⟩
 ·go_wp2_with fail
  go_ret
  exact ⟨⟨_,rfl,.inl rfl⟩,HB2.out⟩
 ·have hp0:¬ (q:Int)<0:=by omega
  have HR2:Hid (∀ x ∈ ls,x.n.size≤1048576∧x.ws.length≤1048576):=hr2
  clear hr2
  go_wp2_with fail
  refine (szSeenS_any vs ss _ _ (HS.out.below HB2.out) hy (by omega) (by omega)).mono ?_
  rintro e w3 ⟨rfl,rfl⟩
  by_cases h2:(q:Int)<(ss.length:Int)
  ·rw [lft_no h2]
   go_wp2_with fail
   go_ret
   exact ⟨⟨_,rfl,.inl rfl⟩,HB2.out⟩
  ·rw [lft_yes h2]
   have h3:¬ (q:Int) - (ss.length:Int)<0:=by omega
   go_wp2_with fail
   go_ret
   exact ⟨⟨_,rfl,.inr ⟨by omega,by omega,hr1,by omega,HR2.out⟩⟩,HB2.out⟩
end Go.Proofs.YticokpbelgpfmaaGreat.Tw
