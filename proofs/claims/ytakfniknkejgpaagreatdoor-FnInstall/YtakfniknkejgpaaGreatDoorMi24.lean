/- Texts put together: Us, Ut, Uu. -/
import Derived.Test.YtakfniknkejgpaaGreatDoorMi23
namespace Go.Proofs.YtakfniknkejgpaaGreatDoor.Ur
open Go.RowKit Sl By Ap Rr Tb Tw
open Wa (OwnW appW infoW)
structure Lw (w wr W:World) (p B:Nat) (z cs:Array Value) (u:Value) (ws:List Wt) (xc:Array Value) (xs:List Int) (sh:Bool):Prop where
 lc:Lc w W p B 95 z cs xs sh
 ow:OwnW W (w.heap.size+2) u ws
 og:∀ g,u.ownBlock=some g→g<wr.heap.size
 xb:W.heap[wr.heap.size]?=some (.cells xc 98 (0,0))
 sz:w.heap.size+2≤wr.heap.size
theorem Lw.start {w wr:World} {p B:Nat} {z cs:Array Value} {u:Value} {ws:List Wt} {xs:List Int} {sh:Bool} (h:Lc w wr p B 95 z cs xs sh) (o:OwnW wr (w.heap.size+2) u ws) (xc:Array Value):Lw w wr (wr.alloc (.cells xc 98)) p B z cs u ws xc xs sh :=
 ⟨h.alloc _,o.alloc _,fun g hg=>(o.lt g hg).2,heap_alloc_new _ _,h.size⟩
theorem Lw.num {w wr W W':World} {p B:Nat} {z cs:Array Value} {u:Value} {ws:List Wt} {xc:Array Value} {xs ys:List Int} {sh sb:Bool} (h:Lw w wr W p B z cs u ws xc xs sh) (r:Rdr B W' p ys sb) (g:W.grownBy W' (some p)):Lw w wr W' p B z cs u ws xc ys sb :=
 ⟨h.lc.num r g,h.ow.kept fun q hq=>g.block q (h.ow.lt q hq).2 (by have:=h.lc.pl;have:=(h.ow.lt q hq).1;simp;omega),h.og,zAv h.xb g (by have:=h.lc.pl;have:=h.sz;omega),h.sz⟩
theorem Lw.setx {w wr W:World} {p B:Nat} {z cs:Array Value} {u:Value} {ws:List Wt} {xc:Array Value} {xs:List Int} {sh:Bool} (h:Lw w wr W p B z cs u ws xc xs sh) (i:Nat) (v:Value):Lw w wr (W.setCell ⟨wr.heap.size,i,none⟩ v) p B z cs u ws (xc.setIfInBounds i v) xs sh :=
 ⟨h.lc.far _ h.sz i v,h.ow.kept fun q hq=>zAB (by have:=h.og q hq;omega) i v,h.og,zAE h.xb i v,h.sz⟩
theorem Lc.kept {w W W':World} {p B:Nat} {t:TypeId} {z cs:Array Value} {xs:List Int} {sh:Bool} {v:Value} (h:Lc w W p B t z cs xs sh) (hs:W.heap.size≤W'.heap.size) (hv:∀ g,v.ownBlock=some g→w.heap.size+2≤g) (hb:Below (w.heap.size+2) W W') (hk:∀ k,k<W.heap.size→some k ≠ v.ownBlock→W'.heap[k]?=W.heap[k]?):Lc w W' p B t z cs xs sh:=by
 have hlt:=h.size
 have far:∀ k,k<w.heap.size+2→W'.heap[k]?=W.heap[k]?:=fun k hk'=>hk k (by omega) fun e=>by have:=hv k e.symm;omega
 refine ⟨(far _ (by omega)).trans h.a,(far _ (by omega)).trans h.b,h.rd.kept (far p (by have:=h.pl;omega)) (fun k hk'=>far k (by have:=h.pl;omega)),?_,h.pl⟩
 exact ⟨hb.os.trans h.gr.os,hb.tape.trans h.gr.tape,hb.output.trans h.gr.output,Nat.le_trans h.gr.size hs,fun k hk' hn=>(far k (by omega)).trans (h.gr.block k hk' hn)⟩
theorem row_one (W:World) (x:Wt):RowW (W.alloc (.cells #[.int .i64 x.c,.int .i64 x.l] 98)) (.slice (some ⟨W.heap.size,0,none⟩) 1 1) [x]:=by
 refine ⟨_,_,rfl,.inr ⟨W.heap.size,0,rfl,Nat.le_refl _,by simp,fun i y hi=>?_⟩⟩
 have h0:i=0:=by have:=(List.getElem?_eq_some_iff.1 hi).1;simp at this;exact this
 subst h0
 simp at hi
 subst hi
 exact ⟨(Joins.cell_of_block (heap_alloc_new W _) _).trans rfl,(Joins.cell_of_block (heap_alloc_new W _) _).trans rfl⟩
set_option maxRecDepth 100000 in
set_option maxHeartbeats 6400000 in
theorem takeLock_any (p B:Nat) (xs:List Int) (sh:Bool) (w:World) (h:Rdr B w p xs sh) (hB:B≤p) (hx:xs.length≤70000) (hr:∀ x ∈ xs,0≤x∧x≤255) :
 Calls Tryz.prog 105 #[.pointer (some ⟨p,0,none⟩)] w fun e w'=>∃ u,e=.returned (lkV (lkO xs) u)∧OwnW w' w.heap.size u (lkO xs).ws∧Rdr B w' p (lkR xs) (lkS xs sh)∧w.grownBy w' (some p):=by
 obtain ⟨i0,hi0,hz0,hz1,hz2⟩:=info_parts infoW
 have L0:Hid (Lc w ((w.alloc (.cells #[.string ⟨#[]⟩,.int .i64 0,.int .i64 0,.int .i64 0,.slice none 0 0] 95)).alloc (.cells #[.string ⟨#[]⟩,.int .i64 0,.int .i64 0,.int .i64 0,.slice none 0 0] 95)) p B 95 #[.string ⟨#[]⟩,.int .i64 0,.int .i64 0,.int .i64 0,.slice none 0 0] #[.string ⟨#[]⟩,.int .i64 0,.int .i64 0,.int .i64 0,.slice none 0 0] xs sh):=Lc.start h hB _ _
 have HR0:Hid (∀ x ∈ xs,0≤x∧x≤255):=hr
 have HX0:Hid (xs.length≤70000):=hx
 clear h hr hx
 go_enter Tryz.func105,Tryz.ntmps105
 go_wp2_with fail
 generalize (w.alloc (.cells #[.string ⟨#[]⟩,.int .i64 0,.int .i64 0,.int .i64 0,.slice none 0 0] 95)).alloc (.cells #[.string ⟨#[]⟩,.int .i64 0,.int .i64 0,.int .i64 0,.slice none 0 0] 95)=w0 at L0 ⊢
 have N0:=zAw 1 p B xs sh _ L0.out.rd hB (by decide) HX0.out HR0.out
 have HR1:Hid (∀ x ∈ (txtR 1 xs),0≤x∧x≤255):=txtR_range HR0.out
 have HX1:Hid ((txtR 1 xs).length≤70000):=Nat.le_trans (txtR_len _ _) HX0.out
 obtain ⟨z0,HZ0⟩ : ∃ z,Hid (txtB 1 xs=z):=⟨_,rfl⟩
 rw [HZ0.out] at N0
 refine N0.mono ?_
 rintro e w1 ⟨rfl,r,g⟩
 have l:=L0.out.num r g
 obtain ⟨c,f⟩:=zAA l.b 0 (x:=.string ⟨#[]⟩) rfl
 have L1:Hid (Lc w (w1.setCell ⟨w.heap.size+1,0,none⟩ (.string z0)) p B 95 #[.string ⟨#[]⟩,.int .i64 0,.int .i64 0,.int .i64 0,.slice none 0 0] #[.string z0,.int .i64 0,.int .i64 0,.int .i64 0,.slice none 0 0] (txtR 1 xs) (txtS 1 xs sh)):=l.set 0 _
 clear l r g L0 N0 HR0 HX0
 go_wp2_with fail
 clear c f
 generalize w1.setCell ⟨w.heap.size+1,0,none⟩ (.string z0)=w1' at L1 ⊢
 have N1:=zAg 3 p B (txtR 1 xs) (txtS 1 xs sh) _ L1.out.rd hB (by decide) HX1.out HR1.out
 have nb1:=zBJ (n:=3) HR1.out
 have HR2:Hid (∀ x ∈ (tkR 3 (txtR 1 xs)),0≤x∧x≤255):=zAh HR1.out
 have HX2:Hid (((tkR 3 (txtR 1 xs))).length≤70000):=Nat.le_trans (zAu _ _) HX1.out
 unfold nv at nb1
 obtain ⟨z1,HZ1⟩ : ∃ z,Hid (beN (tkB 3 (txtR 1 xs))=z):=⟨_,rfl⟩
 rw [HZ1.out] at N1 nb1
 simp only [show ((256:Int) ^ 3)=16777216 from rfl] at nb1
 refine N1.mono ?_
 rintro e w2 ⟨rfl,r,g⟩
 have l:=L1.out.num r g
 obtain ⟨c,f⟩:=zAA l.b 1 (x:=.int .i64 0) rfl
 have L2:Hid (Lc w (w2.setCell ⟨w.heap.size+1,1,none⟩ (.int .i64 z1)) p B 95 #[.string ⟨#[]⟩,.int .i64 0,.int .i64 0,.int .i64 0,.slice none 0 0] #[.string z0,.int .i64 z1,.int .i64 0,.int .i64 0,.slice none 0 0] (tkR 3 (txtR 1 xs)) (tkS 3 (txtR 1 xs) (txtS 1 xs sh))):=l.set 1 _
 clear l r g L1 N1 HR1 HX1
 go_wp2_with fail
 clear c f nb1
 generalize w2.setCell ⟨w.heap.size+1,1,none⟩ (.int .i64 z1)=w2' at L2 ⊢
 have N2:=zAg 2 p B (tkR 3 (txtR 1 xs)) (tkS 3 (txtR 1 xs) (txtS 1 xs sh)) _ L2.out.rd hB (by decide) HX2.out HR2.out
 have nb2:=zBJ (n:=2) HR2.out
 have HR3:Hid (∀ x ∈ (tkR 2 (tkR 3 (txtR 1 xs))),0≤x∧x≤255):=zAh HR2.out
 have HX3:Hid (((tkR 2 (tkR 3 (txtR 1 xs)))).length≤70000):=Nat.le_trans (zAu _ _) HX2.out
 unfold nv at nb2
 obtain ⟨z2,HZ2⟩ : ∃ z,Hid (beN (tkB 2 (tkR 3 (txtR 1 xs)))=z):=⟨_,rfl⟩
 rw [HZ2.out] at N2 nb2
 simp only [show ((256:Int) ^ 2)=65536 from rfl] at nb2
 refine N2.mono ?_
 rintro e w3 ⟨rfl,r,g⟩
 have l:=L2.out.num r g
 obtain ⟨c,f⟩:=zAA l.b 2 (x:=.int .i64 0) rfl
 have L3:Hid (Lc w (w3.setCell ⟨w.heap.size+1,2,none⟩ (.int .i64 (z2 - 1))) p B 95 #[.string ⟨#[]⟩,.int .i64 0,.int .i64 0,.int .i64 0,.slice none 0 0] #[.string z0,.int .i64 z1,.int .i64 (z2 - 1),.int .i64 0,.slice none 0 0] (tkR 2 (tkR 3 (txtR 1 xs))) (tkS 2 (tkR 3 (txtR 1 xs)) (tkS 3 (txtR 1 xs) (txtS 1 xs sh)))):=l.set 2 _
 clear l r g L2 N2 HR2 HX2
 go_wp2_with fail
 clear c f nb2
 generalize w3.setCell ⟨w.heap.size+1,2,none⟩ (.int .i64 (z2 - 1))=w3' at L3 ⊢
 have N3:=zAg 4 p B (tkR 2 (tkR 3 (txtR 1 xs))) (tkS 2 (tkR 3 (txtR 1 xs)) (tkS 3 (txtR 1 xs) (txtS 1 xs sh))) _ L3.out.rd hB (by decide) HX3.out HR3.out
 have nb3:=zBJ (n:=4) HR3.out
 have HR4:Hid (∀ x ∈ (tkR 4 (tkR 2 (tkR 3 (txtR 1 xs)))),0≤x∧x≤255):=zAh HR3.out
 have HX4:Hid (((tkR 4 (tkR 2 (tkR 3 (txtR 1 xs))))).length≤70000):=Nat.le_trans (zAu _ _) HX3.out
 unfold nv at nb3
 obtain ⟨z3,HZ3⟩ : ∃ z,Hid (beN (tkB 4 (tkR 2 (tkR 3 (txtR 1 xs))))=z):=⟨_,rfl⟩
 rw [HZ3.out] at N3 nb3
 simp only [show ((256:Int) ^ 4)=4294967296 from rfl] at nb3
 refine N3.mono ?_
 rintro e w4 ⟨rfl,r,g⟩
 have l:=L3.out.num r g
 obtain ⟨c,f⟩:=zAA l.b 3 (x:=.int .i64 0) rfl
 have L4:Hid (Lc w (w4.setCell ⟨w.heap.size+1,3,none⟩ (.int .i64 z3)) p B 95 #[.string ⟨#[]⟩,.int .i64 0,.int .i64 0,.int .i64 0,.slice none 0 0] #[.string z0,.int .i64 z1,.int .i64 (z2 - 1),.int .i64 z3,.slice none 0 0] (tkR 4 (tkR 2 (tkR 3 (txtR 1 xs)))) (tkS 4 (tkR 2 (tkR 3 (txtR 1 xs))) (tkS 2 (tkR 3 (txtR 1 xs)) (tkS 3 (txtR 1 xs) (txtS 1 xs sh))))):=l.set 3 _
 clear l r g L3 N3 HR3 HX3
 go_wp2_with fail
 clear c f nb3
 generalize w4.setCell ⟨w.heap.size+1,3,none⟩ (.int .i64 z3)=w4' at L4 ⊢
 have HE4:Hid (lk3 xs=(tkR 4 (tkR 2 (tkR 3 (txtR 1 xs))))∧lkS3 xs sh=(tkS 4 (tkR 2 (tkR 3 (txtR 1 xs))) (tkS 2 (tkR 3 (txtR 1 xs)) (tkS 3 (txtR 1 xs) (txtS 1 xs sh))))):=⟨rfl,rfl⟩
 rw [← HE4.out.1] at L4 HR4 HX4
 rw [← HE4.out.2] at L4
 have HEO:Hid (lkO xs=⟨z0,z1,z2 - 1,z3,itL wtR wtO (cnt (lk3 xs)) (tkR 1 (lk3 xs))⟩):=by
  show _=_
  unfold lkO nv
  rw [HZ0.out,HZ1.out,HZ2.out,HZ3.out]
 have HER:Hid (lkR xs=itR wtR (cnt (lk3 xs)) (tkR 1 (lk3 xs))∧lkS xs sh=itS wtR wtS (cnt (lk3 xs)) (tkR 1 (lk3 xs)) (tkS 1 (lk3 xs) (lkS3 xs sh))):=⟨rfl,rfl⟩
 have N4:=zAg 1 p B (lk3 xs) (lkS3 xs sh) _ L4.out.rd hB (by decide) HX4.out HR4.out
 have nb4:=zBJ (n:=1) HR4.out
 have hcn:beN (tkB 1 (lk3 xs))=(cnt (lk3 xs):Int):=by unfold cnt nv;unfold nv at nb4;omega
 have hc2:cnt (lk3 xs)≤255:=by
  simp only [show ((256:Int) ^ 1)=256 from rfl] at nb4
  unfold cnt;omega
 have HR5:Hid (∀ x ∈ tkR 1 (lk3 xs),0≤x∧x≤255):=zAh HR4.out
 have HX5:Hid ((tkR 1 (lk3 xs)).length≤70000):=Nat.le_trans (zAu _ _) HX4.out
 rw [hcn] at N4
 obtain ⟨n,HNN⟩ : ∃ n,Hid (cnt (lk3 xs)=n):=⟨_,rfl⟩
 rw [HNN.out] at N4 hc2 HEO HER
 obtain ⟨ys,HYS⟩ : ∃ ys,Hid (tkR 1 (lk3 xs)=ys):=⟨_,rfl⟩
 obtain ⟨s0,HS0⟩ : ∃ s0,Hid (tkS 1 (lk3 xs) (lkS3 xs sh)=s0):=⟨_,rfl⟩
 rw [HYS.out] at N4 HEO HER HR5 HX5
 rw [HS0.out] at N4 HER
 clear nb4 hcn
 refine N4.mono ?_
 rintro e w5 ⟨rfl,r,g⟩
 have L5:Hid (Lc w w5 p B 95 #[.string ⟨#[]⟩,.int .i64 0,.int .i64 0,.int .i64 0,.slice none 0 0] #[.string z0,.int .i64 z1,.int .i64 (z2 - 1),.int .i64 z3,.slice none 0 0] ys s0):=L4.out.num r g
 have HRY:Hid (∀ k,∀ x ∈ itR wtR k ys,0≤x∧x≤255):=fun k=>(zCH less_wt k ys).2 HR5.out
 have HXY:Hid (∀ k,(itR wtR k ys).length≤70000):=fun k=>Nat.le_trans (zCH less_wt k ys).1 HX5.out
 clear r g L4 N4 HR4 HX4 HR5 HX5 HE4 HYS HS0
 go_wp2_with fail
 go_loopw [20] (fun i wr=>∃ (k:Nat) (a:Option Addr) (c:Nat),k≤n∧i=.int .i64 (k:Int)∧Hid (Lc w wr p B 95 #[.string ⟨#[]⟩,.int .i64 0,.int .i64 0,.int .i64 0,.slice none 0 0] #[.string z0,.int .i64 z1,.int .i64 (z2 - 1),.int .i64 z3,.slice a k c] (itR wtR k ys) (itS wtR wtS k ys s0)∧OwnW wr (w.heap.size+2) (.slice a k c) (itL wtR wtO k ys))) (fun i _=>n - (intOf i).toNat)
 case atStart=>exact ⟨0,none,0,by omega,rfl,L5.out,OwnW.nil _ _⟩
 case round =>
  clear L5
  obtain ⟨k,a,c,hk,rfl,HT⟩:=hrel
  by_cases hlt:k<n
  ·have HLN:Hid ((itL wtR wtO k ys).length+1≤1000000):=by show _≤_;rw [zBd];omega
   have HES:Hid (itL wtR wtO (k+1) ys=itL wtR wtO k ys ++ [wtO (itR wtR k ys)]∧itR wtR (k+1) ys=tkR 2 (tkR 1 (itR wtR k ys))∧itS wtR wtS (k+1) ys s0=tkS 2 (tkR 1 (itR wtR k ys)) (tkS 1 (itR wtR k ys) (itS wtR wtS k ys s0))):=⟨rfl,rfl,rfl⟩
   have HLK:Hid ((itL wtR wtO (k+1) ys).length=k+1):=zBd _ _ _ _
   have HRA:Hid (∀ x ∈ itR wtR k ys,0≤x∧x≤255):=HRY.out k
   have HXA:Hid ((itR wtR k ys).length≤70000):=HXY.out k
   obtain ⟨qs,HAS⟩ : ∃ qs,Hid (itR wtR k ys=qs):=⟨_,rfl⟩
   obtain ⟨sa,HSA⟩ : ∃ sa,Hid (itS wtR wtS k ys s0=sa):=⟨_,rfl⟩
   obtain ⟨ms,HMS⟩ : ∃ ms,Hid (itL wtR wtO k ys=ms):=⟨_,rfl⟩
   rw [HAS.out,HSA.out,HMS.out] at HT
   rw [HAS.out] at HRA HXA
   rw [HAS.out,HSA.out,HMS.out] at HES
   rw [HMS.out] at HLN
   have K0:Hid (Lw w wr (wr.alloc (.cells #[.int .i64 0,.int .i64 0] 98)) p B #[.string ⟨#[]⟩,.int .i64 0,.int .i64 0,.int .i64 0,.slice none 0 0] #[.string z0,.int .i64 z1,.int .i64 (z2 - 1),.int .i64 z3,.slice a k c] (.slice a k c) ms #[.int .i64 0,.int .i64 0] qs sa):=Lw.start HT.out.1 HT.out.2 _
   clear HT
   go_wp2_with fail
   generalize wr.alloc (.cells #[.int .i64 0,.int .i64 0] 98)=q0 at K0 ⊢
   have M0:=zAg 1 p B qs sa _ K0.out.lc.rd hB (by decide) HXA.out HRA.out
   have HRB:Hid (∀ x ∈ tkR 1 qs,0≤x∧x≤255):=zAh HRA.out
   have HXB:Hid ((tkR 1 qs).length≤70000):=Nat.le_trans (zAu _ _) HXA.out
   obtain ⟨y0,HY0⟩ : ∃ z,Hid (beN (tkB 1 qs)=z):=⟨_,rfl⟩
   rw [HY0.out] at M0
   refine M0.mono ?_
   rintro e q1 ⟨rfl,r,g⟩
   have l:=K0.out.num r g
   obtain ⟨c0,f0⟩:=zAA l.xb 0 (x:=.int .i64 0) rfl
   have K1:Hid (Lw w wr (q1.setCell ⟨wr.heap.size,0,none⟩ (.int .i64 y0)) p B #[.string ⟨#[]⟩,.int .i64 0,.int .i64 0,.int .i64 0,.slice none 0 0] #[.string z0,.int .i64 z1,.int .i64 (z2 - 1),.int .i64 z3,.slice a k c] (.slice a k c) ms #[.int .i64 y0,.int .i64 0] (tkR 1 qs) (tkS 1 qs sa)):=l.setx 0 _
   clear l r g K0 M0 HRA HXA
   go_wp2_with fail
   clear c0 f0
   generalize q1.setCell ⟨wr.heap.size,0,none⟩ (.int .i64 y0)=q1' at K1 ⊢
   have M1:=zAg 2 p B (tkR 1 qs) (tkS 1 qs sa) _ K1.out.lc.rd hB (by decide) HXB.out HRB.out
   obtain ⟨y1,HY1⟩ : ∃ z,Hid (beN (tkB 2 (tkR 1 qs))=z):=⟨_,rfl⟩
   rw [HY1.out] at M1
   refine M1.mono ?_
   rintro e q2 ⟨rfl,r,g⟩
   have l:=K1.out.num r g
   obtain ⟨c0,f0⟩:=zAA l.xb 1 (x:=.int .i64 0) rfl
   have K2:Hid (Lw w wr (q2.setCell ⟨wr.heap.size,1,none⟩ (.int .i64 y1)) p B #[.string ⟨#[]⟩,.int .i64 0,.int .i64 0,.int .i64 0,.slice none 0 0] #[.string z0,.int .i64 z1,.int .i64 (z2 - 1),.int .i64 z3,.slice a k c] (.slice a k c) ms #[.int .i64 y0,.int .i64 y1] (tkR 2 (tkR 1 qs)) (tkS 2 (tkR 1 qs) (tkS 1 qs sa))):=l.setx 1 _
   have HWT:Hid (wtO qs=⟨y0,y1⟩):=by show _=_;unfold wtO nv;rw [HY0.out,HY1.out]
   clear l r g K1 M1 HRB HXB
   go_upto_region 11 with fail
   clear c0 f0
   generalize q2.setCell ⟨wr.heap.size,1,none⟩ (.int .i64 y1)=q2' at K2 ⊢
   have x0:=(zAA K2.out.xb 0 (x:=.int .i64 y0) rfl).1
   have x1:=(zAA K2.out.xb 1 (x:=.int .i64 y1) rfl).1
   have c4:=(zAA K2.out.lc.b 4 (x:=.slice a k c) rfl).1
   have HSZ:Hid (w.heap.size+2≤q2'.heap.size):=K2.out.lc.size
   have KO:OwnW (q2'.alloc (.cells #[.int .i64 y0,.int .i64 y1] 98)) (w.heap.size+2) (.slice a k c) ms:=K2.out.ow.alloc _
   have KL:Hid (Lc w (q2'.alloc (.cells #[.int .i64 y0,.int .i64 y1] 98)) p B 95 #[.string ⟨#[]⟩,.int .i64 0,.int .i64 0,.int .i64 0,.slice none 0 0] #[.string z0,.int .i64 z1,.int .i64 (z2 - 1),.int .i64 z3,.slice a k c] (tkR 2 (tkR 1 qs)) (tkS 2 (tkR 1 qs) (tkS 1 qs sa))):=K2.out.lc.alloc _
   have KR:Hid (RowW (q2'.alloc (.cells #[.int .i64 y0,.int .i64 y1] 98)) (.slice (some ⟨q2'.heap.size,0,none⟩) 1 1) [⟨y0,y1⟩]):=row_one q2' ⟨y0,y1⟩
   clear K2
   go_wp2_with (at_builtin;go_must (refine appW (by rfl) _ _ 93 (by rfl) i0 Tryz.underlying93 hi0 hz0 hz1 hz2 (w.heap.size+2) (q2'.alloc (.cells #[.int .i64 y0,.int .i64 y1] 98)) (q2'.alloc (.cells #[.int .i64 y0,.int .i64 y1] 98)) _ _ ms [⟨y0,y1⟩] (by rfl) KO (Below.refl _ _) (by rw [zAN];have:=HSZ.out;omega) (by rfl) KR.out (by have:=HLN.out;simpa using this) ?_;intro v5 q5 o5 b5 k5;have l5:=KL.out.kept b5.size (fun g hg=>(KO.lt g hg).1) b5 k5;obtain ⟨a5,cap5,rfl⟩:=o5.slice;obtain ⟨s5,f5⟩:=zAA l5.b 4 (x:=.slice a k c) rfl))
   rw [← HWT.out,← HES.out.1,HLK.out] at o5
   have HL6:Hid (Lc w (q5.setCell ⟨w.heap.size+1,4,none⟩ (.slice a5 (k+1) cap5)) p B 95 #[.string ⟨#[]⟩,.int .i64 0,.int .i64 0,.int .i64 0,.slice none 0 0] #[.string z0,.int .i64 z1,.int .i64 (z2 - 1),.int .i64 z3,.slice a5 (k+1) cap5] (itR wtR (k+1) ys) (itS wtR wtS (k+1) ys s0)∧OwnW (q5.setCell ⟨w.heap.size+1,4,none⟩ (.slice a5 (k+1) cap5)) (w.heap.size+2) (.slice a5 (k+1) cap5) (itL wtR wtO (k+1) ys)):=by
    rw [HES.out.2.1,HES.out.2.2]
    exact ⟨l5.set 4 _,o5.kept fun g hg=>zAB (by have:=(o5.lt g hg).1;omega) 4 _⟩
   have hml:ms.length=k:=by rw [← HMS.out];exact zBd _ _ _ _
   simp only [hml]
   exact ⟨⟨k+1,a5,cap5,by omega,by go_num,HL6⟩,by simp [intOf];omega⟩
  ·obtain rfl:k=n:=by omega
   have HQ:=HT.out
   go_upto_region 13 with fail
   obtain ⟨ca0,fa0⟩:=zAA HQ.1.a 0 (x:=.string ⟨#[]⟩) rfl
   have cb0:=(zAA HQ.1.b 0 (x:=.string z0) rfl).1
   obtain ⟨ca1,fa1⟩:=zAA HQ.1.a 1 (x:=.int .i64 0) rfl
   have cb1:=(zAA HQ.1.b 1 (x:=.int .i64 z1) rfl).1
   obtain ⟨ca2,fa2⟩:=zAA HQ.1.a 2 (x:=.int .i64 0) rfl
   have cb2:=(zAA HQ.1.b 2 (x:=.int .i64 (z2 - 1)) rfl).1
   obtain ⟨ca3,fa3⟩:=zAA HQ.1.a 3 (x:=.int .i64 0) rfl
   have cb3:=(zAA HQ.1.b 3 (x:=.int .i64 z3) rfl).1
   obtain ⟨ca4,fa4⟩:=zAA HQ.1.a 4 (x:=.slice none 0 0) rfl
   have cb4:=(zAA HQ.1.b 4 (x:=.slice a k c) rfl).1
   have HFIN:Hid (Lc w (((((wr.setCell ⟨w.heap.size,0,none⟩ (.string z0)).setCell ⟨w.heap.size,1,none⟩ (.int .i64 z1)).setCell ⟨w.heap.size,2,none⟩ (.int .i64 (z2 - 1))).setCell ⟨w.heap.size,3,none⟩ (.int .i64 z3)).setCell ⟨w.heap.size,4,none⟩ (.slice a k c)) p B 95 #[.string z0,.int .i64 z1,.int .i64 (z2 - 1),.int .i64 z3,.slice a k c] #[.string z0,.int .i64 z1,.int .i64 (z2 - 1),.int .i64 z3,.slice a k c] (itR wtR k ys) (itS wtR wtS k ys s0)∧OwnW (((((wr.setCell ⟨w.heap.size,0,none⟩ (.string z0)).setCell ⟨w.heap.size,1,none⟩ (.int .i64 z1)).setCell ⟨w.heap.size,2,none⟩ (.int .i64 (z2 - 1))).setCell ⟨w.heap.size,3,none⟩ (.int .i64 z3)).setCell ⟨w.heap.size,4,none⟩ (.slice a k c)) (w.heap.size+2) (.slice a k c) (itL wtR wtO k ys)) :=
    ⟨HQ.1.far0 0 _ |>.far0 1 _ |>.far0 2 _ |>.far0 3 _ |>.far0 4 _,HQ.2.kept fun g hg=>by have h2:=(HQ.2.lt g hg).1;exact (zAB (by omega) 4 _).trans ((zAB (by omega) 3 _).trans ((zAB (by omega) 2 _).trans ((zAB (by omega) 1 _).trans (zAB (by omega) 0 _))))⟩
   clear HQ HT
   go_wp2_with fail
   generalize (((((wr.setCell ⟨w.heap.size,0,none⟩ (.string z0)).setCell ⟨w.heap.size,1,none⟩ (.int .i64 z1)).setCell ⟨w.heap.size,2,none⟩ (.int .i64 (z2 - 1))).setCell ⟨w.heap.size,3,none⟩ (.int .i64 z3)).setCell ⟨w.heap.size,4,none⟩ (.slice a k c))=wf at HFIN ⊢
   have d0:=(zAA HFIN.out.1.a 0 (x:=.string z0) rfl).1
   have d1:=(zAA HFIN.out.1.a 1 (x:=.int .i64 z1) rfl).1
   have d2:=(zAA HFIN.out.1.a 2 (x:=.int .i64 (z2 - 1)) rfl).1
   have d3:=(zAA HFIN.out.1.a 3 (x:=.int .i64 z3) rfl).1
   have d4:=(zAA HFIN.out.1.a 4 (x:=.slice a k c) rfl).1
   refine bodyPost_ret (v:=.agg #[.string z0,.int .i64 z1,.int .i64 (z2 - 1),.int .i64 z3,.slice a k c]) (by simp [results,Tryz.results105,go_sem,d0,d1,d2,d3,d4]) rfl ⟨.slice a k c,?_,?_,?_,HFIN.out.1.gr⟩
   ·rw [HEO.out];rfl
   ·rw [HEO.out];exact HFIN.out.2.mono (by omega)
   ·rw [HER.out.1,HER.out.2];exact HFIN.out.1.rd
end Go.Proofs.YtakfniknkejgpaaGreatDoor.Ur
namespace Go.Proofs.YtakfniknkejgpaaGreatDoor.Ur
open Go.RowKit Sl By Ap Rr Tb Tw
open Wa (OwnW OwnS clS oneS infoS)
open Lo (LkA uV clL oneL OwnL zAI zAO infoL)
def tb2 (xs:List Int):List Int:=tkR 3 (tkR 4 xs)
def tbA (xs:List Int):List Int:=tkR 1 (tb2 xs)
def tbB (xs:List Int):List Int:=itR lkR (cnt (tb2 xs)) (tbA xs)
def tbC (xs:List Int):List Int:=tkR 1 (tbB xs)
def tbR (xs:List Int):List Int:=itR snR (cnt (tbB xs)) (tbC xs)
def tbO (xs:List Int):Tab:=⟨nv 4 xs,nv 3 (tkR 4 xs),itL lkR lkO (cnt (tb2 xs)) (tbA xs),itL snR snO (cnt (tbB xs)) (tbC xs)⟩
def tbS1 (xs:List Int) (sh:Bool):Bool:=tkS 1 (tb2 xs) (tkS 3 (tkR 4 xs) (tkS 4 xs sh))
def tbS2 (xs:List Int) (sh:Bool):Bool:=tkS 1 (tbB xs) (itS lkR lkS (cnt (tb2 xs)) (tbA xs) (tbS1 xs sh))
def tbS (xs:List Int) (sh:Bool):Bool:=itS snR snS (cnt (tbB xs)) (tbC xs) (tbS2 xs sh)
def Apart (x y:LkA):Prop:=∀ g,(uV x).ownBlock=some g→(uV y).ownBlock ≠ some g
structure Mem (W:World) (B:Nat) (v2 v3:Value) (ms:List LkA) (ss:List Sn):Prop where
 ol:OwnL W B v2 ms
 ow:∀ m ∈ ms,OwnW W B (uV m) m.1.ws
 di:ms.Pairwise Apart
 os:OwnS W B v3 ss
theorem Mem.kept {W W':World} {B:Nat} {v2 v3:Value} {ms:List LkA} {ss:List Sn} (h:Mem W B v2 v3 ms ss) (hk:∀ g,B≤g→g<W.heap.size→W'.heap[g]?=W.heap[g]?):Mem W' B v2 v3 ms ss :=
 ⟨h.ol.kept fun g hg=>hk g (h.ol.lt g hg).1 (h.ol.lt g hg).2,fun m hm=>(h.ow m hm).kept fun g hg=>hk g ((h.ow m hm).lt g hg).1 ((h.ow m hm).lt g hg).2,h.di,h.os.kept fun g hg=>hk g (h.os.lt g hg).1 (h.os.lt g hg).2⟩
structure Tt (w W:World) (p B:Nat) (tm nx:Int) (v2 v3:Value) (ms:List LkA) (ss:List Sn) (xs:List Int) (sh:Bool):Prop where
 lc:Lc w W p B 26 #[.int .i64 0,.int .i64 0,.slice none 0 0,.slice none 0 0] #[.int .i64 tm,.int .i64 nx,v2,v3] xs sh
 me:Mem W (w.heap.size+2) v2 v3 ms ss
section
variable {w W W':World} {p B:Nat} {tm nx:Int} {v2 v3:Value} {ms:List LkA} {ss:List Sn} {xs ys:List Int} {sh sb:Bool}
theorem Lc.drew {t:TypeId} {z cs:Array Value} (h:Lc w W p B t z cs xs sh):Lc w W.drew p B t z cs xs sh:=⟨h.a,h.b,h.rd,⟨h.gr.os,h.gr.tape,h.gr.output,h.gr.size,h.gr.block⟩,h.pl⟩
theorem Tt.drew (h:Tt w W p B tm nx v2 v3 ms ss xs sh):Tt w W.drew p B tm nx v2 v3 ms ss xs sh:=⟨h.lc.drew,h.me.kept fun _ _ _=>rfl⟩
theorem Tt.num (h:Tt w W p B tm nx v2 v3 ms ss xs sh) (r:Rdr B W' p ys sb) (g:W.grownBy W' (some p)):Tt w W' p B tm nx v2 v3 ms ss ys sb :=
 ⟨h.lc.num r g,h.me.kept fun k hk hl=>g.block k hl (by have:=h.lc.pl;simp;omega)⟩
theorem Tt.alloc (h:Tt w W p B tm nx v2 v3 ms ss xs sh) (o:Obj):Tt w (W.alloc o) p B tm nx v2 v3 ms ss xs sh:=⟨h.lc.alloc o,h.me.kept fun _ _ hl=>Below.heap_alloc _ _ _ hl⟩
theorem Tt.c2 (h:Tt w W p B tm nx v2 v3 ms ss xs sh):W.cell? ⟨w.heap.size+1,2,none⟩=some v2:=(zAA h.lc.b 2 (x:=v2) rfl).1
theorem Tt.c3 (h:Tt w W p B tm nx v2 v3 ms ss xs sh):W.cell? ⟨w.heap.size+1,3,none⟩=some v3:=(zAA h.lc.b 3 (x:=v3) rfl).1
end
structure Tn (w W:World) (p B:Nat) (tm nx:Int) (v2 v3:Value) (ms:List LkA) (m:LkA) (ss:List Sn) (xs:List Int) (sh:Bool):Prop where
 tt:Tt w W p B tm nx v2 v3 ms ss xs sh
 nw:OwnW W (w.heap.size+2) (uV m) m.1.ws
 ap:∀ x ∈ ms,Apart x m
section
variable {w W W':World} {p B:Nat} {tm nx:Int} {v2 v3:Value} {ms:List LkA} {m:LkA} {ss:List Sn} {xs ys:List Int} {sh sb:Bool}
theorem Tn.drew (h:Tn w W p B tm nx v2 v3 ms m ss xs sh):Tn w W.drew p B tm nx v2 v3 ms m ss xs sh:=⟨h.tt.drew,h.nw.kept fun _ _=>rfl,h.ap⟩
theorem Tn.alloc (h:Tn w W p B tm nx v2 v3 ms m ss xs sh) (o:Obj):Tn w (W.alloc o) p B tm nx v2 v3 ms m ss xs sh:=⟨h.tt.alloc o,h.nw.alloc o,h.ap⟩
theorem Tn.c2 (h:Tn w W p B tm nx v2 v3 ms m ss xs sh):W.cell? ⟨w.heap.size+1,2,none⟩=some v2:=h.tt.c2
end
structure Td (w W:World) (p B:Nat) (tm nx:Int) (v2 v3 u2 u3:Value) (ms:List LkA) (ss:List Sn) (xs:List Int) (sh:Bool):Prop where
 lc:Lc w W p B 26 #[.int .i64 0,.int .i64 0,.slice none 0 0,.slice none 0 0] #[.int .i64 tm,.int .i64 nx,v2,v3] xs sh
 me:Mem W (w.heap.size+2) u2 u3 ms ss
section
variable {w W W':World} {p B:Nat} {tm nx:Int} {v2 v3 u2 u3:Value} {ms:List LkA} {ss:List Sn} {xs:List Int} {sh:Bool}
theorem Td.c2 (h:Td w W p B tm nx v2 v3 u2 u3 ms ss xs sh):W.cell? ⟨w.heap.size+1,2,none⟩=some v2∧W.frozen? ⟨w.heap.size+1,2,none⟩=false:=zAA h.lc.b 2 (x:=v2) rfl
theorem Td.c3 (h:Td w W p B tm nx v2 v3 u2 u3 ms ss xs sh):W.cell? ⟨w.heap.size+1,3,none⟩=some v3∧W.frozen? ⟨w.heap.size+1,3,none⟩=false:=zAA h.lc.b 3 (x:=v3) rfl
theorem Td.set2 (h:Td w W p B tm nx v2 v3 u2 v3 ms ss xs sh):Tt w (W.setCell ⟨w.heap.size+1,2,none⟩ u2) p B tm nx u2 v3 ms ss xs sh:=⟨h.lc.set 2 u2,h.me.kept fun g hg _=>zAB (by omega) 2 u2⟩
theorem Td.set3 (h:Td w W p B tm nx v2 v3 v2 u3 ms ss xs sh):Tt w (W.setCell ⟨w.heap.size+1,3,none⟩ u3) p B tm nx v2 u3 ms ss xs sh:=⟨h.lc.set 3 u3,h.me.kept fun g hg _=>zAB (by omega) 3 u3⟩
end
theorem pair_snoc {ms:List LkA} {m:LkA} (h:ms.Pairwise Apart) (hm:∀ x ∈ ms,Apart x m):(ms ++ [m]).Pairwise Apart:=by
 rw [List.pairwise_append]
 exact ⟨h,List.pairwise_singleton _ _,fun x hx y hy=>by rw [List.mem_singleton.1 hy];exact hm x hx⟩
theorem zCb {P:Program} {ops:Array Oper} {o:Oper} {a:Act} {K:Act→World→Prop} {Q:Exit→Act→World→Prop} {E:Prop} {i:TypeInfo} (hgd:o.guard=none) (s z:Operand) (t:TypeId) (ho:o.op=.call { callee:=.builtin .append,args:=#[s,z],argTypes:=#[t,t] }) (ht:P.underlying t=some (.slice 95)) (hi:P.info? 95=some i) (hz:i.zero=some (.agg #[.string ⟨#[]⟩,.int .i64 0,.int .i64 0,.int .i64 0,.slice none 0 0]))
 (hsize:i.size=5) (hby:i.bytes=64) (W w:World) (p B:Nat) (tm nx:Int) (v2 v3:Value) (ms:List LkA) (m:LkA) (ss:List Sn) (xs:List Int) (sh:Bool) (hs:a.eval s=v2) (gx:Nat) (hx:a.eval z=.slice (some ⟨gx,0,none⟩) 1 1) (hbx:W.heap[gx]?=some (.cells #[.string m.1.n,.int .i64 m.1.t,.int .i64 m.1.h,.int .i64 m.1.e,.slice m.2.1 m.1.ws.length m.2.2] 95 (0,0)))
 (htb:Tn w W p B tm nx v2 v3 ms m ss xs sh) (hlen:ms.length≤1000000)
 (h:∀ v' w',Td w w' p B tm nx v2 v3 v' v3 (ms ++ [m]) ss xs sh→K (a.put o.dst v') w'):if Region.wanted o (yielded ops a.tmps)=true then Oper.wp P o a W K Q else E:=by
 have hw:Region.wanted o (yielded ops a.tmps)=true:=by simp [Region.wanted,hgd]
 rw [if_pos hw]
 have hol:=htb.tt.me.ol
 have hsz:=htb.tt.lc.size
 obtain ⟨v',w',hr,h2,h3,_,h5⟩:=run_append_own_at (P:=P) W (w.heap.size+2) t o.type 95 i _ 5 64 ht hi hz hsize hby rfl (by decide) v2 ms.length _ hol ⟨gx,0,none⟩ 1 1 (clL m) rfl (by
  intro j u hj
  have e2:(⟨gx,0,none⟩ : Addr).add j=⟨gx,j,none⟩:=by unfold Addr.add;split <;> simp_all
  rw [e2,Joins.cell_of_block hbx,← hj]
  simp [clL,uV]) (oneL m) (by unfold maxLen;omega) (by omega) hsz
 have kp:∀ k,k<W.heap.size→some k ≠ v2.ownBlock→w'.heap[k]?=W.heap[k]?:=fun k hk hn=>h3.block k hk hn
 have hbel:Below (w.heap.size+2) W w':=⟨h3.os,h3.tape,h3.output,h3.size,fun k hk=>kp k (by omega) (fun e=>by have:=(hol.lt k e.symm).1;omega)⟩
 have fw:∀ (u:Value) (ws:List Wt),OwnW W (w.heap.size+2) u ws→OwnW w' (w.heap.size+2) u ws:=fun u ws hu=>hu.kept fun g hg=>kp g (hu.lt g hg).2 fun e=>by
  obtain ⟨c1,e1⟩:=zAI hu hg
  obtain ⟨c2,e2⟩:=zAI hol e.symm
  exact zAO e1 e2 (by decide) rfl
 refine zBq ho hs hx hr (h v' w' ⟨htb.tt.lc.kept h3.size (fun g hg=>(hol.lt g hg).1) hbel kp,⟨by unfold OwnL;rw [List.flatMap_append,List.length_append];simpa using h2,?_,pair_snoc htb.tt.me.di htb.ap,?_⟩⟩)
 ·intro x hx
  rcases List.mem_append.1 hx with hx | hx
  ·exact fw _ _ (htb.tt.me.ow x hx)
  ·rw [List.mem_singleton.1 hx];exact fw _ _ htb.nw
 ·exact htb.tt.me.os.kept fun g hg=>kp g (htb.tt.me.os.lt g hg).2 fun e=>by
   obtain ⟨c1,e1⟩:=zAI htb.tt.me.os hg
   obtain ⟨c2,e2⟩:=zAI hol e.symm
   exact zAO e1 e2 (by decide) rfl
theorem step_sn {P:Program} {ops:Array Oper} {o:Oper} {a:Act} {K:Act→World→Prop} {Q:Exit→Act→World→Prop} {E:Prop} {i:TypeInfo} (hgd:o.guard=none) (s z:Operand) (t:TypeId) (ho:o.op=.call { callee:=.builtin .append,args:=#[s,z],argTypes:=#[t,t] }) (ht:P.underlying t=some (.slice 102)) (hi:P.info? 102=some i) (hz:i.zero=some (.agg #[.int .i64 0,.int .i64 0,.int .i64 0,.int .i64 0,.int .i64 0,.int .i64 0]))
 (hsize:i.size=6) (hby:i.bytes=48) (W w:World) (p B:Nat) (tm nx:Int) (v2 v3:Value) (ms:List LkA) (ss:List Sn) (m:Sn) (xs:List Int) (sh:Bool) (hs:a.eval s=v3) (gx:Nat) (hx:a.eval z=.slice (some ⟨gx,0,none⟩) 1 1) (hbx:W.heap[gx]?=some (.cells #[.int .i64 m.c,.int .i64 m.s,.int .i64 m.k,.int .i64 m.t,.int .i64 m.h,.int .i64 m.e] 102 (0,0)))
 (htb:Tt w W p B tm nx v2 v3 ms ss xs sh) (hlen:ss.length≤1000000)
 (h:∀ v' w',Td w w' p B tm nx v2 v3 v2 v' ms (ss ++ [m]) xs sh→K (a.put o.dst v') w'):if Region.wanted o (yielded ops a.tmps)=true then Oper.wp P o a W K Q else E:=by
 have hw:Region.wanted o (yielded ops a.tmps)=true:=by simp [Region.wanted,hgd]
 rw [if_pos hw]
 have hol:=htb.me.os
 have hsz:=htb.lc.size
 obtain ⟨v',w',hr,h2,h3,_,h5⟩:=run_append_own_at (P:=P) W (w.heap.size+2) t o.type 102 i _ 6 48 ht hi hz hsize hby rfl (by decide) v3 ss.length _ hol ⟨gx,0,none⟩ 1 1 (clS m) rfl (by
  intro j u hj
  have e2:(⟨gx,0,none⟩ : Addr).add j=⟨gx,j,none⟩:=by unfold Addr.add;split <;> simp_all
  rw [e2,Joins.cell_of_block hbx,← hj]
  simp [clS]) (oneS m) (by unfold maxLen;omega) (by omega) hsz
 have kp:∀ k,k<W.heap.size→some k ≠ v3.ownBlock→w'.heap[k]?=W.heap[k]?:=fun k hk hn=>h3.block k hk hn
 have hbel:Below (w.heap.size+2) W w':=⟨h3.os,h3.tape,h3.output,h3.size,fun k hk=>kp k (by omega) (fun e=>by have:=(hol.lt k e.symm).1;omega)⟩
 refine zBq ho hs hx hr (h v' w' ⟨htb.lc.kept h3.size (fun g hg=>(hol.lt g hg).1) hbel kp,⟨?_,?_,htb.me.di,by unfold OwnS;rw [List.flatMap_append,List.length_append];simpa using h2⟩⟩)
 ·exact htb.me.ol.kept fun g hg=>kp g (htb.me.ol.lt g hg).2 fun e=>by
   obtain ⟨c1,e1⟩:=zAI htb.me.ol hg
   obtain ⟨c2,e2⟩:=zAI hol e.symm
   exact zAO e1 e2 (by decide) rfl
 ·intro x hx
  exact (htb.me.ow x hx).kept fun g hg=>kp g ((htb.me.ow x hx).lt g hg).2 fun e=>by
   obtain ⟨c1,e1⟩:=zAI (htb.me.ow x hx) hg
   obtain ⟨c2,e2⟩:=zAI hol e.symm
   exact zAO e1 e2 (by decide) rfl
end Go.Proofs.YtakfniknkejgpaaGreatDoor.Ur
namespace Go.Proofs.YtakfniknkejgpaaGreatDoor.Ur
open Go.RowKit Sl By Ap Rr Tb Tw
open Wa (OwnW OwnS clS oneS infoS)
open Lo (LkA uV clL oneL OwnL zAI zAO infoL)
theorem itR_succ (f:List Int→List Int) (k:Nat) (xs:List Int):itR f (k+1) xs=f (itR f k xs):=rfl
theorem itS_succ (f:List Int→List Int) (g:List Int→Bool→Bool) (k:Nat) (xs:List Int) (sh:Bool):itS f g (k+1) xs sh=g (itR f k xs) (itS f g k xs sh):=rfl
theorem itL_succ {α:Type} (f:List Int→List Int) (o:List Int→α) (k:Nat) (xs:List Int):itL f o (k+1) xs=itL f o k xs ++ [o (itR f k xs)]:=rfl
theorem OwnW.apart {w:World} {B:Nat} {u:Value} {ws:List Wt} (h:OwnW w B u ws) {x:LkA} (hx:∀ g,(uV x).ownBlock=some g→g<B):∀ g,(uV x).ownBlock=some g→u.ownBlock ≠ some g:=fun g hg e=>by
 have:=hx g hg
 have:=(h.lt g e).1
 omega
set_option maxRecDepth 100000 in
set_option maxHeartbeats 1600000 in
theorem takeTable_any (p B:Nat) (xs:List Int) (sh:Bool) (w:World) (h:Rdr B w p xs sh) (hB:B≤p) (hx:xs.length≤70000) (hr:∀ x ∈ xs,0≤x∧x≤255) :
 Calls Tryz.prog 86 #[.pointer (some ⟨p,0,none⟩)] w fun e w'=>∃ u2 u3 ms,e=.returned (tabV (tbO xs).tm (tbO xs).nx u2 u3)∧(ms.map (·.1)=(tbO xs).ls∧Mem w' w.heap.size u2 u3 ms (tbO xs).ss)∧Rdr B w' p (tbR xs) (tbS xs sh)∧w.grownBy w' (some p):=by
 obtain ⟨i0,hi0,hz0,hz1,hz2⟩:=info_parts infoL
 obtain ⟨j0,hj0,hy0,hy1,hy2⟩:=info_parts infoS
 have L0:Hid (Lc w ((w.alloc (.cells #[.int .i64 0,.int .i64 0,.slice none 0 0,.slice none 0 0] 26)).alloc (.cells #[.int .i64 0,.int .i64 0,.slice none 0 0,.slice none 0 0] 26)) p B 26 #[.int .i64 0,.int .i64 0,.slice none 0 0,.slice none 0 0] #[.int .i64 0,.int .i64 0,.slice none 0 0,.slice none 0 0] xs sh):=Lc.start h hB _ _
 have HR0:Hid (∀ x ∈ xs,0≤x∧x≤255):=hr
 have HX0:Hid (xs.length≤70000):=hx
 clear h hr hx
 go_enter Tryz.func86,Tryz.ntmps86
 go_wp2_with fail
 generalize (w.alloc (.cells #[.int .i64 0,.int .i64 0,.slice none 0 0,.slice none 0 0] 26)).alloc (.cells #[.int .i64 0,.int .i64 0,.slice none 0 0,.slice none 0 0] 26)=w0 at L0 ⊢
 have N0:=zAg 4 p B xs sh _ L0.out.rd hB (by decide) HX0.out HR0.out
 have HR1:Hid (∀ x ∈ (tkR 4 xs),0≤x∧x≤255):=zAh HR0.out
 have HX1:Hid (((tkR 4 xs)).length≤70000):=Nat.le_trans (zAu _ _) HX0.out
 obtain ⟨z0,HZ0⟩ : ∃ z,Hid (beN (tkB 4 xs)=z):=⟨_,rfl⟩
 rw [HZ0.out] at N0
 refine N0.mono ?_
 rintro e w1 ⟨rfl,r,g⟩
 have l:=L0.out.num r g
 obtain ⟨c,f⟩:=zAA l.b 0 (x:=.int .i64 0) rfl
 have L1:Hid (Lc w (w1.setCell ⟨w.heap.size+1,0,none⟩ (.int .i64 z0)) p B 26 #[.int .i64 0,.int .i64 0,.slice none 0 0,.slice none 0 0] #[.int .i64 z0,.int .i64 0,.slice none 0 0,.slice none 0 0] (tkR 4 xs) (tkS 4 xs sh)):=l.set 0 _
 clear l r g L0 N0 HR0 HX0
 go_wp2_with fail
 clear c f
 generalize w1.setCell ⟨w.heap.size+1,0,none⟩ (.int .i64 z0)=w1' at L1 ⊢
 have N1:=zAg 3 p B (tkR 4 xs) (tkS 4 xs sh) _ L1.out.rd hB (by decide) HX1.out HR1.out
 have HR2:Hid (∀ x ∈ (tkR 3 (tkR 4 xs)),0≤x∧x≤255):=zAh HR1.out
 have HX2:Hid (((tkR 3 (tkR 4 xs))).length≤70000):=Nat.le_trans (zAu _ _) HX1.out
 obtain ⟨z1,HZ1⟩ : ∃ z,Hid (beN (tkB 3 (tkR 4 xs))=z):=⟨_,rfl⟩
 rw [HZ1.out] at N1
 refine N1.mono ?_
 rintro e w2 ⟨rfl,r,g⟩
 have l:=L1.out.num r g
 obtain ⟨c,f⟩:=zAA l.b 1 (x:=.int .i64 0) rfl
 have L2:Hid (Lc w (w2.setCell ⟨w.heap.size+1,1,none⟩ (.int .i64 z1)) p B 26 #[.int .i64 0,.int .i64 0,.slice none 0 0,.slice none 0 0] #[.int .i64 z0,.int .i64 z1,.slice none 0 0,.slice none 0 0] (tkR 3 (tkR 4 xs)) (tkS 3 (tkR 4 xs) (tkS 4 xs sh))):=l.set 1 _
 clear l r g L1 N1 HR1 HX1
 go_wp2_with fail
 clear c f
 generalize w2.setCell ⟨w.heap.size+1,1,none⟩ (.int .i64 z1)=w2' at L2 ⊢
 have HEO:Hid (tbO xs=⟨z0,z1,itL lkR lkO (cnt (tb2 xs)) (tbA xs),itL snR snO (cnt (tbB xs)) (tbC xs)⟩):=by
  show _=_
  unfold tbO nv
  rw [HZ0.out,HZ1.out]
 have HEB:Hid (tbB xs=itR lkR (cnt (tb2 xs)) (tbA xs)∧tbS2 xs sh=tkS 1 (tbB xs) (itS lkR lkS (cnt (tb2 xs)) (tbA xs) (tbS1 xs sh))):=⟨rfl,rfl⟩
 have HER:Hid (tbR xs=itR snR (cnt (tbB xs)) (tbC xs)∧tbS xs sh=itS snR snS (cnt (tbB xs)) (tbC xs) (tbS2 xs sh)):=⟨rfl,rfl⟩
 have N2:=zAg 1 p B (tb2 xs) (tkS 3 (tkR 4 xs) (tkS 4 xs sh)) _ L2.out.rd hB (by decide) HX2.out HR2.out
 have nb:=zBJ (n:=1) (xs:=tb2 xs) HR2.out
 have hcn:beN (tkB 1 (tb2 xs))=(cnt (tb2 xs):Int):=by unfold cnt nv;unfold nv at nb;omega
 have hc2:cnt (tb2 xs)≤255:=by
  simp only [show ((256:Int) ^ 1)=256 from rfl] at nb
  unfold cnt;omega
 have HRA:Hid (∀ x ∈ tbA xs,0≤x∧x≤255):=zAh HR2.out
 have HXA:Hid ((tbA xs).length≤70000):=Nat.le_trans (zAu _ _) HX2.out
 rw [hcn] at N2
 obtain ⟨n,HNN⟩ : ∃ n,Hid (cnt (tb2 xs)=n):=⟨_,rfl⟩
 obtain ⟨ys,HYS⟩ : ∃ ys,Hid (tbA xs=ys):=⟨_,rfl⟩
 obtain ⟨s0,HS0⟩ : ∃ s0,Hid (tbS1 xs sh=s0):=⟨_,rfl⟩
 rw [HNN.out] at N2 hc2 HEO HEB
 rw [HYS.out] at HEO HEB HRA HXA
 rw [HS0.out] at HEB
 clear nb hcn
 refine N2.mono ?_
 rintro e w3 ⟨rfl,r,g⟩
 have l3:Lc w w3 p B 26 #[.int .i64 0,.int .i64 0,.slice none 0 0,.slice none 0 0] #[.int .i64 z0,.int .i64 z1,.slice none 0 0,.slice none 0 0] (tbA xs) (tbS1 xs sh):=L2.out.num r g
 rw [HYS.out,HS0.out] at l3
 have T3:Hid (Tt w w3 p B z0 z1 (.slice none 0 0) (.slice none 0 0) [] [] ys s0):=⟨l3,⟨World.ownsRow_nil _ _ _ _,fun m hm=>(by cases hm),List.Pairwise.nil,OwnS.nil _ _⟩⟩
 have HRY:Hid (∀ k,∀ x ∈ itR lkR k ys,0≤x∧x≤255):=fun k=>(zCH less_lk k ys).2 HRA.out
 have HXY:Hid (∀ k,(itR lkR k ys).length≤70000):=fun k=>Nat.le_trans (zCH less_lk k ys).1 HXA.out
 clear r g L2 N2 HR2 HX2 l3 HRA HXA HYS HS0 HNN
 go_wp2_with fail
 go_loopw [12] (fun i wr=>∃ (k:Nat) (a:Option Addr) (c:Nat) (ms:List LkA),k≤n∧i=.int .i64 (k:Int)∧Hid (ms.map (·.1)=itL lkR lkO k ys∧Tt w wr p B z0 z1 (.slice a k c) (.slice none 0 0) ms [] (itR lkR k ys) (itS lkR lkS k ys s0))) (fun i _=>n - (intOf i).toNat)
 case atStart=>exact ⟨0,none,0,[],by omega,rfl,rfl,T3.out⟩
 case round =>
  clear T3
  obtain ⟨k,a,c,ms,hk,rfl,HT⟩:=hrel
  by_cases hlt:k<n
  ·have HLM:Hid (ms.length=k):=by
    have:=congrArg List.length HT.out.1
    rw [List.length_map,zBd] at this
    exact this
   have HLN:Hid (ms.length≤1000000):=by show _≤_;rw [HLM.out];omega
   have HTL:Hid (∀ W,Tt w W p B z0 z1 (.slice a k c) (.slice none 0 0) ms [] (itR lkR k ys) (itS lkR lkS k ys s0)→Calls Tryz.prog 105 #[.pointer (some ⟨p,0,none⟩)] W fun e w'=>∃ (ua:Option Addr) (uc:Nat),e=.returned (.agg #[.string (lkO (itR lkR k ys)).n,.int .i64 (lkO (itR lkR k ys)).t,.int .i64 (lkO (itR lkR k ys)).h,.int .i64 (lkO (itR lkR k ys)).e,.slice ua (lkO (itR lkR k ys)).ws.length uc])∧Tn w w' p B z0 z1 (.slice a k c) (.slice none 0 0) ms (lkO (itR lkR k ys),ua,uc) [] (lkR (itR lkR k ys)) (lkS (itR lkR k ys) (itS lkR lkS k ys s0))):=fun W hW=>by
    refine (takeLock_any p B (itR lkR k ys) (itS lkR lkS k ys s0) W hW.lc.rd hB (HXY.out k) (HRY.out k)).mono ?_
    rintro e w' ⟨u,rfl,ou,r,g⟩
    obtain ⟨ua,uc,rfl⟩:=ou.slice
    refine ⟨ua,uc,rfl,hW.num r g,ou.mono hW.lc.size,fun x hx q hq=>?_⟩
    exact OwnW.apart ou (x:=x) (fun g hg=>((hW.me.ow x hx).lt g hg).2) q hq
   have HMP0:∀ (ua:Option Addr) (uc:Nat),(ms ++ [(lkO (itR lkR k ys),ua,uc)]).map (·.1)=itL lkR lkO (k+1) ys:=fun ua uc=>by
    rw [List.map_append,HT.out.1,itL_succ]
    rfl
   obtain ⟨l,HL⟩ : ∃ l,Hid (lkO (itR lkR k ys)=l):=⟨_,rfl⟩
   rw [HL.out] at HTL
   simp only [HL.out] at HMP0
   have HMP:Hid (∀ (ua:Option Addr) (uc:Nat),(ms ++ [(l,ua,uc)]).map (·.1)=itL lkR lkO (k+1) ys):=HMP0
   have t0:=HT.out.2
   have q0:=t0.c2
   have q1:=t0.drew.c2
   clear HT HMP0 HL
   obtain ⟨r1,HR1⟩ : ∃ r1,Hid (lkR (itR lkR k ys)=r1):=⟨_,rfl⟩
   obtain ⟨b1,HB1⟩ : ∃ b1,Hid (lkS (itR lkR k ys) (itS lkR lkS k ys s0)=b1):=⟨_,rfl⟩
   rw [HR1.out,HB1.out] at HTL
   clear HRY HXY HEO HEB HER HZ0 HZ1 hj0 hy0 hy1 hy2 hB
   go_upto_region 6 with fail
   go_region_law
    (first
      | (go_simp;go_at_call 105;(with_reducible refine (HTL.out _ (by first | assumption | exact Tt.drew (by assumption))).mono ?_);rintro e wn ⟨ua,uc,rfl,tn⟩;have qn:=tn.c2;have qa:=fun o=>Tn.c2 (tn.alloc o);have qd:=Tn.c2 tn.drew;try go_simp)
      | (refine zCb (by rfl) _ _ 23 (by rfl) Tryz.underlying23 hi0 hz0 hz1 hz2 _ w p B z0 z1 _ _ ms (l,ua,uc) [] _ _ (by rfl) _ (by rfl) (by first | exact heap_alloc_new _ _ | exact (heap_alloc_new _ _:(World.alloc _ _).drew.heap[_]?=_)) (by first | assumption | exact Tn.drew (by assumption) | exact Tn.alloc (by assumption) _ | exact Tn.drew (Tn.alloc (by assumption) _) | exact Tn.alloc (Tn.drew (by assumption)) _) HLN.out ?_;intro v5 w5 t5;obtain ⟨a5,cap5,rfl⟩:=t5.me.ol.slice;obtain ⟨s5,f5⟩:=t5.c2;try go_simp))
   all_goals
    have hl5:(ms ++ [(l,ua,uc)]).length=k+1:=by rw [List.length_append,HLM.out];rfl
    rw [hl5] at t5
    rw [HLM.out]
    have T5:Hid ((ms ++ [(l,ua,uc)]).map (·.1)=itL lkR lkO (k+1) ys∧Tt w (w5.setCell ⟨w.heap.size+1,2,none⟩ (.slice a5 (k+1) cap5)) p B z0 z1 (.slice a5 (k+1) cap5) (.slice none 0 0) (ms ++ [(l,ua,uc)]) [] r1 b1):=⟨HMP.out ua uc,t5.set2⟩
    clear t5 t0 q0 q1 tn qn qd qa hl5
    go_wp2_with fail
    exact ⟨⟨k+1,a5,cap5,ms ++ [(l,ua,uc)],by omega,by go_num,by rw [itR_succ,itS_succ,HR1.out,HB1.out];exact T5⟩,by simp [intOf];omega⟩
  ·obtain rfl:k=n:=by omega
   have hlm:ms.length=k:=by
    have:=congrArg List.length HT.out.1
    rw [List.length_map,zBd] at this
    exact this
   have HMS:Hid (ms.map (·.1)=itL lkR lkO k ys):=HT.out.1
   have TQ:Hid (Tt w wr p B z0 z1 (.slice a k c) (.slice none 0 0) ms [] (tbB xs) (itS lkR lkS k ys s0)):=by rw [HEB.out.1];exact HT.out.2
   have HRB:Hid (∀ x ∈ tbB xs,0≤x∧x≤255):=by rw [HEB.out.1];exact HRY.out k
   have HXB:Hid ((tbB xs).length≤70000):=by rw [HEB.out.1];exact HXY.out k
   have nb:=zBJ (n:=1) (xs:=tbB xs) HRB.out
   have hcn:beN (tkB 1 (tbB xs))=(cnt (tbB xs):Int):=by unfold cnt nv;unfold nv at nb;omega
   have hc3:cnt (tbB xs)≤255:=by
    simp only [show ((256:Int) ^ 1)=256 from rfl] at nb
    unfold cnt;omega
   have HEC:Hid (tbC xs=tkR 1 (tbB xs)∧tbS2 xs sh=tkS 1 (tbB xs) (itS lkR lkS k ys s0)):=⟨rfl,HEB.out.2⟩
   have N3:=zAg 1 p B (tbB xs) (itS lkR lkS k ys s0) _ TQ.out.lc.rd hB (by decide) HXB.out HRB.out
   have HRC:Hid (∀ x ∈ tbC xs,0≤x∧x≤255):=by rw [HEC.out.1];exact zAh HRB.out
   have HXC:Hid ((tbC xs).length≤70000):=by rw [HEC.out.1];exact Nat.le_trans (zAu _ _) HXB.out
   rw [hcn,← HEC.out.1,← HEC.out.2] at N3
   obtain ⟨n2,HN2⟩ : ∃ n,Hid (cnt (tbB xs)=n):=⟨_,rfl⟩
   obtain ⟨zs,HZS⟩ : ∃ zs,Hid (tbC xs=zs):=⟨_,rfl⟩
   obtain ⟨s1,HS1⟩ : ∃ s1,Hid (tbS2 xs sh=s1):=⟨_,rfl⟩
   rw [HN2.out] at N3 hc3 HEO HER
   rw [HZS.out] at N3 HEO HER HRC HXC
   rw [HS1.out] at N3 HER
   have HRZ:Hid (∀ k,∀ x ∈ itR snR k zs,0≤x∧x≤255):=fun k=>(zCH less_sn k zs).2 HRC.out
   have HXZ:Hid (∀ k,(itR snR k zs).length≤70000):=fun k=>Nat.le_trans (zCH less_sn k zs).1 HXC.out
   clear HT HRY HXY HRB HXB nb hcn HRC HXC HEB HEC
   go_wp2_with fail
   refine N3.mono ?_
   rintro e w5 ⟨rfl,r,g⟩
   have T5:Hid (Tt w w5 p B z0 z1 (.slice a k c) (.slice none 0 0) ms [] zs s1):=TQ.out.num r g
   clear TQ r g N3
   obtain ⟨n,HKN⟩ : ∃ n,Hid (k=n):=⟨_,rfl⟩
   rw [HKN.out] at T5 HMS HEO
   go_wp2_with fail
   go_loopw [24] (fun i wr=>∃ (k:Nat) (a2:Option Addr) (c2:Nat),k≤n2∧i=.int .i64 (k:Int)∧Hid (Tt w wr p B z0 z1 (.slice a n c) (.slice a2 k c2) ms (itL snR snO k zs) (itR snR k zs) (itS snR snS k zs s1))) (fun i _=>n2 - (intOf i).toNat)
   case atStart=>exact ⟨0,none,0,by omega,rfl,T5⟩
   case round =>
    clear T5
    obtain ⟨k,a2,c2,hk2,rfl,HT⟩:=hrel
    by_cases hlt:k<n2
    ·have HLN:Hid ((itL snR snO k zs).length≤1000000):=by show _≤_;rw [zBd];omega
     have HTL:Hid (∀ W,Tt w W p B z0 z1 (.slice a n c) (.slice a2 k c2) ms (itL snR snO k zs) (itR snR k zs) (itS snR snS k zs s1)→Calls Tryz.prog 106 #[.pointer (some ⟨p,0,none⟩)] W fun e w'=>e=.returned (.agg #[.int .i64 (snO (itR snR k zs)).c,.int .i64 (snO (itR snR k zs)).s,.int .i64 (snO (itR snR k zs)).k,.int .i64 (snO (itR snR k zs)).t,.int .i64 (snO (itR snR k zs)).h,.int .i64 (snO (itR snR k zs)).e])∧Tt w w' p B z0 z1 (.slice a n c) (.slice a2 k c2) ms (itL snR snO k zs) (snR (itR snR k zs)) (snS (itR snR k zs) (itS snR snS k zs s1))):=fun W hW=>by
      refine (takeSeen_any p B (itR snR k zs) (itS snR snS k zs s1) W hW.lc.rd hB (HXZ.out k) (HRZ.out k)).mono ?_
      rintro e w' ⟨rfl,r,g⟩
      exact ⟨rfl,hW.num r g⟩
     have HES:Hid (itL snR snO (k+1) zs=itL snR snO k zs ++ [snO (itR snR k zs)]):=itL_succ _ _ _ _
     have HLK:Hid ((itL snR snO k zs ++ [snO (itR snR k zs)]).length=k+1):=by show _=_;rw [List.length_append,zBd];rfl
     have HLM2:Hid ((itL snR snO k zs).length=k):=zBd _ _ _ _
     obtain ⟨m,HM⟩ : ∃ m,Hid (snO (itR snR k zs)=m):=⟨_,rfl⟩
     obtain ⟨r1,HR1⟩ : ∃ r1,Hid (snR (itR snR k zs)=r1):=⟨_,rfl⟩
     obtain ⟨b1,HB1⟩ : ∃ b1,Hid (snS (itR snR k zs) (itS snR snS k zs s1)=b1):=⟨_,rfl⟩
     rw [HM.out] at HTL HES HLK
     rw [HR1.out,HB1.out] at HTL
     have t0:=HT.out
     obtain ⟨ss,HSS⟩ : ∃ ss,Hid (itL snR snO k zs=ss):=⟨_,rfl⟩
     rw [HSS.out] at HTL HES HLK HLN HLM2 t0
     have q0:=t0.c3
     have q1:=t0.drew.c3
     clear HT HM
     clear HRZ HXZ HEO HER HZ0 HZ1 hi0 hz0 hz1 hz2 hB HMS hlm
     go_upto_region 10 with fail
     go_region_law
      (first
        | (go_simp;go_at_call 106;(with_reducible refine (HTL.out _ (by first | assumption | exact Tt.drew (by assumption))).mono ?_);rintro e wn ⟨rfl,tn⟩;have qn:=tn.c3;have qa:=fun o=>Tt.c3 (tn.alloc o);have qd:=Tt.c3 tn.drew;try go_simp)
        | (refine step_sn (by rfl) _ _ 24 (by rfl) Tryz.underlying24 hj0 hy0 hy1 hy2 _ w p B z0 z1 _ _ ms ss m r1 b1 (by rfl) _ (by rfl) (by first | exact heap_alloc_new _ _ | exact (heap_alloc_new _ _:(World.alloc _ _).drew.heap[_]?=_)) (by first | assumption | exact Tt.drew (by assumption) | exact Tt.alloc (by assumption) _ | exact Tt.drew (Tt.alloc (by assumption) _) | exact Tt.alloc (Tt.drew (by assumption)) _) HLN.out ?_;intro v5 w5 t5;obtain ⟨a5,cap5,rfl⟩:=t5.me.os.slice;obtain ⟨s5,f5⟩:=t5.c3;try go_simp))
     all_goals
      rw [HLK.out] at t5
      rw [HLM2.out]
      have T5:Hid (Tt w (w5.setCell ⟨w.heap.size+1,3,none⟩ (.slice a5 (k+1) cap5)) p B z0 z1 (.slice a n c) (.slice a5 (k+1) cap5) ms (ss ++ [m]) r1 b1):=t5.set3
      clear t5 t0 q0 q1 tn qn qd qa
      go_wp2_with fail
      exact ⟨⟨k+1,a5,cap5,by omega,by go_num,by rw [itR_succ,itS_succ,HES.out,HR1.out,HB1.out];exact T5⟩,by simp [intOf];omega⟩
    ·obtain rfl:k=n2:=by omega
     have HQ:=HT.out
     go_upto_region 12 with fail
     obtain ⟨ca0,fa0⟩:=zAA HQ.lc.a 0 (x:=.int .i64 0) rfl
     have cb0:=(zAA HQ.lc.b 0 (x:=.int .i64 z0) rfl).1
     obtain ⟨ca1,fa1⟩:=zAA HQ.lc.a 1 (x:=.int .i64 0) rfl
     have cb1:=(zAA HQ.lc.b 1 (x:=.int .i64 z1) rfl).1
     obtain ⟨ca2,fa2⟩:=zAA HQ.lc.a 2 (x:=.slice none 0 0) rfl
     have cb2:=(zAA HQ.lc.b 2 (x:=.slice a n c) rfl).1
     obtain ⟨ca3,fa3⟩:=zAA HQ.lc.a 3 (x:=.slice none 0 0) rfl
     have cb3:=(zAA HQ.lc.b 3 (x:=.slice a2 k c2) rfl).1
     have HFIN:Hid (Lc w ((((wr.setCell ⟨w.heap.size,0,none⟩ (.int .i64 z0)).setCell ⟨w.heap.size,1,none⟩ (.int .i64 z1)).setCell ⟨w.heap.size,2,none⟩ (.slice a n c)).setCell ⟨w.heap.size,3,none⟩ (.slice a2 k c2)) p B 26 #[.int .i64 z0,.int .i64 z1,.slice a n c,.slice a2 k c2] #[.int .i64 z0,.int .i64 z1,.slice a n c,.slice a2 k c2] (itR snR k zs) (itS snR snS k zs s1)∧Mem ((((wr.setCell ⟨w.heap.size,0,none⟩ (.int .i64 z0)).setCell ⟨w.heap.size,1,none⟩ (.int .i64 z1)).setCell ⟨w.heap.size,2,none⟩ (.slice a n c)).setCell ⟨w.heap.size,3,none⟩ (.slice a2 k c2)) (w.heap.size+2) (.slice a n c) (.slice a2 k c2) ms (itL snR snO k zs)) :=
      ⟨HQ.lc.far0 0 _ |>.far0 1 _ |>.far0 2 _ |>.far0 3 _,HQ.me.kept fun g h2 _=>(zAB (by omega) 3 _).trans ((zAB (by omega) 2 _).trans ((zAB (by omega) 1 _).trans (zAB (by omega) 0 _)))⟩
     clear HQ HT
     go_wp2_with fail
     generalize ((((wr.setCell ⟨w.heap.size,0,none⟩ (.int .i64 z0)).setCell ⟨w.heap.size,1,none⟩ (.int .i64 z1)).setCell ⟨w.heap.size,2,none⟩ (.slice a n c)).setCell ⟨w.heap.size,3,none⟩ (.slice a2 k c2))=wf at HFIN ⊢
     have d0:=(zAA HFIN.out.1.a 0 (x:=.int .i64 z0) rfl).1
     have d1:=(zAA HFIN.out.1.a 1 (x:=.int .i64 z1) rfl).1
     have d2:=(zAA HFIN.out.1.a 2 (x:=.slice a n c) rfl).1
     have d3:=(zAA HFIN.out.1.a 3 (x:=.slice a2 k c2) rfl).1
     refine bodyPost_ret (v:=.agg #[.int .i64 z0,.int .i64 z1,.slice a n c,.slice a2 k c2]) (by simp [results,Tryz.results86,go_sem,d0,d1,d2,d3]) rfl ⟨.slice a n c,.slice a2 k c2,ms,?_,⟨?_,?_⟩,?_,HFIN.out.1.gr⟩
     ·rw [HEO.out];rfl
     ·rw [HEO.out];exact HMS.out
     ·rw [HEO.out]
      have hm:=HFIN.out.2
      exact ⟨hm.ol.mono (by omega),fun m h=>(hm.ow m h).mono (by omega),hm.di,hm.os.mono (by omega)⟩
     ·rw [HER.out.1,HER.out.2];exact HFIN.out.1.rd
end Go.Proofs.YtakfniknkejgpaaGreatDoor.Ur
