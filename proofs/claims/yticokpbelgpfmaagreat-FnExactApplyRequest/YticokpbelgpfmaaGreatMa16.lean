/- Texts put together: Jn, Jo, Jp. -/
import Derived.Test.YticokpbelgpfmaaGreatMa15
namespace Go.Proofs.YticokpbelgpfmaaGreat.Jn
open Go.RowKit By Ap Tb Tw
open Mw (mtext zAi Wr Wr.lt Wr.below Wr.set Wr.cell zAU zAd zAy zAx Mid Mid.refl Mid.trans Mid.set Mid.below)
open Wa (OwnS OwnS.kept OwnS.lt OwnS.slice OwnS.below)
open Lo (LkA uV OwnL OwnL.kept OwnL.lt OwnL.slice zAG zAK clL atL Apart)
open Tx (zAA zAC zAE zAD zAL)
open Jb (OwnO OwnO.kept OwnO.lt)
def MkO (w:World) (g o:Nat) (a q:Nat):Prop:=∀ j,j<q→w.cell? ⟨g,o+j * 2,none⟩=some (.int .i64 ((a+j * 2:Nat):Int))∧w.cell? ⟨g,o+j * 2+1,none⟩=some (.int .i64 ((a+j * 2+1:Nat):Int))
theorem MkO.below {w w':World} {g o a q:Nat} (h:MkO w g o a q) (hg:g<w.heap.size) (hb:Below w.heap.size w w'):MkO w' g o a q:=fun j hj=>⟨(hb.cell (p:=⟨g,_,none⟩) hg).trans (h j hj).1,(hb.cell (p:=⟨g,_,none⟩) hg).trans (h j hj).2⟩
theorem MkO.next {w:World} {g o a q n:Nat} (h:MkO w g o a q) (hw:Wr w g (o+n * 2)) (hq:q<n):MkO ((w.setCell ⟨g,o+q * 2,none⟩ (.int .i64 ((a+q * 2:Nat):Int))).setCell ⟨g,o+q * 2+1,none⟩ (.int .i64 ((a+q * 2+1:Nat):Int))) g o a (q+1):=fun j hj=>by
 by_cases e:j=q
 ·subst e
  exact ⟨(zAd (by omega) _).trans (zAU hw (by omega) _),zAU (hw.set _ _ _) (by omega) _⟩
 ·exact ⟨((zAd (by omega) _).trans (zAd (by omega) _)).trans (h j (by omega)).1,((zAd (by omega) _).trans (zAd (by omega) _)).trans (h j (by omega)).2⟩
set_option maxRecDepth 100000 in
set_option maxHeartbeats 800000 in
theorem markOwnO_any (g o n cap:Nat) (a:Nat) (w:World) (h:Wr w g (o+n * 2)) (hcap:n≤cap) (hn:n≤1048576) (ha:a≤1000000000000000) :
 Calls Tryz.prog 117 #[.slice (some ⟨g,o,none⟩) n cap,.int .i64 a] w fun e w'=>e=.returned (.int .i64 ((a+n * 2:Nat):Int))∧MkO w' g o a n∧Mid g (g+1) w w':=by
 have H:Hid (Wr w g (o+n * 2)):=h
 clear h
 go_enter Tryz.func117,Tryz.ntmps117
 go_wp2_with fail
 go_loopw [1,5] (fun k i wr=>∃ q:Nat,q≤n∧k=.int .i64 ((a+q * 2:Nat):Int)∧i=.int .i64 q∧Hid (Wr wr g (o+n * 2)∧Mid g (g+1) w wr∧MkO wr g o a q)) (fun _ i _=>n - (intOf i).toNat)
 case atStart=>exact ⟨0,by omega,by simp,rfl,H.out,Mid.refl _ _ _,fun j hj=>absurd hj (by omega)⟩
 case round =>
  obtain ⟨q,hq,rfl,rfl,HA⟩:=hrel
  by_cases hlt:q<n
  ·obtain ⟨⟨x0,c0⟩,f0⟩:=HA.out.1.cell (j:=o+q * 2) (by omega)
   obtain ⟨⟨x1,c1⟩,f1⟩:=HA.out.1.cell (j:=o+q * 2+1) (by omega)
   have HK:Hid (MkO ((wr.setCell ⟨g,o+q * 2,none⟩ (.int .i64 ((a+q * 2:Nat):Int))).setCell ⟨g,o+q * 2+1,none⟩ (.int .i64 (((a+q * 2:Nat):Int)+1))) g o a (q+1)):=by
    have h:=HA.out.2.2.next HA.out.1 hlt
    rw [show ((a+q * 2+1:Nat):Int)=((a+q * 2:Nat):Int)+1 by omega] at h
    exact h
   go_wp2_with fail
   exact ⟨⟨q+1,by omega,by go_num,by go_num,(HA.out.1.set _ _ _).set _ _ _,HA.out.2.1.trans ((Mid.set (Nat.le_refl _) (Nat.lt_succ_self _) _ _).trans (Mid.set (Nat.le_refl _) (Nat.lt_succ_self _) _ _)),HK.out⟩,by simp [intOf];omega⟩
  ·obtain rfl:q=n:=by omega
   go_wp2_with fail
   go_ret
   exact ⟨rfl,HA.out.2.2,HA.out.2.1⟩
set_option maxRecDepth 100000 in
set_option maxHeartbeats 800000 in
theorem heldOwnO_any (g o n cap:Nat) (a:Nat) (w:World) (h:MkO w g o a n) (hcap:n≤cap) (hn:n≤1048576) (ha:a≤1000000000000000) :
 Calls Tryz.prog 118 #[.slice (some ⟨g,o,none⟩) n cap,.int .i64 a] w fun e w'=>e=.returned (.int .i64 ((a+n * 2:Nat):Int))∧w'=w:=by
 have H:Hid (MkO w g o a n):=h
 clear h
 go_enter Tryz.func118,Tryz.ntmps118
 go_wp2_with fail
 go_loop [1,5] (fun k i=>∃ q:Nat,q≤n∧k=.int .i64 ((a+q * 2:Nat):Int)∧i=.int .i64 q) (fun _ i=>n - (intOf i).toNat)
 case atStart=>exact ⟨0,by omega,by simp,rfl⟩
 case round =>
  obtain ⟨q,hq,rfl,rfl⟩:=hrel
  by_cases hlt:q<n
  ·obtain ⟨c0,c1⟩:=H.out q hlt
   have e0:(((a+q * 2:Nat):Int) != ((a+q * 2:Nat):Int))=false:=by simp
   have e1:(((a+q * 2+1:Nat):Int) != ((a+q * 2:Nat):Int)+1)=false:=by simp
   go_wp2
   go_round
   case rel=>exact ⟨q+1,by omega,by go_num,by go_num⟩
   case measure=>simp [intOf];omega
  ·obtain rfl:q=n:=by omega
   go_wp2
   go_ret
   exact ⟨rfl,rfl⟩
def Up (W:World) (g a N:Nat):Prop:=∀ i,i<N→W.cell? ⟨g,i,none⟩=some (.int .i64 ((a+i:Nat):Int))
theorem Up.below {W W':World} {g a N:Nat} (h:Up W g a N) (hg:g<W.heap.size) (hb:Below W.heap.size W W'):Up W' g a N:=fun i hi=>(hb.cell (p:=⟨g,i,none⟩) hg).trans (h i hi)
theorem Up.next {W:World} {g a N M:Nat} (h:Up W g a N) (hw:Wr W g M) (hN:N<M):Up (W.setCell ⟨g,N,none⟩ (.int .i64 ((a+N:Nat):Int))) g a (N+1):=fun i hi=>by
 by_cases e:i=N
 ·subst e;exact zAU hw hN _
 ·rw [zAd (fun h=>e h.symm)];exact h i (by omega)
set_option maxRecDepth 100000 in
set_option maxHeartbeats 1600000 in
theorem markSeens_any (g n cap a:Nat) (w:World) (h:Wr w g (n * 6)) (hcap:n≤cap) (hn:n≤1000) (ha:a≤1000000) :
 Calls Tryz.prog 82 #[.slice (some ⟨g,0,none⟩) n cap,.int .i64 a] w fun e w'=>e=.returned (.int .i64 ((a+n * 6:Nat):Int))∧Up w' g a (n * 6)∧Mid g (g+1) w w':=by
 have H:Hid (Wr w g (n * 6)):=h
 clear h
 go_enter Tryz.func82,Tryz.ntmps82
 go_wp2_with fail
 go_loopw [1,5] (fun k i wr=>∃ q:Nat,q≤n∧k=.int .i64 ((a+q * 6:Nat):Int)∧i=.int .i64 q∧Hid (Wr wr g (n * 6)∧Mid g (g+1) w wr∧Up wr g a (q * 6))) (fun _ i _=>n - (intOf i).toNat)
 case atStart=>exact ⟨0,by omega,by simp,rfl,H.out,Mid.refl _ _ _,fun i hi=>absurd hi (by omega)⟩
 case round =>
  obtain ⟨q,hq,rfl,rfl,HA⟩:=hrel
  by_cases hlt:q<n
  ·obtain ⟨⟨x0,c0⟩,f0⟩:=HA.out.1.cell (j:=q * 6) (by omega)
   obtain ⟨⟨x1,c1⟩,f1⟩:=HA.out.1.cell (j:=q * 6+1) (by omega)
   obtain ⟨⟨x2,c2⟩,f2⟩:=HA.out.1.cell (j:=q * 6+2) (by omega)
   obtain ⟨⟨x3,c3⟩,f3⟩:=HA.out.1.cell (j:=q * 6+3) (by omega)
   obtain ⟨⟨x4,c4⟩,f4⟩:=HA.out.1.cell (j:=q * 6+4) (by omega)
   obtain ⟨⟨x5,c5⟩,f5⟩:=HA.out.1.cell (j:=q * 6+5) (by omega)
   have U0:=HA.out.2.2.next HA.out.1 (show q * 6<n * 6 by omega)
   have W0:=HA.out.1.set g (q * 6) (.int .i64 ((a+q * 6:Nat):Int))
   have U1:=U0.next W0 (by omega)
   have W1:=W0.set g (q * 6+1) (.int .i64 ((a+(q * 6+1):Nat):Int))
   have U2:=U1.next W1 (by omega)
   have W2:=W1.set g (q * 6+1+1) (.int .i64 ((a+(q * 6+1+1):Nat):Int))
   have U3:=U2.next W2 (by omega)
   have W3:=W2.set g (q * 6+1+1+1) (.int .i64 ((a+(q * 6+1+1+1):Nat):Int))
   have U4:=U3.next W3 (by omega)
   have W4:=W3.set g (q * 6+1+1+1+1) (.int .i64 ((a+(q * 6+1+1+1+1):Nat):Int))
   have U5:=U4.next W4 (by omega)
   have W5:=W4.set g (q * 6+1+1+1+1+1) (.int .i64 ((a+(q * 6+1+1+1+1+1):Nat):Int))
   have M5:=HA.out.2.1.trans ((Mid.set (w:=wr) (Nat.le_refl g) (Nat.lt_succ_self g) (q * 6) (.int .i64 ((a+q * 6:Nat):Int))).trans ((Mid.set (Nat.le_refl g) (Nat.lt_succ_self g) (q * 6+1) (.int .i64 ((a+(q * 6+1):Nat):Int))).trans ((Mid.set (Nat.le_refl g) (Nat.lt_succ_self g) (q * 6+1+1) (.int .i64 ((a+(q * 6+1+1):Nat):Int))).trans ((Mid.set (Nat.le_refl g) (Nat.lt_succ_self g) (q * 6+1+1+1) (.int .i64 ((a+(q * 6+1+1+1):Nat):Int))).trans ((Mid.set (Nat.le_refl g) (Nat.lt_succ_self g) (q * 6+1+1+1+1) (.int .i64 ((a+(q * 6+1+1+1+1):Nat):Int))).trans (Mid.set (Nat.le_refl g) (Nat.lt_succ_self g) (q * 6+1+1+1+1+1) (.int .i64 ((a+(q * 6+1+1+1+1+1):Nat):Int))))))))
   have HF:Hid (Wr _ g (n * 6)∧Mid g (g+1) w _∧Up _ g a (q * 6+1+1+1+1+1+1)):=⟨W5,M5,U5⟩
   have e1:((a+(q * 6+1):Nat):Int)=((a+q * 6:Nat):Int)+1:=by omega
   have e2:((a+(q * 6+1+1):Nat):Int)=((a+q * 6:Nat):Int)+1+1:=by omega
   have e3:((a+(q * 6+1+1+1):Nat):Int)=((a+q * 6:Nat):Int)+1+1+1:=by omega
   have e4:((a+(q * 6+1+1+1+1):Nat):Int)=((a+q * 6:Nat):Int)+1+1+1+1:=by omega
   have e5:((a+(q * 6+1+1+1+1+1):Nat):Int)=((a+q * 6:Nat):Int)+1+1+1+1+1:=by omega
   rw [e1,e2,e3,e4,e5] at HF
   clear U0 U1 U2 U3 U4 U5 W0 W1 W2 W3 W4 W5 M5 HA e1 e2 e3 e4 e5
   have hb:((a+q * 6:Nat):Int)≤2000000:=by omega
   have hb0:(0:Int)≤((a+q * 6:Nat):Int):=by omega
   have HEN:Hid (((a+(q+1) * 6:Nat):Int)=((a+q * 6:Nat):Int)+1+1+1+1+1+1∧(q+1) * 6=q * 6+1+1+1+1+1+1):=⟨by omega,by omega⟩
   generalize ((a+q * 6:Nat):Int)=z at HF hb hb0 HEN ⊢
   go_wp2_with fail
   exact ⟨⟨q+1,by omega,by rw [HEN.out.1],by go_num,by rw [HEN.out.2];exact HF⟩,by simp [intOf];omega⟩
  ·obtain rfl:q=n:=by omega
   go_wp2_with fail
   go_ret
   exact ⟨rfl,HA.out.2.2,HA.out.2.1⟩
set_option maxRecDepth 100000 in
set_option maxHeartbeats 1600000 in
theorem heldSeens_any (g n cap a:Nat) (w:World) (h:Up w g a (n * 6)) (hcap:n≤cap) (hn:n≤1000) (ha:a≤1000000) :
 Calls Tryz.prog 84 #[.slice (some ⟨g,0,none⟩) n cap,.int .i64 a] w fun e w'=>e=.returned (.int .i64 ((a+n * 6:Nat):Int))∧w=w':=by
 have H:Hid (Up w g a (n * 6)):=h
 clear h
 go_enter Tryz.func84,Tryz.ntmps84
 go_wp2_with fail
 go_loop [1,5] (fun k i=>∃ q:Nat,q≤n∧k=.int .i64 ((a+q * 6:Nat):Int)∧i=.int .i64 q) (fun _ i=>n - (intOf i).toNat)
 case atStart=>exact ⟨0,by omega,by simp,rfl⟩
 case round =>
  obtain ⟨q,hq,rfl,rfl⟩:=hrel
  by_cases hlt:q<n
  ·have c0:=H.out (q * 6) (by omega)
   have c1:=H.out (q * 6+1) (by omega)
   have c2:=H.out (q * 6+2) (by omega)
   have c3:=H.out (q * 6+3) (by omega)
   have c4:=H.out (q * 6+4) (by omega)
   have c5:=H.out (q * 6+5) (by omega)
   rw [show ((a+(q * 6+1):Nat):Int)=((a+q * 6:Nat):Int)+1 by omega] at c1
   rw [show ((a+(q * 6+2):Nat):Int)=((a+q * 6:Nat):Int)+1+1 by omega] at c2
   rw [show ((a+(q * 6+3):Nat):Int)=((a+q * 6:Nat):Int)+1+1+1 by omega] at c3
   rw [show ((a+(q * 6+4):Nat):Int)=((a+q * 6:Nat):Int)+1+1+1+1 by omega] at c4
   rw [show ((a+(q * 6+5):Nat):Int)=((a+q * 6:Nat):Int)+1+1+1+1+1 by omega] at c5
   have hb:((a+q * 6:Nat):Int)≤2000000:=by omega
   have hb0:(0:Int)≤((a+q * 6:Nat):Int):=by omega
   have HEN:Hid (((a+(q+1) * 6:Nat):Int)=((a+q * 6:Nat):Int)+1+1+1+1+1+1):=by show _=_;omega
   generalize ((a+q * 6:Nat):Int)=z at c0 c1 c2 c3 c4 c5 hb hb0 HEN ⊢
   have n0:(z != z)=false:=by simp
   have n1:(z+1 != z+1)=false:=by simp
   have n2:(z+1+1 != z+1+1)=false:=by simp
   have n3:(z+1+1+1 != z+1+1+1)=false:=by simp
   have n4:(z+1+1+1+1 != z+1+1+1+1)=false:=by simp
   have n5:(z+1+1+1+1+1 != z+1+1+1+1+1)=false:=by simp
   go_wp2_with fail
   exact ⟨⟨q+1,by omega,by rw [HEN.out],by go_num⟩,by simp [intOf];omega⟩
  ·obtain rfl:q=n:=by omega
   go_wp2_with fail
   go_ret
   exact ⟨rfl,rfl⟩
end Go.Proofs.YticokpbelgpfmaaGreat.Jn
namespace Go.Proofs.YticokpbelgpfmaaGreat.Jn
open Go.RowKit By Ap Tb Tw
open Mw (mtext zAi Wr Wr.lt Wr.below Wr.set Wr.cell zAU zAd zAy zAx Mid Mid.refl Mid.trans Mid.set Mid.below)
open Wa (OwnS OwnS.kept OwnS.lt OwnS.slice OwnS.below)
open Lo (LkA uV OwnL OwnL.kept OwnL.lt OwnL.slice zAG zAK clL atL Apart)
open Tx (zAA zAC zAE zAD zAL)
open Jb (OwnO OwnO.kept OwnO.lt)
def off (ms:List LkA) (a:Nat):Nat→Nat
 | 0=>a
 | j+1=>off ms a j+4+(ms.getD j (default,none,0)).1.ws.length * 2
theorem off_succ {ms:List LkA} {a j:Nat} {m:LkA} (h:ms[j]?=some m):off ms a (j+1)=off ms a j+4+m.1.ws.length * 2:=by
 show _+_+_=_
 rw [List.getD_eq_getElem?_getD,h]
 rfl
theorem off_le {ms:List LkA} {a:Nat} (hw:∀ m ∈ ms,m.1.ws.length≤1000):∀ j,j≤ms.length→a≤off ms a j∧off ms a j≤a+j * 2004
 | 0,_=>by simp [off]
 | j+1,hj=>by
   obtain ⟨m,hm⟩:=Tw.get_at (show j<ms.length by omega)
   have ih:=off_le (a:=a) hw j (by omega)
   have:=hw m (Tw.zAp hm)
   rw [off_succ hm]
   omega
structure Mt (W:World) (gl:Nat) (ms:List LkA) (a k:Nat):Prop where
 lb:Wr W gl (ms.length * 5)
 u:∀ j m,ms[j]?=some m→W.cell? ⟨gl,j * 5+4,none⟩=some (uV m)
 wr:∀ j m,k≤j→ms[j]?=some m→m.1.ws.length=0 ∨ ∃ g o,m.2.1=some ⟨g,o,none⟩∧g ≠ gl∧m.1.ws.length≤m.2.2∧Wr W g (o+m.1.ws.length * 2)
 di:∀ (i j:Nat) (x y:LkA),i<j→ms[i]?=some x→ms[j]?=some y→∀ g o o',x.2.1=some ⟨g,o,none⟩→y.2.1 ≠ some ⟨g,o',none⟩
 dn:∀ j m,j<k→ms[j]?=some m→(W.cell? ⟨gl,j * 5,none⟩=some (.string (mtext (off ms a j)))∧W.cell? ⟨gl,j * 5+1,none⟩=some (.int .i64 ((off ms a j:Nat)+1))∧W.cell? ⟨gl,j * 5+2,none⟩=some (.int .i64 ((off ms a j:Nat)+1+1))∧W.cell? ⟨gl,j * 5+3,none⟩=some (.int .i64 ((off ms a j:Nat)+1+1+1)))∧(m.1.ws.length=0 ∨ ∃ g o,m.2.1=some ⟨g,o,none⟩∧g ≠ gl∧m.1.ws.length≤m.2.2∧g<W.heap.size∧MkO W g o (off ms a j+4) m.1.ws.length)
theorem Mt.below {W W':World} {gl:Nat} {ms:List LkA} {a k:Nat} (h:Mt W gl ms a k) (hb:Below W.heap.size W W'):Mt W' gl ms a k :=
 ⟨h.lb.below hb,fun j m hj=>(hb.cell (p:=⟨gl,_,none⟩) h.lb.lt).trans (h.u j m hj),fun j m hk hj=>(h.wr j m hk hj).imp id fun ⟨g,o,h1,h2,h3,h4⟩=>⟨g,o,h1,h2,h3,h4.below hb⟩,h.di,fun j m hk hj=>by
   obtain ⟨⟨c0,c1,c2,c3⟩,hw⟩:=h.dn j m hk hj
   exact ⟨⟨(hb.cell (p:=⟨gl,_,none⟩) h.lb.lt).trans c0,(hb.cell (p:=⟨gl,_,none⟩) h.lb.lt).trans c1,(hb.cell (p:=⟨gl,_,none⟩) h.lb.lt).trans c2,(hb.cell (p:=⟨gl,_,none⟩) h.lb.lt).trans c3⟩,hw.imp id fun ⟨g,o,h1,h2,h3,h4,h5⟩=>⟨g,o,h1,h2,h3,Nat.lt_of_lt_of_le h4 hb.size,h5.below h4 hb⟩⟩⟩
theorem MkO.far {W:World} {g o a q p i:Nat} {v:Value} (h:MkO W g o a q) (hne:g ≠ p):MkO (W.setCell ⟨p,i,none⟩ v) g o a q:=fun j hj =>
 ⟨(World.cell?_of_block (a:=⟨g,_,none⟩) (zAE hne i v)).trans (h j hj).1,(World.cell?_of_block (a:=⟨g,_,none⟩) (zAE hne i v)).trans (h j hj).2⟩
theorem Mt.set {W:World} {gl:Nat} {ms:List LkA} {a k:Nat} (h:Mt W gl ms a k) (i:Nat) (hi:i<4) (v:Value):Mt (W.setCell ⟨gl,k * 5+i,none⟩ v) gl ms a k :=
 ⟨h.lb.set _ _ _,fun j m hj=>(zAd (by omega) v).trans (h.u j m hj),fun j m hk hj=>(h.wr j m hk hj).imp id fun ⟨g,o,h1,h2,h3,h4⟩=>⟨g,o,h1,h2,h3,h4.set _ _ _⟩,h.di,fun j m hk hj=>by
   obtain ⟨⟨c0,c1,c2,c3⟩,hw⟩:=h.dn j m hk hj
   exact ⟨⟨(zAd (by omega) v).trans c0,(zAd (by omega) v).trans c1,(zAd (by omega) v).trans c2,(zAd (by omega) v).trans c3⟩,hw.imp id fun ⟨g,o,h1,h2,h3,h4,h5⟩=>⟨g,o,h1,h2,h3,by simpa using h4,MkO.far h5 h2⟩⟩⟩
structure Cg (gl:Nat) (ms:List LkA) (w w':World):Prop where
 os:w'.os=w.os
 tape:w'.tape=w.tape
 output:w'.output=w.output
 size:w.heap.size≤w'.heap.size
 block:∀ k,k<w.heap.size→k ≠ gl→(∀ m ∈ ms,∀ o,m.2.1 ≠ some ⟨k,o,none⟩)→w'.heap[k]?=w.heap[k]?
theorem Cg.refl (gl:Nat) (ms:List LkA) (w:World):Cg gl ms w w:=⟨rfl,rfl,rfl,Nat.le_refl _,fun _ _ _ _=>rfl⟩
theorem Cg.below {gl:Nat} {ms:List LkA} {w w1 w2:World} (h:Cg gl ms w w1) (hb:Below w1.heap.size w1 w2):Cg gl ms w w2 :=
 ⟨hb.os.trans h.os,hb.tape.trans h.tape,hb.output.trans h.output,Nat.le_trans h.size hb.size,fun k hk h1 h2=>(hb.block k (Nat.lt_of_lt_of_le hk h.size)).trans (h.block k hk h1 h2)⟩
theorem Cg.set {gl:Nat} {ms:List LkA} {w w1:World} (h:Cg gl ms w w1) (i:Nat) (v:Value):Cg gl ms w (w1.setCell ⟨gl,i,none⟩ v) :=
 ⟨h.os,h.tape,h.output,by simpa using h.size,fun k hk h1 h2=>(zAE h1 i v).trans (h.block k hk h1 h2)⟩
theorem Cg.mid {gl g o:Nat} {ms:List LkA} {w w1 w2:World} {m:LkA} (h:Cg gl ms w w1) (hm:m ∈ ms) (hg:m.2.1=some ⟨g,o,none⟩) (hb:Mid g (g+1) w1 w2):Cg gl ms w w2 :=
 ⟨hb.os.trans h.os,hb.tape.trans h.tape,hb.output.trans h.output,Nat.le_trans h.size hb.size,fun k hk h1 h2=>(hb.block k (Nat.lt_of_lt_of_le hk h.size) (by have:k ≠ g:=fun e=>h2 m hm o (by rw [hg,e]);omega)).trans (h.block k hk h1 h2)⟩
theorem Mt.stepN {W:World} {gl:Nat} {ms:List LkA} {a k:Nat} {m:LkA} (h:Mt W gl ms a k) (hm:ms[k]?=some m) (h0:m.1.ws.length=0)
 (c0:W.cell? ⟨gl,k * 5,none⟩=some (.string (mtext (off ms a k)))) (c1:W.cell? ⟨gl,k * 5+1,none⟩=some (.int .i64 ((off ms a k:Nat)+1))) (c2:W.cell? ⟨gl,k * 5+2,none⟩=some (.int .i64 ((off ms a k:Nat)+1+1))) (c3:W.cell? ⟨gl,k * 5+3,none⟩=some (.int .i64 ((off ms a k:Nat)+1+1+1))):Mt W gl ms a (k+1) :=
 ⟨h.lb,h.u,fun j x hk hj=>h.wr j x (by omega) hj,h.di,fun j x hk hj=>by
   by_cases e:j=k
   ·subst e
    rw [hm] at hj
    cases hj
    exact ⟨⟨c0,c1,c2,c3⟩,.inl h0⟩
   ·exact h.dn j x (by omega) hj⟩
theorem Mt.stepS {W W':World} {gl g o:Nat} {ms:List LkA} {a k:Nat} {m:LkA} (h:Mt W gl ms a k) (hm:ms[k]?=some m) (hg:m.2.1=some ⟨g,o,none⟩) (hne:g ≠ gl) (hc:m.1.ws.length≤m.2.2) (hlt:g<W.heap.size) (hb:Mid g (g+1) W W') (hk:MkO W' g o (off ms a k+4) m.1.ws.length)
 (c0:W.cell? ⟨gl,k * 5,none⟩=some (.string (mtext (off ms a k)))) (c1:W.cell? ⟨gl,k * 5+1,none⟩=some (.int .i64 ((off ms a k:Nat)+1))) (c2:W.cell? ⟨gl,k * 5+2,none⟩=some (.int .i64 ((off ms a k:Nat)+1+1))) (c3:W.cell? ⟨gl,k * 5+3,none⟩=some (.int .i64 ((off ms a k:Nat)+1+1+1))):Mt W' gl ms a (k+1):=by
 have hl:=h.lb.lt
 have kb:∀ x,x<W.heap.size→x ≠ g→W'.heap[x]?=W.heap[x]?:=fun x hx hn=>hb.block x hx (by omega)
 have kc:∀ x i v,x<W.heap.size→x ≠ g→W.cell? ⟨x,i,none⟩=some v→W'.cell? ⟨x,i,none⟩=some v:=fun x i v hx hn hv=>(World.cell?_of_block (a:=⟨x,i,none⟩) (kb x hx hn)).trans hv
 have kw:∀ x n,x ≠ g→Wr W x n→Wr W' x n:=fun x n hn hw=>by
  obtain ⟨A,t,h1,h2⟩:=hw
  exact ⟨A,t,(kb x (Array.getElem?_eq_some_iff.1 h1).1 hn).trans h1,h2⟩
 refine ⟨kw gl _ (Ne.symm hne) h.lb,fun j x hj=>kc gl _ _ hl (Ne.symm hne) (h.u j x hj),fun j x hk' hj=>(h.wr j x (by omega) hj).imp id fun ⟨g',o',h1,h2,h3,h4⟩=>⟨g',o',h1,h2,h3,kw g' _ (fun e=>h.di k j m x (by omega) hm hj g o o' hg (by rw [h1,e])) h4⟩,h.di,fun j x hk' hj=>?_⟩
 by_cases e:j=k
 ·subst e
  rw [hm] at hj
  cases hj
  exact ⟨⟨kc gl _ _ hl (Ne.symm hne) c0,kc gl _ _ hl (Ne.symm hne) c1,kc gl _ _ hl (Ne.symm hne) c2,kc gl _ _ hl (Ne.symm hne) c3⟩,.inr ⟨g,o,hg,hne,hc,Nat.lt_of_lt_of_le hlt hb.size,hk⟩⟩
 ·obtain ⟨⟨d0,d1,d2,d3⟩,hw⟩:=h.dn j x (by omega) hj
  refine ⟨⟨kc gl _ _ hl (Ne.symm hne) d0,kc gl _ _ hl (Ne.symm hne) d1,kc gl _ _ hl (Ne.symm hne) d2,kc gl _ _ hl (Ne.symm hne) d3⟩,hw.imp id fun ⟨g',o',h1,h2,h3,h4,h5⟩=>⟨g',o',h1,h2,h3,Nat.lt_of_lt_of_le h4 hb.size,fun q hq=>?_⟩⟩
  have hn:g' ≠ g:=fun e=>h.di j k x m (by omega) hj hm g' o' o h1 (by rw [hg,e])
  exact ⟨kc g' _ _ h4 hn (h5 q hq).1,kc g' _ _ h4 hn (h5 q hq).2⟩
set_option maxRecDepth 100000 in
set_option maxHeartbeats 3200000 in
theorem markLocks_any (gl cap:Nat) (ms:List LkA) (a:Nat) (w:World) (h:Mt w gl ms a 0) (hn:ms.length≤1000) (hw:∀ m ∈ ms,m.1.ws.length≤1000) (ha:0<a) (ha2:a≤1000) :
 Calls Tryz.prog 81 #[.slice (some ⟨gl,0,none⟩) ms.length cap,.int .i64 a] w fun e w'=>e=.returned (.int .i64 (off ms a ms.length:Nat))∧Mt w' gl ms a ms.length∧Cg gl ms w w':=by
 have H:Hid (Mt w gl ms a 0):=h
 have HO:Hid (∀ j,j≤ms.length→a≤off ms a j∧off ms a j≤a+j * 2004):=off_le hw
 have HW:Hid (∀ m ∈ ms,m.1.ws.length≤1000):=hw
 clear h hw
 go_enter Tryz.func81,Tryz.ntmps81
 go_wp2_with fail
 go_loopw [1,5] (fun k i wr=>∃ q:Nat,q≤ms.length∧k=.int .i64 (off ms a q:Nat)∧i=.int .i64 q∧Hid (Mt wr gl ms a q∧Cg gl ms w wr)) (fun _ i _=>ms.length - (intOf i).toNat)
 case atStart=>exact ⟨0,by omega,rfl,rfl,H.out,Cg.refl _ _ _⟩
 case round =>
  obtain ⟨q,hq,rfl,rfl,HA⟩:=hrel
  by_cases hlt:q<ms.length
  ·obtain ⟨m,hm⟩:=Tw.get_at hlt
   have ho:=HO.out q hq
   have HM:Hid (ms[q]?=some m):=hm
   have HES:Hid (off ms a (q+1)=off ms a q+4+m.1.ws.length * 2):=off_succ hm
   have HWM:Hid (m.1.ws.length≤1000):=HW.out m (Tw.zAp hm)
   have HTX:Hid (∀ W,Calls Tryz.prog 86 #[.int .i64 (off ms a q:Nat)] W fun e w'=>e=.returned (.string (mtext (off ms a q)))∧Below W.heap.size W w'):=fun W=>zAi (off ms a q) W (by omega) (by omega)
   clear hm
   go_wp2_with fail
   refine (HTX.out _).mono ?_
   rintro e w2 ⟨rfl,b2⟩
   have HB:Hid (Mt w2 gl ms a q∧Cg gl ms w w2):=⟨HA.out.1.below b2,HA.out.2.below b2⟩
   clear b2 HA
   obtain ⟨⟨x0,c0⟩,f0⟩:=HB.out.1.lb.cell (j:=q * 5) (by omega)
   obtain ⟨⟨x1,c1⟩,f1⟩:=HB.out.1.lb.cell (j:=q * 5+1) (by omega)
   obtain ⟨⟨x2,c2⟩,f2⟩:=HB.out.1.lb.cell (j:=q * 5+2) (by omega)
   obtain ⟨⟨x3,c3⟩,f3⟩:=HB.out.1.lb.cell (j:=q * 5+3) (by omega)
   have c4:=HB.out.1.u q m HM.out
   obtain ⟨o,HOO⟩ : ∃ o,Hid (off ms a q=o):=⟨_,rfl⟩
   obtain ⟨mt,HMT⟩ : ∃ mt,Hid (mtext (off ms a q)=mt):=⟨_,rfl⟩
   rw [HMT.out]
   rw [HOO.out] at ho ⊢
   have HC:Hid (Mt ((((w2.setCell ⟨gl,q * 5,none⟩ (.string mt)).setCell ⟨gl,q * 5+1,none⟩ (.int .i64 ((o:Int)+1))).setCell ⟨gl,q * 5+2,none⟩ (.int .i64 ((o:Int)+1+1))).setCell ⟨gl,q * 5+3,none⟩ (.int .i64 ((o:Int)+1+1+1))) gl ms a q∧Cg gl ms w ((((w2.setCell ⟨gl,q * 5,none⟩ (.string mt)).setCell ⟨gl,q * 5+1,none⟩ (.int .i64 ((o:Int)+1))).setCell ⟨gl,q * 5+2,none⟩ (.int .i64 ((o:Int)+1+1))).setCell ⟨gl,q * 5+3,none⟩ (.int .i64 ((o:Int)+1+1+1)))
    ∧ (((((w2.setCell ⟨gl,q * 5,none⟩ (.string mt)).setCell ⟨gl,q * 5+1,none⟩ (.int .i64 ((o:Int)+1))).setCell ⟨gl,q * 5+2,none⟩ (.int .i64 ((o:Int)+1+1))).setCell ⟨gl,q * 5+3,none⟩ (.int .i64 ((o:Int)+1+1+1))).cell? ⟨gl,q * 5,none⟩=some (.string mt)∧((((w2.setCell ⟨gl,q * 5,none⟩ (.string mt)).setCell ⟨gl,q * 5+1,none⟩ (.int .i64 ((o:Int)+1))).setCell ⟨gl,q * 5+2,none⟩ (.int .i64 ((o:Int)+1+1))).setCell ⟨gl,q * 5+3,none⟩ (.int .i64 ((o:Int)+1+1+1))).cell? ⟨gl,q * 5+1,none⟩=some (.int .i64 ((o:Int)+1))∧((((w2.setCell ⟨gl,q * 5,none⟩ (.string mt)).setCell ⟨gl,q * 5+1,none⟩ (.int .i64 ((o:Int)+1))).setCell ⟨gl,q * 5+2,none⟩ (.int .i64 ((o:Int)+1+1))).setCell ⟨gl,q * 5+3,none⟩ (.int .i64 ((o:Int)+1+1+1))).cell? ⟨gl,q * 5+2,none⟩=some (.int .i64 ((o:Int)+1+1))∧((((w2.setCell ⟨gl,q * 5,none⟩ (.string mt)).setCell ⟨gl,q * 5+1,none⟩ (.int .i64 ((o:Int)+1))).setCell ⟨gl,q * 5+2,none⟩ (.int .i64 ((o:Int)+1+1))).setCell ⟨gl,q * 5+3,none⟩ (.int .i64 ((o:Int)+1+1+1))).cell? ⟨gl,q * 5+3,none⟩=some (.int .i64 ((o:Int)+1+1+1)))):=by
    have hl:=HB.out.1.lb
    refine ⟨(((HB.out.1.set 0 (by decide) _).set 1 (by decide) _).set 2 (by decide) _).set 3 (by decide) _,(((HB.out.2.set _ _).set _ _).set _ _).set _ _,?_,?_,?_,?_⟩
    ·rw [zAd (by omega),zAd (by omega),zAd (by omega)];exact zAU hl (by omega) _
    ·rw [zAd (by omega),zAd (by omega)];exact zAU (hl.set _ _ _) (by omega) _
    ·rw [zAd (by omega)];exact zAU ((hl.set _ _ _).set _ _ _) (by omega) _
    ·exact zAU (((hl.set _ _ _).set _ _ _).set _ _ _) (by omega) _
   clear HB
   have c4':Hid (w2.cell? ⟨gl,q * 5+4,none⟩=some (uV m)):=c4
   unfold uV at c4
   go_wp2_with fail
   generalize ((((w2.setCell ⟨gl,q * 5,none⟩ (.string mt)).setCell ⟨gl,q * 5+1,none⟩ (.int .i64 ((o:Int)+1))).setCell ⟨gl,q * 5+2,none⟩ (.int .i64 ((o:Int)+1+1))).setCell ⟨gl,q * 5+3,none⟩ (.int .i64 ((o:Int)+1+1+1)))=w3 at HC ⊢
   have ER:Hid ((o:Int)+1+1+1+1=((o+4:Nat):Int)):=by show _=_;omega
   rw [ER.out]
   have HMW:Hid (Calls Tryz.prog 117 #[.slice m.2.1 m.1.ws.length m.2.2,.int .i64 ((o+4:Nat):Int)] w3 fun e w'=>e=.returned (.int .i64 ((o+4+m.1.ws.length * 2:Nat):Int))∧Mt w' gl ms a (q+1)∧Cg gl ms w w'):=by
    obtain ⟨hT,hC,d0,d1,d2,d3⟩:=HC.out
    rw [← HMT.out] at d0
    rw [← HOO.out] at d1 d2 d3
    by_cases h0:m.1.ws.length=0
    ·rw [h0]
     refine (zAy (o+4) m.2.1 m.2.2 w3).mono ?_
     rintro e w' ⟨rfl,e2⟩
     rw [e2]
     exact ⟨by simp,hT.stepN HM.out h0 d0 d1 d2 d3,hC⟩
    ·obtain ⟨g,o1,hg,hne,hc,hwr⟩:=(hT.wr q m (Nat.le_refl _) HM.out).resolve_left h0
     rw [hg]
     refine (markOwnO_any g o1 m.1.ws.length m.2.2 (o+4) w3 hwr hc (by have:=HWM.out;omega) (by omega)).mono ?_
     rintro e w' ⟨rfl,hk,hm⟩
     rw [← HOO.out] at hk
     exact ⟨rfl,hT.stepS HM.out hg hne hc hwr.lt hm hk d0 d1 d2 d3,hC.mid (Tw.zAp HM.out) hg hm⟩
   clear HC c0 c1 c2 c3 c4 f0 f1 f2 f3 c4'
   refine HMW.out.mono ?_
   rintro e w4 ⟨rfl,m4,g4⟩
   have HF:Hid (Mt w4 gl ms a (q+1)∧Cg gl ms w w4):=⟨m4,g4⟩
   have HEQ:Hid (((o+4+m.1.ws.length * 2:Nat):Int)=(off ms a (q+1):Nat)):=by show _=_;rw [HES.out,HOO.out]
   rw [HEQ.out]
   clear m4 g4 HMW
   go_wp2_with fail
   exact ⟨⟨q+1,by omega,rfl,by go_num,HF⟩,by simp [intOf];omega⟩
  ·obtain rfl:q=ms.length:=by omega
   go_wp2_with fail
   go_ret
   exact ⟨rfl,HA.out⟩
end Go.Proofs.YticokpbelgpfmaaGreat.Jn
namespace Go.Proofs.YticokpbelgpfmaaGreat.Jn
open Go.RowKit By Ap Tb Tw
open Mw (mtext zAi Wr Wr.lt Wr.below Wr.set Wr.cell zAU zAd zAy zAx Mid Mid.refl Mid.trans Mid.set Mid.below)
open Wa (OwnS OwnS.kept OwnS.lt OwnS.slice OwnS.below)
open Lo (LkA uV OwnL OwnL.kept OwnL.lt OwnL.slice zAG zAK clL atL Apart)
open Tx (zAA zAC zAE zAD zAL)
open Jb (OwnO OwnO.kept OwnO.lt)
set_option maxRecDepth 100000 in
set_option maxHeartbeats 3200000 in
theorem heldLocks_any (gl cap:Nat) (ms:List LkA) (a:Nat) (w:World) (h:Mt w gl ms a ms.length) (hn:ms.length≤1000) (hw:∀ m ∈ ms,m.1.ws.length≤1000) (ha:0<a) (ha2:a≤1000) :
 Calls Tryz.prog 83 #[.slice (some ⟨gl,0,none⟩) ms.length cap,.int .i64 a] w fun e w'=>e=.returned (.int .i64 (off ms a ms.length:Nat))∧Below w.heap.size w w':=by
 have H:Hid (Mt w gl ms a ms.length):=h
 have HO:Hid (∀ j,j≤ms.length→a≤off ms a j∧off ms a j≤a+j * 2004):=off_le hw
 have HW:Hid (∀ m ∈ ms,m.1.ws.length≤1000):=hw
 clear h hw
 go_enter Tryz.func83,Tryz.ntmps83
 go_wp2_with fail
 go_loopw [1,5] (fun k i wr=>∃ q:Nat,q≤ms.length∧k=.int .i64 (off ms a q:Nat)∧i=.int .i64 q∧Below w.heap.size w wr) (fun _ i _=>ms.length - (intOf i).toNat)
 case atStart=>exact ⟨0,by omega,rfl,rfl,Below.refl _ _⟩
 case round =>
  obtain ⟨q,hq,rfl,rfl,hbel⟩:=hrel
  by_cases hlt:q<ms.length
  ·obtain ⟨m,hm⟩:=Tw.get_at hlt
   have ho:=HO.out q hq
   have HES:Hid (off ms a (q+1)=off ms a q+4+m.1.ws.length * 2):=off_succ hm
   have HWM:Hid (m.1.ws.length≤1000):=HW.out m (Tw.zAp hm)
   have HTX:Hid (∀ W,Calls Tryz.prog 86 #[.int .i64 (off ms a q:Nat)] W fun e w'=>e=.returned (.string (mtext (off ms a q)))∧Below W.heap.size W w'):=fun W=>zAi (off ms a q) W (by omega) (by omega)
   have HCL:Hid (∀ W,Below w.heap.size w W→(W.cell? ⟨gl,q * 5,none⟩=some (.string (mtext (off ms a q)))∧W.cell? ⟨gl,q * 5+1,none⟩=some (.int .i64 ((off ms a q:Nat)+1))∧W.cell? ⟨gl,q * 5+2,none⟩=some (.int .i64 ((off ms a q:Nat)+1+1))∧W.cell? ⟨gl,q * 5+3,none⟩=some (.int .i64 ((off ms a q:Nat)+1+1+1))∧W.cell? ⟨gl,q * 5+4,none⟩=some (.slice m.2.1 m.1.ws.length m.2.2))):=fun W hW=>by
    have hT:=H.out.below hW
    obtain ⟨⟨d0,d1,d2,d3⟩,_⟩:=hT.dn q m hlt hm
    exact ⟨d0,d1,d2,d3,hT.u q m hm⟩
   have HHW:Hid (∀ W,Below w.heap.size w W→Calls Tryz.prog 118 #[.slice m.2.1 m.1.ws.length m.2.2,.int .i64 ((off ms a q+4:Nat):Int)] W fun e w'=>e=.returned (.int .i64 ((off ms a (q+1):Nat):Int))∧w'=W):=fun W hW=>by
    have hT:=H.out.below hW
    obtain ⟨_,hk⟩:=hT.dn q m hlt hm
    rw [HES.out]
    by_cases h0:m.1.ws.length=0
    ·rw [h0]
     refine (zAx (off ms a q+4) m.2.1 m.2.2 W).mono ?_
     rintro e w' ⟨rfl,e2⟩
     exact ⟨by simp,e2⟩
    ·obtain ⟨g,o1,hg,hne,hc,hl,hk⟩:=hk.resolve_left h0
     rw [hg]
     exact heldOwnO_any g o1 m.1.ws.length m.2.2 (off ms a q+4) W hk hc (by have:=HWM.out;omega) (by omega)
   have hnn:¬ ((off ms a (q+1):Nat):Int)<0:=by omega
   obtain ⟨o,HOO⟩ : ∃ o,Hid (off ms a q=o):=⟨_,rfl⟩
   obtain ⟨o2,HO2⟩ : ∃ o2,Hid (off ms a (q+1)=o2):=⟨_,rfl⟩
   obtain ⟨mt,HMT⟩ : ∃ mt,Hid (mtext (off ms a q)=mt):=⟨_,rfl⟩
   rw [HMT.out] at HTX HCL
   rw [HOO.out] at ho HTX HCL HHW ⊢
   rw [HO2.out] at HHW hnn
   clear hm HES HWM
   have ER:Hid ((o:Int)+1+1+1+1=((o+4:Nat):Int)):=by show _=_;omega
   have hne:(mt.toList == mt.toList)=true:=by simp
   have n1:(((o:Int)+1) != (o:Int)+1)=false:=by simp
   have n2:(((o:Int)+1+1) != (o:Int)+1+1)=false:=by simp
   have n3:(((o:Int)+1+1+1) != (o:Int)+1+1+1)=false:=by simp
   have hp0:(0:Int)≤(q:Int):=by omega
   have hp1:(q:Int)<(ms.length:Int):=by omega
   obtain ⟨hc0,_,_,_,_⟩:=HCL.out wr hbel
   go_wp2
   go_region_with (go_at_call 86;refine (HTX.out _).mono ?_;rintro e w2 ⟨rfl,b2⟩;have b3:Below wr.heap.size wr w2:=(ordB rfl b2).1;have B2:Below w.heap.size w w2:=hbel.trans (b3.mono hbel.size);obtain ⟨c0,c1,c2,c3,c4⟩:=HCL.out w2 B2;clear b2 b3)
   all_goals
    go_wp2_with fail
    rw [ER.out]
    refine (HHW.out _ B2).mono ?_
    rintro e w4 ⟨rfl,e4⟩
    rw [e4]
    go_wp2_with fail
    exact ⟨⟨q+1,by omega,by rw [HO2.out],by go_num,B2⟩,by simp [intOf];omega⟩
  ·obtain rfl:q=ms.length:=by omega
   go_wp2_with fail
   go_ret
   exact ⟨rfl,hbel⟩
end Go.Proofs.YticokpbelgpfmaaGreat.Jn
