/- Texts put together: ShaX, Er, Hm. -/
import Derived.Test.YtakfniknkejgpaaGreatDoorMi1
import Derived.Test.YtakfniknkejgpaaGreatDoorChecked
import Derived.Below
import Derived.LaidEql
import Derived.Stop.Asserts
import Derived.RowKitTokens
import Derived.Deep.Cut
import Derived.Lib.SmallJoins
import Derived.RowKit
import Derived.Test.YtakfniknkejgpaaGreatDoorCards
import Derived.Test.YtakfniknkejgpaaGreatDoorTie
import Derived.LaidMore
import Derived.OpenShut
import Derived.OpenVars
import Derived.Stop.Joined
import Derived.Stop.LaidErr
import Derived.ShutString
import Derived.Lib.LaidTab
namespace Go.Proofs.YtakfniknkejgpaaGreatDoor.Sh
open Go.RowKit Sl Me
def arr8 (r:R8):Array Value:=#[.int .u32 (nat r.a),.int .u32 (nat r.b),.int .u32 (nat r.c),.int .u32 (nat r.d),.int .u32 (nat r.e),.int .u32 (nat r.f),.int .u32 (nat r.g),.int .u32 (nat r.h)]
def KTab (w:World):Prop:=∀ i,i<64→w.cell? ⟨9,i,none⟩=some (.int .u32 (nat (kt i)))
theorem KTab.below {w w':World} {B:Nat} (h:KTab w) (hb:Below B w w') (hB:9<B):KTab w':=fun i hi=>(hb.cell (p:=⟨9,i,none⟩) hB).trans (h i hi)
def z8:Array Value:=Array.replicate 8 (.int .u32 0)
theorem zero8 (w:World):Sem.run Tryz.prog (zeroValue 196) w=.ok (.agg z8) w:=by kernel_rfl
theorem info8:(Tryz.prog.info? 196).map (·.size)=some 8:=by kernel_rfl
theorem arr8_one (r:R8):(arr8 r).all (·.oneCell')=true:=by simp [arr8,Value.oneCell']
theorem zAp (r:R8) (j:Nat) (h:j<8):(arr8 r)[j]?=some (.int .u32 (nat (at8 r j))):=by
 match j,h with
 | 0,_=>rfl
 | 1,_=>rfl
 | 2,_=>rfl
 | 3,_=>rfl
 | 4,_=>rfl
 | 5,_=>rfl
 | 6,_=>rfl
 | 7,_=>rfl
theorem at8_add (x y:R8) (j:Nat) (h:j<8):at8 x j+at8 y j=at8 (addR x y) j:=by
 match j,h with
 | 0,_=>rfl
 | 1,_=>rfl
 | 2,_=>rfl
 | 3,_=>rfl
 | 4,_=>rfl
 | 5,_=>rfl
 | 6,_=>rfl
 | 7,_=>rfl
theorem arr8_size (r:R8):(arr8 r).size=8:=rfl
def SumTo (x y:R8) (k:Nat) (W:Array Value):Prop:=W.size=8∧∀ j,j<8→W[j]?=some (.int .u32 (nat (if j<k then at8 (addR x y) j else at8 x j)))
theorem sum_zero (x y:R8):SumTo x y 0 (arr8 x):=⟨rfl,fun j hj=>by rw [if_neg (by omega)];exact zAp x j hj⟩
theorem sum_step {x y:R8} {k:Nat} {W:Array Value} (h:SumTo x y k W) (hk:k<8):SumTo x y (k+1) (W.setIfInBounds k (.int .u32 (nat (at8 x k+at8 y k)))):=by
 refine ⟨by rw [Array.size_setIfInBounds];exact h.1,fun j hj=>?_⟩
 rw [Array.getElem?_setIfInBounds]
 by_cases e:k=j
 ·subst e
  rw [if_pos rfl,if_pos (by rw [h.1];exact hk),if_pos (by omega),at8_add x y k hk]
 ·rw [if_neg e,h.2 j hj]
  by_cases g:j<k
  ·rw [if_pos g,if_pos (by omega)]
  ·rw [if_neg g,if_neg (by omega)]
theorem sum_all {x y:R8} {W:Array Value} (h:SumTo x y 8 W):W=arr8 (addR x y):=by
 apply Array.ext_getElem?
 intro j
 by_cases hj:j<8
 ·rw [h.2 j hj,if_pos hj,zAp _ j hj]
 ·rw [Array.getElem?_eq_none (by rw [h.1];omega),Array.getElem?_eq_none (by rw [arr8_size];omega)]
def tOr (r:R8) (k w:UInt32):UInt32:=r.h+low r.e+(r.e &&& r.f ||| ~~~r.e &&& r.g)+k+w
theorem tOr_eq (r:R8) (k w:UInt32):tOr r k w=tOf r k w:=by unfold tOr tOf;rw [ch_or]
theorem arr8_rnd (r:R8) (t u:UInt32):(((((((((arr8 r).setIfInBounds 7 (.int .u32 (nat r.g))).setIfInBounds 6 (.int .u32 (nat r.f))).setIfInBounds 5 (.int .u32 (nat r.e))).setIfInBounds 4 (.int .u32 (nat (r.d+t)))).setIfInBounds 3 (.int .u32 (nat r.c))).setIfInBounds 2 (.int .u32 (nat r.b))).setIfInBounds 1 (.int .u32 (nat r.a))).setIfInBounds 0 (.int .u32 (nat (t+u))))=arr8 ⟨t+u,r.a,r.b,r.c,r.d+t,r.e,r.f,r.g⟩:=by simp [arr8]
def eight (w:World) (g:Nat) (r:R8) (t u:UInt32):World :=
 (((((((w.setCell ⟨g,7,none⟩ (.int .u32 (nat r.g))).setCell ⟨g,6,none⟩ (.int .u32 (nat r.f))).setCell ⟨g,5,none⟩ (.int .u32 (nat r.e))).setCell ⟨g,4,none⟩ (.int .u32 (nat (r.d+t)))).setCell ⟨g,3,none⟩ (.int .u32 (nat r.c))).setCell ⟨g,2,none⟩ (.int .u32 (nat r.b))).setCell ⟨g,1,none⟩ (.int .u32 (nat r.a))).setCell ⟨g,0,none⟩ (.int .u32 (nat (t+u)))
theorem eight_same {w:World} {g:Nat} {T:TypeId} {r:R8} (h:ArrAt w g T (arr8 r)) (t u:UInt32):ArrAt (eight w g r t u) g T (arr8 ⟨t+u,r.a,r.b,r.c,r.d+t,r.e,r.f,r.g⟩):=by
 rw [← arr8_rnd]
 exact (((((((h.setCell_same 7 _).setCell_same 6 _).setCell_same 5 _).setCell_same 4 _).setCell_same 3 _).setCell_same 2 _).setCell_same 1 _).setCell_same 0 _
theorem eight_other {w:World} {g g':Nat} {T:TypeId} {A:Array Value} (h:ArrAt w g' T A) (hne:g' ≠ g) (r:R8) (t u:UInt32):ArrAt (eight w g r t u) g' T A :=
 (((((((h.setCell_other (a:=⟨g,7,none⟩) hne _).setCell_other (a:=⟨g,6,none⟩) hne _).setCell_other (a:=⟨g,5,none⟩) hne _).setCell_other (a:=⟨g,4,none⟩) hne _).setCell_other (a:=⟨g,3,none⟩) hne _).setCell_other (a:=⟨g,2,none⟩) hne _).setCell_other (a:=⟨g,1,none⟩) hne _).setCell_other (a:=⟨g,0,none⟩) hne _
theorem eight_below {w w':World} {B g:Nat} (h:Below B w w') (hg:B≤g) (r:R8) (t u:UInt32):Below B w (eight w' g r t u) :=
 (((((((h.setCell (p:=⟨g,7,none⟩) hg _).setCell (p:=⟨g,6,none⟩) hg _).setCell (p:=⟨g,5,none⟩) hg _).setCell (p:=⟨g,4,none⟩) hg _).setCell (p:=⟨g,3,none⟩) hg _).setCell (p:=⟨g,2,none⟩) hg _).setCell (p:=⟨g,1,none⟩) hg _).setCell (p:=⟨g,0,none⟩) hg _
set_option maxRecDepth 100000 in
set_option maxHeartbeats 1600000 in
theorem mixBlock_any (x:R8) (A:Array Value) (xs:List Int) (w:World) (hW:zCJ xs 64 A) (hK:KTab w) (hp:9<w.heap.size) :
 Calls Tryz.prog 119 #[.agg (arr8 x),.agg A] w fun e w'=>e=.returned (.agg (arr8 (blk x xs)))∧Below w.heap.size w w':=by
 have hz:∀ w,Sem.run Tryz.prog (zeroValue 196) w=.ok (.agg z8) w:=zero8
 have H0:ArrAt (((w.alloc (.cells (arr8 x) 196)).alloc (.cells A 199)).alloc (.cells z8 196)) w.heap.size 196 (arr8 x):=((zBG w _ _).alloc _).alloc _
 have H1:ArrAt (((w.alloc (.cells (arr8 x) 196)).alloc (.cells A 199)).alloc (.cells z8 196)) (w.heap.size+1) 199 A:=by
  have:=(zBG (w.alloc (.cells (arr8 x) 196)) 199 A).alloc (.cells z8 196)
  simpa using this
 have H2:ArrAt (((w.alloc (.cells (arr8 x) 196)).alloc (.cells A 199)).alloc (.cells z8 196)) (w.heap.size+1+1) 196 z8:=by
  have:=zBG ((w.alloc (.cells (arr8 x) 196)).alloc (.cells A 199)) 196 z8
  simpa using this
 have B0:Below w.heap.size w (((w.alloc (.cells (arr8 x) 196)).alloc (.cells A 199)).alloc (.cells z8 196)):=(((Below.refl _ _).alloc (Nat.le_refl _) _).alloc (by simp) _).alloc (by simp;omega) _
 have S0:(((w.alloc (.cells (arr8 x) 196)).alloc (.cells A 199)).alloc (.cells z8 196)).heap.size=w.heap.size+1+1+1:=by simp
 have G0:Hid _:=H0
 have G1:Hid _:=H1
 have G2:Hid _:=H2
 have GB:Hid _:=B0
 have GS:Hid _:=S0
 have I8:Hid _:=info8
 have GK:Hid (KTab w):=hK
 have GW:Hid (zCJ xs 64 A):=hW
 clear H0 H1 H2 B0 S0 hK hW
 go_enter Tryz.func119,Tryz.ntmps119
 go_wp2_with (first | (refine wpList_load_row (by rfl) 196 _ (by rfl) w.heap.size (by rfl) 196 (arr8 x) (0,0) _ G0.out Tryz.underlying196 rfl I8.out ?_) | (refine wpList_store_row (by rfl) 196 _ _ (by rfl) (w.heap.size+1+1+1) (arr8 x) (by rfl) (by rfl) 196 z8 (by rw [← GS.out];exact zBG _ _ _) I8.out rfl (arr8_one x) ?_))
 go_loopw [11] (fun i wr=>∃ k:Nat,k≤64∧i=.int .i64 k∧Below w.heap.size w wr∧ArrAt wr w.heap.size 196 (arr8 x)∧ArrAt wr (w.heap.size+1) 199 A∧ArrAt wr (w.heap.size+1+1) 196 z8∧ArrAt wr (w.heap.size+1+1+1) 196 (arr8 (rndTo kt (wt xs) x k))) (fun i _=>64 - (intOf i).toNat)
 case atStart =>
  refine ⟨0,by omega,rfl,below_setRow (GB.out.alloc (by rw [GS.out];omega) _) (by omega) _,?_,?_,?_,?_⟩
  ·exact (ArrAt.alloc (show ArrAt _ _ _ _ from G0.out) _).setRow_other (by omega) _
  ·exact (ArrAt.alloc (show ArrAt _ _ _ _ from G1.out) _).setRow_other (by omega) _
  ·exact (ArrAt.alloc (show ArrAt _ _ _ _ from G2.out) _).setRow_other (by omega) _
  ·exact ArrAt.setRow_same (A:=z8) (by rw [← GS.out];exact zBG _ _ _) _
 case round =>
  clear G0 G1 G2 GB GS
  obtain ⟨k,hk,rfl,hbel,hX,hA,hZ,hR⟩:=hrel
  by_cases hlt:k<64
  ·have HS:Hid (rndTo kt (wt xs) x (k+1)=rnd (rndTo kt (wt xs) x k) (kt k) (wt xs k)):=rfl
   generalize rndTo kt (wt xs) x k=r at hR HS
   have ck:=(GK.out.below hbel hp) k hlt
   have cw:wr.cell? ⟨w.heap.size+1,k,none⟩=some (.int .u32 (nat (wt xs k))):=(hA.cell k).trans (GW.out.2 k hlt)
   have c0:=(hR.cell 0).trans (zAp r 0 (by decide))
   have c1:=(hR.cell 1).trans (zAp r 1 (by decide))
   have c2:=(hR.cell 2).trans (zAp r 2 (by decide))
   have c4:=(hR.cell 4).trans (zAp r 4 (by decide))
   have c5:=(hR.cell 5).trans (zAp r 5 (by decide))
   have c6:=(hR.cell 6).trans (zAp r 6 (by decide))
   have c7:=(hR.cell 7).trans (zAp r 7 (by decide))
   simp only [at8] at c0 c1 c2 c4 c5 c6 c7
   have q0:(0:Int)≤(k:Int):=by omega
   have q1:(k:Int)<64:=by omega
   have had:=nat_add
   have han:=nat_and
   have hor:=nat_or
   have hxr:=nat_xor
   have hno:∀ y:UInt32,bits .xor .u32 (if IntKind.u32.signed=true then -1 else IntKind.u32.max) (nat y)=nat (~~~y):=nat_not
   go_wp2_with fail
   go_quiet ((go_at_call 132;exact Calls.quiet_of_same (mixLower_any _ _)))
   have hbq:=below_drewN hbel nq
   have hXq:=hX.drewN nq
   have hAq:=hA.drewN nq
   have hZq:=hZ.drewN nq
   have hRq:=hR.drewN nq
   clear ck cw c0 c1 c2 c4 c5 c6 c7 hbel hX hA hZ hR
   generalize wr.drewN nq=wq at hbq hXq hAq hZq hRq ⊢
   have c0:=(hRq.cell 0).trans (zAp r 0 (by decide))
   have c1:=(hRq.cell 1).trans (zAp r 1 (by decide))
   have c2:=(hRq.cell 2).trans (zAp r 2 (by decide))
   simp only [at8] at c0 c1 c2
   go_wp2_with fail
   go_quiet ((go_at_call 133;exact Calls.quiet_of_same (mixUpper_any _ _)))
   have hbp:=below_drewN hbq nq
   have hXp:=hXq.drewN nq
   have hAp:=hAq.drewN nq
   have hZp:=hZq.drewN nq
   have hRp:=hRq.drewN nq
   clear c0 c1 c2 hbq hXq hAq hZq hRq
   generalize wq.drewN nq=wp at hbp hXp hAp hZp hRp ⊢
   have c0:=(hRp.cell 0).trans (zAp r 0 (by decide))
   have c1:=(hRp.cell 1).trans (zAp r 1 (by decide))
   have c2:=(hRp.cell 2).trans (zAp r 2 (by decide))
   have c3:=(hRp.cell 3).trans (zAp r 3 (by decide))
   have c4:=(hRp.cell 4).trans (zAp r 4 (by decide))
   have c5:=(hRp.cell 5).trans (zAp r 5 (by decide))
   have c6:=(hRp.cell 6).trans (zAp r 6 (by decide))
   have c7:=(hRp.cell 7).trans (zAp r 7 (by decide))
   simp only [at8] at c0 c1 c2 c3 c4 c5 c6 c7
   have f0:=hRp.frozen 0
   have f1:=hRp.frozen 1
   have f2:=hRp.frozen 2
   have f3:=hRp.frozen 3
   have f4:=hRp.frozen 4
   have f5:=hRp.frozen 5
   have f6:=hRp.frozen 6
   have f7:=hRp.frozen 7
   clear han hor hxr hno
   have e1:=eight_below hbp (g:=w.heap.size+1+1+1) (by omega) r (tOr r (kt k) (wt xs k)) (uOf r)
   have e2:=eight_other hXp (g:=w.heap.size+1+1+1) (by omega) r (tOr r (kt k) (wt xs k)) (uOf r)
   have e3:=eight_other hAp (g:=w.heap.size+1+1+1) (by omega) r (tOr r (kt k) (wt xs k)) (uOf r)
   have e4:=eight_other hZp (g:=w.heap.size+1+1+1) (by omega) r (tOr r (kt k) (wt xs k)) (uOf r)
   have e5:=eight_same hRp (tOr r (kt k) (wt xs k)) (uOf r)
   have e6:(⟨tOr r (kt k) (wt xs k)+uOf r,r.a,r.b,r.c,r.d+tOr r (kt k) (wt xs k),r.e,r.f,r.g⟩ : R8)=rndTo kt (wt xs) x (k+1):=by rw [HS.out,tOr_eq];rfl
   rw [e6] at e5
   have E1:Hid (Below w.heap.size w (eight wp (w.heap.size+1+1+1) r (tOr r (kt k) (wt xs k)) (uOf r))):=e1
   clear e1 e6
   go_wp2_with fail
   exact ⟨⟨k+1,by omega,by go_num,E1.out,e2,e3,e4,e5⟩,by simp [intOf];omega⟩
  ·obtain rfl:k=64:=by omega
   go_wp2_with fail
   go_loopw [90] (fun i wr=>∃ k:Nat,∃ W:Array Value,k≤8∧i=.int .i64 k∧Below w.heap.size w wr∧ArrAt wr w.heap.size 196 W∧ArrAt wr (w.heap.size+1+1) 196 z8∧ArrAt wr (w.heap.size+1+1+1) 196 (arr8 (rndTo kt (wt xs) x 64))∧SumTo x (rndTo kt (wt xs) x 64) k W) (fun i _=>8 - (intOf i).toNat)
   case atStart=>exact ⟨0,arr8 x,by omega,rfl,hbel,hX,hZ,hR,sum_zero _ _⟩
   case round =>
    clear hbel hX hA hZ hR
    obtain ⟨k,W,hk,rfl,hbel,hX,hZ,hR,hS⟩:=hrel
    have HB:Hid (blk x xs=addR x (rndTo kt (wt xs) x 64)):=rfl
    generalize rndTo kt (wt xs) x 64=r at hR hS HB
    by_cases hlt:k<8
    ·have cx:wr.cell? ⟨w.heap.size,k,none⟩=some (.int .u32 (nat (at8 x k))):=(hX.cell k).trans (by rw [hS.2 k hlt,if_neg (by omega)])
     have cr:wr.cell? ⟨w.heap.size+1+1+1,k,none⟩=some (.int .u32 (nat (at8 r k))):=(hR.cell k).trans (zAp r k hlt)
     have fx:=hX.frozen k
     have had:=nat_add
     have q0:(0:Int)≤(k:Int):=by omega
     have q1:(k:Int)<8:=by omega
     have e1:=(hbel.setCell (p:=⟨w.heap.size,k,none⟩) (Nat.le_refl _) (.int .u32 (nat (at8 x k+at8 r k)))).drew
     have e2:=(hX.setCell_same k (.int .u32 (nat (at8 x k+at8 r k)))).drew
     have e3:=(hZ.setCell_other (a:=⟨w.heap.size,k,none⟩) (by simp;omega) (.int .u32 (nat (at8 x k+at8 r k)))).drew
     have e4:=(hR.setCell_other (a:=⟨w.heap.size,k,none⟩) (by simp;omega) (.int .u32 (nat (at8 x k+at8 r k)))).drew
     have e5:=sum_step hS hlt
     go_wp2_with fail
     go_region
     clear had
     go_wp2
     go_roundw
     case rel=>exact ⟨k+1,_,by omega,by go_num,e1,e2,e3,e4,e5⟩
     case measure=>simp [intOf];omega
    ·obtain rfl:k=8:=by omega
     have hWe:=sum_all hS
     subst hWe
     rw [← HB.out] at hX
     have J8:Hid ((Tryz.prog.info? 196).map (·.size)=some (arr8 (blk x xs)).size):=by show _=some (arr8 (blk x xs)).size;rw [arr8_size];exact I8.out
     have JZ:Hid (z8.size=(arr8 (blk x xs)).size):=by show z8.size=(arr8 (blk x xs)).size;rw [arr8_size];unfold z8;simp
     have J1:Hid _:=arr8_one (blk x xs)
     have JR:=hZ.setRow_same (arr8 (blk x xs))
     have JB:=below_setRow hbel (show w.heap.size≤w.heap.size+1+1 by omega) (arr8 (blk x xs))
     clear hS
     generalize hY:arr8 (blk x xs)=Y at hX J8 JZ J1 JR JB
     have HY:Hid (arr8 (blk x xs)=Y):=hY
     clear hY
     go_wp2_with (first | (refine wpList_load_row (by rfl) 196 _ (by rfl) w.heap.size (by rfl) 196 Y (0,0) _ hX Tryz.underlying196 rfl J8.out ?_) | (refine wpList_store_row (by rfl) 196 _ _ (by rfl) (w.heap.size+1+1) Y (by rfl) (by rfl) 196 z8 hZ J8.out JZ.out J1.out ?_))
     exact bodyPost_ret (v:=.agg Y) (results_cell_row Tryz.results119 _ _ (w.heap.size+1+1) 196 _ (0,0) _ (by rfl) JR Tryz.underlying196 rfl J8.out) (by rfl) ⟨by rw [HY.out],JB⟩
end Go.Proofs.YtakfniknkejgpaaGreatDoor.Sh
namespace Go.Proofs.YtakfniknkejgpaaGreatDoor.Er
open Go.RowKit Go.Extern.Stop Go.Stop Go.Extern Go.Extern.Rtype
def sen (a:Addr):Value:=.iface 218 (.pointer (some a))
def fnd (s:ByteArray) (v:Value):Value:=.iface 82 (.agg #[.string s,v])
theorem isTypeOf (v:Value) (w:World):(Extern.ReflectliteType.typeOf #[.iface 218 v]).run Tryz.prog w=.ok (.iface 161 (.agg #[.pointer (some ⟨13,218,none⟩)])) w:=by kernel_rfl
theorem isComparable (w:World):((Extern.ReflectliteType.method fun t=>do noPackHeld "Comparable" t;pure (.bool (← typeInfo t).comparable)) #[.agg #[.pointer (some ⟨13,218,none⟩)]]).run Tryz.prog w=.ok (.bool true) w:=by kernel_rfl
theorem isMethodComparable (v:Value) (w:World):(Go.method 351 161 v "Comparable").run Tryz.prog w=.ok (168,v) w:=by kernel_rfl
theorem isComp:(Tryz.prog.info? 218).map (·.comparable)=some true:=by kernel_rfl
theorem isSize:(Tryz.prog.info? 240).map (·.size)=some 1:=by kernel_rfl
theorem noIsE (v:Value) (xT:TypeId) (w:World):(Instr.typeAssert (.iface 218 v) xT 163 true).run Tryz.prog w=.ok (.tuple #[.nilIface,.bool false]) w:=run_typeAssert_lacksB Tryz.underlying163 (by kernel_rfl) (by kernel_rfl) v xT w
theorem noUnwrapE (v:Value) (xT:TypeId) (w:World):(Instr.typeAssert (.iface 218 v) xT 166 true).run Tryz.prog w=.ok (.tuple #[.nilIface,.bool false]) w:=run_typeAssert_lacksB Tryz.underlying166 (by kernel_rfl) (by kernel_rfl) v xT w
theorem noUnwrapsE (v:Value) (xT:TypeId) (w:World):(Instr.typeAssert (.iface 218 v) xT 168 true).run Tryz.prog w=.ok (.tuple #[.nilIface,.bool false]) w:=run_typeAssert_lacksB Tryz.underlying168 (by kernel_rfl) (by kernel_rfl) v xT w
theorem noIsW (v:Value) (xT:TypeId) (w:World):(Instr.typeAssert (.iface 82 v) xT 163 true).run Tryz.prog w=.ok (.tuple #[.nilIface,.bool false]) w:=run_typeAssert_lacksB Tryz.underlying163 (by kernel_rfl) (by kernel_rfl) v xT w
theorem hasUnwrapW (v:Value) (xT:TypeId) (w:World):(Instr.typeAssert (.iface 82 v) xT 166 true).run Tryz.prog w=.ok (.tuple #[.iface 82 v,.bool true]) w:=run_typeAssert_hasB Tryz.underlying166 (by kernel_rfl) v xT w
theorem zCC (v:Value) (w:World):(Go.method 351 82 v "Unwrap").run Tryz.prog w=.ok (163,v) w:=by kernel_rfl
theorem zBk (s:ByteArray) (t:TypeId) (v:Value) (w:World):Calls Tryz.prog 163 #[.agg #[.string s,.iface t v]] w fun e w'=>e=.returned (.iface t v)∧Below w.heap.size w w':=by
 have HB:Hid (∀ o,Below w.heap.size w (w.alloc o)):=fun o=>(Below.refl _ _).alloc (Nat.le_refl _) o
 go_enter Tryz.func163,Tryz.ntmps163
 go_wp2_with fail
 go_ret
 exact ⟨rfl,HB.out _⟩
theorem blk {w W:World} {o:Obj} {b:Nat} (h:w.heap[b]?=some o) (hb:Below w.heap.size w W):W.heap[b]?=some o:=(hb.block b (Array.getElem?_eq_some_iff.1 h).1).trans h
set_option maxRecDepth 100000 in
set_option maxHeartbeats 1600000 in
theorem is1_same (s0:ByteArray) (a:Addr) (w:World):Calls Tryz.prog 69 #[fnd s0 (sen a),sen a,.bool true] w fun e w'=>e=.returned (.bool true)∧Below w.heap.size w w':=by
 obtain ⟨i,hi,hcmp⟩:=Option.map_eq_some_iff.1 isComp
 obtain ⟨j,hj,hjs⟩:=Option.map_eq_some_iff.1 isSize
 have nE:=noIsE
 have uE:=noUnwrapE
 have vE:=noUnwrapsE
 have nW:=noIsW
 have uW:=hasUnwrapW
 have mU:=zCC
 have heq:=fun W=>run_eql_iface_ptr_same (P:=Tryz.prog) W a Tryz.underlying55 Tryz.underlying218 hi hcmp hj
 have hty0:=fun W=>run_eql_iface_types (P:=Tryz.prog) 82 218 (.agg #[.string s0,.iface 218 (.pointer (some a))]) (.pointer (some a)) Tryz.underlying55 (by decide) W
 unfold fnd sen
 go_enter Tryz.func69,Tryz.ntmps69
 go_wp2_with fail
 refine wp_loop_rounds 2 ?_
 rw [rounds_succ]
 go_wp2_with fail
 refine (zBk s0 _ _ _).mono ?_
 rintro e w0 ⟨rfl,b0⟩
 have B0:Hid (Below w.heap.size w w0):=b0
 clear b0
 go_wp2_with fail
 rw [rounds_succ]
 go_wp2_with fail
 go_ret
 exact ⟨rfl,B0.out⟩
set_option maxRecDepth 100000 in
set_option maxHeartbeats 1600000 in
theorem is1_other (s0:ByteArray) (a b:Addr) (ca cb:Array Value) (ta tb:TypeId) (w:World) (hne:a ≠ b) (ha:w.heap[a.block]?=some (.cells ca ta (0,0))) (hb:w.heap[b.block]?=some (.cells cb tb (0,0))):Calls Tryz.prog 69 #[fnd s0 (sen a),sen b,.bool true] w fun e w'=>e=.returned (.bool false)∧Below w.heap.size w w':=by
 obtain ⟨i,hi,hcmp⟩:=Option.map_eq_some_iff.1 isComp
 obtain ⟨j,hj,hjs⟩:=Option.map_eq_some_iff.1 isSize
 have nE:=noIsE
 have uE:=noUnwrapE
 have vE:=noUnwrapsE
 have nW:=noIsW
 have uW:=hasUnwrapW
 have mU:=zCC
 have HEQ:Hid (∀ W,Below w.heap.size w W→(binOp .eql 55 (.iface 218 (.pointer (some a))) (.iface 218 (.pointer (some b)))).run Tryz.prog W=.ok (.bool false) W):=fun W hW=>run_eql_iface_ptr_other (P:=Tryz.prog) W Tryz.underlying55 Tryz.underlying218 hi hcmp hj (by rw [hjs];decide) hne (blk ha hW) (blk hb hW)
 clear ha hb hne
 have hty0:=fun W=>run_eql_iface_types (P:=Tryz.prog) 82 218 (.agg #[.string s0,.iface 218 (.pointer (some a))]) (.pointer (some b)) Tryz.underlying55 (by decide) W
 unfold fnd sen
 go_enter Tryz.func69,Tryz.ntmps69
 go_wp2_with fail
 refine wp_loop_rounds 2 ?_
 rw [rounds_succ]
 go_wp2_with fail
 refine (zBk s0 _ _ _).mono ?_
 rintro e w0 ⟨rfl,b0⟩
 have B0:Hid (Below w.heap.size w w0):=b0
 clear b0
 go_wp2_with fail
 have heq:=HEQ.out w0 B0.out
 rw [rounds_succ]
 go_wp2_with fail
 go_ret
 exact ⟨rfl,B0.out⟩
set_option maxRecDepth 100000 in
set_option maxHeartbeats 1600000 in
theorem is2_same (s0:ByteArray) (s1:ByteArray) (a:Addr) (w:World):Calls Tryz.prog 69 #[fnd s0 (fnd s1 (sen a)),sen a,.bool true] w fun e w'=>e=.returned (.bool true)∧Below w.heap.size w w':=by
 obtain ⟨i,hi,hcmp⟩:=Option.map_eq_some_iff.1 isComp
 obtain ⟨j,hj,hjs⟩:=Option.map_eq_some_iff.1 isSize
 have nE:=noIsE
 have uE:=noUnwrapE
 have vE:=noUnwrapsE
 have nW:=noIsW
 have uW:=hasUnwrapW
 have mU:=zCC
 have heq:=fun W=>run_eql_iface_ptr_same (P:=Tryz.prog) W a Tryz.underlying55 Tryz.underlying218 hi hcmp hj
 have hty0:=fun W=>run_eql_iface_types (P:=Tryz.prog) 82 218 (.agg #[.string s0,.iface 82 (.agg #[.string s1,.iface 218 (.pointer (some a))])]) (.pointer (some a)) Tryz.underlying55 (by decide) W
 have hty1:=fun W=>run_eql_iface_types (P:=Tryz.prog) 82 218 (.agg #[.string s1,.iface 218 (.pointer (some a))]) (.pointer (some a)) Tryz.underlying55 (by decide) W
 unfold fnd sen
 go_enter Tryz.func69,Tryz.ntmps69
 go_wp2_with fail
 refine wp_loop_rounds 3 ?_
 rw [rounds_succ]
 go_wp2_with fail
 refine (zBk s0 _ _ _).mono ?_
 rintro e w0 ⟨rfl,b0⟩
 have B0:Hid (Below w.heap.size w w0):=b0
 clear b0
 go_wp2_with fail
 rw [rounds_succ]
 go_wp2_with fail
 refine (zBk s1 _ _ _).mono ?_
 rintro e w1 ⟨rfl,b1⟩
 have B1:Hid (Below w.heap.size w w1):=B0.out.trans (b1.mono B0.out.size)
 clear b1
 go_wp2_with fail
 rw [rounds_succ]
 go_wp2_with fail
 go_ret
 exact ⟨rfl,B1.out⟩
set_option maxRecDepth 100000 in
set_option maxHeartbeats 1600000 in
theorem is2_other (s0:ByteArray) (s1:ByteArray) (a b:Addr) (ca cb:Array Value) (ta tb:TypeId) (w:World) (hne:a ≠ b) (ha:w.heap[a.block]?=some (.cells ca ta (0,0))) (hb:w.heap[b.block]?=some (.cells cb tb (0,0))):Calls Tryz.prog 69 #[fnd s0 (fnd s1 (sen a)),sen b,.bool true] w fun e w'=>e=.returned (.bool false)∧Below w.heap.size w w':=by
 obtain ⟨i,hi,hcmp⟩:=Option.map_eq_some_iff.1 isComp
 obtain ⟨j,hj,hjs⟩:=Option.map_eq_some_iff.1 isSize
 have nE:=noIsE
 have uE:=noUnwrapE
 have vE:=noUnwrapsE
 have nW:=noIsW
 have uW:=hasUnwrapW
 have mU:=zCC
 have HEQ:Hid (∀ W,Below w.heap.size w W→(binOp .eql 55 (.iface 218 (.pointer (some a))) (.iface 218 (.pointer (some b)))).run Tryz.prog W=.ok (.bool false) W):=fun W hW=>run_eql_iface_ptr_other (P:=Tryz.prog) W Tryz.underlying55 Tryz.underlying218 hi hcmp hj (by rw [hjs];decide) hne (blk ha hW) (blk hb hW)
 clear ha hb hne
 have hty0:=fun W=>run_eql_iface_types (P:=Tryz.prog) 82 218 (.agg #[.string s0,.iface 82 (.agg #[.string s1,.iface 218 (.pointer (some a))])]) (.pointer (some b)) Tryz.underlying55 (by decide) W
 have hty1:=fun W=>run_eql_iface_types (P:=Tryz.prog) 82 218 (.agg #[.string s1,.iface 218 (.pointer (some a))]) (.pointer (some b)) Tryz.underlying55 (by decide) W
 unfold fnd sen
 go_enter Tryz.func69,Tryz.ntmps69
 go_wp2_with fail
 refine wp_loop_rounds 3 ?_
 rw [rounds_succ]
 go_wp2_with fail
 refine (zBk s0 _ _ _).mono ?_
 rintro e w0 ⟨rfl,b0⟩
 have B0:Hid (Below w.heap.size w w0):=b0
 clear b0
 go_wp2_with fail
 rw [rounds_succ]
 go_wp2_with fail
 refine (zBk s1 _ _ _).mono ?_
 rintro e w1 ⟨rfl,b1⟩
 have B1:Hid (Below w.heap.size w w1):=B0.out.trans (b1.mono B0.out.size)
 clear b1
 go_wp2_with fail
 have heq:=HEQ.out w1 B1.out
 rw [rounds_succ]
 go_wp2_with fail
 go_ret
 exact ⟨rfl,B1.out⟩
set_option maxRecDepth 100000 in
set_option maxHeartbeats 1600000 in
theorem Is_of (t:TypeId) (v:Value) (b:Addr) (r:Bool) (w:World) (h:Calls Tryz.prog 69 #[.iface t v,sen b,.bool true] w fun e w'=>e=.returned (.bool r)∧Below w.heap.size w w'):Calls Tryz.prog 39 #[.iface t v,sen b] w fun e w'=>e=.returned (.bool r)∧Below w.heap.size w w':=by
 have h8:=@run_callFunc_extern Tryz.prog 68 _ Extern.ReflectliteType.typeOf Tryz.func68 (by kernel_rfl) (by kernel_rfl) (by kernel_rfl) (by kernel_rfl)
 have h32:=@run_callFunc_extern Tryz.prog 168 _ (Extern.ReflectliteType.method fun t=>do noPackHeld "Comparable" t;pure (.bool (← typeInfo t).comparable)) Tryz.func168 (by kernel_rfl) (by kernel_rfl) (by kernel_rfl) (by kernel_rfl)
 have tT:=isTypeOf
 have cT:∀ w,(callFunc 168 #[.agg #[.pointer (some ⟨13,218,none⟩)]]).run Tryz.prog w=.ok (.value (.bool true)) w:=fun w=>(h32 _ w).trans (by rw [isComparable];rfl)
 clear h32
 have mR:=isMethodComparable
 have HH:Hid (Calls Tryz.prog 69 #[.iface t v,sen b,.bool true] w fun e w'=>e=.returned (.bool r)∧Below w.heap.size w w'):=h
 clear h
 unfold sen at HH ⊢
 go_enter Tryz.func39,Tryz.ntmps39
 go_wp2_with fail
 refine HH.out.mono ?_
 rintro e w1 ⟨rfl,b1⟩
 go_wp2_with fail
 go_ret
 exact ⟨rfl,b1⟩
structure Sen (W:World) (A:Nat→Addr):Prop where
 g0:W.cell? ⟨0,0,none⟩=some (sen (A 0))
 g1:W.cell? ⟨5,0,none⟩=some (sen (A 1))
 g2:W.cell? ⟨1,0,none⟩=some (sen (A 2))
 g3:W.cell? ⟨6,0,none⟩=some (sen (A 3))
 g4:W.cell? ⟨7,0,none⟩=some (sen (A 4))
 g5:W.cell? ⟨3,0,none⟩=some (sen (A 5))
 g6:W.cell? ⟨2,0,none⟩=some (sen (A 6))
 g7:W.cell? ⟨4,0,none⟩=some (sen (A 7))
 bl:∀ i,i<8→∃ c t,W.heap[(A i).block]?=some (.cells c t (0,0))
 ne:∀ i j,i<8→j<8→i ≠ j→A i ≠ A j
theorem Sen.below {W W':World} {A:Nat→Addr} (h:Sen W A) (hb:Below W.heap.size W W'):Sen W' A :=
 ⟨(hb.cell (World.block_lt_of_cell? W _ h.g0)).trans h.g0,(hb.cell (World.block_lt_of_cell? W _ h.g1)).trans h.g1,(hb.cell (World.block_lt_of_cell? W _ h.g2)).trans h.g2,(hb.cell (World.block_lt_of_cell? W _ h.g3)).trans h.g3,(hb.cell (World.block_lt_of_cell? W _ h.g4)).trans h.g4,(hb.cell (World.block_lt_of_cell? W _ h.g5)).trans h.g5,(hb.cell (World.block_lt_of_cell? W _ h.g6)).trans h.g6,(hb.cell (World.block_lt_of_cell? W _ h.g7)).trans h.g7,fun i hi=>(h.bl i hi).elim fun c hc=>hc.elim fun t ht=>⟨c,t,blk ht hb⟩,h.ne⟩
def zBA (i:Nat):Int:=[2,3,4,10,11,12,19,1].getD i 0
theorem is1_any {W:World} {A:Nat→Addr} (h:Sen W A) (s:ByteArray) (i k:Nat) (hi:i<8) (hk:k<8):Calls Tryz.prog 39 #[fnd s (sen (A i)),sen (A k)] W fun e w'=>e=.returned (.bool (decide (i=k)))∧Below W.heap.size W w':=by
 by_cases e:i=k
 ·subst e
  rw [decide_eq_true rfl]
  exact Is_of _ _ _ _ _ (is1_same s _ W)
 ·rw [decide_eq_false e]
  obtain ⟨c,t,hc⟩:=h.bl i hi
  obtain ⟨c',t',hc'⟩:=h.bl k hk
  exact Is_of _ _ _ _ _ (is1_other s _ _ c c' t t' W (h.ne i k hi hk e) hc hc')
theorem is2_any {W:World} {A:Nat→Addr} (h:Sen W A) (s r:ByteArray) (i k:Nat) (hi:i<8) (hk:k<8):Calls Tryz.prog 39 #[fnd s (fnd r (sen (A i))),sen (A k)] W fun e w'=>e=.returned (.bool (decide (i=k)))∧Below W.heap.size W w':=by
 by_cases e:i=k
 ·subst e
  rw [decide_eq_true rfl]
  exact Is_of _ _ _ _ _ (is2_same s r _ W)
 ·rw [decide_eq_false e]
  obtain ⟨c,t,hc⟩:=h.bl i hi
  obtain ⟨c',t',hc'⟩:=h.bl k hk
  exact Is_of _ _ _ _ _ (is2_other s r _ _ c c' t t' W (h.ne i k hi hk e) hc hc')
set_option maxRecDepth 100000 in
set_option maxHeartbeats 1600000 in
theorem namedFaults_any {w:World} {A:Nat→Addr} (h:Sen w A):Calls Tryz.prog 38 #[] w fun e w'=>e=.returned (.slice (some ⟨w.heap.size,0,none⟩) 7 7)∧w'=w.alloc (.cells #[sen (A 0),.int .i64 2,sen (A 1),.int .i64 3,sen (A 2),.int .i64 4,sen (A 3),.int .i64 10,sen (A 4),.int .i64 11,sen (A 5),.int .i64 12,sen (A 6),.int .i64 19] 91):=by
 obtain ⟨g0,g1,g2,g3,g4,g5,g6,g7,_,_⟩:=h
 unfold sen at *
 go_enter Tryz.func38,Tryz.ntmps38
 go_wp2_with fail
 go_ret
 exact ⟨rfl,rfl⟩
theorem nf_cells {w W:World} {A:Nat→Addr} (hb:Below (w.alloc (.cells #[sen (A 0),.int .i64 2,sen (A 1),.int .i64 3,sen (A 2),.int .i64 4,sen (A 3),.int .i64 10,sen (A 4),.int .i64 11,sen (A 5),.int .i64 12,sen (A 6),.int .i64 19] 91)).heap.size (w.alloc (.cells #[sen (A 0),.int .i64 2,sen (A 1),.int .i64 3,sen (A 2),.int .i64 4,sen (A 3),.int .i64 10,sen (A 4),.int .i64 11,sen (A 5),.int .i64 12,sen (A 6),.int .i64 19] 91)) W) {k:Nat} (hk:k<7):W.cell? ⟨w.heap.size,k * 2,none⟩=some (sen (A k))∧W.cell? ⟨w.heap.size,k * 2+1,none⟩=some (.int .i64 (zBA k)):=by
 have h1:=blk (heap_alloc_new w _) hb
 rcases (by omega:k=0 ∨ k=1 ∨ k=2 ∨ k=3 ∨ k=4 ∨ k=5 ∨ k=6) with rfl | rfl | rfl | rfl | rfl | rfl | rfl
 all_goals exact ⟨Joins.cell_of_block h1 _,Joins.cell_of_block h1 _⟩
theorem ret_i {a b:Int} (h:a=b):Ending.returned (.int .i64 a)=.returned (.int .i64 b):=by rw [h]
set_option maxRecDepth 100000 in
set_option maxHeartbeats 1600000 in
theorem codeOfFault_any (t:TypeId) (v:Value) {w:World} {A:Nat→Addr} (i:Nat) (hi:i<8) (h:Sen w A) (hIs:∀ W k,Below w.heap.size w W→k<7→Calls Tryz.prog 39 #[.iface t v,sen (A k)] W fun e w'=>e=.returned (.bool (decide (i=k)))∧Below W.heap.size W w') :
 Calls Tryz.prog 17 #[.iface t v] w fun e w'=>e=.returned (.int .i64 (zBA i))∧Below w.heap.size w w':=by
 have HIS:Hid (∀ W k,Below w.heap.size w W→k<7→Calls Tryz.prog 39 #[.iface t v,sen (A k)] W fun e w'=>e=.returned (.bool (decide (i=k)))∧Below W.heap.size W w'):=hIs
 have HNF:Hid (Calls Tryz.prog 38 #[] w fun e w'=>e=.returned (.slice (some ⟨w.heap.size,0,none⟩) 7 7)∧w'=w.alloc (.cells #[sen (A 0),.int .i64 2,sen (A 1),.int .i64 3,sen (A 2),.int .i64 4,sen (A 3),.int .i64 10,sen (A 4),.int .i64 11,sen (A 5),.int .i64 12,sen (A 6),.int .i64 19] 91)):=namedFaults_any h
 have HNC:Hid (∀ W k,Below (w.alloc (.cells #[sen (A 0),.int .i64 2,sen (A 1),.int .i64 3,sen (A 2),.int .i64 4,sen (A 3),.int .i64 10,sen (A 4),.int .i64 11,sen (A 5),.int .i64 12,sen (A 6),.int .i64 19] 91)).heap.size (w.alloc (.cells #[sen (A 0),.int .i64 2,sen (A 1),.int .i64 3,sen (A 2),.int .i64 4,sen (A 3),.int .i64 10,sen (A 4),.int .i64 11,sen (A 5),.int .i64 12,sen (A 6),.int .i64 19] 91)) W→k<7→(W.cell? ⟨w.heap.size,k * 2,none⟩=some (sen (A k))∧W.cell? ⟨w.heap.size,k * 2+1,none⟩=some (.int .i64 (zBA k)))∧Below w.heap.size w W):=fun W k hW hk=>⟨nf_cells hW hk,((Below.refl w.heap.size w).alloc (Nat.le_refl _) _).trans (hW.mono (by simp))⟩
 have HB0:Hid (Below w.heap.size w (w.alloc (.cells #[sen (A 0),.int .i64 2,sen (A 1),.int .i64 3,sen (A 2),.int .i64 4,sen (A 3),.int .i64 10,sen (A 4),.int .i64 11,sen (A 5),.int .i64 12,sen (A 6),.int .i64 19] 91))):=(Below.refl w.heap.size w).alloc (Nat.le_refl _) _
 clear hIs h
 go_enter Tryz.func17,Tryz.ntmps17
 go_wp2_with fail
 refine HNF.out.mono ?_
 rintro e w1 ⟨rfl,hw1⟩
 rw [← hw1] at HNC HB0
 clear hw1 HNF
 go_wp2_with fail
 go_loopw [9] (fun x wr=>∃ k:Nat,k≤7∧x=.int .i64 k∧Hid ((∀ j,j<k→i ≠ j)∧Below w1.heap.size w1 wr)) (fun x _=>7 - (intOf x).toNat)
 case atStart=>exact ⟨0,by omega,rfl,⟨fun j hj=>by omega,Below.refl _ _⟩⟩
 case round =>
  obtain ⟨k,hk,rfl,HK⟩:=hrel
  by_cases hlt:k<7
  ·obtain ⟨⟨c0,c1⟩,g0⟩:=HNC.out _ k HK.out.2 hlt
   have hk7:(k:Int)<7:=by omega
   have HI:=fun W hW=>HIS.out W k hW hlt
   have HBN:Hid (∀ o,Below w1.heap.size w1 (wr.alloc o)∧Below w.heap.size w (wr.alloc o)):=fun o=>⟨HK.out.2.alloc HK.out.2.size o,g0.alloc g0.size o⟩
   have HCC:Hid (∀ W,Below (wr.alloc (.cells #[sen (A k),.int .i64 (zBA k)] 91)).heap.size (wr.alloc (.cells #[sen (A k),.int .i64 (zBA k)] 91)) W→W.cell? ⟨wr.heap.size,1,none⟩=some (.int .i64 (zBA k))):=fun W hW=>Joins.cell_of_block (blk (heap_alloc_new wr _) hW) 1
   clear g0
   unfold sen at c0 HI HCC
   generalize A k=ak at c0 HI HCC
   generalize hfc:zBA k=ck at c1 HCC
   have HFC:Hid (zBA k=ck):=hfc
   clear hfc
   go_upto_region 6 with fail
   have hd1:=HCC.out _ (Below.refl _ _)
   have HBW:=HBN.out (.cells #[.iface 218 (.pointer (some ak)),.int .i64 ck] 91)
   go_wp2_with fail
   refine (HI _ HBW.2).mono ?_
   rintro e w2 ⟨rfl,b2⟩
   have hd2:=HCC.out _ b2
   have B2:Hid (Below w1.heap.size w1 w2∧Below w.heap.size w w2):=⟨HBW.1.trans (b2.mono HBW.1.size),HBW.2.trans (b2.mono HBW.2.size)⟩
   clear b2 hd1 HBW c0 c1 HI HCC HBN
   by_cases e:i=k
   ·rw [decide_eq_true e]
    have HE:Hid (zBA i=ck):=by show _=_;rw [e];exact HFC.out
    clear e
    go_wp2_with fail
    go_ret
    exact ⟨ret_i HE.out.symm,B2.out.2⟩
   ·rw [decide_eq_false e]
    have HE:Hid (∀ j,j<k+1→i ≠ j):=fun j hj=>by
     by_cases ej:j=k
     ·subst ej;exact e
     ·exact HK.out.1 j (by omega)
    clear e
    go_wp2_with fail
    exact ⟨⟨k+1,by omega,by go_num,⟨HE.out,B2.out.1⟩⟩,by simp [intOf];omega⟩
  ·obtain rfl:k=7:=by omega
   have HE:Hid (zBA i=1):=by
    have:=fun j hj=>HK.out.1 j hj
    have h7:i=7:=by
     have a0:=this 0 (by decide)
     have a1:=this 1 (by decide)
     have a2:=this 2 (by decide)
     have a3:=this 3 (by decide)
     have a4:=this 4 (by decide)
     have a5:=this 5 (by decide)
     have a6:=this 6 (by decide)
     omega
    show _=_
    rw [h7]
    rfl
   have G:Hid (Below w.heap.size w wr):=HB0.out.trans (HK.out.2.mono HB0.out.size)
   go_wp2_with fail
   go_ret
   exact ⟨ret_i HE.out.symm,G.out⟩
set_option maxRecDepth 100000 in
set_option maxHeartbeats 1600000 in
theorem codeOfFault_nil (w:World):Calls Tryz.prog 17 #[.nilIface] w fun e w'=>e=.returned (.int .i64 0)∧Below w.heap.size w w':=by
 go_enter Tryz.func17,Tryz.ntmps17
 go_wp2_with fail
 go_ret
 exact ⟨rfl,Below.refl _ _⟩
theorem code1_any {w:World} {A:Nat→Addr} (s:ByteArray) (i:Nat) (hi:i<8) (h:Sen w A):Calls Tryz.prog 17 #[fnd s (sen (A i))] w fun e w'=>e=.returned (.int .i64 (zBA i))∧Below w.heap.size w w' :=
 codeOfFault_any _ _ i hi h (fun W k hW hk=>is1_any (h.below hW) s i k hi (by omega))
theorem code2_any {w:World} {A:Nat→Addr} (s r:ByteArray) (i:Nat) (hi:i<8) (h:Sen w A):Calls Tryz.prog 17 #[fnd s (fnd r (sen (A i)))] w fun e w'=>e=.returned (.int .i64 (zBA i))∧Below w.heap.size w w' :=
 codeOfFault_any _ _ i hi h (fun W k hW hk=>is2_any (h.below hW) s r i k hi (by omega))
def fidx (c:Int):Nat:=if c=2 then 0 else if c=3 then 1 else if c=4 then 2 else if c=10 then 3 else if c=11 then 4 else if c=12 then 5 else if c=19 then 6 else 7
theorem fidx_lt (c:Int):fidx c<8:=by unfold fidx;repeat' split
                                     all_goals omega
theorem fidx_of {c:Int} {k:Nat} (hk:k<7) (h:c=zBA k):fidx c=k:=by
 subst h
 rcases (by omega:k=0 ∨ k=1 ∨ k=2 ∨ k=3 ∨ k=4 ∨ k=5 ∨ k=6) with rfl | rfl | rfl | rfl | rfl | rfl | rfl <;> rfl
theorem fidx_none {c:Int} (h:∀ j,j<7→c ≠ zBA j):fidx c=7:=by
 have a0:c ≠ 2:=h 0 (by decide)
 have a1:c ≠ 3:=h 1 (by decide)
 have a2:c ≠ 4:=h 2 (by decide)
 have a3:c ≠ 10:=h 3 (by decide)
 have a4:c ≠ 11:=h 4 (by decide)
 have a5:c ≠ 12:=h 5 (by decide)
 have a6:c ≠ 19:=h 6 (by decide)
 unfold fidx
 rw [if_neg a0,if_neg a1,if_neg a2,if_neg a3,if_neg a4,if_neg a5,if_neg a6]
theorem ret_v {a b:Value} (h:a=b):Ending.returned a=.returned b:=by rw [h]
set_option maxRecDepth 100000 in
set_option maxHeartbeats 1600000 in
theorem zBH (s:ByteArray) (c:Int) {w:World} {A:Nat→Addr} (hc0:c ≠ 0) (h:Sen w A) :
 Calls Tryz.prog 35 #[.string s,.int .i64 c] w fun e w'=>e=.returned (fnd s (sen (A (fidx c))))∧Below w.heap.size w w':=by
 have HNF:Hid (Calls Tryz.prog 38 #[] w fun e w'=>e=.returned (.slice (some ⟨w.heap.size,0,none⟩) 7 7)∧w'=w.alloc (.cells #[sen (A 0),.int .i64 2,sen (A 1),.int .i64 3,sen (A 2),.int .i64 4,sen (A 3),.int .i64 10,sen (A 4),.int .i64 11,sen (A 5),.int .i64 12,sen (A 6),.int .i64 19] 91)):=namedFaults_any h
 have HNC:Hid (∀ W k,Below (w.alloc (.cells #[sen (A 0),.int .i64 2,sen (A 1),.int .i64 3,sen (A 2),.int .i64 4,sen (A 3),.int .i64 10,sen (A 4),.int .i64 11,sen (A 5),.int .i64 12,sen (A 6),.int .i64 19] 91)).heap.size (w.alloc (.cells #[sen (A 0),.int .i64 2,sen (A 1),.int .i64 3,sen (A 2),.int .i64 4,sen (A 3),.int .i64 10,sen (A 4),.int .i64 11,sen (A 5),.int .i64 12,sen (A 6),.int .i64 19] 91)) W→k<7→(W.cell? ⟨w.heap.size,k * 2,none⟩=some (sen (A k))∧W.cell? ⟨w.heap.size,k * 2+1,none⟩=some (.int .i64 (zBA k)))∧Below w.heap.size w W):=fun W k hW hk=>⟨nf_cells hW hk,((Below.refl w.heap.size w).alloc (Nat.le_refl _) _).trans (hW.mono (by simp))⟩
 have HB0:Hid (Below w.heap.size w (w.alloc (.cells #[sen (A 0),.int .i64 2,sen (A 1),.int .i64 3,sen (A 2),.int .i64 4,sen (A 3),.int .i64 10,sen (A 4),.int .i64 11,sen (A 5),.int .i64 12,sen (A 6),.int .i64 19] 91))):=(Below.refl w.heap.size w).alloc (Nat.le_refl _) _
 have HS:Hid (Sen w A):=h
 have hc:(c == 0)=false:=by simpa using hc0
 clear h hc0
 go_enter Tryz.func35,Tryz.ntmps35
 go_wp2_with fail
 refine HNF.out.mono ?_
 rintro e w1 ⟨rfl,hw1⟩
 rw [← hw1] at HNC HB0
 clear hw1 HNF
 go_wp2_with fail
 go_loopw [11] (fun x wr=>∃ k:Nat,k≤7∧x=.int .i64 k∧Hid ((∀ j,j<k→c ≠ zBA j)∧Below w1.heap.size w1 wr)) (fun x _=>7 - (intOf x).toNat)
 case atStart=>exact ⟨0,by omega,rfl,⟨fun j hj=>by omega,Below.refl _ _⟩⟩
 case round =>
  obtain ⟨k,hk,rfl,HK⟩:=hrel
  by_cases hlt:k<7
  ·obtain ⟨⟨c0,c1⟩,g0⟩:=HNC.out _ k HK.out.2 hlt
   have hk7:(k:Int)<7:=by omega
   have HBN:Hid (∀ o,Below w1.heap.size w1 (wr.alloc o)∧Below w.heap.size w (wr.alloc o)):=fun o=>⟨HK.out.2.alloc HK.out.2.size o,g0.alloc g0.size o⟩
   clear g0
   unfold sen at c0
   by_cases e:c=zBA k
   ·have HE:Hid (fnd s (sen (A (fidx c)))=.iface 82 (.agg #[.string s,.iface 218 (.pointer (some (A k)))])):=by show _=_;rw [fidx_of hlt e];rfl
    have e':(c == zBA k)=true:=by simpa using e
    clear e
    generalize A k=ak at c0 HE
    generalize zBA k=ck at c1 e'
    go_wp2_with fail
    go_ret
    exact ⟨ret_v HE.out.symm,(HBN.out _).2⟩
   ·have HE:Hid (∀ j,j<k+1→c ≠ zBA j):=fun j hj=>by
     by_cases ej:j=k
     ·subst ej;exact e
     ·exact HK.out.1 j (by omega)
    have e':(c == zBA k)=false:=by simpa using e
    clear e
    generalize A k=ak at c0
    generalize hfc:zBA k=ck at c1 e'
    clear hfc
    go_wp2_with fail
    exact ⟨⟨k+1,by omega,by go_num,⟨HE.out,(HBN.out _).1⟩⟩,by simp [intOf];omega⟩
  ·obtain rfl:k=7:=by omega
   have HE:Hid (fnd s (sen (A (fidx c)))=.iface 82 (.agg #[.string s,.iface 218 (.pointer (some (A 7)))])):=by show _=_;rw [fidx_none (fun j hj=>HK.out.1 j hj)];rfl
   have G:Hid (Below w.heap.size w wr):=HB0.out.trans (HK.out.2.mono HB0.out.size)
   have g7:=(HS.out.below G.out).g7
   unfold sen at g7
   go_wp2_with fail
   go_ret
   exact ⟨ret_v HE.out.symm,G.out⟩
set_option maxRecDepth 100000 in
set_option maxHeartbeats 1600000 in
theorem zBI (s:ByteArray) (w:World):Calls Tryz.prog 35 #[.string s,.int .i64 0] w fun e w'=>e=.returned .nilIface∧Below w.heap.size w w':=by
 go_enter Tryz.func35,Tryz.ntmps35
 go_wp2_with fail
 go_ret
 exact ⟨rfl,Below.refl _ _⟩
end Go.Proofs.YtakfniknkejgpaaGreatDoor.Er
namespace Go.Proofs.YtakfniknkejgpaaGreatDoor.Hl
open Go.ChangeShapes Go.WideShapes Go.ChangeAt Go.RowKit Sh Er
theorem own:ownKnob Tryz.prog.godebug=none:=by kernel_rfl
theorem laidOut:laidOutB Tryz.prog=true:=by kernel_rfl
theorem gTab:Tryz.prog.globalNamed "loop.example/g00292/impl.roundWords"=some 9:=by kernel_rfl
theorem tTab:(Tryz.prog.globals[9]?).map (·.type)=some 199:=by kernel_rfl
theorem cells64:Tryz.prog.cellsOf 199=64:=by kernel_rfl
theorem cells1:Tryz.prog.cellsOf 175=1:=by kernel_rfl
theorem rowed:varsRowed Tryz.prog ["loop.example/g00292/impl.roundWords"]=true:=by kernel_rfl
theorem cellsE:Tryz.prog.cellsOf 240=1:=by kernel_rfl
theorem cellsS:Tryz.prog.cellsOf 9=1:=by kernel_rfl
theorem star : "*" ++ "errors.errorString" = "*errors.errorString":=by decide
theorem rowE (u:TypeId) (h:Tryz.prog.typeName? 3 u=some "*errors.errorString"):u=218 :=
 typeName_ptr_named (nm:="errors.errorString") (by rw [star];kernel_rfl) (by kernel_rfl) (by decide) u (by rw [star];exact h)
theorem g_errTooLong:Tryz.prog.globalNamed "loop.example/g00292/impl.errTooLong"=some 0:=by kernel_rfl
theorem t_errTooLong:(Tryz.prog.globals[0]?).map (·.type)=some 55:=by kernel_rfl
theorem g_errNoTable:Tryz.prog.globalNamed "loop.example/g00292/impl.errNoTable"=some 5:=by kernel_rfl
theorem t_errNoTable:(Tryz.prog.globals[5]?).map (·.type)=some 55:=by kernel_rfl
theorem g_errOutside:Tryz.prog.globalNamed "loop.example/g00292/impl.errOutside"=some 1:=by kernel_rfl
theorem t_errOutside:(Tryz.prog.globals[1]?).map (·.type)=some 55:=by kernel_rfl
theorem g_errNoProof:Tryz.prog.globalNamed "loop.example/g00292/impl.errNoProof"=some 6:=by kernel_rfl
theorem t_errNoProof:(Tryz.prog.globals[6]?).map (·.type)=some 55:=by kernel_rfl
theorem zCL:Tryz.prog.globalNamed "loop.example/g00292/impl.errOtherRoot"=some 7:=by kernel_rfl
theorem t_errOtherRoot:(Tryz.prog.globals[7]?).map (·.type)=some 55:=by kernel_rfl
theorem zCK:Tryz.prog.globalNamed "loop.example/g00292/impl.errNotSigned"=some 3:=by kernel_rfl
theorem t_errNotSigned:(Tryz.prog.globals[3]?).map (·.type)=some 55:=by kernel_rfl
theorem zCW:Tryz.prog.globalNamed "loop.example/g00292/impl.errNoQuorum"=some 2:=by kernel_rfl
theorem t_errNoQuorum:(Tryz.prog.globals[2]?).map (·.type)=some 55:=by kernel_rfl
theorem zCf:Tryz.prog.globalNamed "loop.example/g00292/impl.errNotRight"=some 4:=by kernel_rfl
theorem t_errNotRight:(Tryz.prog.globals[4]?).map (·.type)=some 55:=by kernel_rfl
abbrev laidList:List (String × DataW Unit):=[("math/bits.deBruijn32tab",Rows.laid_math_bits_deBruijn32tab),("math/bits.deBruijn64tab",Rows.laid_math_bits_deBruijn64tab),("internal/strconv.uint64pow10",Rows.laid_internal_strconv_uint64pow10),("loop.example/g00292/impl.roundWords",Rows.laid_loop_example_g00292_impl_roundWords),("loop.example/g00292/impl.errNotRight",Rows.laid_loop_example_g00292_impl_errNotRight),("loop.example/g00292/impl.errTooLong",Rows.laid_loop_example_g00292_impl_errTooLong),("loop.example/g00292/impl.errNoTable",Rows.laid_loop_example_g00292_impl_errNoTable),("loop.example/g00292/impl.errOutside",Rows.laid_loop_example_g00292_impl_errOutside),("loop.example/g00292/impl.errNoProof",Rows.laid_loop_example_g00292_impl_errNoProof),("loop.example/g00292/impl.errOtherRoot",Rows.laid_loop_example_g00292_impl_errOtherRoot),("loop.example/g00292/impl.errNotSigned",Rows.laid_loop_example_g00292_impl_errNotSigned),("loop.example/g00292/impl.errNoQuorum",Rows.laid_loop_example_g00292_impl_errNoQuorum)]
theorem door_met (os:Os) (args:Array Value):laidMetH Tryz.prog laidList ((World.doorLaid Tryz.prog 400 os).forCall (fun _ _=>0) ⟨#[],args,[]⟩).memory :=
 laidMetH_of_parts3 (fuel:=8) (laidMet_of_run' 8 (by kernel_rfl) (by kernel_rfl)) (by kernel_rfl) (by kernel_rfl)
theorem list_eq:(Rows.laid_loop_example_g00292_impl_roundWords:DataW Unit)=Lib.tabData .u32 (kList.map nat):=by kernel_rfl
theorem k_len:kList.length=64:=by decide
theorem sentinel {P:Program} {n nm:String} {text:List UInt8} {r:List (String × DataW Unit)} {W:World} {g:Nat} {ti tp te ts:TypeId} {ms:Array (String × TypeId)} {f:Field}
 (h:laidMet P ((n,.iface nm (.ptr (.agg [.lit (.string text)]))) :: r) W)
 (hg:P.globalNamed n=some g) (ht:(P.globals[g]?).map (·.type)=some ti) (hi:P.underlying ti=some (.interface ms)) (hrow:∀ u,P.typeName? 3 u=some nm→u=tp)
 (hp:P.underlying tp=some (.pointer te)) (he:P.underlying te=some (.struct #[f])) (hft:f.type=ts) (hfo:f.offset=0) (hs:P.underlying ts=some .string) (hc:P.cellsOf te=1) (hcs:P.cellsOf ts=1) :
 ∃ (a:Addr) (s:ByteArray),W.var? P n=some #[.iface tp (.pointer (some a))]∧W.cell? a=some (.string s)∧s.data.toList=text∧∃ c t,W.heap[a.block]?=some (.cells c t (0,0)):=by
 obtain ⟨ps,⟨g0,t0,cs0,f0,p0,q0,hg0,ht0,hv0,hd0,_,e0⟩,_,hrows⟩:=h
 obtain rfl:=Option.some.inj (hg.symm.trans hg0)
 obtain rfl:=Option.some.inj (ht.symm.trans ht0)
 subst e0
 obtain ⟨l0⟩:=cs0
 have ok0:∀ u v,l0=[.iface u v]→Value.okWide P W .any 0 u v:=fun u v e=>by
  subst e
  exact (hrows g 0 (by simp [MemPlace.row])).2 u v (by simpa using World.var?_cell hg0 hv0 0)
 obtain ⟨a0,s0,rfl,hc0,hs0,hz0,rfl⟩:=errorString_of_trod hi hrow hp he hft hfo hs hc hcs hd0 ok0
 exact ⟨a0,s0,hv0,hc0,hs0,(hrows a0.block a0.off (by simp [MemPlace.row])).1⟩
theorem tailV {H:Type} {enc:TypeId × Value→H} {P:Program} {w:World} {sp:Nat→Bool} {n:String} {ns:List String} {gs:List (DataW H)} {ps:List MemPlace} (h:DataW.TrodVars enc P w sp (n :: ns) gs ps):∃ d ds q,gs=d :: ds∧DataW.TrodVars enc P w sp ns ds q:=by
 cases gs with
 | nil=>simp [DataW.TrodVars] at h
 | cons d ds =>
   obtain ⟨g,t,cs,fuel,p,q,h1,h2,h3,h4,hs,e⟩:=h
   exact ⟨d,ds,q,rfl,hs⟩
theorem consV {H:Type} (enc:TypeId × Value→H) {P:Program} {W:World} {n:String} {g:Nat} {ti:TypeId} {ms:Array (String × TypeId)} {x:Value} {ns:List String} {gs:List (DataW H)} {ps:List MemPlace} {sp:Nat→Bool}
 (hg:P.globalNamed n=some g) (ht:(P.globals[g]?).map (·.type)=some ti) (hi:P.underlying ti=some (.interface ms)) (h:W.var? P n=some #[x]) (ix:IsIface x) (hr:DataW.TrodVars enc P W sp ns gs ps) :
 DataW.TrodVars enc P W sp (n :: ns) (tok enc x :: gs) (.cell g 0 :: ps) :=
 ⟨g,ti,#[x],1,[],ps,hg,ht,h,trod_held hi ix 0,hr,rfl⟩
structure Vars (W:World) (A:Nat→Addr):Prop where
 v0:W.var? Tryz.prog "loop.example/g00292/impl.errTooLong"=some #[sen (A 0)]
 v1:W.var? Tryz.prog "loop.example/g00292/impl.errNoTable"=some #[sen (A 1)]
 v2:W.var? Tryz.prog "loop.example/g00292/impl.errOutside"=some #[sen (A 2)]
 v3:W.var? Tryz.prog "loop.example/g00292/impl.errNoProof"=some #[sen (A 3)]
 v4:W.var? Tryz.prog "loop.example/g00292/impl.errOtherRoot"=some #[sen (A 4)]
 v5:W.var? Tryz.prog "loop.example/g00292/impl.errNotSigned"=some #[sen (A 5)]
 v6:W.var? Tryz.prog "loop.example/g00292/impl.errNoQuorum"=some #[sen (A 6)]
 v7:W.var? Tryz.prog "loop.example/g00292/impl.errNotRight"=some #[sen (A 7)]
theorem zCD {P:Program} {W W':World} {n:String} {cs:Array Value} (hb:Below W.heap.size W W') (h:W.var? P n=some cs):W'.var? P n=some cs:=by
 unfold World.var? at h ⊢
 cases hg:P.globalNamed n with
 | none=>simp [hg] at h
 | some g =>
   simp only [hg,Option.bind_some] at h ⊢
   have hlt:g<W.heap.size:=by
    rcases Nat.lt_or_ge g W.heap.size with h' | h'
    ·exact h'
    ·simp [Array.getElem?_eq_none h'] at h
   rw [hb.block g hlt]
   exact h
theorem Vars.below {W W':World} {A:Nat→Addr} (h:Vars W A) (hb:Below W.heap.size W W'):Vars W' A:=⟨zCD hb h.v0,zCD hb h.v1,zCD hb h.v2,zCD hb h.v3,zCD hb h.v4,zCD hb h.v5,zCD hb h.v6,zCD hb h.v7⟩
theorem ne_of {W:World} {a b:Addr} {s t:ByteArray} (ha:W.cell? a=some (.string s)) (hb:W.cell? b=some (.string t)) (h:s.data.toList ≠ t.data.toList):a ≠ b:=fun e=>by
 subst e
 rw [ha] at hb
 cases hb
 exact h rfl
theorem readV {H:Type} (enc:TypeId × Value→H) {W:World} {A:Nat→Addr} (h:Vars W A) {sp:Nat→Bool} {dv:DataW H} {q:List MemPlace} (T:DataW.TrodVars enc Tryz.prog W sp ["loop.example/g00292/impl.roundWords"] [dv] q) :
 DataW.TrodVars enc Tryz.prog W sp ["loop.example/g00292/impl.errTooLong","loop.example/g00292/impl.errOutside","loop.example/g00292/impl.errNoQuorum","loop.example/g00292/impl.errNotRight","loop.example/g00292/impl.errNoTable","loop.example/g00292/impl.errNoProof","loop.example/g00292/impl.errOtherRoot","loop.example/g00292/impl.errNotSigned","loop.example/g00292/impl.roundWords"] [tok enc (sen (A 0)),tok enc (sen (A 2)),tok enc (sen (A 6)),tok enc (sen (A 7)),tok enc (sen (A 1)),tok enc (sen (A 3)),tok enc (sen (A 4)),tok enc (sen (A 5)),dv] (.cell 0 0 :: .cell 1 0 :: .cell 2 0 :: .cell 4 0 :: .cell 5 0 :: .cell 6 0 :: .cell 7 0 :: .cell 3 0 :: q) :=
 (consV enc g_errTooLong t_errTooLong Tryz.underlying55 h.v0 trivial (consV enc g_errOutside t_errOutside Tryz.underlying55 h.v2 trivial (consV enc zCW t_errNoQuorum Tryz.underlying55 h.v6 trivial (consV enc zCf t_errNotRight Tryz.underlying55 h.v7 trivial (consV enc g_errNoTable t_errNoTable Tryz.underlying55 h.v1 trivial (consV enc g_errNoProof t_errNoProof Tryz.underlying55 h.v3 trivial (consV enc zCL t_errOtherRoot Tryz.underlying55 h.v4 trivial (consV enc zCK t_errNotSigned Tryz.underlying55 h.v5 trivial T))))))))
set_option maxRecDepth 100000 in
theorem tab_of {W:World} (h:laidMetH Tryz.prog laidList W):(KTab W∧9<W.heap.size)∧∃ A,Sen W A∧Vars W A:=by
 rw [MakeChecks.laidMetH_plain _ _ _ (by kernel_rfl)] at h
 replace h:=laidMet.tail h
 replace h:=laidMet.tail h
 replace h:=laidMet.tail h
 have h0:=h
 obtain ⟨ps,⟨g0,t0,cs0,f0,p0,q0,hg0,ht0,hv0,hd0,_,_⟩,_,_⟩:=h
 obtain rfl:=Option.some.inj (gTab.symm.trans hg0)
 obtain rfl:=Option.some.inj (tTab.symm.trans ht0)
 have e:cs0.toList=(kList.map nat).map fun z=>Value.int .u32 z:=Lib.cells_of_tab Tryz.underlying199 Tryz.underlying175 cells1 cells64 (by rw [← list_eq];exact hd0)
 have ht:KTab W:=by
  intro i hi
  have hl:=k_len
  rw [World.var?_cell hg0 hv0 i,← Array.getElem?_toList,e,List.map_map,List.getElem?_map,List.getElem?_eq_getElem (by omega)]
  unfold kt
  rw [List.getD_eq_getElem?_getD,List.getElem?_eq_getElem (by omega)]
  rfl
 refine ⟨⟨ht,World.block_lt_of_cell? W _ (ht 0 (by decide))⟩,?_⟩
 have k0:=laidMet.tail h0
 obtain ⟨a7,s7,v7,c7,x7,b7⟩:=sentinel k0 zCf t_errNotRight Tryz.underlying55 rowE Tryz.underlying218 Tryz.underlying240 rfl rfl Tryz.underlying9 cellsE cellsS
 have k1:=laidMet.tail k0
 obtain ⟨a0,s0,v0,c0,x0,b0⟩:=sentinel k1 g_errTooLong t_errTooLong Tryz.underlying55 rowE Tryz.underlying218 Tryz.underlying240 rfl rfl Tryz.underlying9 cellsE cellsS
 have k2:=laidMet.tail k1
 obtain ⟨a1,s1,v1,c1,x1,b1⟩:=sentinel k2 g_errNoTable t_errNoTable Tryz.underlying55 rowE Tryz.underlying218 Tryz.underlying240 rfl rfl Tryz.underlying9 cellsE cellsS
 have k3:=laidMet.tail k2
 obtain ⟨a2,s2,v2,c2,x2,b2⟩:=sentinel k3 g_errOutside t_errOutside Tryz.underlying55 rowE Tryz.underlying218 Tryz.underlying240 rfl rfl Tryz.underlying9 cellsE cellsS
 have k4:=laidMet.tail k3
 obtain ⟨a3,s3,v3,c3,x3,b3⟩:=sentinel k4 g_errNoProof t_errNoProof Tryz.underlying55 rowE Tryz.underlying218 Tryz.underlying240 rfl rfl Tryz.underlying9 cellsE cellsS
 have k5:=laidMet.tail k4
 obtain ⟨a4,s4,v4,c4,x4,b4⟩:=sentinel k5 zCL t_errOtherRoot Tryz.underlying55 rowE Tryz.underlying218 Tryz.underlying240 rfl rfl Tryz.underlying9 cellsE cellsS
 have k6:=laidMet.tail k5
 obtain ⟨a5,s5,v5,c5,x5,b5⟩:=sentinel k6 zCK t_errNotSigned Tryz.underlying55 rowE Tryz.underlying218 Tryz.underlying240 rfl rfl Tryz.underlying9 cellsE cellsS
 have k7:=laidMet.tail k6
 obtain ⟨a6,s6,v6,c6,x6,b6⟩:=sentinel k7 zCW t_errNoQuorum Tryz.underlying55 rowE Tryz.underlying218 Tryz.underlying240 rfl rfl Tryz.underlying9 cellsE cellsS
 refine ⟨fun k=>[a0,a1,a2,a3,a4,a5,a6,a7].getD k a0,⟨by simpa [sen] using World.var?_cell g_errTooLong v0 0,by simpa [sen] using World.var?_cell g_errNoTable v1 0,by simpa [sen] using World.var?_cell g_errOutside v2 0,by simpa [sen] using World.var?_cell g_errNoProof v3 0,by simpa [sen] using World.var?_cell zCL v4 0,by simpa [sen] using World.var?_cell zCK v5 0,by simpa [sen] using World.var?_cell zCW v6 0,by simpa [sen] using World.var?_cell zCf v7 0,?_,?_⟩,⟨v0,v1,v2,v3,v4,v5,v6,v7⟩⟩
 ·intro i hi
  rcases (by omega:i=0 ∨ i=1 ∨ i=2 ∨ i=3 ∨ i=4 ∨ i=5 ∨ i=6 ∨ i=7) with rfl | rfl | rfl | rfl | rfl | rfl | rfl | rfl
  ·exact b0
  ·exact b1
  ·exact b2
  ·exact b3
  ·exact b4
  ·exact b5
  ·exact b6
  ·exact b7
 ·intro i j hi hj hij
  rcases (by omega:i=0 ∨ i=1 ∨ i=2 ∨ i=3 ∨ i=4 ∨ i=5 ∨ i=6 ∨ i=7) with rfl | rfl | rfl | rfl | rfl | rfl | rfl | rfl
  ·rcases (by omega:j=1 ∨ j=2 ∨ j=3 ∨ j=4 ∨ j=5 ∨ j=6 ∨ j=7) with rfl | rfl | rfl | rfl | rfl | rfl | rfl
   ·exact ne_of c0 c1 (by rw [x0,x1];decide)
   ·exact ne_of c0 c2 (by rw [x0,x2];decide)
   ·exact ne_of c0 c3 (by rw [x0,x3];decide)
   ·exact ne_of c0 c4 (by rw [x0,x4];decide)
   ·exact ne_of c0 c5 (by rw [x0,x5];decide)
   ·exact ne_of c0 c6 (by rw [x0,x6];decide)
   ·exact ne_of c0 c7 (by rw [x0,x7];decide)
  ·rcases (by omega:j=0 ∨ j=2 ∨ j=3 ∨ j=4 ∨ j=5 ∨ j=6 ∨ j=7) with rfl | rfl | rfl | rfl | rfl | rfl | rfl
   ·exact ne_of c1 c0 (by rw [x1,x0];decide)
   ·exact ne_of c1 c2 (by rw [x1,x2];decide)
   ·exact ne_of c1 c3 (by rw [x1,x3];decide)
   ·exact ne_of c1 c4 (by rw [x1,x4];decide)
   ·exact ne_of c1 c5 (by rw [x1,x5];decide)
   ·exact ne_of c1 c6 (by rw [x1,x6];decide)
   ·exact ne_of c1 c7 (by rw [x1,x7];decide)
  ·rcases (by omega:j=0 ∨ j=1 ∨ j=3 ∨ j=4 ∨ j=5 ∨ j=6 ∨ j=7) with rfl | rfl | rfl | rfl | rfl | rfl | rfl
   ·exact ne_of c2 c0 (by rw [x2,x0];decide)
   ·exact ne_of c2 c1 (by rw [x2,x1];decide)
   ·exact ne_of c2 c3 (by rw [x2,x3];decide)
   ·exact ne_of c2 c4 (by rw [x2,x4];decide)
   ·exact ne_of c2 c5 (by rw [x2,x5];decide)
   ·exact ne_of c2 c6 (by rw [x2,x6];decide)
   ·exact ne_of c2 c7 (by rw [x2,x7];decide)
  ·rcases (by omega:j=0 ∨ j=1 ∨ j=2 ∨ j=4 ∨ j=5 ∨ j=6 ∨ j=7) with rfl | rfl | rfl | rfl | rfl | rfl | rfl
   ·exact ne_of c3 c0 (by rw [x3,x0];decide)
   ·exact ne_of c3 c1 (by rw [x3,x1];decide)
   ·exact ne_of c3 c2 (by rw [x3,x2];decide)
   ·exact ne_of c3 c4 (by rw [x3,x4];decide)
   ·exact ne_of c3 c5 (by rw [x3,x5];decide)
   ·exact ne_of c3 c6 (by rw [x3,x6];decide)
   ·exact ne_of c3 c7 (by rw [x3,x7];decide)
  ·rcases (by omega:j=0 ∨ j=1 ∨ j=2 ∨ j=3 ∨ j=5 ∨ j=6 ∨ j=7) with rfl | rfl | rfl | rfl | rfl | rfl | rfl
   ·exact ne_of c4 c0 (by rw [x4,x0];decide)
   ·exact ne_of c4 c1 (by rw [x4,x1];decide)
   ·exact ne_of c4 c2 (by rw [x4,x2];decide)
   ·exact ne_of c4 c3 (by rw [x4,x3];decide)
   ·exact ne_of c4 c5 (by rw [x4,x5];decide)
   ·exact ne_of c4 c6 (by rw [x4,x6];decide)
   ·exact ne_of c4 c7 (by rw [x4,x7];decide)
  ·rcases (by omega:j=0 ∨ j=1 ∨ j=2 ∨ j=3 ∨ j=4 ∨ j=6 ∨ j=7) with rfl | rfl | rfl | rfl | rfl | rfl | rfl
   ·exact ne_of c5 c0 (by rw [x5,x0];decide)
   ·exact ne_of c5 c1 (by rw [x5,x1];decide)
   ·exact ne_of c5 c2 (by rw [x5,x2];decide)
   ·exact ne_of c5 c3 (by rw [x5,x3];decide)
   ·exact ne_of c5 c4 (by rw [x5,x4];decide)
   ·exact ne_of c5 c6 (by rw [x5,x6];decide)
   ·exact ne_of c5 c7 (by rw [x5,x7];decide)
  ·rcases (by omega:j=0 ∨ j=1 ∨ j=2 ∨ j=3 ∨ j=4 ∨ j=5 ∨ j=7) with rfl | rfl | rfl | rfl | rfl | rfl | rfl
   ·exact ne_of c6 c0 (by rw [x6,x0];decide)
   ·exact ne_of c6 c1 (by rw [x6,x1];decide)
   ·exact ne_of c6 c2 (by rw [x6,x2];decide)
   ·exact ne_of c6 c3 (by rw [x6,x3];decide)
   ·exact ne_of c6 c4 (by rw [x6,x4];decide)
   ·exact ne_of c6 c5 (by rw [x6,x5];decide)
   ·exact ne_of c6 c7 (by rw [x6,x7];decide)
  ·rcases (by omega:j=0 ∨ j=1 ∨ j=2 ∨ j=3 ∨ j=4 ∨ j=5 ∨ j=6) with rfl | rfl | rfl | rfl | rfl | rfl | rfl
   ·exact ne_of c7 c0 (by rw [x7,x0];decide)
   ·exact ne_of c7 c1 (by rw [x7,x1];decide)
   ·exact ne_of c7 c2 (by rw [x7,x2];decide)
   ·exact ne_of c7 c3 (by rw [x7,x3];decide)
   ·exact ne_of c7 c4 (by rw [x7,x4];decide)
   ·exact ne_of c7 c5 (by rw [x7,x5];decide)
   ·exact ne_of c7 c6 (by rw [x7,x6];decide)
end Go.Proofs.YtakfniknkejgpaaGreatDoor.Hl
