/- Texts put together: Rb, Qc, Tb. -/
import Derived.Test.YtakfniknkejgpaaGreatDoorMi3
import Derived.Test.YtakfniknkejgpaaGreatDoorProg
import Derived.RowKit
import Derived.Below
import Derived.OpenShut
import Derived.Deep.Fields
import Derived.Deep.Slices
import Derived.Deep.Fields23
import Derived.Deep.RegionLaw
namespace Go.Proofs.YtakfniknkejgpaaGreatDoor.Rq
open Go.RowKit
def inB (x a b:Int):Bool:=decide (a≤x∧x≤b)
theorem zAG {a b:Bool} (h:a=b):Ending.returned (.bool a)=.returned (.bool b):=by rw [h]
theorem zAR (x a b:Int) (w:World) :
 Calls Tryz.prog 33 #[.int .i64 x,.int .i64 a,.int .i64 b] w fun e w'=>e=.returned (.bool (inB x a b))∧w'=w:=by
 by_cases h1:a≤x
 ·by_cases h2:x≤b
  all_goals
   go_enter Tryz.func33,Tryz.ntmps33
   go_wp2
   go_ret
   exact ⟨zAG (by unfold inB;rw [Bool.eq_iff_iff];simp;try omega),rfl⟩
 ·go_enter Tryz.func33,Tryz.ntmps33
  go_wp2
  go_ret
  exact ⟨zAG (by unfold inB;rw [Bool.eq_iff_iff];simp;try omega),rfl⟩
theorem zAl (x a b:Int) (w:World) :
 Calls Tryz.prog 40 #[.int .i64 x,.int .i64 a,.int .i64 b] w fun e w'=>e=.returned (.bool (inB x a b))∧w'=w:=by
 by_cases h1:a≤x
 ·by_cases h2:x≤b
  all_goals
   go_enter Tryz.func40,Tryz.ntmps40
   go_wp2
   go_ret
   exact ⟨zAG (by unfold inB;rw [Bool.eq_iff_iff];simp;try omega),rfl⟩
 ·go_enter Tryz.func40,Tryz.ntmps40
  go_wp2
  go_ret
  exact ⟨zAG (by unfold inB;rw [Bool.eq_iff_iff];simp;try omega),rfl⟩
def opB (n:ByteArray):Bool:=decide (n.size≤12) && Nm.zBm n
theorem opNameOK_any (n:ByteArray) (w:World) (hs:n.size≤maxLen) :
 Calls Tryz.prog 113 #[.string n] w fun e w'=>e=.returned (.bool (opB n))∧Below w.heap.size w w':=by
 by_cases h:n.size≤12
 ·have h1:(n.size:Int)≤12:=by omega
  have HO:Hid (opB n=Nm.zBm n):=by show opB n=Nm.zBm n;unfold opB;simp [h]
  go_enter Tryz.func113,Tryz.ntmps113
  go_wp2_with (go_at_call 129;refine (Nm.implNameOK_any _ _ hs).mono ?_;rintro e w' ⟨rfl,hb⟩)
  go_ret
  exact ⟨zAG HO.out.symm,hb⟩
 ·have h1:(12:Int)<(n.size:Int):=by omega
  have HO:Hid (opB n=false):=by show opB n=false;unfold opB;simp [h]
  go_enter Tryz.func113,Tryz.ntmps113
  go_wp2
  go_ret
  exact ⟨zAG HO.out.symm,Below.refl _ _⟩
theorem zCX (n:ByteArray) (w:World) (hs:n.size≤maxLen) :
 Calls Tryz.prog 41 #[.string n,.int .i64 12] w fun e w'=>e=.returned (.bool (opB n))∧w'=w:=by
 cases h:inB (n.size:Int) 1 12
 ·have HO:Hid (opB n=false):=by
   show opB n=false
   unfold inB at h
   unfold opB Nm.zBm
   simp at h ⊢
   omega
  go_enter Tryz.func41,Tryz.ntmps41
  go_wp2_with (go_at_call 40;refine (zAl _ _ _ _).mono ?_;rintro e w' ⟨rfl,rfl⟩)
  go_ret
  exact ⟨zAG HO.out.symm,rfl⟩
 ·have HO:Hid (opB n=Nm.zBm n):=by
   show opB n=Nm.zBm n
   unfold inB at h
   unfold opB
   simp at h ⊢
   omega
  go_enter Tryz.func41,Tryz.ntmps41
  go_wp2_with (first | (go_at_call 40;refine (zAl _ _ _ _).mono ?_;rintro e w' ⟨rfl,rfl⟩) | (go_at_call 70;refine (Nm.specNameOK_any _ _ hs).mono ?_;rintro e w' ⟨rfl,rfl⟩))
  go_ret
  exact ⟨zAG HO.out.symm,rfl⟩
end Go.Proofs.YtakfniknkejgpaaGreatDoor.Rq
namespace Go.Proofs.YtakfniknkejgpaaGreatDoor.Qc
open Go.RowKit
theorem zAF {P:Program} {id:Nat} {Q:Exit→Act→World→Prop} {a:Act} {w:World} {l:List Oper} {X:Type} {W:X→World} (hm:P.follows .mixedOrders=true) (hB:Region.lexB .any l.toArray=true) (hC:∃ x,w.drew=W x)
 (h:wpQuiet P l.toArray (fun w'=>∃ x,w'=W x) (fun a'=>∀ w',(∃ x,w'=W x)→Q .normal a' w') l a):(Code.region id l.toArray true).wp P Q a w :=
 wp_region_quiet (C:=fun w'=>∃ x,w'=W x) hm hB hC (by simpa using h)
theorem zAo (w:World):∃ (X:Type) (_:Nonempty X) (W:X→World),(∀ w',Below w.heap.size w w'→∃ x,w'=W x)∧∀ x,Below w.heap.size w (W x) :=
 ⟨{w':World // Below w.heap.size w w'},⟨⟨w,Below.refl _ _⟩⟩,fun x=>x.1,fun w' h=>⟨⟨w',h⟩,rfl⟩,fun x=>x.2⟩
theorem zAJ {w:World}:Below w.heap.size w w.drew:=(Below.refl _ _).drew
theorem back {w:World} {X:Type} {W:X→World} {x:X} {w':World} (HI:∀ w',Below w.heap.size w w'→∃ x,w'=W x) (HO:∀ x,Below w.heap.size w (W x)) (h:Below (W x).heap.size (W x) w'):∃ m,w'=W m :=
 HI _ ((HO x).trans (h.mono (HO x).size))
theorem cell_in {w:World} {X:Type} {W:X→World} (HO:∀ x,Below w.heap.size w (W x)) {p:Addr} {v:Value} (hp:p.block<w.heap.size) (h:w.cell? p=some v):∀ x,(W x).cell? p=some v:=fun x=>((HO x).cell hp).trans h
theorem lt_of_cell {w:World} {p:Addr} {v:Value} (h:w.cell? p=some v):p.block<w.heap.size:=World.block_lt_of_cell? w p h
theorem zAC {w:World} {X:Type} {W:X→World} (HO:∀ x,Below w.heap.size w (W x)) {p:Addr} {v:Value} (h:w.cell? p=some v):∀ x,(W x).cell? p=some v:=cell_in HO (lt_of_cell h) h
end Go.Proofs.YtakfniknkejgpaaGreatDoor.Qc
namespace Go.Proofs.YtakfniknkejgpaaGreatDoor.Tb
open Go.RowKit Sl Ap Tx
def RowG {α:Type} (c:Nat) (E:World→Nat→Nat→α→Prop) (w:World) (v:Value) (xs:List α):Prop :=
 ∃ a cap,v=.slice a xs.length cap∧(xs=[] ∨ ∃ b off,a=some ⟨b,off,none⟩∧xs.length≤cap∧b<w.heap.size∧∀ i x,xs[i]?=some x→E w b (off+i * c) x)
def Stays {α:Type} (E:World→Nat→Nat→α→Prop):Prop:=∀ w w' b o x,Below w.heap.size w w'→b<w.heap.size→E w b o x→E w' b o x
theorem RowG.below {α:Type} {c:Nat} {E:World→Nat→Nat→α→Prop} (hE:Stays E) {w w':World} {v:Value} {xs:List α} (h:RowG c E w v xs) (hb:Below w.heap.size w w'):RowG c E w' v xs:=by
 obtain ⟨a,cap,rfl,h⟩:=h
 refine ⟨a,cap,rfl,?_⟩
 rcases h with h | ⟨b,off,rfl,hc,hlt,h⟩
 ·exact .inl h
 ·exact .inr ⟨b,off,rfl,hc,Nat.lt_of_lt_of_le hlt hb.size,fun i x hi=>hE _ _ _ _ _ hb hlt (h i x hi)⟩
theorem RowG.at {α:Type} {c:Nat} {E:World→Nat→Nat→α→Prop} {w:World} {v:Value} {a:Option Addr} {n cap:Nat} {xs:List α} (h:RowG c E w v xs) (hv:v=.slice a n cap) {i:Nat} {x:α} (hi:xs[i]?=some x) :
 ∃ b off,a=some ⟨b,off,none⟩∧b<w.heap.size∧E w b (off+i * c) x:=by
 obtain ⟨a',cap',rfl,h⟩:=h
 cases hv
 rcases h with h | ⟨b,off,rfl,hc,hlt,h⟩
 ·rw [h] at hi;simp at hi
 ·exact ⟨b,off,rfl,hlt,h i x hi⟩
theorem RowG.slice {α:Type} {c:Nat} {E:World→Nat→Nat→α→Prop} {w:World} {v:Value} {xs:List α} (h:RowG c E w v xs):∃ a cap,v=.slice a xs.length cap:=by
 obtain ⟨a,cap,rfl,_⟩:=h
 exact ⟨a,cap,rfl⟩
structure Wt where
 c:Int
 l:Int
structure Lk where
 n:ByteArray
 t:Int
 h:Int
 e:Int
 ws:List Wt
structure Sn where
 c:Int
 s:Int
 k:Int
 t:Int
 h:Int
 e:Int
structure Tab where
 tm:Int
 nx:Int
 ls:List Lk
 ss:List Sn
instance:Inhabited Wt:=⟨⟨0,0⟩⟩
instance:Inhabited Lk:=⟨⟨⟨#[]⟩,0,0,0,[]⟩⟩
instance:Inhabited Sn:=⟨⟨0,0,0,0,0,0⟩⟩
def EW (w:World) (b o:Nat) (x:Wt):Prop:=w.cell? ⟨b,o,none⟩=some (.int .i64 x.c)∧w.cell? ⟨b,o+1,none⟩=some (.int .i64 x.l)
def RowW (w:World) (v:Value) (xs:List Wt):Prop:=RowG 2 EW w v xs
def EL (w:World) (b o:Nat) (x:Lk):Prop:=∃ u,w.cell? ⟨b,o,none⟩=some (.string x.n)∧w.cell? ⟨b,o+1,none⟩=some (.int .i64 x.t)∧w.cell? ⟨b,o+2,none⟩=some (.int .i64 x.h)∧w.cell? ⟨b,o+3,none⟩=some (.int .i64 x.e)∧w.cell? ⟨b,o+4,none⟩=some u∧RowW w u x.ws
def RowL (w:World) (v:Value) (xs:List Lk):Prop:=RowG 5 EL w v xs
def ES (w:World) (b o:Nat) (x:Sn):Prop:=w.cell? ⟨b,o,none⟩=some (.int .i64 x.c)∧w.cell? ⟨b,o+1,none⟩=some (.int .i64 x.s)∧w.cell? ⟨b,o+2,none⟩=some (.int .i64 x.k)∧w.cell? ⟨b,o+3,none⟩=some (.int .i64 x.t)∧w.cell? ⟨b,o+4,none⟩=some (.int .i64 x.h)∧w.cell? ⟨b,o+5,none⟩=some (.int .i64 x.e)
def RowS (w:World) (v:Value) (xs:List Sn):Prop:=RowG 6 ES w v xs
theorem stays_W:Stays EW:=fun _ _ b _ _ hb hlt ⟨h0,h1⟩=>⟨(hb.cell (p:=⟨b,_,none⟩) hlt).trans h0,(hb.cell (p:=⟨b,_,none⟩) hlt).trans h1⟩
theorem RowW.below {w w':World} {v:Value} {xs:List Wt} (h:RowW w v xs) (hb:Below w.heap.size w w'):RowW w' v xs:=RowG.below stays_W h hb
theorem stays_L:Stays EL:=fun _ _ b _ _ hb hlt ⟨u,h0,h1,h2,h3,h4,h5⟩=>⟨u,(hb.cell (p:=⟨b,_,none⟩) hlt).trans h0,(hb.cell (p:=⟨b,_,none⟩) hlt).trans h1,(hb.cell (p:=⟨b,_,none⟩) hlt).trans h2,(hb.cell (p:=⟨b,_,none⟩) hlt).trans h3,(hb.cell (p:=⟨b,_,none⟩) hlt).trans h4,h5.below hb⟩
theorem RowL.below {w w':World} {v:Value} {xs:List Lk} (h:RowL w v xs) (hb:Below w.heap.size w w'):RowL w' v xs:=RowG.below stays_L h hb
theorem stays_S:Stays ES:=fun _ _ b _ _ hb hlt ⟨h0,h1,h2,h3,h4,h5⟩=>⟨(hb.cell (p:=⟨b,_,none⟩) hlt).trans h0,(hb.cell (p:=⟨b,_,none⟩) hlt).trans h1,(hb.cell (p:=⟨b,_,none⟩) hlt).trans h2,(hb.cell (p:=⟨b,_,none⟩) hlt).trans h3,(hb.cell (p:=⟨b,_,none⟩) hlt).trans h4,(hb.cell (p:=⟨b,_,none⟩) hlt).trans h5⟩
theorem RowS.below {w w':World} {v:Value} {xs:List Sn} (h:RowS w v xs) (hb:Below w.heap.size w w'):RowS w' v xs:=RowG.below stays_S h hb
def tabV (tm nx:Int) (vl vs:Value):Value:=.agg #[.int .i64 tm,.int .i64 nx,vl,vs]
end Go.Proofs.YtakfniknkejgpaaGreatDoor.Tb
namespace Go.Proofs.YtakfniknkejgpaaGreatDoor.Op
open Go.ChangeShapes Go.WideShapes Go.ChangeAt Go.RowKit Go.Deep Tb
section
variable {H:Type} {enc:TypeId × Value→H} {w:World} {base:Nat} {spare:Nat→Bool} {held:Bool}
theorem k1:Tryz.prog.cellsOf 3=1:=by kernel_rfl
theorem k2:Tryz.prog.cellsOf 9=1:=by kernel_rfl
end
end Go.Proofs.YtakfniknkejgpaaGreatDoor.Op
