/- Texts put together: Xb, Xcr, Xc. -/
import Derived.Test.YtakfniknkejgpaaGreatDoorMi13
import Derived.Test.YtakfniknkejgpaaGreatDoorMi7
import Derived.Lib.BitFns
import Derived.Lib.Strings
import Derived.Lib.Slices
import Derived.Lib.Small
import Derived.Lib.Walk
namespace Go.Proofs.YtakfniknkejgpaaGreatDoor.Xq
open Go.RowKit Tm
open Qm (qOut inB)
noncomputable def bOf (p:Prop):Bool:=@decide p (Classical.propDecidable p)
theorem zAY {p:Prop} (h:p):bOf p=true:=by unfold bOf;simp [h]
theorem zAP {p:Prop} (h:¬ p):bOf p=false:=by unfold bOf;simp [h]
theorem bOf_iff {p:Prop}:bOf p=true ↔ p:=by unfold bOf;simp
def okN (id n:Int):Bool:=decide (zAz n=0) && inB id 0 (n - 1)
def isV (n x:Int):Bool:=okN x n
def frn (x:Int):Nat:=x.toNat
theorem f_small {n:Int} (h:zAz n=0):1≤n∧n≤7:=by
 rcases f_cases n with rfl | rfl | rfl | ⟨_,_,_,_,hd⟩
 ·decide
 ·decide
 ·decide
 ·rw [hd] at h;cases h
theorem f_four {n:Int} (h:¬ zAz n=0):zAz n=4:=by
 rcases f_cases n with rfl | rfl | rfl | ⟨_,_,_,_,hd⟩
 ·exact absurd rfl h
 ·exact absurd rfl h
 ·exact absurd rfl h
 ·exact hd
theorem okN_iff {n x:Int}:okN x n=true ↔ zAz n=0∧0≤x∧x≤n - 1:=by
 unfold okN inB;simp
theorem zBZ {n:Int} {x:Int} (h:isV n x=true):x=(frn x:Int)∧frn x<7:=by
 obtain ⟨h1,h2,h3⟩:=okN_iff.1 h
 have:=f_small h1
 unfold frn
 omega
def msk (ms:List Int):Nat→Nat
 | 0=>0
 | k+1=>msk ms k ||| 2 ^ frn (ms.getD k default)
theorem msk_step {ms:List Int} {k:Nat} {x:Int} (h:ms[k]?=some x):msk ms (k+1)=msk ms k ||| 2 ^ frn x:=by
 show msk ms k ||| 2 ^ frn (ms.getD k default)=_
 rw [List.getD_eq_getElem?_getD,h];rfl
theorem or_add {h i:Nat} (hh:h<2 ^ i):h ||| 2 ^ i=2 ^ i+h:=by
 have:=Nat.two_pow_add_eq_or_of_lt hh 1
 simp at this
 rw [this,Nat.or_comm]
theorem pop_step:∀ h:Fin 128,∀ i:Fin 7,h.val<2 ^ i.val→Lib.onesCount (h.val ||| 2 ^ i.val)=Lib.onesCount h.val+1:=by decide +kernel
theorem pop_zero:Lib.onesCount 0=0:=by decide +kernel
def GoodTo (n:Int) (ms:List Int) (k:Nat):Prop:=∀ j x,j<k→ms[j]?=some x→isV n x=true∧msk ms j<2 ^ frn x
def Rise (ms:List Int) (k:Nat):Prop:=∀ j x y,j+1<k→ms[j]?=some x→ms[j+1]?=some y→x<y
theorem GoodTo.zero (n:Int) (ms:List Int):GoodTo n ms 0:=fun j x h=>by omega
theorem GoodTo.succ {n:Int} {ms:List Int} {k:Nat} {x:Int} (h:GoodTo n ms k) (hx:ms[k]?=some x) (h1:isV n x=true) (h2:msk ms k<2 ^ frn x):GoodTo n ms (k+1):=fun j y hj hy=>by
 by_cases e:j=k
 ·subst e;rw [hx] at hy;cases hy;exact ⟨h1,h2⟩
 ·exact h j y (by omega) hy
theorem GoodTo.less {n:Int} {ms:List Int} {k m:Nat} (h:GoodTo n ms k) (hm:m≤k):GoodTo n ms m:=fun j y hj hy=>h j y (by omega) hy
theorem pow_le7 {i:Nat} (h:i<7):2 ^ i+2 ^ i≤128:=by
 have:∀ i:Fin 7,2 ^ i.val+2 ^ i.val≤128:=by decide
 exact this ⟨i,h⟩
theorem zCB {n:Int} {ms:List Int}:∀ {k:Nat},GoodTo n ms k→k≤ms.length→msk ms k<128∧Lib.onesCount (msk ms k)=k∧∀ i,i≤7→((∀ j x,j<k→ms[j]?=some x→frn x<i) ↔ msk ms k<2 ^ i)
 | 0,_,_=>⟨by show (0:Nat)<128;decide,pop_zero,fun i _=>⟨fun _=>Nat.two_pow_pos i,fun _ j x h=>by omega⟩⟩
 | k+1,h,hk=>by
   obtain ⟨x,hx⟩:=Rg.get_at (show k<ms.length by omega)
   obtain ⟨h1,h2,h3⟩:=zCB (h.less (Nat.le_succ k)) (by omega)
   obtain ⟨g1,g2⟩:=h k x (by omega) hx
   obtain ⟨_,g3⟩:=zBZ g1
   rw [msk_step hx]
   have e:=or_add g2
   have p:=pow_le7 g3
   refine ⟨by omega,?_,fun i hi=>?_⟩
   ·have:=pop_step ⟨msk ms k,h1⟩ ⟨frn x,g3⟩ g2
    simp only at this
    rw [this,h2]
   ·rw [e]
    constructor
    ·intro hh
     have hf:=hh k x (by omega) hx
     have:2 ^ (frn x+1)≤2 ^ i:=Nat.pow_le_pow_right (by decide) hf
     rw [Nat.pow_succ] at this
     omega
    ·intro hh j y hj hy
     have hfi:frn x<i:=by
      refine Nat.lt_of_not_le fun hle=>?_
      have:2 ^ i≤2 ^ frn x:=Nat.pow_le_pow_right (by decide) hle
      omega
     by_cases ej:j=k
     ·subst ej;rw [hx] at hy;cases hy;exact hfi
     ·exact Nat.lt_trans ((h3 (frn x) (by omega)).2 g2 j y (by omega) hy) hfi
theorem good_all {n:Int} {ms:List Int}:∀ {k:Nat},k≤ms.length→(GoodTo n ms k ↔ (∀ j x,j<k→ms[j]?=some x→isV n x=true)∧Rise ms k)
 | 0,_=>⟨fun _=>⟨fun j x h=>by omega,fun j x y h=>by omega⟩,fun _=>GoodTo.zero n ms⟩
 | k+1,hk=>by
   obtain ⟨x,hx⟩:=Rg.get_at (show k<ms.length by omega)
   have ih:=good_all (n:=n) (ms:=ms) (show k≤ms.length by omega)
   constructor
   ·intro h
    obtain ⟨a1,a2⟩:=ih.1 (h.less (Nat.le_succ k))
    refine ⟨fun j y hj hy=>(h j y hj hy).1,fun j y z hj hy hz=>?_⟩
    by_cases ej:j+1=k
    ·subst ej
     rw [hx] at hz;cases hz
     obtain ⟨g1,g2⟩:=h (j+1) x (by omega) hx
     have g0:=(h j y (by omega) hy).1
     have:=((zCB (h.less (Nat.le_succ (j+1))) (by omega)).2.2 (frn x) (by have:=(zBZ g1).2;omega)).2 g2 j y (by omega) hy
     rw [(zBZ g0).1,(zBZ g1).1]
     omega
    ·exact a2 j y z (by omega) hy hz
   ·rintro ⟨a1,a2⟩
    have h:=ih.2 ⟨fun j y hj hy=>a1 j y (by omega) hy,fun j y z hj hy hz=>a2 j y z (by omega) hy hz⟩
    refine h.succ hx (a1 k x (by omega) hx) ?_
    obtain ⟨_,_,h3⟩:=zCB h (by omega)
    have g1:=a1 k x (by omega) hx
    refine (h3 (frn x) (by have:=(zBZ g1).2;omega)).1 fun j y hj hy=>?_
    by_cases ek:k=0
    ·omega
    obtain ⟨m,rfl⟩ : ∃ m,k=m+1:=⟨k - 1,by omega⟩
    obtain ⟨z,hz⟩:=Rg.get_at (show m<ms.length by omega)
    have hzx:=a2 m z x (by omega) hz hx
    have gz:=a1 m z (by omega) hz
    have hzx':frn z<frn x:=by rw [(zBZ gz).1,(zBZ g1).1] at hzx;omega
    by_cases ej:j=m
    ·subst ej;rw [hz] at hy;cases hy;exact hzx'
    ·have hp:=(h m z (by omega) hz).2
     have:=((zCB (h.less (Nat.le_succ m)) (by omega)).2.2 (frn z) (by have:=(zBZ gz).2;omega)).2 hp j y (by omega) hy
     omega
noncomputable def qvB (n:Int) (ms:List Int):Bool:=bOf (GoodTo n ms ms.length) && (decide (zAz n=0) && decide ((Lib.onesCount (msk ms ms.length):Int)=qOut n))
theorem qv_iff {n:Int} {ms:List Int}:qvB n ms=true ↔ zAz n=0∧(ms.length:Int)=qOut n∧(∀ x ∈ ms,isV n x=true)∧Rise ms ms.length:=by
 unfold qvB
 rw [Bool.and_eq_true,Bool.and_eq_true,bOf_iff,decide_eq_true_eq,decide_eq_true_eq]
 constructor
 ·rintro ⟨h1,h2,h3⟩
  rw [(zCB h1 (Nat.le_refl _)).2.1] at h3
  obtain ⟨a1,a2⟩:=(good_all (Nat.le_refl _)).1 h1
  refine ⟨h2,h3,fun x hx=>?_,a2⟩
  obtain ⟨j,hj,e⟩:=List.getElem_of_mem hx
  exact a1 j x hj (by rw [List.getElem?_eq_getElem hj,e])
 ·rintro ⟨h1,h2,h3,h4⟩
  have hg:GoodTo n ms ms.length:=(good_all (Nat.le_refl _)).2 ⟨fun j x hj hx=>h3 x (List.mem_of_getElem? hx),h4⟩
  refine ⟨hg,h1,?_⟩
  rw [(zCB hg (Nat.le_refl _)).2.1]
  exact h2
theorem ret_b {a b:Bool} (h:a=b):Ending.returned (.bool a)=.returned (.bool b):=by rw [h]
theorem ret_v {a b:Value} (h:a=b):Ending.returned a=.returned b:=by rw [h]
theorem ones_int (x:Int) (w:World) (h0:0≤x) (h1:x≤255):Calls Tryz.prog 80 #[.int .u8 x] w fun e w'=>e=.returned (.int .i64 (Lib.onesCount x.toNat))∧w'=w:=by
 have e:wrap64 (Lib.pop8 x)=(Lib.onesCount x.toNat:Int):=by unfold wrap64;exact Lib.pop8_int x h0 h1
 rw [← e]
 clear e
 go_enter Tryz.func80,Tryz.ntmps80
 go_wp2
 go_ret
 exact ⟨rfl,rfl⟩
theorem ones_any (h:Nat) (w:World) (hh:h<128):Calls Tryz.prog 80 #[.int .u8 h] w fun e w'=>e=.returned (.int .i64 (Lib.onesCount h))∧w=w' :=
 (ones_int h w (by omega) (by omega)).mono fun e w' he=>⟨by rw [he.1,Int.toNat_natCast],he.2.symm⟩
theorem shr_lt:∀ h:Fin 128,∀ i:Fin 7,((h.val / 2 ^ i.val == 0)=decide (h.val<2 ^ i.val)):=by decide +kernel
set_option maxRecDepth 100000 in
theorem allBelow_any (h i:Nat) (w:World) (hh:h<128) (hi:i<7):Calls Tryz.prog 77 #[.int .u8 h,.int .i64 i] w fun e w'=>e=.returned (.bool (decide (h<2 ^ i)))∧w=w':=by
 have hk:∀ i:Nat,i<7→i=0 ∨ i=1 ∨ i=2 ∨ i=3 ∨ i=4 ∨ i=5 ∨ i=6:=fun i h=>by omega
 have hs:=shr_lt ⟨h,hh⟩ ⟨i,hi⟩
 simp only at hs
 rw [← hs]
 clear hs
 rcases hk i hi with rfl | rfl | rfl | rfl | rfl | rfl | rfl
 all_goals
  go_enter Tryz.func77,Tryz.ntmps77
  go_wp2_with fail
  go_ret
  refine ⟨ret_b ?_,rfl⟩
  rw [Bool.eq_iff_iff,beq_iff_eq,beq_iff_eq]
  simp only [Nat.reducePow]
  omega
theorem with_or:∀ h:Fin 128,∀ i:Fin 7,bits .or .u8 (h.val:Int) ((2 ^ i.val:Nat):Int)=((h.val ||| 2 ^ i.val:Nat):Int):=by decide +kernel
set_option maxRecDepth 100000 in
theorem zBz (h i:Nat) (w:World) (hh:h<128) (hi:i<7):Calls Tryz.prog 78 #[.int .u8 h,.int .i64 i] w fun e w'=>e=.returned (.int .u8 ((h ||| 2 ^ i:Nat):Int))∧w=w':=by
 have hk:∀ i:Nat,i<7→i=0 ∨ i=1 ∨ i=2 ∨ i=3 ∨ i=4 ∨ i=5 ∨ i=6:=fun i h=>by omega
 rcases hk i hi with rfl | rfl | rfl | rfl | rfl | rfl | rfl
 all_goals
  go_enter Tryz.func78,Tryz.ntmps78
  go_wp2_with fail
  go_ret
  refine ⟨ret_v ?_,rfl⟩
  exact congrArg (Value.int .u8) (with_or ⟨h,hh⟩ ⟨_,hi⟩)
theorem isQuorum_any (h:Nat) (n:Int) (w:World) (hh:h<128):Calls Tryz.prog 50 #[.int .u8 h,.int .i64 n] w fun e w'=>e=.returned (.bool (decide (zAz n=0) && decide ((Lib.onesCount h:Int)=qOut n)))∧w=w':=by
 have HO:=ones_any h w hh
 have HQ:=Qm.implQuorumOf_any n w
 by_cases hf:zAz n=0
 ·rw [hf] at HQ ⊢
  generalize (Lib.onesCount h:Int)=oc at HO ⊢
  generalize qOut n=q at HQ ⊢
  go_enter Tryz.func50,Tryz.ntmps50
  go_wp2_with fail
  refine HQ.mono ?_
  rintro e w1 ⟨rfl,rfl⟩
  go_wp2_with fail
  refine HO.mono ?_
  rintro e w1 ⟨rfl,rfl⟩
  go_wp2_with fail
  go_ret
  exact ⟨ret_b (by rw [Bool.eq_iff_iff,beq_iff_eq,Bool.and_eq_true,decide_eq_true_eq,decide_eq_true_eq];simp),rfl⟩
 ·have hf':(zAz n == 0)=false:=by simp [hf]
  rw [decide_eq_false hf]
  generalize zAz n=fc at HQ hf hf'
  generalize qOut n=q at HQ
  go_enter Tryz.func50,Tryz.ntmps50
  go_wp2_with fail
  refine HQ.mono ?_
  rintro e w1 ⟨rfl,rfl⟩
  go_wp2_with fail
  go_ret
  exact ⟨ret_b (by simp),rfl⟩
set_option maxRecDepth 100000 in
set_option maxHeartbeats 1600000 in
theorem isNode_any (id n:Int) (w:World):Calls Tryz.prog 76 #[.int .i64 n,.int .i64 id] w fun e w'=>e=.returned (.bool (okN id n))∧w=w':=by
 by_cases h:zAz n=0
 ·have hb:=f_small h
  have HO:Hid (okN id n=inB id 0 (n - 1)):=by show _=_;unfold okN;rw [decide_eq_true h];rfl
  rw [HO.out]
  have HF:=zAX n w
  rw [h] at HF
  clear h
  go_enter Tryz.func76,Tryz.ntmps76
  go_wp2_with fail
  refine HF.mono ?_
  rintro e w1 ⟨rfl,hw⟩
  rw [hw]
  clear hw
  go_wp2_with fail
  refine (Qm.zAR id 0 (n - 1) w).mono ?_
  rintro e w2 ⟨rfl,rfl⟩
  go_wp2_with fail
  go_ret
  exact ⟨by simp,rfl⟩
 ·have HO:Hid (okN id n=false):=by show _=_;unfold okN;rw [decide_eq_false h];rfl
  rw [HO.out]
  have h4:zAz n=4:=f_four h
  have HF:=zAX n w
  rw [h4] at HF
  clear h h4
  go_enter Tryz.func76,Tryz.ntmps76
  go_wp2_with fail
  refine HF.mono ?_
  rintro e w1 ⟨rfl,hw⟩
  rw [hw]
  clear hw
  go_wp2_with fail
  go_ret
  exact ⟨rfl,rfl⟩
end Go.Proofs.YtakfniknkejgpaaGreatDoor.Xq
namespace Go.Proofs.YtakfniknkejgpaaGreatDoor.Xq
open Go.RowKit Tm Sl Is
open Qm (qOut inB)
open Rg (RowG RowG.slice RowG.at lt_at zAA zAD)
def RowJ (w:World) (v:Value) (xs:List Int):Prop :=
 ∃ a cap,v=.slice a xs.length cap∧(xs=[] ∨ ∃ b off,a=some ⟨b,off,none⟩∧xs.length≤cap∧b<w.heap.size∧∀ i x,xs[i]?=some x→w.cell? ⟨b,off+i,none⟩=some (.int .i64 x))
theorem RowJ.below {w w':World} {v:Value} {xs:List Int} (h:RowJ w v xs) (hb:Below w.heap.size w w'):RowJ w' v xs:=by
 obtain ⟨a,cap,rfl,h⟩:=h
 refine ⟨a,cap,rfl,?_⟩
 rcases h with h | ⟨b,off,rfl,hc,hlt,h⟩
 ·exact .inl h
 ·exact .inr ⟨b,off,rfl,hc,Nat.lt_of_lt_of_le hlt hb.size,fun i x hi=>(hb.cell (p:=⟨b,off+i,none⟩) hlt).trans (h i x hi)⟩
theorem RowJ.of_own {w:World} {B:Nat} {v:Value} {xs:List Int} (h:OwnI w B v xs):RowJ w v xs:=by
 obtain ⟨hl,h⟩:=h
 rcases h with ⟨rfl,h0⟩ | ⟨g,cap,cur,rfl,hB,hg,hc,_,hs,htk⟩
 ·exact ⟨none,0,by rw [h0],.inl (List.length_eq_zero_iff.1 h0)⟩
 ·refine ⟨_,cap,rfl,.inr ⟨g,0,rfl,hc,(Array.getElem?_eq_some_iff.1 hg).1,fun i x hi=>?_⟩⟩
  have h1:(cur.toList.take (xs.length * 1))[i]?=some (.int .i64 x):=by
   rw [htk,List.getElem?_map,hi];rfl
  rw [List.getElem?_take] at h1
  split at h1
  ·simp only [World.cell?,hg,Nat.zero_add]
   simpa using h1
  ·cases h1
theorem RowJ.at {w:World} {a:Option Addr} {l cap:Nat} {xs:List Int} {i:Nat} {x:Int} (h:RowJ w (.slice a l cap) xs) (hi:xs[i]?=some x):∃ b off,a=some ⟨b,off,none⟩∧b<w.heap.size∧w.cell? ⟨b,off+i,none⟩=some (.int .i64 x):=by
 obtain ⟨a',cap',e,h⟩:=h
 cases e
 rcases h with rfl | ⟨b,off,rfl,_,hlt,h⟩
 ·simp at hi
 ·exact ⟨b,off,rfl,hlt,h i x hi⟩
theorem ret_ub {a b:Int} {c d:Bool} (h:a=b∧c=d):Ending.returned (.tuple #[.int .u8 a,.bool c])=.returned (.tuple #[.int .u8 b,.bool d]):=by rw [h.1,h.2]
noncomputable def rnB (n:Int) (ms:List Int):Bool:=bOf (GoodTo n ms ms.length)
noncomputable def rnM (n:Int) (ms:List Int):Nat:=if rnB n ms then msk ms ms.length else 0
theorem rn_not {n:Int} {ms:List Int} {k:Nat} {x:Int} (hx:ms[k]?=some x) (h:¬ (isV n x=true∧msk ms k<2 ^ frn x)):rnM n ms=0∧rnB n ms=false:=by
 have e:rnB n ms=false:=zAP (fun hg=>h (hg k x (Rg.lt_at hx) hx))
 exact ⟨by unfold rnM;rw [e];rfl,e⟩
theorem rn_end {n:Int} {ms:List Int} (h:GoodTo n ms ms.length):rnM n ms=msk ms ms.length∧rnB n ms=true:=by
 have e:rnB n ms=true:=zAY h
 exact ⟨by unfold rnM;rw [e];rfl,e⟩
theorem rnM_lt {n:Int} {ms:List Int}:rnM n ms<128:=by
 unfold rnM
 split
 ·rename_i h;exact (zCB (bOf_iff.1 h) (Nat.le_refl _)).1
 ·decide
theorem qv_rn {n:Int} {ms:List Int}:qvB n ms=(rnB n ms && (decide (zAz n=0) && decide ((Lib.onesCount (rnM n ms):Int)=qOut n))):=by
 cases h:rnB n ms with
 | false =>
   have hb:bOf (GoodTo n ms ms.length)=false:=h
   unfold qvB
   rw [hb,Bool.false_and,Bool.false_and]
 | true =>
   have hb:bOf (GoodTo n ms ms.length)=true:=h
   have hm:rnM n ms=msk ms ms.length:=by unfold rnM;rw [h];rfl
   unfold qvB
   rw [hb,hm]
set_option maxRecDepth 100000 in
set_option maxHeartbeats 1600000 in
theorem risingNodes_any (n:Int) (v:Value) (fs:List Int) (w:World) (h:RowJ w v fs) (hl:fs.length≤1048600) :
 Calls Tryz.prog 49 #[.int .i64 n,v] w fun e w'=>e=.returned (.tuple #[.int .u8 (rnM n fs:Int),.bool (rnB n fs)])∧w=w':=by
 have HR:Hid (RowJ w v fs):=h
 obtain ⟨a,cap,rfl,_⟩:=h
 go_enter Tryz.func49,Tryz.ntmps49
 go_wp2_with fail
 go_loopw [6,11] (fun hd i wr=>∃ k:Nat,k≤fs.length∧hd=.int .u8 (msk fs k:Int)∧i=.int .i64 k∧Hid (GoodTo n fs k)∧wr=w) (fun _ i _=>fs.length - (intOf i).toNat)
 case atStart=>exact ⟨0,by omega,rfl,rfl,GoodTo.zero n fs,rfl⟩
 case round =>
  obtain ⟨k,hk,rfl,rfl,HZ,rfl⟩:=hrel
  have hmk:msk fs k<128:=(zCB HZ.out hk).1
  by_cases hlt:k<fs.length
  ·obtain ⟨x,hx⟩:=Rg.get_at hlt
   obtain ⟨b,off,rfl,hbl,c0⟩:=HR.out.at hx
   have HNO:=isNode_any x n wr
   cases hv:isV n x with
   | false =>
     have HF:Hid (rnM n fs=0∧rnB n fs=false):=rn_not hx (fun hh=>by rw [hv] at hh;cases hh.1)
     have hv':okN x n=false:=hv
     rw [hv'] at HNO
     clear hv hv' hx hmk
     go_wp2_with (go_at_call 76;refine HNO.mono ?_;rintro e w1 ⟨rfl,rfl⟩)
     go_ret2
     exact ⟨ret_ub ⟨by rw [HF.out.1];rfl,HF.out.2.symm⟩,rfl⟩
   | true =>
     obtain ⟨e1,e2⟩:=zBZ hv
     have hv':okN x n=true:=hv
     rw [hv'] at HNO
     obtain ⟨j,HJ⟩ : ∃ j,Hid (frn x=j):=⟨_,rfl⟩
     rw [HJ.out] at e1 e2
     have HAB:=allBelow_any (msk fs k) j wr hmk e2
     have HWI:=zBz (msk fs k) j wr hmk e2
     by_cases hb:msk fs k<2 ^ j
     ·have HS:Hid (msk fs (k+1)=(msk fs k ||| 2 ^ j)):=by show _=_;rw [msk_step hx,HJ.out]
      have HG:Hid (GoodTo n fs (k+1)):=HZ.out.succ hx hv (by rw [HJ.out];exact hb)
      rw [decide_eq_true hb] at HAB
      obtain ⟨q,HQ⟩ : ∃ q,Hid ((msk fs k ||| 2 ^ j)=q):=⟨_,rfl⟩
      rw [HQ.out] at HWI HS
      subst e1
      clear hb hv hv' hx HJ HQ hmk
      generalize msk fs k=mm at HAB HWI ⊢
      go_wp2_with (first | (go_at_call 76;refine HNO.mono ?_;rintro e w1 ⟨rfl,rfl⟩) | (go_at_call 77;refine HAB.mono ?_;rintro e w1 ⟨rfl,rfl⟩) | (go_at_call 78;refine HWI.mono ?_;rintro e w1 ⟨rfl,rfl⟩))
      exact ⟨⟨k+1,by omega,by rw [HS.out],by go_num,HG,trivial⟩,by simp [intOf];omega⟩
     ·have HF:Hid (rnM n fs=0∧rnB n fs=false):=rn_not hx (fun hh=>hb (by have:=hh.2;rwa [HJ.out] at this))
      rw [decide_eq_false hb] at HAB
      subst e1
      clear hb hv hv' hx HJ HWI hmk
      generalize msk fs k=mm at HAB ⊢
      go_wp2_with (first | (go_at_call 76;refine HNO.mono ?_;rintro e w1 ⟨rfl,rfl⟩) | (go_at_call 77;refine HAB.mono ?_;rintro e w1 ⟨rfl,rfl⟩))
      go_ret2
      exact ⟨ret_ub ⟨by rw [HF.out.1];rfl,HF.out.2.symm⟩,rfl⟩
  ·obtain rfl:k=fs.length:=by omega
   have HF:Hid (rnM n fs=msk fs fs.length∧rnB n fs=true):=rn_end HZ.out
   clear hmk
   go_wp2_with fail
   go_ret2
   exact ⟨ret_ub ⟨by rw [HF.out.1],HF.out.2.symm⟩,rfl⟩
end Go.Proofs.YtakfniknkejgpaaGreatDoor.Xq
namespace Go.Proofs.YtakfniknkejgpaaGreatDoor.Xq
open Go.RowKit Tm Sl Is
open Qm (qOut inB)
open Rg (RowG RowG.slice RowG.at lt_at zAA zAD)
open Gt (Vo E1)
set_option maxRecDepth 100000 in
set_option maxHeartbeats 1600000 in
theorem zBe (n:Int) (v:Value) (fs:List Int) (w:World) (h:RowJ w v fs) (hl:fs.length≤1048600) :
 Calls Tryz.prog 25 #[.int .i64 n,v] w fun e w'=>e=.returned (.bool (qvB n fs))∧w=w':=by
 have HN:=risingNodes_any n v fs w h hl
 have HQ:=isQuorum_any (rnM n fs) n w rnM_lt
 have HF:Hid (qvB n fs=(rnB n fs && (decide (zAz n=0) && decide ((Lib.onesCount (rnM n fs):Int)=qOut n)))):=qv_rn
 rw [HF.out]
 clear HF h
 generalize (decide (zAz n=0) && decide ((Lib.onesCount (rnM n fs):Int)=qOut n))=q at HQ ⊢
 generalize rnM n fs=mm at HN HQ
 generalize rnB n fs=b at HN ⊢
 cases b with
 | false =>
   go_enter Tryz.func25,Tryz.ntmps25
   go_wp2_with (go_at_call 49;refine HN.mono ?_;rintro e w1 ⟨rfl,rfl⟩)
   go_ret
   exact ⟨rfl,rfl⟩
 | true =>
   go_enter Tryz.func25,Tryz.ntmps25
   go_wp2_with (first | (go_at_call 49;refine HN.mono ?_;rintro e w1 ⟨rfl,rfl⟩) | (go_at_call 50;refine HQ.mono ?_;rintro e w1 ⟨rfl,rfl⟩))
   go_ret
   exact ⟨rfl,rfl⟩
theorem own_nil (w:World) (B:Nat):OwnI w B (.slice none 0 0) []:=World.ownsRow_nil _ _ _ _
theorem own_below {w w':World} {B:Nat} {v:Value} {xs:List Int} (h:OwnI w B v xs) (hb:Below w.heap.size w w'):OwnI w' B v xs:=by
 have hk:∀ g,v.ownBlock=some g→w'.heap[g]?=w.heap[g]?:=fun g hg=>hb.block g (World.ownsRow.lt h g hg).2
 obtain ⟨hl,h⟩:=h
 refine ⟨hl,?_⟩
 rcases h with h | ⟨g,cap,cur,rfl,hB,hg,hc,hm,hs,htk⟩
 ·exact .inl h
 ·exact .inr ⟨g,cap,cur,rfl,hB,(hk g rfl).trans hg,hc,hm,hs,htk⟩
theorem list_i {P:Program} {ops:Array Oper} {rest:List Oper} {o:Oper} {a:Act} {Q:Exit→Act→World→Prop} (hgd:o.guard=none) (s x:Operand) (t:TypeId)
 (ho:o.op=.call { callee:=.builtin .append,args:=#[s,x],argTypes:=#[t,t] }) (i:TypeInfo) (ht:P.underlying t=some (.slice 3)) (hi:P.info? 3=some i) (hz:i.zero=some (.int .i64 0))
 (hsize:i.size=1) (hby:i.bytes=8) (B:Nat) (w0 W:World) (v:Value) (ts:List Int) (z:Int) (hs:a.eval s=v) (hown:OwnI W B v ts) (hg0:Below B w0 W) (hB:B≤W.heap.size)
 (hx:a.eval x=.slice (some ⟨W.heap.size,0,none⟩) 1 1) (hlen:ts.length≤1048600)
 (h:∀ v' w',OwnI w' B v' (ts ++ [z])→Below B w0 w'→wpList P ops Q rest (a.put o.dst v') w'):wpList P ops Q (o :: rest) a (W.alloc (.cells #[.int .i64 z] 3)):=by
 have hown':OwnI (W.alloc (.cells #[.int .i64 z] 3)) B v ts:=own_below hown (zAD _ _)
 refine wpList_append_own_at (P:=P) _ hgd s x t ho B 3 i (.int .i64 0) 1 8 ht hi hz hsize hby rfl (by decide) v ts.length _ hs hown' ⟨W.heap.size,0,none⟩ 1 1 [.int .i64 z] hx (by simp) (cell_one_new _ _ _) ?_ (by unfold maxLen;omega) (by omega) (by simp;omega) ?_
 ·intro c hc
  simp at hc
  subst hc
  rfl
 ·intro v' w' h1 h2 h3 h4
  exact h v' w' (by unfold OwnI;simpa using h1) ((hg0.alloc hB _).grown h2 (by simp;omega) (fun k hk=>(World.ownsRow.lt hown' k hk).1))
def vfs (vs:List Vo):List Int:=vs.map (·.f)
theorem vfs_length (vs:List Vo):(vfs vs).length=vs.length:=by simp [vfs]
theorem vfs_step {vs:List Vo} {k:Nat} {x:Vo} (h:vs[k]?=some x):vfs (vs.take (k+1))=vfs (vs.take k) ++ [x.f]:=by
 unfold vfs
 rw [List.take_add_one,h]
 simp
set_option maxRecDepth 100000 in
set_option maxHeartbeats 1600000 in
theorem votersOf_any (v:Value) (vs:List Vo) (w:World) (h:Gt.Row w v vs) (hl:vs.length≤1048576) :
 Calls Tryz.prog 26 #[v] w fun e w'=>∃ u,e=.returned u∧OwnI w' w.heap.size u (vfs vs)∧Below w.heap.size w w':=by
 obtain ⟨i0,hi0,hz0,hz1,hz2⟩:=info_parts info3
 have HR:Hid (Gt.Row w v vs):=h
 obtain ⟨a,cap,rfl⟩:=RowG.slice h
 clear h
 go_enter Tryz.func26,Tryz.ntmps26
 go_wp2_with fail
 go_loopw [3,8] (fun b i wr=>∃ k:Nat,k≤vs.length∧i=.int .i64 k∧Hid (OwnI wr w.heap.size b (vfs (vs.take k))∧Below w.heap.size w wr)) (fun _ i _=>vs.length - (intOf i).toNat)
 case atStart=>exact ⟨0,by omega,rfl,⟨own_nil _ _,Below.refl _ _⟩⟩
 case round =>
  obtain ⟨k,hk,rfl,HZ⟩:=hrel
  obtain ⟨v0,rfl⟩ : ∃ v0,v0=u3:=⟨_,rfl⟩
  by_cases hlt:k<vs.length
  ·obtain ⟨x,hx⟩:=Rg.get_at hlt
   obtain ⟨b,off,rfl,hbl,c0,c1⟩:=RowG.at (HR.out.below HZ.out.2) rfl hx
   have HS:Hid (vfs (vs.take (k+1))=vfs (vs.take k) ++ [x.f]):=vfs_step hx
   have HLN:Hid ((vfs (vs.take k)).length≤1048600):=by show _≤_;rw [vfs_length,List.length_take];omega
   have HG:Hid (∀ o,OwnI (wr.alloc o) w.heap.size v0 (vfs (vs.take k))∧Below w.heap.size w (wr.alloc o)):=fun o=>⟨own_below HZ.out.1 (zAD _ _),HZ.out.2.alloc HZ.out.2.size o⟩
   clear hx
   go_wp2_with (at_builtin;go_must (refine list_i (by rfl) _ _ 28 (by rfl) i0 Tryz.underlying28 hi0 hz0 hz1 hz2 w.heap.size w _ _ (vfs (vs.take k)) x.f (by rfl) (HG.out _).1 (HG.out _).2 (HG.out _).2.size (by rw [Rg.zAN];rfl) HLN.out ?_;intro v1 w1 o1 b1))
   exact ⟨⟨k+1,by omega,by go_num,by rw [HS.out];exact ⟨o1,b1⟩⟩,by simp [intOf];omega⟩
  ·obtain rfl:k=vs.length:=by omega
   go_wp2_with fail
   go_ret
   refine ⟨_,rfl,?_,HZ.out.2⟩
   have:=HZ.out.1
   rwa [List.take_length] at this
end Go.Proofs.YtakfniknkejgpaaGreatDoor.Xq
