/- Texts put together: Ap, Tz, NameParts. -/
import Derived.Test.YtakfniknkejgpaaGreatDoorMi1
import Derived.Lib.AppendStr
import Derived.Deep.Upon
import Derived.Laws.OwnMore
import Derived.Maps.AppendAt
import Derived.Lib.SmallJoins
import Derived.Lib.ConvBytes
import Derived.Laws.RangeString
namespace Go.Proofs.YtakfniknkejgpaaGreatDoor.Ap
open Go.RowKit By Sl
def bys (s:ByteArray):List Int:=s.data.toList.map fun b=>((b.toNat:Nat):Int)
theorem zAV (s:ByteArray):(bys s).length=s.size:=by unfold bys;rw [List.length_map,Array.length_toList];rfl
theorem bys_range (s:ByteArray):∀ x ∈ bys s,0≤x∧x≤255:=by
 intro x hx
 unfold bys at hx
 obtain ⟨b,_,rfl⟩:=List.mem_map.1 hx
 have:=b.toNat_lt
 omega
theorem str_cells (s:ByteArray):Lib.strCells s=(bys s).map (Value.int .u8):=by unfold Lib.strCells bys;rw [List.map_map];rfl
theorem addr_add (b off j:Nat):(⟨b,off,none⟩ : Addr).add j=⟨b,off+j,none⟩:=by unfold Addr.add;split <;> simp_all
theorem zAT {e:TypeId} {w:World} {B:Nat} {v:Value} {zs:List Int} (h:OwnB e w B v zs) (hr:∀ z ∈ zs,0≤z∧z≤255):RowB w v zs:=by
 obtain ⟨hl,h⟩:=h
 rcases h with ⟨rfl,h0⟩ | ⟨g,cap,cur,rfl,hb,hg,hnc,_,_,htk⟩
 ·exact ⟨none,0,by rw [h0],.inl (List.length_eq_zero_iff.1 h0),hr⟩
 ·refine ⟨_,cap,rfl,?_,hr⟩
  by_cases h0:zs=[]
  ·exact .inl h0
  ·refine .inr ⟨g,0,rfl,hnc,(Array.getElem?_eq_some_iff.1 hg).1,fun i hi=>?_⟩
   have h1:(cur.toList.take (zs.length * 1))[i]?=some (.int .u8 (nth zs i)):=by
    rw [htk,List.getElem?_map,List.getElem?_eq_getElem hi]
    unfold nth
    rw [List.getD_eq_getElem?_getD,List.getElem?_eq_getElem hi]
    rfl
   rw [List.getElem?_take_of_lt (by omega),Array.getElem?_toList] at h1
   simp [World.cell?,hg,h1]
theorem own_below {e:TypeId} {w w':World} {B:Nat} {v:Value} {zs:List Int} (h:OwnB e w B v zs) (hb:Below w.heap.size w w'):OwnB e w' B v zs:=by
 obtain ⟨hl,h⟩:=h
 refine ⟨hl,?_⟩
 rcases h with h | ⟨g,cap,cur,rfl,h1,hg,h2⟩
 ·exact .inl h
 ·exact .inr ⟨g,cap,cur,rfl,h1,(hb.block g (Array.getElem?_eq_some_iff.1 hg).1).trans hg,h2⟩
theorem own_le {e:TypeId} {w:World} {B B':Nat} {v:Value} {zs:List Int} (h:OwnB e w B v zs) (hb:B'≤B):OwnB e w B' v zs:=by
 obtain ⟨hl,h⟩:=h
 refine ⟨hl,?_⟩
 rcases h with h | ⟨g,cap,cur,rfl,h1,hg,h2⟩
 ·exact .inl h
 ·exact .inr ⟨g,cap,cur,rfl,Nat.le_trans hb h1,hg,h2⟩
theorem own_lit (e:TypeId) (w:World) (B:Nat) (zs:List Int) (n:Nat) (hn:zs.length=n) (hb:B≤w.heap.size) (hm:n≤1048576):OwnB e (w.alloc (.cells (zs.map (Value.int .u8)).toArray e)) B (.slice (some ⟨w.heap.size,0,none⟩) n n) zs:=by
 subst hn
 have:=World.ownsRow_lit (base:=B) (e:=e) (size:=1) w (zs.map (Value.int .u8)).toArray zs.length hb (by unfold maxLen;omega) (by simp)
 unfold OwnB
 simpa using this
theorem zAi (e:TypeId) (w:World) (B:Nat) (z:Int) (hb:B≤w.heap.size):OwnB e (w.alloc (.cells #[.int .u8 z] e)) B (.slice (some ⟨w.heap.size,0,none⟩) 1 1) [z]:=own_lit e w B [z] 1 rfl hb (by decide)
structure Kp (w w':World) (v v':Value):Prop where
 os:w'.os=w.os
 tape:w'.tape=w.tape
 output:w'.output=w.output
 size:w.heap.size≤w'.heap.size
 block:∀ k,k<w.heap.size→some k ≠ v.ownBlock→w'.heap[k]?=w.heap[k]?
 away:∀ k,k<w.heap.size→some k ≠ v.ownBlock→some k ≠ v'.ownBlock
theorem Kp.refl (w:World) (v:Value):Kp w w v v:=⟨rfl,rfl,rfl,Nat.le_refl _,fun _ _ _=>rfl,fun _ _ h=>h⟩
theorem Kp.trans {w w1 w2:World} {v v1 v2:Value} (h:Kp w w1 v v1) (g:Kp w1 w2 v1 v2):Kp w w2 v v2 :=
 ⟨g.os.trans h.os,g.tape.trans h.tape,g.output.trans h.output,Nat.le_trans h.size g.size,fun k hk hn=>(g.block k (Nat.lt_of_lt_of_le hk h.size) (h.away k hk hn)).trans (h.block k hk hn),fun k hk hn=>g.away k (Nat.lt_of_lt_of_le hk h.size) (h.away k hk hn)⟩
theorem Kp.of_below {w w1:World} (v:Value) (h:Below w.heap.size w w1):Kp w w1 v v:=⟨h.os,h.tape,h.output,h.size,fun k hk _=>h.block k hk,fun _ _ h=>h⟩
theorem Kp.alloc {w w1:World} {v v1:Value} (h:Kp w w1 v v1) (o:Obj):Kp w (w1.alloc o) v v1:=h.trans (Kp.of_below _ ((Below.refl _ _).alloc (Nat.le_refl _) _))
theorem Kp.below {e:TypeId} {w w1:World} {v v1:Value} {B:Nat} {zs:List Int} (h:Kp w w1 v v1) (ho:OwnB e w B v zs) (hB:B≤w.heap.size):Below B w w1:=by
 refine ⟨h.os,h.tape,h.output,h.size,fun k hk=>h.block k (Nat.lt_of_lt_of_le hk hB) fun hn=>?_⟩
 unfold OwnB at ho
 have:=(ho.lt k hn.symm).1
 omega
theorem Kp.nil {w w1:World} {v1:Value} (h:Kp w w1 (.slice none 0 0) v1):Below w.heap.size w w1:=⟨h.os,h.tape,h.output,h.size,fun k hk=>h.block k hk (by simp [Value.ownBlock])⟩
theorem Kp.of_grown {w w':World} {v v':Value} (h:w.grownBy w' v.ownBlock) (ha:v'.ownBlock=v.ownBlock ∨ v'.ownBlock=some w.heap.size):Kp w w' v v' :=
 ⟨h.os,h.tape,h.output,h.size,h.block,fun k hk hn=>by rcases ha with ha | ha <;> rw [ha];exact hn;simp;omega⟩
section
variable {P:Program} {e:TypeId} {i:TypeInfo}
theorem run_row (t ty:TypeId) (ht:P.underlying t=some (.slice e)) (hi:P.info? e=some i) (hz:i.zero=some (.int .u8 0)) (hsize:i.size=1) (hby:i.bytes=1)
 (B:Nat) (W:World) (v u:Value) (zs xs:List Int) (hown:OwnB e W B v zs) (hB:B≤W.heap.size) (hu:RowB W u xs) (hlen:zs.length+xs.length≤140737488355328) :
 ∃ v' w',(Builtin.append_ #[t,t] ty #[v,u]).run P W=.ok v' w'∧OwnB e w' B v' (zs ++ xs)∧Kp W w' v v':=by
 obtain ⟨ad,cap,rfl,hc,_⟩:=hu
 have hown2:=hown
 unfold OwnB at hown2
 cases ad with
 | none =>
   obtain rfl:xs=[]:=by
    rcases hc with h | ⟨_,_,h,_⟩
    ·exact h
    ·cases h
   refine ⟨v,W,?_,by simpa using hown,Kp.refl _ _⟩
   rcases hown2.2 with ⟨rfl,_⟩ | ⟨g,c,cur,rfl,_,_,hn,_⟩
   ·exact run_append_nothing W t t ty e i ht hi none 0 0 (Nat.le_refl _) _ (Src.ofNil W ht cap)
   ·exact run_append_nothing W t t ty e i ht hi _ _ _ hn _ (Src.ofNil W ht cap)
 | some ad =>
   obtain ⟨v',w',h1,h2,h3,_,h5⟩:=run_append_own_at (P:=P) W B t ty e i (.int .u8 0) 1 1 ht hi hz hsize hby rfl (by decide) v zs.length _ hown2 ad xs.length cap (xs.map (Value.int .u8)) (by simp)
    (by
      intro j y hy
      rcases hc with rfl | ⟨b,off,e1,_,hb,hcell⟩
      ·simp at hy
      ·cases e1
       have hj:j<xs.length:=by have:=(List.getElem?_eq_some_iff.1 hy).1;simpa using this
       rw [addr_add,hcell j hj,← hy,List.getElem?_map,List.getElem?_eq_getElem hj]
       unfold nth
       rw [List.getD_eq_getElem?_getD,List.getElem?_eq_getElem hj]
       rfl)
    (by intro y hy;obtain ⟨z,_,rfl⟩:=List.mem_map.1 hy;rfl) (by unfold maxLen;omega) (by omega) hB
   exact ⟨v',w',h1,by unfold OwnB;simpa using h2,Kp.of_grown h3 h5⟩
theorem run_str (t tx ty:TypeId) (ht:P.underlying t=some (.slice e)) (htx:P.underlying tx=some .string) (hi:P.info? e=some i) (hz:i.zero=some (.int .u8 0)) (hsize:i.size=1) (hby:i.bytes=1)
 (B:Nat) (W:World) (v:Value) (s:ByteArray) (zs:List Int) (hown:OwnB e W B v zs) (hB:B≤W.heap.size) (hlen:zs.length+s.size≤140737488355328) :
 ∃ v' w',(Builtin.append_ #[t,tx] ty #[v,.string s]).run P W=.ok v' w'∧OwnB e w' B v' (zs ++ bys s)∧Kp W w' v v':=by
 have hown2:=hown
 unfold OwnB at hown2
 obtain ⟨v',w',h1,h2,h3,_⟩:=Lib.run_append_own_string (P:=P) W B t tx ty e i ht htx hi hz hsize hby v zs.length _ hown2 s (by unfold maxLen;omega) hlen hB
 have h4:v'.ownBlock=v.ownBlock ∨ v'.ownBlock=some W.heap.size:=by
  rcases hown2.2 with ⟨rfl,h0⟩ | ⟨g,cap,cur,rfl,hbg,hg,hnc,hcm,hcs,htake⟩
  ·by_cases hm:s.size=0
   ·left
    have hs0:s=ByteArray.empty:=by
     obtain ⟨d⟩:=s
     have:d=#[]:=Array.eq_empty_of_size_eq_zero hm
     rw [this];rfl
    subst hs0
    have hr:=run_append_nothing (P:=P) W t tx ty e i ht hi none 0 0 (Nat.le_refl _) (.string ByteArray.empty) (by rw [hsize];exact Src.ofString W htx ByteArray.empty)
    rw [hr] at h1
    cases h1
    rfl
   ·right
    have hr:=run_append_nil_string (P:=P) W t tx ty e i (.int .u8 0) ht htx hi hz s (by omega) (by omega) (by rw [hby];omega)
    rw [hr] at h1
    cases h1
    rfl
  ·by_cases hroom:zs.length+s.size≤cap
   ·left
    have hr:=Lib.run_append_room_string (P:=P) W t tx ty e i ht htx hi hsize g zs.length cap cur hg s hroom (by omega)
    rw [hr] at h1
    cases h1
    rfl
   ·right
    have holds:∀ j u,(zs.map (Value.int .u8))[j]?=some u→W.cell? ((⟨g,0,none⟩ : Addr).add j)=some u:=hown2.cells (g:=g) rfl
    have hr:=Lib.run_append_grow_string (P:=P) W t tx ty e i (.int .u8 0) ht htx hi hz ⟨g,0,none⟩ zs.length cap _ (by rw [hsize];simp) holds s (by omega) (by omega) (by rw [hby];exact growslice_fits (by omega) (by omega))
    rw [hr] at h1
    cases h1
    rfl
 refine ⟨v',w',h1,?_,Kp.of_grown h3 h4⟩
 unfold OwnB
 rw [List.length_append,zAV,List.map_append,← str_cells]
 exact h2
theorem zBq {o:Oper} {a:Act} {K:Act→World→Prop} {Q:Exit→Act→World→Prop} {W:World} {s x:Operand} {t tx:TypeId} {v u v':Value} {w':World}
 (ho:o.op=.call { callee:=.builtin .append,args:=#[s,x],argTypes:=#[t,tx] }) (hs:a.eval s=v) (hx:a.eval x=u) (hr:(Builtin.append_ #[t,tx] o.type #[v,u]).run P W=.ok v' w') (h:K (a.put o.dst v') w'):Oper.wp P o a W K Q:=by
 unfold Oper.wp execOp
 simp only [ho,resolve,invoke,builtin,Sem.run_bind,Sem.run_pure,Result.andThen_ok,List.map_toArray,List.map_cons,List.map_nil,hs,hx,hr]
 exact h
variable {ops:Array Oper} {rest:List Oper} {o:Oper} {a:Act} {K:Act→World→Prop} {Q:Exit→Act→World→Prop} {E:Prop}
theorem zBC (hgd:o.guard=none) (s x:Operand) (t:TypeId) (ho:o.op=.call { callee:=.builtin .append,args:=#[s,x],argTypes:=#[t,t] }) (ht:P.underlying t=some (.slice e)) (hi:P.info? e=some i) (hz:i.zero=some (.int .u8 0))
 (hsize:i.size=1) (hby:i.bytes=1) (B:Nat) (W:World) (v u:Value) (zs xs:List Int) (hs:a.eval s=v) (hx:a.eval x=u) (hown:OwnB e W B v zs) (hB:B≤W.heap.size) (hu:RowB W u xs) (hlen:zs.length+xs.length≤140737488355328)
 (h:∀ v' w',OwnB e w' B v' (zs ++ xs)→Kp W w' v v'→K (a.put o.dst v') w'):if Region.wanted o (yielded ops a.tmps)=true then Oper.wp P o a W K Q else E:=by
 have hw:Region.wanted o (yielded ops a.tmps)=true:=by simp [Region.wanted,hgd]
 rw [if_pos hw]
 obtain ⟨v',w',hr,ho',hg⟩:=run_row (P:=P) t o.type ht hi hz hsize hby B W v u zs xs hown hB hu hlen
 exact zBq ho hs hx hr (h v' w' ho' hg)
theorem step_str (hgd:o.guard=none) (s x:Operand) (t tx:TypeId) (ho:o.op=.call { callee:=.builtin .append,args:=#[s,x],argTypes:=#[t,tx] }) (ht:P.underlying t=some (.slice e)) (htx:P.underlying tx=some .string) (hi:P.info? e=some i) (hz:i.zero=some (.int .u8 0))
 (hsize:i.size=1) (hby:i.bytes=1) (B:Nat) (W:World) (v:Value) (st:ByteArray) (zs:List Int) (hs:a.eval s=v) (hx:a.eval x=.string st) (hown:OwnB e W B v zs) (hB:B≤W.heap.size) (hlen:zs.length+st.size≤140737488355328)
 (h:∀ v' w',OwnB e w' B v' (zs ++ bys st)→Kp W w' v v'→K (a.put o.dst v') w'):if Region.wanted o (yielded ops a.tmps)=true then Oper.wp P o a W K Q else E:=by
 have hw:Region.wanted o (yielded ops a.tmps)=true:=by simp [Region.wanted,hgd]
 rw [if_pos hw]
 obtain ⟨v',w',hr,ho',hg⟩:=run_str (P:=P) t tx o.type ht htx hi hz hsize hby B W v st zs hown hB hlen
 exact zBq ho hs hx hr (h v' w' ho' hg)
theorem list_row (hgd:o.guard=none) (s x:Operand) (t:TypeId) (ho:o.op=.call { callee:=.builtin .append,args:=#[s,x],argTypes:=#[t,t] }) (ht:P.underlying t=some (.slice e)) (hi:P.info? e=some i) (hz:i.zero=some (.int .u8 0))
 (hsize:i.size=1) (hby:i.bytes=1) (B:Nat) (W:World) (v u:Value) (zs xs:List Int) (hs:a.eval s=v) (hx:a.eval x=u) (hown:OwnB e W B v zs) (hB:B≤W.heap.size) (hu:RowB W u xs) (hlen:zs.length+xs.length≤140737488355328)
 (h:∀ v' w',OwnB e w' B v' (zs ++ xs)→Kp W w' v v'→wpList P ops Q rest (a.put o.dst v') w'):wpList P ops Q (o :: rest) a W:=by
 refine wpList_plain hgd fun K hK=>?_
 obtain ⟨v',w',hr,ho',hg⟩:=run_row (P:=P) t o.type ht hi hz hsize hby B W v u zs xs hown hB hu hlen
 exact zBq ho hs hx hr (hK _ _ (h v' w' ho' hg))
theorem list_str (hgd:o.guard=none) (s x:Operand) (t tx:TypeId) (ho:o.op=.call { callee:=.builtin .append,args:=#[s,x],argTypes:=#[t,tx] }) (ht:P.underlying t=some (.slice e)) (htx:P.underlying tx=some .string) (hi:P.info? e=some i) (hz:i.zero=some (.int .u8 0))
 (hsize:i.size=1) (hby:i.bytes=1) (B:Nat) (W:World) (v:Value) (st:ByteArray) (zs:List Int) (hs:a.eval s=v) (hx:a.eval x=.string st) (hown:OwnB e W B v zs) (hB:B≤W.heap.size) (hlen:zs.length+st.size≤140737488355328)
 (h:∀ v' w',OwnB e w' B v' (zs ++ bys st)→Kp W w' v v'→wpList P ops Q rest (a.put o.dst v') w'):wpList P ops Q (o :: rest) a W:=by
 refine wpList_plain hgd fun K hK=>?_
 obtain ⟨v',w',hr,ho',hg⟩:=run_str (P:=P) t tx o.type ht htx hi hz hsize hby B W v st zs hown hB hlen
 exact zBq ho hs hx hr (hK _ _ (h v' w' ho' hg))
theorem list_one (hgd:o.guard=none) (s x:Operand) (t:TypeId) (ho:o.op=.call { callee:=.builtin .append,args:=#[s,x],argTypes:=#[t,t] }) (ht:P.underlying t=some (.slice e)) (hi:P.info? e=some i) (hz:i.zero=some (.int .u8 0))
 (hsize:i.size=1) (hby:i.bytes=1) (B:Nat) (W:World) (v:Value) (z:Int) (zs:List Int) (hs:a.eval s=v) (hx:a.eval x=.slice (some ⟨W.heap.size,0,none⟩) 1 1) (hown:OwnB e W B v zs) (hB:B≤W.heap.size) (hz':0≤z∧z≤255) (hlen:zs.length+1≤140737488355328)
 (h:∀ v' w',OwnB e w' B v' (zs ++ [z])→Kp W w' v v'→wpList P ops Q rest (a.put o.dst v') w'):wpList P ops Q (o :: rest) a (W.alloc (.cells #[.int .u8 z] e)):=by
 have h0:OwnB e (W.alloc (.cells #[.int .u8 z] e)) B v zs:=by unfold OwnB at hown ⊢;exact hown.alloc _
 refine list_row hgd s x t ho ht hi hz hsize hby B _ v _ zs [z] hs hx h0 (by simp;omega) (zAT (zAi e W W.heap.size z (Nat.le_refl _)) (by intro y hy;simp at hy;subst hy;exact hz')) hlen ?_
 intro v' w' h1 h2
 exact h v' w' h1 (((Kp.refl _ _).alloc _).trans h2)
end
theorem zAH {e:TypeId} {w:World} {B:Nat} {v:Value} {xs:List Int} (h:OwnB e w B v xs) (o:Obj):OwnB e (w.alloc o) B v xs:=own_below h ((Below.refl _ _).alloc (Nat.le_refl _) _)
theorem ordB {w0 w1:World} {B:Nat} (hB:B=w0.heap.size) (b1:Below w0.drew.heap.size w0.drew w1):Below B w0 w1∧B≤w1.heap.size:=by
 subst hB
 have h0:Below w0.heap.size w0 w0.drew:=(Below.refl _ _).drew
 have h1:Below w0.heap.size w0 w1:=h0.trans b1
 exact ⟨h1,h1.size⟩
theorem own_kp {e:TypeId} {w w':World} {B':Nat} {u v v':Value} {xs:List Int} (h:OwnB e w B' u xs) (hk:Kp w w' v v') (hb:∀ g,v.ownBlock=some g→g<B'):OwnB e w' B' u xs:=by
 obtain ⟨hl,h⟩:=h
 refine ⟨hl,?_⟩
 rcases h with h | ⟨g,cap,cur,rfl,h1,hg,h2⟩
 ·exact .inl h
 ·refine .inr ⟨g,cap,cur,rfl,h1,(hk.block g (Array.getElem?_eq_some_iff.1 hg).1 fun hn=>?_).trans hg,h2⟩
  have:=hb g hn.symm
  omega
theorem own_lt {e:TypeId} {w:World} {B:Nat} {v:Value} {xs:List Int} (h:OwnB e w B v xs):∀ g,v.ownBlock=some g→g<w.heap.size:=by
 intro g hg
 unfold OwnB at h
 exact (h.lt g hg).2
theorem zAd {z:Int} (h:0≤z∧z≤255):∀ y ∈ [z],0≤y∧y≤255:=by intro y hy;simp at hy;subst hy;exact h
theorem zAb (x:Int):0≤IntKind.u8.wrap x∧IntKind.u8.wrap x≤255:=by rw [IntKind.wrap_u8];omega
theorem zAL {e:TypeId} {w:World} {B:Nat} {v:Value} {xs:List Int} (h:OwnB e w B v xs):OwnB e w.drew B v xs:=h
theorem rowB_drew {w:World} {v:Value} {xs:List Int} (h:RowB w v xs):RowB w.drew v xs:=h
end Go.Proofs.YtakfniknkejgpaaGreatDoor.Ap
namespace Go.Proofs.YtakfniknkejgpaaGreatDoor.Tx
open Go.RowKit Sl By Ap
theorem ret_str {a b:ByteArray} (h:a=b):Ending.returned (.string a)=.returned (.string b):=by rw [h]
theorem zAN (w:World) (o:Obj):(w.alloc o).heap.size=w.heap.size+1:=by simp
theorem zAA {w:World} {b:Nat} {cs:Array Value} {t:TypeId} (h:w.heap[b]?=some (.cells cs t (0,0))) (i:Nat) {x:Value} (hx:cs[i]?=some x):w.cell? ⟨b,i,none⟩=some x∧w.frozen? ⟨b,i,none⟩=false:=by
 refine ⟨(Joins.cell_of_block h i).trans hx,?_⟩
 simp [World.frozen?,h]
theorem zAE {w:World} {b:Nat} {cs:Array Value} {t:TypeId} (h:w.heap[b]?=some (.cells cs t (0,0))) (i:Nat) (x:Value):(w.setCell ⟨b,i,none⟩ x).heap[b]?=some (.cells (cs.setIfInBounds i x) t (0,0)):=Joins.block_setCell (i:=i) h x
theorem zAB {w:World} {b k:Nat} (hk:k ≠ b) (i:Nat) (x:Value):(w.setCell ⟨b,i,none⟩ x).heap[k]?=w.heap[k]?:=Below.heap_setCell w ⟨b,i,none⟩ x k hk
theorem zAK (w:World) (cs:Array Value) (t:TypeId):(w.alloc (.cells cs t)).heap[w.heap.size]?=some (.cells cs t (0,0)):=heap_alloc_new w _
theorem zAD (w:World) (o:Obj):Below w.heap.size w (w.alloc o):=(Below.refl _ _).alloc (Nat.le_refl _) _
def tnth (ts:List ByteArray) (i:Nat):ByteArray:=ts.getD i ⟨#[]⟩
def RowT (w:World) (v:Value) (ts:List ByteArray):Prop :=
 ∃ a cap,v=.slice a ts.length cap∧(ts=[] ∨ ∃ b off,a=some ⟨b,off,none⟩∧ts.length≤cap∧b<w.heap.size∧∀ i,i<ts.length→w.cell? ⟨b,off+i,none⟩=some (.string (tnth ts i)))
theorem RowT.below {w w':World} {v:Value} {ts:List ByteArray} (h:RowT w v ts) (hb:Below w.heap.size w w'):RowT w' v ts:=by
 obtain ⟨a,cap,rfl,h⟩:=h
 refine ⟨a,cap,rfl,?_⟩
 rcases h with h | ⟨b,off,rfl,hc,hlt,h⟩
 ·exact .inl h
 ·exact .inr ⟨b,off,rfl,hc,Nat.lt_of_lt_of_le hlt hb.size,fun i hi=>(hb.cell (p:=⟨b,off+i,none⟩) hlt).trans (h i hi)⟩
theorem tnth_at {ts:List ByteArray} {i:Nat} (h:i<ts.length):ts[i]?=some (tnth ts i):=by
 unfold tnth;rw [List.getD_eq_getElem?_getD,List.getElem?_eq_getElem h];rfl
theorem zBr {ts:List ByteArray} {i:Nat} (h:i<ts.length):tnth ts i ∈ ts:=List.mem_of_getElem? (tnth_at h)
theorem tnth_append_left {xs ys:List ByteArray} {i:Nat} (h:i<xs.length):tnth (xs ++ ys) i=tnth xs i:=by
 unfold tnth;rw [List.getD_eq_getElem?_getD,List.getD_eq_getElem?_getD,List.getElem?_append_left h]
theorem row_lit (w:World) (e:TypeId) (ts:List ByteArray) (cs:Array Value) (n:Nat) (hn:ts.length=n) (hcs:cs=(ts.map Value.string).toArray):RowT (w.alloc (.cells cs e)) (.slice (some ⟨w.heap.size,0,none⟩) n n) ts:=by
 subst hn hcs
 refine ⟨_,_,rfl,.inr ⟨w.heap.size,0,rfl,Nat.le_refl _,by simp,fun i hi=>?_⟩⟩
 rw [Nat.zero_add,Joins.cell_of_block (zAK w _ e) i,List.getElem?_toArray,List.getElem?_map,tnth_at hi]
 rfl
theorem info9:(Tryz.prog.info? 9).map (fun i=>(i.zero,i.size,i.bytes))=some (some (.string ⟨#[]⟩),1,16):=by kernel_rfl
def OwnS (w:World) (B:Nat) (v:Value) (ts:List ByteArray):Prop:=w.ownsRow B 9 1 v ts.length (ts.map Value.string)
theorem OwnS.row {w:World} {B:Nat} {v:Value} {ts:List ByteArray} (h:OwnS w B v ts):RowT w v ts:=by
 obtain ⟨hl,h⟩:=h
 rcases h with ⟨rfl,h0⟩ | ⟨g,cap,cur,rfl,hB,hg,hc,_,hs,htk⟩
 ·exact ⟨none,0,by rw [h0],.inl (List.length_eq_zero_iff.1 h0)⟩
 ·refine ⟨_,cap,rfl,.inr ⟨g,0,rfl,hc,(Array.getElem?_eq_some_iff.1 hg).1,fun i hi=>?_⟩⟩
  rw [Nat.zero_add,Joins.cell_of_block hg i]
  have h1:(cur.toList.take (ts.length * 1))[i]?=some (.string (tnth ts i)):=by
   rw [htk,List.getElem?_map,List.getElem?_eq_getElem hi]
   simp [tnth,List.getD_eq_getElem?_getD,List.getElem?_eq_getElem hi]
  rw [List.getElem?_take] at h1
  split at h1
  ·simpa using h1
  ·cases h1
theorem OwnS.below {w w':World} {B:Nat} {v:Value} {ts:List ByteArray} (h:OwnS w B v ts) (hb:Below w.heap.size w w'):OwnS w' B v ts:=by
 obtain ⟨hl,h⟩:=h
 refine ⟨hl,?_⟩
 rcases h with h | ⟨g,cap,cur,hv,hB,hgb,h⟩
 ·exact .inl h
 ·exact .inr ⟨g,cap,cur,hv,hB,(hb.block g (Array.getElem?_eq_some_iff.1 hgb).1).trans hgb,h⟩
theorem OwnS.mono {w:World} {B B':Nat} {v:Value} {ts:List ByteArray} (h:OwnS w B v ts) (hb:B'≤B):OwnS w B' v ts:=by
 obtain ⟨hl,h⟩:=h
 refine ⟨hl,?_⟩
 rcases h with h | ⟨g,cap,cur,hv,hB,h⟩
 ·exact .inl h
 ·exact .inr ⟨g,cap,cur,hv,by omega,h⟩
theorem OwnS.nil (w:World) (B:Nat):OwnS w B (.slice none 0 0) []:=World.ownsRow_nil _ _ _ _
theorem list_texts {P:Program} {ops:Array Oper} {rest:List Oper} {o:Oper} {a:Act} {Q:Exit→Act→World→Prop} (hgd:o.guard=none) (s x:Operand) (t:TypeId)
 (ho:o.op=.call { callee:=.builtin .append,args:=#[s,x],argTypes:=#[t,t] }) (i:TypeInfo) (ht:P.underlying t=some (.slice 9)) (hi:P.info? 9=some i) (hz:i.zero=some (.string ⟨#[]⟩))
 (hsize:i.size=1) (hby:i.bytes=16) (B:Nat) (w0 W:World) (v:Value) (ts zs:List ByteArray) (cs:Array Value) (n:Nat) (hn:zs.length=n) (hcs:cs=(zs.map Value.string).toArray) (hn1:n≤1000) (hs:a.eval s=v) (hown:OwnS W B v ts) (hg0:Below B w0 W) (hB:B≤W.heap.size)
 (hx:a.eval x=.slice (some ⟨W.heap.size,0,none⟩) n n) (hlen:ts.length≤1000000)
 (h:∀ v' w',OwnS w' B v' (ts ++ zs)→Below B w0 w'→W.heap.size≤w'.heap.size→(∀ k,k<W.heap.size→some k ≠ v.ownBlock→w'.heap[k]?=W.heap[k]?)→wpList P ops Q rest (a.put o.dst v') w'):wpList P ops Q (o :: rest) a (W.alloc (.cells cs 9)):=by
 subst hcs hn
 refine wpList_append_own _ hgd s x t ho B 9 i (.string ⟨#[]⟩) 1 16 ht hi hz hsize hby rfl (by decide) v ts.length _ hs (hown.alloc _) ⟨W.heap.size,0,none⟩ zs.length zs.length (zs.map Value.string) hx (by simp) ?_ ?_ ?_ ?_ ?_ ?_
 ·have:=World.news_of_block (cs:=(zs.map Value.string).toArray) (t:=9) (fr:=(0,0)) (heap_alloc_new W _)
  simpa using this
 ·intro c hc
  obtain ⟨z,_,rfl⟩:=List.mem_map.1 hc
  rfl
 ·unfold maxLen;omega
 ·omega
 ·simp;omega
 ·intro v' w' h1 h2 _
  have hs2:=h2.size
  simp at hs2
  have hk:∀ k,k<W.heap.size→some k ≠ v.ownBlock→w'.heap[k]?=W.heap[k]?:=fun k hk hne=>(h2.block k (by simp;omega) hne).trans (Below.heap_alloc W _ k hk)
  refine h v' w' (by unfold OwnS;simpa using h1) ?_ (by omega) hk
  exact (hg0.alloc hB _).grown h2 (by simp;omega) (fun k hk=>(hown.lt k hk).1)
theorem run_txt {P:Program} {i:TypeInfo} (t ty:TypeId) (ht:P.underlying t=some (.slice 9)) (hi:P.info? 9=some i) (hz:i.zero=some (.string ⟨#[]⟩)) (hsize:i.size=1) (hby:i.bytes=16)
 (B:Nat) (W:World) (v u:Value) (zs xs:List ByteArray) (hown:OwnS W B v zs) (hB:B≤W.heap.size) (hu:RowT W u xs) (hlen:zs.length+xs.length≤1000000000) :
 ∃ v' w',(Builtin.append_ #[t,t] ty #[v,u]).run P W=.ok v' w'∧OwnS w' B v' (zs ++ xs)∧Kp W w' v v':=by
 obtain ⟨ad,cap,rfl,hc⟩:=hu
 have hown2:=hown
 unfold OwnS at hown2
 cases ad with
 | none =>
   obtain rfl:xs=[]:=by
    rcases hc with h | ⟨_,_,h,_⟩
    ·exact h
    ·cases h
   refine ⟨v,W,?_,by simpa using hown,Kp.refl _ _⟩
   rcases hown2.2 with ⟨rfl,_⟩ | ⟨g,c,cur,rfl,_,_,hn,_⟩
   ·exact run_append_nothing W t t ty 9 i ht hi none 0 0 (Nat.le_refl _) _ (Src.ofNil W ht cap)
   ·exact run_append_nothing W t t ty 9 i ht hi _ _ _ hn _ (Src.ofNil W ht cap)
 | some ad =>
   obtain ⟨v',w',h1,h2,h3,_,h5⟩:=run_append_own_at (P:=P) W B t ty 9 i (.string ⟨#[]⟩) 1 16 ht hi hz hsize hby rfl (by decide) v zs.length _ hown2 ad xs.length cap (xs.map Value.string) (by simp)
    (by
      intro j y hy
      rcases hc with rfl | ⟨b,off,e1,_,hb,hcell⟩
      ·simp at hy
      ·cases e1
       have hj:j<xs.length:=by have:=(List.getElem?_eq_some_iff.1 hy).1;simpa using this
       rw [addr_add,hcell j hj,← hy,List.getElem?_map,tnth_at hj]
       rfl)
    (by intro y hy;obtain ⟨z,_,rfl⟩:=List.mem_map.1 hy;rfl) (by unfold maxLen;omega) (by omega) hB
   exact ⟨v',w',h1,by unfold OwnS;simpa using h2,Kp.of_grown h3 h5⟩
theorem OwnS.kp {w w1:World} {v v1:Value} {B:Nat} {zs:List ByteArray} (h:Kp w w1 v v1) (ho:OwnS w B v zs) (hB:B≤w.heap.size):Below B w w1:=by
 refine ⟨h.os,h.tape,h.output,h.size,fun k hk=>h.block k (Nat.lt_of_lt_of_le hk hB) fun hn=>?_⟩
 unfold OwnS at ho
 have:=(ho.lt k hn.symm).1
 omega
theorem step_txt {P:Program} {i:TypeInfo} {ops:Array Oper} {o:Oper} {a:Act} {K:Act→World→Prop} {Q:Exit→Act→World→Prop} {E:Prop} (hgd:o.guard=none) (s x:Operand) (t:TypeId) (ho:o.op=.call { callee:=.builtin .append,args:=#[s,x],argTypes:=#[t,t] }) (ht:P.underlying t=some (.slice 9)) (hi:P.info? 9=some i) (hz:i.zero=some (.string ⟨#[]⟩))
 (hsize:i.size=1) (hby:i.bytes=16) (B:Nat) (W:World) (v u:Value) (zs xs:List ByteArray) (hs:a.eval s=v) (hx:a.eval x=u) (hown:OwnS W B v zs) (hB:B≤W.heap.size) (hu:RowT W u xs) (hlen:zs.length+xs.length≤1000000000)
 (h:∀ v' w',OwnS w' B v' (zs ++ xs)→Below B W w'→K (a.put o.dst v') w'):if Region.wanted o (yielded ops a.tmps)=true then Oper.wp P o a W K Q else E:=by
 have hw:Region.wanted o (yielded ops a.tmps)=true:=by simp [Region.wanted,hgd]
 rw [if_pos hw]
 obtain ⟨v',w',hr,ho',hg⟩:=run_txt (P:=P) t o.type ht hi hz hsize hby B W v u zs xs hown hB hu hlen
 exact zBq ho hs hx hr (h v' w' ho' (OwnS.kp hg hown hB))
end Go.Proofs.YtakfniknkejgpaaGreatDoor.Tx
namespace Go.Proofs.YtakfniknkejgpaaGreatDoor.Nm
open Go.RowKit
def letB (n:Int):Bool:=decide (97≤n∧n≤122 ∨ 65≤n∧n≤90 ∨ n=95)
def digB (n:Int):Bool:=decide (48≤n∧n≤57)
theorem zAG {a b:Bool} (h:a=b):Ending.returned (.bool a)=.returned (.bool b):=by rw [h]
theorem regions (n:Int):n≤64 ∨ (65≤n∧n≤90) ∨ (91≤n∧n≤94) ∨ n=95 ∨ n=96 ∨ (97≤n∧n≤122) ∨ 123≤n:=by omega
theorem digions (n:Int):n≤47 ∨ (48≤n∧n≤57) ∨ 58≤n:=by omega
theorem zBT (n:Int) (w:World) :
 Calls Tryz.prog 139 #[.int .i32 n] w fun e w'=>e=.returned (.bool (letB n))∧w'=w:=by
 rcases regions n with h | ⟨h,h'⟩ | ⟨h,h'⟩ | rfl | rfl | ⟨h,h'⟩ | h
 all_goals
  go_enter Tryz.func139,Tryz.ntmps139
  go_wp2
  go_ret
  exact ⟨zAG (by unfold letB;rw [Bool.eq_iff_iff];simp;try omega),rfl⟩
theorem zBY (n:Int) (w:World) :
 Calls Tryz.prog 140 #[.int .i32 n] w fun e w'=>e=.returned (.bool (digB n))∧w'=w:=by
 rcases digions n with h | ⟨h,h'⟩ | h
 all_goals
  go_enter Tryz.func140,Tryz.ntmps140
  go_wp2
  go_ret
  exact ⟨zAG (by unfold digB;rw [Bool.eq_iff_iff];simp;try omega),rfl⟩
theorem zBU (n:Int) (w:World) :
 Calls Tryz.prog 116 #[.int .u8 n] w fun e w'=>e=.returned (.bool (letB n))∧w'=w:=by
 rcases regions n with h | ⟨h,h'⟩ | ⟨h,h'⟩ | rfl | rfl | ⟨h,h'⟩ | h
 all_goals
  go_enter Tryz.func116,Tryz.ntmps116
  go_wp2
  go_ret
  exact ⟨zAG (by unfold letB;rw [Bool.eq_iff_iff];simp;try omega),rfl⟩
theorem l00Digit_any (n:Int) (w:World) :
 Calls Tryz.prog 117 #[.int .u8 n] w fun e w'=>e=.returned (.bool (digB n))∧w'=w:=by
 rcases digions n with h | ⟨h,h'⟩ | h
 all_goals
  go_enter Tryz.func117,Tryz.ntmps117
  go_wp2
  go_ret
  exact ⟨zAG (by unfold digB;rw [Bool.eq_iff_iff];simp;try omega),rfl⟩
def okAt (s:ByteArray) (i:Nat):Bool:=letB ((s.data.toList.getD i 0).toNat:Int) || (decide (i ≠ 0) && digB ((s.data.toList.getD i 0).toNat:Int))
def zBm (s:ByteArray):Bool:=decide (1≤s.size∧s.size≤40∧∀ i,i<s.size→okAt s i=true)
theorem getD_at (s:ByteArray) (i:Nat) (h:i<s.size):s.data.toList.getD i 0=s[i]:=by
 have:i<s.data.toList.length:=by simpa using h
 simp [List.getD_eq_getElem?_getD,List.getElem?_eq_getElem this];rfl
theorem zCM (s:ByteArray) (i:Nat) (h:i<s.size):okAt s i=(letB (s[i].toNat:Int) || (decide (i ≠ 0) && digB (s[i].toNat:Int))):=by
 unfold okAt;rw [getD_at s i h]
theorem name_no (s:ByteArray) (i:Nat) (h:i<s.size) (hn:okAt s i=false):zBm s=false:=by
 unfold zBm;simp only [decide_eq_false_iff_not];rintro ⟨_,_,h'⟩;rw [h' i h] at hn;cases hn
theorem name_yes (s:ByteArray) (h1:1≤s.size) (h2:s.size≤40) (h:∀ i,i<s.size→okAt s i=true):zBm s=true:=by
 unfold zBm;simp only [decide_eq_true_eq];exact ⟨h1,h2,h⟩
theorem name_small (s:ByteArray) (h:s.size=0 ∨ 40<s.size):zBm s=false:=by
 unfold zBm;simp only [decide_eq_false_iff_not];omega
set_option maxHeartbeats 400000 in
theorem l00Word_any (s:ByteArray) (w:World) (hs:s.size≤maxLen) :
 Calls Tryz.prog 94 #[.string s] w fun e w'=>e=.returned (.bool (zBm s))∧w'=w:=by
 unfold maxLen at hs
 by_cases h0:s.size=0
 ·have hn:=name_small s (.inl h0)
  have h1:(s.size:Int)<1:=by omega
  go_enter Tryz.func94,Tryz.ntmps94
  go_wp2
  go_ret
  exact ⟨zAG hn.symm,rfl⟩
 by_cases h4:40<s.size
 ·have hn:=name_small s (.inr h4)
  have h1:(1:Int)≤(s.size:Int):=by omega
  have h2:(40:Int)<(s.size:Int):=by omega
  go_enter Tryz.func94,Tryz.ntmps94
  go_wp2
  go_ret
  exact ⟨zAG hn.symm,rfl⟩
 have hp:0<s.size:=by omega
 have h1:(1:Int)≤(s.size:Int):=by omega
 have h2:(s.size:Int)≤40:=by omega
 cases hl:letB ((s[0]'hp).toNat:Int)
 ·have hn:=name_no s 0 hp (by rw [zCM s 0 hp,hl];rfl)
  go_enter Tryz.func94,Tryz.ntmps94
  go_wp2_with (go_at_call 116;refine (zBU _ _).mono ?_;rintro e w' ⟨rfl,rfl⟩)
  go_ret
  exact ⟨zAG hn.symm,rfl⟩
 have hok0:okAt s 0=true:=by rw [zCM s 0 hp,hl];rfl
 go_enter Tryz.func94,Tryz.ntmps94
 go_wp2_with (go_at_call 116;refine (zBU _ _).mono ?_;rintro e w' ⟨rfl,rfl⟩)
 have H0:Hid (okAt s 0=true):=hok0
 clear hok0 hl
 go_loop [3] (fun i=>∃ k:Nat,1≤k∧k≤s.size∧i=.int .i64 k∧Hid (∀ j,j<k→okAt s j=true)) (fun i=>s.size - (intOf i).toNat)
 case atStart=>exact ⟨1,Nat.le_refl _,by omega,rfl,fun j hj=>(show j=0 by omega) ▸ H0.out⟩
 case round =>
  obtain ⟨k,hk1,hk2,rfl,hall⟩:=hrel
  by_cases hlt:k<s.size
  ·cases hl:letB ((s[k]'hlt).toNat:Int)
   ·cases hd:digB ((s[k]'hlt).toNat:Int)
    ·have hn:Hid (zBm s=false):=name_no s k hlt (by rw [zCM s k hlt,hl,hd];simp)
     go_wp2_with (first | (go_at_call 116;refine (zBU _ _).mono ?_;rintro e w' ⟨rfl,rfl⟩) | (go_at_call 117;refine (l00Digit_any _ _).mono ?_;rintro e w' ⟨rfl,rfl⟩))
     go_ret
     exact ⟨zAG hn.out.symm,rfl⟩
    ·have hk:Hid (okAt s k=true):=by show okAt s k=true;rw [zCM s k hlt,hl,hd];simp;omega
     go_wp2_with (first | (go_at_call 116;refine (zBU _ _).mono ?_;rintro e w' ⟨rfl,rfl⟩) | (go_at_call 117;refine (l00Digit_any _ _).mono ?_;rintro e w' ⟨rfl,rfl⟩))
     go_round
     case rel=>exact ⟨k+1,by omega,by omega,by go_num,fun j hj=>by by_cases e:j=k;(subst e;exact hk.out);exact hall.out j (by omega)⟩
     case measure=>simp [intOf];omega
   ·have hk:Hid (okAt s k=true):=by show okAt s k=true;rw [zCM s k hlt,hl];rfl
    go_wp2_with (first | (go_at_call 116;refine (zBU _ _).mono ?_;rintro e w' ⟨rfl,rfl⟩) | (go_at_call 117;refine (l00Digit_any _ _).mono ?_;rintro e w' ⟨rfl,rfl⟩))
    go_round
    case rel=>exact ⟨k+1,by omega,by omega,by go_num,fun j hj=>by by_cases e:j=k;(subst e;exact hk.out);exact hall.out j (by omega)⟩
    case measure=>simp [intOf];omega
  ·have hn:Hid (zBm s=true):=name_yes s (by omega) (by omega) (fun j hj=>hall.out j (by omega))
   go_wp2
   go_ret
   exact ⟨zAG hn.out.symm,rfl⟩
theorem specNameOK_any (s:ByteArray) (w:World) (hs:s.size≤maxLen) :
 Calls Tryz.prog 70 #[.string s] w fun e w'=>e=.returned (.bool (zBm s))∧w'=w:=by
 go_enter Tryz.func70,Tryz.ntmps70
 go_wp2_with (go_at_call 94;refine (l00Word_any _ _ hs).mono ?_;rintro e w' ⟨rfl,rfl⟩)
 go_ret
 exact ⟨rfl,rfl⟩
theorem runes (s:ByteArray) (k:Nat) (h:k<s.size) :
 (Utf8.decode s k=((s[k]'h).toNat,1)∧((s[k]'h).toNat:Int)<128) ∨ (128≤((Utf8.decode s k).1:Int)∧128≤((s[k]'h).toNat:Int)):=by
 by_cases ha:(s[k]'h).toNat<128
 ·exact .inl ⟨decode_ascii s k h ha,by omega⟩
 ·exact .inr ⟨by have:=(decode_high s k h (by omega)).1;omega,by omega⟩
theorem let_high (n:Int) (h:128≤n):letB n=false:=by unfold letB;simp;omega
theorem dig_high (n:Int) (h:128≤n):digB n=false:=by unfold digB;simp;omega
set_option maxHeartbeats 400000 in
theorem implNameOK_any (s:ByteArray) (w:World) (hs:s.size≤maxLen) :
 Calls Tryz.prog 129 #[.string s] w fun e w'=>e=.returned (.bool (zBm s))∧Below w.heap.size w w':=by
 unfold maxLen at hs
 by_cases h0:s.size=0
 ·have hn:=name_small s (.inl h0)
  have h1:((s.size:Int) == 0)=true:=beq_iff_eq.2 (by omega)
  go_enter Tryz.func129,Tryz.ntmps129
  go_wp2
  go_ret
  exact ⟨zAG hn.symm,Below.refl _ _⟩
 have h1:((s.size:Int) == 0)=false:=beq_eq_false_iff_ne.2 (by omega)
 by_cases h4:40<s.size
 ·have hn:=name_small s (.inr h4)
  have h2:(40:Int)<(s.size:Int):=by omega
  go_enter Tryz.func129,Tryz.ntmps129
  go_wp2
  go_ret
  exact ⟨zAG hn.symm,Below.refl _ _⟩
 have hp:0<s.size:=by omega
 have h2:(s.size:Int)≤40:=by omega
 go_enter Tryz.func129,Tryz.ntmps129
 go_wp2
 go_loopw [] (fun w'=>∃ k:Nat,k≤s.size∧w'=w.iter s k∧Hid (∀ j,j<k→okAt s j=true)) (fun w'=>s.size - w'.iterPos w.heap.size)
 case atStart=>exact ⟨0,Nat.zero_le _,rfl,fun j hj=>absurd hj (by omega)⟩
 case round =>
  obtain ⟨k,hk2,rfl,hall⟩:=hrel
  by_cases hlt:k<s.size
  ·rcases runes s k hlt with ⟨hdec,hlow⟩ | ⟨hdec,hhigh⟩
   ·have hnx:∀ ty,(Instr.next (.pointer (some ⟨w.heap.size,0,none⟩)) true ty).run Tryz.prog (w.iter s k)=_:=fun ty=>run_next_ascii w s k ty hlt (by omega)
    clear hdec
    cases hl:letB ((s[k]'hlt).toNat:Int)
    ·by_cases hz:k=0
     ·subst hz
      have hn:Hid (zBm s=false):=name_no s 0 hlt (by rw [zCM s 0 hlt,hl];rfl)
      go_wp2_with (first | (go_at_call 139;refine (zBT _ _).mono ?_;rintro e w' ⟨rfl,rfl⟩) | (go_at_call 140;refine (zBY _ _).mono ?_;rintro e w' ⟨rfl,rfl⟩))
      go_ret
      exact ⟨zAG hn.out.symm,(Below.refl _ _).alloc (Nat.le_refl _) _⟩
     have hz':((k:Int) == 0)=false:=beq_eq_false_iff_ne.2 (by omega)
     cases hd:digB ((s[k]'hlt).toNat:Int)
     ·have hn:Hid (zBm s=false):=name_no s k hlt (by rw [zCM s k hlt,hl,hd];simp)
      go_wp2_with (first | (go_at_call 139;refine (zBT _ _).mono ?_;rintro e w' ⟨rfl,rfl⟩) | (go_at_call 140;refine (zBY _ _).mono ?_;rintro e w' ⟨rfl,rfl⟩))
      go_ret
      exact ⟨zAG hn.out.symm,(Below.refl _ _).alloc (Nat.le_refl _) _⟩
     ·have hk:Hid (okAt s k=true):=by show okAt s k=true;rw [zCM s k hlt,hl,hd];simp;omega
      go_wp2_with (first | (go_at_call 139;refine (zBT _ _).mono ?_;rintro e w' ⟨rfl,rfl⟩) | (go_at_call 140;refine (zBY _ _).mono ?_;rintro e w' ⟨rfl,rfl⟩))
      go_roundw
      case rel=>exact ⟨k+1,by omega,rfl,fun j hj=>by by_cases e:j=k;(subst e;exact hk.out);exact hall.out j (by omega)⟩
      case measure=>simp;omega
    ·have hk:Hid (okAt s k=true):=by show okAt s k=true;rw [zCM s k hlt,hl];rfl
     go_wp2_with (first | (go_at_call 139;refine (zBT _ _).mono ?_;rintro e w' ⟨rfl,rfl⟩) | (go_at_call 140;refine (zBY _ _).mono ?_;rintro e w' ⟨rfl,rfl⟩))
     go_roundw
     case rel=>exact ⟨k+1,by omega,rfl,fun j hj=>by by_cases e:j=k;(subst e;exact hk.out);exact hall.out j (by omega)⟩
     case measure=>simp;omega
   ·have hnx:∀ ty,(Instr.next (.pointer (some ⟨w.heap.size,0,none⟩)) true ty).run Tryz.prog (w.iter s k)=_:=fun ty=>run_next_any w s k ty hlt
    have hn:Hid (zBm s=false):=name_no s k hlt (by rw [zCM s k hlt,let_high _ hhigh,dig_high _ hhigh];simp)
    have hl:=let_high _ hdec
    have hd:=dig_high _ hdec
    by_cases hz:k=0
    ·subst hz
     go_wp2_with (first | (go_at_call 139;refine (zBT _ _).mono ?_;rintro e w' ⟨rfl,rfl⟩) | (go_at_call 140;refine (zBY _ _).mono ?_;rintro e w' ⟨rfl,rfl⟩))
     go_ret
     exact ⟨zAG hn.out.symm,(Below.refl _ _).alloc (Nat.le_refl _) _⟩
    have hz':((k:Int) == 0)=false:=beq_eq_false_iff_ne.2 (by omega)
    go_wp2_with (first | (go_at_call 139;refine (zBT _ _).mono ?_;rintro e w' ⟨rfl,rfl⟩) | (go_at_call 140;refine (zBY _ _).mono ?_;rintro e w' ⟨rfl,rfl⟩))
    go_ret
    exact ⟨zAG hn.out.symm,(Below.refl _ _).alloc (Nat.le_refl _) _⟩
  ·have hn:Hid (zBm s=true):=name_yes s (by omega) (by omega) (fun j hj=>hall.out j (by omega))
   have hnx:∀ ty,(Instr.next (.pointer (some ⟨w.heap.size,0,none⟩)) true ty).run Tryz.prog (w.iter s k)=_:=fun ty=>run_next_end w s k ty hlt
   go_wp2
   go_ret
   exact ⟨zAG hn.out.symm,(Below.refl _ _).alloc (Nat.le_refl _) _⟩
end Go.Proofs.YtakfniknkejgpaaGreatDoor.Nm
