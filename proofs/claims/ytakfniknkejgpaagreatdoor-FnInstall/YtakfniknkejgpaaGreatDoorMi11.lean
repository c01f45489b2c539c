/- Texts put together: Fu, Put, Fp. -/
import Derived.Lib.SlBytesConst
import Derived.Test.YtakfniknkejgpaaGreatDoorMi9
namespace Go.Proofs.YtakfniknkejgpaaGreatDoor.Fu
open Go.RowKit Sl By Ap Tx
def Full (w:World) (B:Nat) (v:Value) (zs:List Int):Prop :=
 ∃ g,v=.slice (some ⟨g,0,none⟩) zs.length zs.length∧B≤g∧g<w.heap.size∧∀ j,j<zs.length→w.cell? ⟨g,j,none⟩=some (.int .u8 (nth zs j))
def OwnF (w:World) (B:Nat) (v:Value) (zs:List Int):Prop:=OwnB 5 w B v zs ∨ Full w B v zs
theorem OwnF.below {w w':World} {B:Nat} {v:Value} {zs:List Int} (h:OwnF w B v zs) (hb:Below w.heap.size w w'):OwnF w' B v zs:=by
 rcases h with h | ⟨g,e,hB,hg,hc⟩
 ·exact .inl (own_below h hb)
 ·exact .inr ⟨g,e,hB,Nat.lt_of_lt_of_le hg hb.size,fun j hj=>(hb.cell (p:=⟨g,j,none⟩) hg).trans (hc j hj)⟩
theorem full_lit (w:World) (zs:List Int) (n:Nat) (hn:zs.length=n) (cs:Array Value) (hcs:cs=(zs.map (Value.int .u8)).toArray) (fr:Nat × Nat):OwnF (w.alloc (.cells cs 5 fr)) w.heap.size (.slice (some ⟨w.heap.size,0,none⟩) n n) zs:=by
 subst hn hcs
 refine .inr ⟨w.heap.size,rfl,Nat.le_refl _,by simp,fun j hj=>?_⟩
 rw [Joins.cell_of_block (heap_alloc_new w _) j,List.getElem?_toArray,List.getElem?_map,List.getElem?_eq_getElem hj]
 unfold nth
 rw [List.getD_eq_getElem?_getD,List.getElem?_eq_getElem hj]
 rfl
end Go.Proofs.YtakfniknkejgpaaGreatDoor.Fu
namespace Go.Proofs.YtakfniknkejgpaaGreatDoor.Pu
open Go.RowKit Sl By Ap
def nb (v:Int) (at':Nat):Int:=v / 2 ^ (8 * at') % 256
def nums (v:Int) (size k:Nat):List Int:=(List.range k).map fun j=>nb v (size - 1 - j)
theorem nums_succ (v:Int) (size k:Nat):nums v size (k+1)=nums v size k ++ [nb v (size - 1 - k)]:=by simp [nums,List.range_succ]
theorem nums_length (v:Int) (size k:Nat):(nums v size k).length=k:=by simp [nums]
theorem nb_range (v:Int) (k:Nat):0≤nb v k∧nb v k≤255:=by unfold nb;omega
theorem zAQ (v:Int) (size k:Nat):∀ z ∈ nums v size k,0≤z∧z≤255:=by
 intro z hz
 unfold nums at hz
 obtain ⟨j,_,rfl⟩:=List.mem_map.1 hz
 exact nb_range _ _
set_option maxHeartbeats 400000 in
theorem zAW (v:Value) (zs:List Int) (x:Int) (size:Nat) (B:Nat) (w:World) (hown:OwnB 5 w B v zs) (hB:B≤w.heap.size) (hs:size≤4) (hlen:zs.length≤1048576) :
 Calls Tryz.prog 51 #[v,.int .i64 x,.int .i64 size] w fun e w'=>∃ v',e=.returned v'∧OwnB 5 w' B v' (zs ++ nums x size size)∧Kp w w' v v':=by
 obtain ⟨i0,hi,hz0,hz1,hz2⟩:=info_parts Sl.info5
 have hs0:(size:Int)≤4:=by omega
 have HS:Hid (size≤4):=hs
 have HL:Hid (zs.length≤1048576):=hlen
 clear hs hlen
 go_enter Tryz.func51,Tryz.ntmps51
 go_wp2_with fail
 go_loopw [0,7] (fun b i wr=>∃ (k:Nat) (q:Int),Hid ((k:Int)+q+1=size∧k≤size)∧-1≤q∧q≤3∧i=.int .i64 q∧OwnB 5 wr B b (zs ++ nums x size k)∧Kp w wr v b) (fun _ i _=>(intOf i+1).toNat)
 case atStart=>exact ⟨0,(size:Int) - 1,⟨by omega,by omega⟩,by omega,by omega,by go_num,by simpa [nums] using hown,Kp.refl _ _⟩
 case round =>
  clear hown hs0
  obtain ⟨k,q,HQ,hq0,hq1,rfl,hown,hkp⟩:=hrel
  have hB':B≤wr.heap.size:=Nat.le_trans hB hkp.size
  by_cases hlt:0≤q
  ·have hl:(zs ++ nums x size k).length+1≤140737488355328:=by rw [List.length_append,nums_length];have:=HQ.out;have:=HL.out;have:=HS.out;omega
   go_wp2_with (at_builtin;go_must (refine list_one (by rfl) _ _ 22 (by rfl) Tryz.underlying22 hi hz0 hz1 hz2 B _ _ _ _ (by rfl) (by rfl) hown hB' (by omega) hl ?_;intro v' w' hown' hkp'))
   have e:x / 2 ^ (8 * q).toNat % 256=nb x (size - 1 - k):=by
    unfold nb
    rw [show (8 * q).toNat=8 * (size - 1 - k) by have:=HQ.out;omega]
   rw [e,List.append_assoc,← nums_succ] at hown'
   exact ⟨⟨k+1,q - 1,⟨by have:=HQ.out;omega,by have:=HQ.out;omega⟩,by omega,by omega,rfl,hown',hkp.trans hkp'⟩,by simp [intOf];omega⟩
  ·have hk:k=size:=by have:=HQ.out;omega
   have HK:Hid (k=size):=hk
   clear hk
   go_wp2
   go_ret
   exact ⟨_,rfl,by rw [HK.out] at hown;exact hown,hkp⟩
set_option maxHeartbeats 400000 in
theorem putText_any (v:Value) (zs:List Int) (s:ByteArray) (size:Nat) (B:Nat) (w:World) (hown:OwnB 5 w B v zs) (hB:B≤w.heap.size) (hs:size≤4) (hlen:zs.length≤1048000) (hl2:s.size≤1048576) :
 Calls Tryz.prog 93 #[v,.string s,.int .i64 size] w fun e w'=>∃ v',e=.returned v'∧OwnB 5 w' B v' (zs ++ nums (s.size:Int) size size ++ bys s)∧Kp w w' v v':=by
 obtain ⟨i0,hi,hz0,hz1,hz2⟩:=info_parts Sl.info5
 have hl:∀ q:List Int,q.length=zs.length+size→q.length+s.size≤140737488355328:=by omega
 have HN:Hid ((zs ++ nums (s.size:Int) size size).length=zs.length+size):=by show _=_;rw [List.length_append,nums_length]
 have HL:Hid (_):=hl
 have HO:Hid (OwnB 5 w B v zs):=hown
 clear hl hown
 go_enter Tryz.func93,Tryz.ntmps93
 go_wp2_with fail
 refine (zAW v zs _ size B _ HO.out hB hs (by omega)).mono ?_
 rintro e w1 ⟨v1,rfl,o1,k1⟩
 have B1:B≤w1.heap.size:=Nat.le_trans hB k1.size
 go_wp2_with (at_builtin;go_must (refine list_str (by rfl) _ _ 22 9 (by rfl) Tryz.underlying22 Tryz.underlying9 hi hz0 hz1 hz2 B _ _ s _ (by rfl) (by rfl) o1 B1 (HL.out _ HN.out) ?_;intro v2 w2 o2 k2))
 go_ret
 exact ⟨_,rfl,o2,k1.trans k2⟩
set_option maxHeartbeats 400000 in
theorem zCc (x:Int) (size:Nat) (w:World) (hs:size≤4) :
 Calls Tryz.prog 43 #[.int .i64 x,.int .i64 size] w fun e w'=>∃ v',e=.returned v'∧OwnB 5 w' w.heap.size v' (nums x size size)∧Below w.heap.size w w':=by
 obtain ⟨i0,hi,hz0,hz1,hz2⟩:=info_parts Sl.info5
 have hs0:(size:Int)≤4:=by omega
 have HS:Hid (size≤4):=hs
 clear hs
 go_enter Tryz.func43,Tryz.ntmps43
 go_wp2_with fail
 go_loopw [5,6] (fun b i wr=>∃ (k:Nat) (q:Int),Hid ((k:Int)+q+1=size∧k≤size)∧-1≤q∧q≤3∧i=.int .i64 q∧OwnB 5 wr w.heap.size b (nums x size k)∧Below w.heap.size w wr) (fun _ i _=>(intOf i+1).toNat)
 case atStart=>exact ⟨0,(size:Int) - 1,⟨by omega,by omega⟩,by omega,by omega,by go_num,own_made 5 w w.heap.size #[] 0 (Nat.le_refl _) (by simp [maxLen]) rfl,(Below.refl _ _).alloc (Nat.le_refl _) _⟩
 case round =>
  clear hs0
  obtain ⟨k,q,HQ,hq0,hq1,rfl,hown,hbel⟩:=hrel
  by_cases hlt:0≤q
  ·have hl:(nums x size k).length+1≤140737488355328:=by rw [nums_length];have:=HQ.out;have:=HS.out;omega
   have hB:=hbel.size
   go_wp2_with (at_builtin;go_must (refine By.wpList_append_byte (by rfl) _ _ 22 (by rfl) 5 i0 Tryz.underlying22 hi hz0 hz1 hz2 w.heap.size w _ _ _ _ (by rfl) hown hbel hB (by rfl) hl ?_;intro v' w' hown' hbel' hB'))
   have e:x / 2 ^ (8 * q).toNat % 256=nb x (size - 1 - k):=by
    unfold nb
    rw [show (8 * q).toNat=8 * (size - 1 - k) by have:=HQ.out;omega]
   rw [e,← nums_succ] at hown'
   exact ⟨⟨k+1,q - 1,⟨by have:=HQ.out;omega,by have:=HQ.out;omega⟩,by omega,by omega,rfl,hown',hbel'⟩,by simp [intOf];omega⟩
  ·have hk:k=size:=by have:=HQ.out;omega
   have HK:Hid (k=size):=hk
   clear hk
   go_wp2
   go_ret
   exact ⟨_,rfl,by rw [HK.out] at hown;exact hown,hbel⟩
end Go.Proofs.YtakfniknkejgpaaGreatDoor.Pu
namespace Go.Proofs.YtakfniknkejgpaaGreatDoor.Fu
open Go.RowKit Sl By Ap Tx Ho Fz Pu
theorem run_rowF {P:Program} {i:TypeInfo} (t ty:TypeId) (ht:P.underlying t=some (.slice 5)) (hi:P.info? 5=some i) (hz:i.zero=some (.int .u8 0)) (hsize:i.size=1) (hby:i.bytes=1)
 (B:Nat) (W:World) (v u:Value) (zs xs:List Int) (hown:OwnF W B v zs) (hB:B≤W.heap.size) (hu:RowB W u xs) (hne:xs ≠ []) (hlen:zs.length+xs.length≤1000000000) :
 ∃ v' w',(Builtin.append_ #[t,t] ty #[v,u]).run P W=.ok v' w'∧OwnB 5 w' B v' (zs ++ xs)∧Below B W w':=by
 rcases hown with hown | ⟨g,rfl,hg,hlt,hc⟩
 ·obtain ⟨v',w',h1,h2,h3⟩:=run_row (P:=P) t ty ht hi hz hsize hby B W v u zs xs hown hB hu (by omega)
  exact ⟨v',w',h1,h2,h3.below hown hB⟩
 ·obtain ⟨a,c,rfl,hu,hrx⟩:=hu
  rcases hu with hu | ⟨b,off,rfl,hcx,hbx,hcell⟩
  ·exact absurd hu hne
  have hpos:0<xs.length:=by cases xs with | nil=>exact absurd rfl hne | cons x l=>simp
  have hnews:∀ j v,(xs.map (Value.int .u8))[j]?=some v→W.cell? ((⟨b,off,none⟩ : Addr).add j)=some v:=by
   intro j v hj
   have hj':j<xs.length:=by have:=(List.getElem?_eq_some_iff.1 hj).1;simpa using this
   rw [addr_add,hcell j hj',← hj,List.getElem?_map,nth8 hj']
   rfl
  have holds:∀ j u,(zs.map (Value.int .u8))[j]?=some u→W.cell? ((⟨g,0,none⟩ : Addr).add j)=some u:=by
   intro j u hj
   have hj':j<zs.length:=by have:=(List.getElem?_eq_some_iff.1 hj).1;simpa using this
   rw [addr_add,Nat.zero_add,hc j hj',← hj,List.getElem?_map,nth8 hj']
   rfl
  have hr:=run_append_grow (P:=P) W t ty 5 i (.int .u8 0) ht hi hz ⟨g,0,none⟩ zs.length zs.length (zs.map (Value.int .u8)) (by rw [hsize];simp) holds ⟨b,off,none⟩ xs.length c (xs.map (Value.int .u8)) (by rw [hsize];simp) hnews (by omega) (by omega) (by rw [hby];exact growslice_fits (by omega) (by omega))
  refine ⟨_,_,hr,?_,⟨rfl,rfl,rfl,by simp,fun k hk=>heap_alloc_old W.drew _ (show k<W.heap.size by omega)⟩⟩
  have hge:=grownCap_ge W (zs.length+xs.length) zs.length 5
  have hcm:grownCap W (zs.length+xs.length) zs.length 5≤maxLen:=grownCap_le_maxLen W _ _ _ (by unfold maxLen;omega)
  have hl:(zs ++ xs).length=zs.length+xs.length:=List.length_append
  unfold OwnB
  rw [hl,List.map_append]
  have hlen2:(zs.map (Value.int .u8) ++ xs.map (Value.int .u8)).length=(zs.length+xs.length) * 1:=by simp
  refine ⟨hlen2,.inr ⟨W.heap.size,_,_,rfl,hB,heap_alloc_new W.drew _,hge,hcm,?_,?_⟩⟩
  ·have hz1:(Value.int IntKind.u8 0).cells.size=1:=rfl
   simp only [Array.size_append,List.size_toArray,size_zeroCells,hz1,List.length_map]
   omega
  ·simp only [Array.toList_append,List.append_assoc]
   rw [← List.append_assoc,← hlen2]
   exact List.take_left
theorem list_oneF {P:Program} {i:TypeInfo} {ops:Array Oper} {rest:List Oper} {o:Oper} {a:Act} {Q:Exit→Act→World→Prop} (hgd:o.guard=none) (s x:Operand) (t:TypeId) (ho:o.op=.call { callee:=.builtin .append,args:=#[s,x],argTypes:=#[t,t] }) (ht:P.underlying t=some (.slice 5)) (hi:P.info? 5=some i) (hz:i.zero=some (.int .u8 0))
 (hsize:i.size=1) (hby:i.bytes=1) (B:Nat) (W:World) (v:Value) (z:Int) (zs:List Int) (hs:a.eval s=v) (hx:a.eval x=.slice (some ⟨W.heap.size,0,none⟩) 1 1) (hown:OwnF W B v zs) (hB:B≤W.heap.size) (hz':0≤z∧z≤255) (hlen:zs.length≤1000000)
 (h:∀ v' w',OwnF w' B v' (zs ++ [z])→Below B W w'→wpList P ops Q rest (a.put o.dst v') w'):wpList P ops Q (o :: rest) a (W.alloc (.cells #[.int .u8 z] 5)):=by
 have b0:=zAD W (.cells #[.int .u8 z] 5)
 refine wpList_plain hgd fun K hK=>?_
 obtain ⟨v',w',hr,ho',hg⟩:=run_rowF (P:=P) t o.type ht hi hz hsize hby B _ v _ zs [z] (OwnF.below hown b0) (Nat.le_trans hB b0.size) (zAT (zAi 5 W W.heap.size z (Nat.le_refl _)) (by intro y hy;simp at hy;subst hy;exact hz')) (by simp) (by simp;omega)
 exact zBq ho hs hx hr (hK _ _ (h v' w' (.inl ho') ((b0.mono hB).trans hg)))
set_option maxHeartbeats 400000 in
theorem putNumberF_any (v:Value) (zs:List Int) (x:Int) (size:Nat) (B:Nat) (w:World) (hown:OwnF w B v zs) (hB:B≤w.heap.size) (hs:size≤4) (hlen:zs.length≤900000) :
 Calls Tryz.prog 51 #[v,.int .i64 x,.int .i64 size] w fun e w'=>∃ v',e=.returned v'∧OwnF w' B v' (zs ++ nums x size size)∧Below B w w':=by
 obtain ⟨i0,hi,hz0,hz1,hz2⟩:=info_parts Sl.info5
 have hs0:(size:Int)≤4:=by omega
 have HS:Hid (size≤4):=hs
 have HL:Hid (zs.length≤900000):=hlen
 clear hs hlen
 go_enter Tryz.func51,Tryz.ntmps51
 go_wp2_with fail
 go_loopw [0,7] (fun b i wr=>∃ (k:Nat) (q:Int),Hid ((k:Int)+q+1=size∧k≤size)∧-1≤q∧q≤3∧i=.int .i64 q∧Hid (OwnF wr B b (zs ++ nums x size k)∧Below B w wr)) (fun _ i _=>(intOf i+1).toNat)
 case atStart=>exact ⟨0,(size:Int) - 1,⟨by omega,by omega⟩,by omega,by omega,by go_num,⟨by simpa [nums] using hown,Below.refl _ _⟩⟩
 case round =>
  clear hown hs0
  obtain ⟨k,q,HQ,hq0,hq1,rfl,HO⟩:=hrel
  by_cases hlt:0≤q
  ·have hl:(zs ++ nums x size k).length≤1000000:=by rw [List.length_append,nums_length];have:=HQ.out;have:=HL.out;have:=HS.out;omega
   go_wp2_with (at_builtin;go_must (refine list_oneF (by rfl) _ _ 22 (by rfl) Tryz.underlying22 hi hz0 hz1 hz2 B _ _ _ (zs ++ nums x size k) (by rfl) (by rfl) HO.out.1 (Nat.le_trans hB HO.out.2.size) (by omega) hl ?_;intro v' w' hown' hkp'))
   have e:x / 2 ^ (8 * q).toNat % 256=nb x (size - 1 - k):=by
    unfold nb
    rw [show (8 * q).toNat=8 * (size - 1 - k) by have:=HQ.out;omega]
   rw [e,List.append_assoc,← nums_succ] at hown'
   exact ⟨⟨k+1,q - 1,⟨by have:=HQ.out;omega,by have:=HQ.out;omega⟩,by omega,by omega,rfl,⟨hown',HO.out.2.trans hkp'⟩⟩,by simp [intOf];omega⟩
  ·have hk:k=size:=by have:=HQ.out;omega
   have HK:Hid (k=size):=hk
   clear hk
   rw [HK.out] at HO
   go_wp2
   go_ret
   exact ⟨_,rfl,HO.out.1,HO.out.2⟩
end Go.Proofs.YtakfniknkejgpaaGreatDoor.Fu
