/- Texts put together: Pf, Pg, Ph. -/
import Derived.Test.YtakfniknkejgpaaGreatDoorMi3
namespace Go.Proofs.YtakfniknkejgpaaGreatDoor.Pf
open Go.RowKit Sl By Ap Tx
def inP (n a b:Int):Bool:=decide (a≤n) && decide (n≤b)
theorem inP_yes {n a b:Int} (h1:a≤n) (h2:n≤b):inP n a b=true:=by unfold inP;rw [decide_eq_true h1,decide_eq_true h2];rfl
theorem inP_no {n a b:Int} (h:¬ (a≤n∧n≤b)):inP n a b=false:=by
 unfold inP
 by_cases h1:a≤n
 ·rw [decide_eq_false (show ¬ n≤b from fun h2=>h ⟨h1,h2⟩),Bool.and_false]
 ·rw [decide_eq_false h1,Bool.false_and]
theorem retB {a b:Bool} (h:a=b):Ending.returned (.bool a)=.returned (.bool b):=by rw [h]
theorem retI {a b:Int} (h:a=b):Ending.returned (.int .i64 a)=.returned (.int .i64 b):=by rw [h]
theorem zAR (n a b:Int) (w:World):Calls Tryz.prog 33 #[.int .i64 n,.int .i64 a,.int .i64 b] w fun e w'=>e=.returned (.bool (inP n a b))∧w=w':=by
 by_cases h1:a≤n
 ·by_cases h2:n≤b
  ·have HE:Hid (inP n a b=true):=inP_yes h1 h2
   go_enter Tryz.func33,Tryz.ntmps33
   go_wp2
   go_ret
   exact ⟨retB HE.out.symm,rfl⟩
  ·have HE:Hid (inP n a b=false):=inP_no fun h=>h2 h.2
   go_enter Tryz.func33,Tryz.ntmps33
   go_wp2
   go_ret
   exact ⟨retB HE.out.symm,rfl⟩
 ·have HE:Hid (inP n a b=false):=inP_no fun h=>h1 h.1
  go_enter Tryz.func33,Tryz.ntmps33
  go_wp2
  go_ret
  exact ⟨retB HE.out.symm,rfl⟩
def OneP (ts:List ByteArray) (i:Nat):Prop:=1≤(tnth ts i).size∧(tnth ts i).size≤32∧(i+1<ts.length→(tnth ts i).size=32)
def PcP (ts:List ByteArray):Prop:=ts.length≤64∧∀ i,i<ts.length→OneP ts i
noncomputable def pcB (ts:List ByteArray):Bool:=@decide (PcP ts) (Classical.propDecidable _)
theorem pcB_yes {ts:List ByteArray} (h:PcP ts):pcB ts=true:=by unfold pcB;exact @decide_eq_true _ (Classical.propDecidable _) h
theorem pcB_no {ts:List ByteArray} (h:¬ PcP ts):pcB ts=false:=by unfold pcB;exact @decide_eq_false _ (Classical.propDecidable _) h
theorem pcB_get {ts:List ByteArray} (h:pcB ts=true):PcP ts:=by unfold pcB at h;exact @of_decide_eq_true _ (Classical.propDecidable _) h
noncomputable def pcC (ts:List ByteArray):Int:=if 4096<ts.length then 2 else if pcB ts=true then 0 else 1
theorem pcC_ok {ts:List ByteArray} (h:PcP ts):pcC ts=0:=by
 unfold pcC
 rw [if_neg (by have:=h.1;omega),if_pos (pcB_yes h)]
theorem pcC_get {ts:List ByteArray} (h:pcC ts=0):PcP ts:=by
 unfold pcC at h
 split at h
 ·cases h
 ·split at h
  ·rename_i h2;exact pcB_get h2
  ·cases h
theorem pcC_bad {ts:List ByteArray} (h0:¬ 4096<ts.length) (h:¬ PcP ts):pcC ts=1:=by
 unfold pcC
 rw [if_neg h0,if_neg (by rw [pcB_no h];decide)]
theorem PcP.small {ts:List ByteArray} (h:PcP ts):∀ t ∈ ts,t.size≤32:=by
 intro t ht
 obtain ⟨i,hi,rfl⟩:=List.getElem_of_mem ht
 have:=(h.2 i hi).2.1
 unfold tnth at this
 rw [List.getD_eq_getElem?_getD,List.getElem?_eq_getElem hi] at this
 exact this
set_option maxRecDepth 100000 in
set_option maxHeartbeats 800000 in
theorem piecesFault_any (v:Value) (ts:List ByteArray) (w:World) (h:RowT w v ts) (hl:ts.length≤maxLen) :
 Calls Tryz.prog 21 #[v] w fun e w'=>e=.returned (.int .i64 (pcC ts))∧w=w':=by
 obtain ⟨a,cap,rfl,h⟩:=h
 unfold maxLen at hl
 by_cases h1:4096<ts.length
 ·have h1':(4096:Int)<(ts.length:Int):=by omega
  have HE:Hid (pcC ts=2):=by show _=_;unfold pcC;rw [if_pos h1]
  clear h
  go_enter Tryz.func21,Tryz.ntmps21
  go_wp2
  go_ret
  exact ⟨retI HE.out.symm,rfl⟩
 have h1':¬ (4096:Int)<(ts.length:Int):=by omega
 by_cases h2:64<ts.length
 ·have h2':(64:Int)<(ts.length:Int):=by omega
  have HE:Hid (pcC ts=1):=pcC_bad h1 fun h=>by have:=h.1;omega
  clear h
  go_enter Tryz.func21,Tryz.ntmps21
  go_wp2
  go_ret
  exact ⟨retI HE.out.symm,rfl⟩
 have h2':¬ (64:Int)<(ts.length:Int):=by omega
 have HB:Hid (¬ PcP ts→pcC ts=1):=pcC_bad h1
 have HG:Hid ((∀ i,i<ts.length→OneP ts i)→pcC ts=0):=fun hh=>pcC_ok ⟨by omega,hh⟩
 clear h1 h2
 go_enter Tryz.func21,Tryz.ntmps21
 go_wp2_with fail
 go_loop [14] (fun i=>∃ k:Nat,k≤ts.length∧i=.int .i64 k∧Hid (∀ j,j<k→OneP ts j)) (fun i=>ts.length - (intOf i).toNat)
 case atStart=>exact ⟨0,by omega,rfl,fun j hj=>absurd hj (by omega)⟩
 case round =>
  obtain ⟨k,hk,rfl,HI⟩:=hrel
  by_cases hlt:k<ts.length
  ·rcases h with h | ⟨b,off,rfl,hc,hb,hcell⟩
   ·exact absurd hlt (by rw [h];simp)
   have c1:=hcell k hlt
   have hp1:(k:Int)<(ts.length:Int):=by omega
   clear hcell
   by_cases hgood:OneP ts k
   ·have HJ:Hid (∀ j,j<k+1→OneP ts j):=fun j hj=>by
     by_cases e:j=k
     ·subst e;exact hgood
     ·exact HI.out j (by omega)
    obtain ⟨g1,g2,g3⟩:=hgood
    by_cases hlast:k+1=ts.length
    ·have hq:((k:Int) == (ts.length:Int) - 1)=true:=by simp;omega
     have gi:inP ((tnth ts k).size:Int) 1 32=true:=inP_yes (by omega) (by omega)
     clear hlast g1 g2 g3
     generalize tnth ts k=t at c1 gi
     go_wp2_with (go_at_call 33;refine (zAR _ _ _ _).mono ?_;rintro e w1 ⟨rfl,rfl⟩;rw [gi])
     go_round
     case rel=>exact ⟨k+1,by omega,by go_num,HJ⟩
     case measure=>simp [intOf];omega
    ·have hq:((k:Int) == (ts.length:Int) - 1)=false:=by simp;omega
     have gi:inP ((tnth ts k).size:Int) 32 32=true:=inP_yes (by have:=g3 (by omega);omega) (by omega)
     clear hlast g1 g2 g3
     generalize tnth ts k=t at c1 gi
     go_wp2_with (go_at_call 33;refine (zAR _ _ _ _).mono ?_;rintro e w1 ⟨rfl,rfl⟩;rw [gi])
     go_round
     case rel=>exact ⟨k+1,by omega,by go_num,HJ⟩
     case measure=>simp [intOf];omega
   ·have HE:Hid (pcC ts=1):=HB.out fun hh=>hgood (hh.2 k hlt)
    by_cases hlast:k+1=ts.length
    ·have hq:((k:Int) == (ts.length:Int) - 1)=true:=by simp;omega
     have gi:inP ((tnth ts k).size:Int) 1 32=false:=inP_no fun ⟨a1,a2⟩=>hgood ⟨by omega,by omega,fun hh=>by omega⟩
     clear hlast hgood
     generalize tnth ts k=t at c1 gi
     go_wp2_with (go_at_call 33;refine (zAR _ _ _ _).mono ?_;rintro e w1 ⟨rfl,rfl⟩;rw [gi])
     go_ret
     exact ⟨retI HE.out.symm,rfl⟩
    ·have hq:((k:Int) == (ts.length:Int) - 1)=false:=by simp;omega
     have gi:inP ((tnth ts k).size:Int) 32 32=false:=inP_no fun ⟨a1,a2⟩=>hgood ⟨by omega,by omega,fun _=>by omega⟩
     clear hlast hgood
     generalize tnth ts k=t at c1 gi
     go_wp2_with (go_at_call 33;refine (zAR _ _ _ _).mono ?_;rintro e w1 ⟨rfl,rfl⟩;rw [gi])
     go_ret
     exact ⟨retI HE.out.symm,rfl⟩
  ·obtain rfl:k=ts.length:=by omega
   have HE:Hid (pcC ts=0):=HG.out HI.out
   go_wp2_with fail
   go_ret
   exact ⟨retI HE.out.symm,rfl⟩
end Go.Proofs.YtakfniknkejgpaaGreatDoor.Pf
namespace Go.Proofs.YtakfniknkejgpaaGreatDoor.Pg
open Go.RowKit Sl By Ap Tx Pf
theorem nth_take {xs:List Int} {n i:Nat} (h:i<n):nth (xs.take n) i=nth xs i:=by
 unfold nth;rw [List.getD_eq_getElem?_getD,List.getD_eq_getElem?_getD,List.getElem?_take,if_pos h]
theorem nth_drop (xs:List Int) (n i:Nat):nth (xs.drop n) i=nth xs (n+i):=by
 unfold nth;rw [List.getD_eq_getElem?_getD,List.getD_eq_getElem?_getD,List.getElem?_drop]
theorem rowB_take {w:World} {a:Option Addr} {cap n:Nat} {xs:List Int} (h:RowB w (.slice a xs.length cap) xs) (hn:n≤xs.length):RowB w (.slice a n cap) (xs.take n):=by
 obtain ⟨a',cap',e,h,hr⟩:=h
 simp only [Value.slice.injEq,true_and] at e
 obtain ⟨rfl,rfl⟩:=e
 have hl:(xs.take n).length=n:=by rw [List.length_take];omega
 refine ⟨a,cap,by rw [hl],?_,fun x hx=>hr x (List.mem_of_mem_take hx)⟩
 rcases h with rfl | ⟨b,off,rfl,hc,hlt,h⟩
 ·exact .inl (by simp)
 ·refine .inr ⟨b,off,rfl,by rw [hl];omega,hlt,fun i hi=>?_⟩
  rw [hl] at hi
  rw [nth_take hi]
  exact h i (by omega)
theorem rowB_drop {w:World} {a:Option Addr} {cap n:Nat} {xs:List Int} (h:RowB w (.slice a xs.length cap) xs) (hn:n≤xs.length):RowB w (.slice (if cap=n then a else a.map (·.add n)) (xs.length - n) (cap - n)) (xs.drop n):=by
 obtain ⟨a',cap',e,h,hr⟩:=h
 simp only [Value.slice.injEq,true_and] at e
 obtain ⟨rfl,rfl⟩:=e
 refine ⟨_,cap - n,by rw [List.length_drop],?_,fun x hx=>hr x (List.mem_of_mem_drop hx)⟩
 by_cases he:xs.length=n
 ·exact .inl (List.drop_eq_nil_of_le (by omega))
 ·rcases h with rfl | ⟨b,off,rfl,hc,hlt,h⟩
  ·exact .inl (by simp)
  ·rw [if_neg (by omega)]
   refine .inr ⟨b,off+n,by simp [addr_add],by rw [List.length_drop];omega,hlt,fun i hi=>?_⟩
   rw [List.length_drop] at hi
   rw [nth_drop,Nat.add_assoc]
   exact h (n+i) (by omega)
theorem run_conv_row {P:Program} (w:World) (src e dst:TypeId) (hs:P.underlying src=some (.slice e)) (he:P.underlying e=some (.int .u8)) (hd:P.underlying dst=some .string)
 (v:Value) (zs:List Int) (h:RowB w v zs) (hne:zs ≠ []):(convert src dst v).run P w=.ok (.string (strOfNums zs)) w:=by
 obtain ⟨a,cap,rfl,h,_⟩:=h
 rcases h with rfl | ⟨b,off,rfl,hc,hb,h⟩
 ·exact absurd rfl hne
 ·refine run_convert_bytes_arg w src e hs he b off zs.length cap zs rfl (fun i hi=>?_) dst hd
  exact h i hi
def pcn (xs:List Int) (k:Nat):List Int:=(xs.drop (32 * k)).take 32
def zBF (xs:List Int):Nat→List ByteArray
 | 0=>[]
 | k+1=>zBF xs k ++ [strOfNums (pcn xs k)]
theorem zAf (xs:List Int):∀ k,(zBF xs k).length=k
 | 0=>rfl
 | k+1=>by unfold zBF;rw [List.length_append,zAf xs k];rfl
def cutN (xs:List Int):Nat:=(xs.length+31) / 32
def cutC (xs:List Int):Int:=if 65536<xs.length then 2 else if 2048<xs.length then 7 else 0
def cutL (xs:List Int):List ByteArray:=if cutC xs=0 then zBF xs (cutN xs) else []
theorem cut_long {xs:List Int} (h:65536<xs.length):cutC xs=2∧cutL xs=[]:=by
 have e:cutC xs=2:=if_pos h
 exact ⟨e,by unfold cutL;rw [e];rfl⟩
theorem cut_full {xs:List Int} (h0:¬ 65536<xs.length) (h:2048<xs.length):cutC xs=7∧cutL xs=[]:=by
 have e:cutC xs=7:=by unfold cutC;rw [if_neg h0,if_pos h]
 exact ⟨e,by unfold cutL;rw [e];rfl⟩
theorem cut_ok {xs:List Int} (h:¬ 2048<xs.length):cutC xs=0∧cutL xs=zBF xs (cutN xs):=by
 have e:cutC xs=0:=by unfold cutC;rw [if_neg (by omega),if_neg h]
 exact ⟨e,by unfold cutL;rw [e];rfl⟩
def OwnP (w:World) (B:Nat) (v:Value) (vs:List Value):Prop:=w.ownsRow B 22 1 v vs.length vs
theorem OwnP.cell {w:World} {B:Nat} {v:Value} {vs:List Value} (h:OwnP w B v vs) {j:Nat} {u:Value} (hj:vs[j]?=some u):∃ g cap,v=.slice (some ⟨g,0,none⟩) vs.length cap∧vs.length≤cap∧g<w.heap.size∧w.cell? ⟨g,j,none⟩=some u:=by
 have hlt:j<vs.length:=(List.getElem?_eq_some_iff.1 hj).1
 obtain ⟨hl,h⟩:=h
 rcases h with ⟨rfl,h0⟩ | ⟨g,cap,cur,rfl,hB,hg,hc,_,hs,htk⟩
 ·omega
 ·refine ⟨g,cap,rfl,hc,(Array.getElem?_eq_some_iff.1 hg).1,?_⟩
  rw [Joins.cell_of_block hg j]
  have h1:(cur.toList.take (vs.length * 1))[j]?=some u:=by rw [htk];exact hj
  rw [List.getElem?_take] at h1
  split at h1
  ·simpa using h1
  ·cases h1
theorem OwnP.form {w:World} {B:Nat} {v:Value} {vs:List Value} (h:OwnP w B v vs):∃ a cap,v=.slice a vs.length cap:=by
 obtain ⟨hl,h⟩:=h
 rcases h with ⟨rfl,h0⟩ | ⟨g,cap,cur,rfl,_⟩
 ·exact ⟨none,0,by rw [h0]⟩
 ·exact ⟨_,_,rfl⟩
theorem infoP:(Tryz.prog.info? 22).map (fun i=>(i.zero,i.size,i.bytes))=some (some (.slice none 0 0),1,24):=by kernel_rfl
theorem list_part {P:Program} {ops:Array Oper} {rest:List Oper} {o:Oper} {a:Act} {Q:Exit→Act→World→Prop} (hgd:o.guard=none) (s x:Operand) (t:TypeId)
 (ho:o.op=.call { callee:=.builtin .append,args:=#[s,x],argTypes:=#[t,t] }) (i:TypeInfo) (ht:P.underlying t=some (.slice 22)) (hi:P.info? 22=some i) (hz:i.zero=some (.slice none 0 0))
 (hsize:i.size=1) (hby:i.bytes=24) (B:Nat) (w0 W:World) (v:Value) (vs:List Value) (ad:Option Addr) (n c:Nat) (hs:a.eval s=v) (hown:OwnP W B v vs) (hg0:Below B w0 W) (hB:B≤W.heap.size)
 (hx:a.eval x=.slice (some ⟨W.heap.size,0,none⟩) 1 1) (hlen:vs.length≤1000000)
 (h:∀ v' w',OwnP w' B v' (vs ++ [.slice ad n c])→Below B w0 w'→W.heap.size≤w'.heap.size→wpList P ops Q rest (a.put o.dst v') w'):wpList P ops Q (o :: rest) a (W.alloc (.cells #[.slice ad n c] 22)):=by
 refine wpList_append_own _ hgd s x t ho B 22 i (.slice none 0 0) 1 24 ht hi hz hsize hby rfl (by decide) v vs.length _ hs (hown.alloc _) ⟨W.heap.size,0,none⟩ 1 1 [.slice ad n c] hx (by simp) ?_ ?_ ?_ ?_ ?_ ?_
 ·have:=World.news_of_block (cs:=#[.slice ad n c]) (t:=22) (fr:=(0,0)) (heap_alloc_new W _)
  simpa using this
 ·intro z hz
  rw [List.mem_singleton.1 hz]
  rfl
 ·unfold maxLen;omega
 ·omega
 ·simp;omega
 ·intro v' w' h1 h2 _
  have hs2:=h2.size
  simp at hs2
  refine h v' w' (by unfold OwnP;simpa using h1) ?_ (by omega)
  exact (hg0.alloc hB _).grown h2 (by simp;omega) (fun k hk=>(World.ownsRow.lt hown k hk).1)
def slen:Value→Nat
 | .slice _ n _=>n
 | _=>0
set_option maxRecDepth 100000 in
set_option maxHeartbeats 1600000 in
theorem partsOf_any (v:Value) (xs:List Int) (w:World) (h:RowB w v xs) (hl:xs.length≤2048) :
 Calls Tryz.prog 20 #[v] w fun e w'=>∃ u,e=.returned u∧(∃ vs,vs.length=cutN xs∧OwnP w' w.heap.size u vs∧∀ j,j<cutN xs→∃ x,vs[j]?=some x∧RowB w x (pcn xs j))∧Below w.heap.size w w':=by
 obtain ⟨i0,hi0,hz0,hz1,hz2⟩:=info_parts infoP
 have HR:Hid (RowB w v xs):=h
 have HL:Hid (∀ _:Unit,xs.length≤2048):=fun _=>hl
 obtain ⟨a,cap,rfl,_⟩:=h
 clear hl
 go_enter Tryz.func20,Tryz.ntmps20
 go_wp2_with fail
 go_loopw [0,3] (fun b p wr=>∃ (k:Nat) (vs:List Value),k≤cutN xs∧vs.length=k∧RowB w b (xs.drop (32 * k))∧OwnP wr w.heap.size p vs∧Hid (∀ j,j<k→∃ x,vs[j]?=some x∧RowB w x (pcn xs j))∧Below w.heap.size w wr) (fun b _ _=>slen b)
 case atStart=>exact ⟨0,[],by omega,rfl,HR.out,World.ownsRow_nil _ _ _ _,fun j hj=>absurd hj (by omega),Below.refl _ _⟩
 case round =>
  clear HR
  obtain ⟨k,vs,hk,HV,hb,ho,HI,hg⟩:=hrel
  obtain ⟨a',cap',rfl,hb2⟩:=id hb
  have hlen:(xs.drop (32 * k)).length=xs.length - 32 * k:=List.length_drop
  rw [hlen] at hb ⊢
  have HV':Hid (vs.length=k):=HV
  have hvl:vs.length≤1000000:=by have:=HL.out ();unfold cutN at hk;omega
  have HD:Hid ((xs.drop (32 * k)).length=xs.length - 32 * k):=hlen
  have hB:w.heap.size≤wr.heap.size:=hg.size
  by_cases h0:xs.length - 32 * k=0
  ·have HK:Hid (k=cutN xs):=by show _=_;unfold cutN at hk ⊢;omega
   have HO:Hid (OwnP wr w.heap.size u3 vs):=ho
   rw [h0]
   clear hb hb2 HV hlen ho h0
   go_wp2_with fail
   go_ret
   exact ⟨_,rfl,⟨vs,by rw [HV'.out,HK.out],HO.out,by rw [← HK.out];exact HI.out⟩,hg⟩
  ·have hcap:xs.length - 32 * k≤cap':=by
    rcases hb2.1 with hn | ⟨_,_,_,hc,_⟩
    ·rw [hn] at hlen;simp at hlen;omega
    ·omega
   have hK:k+1≤cutN xs:=by unfold cutN at hk ⊢;omega
   have HBR:Hid (RowB w (.slice a' (xs.drop (32 * k)).length cap') (xs.drop (32 * k))):=by show RowB _ _ _;rw [hlen];exact hb
   have HO:Hid (OwnP wr w.heap.size u3 vs):=ho
   obtain ⟨n,HN⟩ : ∃ n,Hid (xs.length - 32 * k=n):=⟨_,rfl⟩
   rw [HN.out] at h0 hcap HD ⊢
   clear hb hb2 HV hlen ho
   have hn0:(0:Int)<(n:Int):=by omega
   by_cases h32:32<n
   ·have h32':(32:Int)<(n:Int):=by omega
    have HP:Hid (RowB w (.slice a' 32 cap') (pcn xs k)):=rowB_take HBR.out (by rw [HD.out];omega)
    have HQ:Hid (RowB w (.slice (a'.map (·.add 32)) (n - 32) (cap' - 32)) (xs.drop (32 * (k+1)))):=by
     have:=rowB_drop HBR.out (show 32≤(xs.drop (32 * k)).length by rw [HD.out];omega)
     rw [HD.out,List.drop_drop,if_neg (by omega)] at this
     rw [show 32 * (k+1)=32 * k+32 by omega]
     exact this
    have HJ:Hid (∀ j,j<k+1→∃ x,(vs ++ [Value.slice a' 32 cap'])[j]?=some x∧RowB w x (pcn xs j)):=fun j hj=>by
     by_cases e:j<k
     ·obtain ⟨x,h1,h2⟩:=HI.out j e
      exact ⟨x,by rw [List.getElem?_append_left (by rw [HV'.out];exact e)];exact h1,h2⟩
     ·obtain rfl:j=k:=by omega
      exact ⟨_,by rw [List.getElem?_append_right (by rw [HV'.out];exact Nat.le_refl _),HV'.out,Nat.sub_self];rfl,HP.out⟩
    have hc32:¬ cap'=32:=by omega
    go_wp2_with (at_builtin;go_must (refine list_part (by rfl) _ _ 61 (by rfl) i0 Tryz.underlying61 hi0 hz0 hz1 hz2 w.heap.size w wr _ vs _ _ _ (by rfl) HO.out hg hB (by rfl) hvl ?_;intro v3 w3 o3 b3 s3))
    try simp only [show (min 32 (n:Int)).toNat=32 by omega] at o3 ⊢
    exact ⟨⟨k+1,_,hK,by rw [List.length_append,HV'.out];rfl,HQ.out,o3,HJ,b3⟩,by simp [slen];omega⟩
   ·have h32':¬ (32:Int)<(n:Int):=by omega
    have hm:(if (n:Int)<32 then (n:Int) else 32)=(n:Int):=by split <;> omega
    have HP:Hid (RowB w (.slice a' n cap') (pcn xs k)):=by
     have:=rowB_take HBR.out (show n≤(xs.drop (32 * k)).length by rw [HD.out];omega)
     unfold pcn
     rw [List.take_of_length_le (by rw [HD.out];omega)]
     rw [List.take_of_length_le (by rw [HD.out];omega)] at this
     exact this
    have HQ:Hid (∀ b c,RowB w (.slice b 0 c) (xs.drop (32 * (k+1)))):=fun b c=>by
     have e:xs.drop (32 * (k+1))=[]:=List.drop_eq_nil_of_le (by have:=HN.out;omega)
     rw [e]
     exact ⟨b,c,rfl,.inl rfl,fun x hx=>by cases hx⟩
    have HJ:Hid (∀ j,j<k+1→∃ x,(vs ++ [Value.slice a' n cap'])[j]?=some x∧RowB w x (pcn xs j)):=fun j hj=>by
     by_cases e:j<k
     ·obtain ⟨x,h1,h2⟩:=HI.out j e
      exact ⟨x,by rw [List.getElem?_append_left (by rw [HV'.out];exact e)];exact h1,h2⟩
     ·obtain rfl:j=k:=by omega
      exact ⟨_,by rw [List.getElem?_append_right (by rw [HV'.out];exact Nat.le_refl _),HV'.out,Nat.sub_self];rfl,HP.out⟩
    by_cases hcn:cap'=n
    ·subst hcn
     go_wp2_with (at_builtin;go_must (refine list_part (by rfl) _ _ 61 (by rfl) i0 Tryz.underlying61 hi0 hz0 hz1 hz2 w.heap.size w wr _ vs _ _ _ (by rfl) HO.out hg hB (by rfl) hvl ?_;intro v3 w3 o3 b3 s3))
     try simp only [show (min 32 (cap':Int)).toNat=cap' by omega] at o3 ⊢
     exact ⟨⟨k+1,_,hK,by rw [List.length_append,HV'.out];rfl,by first | exact HQ.out _ _ | (simp;exact HQ.out _ _),o3,HJ,b3⟩,by simp [slen];omega⟩
    ·go_wp2_with (at_builtin;go_must (refine list_part (by rfl) _ _ 61 (by rfl) i0 Tryz.underlying61 hi0 hz0 hz1 hz2 w.heap.size w wr _ vs _ _ _ (by rfl) HO.out hg hB (by rfl) hvl ?_;intro v3 w3 o3 b3 s3))
     try simp only [show (min 32 (n:Int)).toNat=n by omega] at o3 ⊢
     exact ⟨⟨k+1,_,hK,by rw [List.length_append,HV'.out];rfl,by first | exact HQ.out _ _ | (simp;exact HQ.out _ _),o3,HJ,b3⟩,by simp [slen];omega⟩
end Go.Proofs.YtakfniknkejgpaaGreatDoor.Pg
namespace Go.Proofs.YtakfniknkejgpaaGreatDoor.Pg
open Go.RowKit Sl By Ap Tx Pf
theorem pcn_ne {xs:List Int} {k:Nat} (h:k<cutN xs):pcn xs k ≠ []:=by
 intro e
 have h1:(pcn xs k).length=0:=by rw [e];rfl
 unfold pcn at h1
 rw [List.length_take,List.length_drop] at h1
 unfold cutN at h
 omega
set_option maxRecDepth 100000 in
set_option maxHeartbeats 1600000 in
theorem zAt (v:Value) (xs:List Int) (w:World) (h:RowB w v xs) (hl:xs.length≤1048576) :
 Calls Tryz.prog 8 #[v] w fun e w'=>∃ v',e=.returned (.tuple #[v',.int .i64 (cutC xs)])∧OwnS w' w.heap.size v' (cutL xs)∧Below w.heap.size w w':=by
 obtain ⟨i0,hi0,hz0,hz1,hz2⟩:=info_parts info9
 have HR:Hid (RowB w v xs):=h
 obtain ⟨a,cap,rfl,_⟩:=h
 by_cases h1:65536<xs.length
 ·have h1':(65536:Int)<(xs.length:Int):=by omega
  have HE:Hid (cutC xs=2∧cutL xs=[]):=cut_long h1
  clear h1
  go_enter Tryz.func8,Tryz.ntmps8
  go_wp2_with fail
  go_ret2
  rw [HE.out.1,HE.out.2]
  exact ⟨_,rfl,OwnS.nil _ _,Below.refl _ _⟩
 have h1':¬ (65536:Int)<(xs.length:Int):=by omega
 by_cases h2:2048<xs.length
 ·have h2':(2048:Int)<(xs.length:Int):=by omega
  have HE:Hid (cutC xs=7∧cutL xs=[]):=cut_full h1 h2
  clear h1 h2
  go_enter Tryz.func8,Tryz.ntmps8
  go_wp2_with fail
  go_ret2
  rw [HE.out.1,HE.out.2]
  exact ⟨_,rfl,OwnS.nil _ _,Below.refl _ _⟩
 have h2':¬ (2048:Int)<(xs.length:Int):=by omega
 have HE:Hid (cutC xs=0∧cutL xs=zBF xs (cutN xs)):=cut_ok h2
 have hN:cutN xs≤64:=by unfold cutN;omega
 have HP:Hid (Calls Tryz.prog 20 #[.slice a xs.length cap] w fun e w'=>∃ u,e=.returned u∧(∃ vs,vs.length=cutN xs∧OwnP w' w.heap.size u vs∧∀ j,j<cutN xs→∃ x,vs[j]?=some x∧RowB w x (pcn xs j))∧Below w.heap.size w w'):=partsOf_any _ xs w HR.out (by omega)
 have HPN:Hid (∀ k,k<cutN xs→pcn xs k ≠ []):=fun k hk=>pcn_ne hk
 generalize cutN xs=n at HE hN HP HPN
 clear h1 h2 HR hl
 go_enter Tryz.func8,Tryz.ntmps8
 go_wp2_with fail
 refine HP.out.mono ?_
 rintro e w1 ⟨u,rfl,⟨vs,hv,o1,hrow⟩,b1⟩
 obtain ⟨ua,uc,rfl⟩:=OwnP.form o1
 rw [hv] at o1 ⊢
 have HV:Hid (vs.length=n):=hv
 have O1:Hid (OwnP w1 w.heap.size (.slice ua vs.length uc) vs):=by show OwnP _ _ _ _;rw [hv];exact o1
 have HW:Hid (∀ j,j<n→∃ x,vs[j]?=some x∧RowB w x (pcn xs j)):=hrow
 have B1:Hid (Below w.heap.size w w1):=b1
 clear hv o1 hrow b1 HP
 go_wp2_with fail
 go_loopw [4,16] (fun l i wr=>∃ k:Nat,k≤n∧i=.int .i64 k∧OwnS wr w1.heap.size l (zBF xs k)∧Below w1.heap.size w1 wr) (fun _ i _=>n - (intOf i).toNat)
 case atStart=>exact ⟨0,by omega,rfl,OwnS.nil _ _,Below.refl _ _⟩
 case round =>
  obtain ⟨k,hk,rfl,ho,hb⟩:=hrel
  by_cases hlt:k<n
  ·obtain ⟨x,hx,rx⟩:=HW.out k hlt
   obtain ⟨g,c,hu,hc,hg,hcell⟩:=O1.out.cell hx
   rw [HV.out] at hu hc
   obtain ⟨rfl,rfl⟩ : ua=some ⟨g,0,none⟩∧uc=c:=by
    have:=hu
    simp only [Value.slice.injEq,true_and] at this
    exact this
   have c1:wr.cell? ⟨g,k,none⟩=some x:=(hb.cell (p:=⟨g,k,none⟩) hg).trans hcell
   have rx2:RowB wr x (pcn xs k):=(rx.below B1.out).below hb
   have hcv:=run_conv_row (P:=Tryz.prog) wr 22 5 9 Tryz.underlying22 Tryz.underlying5 Tryz.underlying9 x _ rx2 (HPN.out k hlt)
   have hp1:(k:Int)<(n:Int):=by omega
   have HO:Hid (OwnS wr w1.heap.size u4 (zBF xs k)):=ho
   have hB:w1.heap.size≤wr.heap.size:=hb.size
   have hln:(zBF xs k).length≤1000000:=by rw [zAf];omega
   obtain ⟨xa,xc,rfl,_⟩:=rx2
   clear hu hx rx hcell ho
   go_wp2_with (at_builtin;go_must (refine list_texts (by rfl) _ _ 38 (by rfl) i0 Tryz.underlying38 hi0 hz0 hz1 hz2 w1.heap.size w1 wr _ (zBF xs k) [strOfNums (pcn xs k)] _ 1 rfl rfl (by decide) (by rfl) HO.out hb hB (by rfl) hln ?_;intro v3 w3 o3 b3 s3 k3))
   exact ⟨⟨k+1,by omega,by go_num,o3,b3⟩,by simp [intOf];omega⟩
  ·obtain rfl:k=n:=by omega
   have HO:Hid (OwnS wr w1.heap.size u4 (zBF xs k)):=ho
   have HBB:Hid (Below w.heap.size w wr):=B1.out.trans (hb.mono B1.out.size)
   clear ho
   go_wp2_with fail
   go_ret2
   rw [HE.out.1,HE.out.2]
   exact ⟨_,rfl,HO.out.mono B1.out.size,HBB.out⟩
end Go.Proofs.YtakfniknkejgpaaGreatDoor.Pg
