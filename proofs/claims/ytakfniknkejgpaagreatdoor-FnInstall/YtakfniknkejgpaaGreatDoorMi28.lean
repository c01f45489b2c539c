/- Texts put together: Pj, Htg, Htt. -/
import Derived.Test.YtakfniknkejgpaaGreatDoorMi27
namespace Go.Proofs.YtakfniknkejgpaaGreatDoor.Pj
open Go.RowKit Sl By Ap Tx Pf
def OwnX (w:World) (B:Nat) (v:Value) (zs:List Int):Prop :=
 ∃ a cap,v=.slice a zs.length cap∧(zs=[] ∨ ∃ g cur fz,a=some ⟨g,0,none⟩∧zs.length≤cap∧B≤g∧w.heap[g]?=some (.cells cur 5 fz)∧∀ i,i<zs.length→cur[i]?=some (.int .u8 (nth zs i))∧(decide (fz.1≤i) && decide (i<fz.2))=false)
theorem OwnX.same {w w':World} {B:Nat} {v:Value} {zs:List Int} (h:OwnX w B v zs) (hb:∀ g,B≤g→g<w.heap.size→w'.heap[g]?=w.heap[g]?):OwnX w' B v zs:=by
 obtain ⟨a,cap,rfl,h⟩:=h
 refine ⟨a,cap,rfl,?_⟩
 rcases h with h | ⟨g,cur,fz,rfl,hc,hB,hg,h⟩
 ·exact .inl h
 ·exact .inr ⟨g,cur,fz,rfl,hc,hB,(hb g hB (Array.getElem?_eq_some_iff.1 hg).1).trans hg,h⟩
theorem nth_set_same {zs:List Int} {j:Nat} {z:Int} (h:j<zs.length):nth (zs.set j z) j=z:=by
 unfold nth;rw [List.getD_eq_getElem?_getD,List.getElem?_set_self h];rfl
theorem nth_set_other {zs:List Int} {i j:Nat} {z:Int} (h:j ≠ i):nth (zs.set j z) i=nth zs i:=by
 unfold nth;rw [List.getD_eq_getElem?_getD,List.getD_eq_getElem?_getD,List.getElem?_set_ne h]
theorem OwnX.store {w:World} {B n:Nat} {v:Value} {zs:List Int} (h:OwnX w B v zs) (hn:zs.length=n) (hp:0<n):∃ g cap,v=.slice (some ⟨g,0,none⟩) n cap∧n≤cap∧B≤g∧g<w.heap.size ∧
 ∀ j,j<n→w.cell? ⟨g,j,none⟩=some (.int .u8 (nth zs j))∧w.frozen? ⟨g,j,none⟩=false∧∀ z,OwnX (w.setCell ⟨g,j,none⟩ (.int .u8 z)) B v (zs.set j z)∧Below B w (w.setCell ⟨g,j,none⟩ (.int .u8 z)):=by
 obtain ⟨a,cap,rfl,h⟩:=h
 subst hn
 rcases h with h | ⟨g,cur,fz,rfl,hc,hB,hg,h⟩
 ·rw [h] at hp;exact absurd hp (by simp)
 ·refine ⟨g,cap,rfl,hc,hB,(Array.getElem?_eq_some_iff.1 hg).1,fun j hj=>⟨(Joins.cell_of_block hg j).trans (h j hj).1,?_,fun z=>⟨?_,?_⟩⟩⟩
  ·have:=(h j hj).2
   obtain ⟨lo,hi⟩:=fz
   simp only [World.frozen?,hg]
   exact this
  ·refine ⟨_,cap,by rw [List.length_set],.inr ⟨g,cur.setIfInBounds j (.int .u8 z),fz,rfl,by rw [List.length_set];exact hc,hB,?_,fun i hi=>?_⟩⟩
   ·rw [setCell_eq_setRow w g j cur 5 fz _ hg];exact setRow_heap w g cur _ 5 fz hg
   ·rw [List.length_set] at hi
    refine ⟨?_,(h i hi).2⟩
    have hjs:j<cur.size:=(Array.getElem?_eq_some_iff.1 (h j hj).1).1
    rw [Array.getElem?_setIfInBounds]
    by_cases e:j=i
    ·subst e
     rw [if_pos rfl,if_pos hjs,nth_set_same hj]
    ·rw [if_neg e,nth_set_other e]
     exact (h i hi).1
  ·exact ⟨rfl,rfl,rfl,by simp,fun k hk=>Below.heap_setCell w ⟨g,j,none⟩ _ k (by show k ≠ g;omega)⟩
end Go.Proofs.YtakfniknkejgpaaGreatDoor.Pj
namespace Go.Proofs.YtakfniknkejgpaaGreatDoor.Hp
open Go.RowKit Sl By Ap Tx Sh Ho Se Ka Pf Px Pg Py Pw
theorem cutTo_at (xs:List Int):∀ n k,k<n→tnth (zBF xs n) k=strOfNums (pcn xs k)
 | 0,k,h=>by omega
 | n+1,k,h=>by
   unfold zBF
   by_cases e:k=n
   ·subst e
    unfold tnth
    rw [List.getD_eq_getElem?_getD,List.getElem?_append_right (by rw [zAf];exact Nat.le_refl _),zAf,Nat.sub_self]
    rfl
   ·rw [tnth_append_left (by rw [zAf];omega)]
    exact cutTo_at xs n k (by omega)
theorem pcn_len (xs:List Int) (k:Nat):(pcn xs k).length=min 32 (xs.length - 32 * k):=by unfold pcn;rw [List.length_take,List.length_drop]
theorem pcn_range {xs:List Int} (h:∀ x ∈ xs,0≤x∧x≤255) (k:Nat):∀ x ∈ pcn xs k,0≤x∧x≤255:=fun x hx=>h x (List.mem_of_mem_drop (List.mem_of_mem_take hx))
theorem cut_size {xs:List Int} {k:Nat} (h:k<cutN xs):(tnth (zBF xs (cutN xs)) k).size=min 32 (xs.length - 32 * k):=by
 rw [cutTo_at xs _ _ h,strOfNums_size,pcn_len]
theorem cut_le {xs:List Int}:∀ t ∈ zBF xs (cutN xs),t.size≤32:=by
 intro t ht
 obtain ⟨i,hi,rfl⟩:=List.getElem_of_mem ht
 have h4:=tnth_at hi
 rw [List.getElem?_eq_getElem hi] at h4
 rw [Option.some.inj h4,cut_size (by rw [zAf] at hi;exact hi)]
 omega
theorem cut_pcC {xs:List Int} (h:xs.length≤2048):pcC (zBF xs (cutN xs))=0:=by
 have hn:cutN xs≤64:=by unfold cutN;omega
 have hp:PcP (zBF xs (cutN xs)):=by
  refine ⟨by rw [zAf];exact hn,fun i hi=>?_⟩
  rw [zAf] at hi
  have hs:=cut_size hi
  have hi2:=hi
  unfold cutN at hi2
  refine ⟨by rw [hs];omega,by rw [hs];omega,fun hl=>?_⟩
  rw [zAf] at hl
  unfold cutN at hl
  rw [hs];omega
 have hb:pcB (zBF xs (cutN xs))=true:=by unfold pcB;exact @decide_eq_true _ (Classical.propDecidable _) hp
 unfold pcC
 rw [if_neg (by rw [zAf];omega),if_pos hb]
theorem cut_cat {xs:List Int} (hr:∀ x ∈ xs,0≤x∧x≤255):∀ k,(zBF xs k).flatMap bys=xs.take (32 * k)
 | 0=>by simp [zBF]
 | k+1=>by
   unfold zBF
   rw [List.flatMap_append,cut_cat hr k,List.flatMap_singleton,bys_str _ (pcn_range hr k)]
   unfold pcn
   rw [show 32 * (k+1)=32 * k+32 by omega,List.take_add]
theorem cut_join {xs:List Int} (hr:∀ x ∈ xs,0≤x∧x≤255):(zBF xs (cutN xs)).flatMap bys=xs:=by
 rw [cut_cat hr]
 refine List.take_of_length_le ?_
 unfold cutN;omega
theorem tnth_take {ts:List ByteArray} {k m:Nat} (h:k<m):tnth (ts.take m) k=tnth ts k:=by
 unfold tnth
 rw [List.getD_eq_getElem?_getD,List.getD_eq_getElem?_getD,List.getElem?_take,if_pos h]
theorem tnth_drop {ts:List ByteArray} {k m:Nat} (h:¬ k<m):tnth (ts.drop m) (k - m)=tnth ts k:=by
 unfold tnth
 rw [List.getD_eq_getElem?_getD,List.getD_eq_getElem?_getD,List.getElem?_drop,show m+(k - m)=k by omega]
theorem snoc_parts (ps:List ByteArray) (r:ByteArray):(ps ++ [r]).take ((ps ++ [r]).length - 1)=ps∧tnth (ps ++ [r]) ((ps ++ [r]).length - 1)=r:=by
 have e:(ps ++ [r]).length - 1=ps.length:=by rw [List.length_append];simp
 rw [e]
 refine ⟨by rw [List.take_append_of_le_length (Nat.le_refl _),List.take_length],?_⟩
 unfold tnth
 rw [List.getD_eq_getElem?_getD,List.getElem?_append_right (Nat.le_refl _),Nat.sub_self]
 rfl
theorem haP_snoc {ps:List ByteArray} {r:ByteArray} (h:haP ps=true) (hr:r.size=32):haP (ps ++ [r])=true:=by
 unfold haP at h ⊢
 rw [List.all_append,h]
 simp [hr]
theorem path_ok:∀ (f:Nat) (ts:List ByteArray) (k:Nat),k<ts.length→ts.length≤f→(∀ t ∈ ts,t.size≤32) →
 (zAr f ts k).length=szP f k ts.length∧haP (zAr f ts k)=true∧upF f (leaf (tnth ts k)) k ts.length (zAr f ts k)=zAy f ts
 | 0,ts,k,h1,h2,_=>by omega
 | f+1,ts,k,h1,h2,hs=>by
   by_cases h:ts.length=1
   ·obtain rfl:k=0:=by omega
    rw [pathF_one h,szP_one h,upF_one h,rootF_one h]
    exact ⟨rfl,rfl,rfl⟩
   ·obtain ⟨q1,q2,_⟩:=half_lt (show 2≤ts.length by omega)
    have hst:∀ t ∈ ts.take (half ts.length),t.size≤32:=fun t ht=>hs t (List.mem_of_mem_take ht)
    have hsd:∀ t ∈ ts.drop (half ts.length),t.size≤32:=fun t ht=>hs t (List.mem_of_mem_drop ht)
    have lt:(ts.take (half ts.length)).length=half ts.length:=by rw [List.length_take];omega
    have ld:(ts.drop (half ts.length)).length=ts.length - half ts.length:=by rw [List.length_drop]
    by_cases hk:k<half ts.length
    ·obtain ⟨i1,i2,i3⟩:=path_ok f (ts.take (half ts.length)) k (by omega) (by omega) hst
     rw [pathF_left h hk,szP_left h hk,upF_left h hk,rootF_more h]
     rw [lt,tnth_take hk] at i3
     rw [lt] at i1
     obtain ⟨s1,s2⟩:=snoc_parts (zAr f (ts.take (half ts.length)) k) (zAy f (ts.drop (half ts.length)))
     rw [s1,s2,i3]
     exact ⟨by rw [List.length_append,i1];rfl,haP_snoc i2 (zAn f _ (by omega) (by omega) hsd),rfl⟩
    ·obtain ⟨i1,i2,i3⟩:=path_ok f (ts.drop (half ts.length)) (k - half ts.length) (by omega) (by omega) hsd
     rw [zCd h hk,zCU h hk,upF_right h hk,rootF_more h]
     rw [ld,tnth_drop hk] at i3
     rw [ld] at i1
     obtain ⟨s1,s2⟩:=snoc_parts (zAr f (ts.drop (half ts.length)) (k - half ts.length)) (zAy f (ts.take (half ts.length)))
     rw [s1,s2,i3]
     exact ⟨by rw [List.length_append,i1];rfl,haP_snoc i2 (zAn f _ (by omega) (by omega) hst),rfl⟩
theorem pieces_ok {xs:List Int} (hr:∀ x ∈ xs,0≤x∧x≤255) (h0:1≤xs.length) (h1:xs.length≤2048) :
 cutC xs=0∧pcC (cutL xs)=0∧(cutL xs).flatMap bys=xs∧(1≤(cutL xs).length∧(cutL xs).length≤64)∧(∀ t ∈ cutL xs,t.size≤32)∧prO (cutL xs)=zAy 64 (cutL xs)∧(zAy 64 (cutL xs)).size=32 ∧
 ∀ k,k<(cutL xs).length→pvC (cutL xs) (k:Int)=0∧pvL (cutL xs) (k:Int)=zAr 64 (cutL xs) k∧ckC (zAy 64 (cutL xs)) (tnth (cutL xs) k) (k:Int) ((cutL xs).length:Int) (zAr 64 (cutL xs) k)=0:=by
 obtain ⟨c1,c2⟩:=cut_ok (xs:=xs) (by omega)
 rw [c2]
 have hl:(zBF xs (cutN xs)).length=cutN xs:=zAf _ _
 have hn:1≤cutN xs∧cutN xs≤64:=by unfold cutN;omega
 have hp:=cut_pcC h1
 have hz:=cut_le (xs:=xs)
 have hroot:=zAn 64 (zBF xs (cutN xs)) (by omega) (by omega) hz
 refine ⟨c1,hp,cut_join hr,by omega,hz,?_,hroot,fun k hk=>?_⟩
 ·unfold prO;rw [if_pos hp,if_neg (by omega)]
 ·have hin:inP (k:Int) 0 (((zBF xs (cutN xs)).length:Int) - 1)=true:=by
   unfold inP;rw [Bool.and_eq_true,decide_eq_true_eq,decide_eq_true_eq];omega
  have hin2:inP ((zBF xs (cutN xs)).length:Int) 1 64=true:=by
   unfold inP;rw [Bool.and_eq_true,decide_eq_true_eq,decide_eq_true_eq];omega
  obtain ⟨v1,v2⟩:=pv_ok hp hin
  obtain ⟨p1,p2,p3⟩:=path_ok 64 (zBF xs (cutN xs)) k hk (by omega) hz
  have hs:=hz _ (zBr hk)
  have hpl:=zBE 64 (zBF xs (cutN xs)) k
  refine ⟨v1,by rw [v2];rfl,ck_ok (by omega) (by rw [p2];simp;omega) ⟨hin2,hin⟩ ?_ ?_⟩
  ·rw [p1];rfl
  ·exact p3
end Go.Proofs.YtakfniknkejgpaaGreatDoor.Hp
namespace Go.Proofs.YtakfniknkejgpaaGreatDoor.Ht
open Go.RowKit Sl By Ap Tb Tw Tp Pu Pt Rq
def tabB (t:Tab):List Int:=zBO t.tm t.nx t.ls t.ss
theorem tab_len (t:Tab) (h:TOK t):(tabB t).length≤227:=by
 have hb:=zCY (tm:=t.tm) (nx:=t.nx) (ls:=t.ls) (ss:=t.ss) h
 obtain ⟨g1,g2,g3,g4⟩:=hb
 have l1:=zCI t.ls (fun x hx=>⟨(g3 x hx).1,(g3 x hx).2.1⟩)
 have l2:=zCA t.ss
 unfold tabB zBO
 simp only [List.length_append,nums_length]
 omega
def tV (T:Tab) (u v:Value):Value:=.agg #[.int .i64 T.tm,.int .i64 T.nx,u,v]
theorem tok_hw {T:Tab} (h:TOK T):(∀ x ∈ T.ls,x.n.size≤1048576∧x.ws.length≤1048576)∧T.ls.length≤1048576∧T.ss.length≤1048576:=by
 obtain ⟨g1,g2,g3,_⟩:=zCY (tm:=T.tm) (nx:=T.nx) (ls:=T.ls) (ss:=T.ss) h
 exact ⟨fun x hx=>⟨by have:=(g3 x hx).1;omega,by have:=(g3 x hx).2.1;omega⟩,by omega,by omega⟩
theorem tb_ok {T:Tab} (h:TOK T):tbOut T.tm T.nx T.ls T.ss=tabB T∧zBQ T.tm T.nx T.ls T.ss=0:=by
 have e:bOf (TOK ⟨T.tm,T.nx,T.ls,T.ss⟩)=true:=zAY h
 unfold tbOut zBQ
 rw [e]
 exact ⟨rfl,rfl⟩
theorem tabB_range (T:Tab):∀ z ∈ tabB T,0≤z∧z≤255:=tabBs_range _ _ _ _
theorem zBu {T:Tab} (hT:TOK T) {u v:Value} {W:World} (h:RowL W u T.ls∧RowS W v T.ss):Calls Tryz.prog 7 #[tV T u v] W fun e w'=>∃ x,e=.returned (.tuple #[x,.int .i64 0])∧RowB w' x (tabB T)∧Below W.heap.size W w':=by
 obtain ⟨a1,a2,a3⟩:=tok_hw hT
 refine (Ub.specTableBytes_any T.tm T.nx u v T.ls T.ss W h.1 h.2 a1 a2 a3).mono ?_
 rintro e w' ⟨x,rfl,o,b⟩
 rw [(tb_ok hT).1] at o
 exact ⟨x,by rw [(tb_ok hT).2],zAT o (tabB_range T),b⟩
end Go.Proofs.YtakfniknkejgpaaGreatDoor.Ht
