/- Texts put together: El, Em, En. -/
import Derived.Test.YticokpbelgpfmaaGreatMaA0
import Derived.Test.YticokpbelgpfmaaGreatMa27
namespace Go.Proofs.YticokpbelgpfmaaGreat.Ea
open Go.RowKit By Ap Tb Tw Wa Tp Da
open Lo (LkA uV clL OwnL OwnL.kept OwnL.lt OwnL.below OwnL.row OwnL.slice zAG zAK Apart lenL atL)
open Tx (zAA zAC zAE zAJ zAD)
def SrcW (W:World) (u:Value) (qs:List Wt):Prop:=∃ a c,u=.slice a qs.length c∧(qs=[] ∨ ∃ b off,a=some ⟨b,off,none⟩∧∀ j z,(qs.flatMap clW)[j]?=some z→W.cell? ⟨b,off+j,none⟩=some z)
theorem runW {P:Program} {i:TypeInfo} (W:World) (B:Nat) (t ty:TypeId) (ht:P.underlying t=some (.slice 153)) (hi:P.info? 153=some i) (hz:i.zero=some (.agg #[.int .i64 0,.int .i64 0])) (hsize:i.size=2) (hby:i.bytes=16)
 (v u:Value) (zs xs:List Wt) (hown:OwnW W B v zs) (hu:SrcW W u xs) (hB:B≤W.heap.size) (hlen:zs.length+xs.length≤1000000) :
 ∃ v' w',(Builtin.append_ #[t,t] ty #[v,u]).run P W=.ok v' w'∧OwnW w' B v' (zs ++ xs)∧W.grownBy w' v.ownBlock∧(v'.ownBlock=v.ownBlock ∨ v'.ownBlock=some W.heap.size):=by
 have key:∀ (ad:Addr) (cap:Nat),(∀ j z,(xs.flatMap clW)[j]?=some z→W.cell? (ad.add j)=some z)→u=.slice (some ad) xs.length cap→∃ v' w',(Builtin.append_ #[t,t] ty #[v,u]).run P W=.ok v' w'∧OwnW w' B v' (zs ++ xs)∧W.grownBy w' v.ownBlock∧(v'.ownBlock=v.ownBlock ∨ v'.ownBlock=some W.heap.size):=fun ad cap hs hu=>by
  obtain ⟨v',w',hr,h2,h3,_,h5⟩:=run_append_own_at (P:=P) W B t ty 153 i _ 2 16 ht hi hz hsize hby rfl (by decide) v zs.length _ hown ad xs.length cap (xs.flatMap clW) (lenW xs) hs (memW xs) (by unfold maxLen;omega) (by omega) hB
  subst hu
  exact ⟨v',w',hr,by unfold OwnW;rw [List.flatMap_append,List.length_append];exact h2,h3,h5⟩
 obtain ⟨a,cap,rfl,h⟩:=hu
 rcases h with rfl | ⟨b,off,rfl,h⟩
 ·cases a with
  | none =>
    have hr:(Builtin.append_ #[t,t] ty #[v,.slice none 0 cap]).run P W=.ok v W:=by
     rcases hown.2 with ⟨rfl,_⟩ | ⟨g,cap',cur,rfl,_,_,hnc,_⟩
     ·simp [Builtin.append_,run_underlying ht,sizeOf,typeInfo,hi,Builtin.lenOf,Builtin.firstCells]
     ·simp [Builtin.append_,run_underlying ht,sizeOf,typeInfo,hi,Builtin.lenOf,Builtin.firstCells,hnc,storeCells]
    exact ⟨v,W,hr,by rw [List.append_nil];exact hown,⟨rfl,rfl,rfl,Nat.le_refl _,fun k _ _=>rfl⟩,.inl rfl⟩
  | some ad=>exact key ad cap (fun j u hj=>by simp at hj) rfl
 ·refine key _ cap (fun j z hj=>?_) rfl
  have h2:(⟨b,off,none⟩ : Addr).add j=⟨b,off+j,none⟩:=by unfold Addr.add;split <;> simp_all
  rw [h2]
  exact h j z hj
theorem flat_takeW (ps:List Wt) (k j:Nat) (z:Value) (h:((ps.take k).flatMap clW)[j]?=some z):(ps.flatMap clW)[j]?=some z:=by
 have hj:=(List.getElem?_eq_some_iff.1 h).1
 have e:ps.flatMap clW=(ps.take k).flatMap clW ++ (ps.drop k).flatMap clW:=by rw [← List.flatMap_append,List.take_append_drop]
 rw [e,List.getElem?_append_left hj]
 exact h
theorem flat_dropW (ps:List Wt) (k j:Nat) (hk:k≤ps.length) (z:Value) (h:((ps.drop k).flatMap clW)[j]?=some z):(ps.flatMap clW)[k * 2+j]?=some z:=by
 have e:ps.flatMap clW=(ps.take k).flatMap clW ++ (ps.drop k).flatMap clW:=by rw [← List.flatMap_append,List.take_append_drop]
 have hl:((ps.take k).flatMap clW).length=k * 2:=by rw [lenW,List.length_take,Nat.min_eq_left hk]
 rw [e,List.getElem?_append_right (by omega),hl,show k * 2+j - k * 2=j by omega]
 exact h
theorem src_takeW {W:World} {B g n c:Nat} {ps:List Wt} (h:OwnW W B (.slice (some ⟨g,0,none⟩) n c) ps) {k:Nat} (hk:k≤ps.length):SrcW W (.slice (some ⟨g,0,none⟩) k c) (ps.take k):=by
 refine ⟨_,c,by rw [List.length_take,Nat.min_eq_left hk],?_⟩
 rcases h.2 with ⟨e,_⟩ | ⟨g',cap,cur,e,_,hg,_,_,_,htk⟩
 ·cases e
 ·cases e
  refine .inr ⟨g,0,rfl,fun j z hj=>?_⟩
  have h1:=flat_takeW ps k j z hj
  have hjl:j<ps.length * 2:=by have:=(List.getElem?_eq_some_iff.1 h1).1;rw [lenW] at this;exact this
  rw [← htk,List.getElem?_take,if_pos hjl,Array.getElem?_toList] at h1
  rw [Nat.zero_add,Joins.cell_of_block hg]
  exact h1
theorem src_dropW {W:World} {B g n c d:Nat} {ps:List Wt} (h:OwnW W B (.slice (some ⟨g,0,none⟩) n c) ps) {k:Nat} (hk:k≤ps.length):SrcW W (.slice (some ⟨g,k * 2,none⟩) (ps.length - k) d) (ps.drop k):=by
 refine ⟨_,d,by rw [List.length_drop],?_⟩
 rcases h.2 with ⟨e,_⟩ | ⟨g',cap,cur,e,_,hg,_,_,_,htk⟩
 ·cases e
 ·cases e
  refine .inr ⟨g,k * 2,rfl,fun j z hj=>?_⟩
  have h1:=flat_dropW ps k j hk z hj
  have hjl:k * 2+j<ps.length * 2:=by have:=(List.getElem?_eq_some_iff.1 h1).1;rw [lenW] at this;exact this
  rw [← htk,List.getElem?_take,if_pos hjl,Array.getElem?_toList] at h1
  rw [Joins.cell_of_block hg]
  exact h1
theorem src_take2W {W:World} {B n c:Nat} {la:Option Addr} {ps:List Wt} (h:OwnW W B (.slice la n c) ps) {k:Nat} (hk:k≤ps.length):SrcW W (.slice la k c) (ps.take k):=by
 cases la with
 | none =>
   rcases h.2 with ⟨e,h0⟩ | ⟨g',cap,cur,e,_⟩
   ·obtain rfl:k=0:=by omega
    exact ⟨none,c,by simp,.inl (by simp)⟩
   ·cases e
 | some a =>
   rcases h.2 with ⟨e,h0⟩ | ⟨g',cap,cur,e,_⟩
   ·cases e
   ·cases e
    exact src_takeW h hk
def behindW (la:Option Addr) (c k:Nat):Option Addr:=if c=k then la else la.map (·.add (k * 2))
theorem src_drop2W {W:World} {B n c d:Nat} {la:Option Addr} {ps:List Wt} (h:OwnW W B (.slice la n c) ps) {k:Nat} (hk:k≤ps.length):SrcW W (.slice (behindW la c k) (ps.length - k) d) (ps.drop k):=by
 have h0:=h
 rcases h.2 with ⟨e,h1⟩ | ⟨g',cap,cur,e,_,hg,hc,_⟩
 ·cases e
  exact ⟨_,d,by rw [List.length_drop],.inl (List.drop_eq_nil_of_le (by omega))⟩
 ·cases e
  unfold behindW
  by_cases ek:c=k
  ·rw [if_pos ek]
   exact ⟨_,d,by rw [List.length_drop],.inl (List.drop_eq_nil_of_le (by have:ps.length * 2≤c * 2:=Nat.mul_le_mul_right 2 hc;omega))⟩
  ·rw [if_neg ek]
   have e2:(some (⟨g',0,none⟩ : Addr)).map (·.add (k * 2))=some ⟨g',k * 2,none⟩:=by simp [Addr.add];intro h;omega
   rw [e2]
   exact src_dropW h0 hk
theorem step_wk {P:Program} {ops:Array Oper} {o:Oper} {a:Act} {K:Act→World→Prop} {Q:Exit→Act→World→Prop} {E:Prop} {i:TypeInfo} (hgd:o.guard=none) (s z:Operand) (t:TypeId) (ho:o.op=.call { callee:=.builtin .append,args:=#[s,z],argTypes:=#[t,t] }) (ht:P.underlying t=some (.slice 153)) (hi:P.info? 153=some i) (hz:i.zero=some (.agg #[.int .i64 0,.int .i64 0]))
 (hsize:i.size=2) (hby:i.bytes=16) (W:World) {B:Nat} {v u:Value} {zs xs:List Wt} (hown:OwnW W B v zs) (hu:SrcW W u xs) (hB:B≤W.heap.size) (hlen:zs.length+xs.length≤1000000) (hs:a.eval s=v) (hx:a.eval z=u)
 (h:∀ v' w',OwnW w' B v' (zs ++ xs)→Below B W w'→(∀ k,k<W.heap.size→some k ≠ v.ownBlock→w'.heap[k]?=W.heap[k]?)→K (a.put o.dst v') w'):if Region.wanted o (yielded ops a.tmps)=true then Oper.wp P o a W K Q else E:=by
 have hw:Region.wanted o (yielded ops a.tmps)=true:=by simp [Region.wanted,hgd]
 rw [if_pos hw]
 obtain ⟨v',w',hr,h2,h3,_⟩:=runW (P:=P) W B t o.type ht hi hz hsize hby v u zs xs hown hu hB hlen
 exact wp_app ho hs hx hr (h v' w' h2 ((Below.refl B W).grown h3 hB (fun k hk=>(hown.lt k hk).1)) (fun k h1 h2=>h3.block k h1 h2))
def SrcS (W:World) (u:Value) (qs:List Sn):Prop:=∃ a c,u=.slice a qs.length c∧(qs=[] ∨ ∃ b off,a=some ⟨b,off,none⟩∧∀ j z,(qs.flatMap clS)[j]?=some z→W.cell? ⟨b,off+j,none⟩=some z)
theorem runS {P:Program} {i:TypeInfo} (W:World) (B:Nat) (t ty:TypeId) (ht:P.underlying t=some (.slice 116)) (hi:P.info? 116=some i) (hz:i.zero=some (.agg #[.int .i64 0,.int .i64 0,.int .i64 0,.int .i64 0,.int .i64 0,.int .i64 0])) (hsize:i.size=6) (hby:i.bytes=48)
 (v u:Value) (zs xs:List Sn) (hown:OwnS W B v zs) (hu:SrcS W u xs) (hB:B≤W.heap.size) (hlen:zs.length+xs.length≤1000000) :
 ∃ v' w',(Builtin.append_ #[t,t] ty #[v,u]).run P W=.ok v' w'∧OwnS w' B v' (zs ++ xs)∧W.grownBy w' v.ownBlock∧(v'.ownBlock=v.ownBlock ∨ v'.ownBlock=some W.heap.size):=by
 have key:∀ (ad:Addr) (cap:Nat),(∀ j z,(xs.flatMap clS)[j]?=some z→W.cell? (ad.add j)=some z)→u=.slice (some ad) xs.length cap→∃ v' w',(Builtin.append_ #[t,t] ty #[v,u]).run P W=.ok v' w'∧OwnS w' B v' (zs ++ xs)∧W.grownBy w' v.ownBlock∧(v'.ownBlock=v.ownBlock ∨ v'.ownBlock=some W.heap.size):=fun ad cap hs hu=>by
  obtain ⟨v',w',hr,h2,h3,_,h5⟩:=run_append_own_at (P:=P) W B t ty 116 i _ 6 48 ht hi hz hsize hby rfl (by decide) v zs.length _ hown ad xs.length cap (xs.flatMap clS) (lenS xs) hs (memS xs) (by unfold maxLen;omega) (by omega) hB
  subst hu
  exact ⟨v',w',hr,by unfold OwnS;rw [List.flatMap_append,List.length_append];exact h2,h3,h5⟩
 obtain ⟨a,cap,rfl,h⟩:=hu
 rcases h with rfl | ⟨b,off,rfl,h⟩
 ·cases a with
  | none =>
    have hr:(Builtin.append_ #[t,t] ty #[v,.slice none 0 cap]).run P W=.ok v W:=by
     rcases hown.2 with ⟨rfl,_⟩ | ⟨g,cap',cur,rfl,_,_,hnc,_⟩
     ·simp [Builtin.append_,run_underlying ht,sizeOf,typeInfo,hi,Builtin.lenOf,Builtin.firstCells]
     ·simp [Builtin.append_,run_underlying ht,sizeOf,typeInfo,hi,Builtin.lenOf,Builtin.firstCells,hnc,storeCells]
    exact ⟨v,W,hr,by rw [List.append_nil];exact hown,⟨rfl,rfl,rfl,Nat.le_refl _,fun k _ _=>rfl⟩,.inl rfl⟩
  | some ad=>exact key ad cap (fun j u hj=>by simp at hj) rfl
 ·refine key _ cap (fun j z hj=>?_) rfl
  have h2:(⟨b,off,none⟩ : Addr).add j=⟨b,off+j,none⟩:=by unfold Addr.add;split <;> simp_all
  rw [h2]
  exact h j z hj
theorem flat_takeS (ps:List Sn) (k j:Nat) (z:Value) (h:((ps.take k).flatMap clS)[j]?=some z):(ps.flatMap clS)[j]?=some z:=by
 have hj:=(List.getElem?_eq_some_iff.1 h).1
 have e:ps.flatMap clS=(ps.take k).flatMap clS ++ (ps.drop k).flatMap clS:=by rw [← List.flatMap_append,List.take_append_drop]
 rw [e,List.getElem?_append_left hj]
 exact h
theorem flat_dropS (ps:List Sn) (k j:Nat) (hk:k≤ps.length) (z:Value) (h:((ps.drop k).flatMap clS)[j]?=some z):(ps.flatMap clS)[k * 6+j]?=some z:=by
 have e:ps.flatMap clS=(ps.take k).flatMap clS ++ (ps.drop k).flatMap clS:=by rw [← List.flatMap_append,List.take_append_drop]
 have hl:((ps.take k).flatMap clS).length=k * 6:=by rw [lenS,List.length_take,Nat.min_eq_left hk]
 rw [e,List.getElem?_append_right (by omega),hl,show k * 6+j - k * 6=j by omega]
 exact h
theorem src_takeS {W:World} {B g n c:Nat} {ps:List Sn} (h:OwnS W B (.slice (some ⟨g,0,none⟩) n c) ps) {k:Nat} (hk:k≤ps.length):SrcS W (.slice (some ⟨g,0,none⟩) k c) (ps.take k):=by
 refine ⟨_,c,by rw [List.length_take,Nat.min_eq_left hk],?_⟩
 rcases h.2 with ⟨e,_⟩ | ⟨g',cap,cur,e,_,hg,_,_,_,htk⟩
 ·cases e
 ·cases e
  refine .inr ⟨g,0,rfl,fun j z hj=>?_⟩
  have h1:=flat_takeS ps k j z hj
  have hjl:j<ps.length * 6:=by have:=(List.getElem?_eq_some_iff.1 h1).1;rw [lenS] at this;exact this
  rw [← htk,List.getElem?_take,if_pos hjl,Array.getElem?_toList] at h1
  rw [Nat.zero_add,Joins.cell_of_block hg]
  exact h1
theorem src_dropS {W:World} {B g n c d:Nat} {ps:List Sn} (h:OwnS W B (.slice (some ⟨g,0,none⟩) n c) ps) {k:Nat} (hk:k≤ps.length):SrcS W (.slice (some ⟨g,k * 6,none⟩) (ps.length - k) d) (ps.drop k):=by
 refine ⟨_,d,by rw [List.length_drop],?_⟩
 rcases h.2 with ⟨e,_⟩ | ⟨g',cap,cur,e,_,hg,_,_,_,htk⟩
 ·cases e
 ·cases e
  refine .inr ⟨g,k * 6,rfl,fun j z hj=>?_⟩
  have h1:=flat_dropS ps k j hk z hj
  have hjl:k * 6+j<ps.length * 6:=by have:=(List.getElem?_eq_some_iff.1 h1).1;rw [lenS] at this;exact this
  rw [← htk,List.getElem?_take,if_pos hjl,Array.getElem?_toList] at h1
  rw [Joins.cell_of_block hg]
  exact h1
theorem src_oneS {W:World} (q:Sn):SrcS (W.alloc (.cells #[.int .i64 q.c,.int .i64 q.s,.int .i64 q.k,.int .i64 q.t,.int .i64 q.h,.int .i64 q.e] 116)) (.slice (some ⟨W.heap.size,0,none⟩) 1 1) [q]:=by
 refine ⟨_,1,rfl,.inr ⟨W.heap.size,0,rfl,fun j z hj=>?_⟩⟩
 rw [Nat.zero_add,Joins.cell_of_block (heap_alloc_new W _),← hj]
 simp [clS]
theorem SrcS.kept {W W':World} {u:Value} {qs:List Sn} (h:SrcS W u qs) (hk:∀ b,u.ownBlock=some b→W'.heap[b]?=W.heap[b]?):SrcS W' u qs:=by
 obtain ⟨a,c,rfl,h⟩:=h
 refine ⟨a,c,rfl,?_⟩
 rcases h with h | ⟨b,off,rfl,h⟩
 ·exact .inl h
 ·exact .inr ⟨b,off,rfl,fun j z hj=>by rw [← h j z hj];simp only [World.cell?,hk b (by rfl)]⟩
theorem src_take2S {W:World} {B n c:Nat} {la:Option Addr} {ps:List Sn} (h:OwnS W B (.slice la n c) ps) {k:Nat} (hk:k≤ps.length):SrcS W (.slice la k c) (ps.take k):=by
 cases la with
 | none =>
   rcases h.2 with ⟨e,h0⟩ | ⟨g',cap,cur,e,_⟩
   ·obtain rfl:k=0:=by omega
    exact ⟨none,c,by simp,.inl (by simp)⟩
   ·cases e
 | some a =>
   rcases h.2 with ⟨e,h0⟩ | ⟨g',cap,cur,e,_⟩
   ·cases e
   ·cases e
    exact src_takeS h hk
def behindS (la:Option Addr) (c k:Nat):Option Addr:=if c=k then la else la.map (·.add (k * 6))
theorem src_drop2S {W:World} {B n c d:Nat} {la:Option Addr} {ps:List Sn} (h:OwnS W B (.slice la n c) ps) {k:Nat} (hk:k≤ps.length):SrcS W (.slice (behindS la c k) (ps.length - k) d) (ps.drop k):=by
 have h0:=h
 rcases h.2 with ⟨e,h1⟩ | ⟨g',cap,cur,e,_,hg,hc,_⟩
 ·cases e
  exact ⟨_,d,by rw [List.length_drop],.inl (List.drop_eq_nil_of_le (by omega))⟩
 ·cases e
  unfold behindS
  by_cases ek:c=k
  ·rw [if_pos ek]
   exact ⟨_,d,by rw [List.length_drop],.inl (List.drop_eq_nil_of_le (by have:ps.length * 6≤c * 6:=Nat.mul_le_mul_right 6 hc;omega))⟩
  ·rw [if_neg ek]
   have e2:(some (⟨g',0,none⟩ : Addr)).map (·.add (k * 6))=some ⟨g',k * 6,none⟩:=by simp [Addr.add];intro h;omega
   rw [e2]
   exact src_dropS h0 hk
theorem SrcS.below {W W':World} {u:Value} {qs:List Sn} {b0:Nat} (h:SrcS W u qs) (hb:Below b0 W W') (hlt:∀ b,u.ownBlock=some b→b<b0):SrcS W' u qs:=h.kept fun b hb'=>hb.block b (hlt b hb')
theorem step_sk {P:Program} {ops:Array Oper} {o:Oper} {a:Act} {K:Act→World→Prop} {Q:Exit→Act→World→Prop} {E:Prop} {i:TypeInfo} (hgd:o.guard=none) (s z:Operand) (t:TypeId) (ho:o.op=.call { callee:=.builtin .append,args:=#[s,z],argTypes:=#[t,t] }) (ht:P.underlying t=some (.slice 116)) (hi:P.info? 116=some i) (hz:i.zero=some (.agg #[.int .i64 0,.int .i64 0,.int .i64 0,.int .i64 0,.int .i64 0,.int .i64 0]))
 (hsize:i.size=6) (hby:i.bytes=48) (W:World) {B:Nat} {v u:Value} {zs xs:List Sn} (hown:OwnS W B v zs) (hu:SrcS W u xs) (hB:B≤W.heap.size) (hlen:zs.length+xs.length≤1000000) (hs:a.eval s=v) (hx:a.eval z=u)
 (h:∀ v' w',OwnS w' B v' (zs ++ xs)→Below B W w'→(∀ k,k<W.heap.size→some k ≠ v.ownBlock→w'.heap[k]?=W.heap[k]?)→K (a.put o.dst v') w'):if Region.wanted o (yielded ops a.tmps)=true then Oper.wp P o a W K Q else E:=by
 have hw:Region.wanted o (yielded ops a.tmps)=true:=by simp [Region.wanted,hgd]
 rw [if_pos hw]
 obtain ⟨v',w',hr,h2,h3,_⟩:=runS (P:=P) W B t o.type ht hi hz hsize hby v u zs xs hown hu hB hlen
 exact wp_app ho hs hx hr (h v' w' h2 ((Below.refl B W).grown h3 hB (fun k hk=>(hown.lt k hk).1)) (fun k h1 h2=>h3.block k h1 h2))
theorem TM.wnew {w0 w w':World} {B x:Nat} {T:Tab} {v3:Value} {ps:List LkA} {g cap n:Nat} (h:TM w0 w B x T (.slice (some ⟨g,0,none⟩) n cap) v3 ps) {k:Nat} {p:LkA} (hk:ps[k]?=some p) (hg:B≤g) (hb:Below w.heap.size w w') {ws:List Wt} {a':Option Addr} {c':Nat} (ho:OwnW w' w.heap.size (.slice a' ws.length c') ws) :
 TM w0 (w'.setCell ⟨g,k * 5+4,none⟩ (.slice a' ws.length c')) B x { T with ls:=T.ls.set k { p.1 with ws:=ws } } (.slice (some ⟨g,0,none⟩) n cap) v3 (ps.set k ({ p.1 with ws:=ws },a',c')):=by
 have h2:=h.up hb
 refine TM.put h2 (q:=({ p.1 with ws:=ws },a',c')) hk rfl (by decide) (OwnW.mono ho h.size) (Apart.fresh h2.ap (G:=w.heap.size) (fun g' hg'=>(ho.lt g' hg').1) (fun q hq g' hg'=>((h.ow q hq).lt g' hg').2)) hg
theorem TM.sreloc {w0 w w':World} {B x:Nat} {T:Tab} {v2 v3 v':Value} {ps:List LkA} {ss:List Sn} (h:TM w0 w B x T v2 v3 ps) (hb:Below w.heap.size w w') (ho:OwnS w' B v' ss) :
 TM w0 (w'.setCell ⟨x,3,none⟩ v') B x { T with ss:=ss } v2 v' ps:=by
 have h2:=h.up hb
 refine ⟨by rw [zAC h2.hx];rfl,h2.ol.kept (fun g hg=>?_),ho.kept (fun g hg=>?_),fun p hp=>(h2.ow p hp).kept (fun g hg=>?_),h2.ap,h2.eq,Below.setCell h2.bel (p:=⟨x,_,none⟩) h.le v',h.b0,h.le⟩
 ·obtain ⟨c1,h1⟩:=zAG h2.ol hg
  exact zAE (zAK h1 h2.hx (by decide)) _ _
 ·obtain ⟨c1,h1⟩:=zAG ho hg
  exact zAE (zAK h1 h2.hx (by decide)) _ _
 ·obtain ⟨c1,h1⟩:=zAG (h2.ow p hp) hg
  exact zAE (zAK h1 h2.hx (by decide)) _ _
theorem l05Acquire_any {w0 w:World} {B x:Nat} {T:Tab} {v2 v3:Value} {ps:List LkA} (h:TM w0 w B x T v2 v3 ps) (hT:TOK T) (hn:T.nx≤999999) (r:Da.Ask) (hr:zBQ r) (hkd:r.kd=1) :
 Calls Tryz.prog 130 #[.pointer (some ⟨x,0,none⟩),.agg #[.int .i64 r.cl,.int .i64 r.st,.int .i64 r.kd,.int .i64 r.le,.string r.nm]] w fun e w'=>DoP w0 w B x (doT T r) e w':=by
 cases hidx:idx T.ls r.nm with
 | none =>
   by_cases h4:4≤T.ls.length
   ·exact l05Acquire_full h hT r hkd hidx h4
   ·exact l05Acquire_new h hT hn r hr hkd hidx h4
 | some k =>
   obtain ⟨y,hy,_⟩:=zBC T.ls k hidx
   by_cases h1:y.h=r.cl
   ·exact zAl h hT hn r hr hkd hidx hy (.inl h1)
   ·cases h2:wtB y.ws r.cl with
    | true=>exact zAl h hT hn r hr hkd hidx hy (.inr (.inl h2))
    | false =>
      by_cases h3:y.h = -1
      ·exact zAl h hT hn r hr hkd hidx hy (.inr (.inr (.inl h3)))
      ·by_cases h4:4≤y.ws.length
       ·exact zAl h hT hn r hr hkd hidx hy (.inr (.inr (.inr h4)))
       ·exact l05Acquire_add h hT r hr hkd hidx hy h1 h2 h3 h4
end Go.Proofs.YticokpbelgpfmaaGreat.Ea
namespace Go.Proofs.YticokpbelgpfmaaGreat.Ea
open Go.RowKit By Ap Tb Tw Wa Tp Da
open Lo (LkA uV clL OwnL OwnL.kept OwnL.lt OwnL.below OwnL.row OwnL.slice zAG zAK Apart lenL atL)
open Tx (zAA zAC zAE zAJ zAD)
open Lf (Fnd zAS)
open Lsh
set_option maxRecDepth 100000 in
set_option maxHeartbeats 6400000 in
theorem l05Do_acq {w0 w:World} {B x:Nat} {T:Tab} {v2 v3:Value} {ps:List LkA} (h:TM w0 w B x T v2 v3 ps) (hT:TOK T) (hn:T.nx≤999999) (r:Da.Ask) (hr:zBQ r) (hkd:r.kd=1) :
 Calls Tryz.prog 98 #[.pointer (some ⟨x,0,none⟩),.agg #[.int .i64 r.cl,.int .i64 r.st,.int .i64 r.kd,.int .i64 r.le,.string r.nm]] w fun e w'=>DoP w0 w B x (doT T r) e w':=by
 have HA:Hid (∀ W,TM w0 W B x T v2 v3 ps→Calls Tryz.prog 130 #[.pointer (some ⟨x,0,none⟩),.agg #[.int .i64 r.cl,.int .i64 r.st,.int .i64 r.kd,.int .i64 r.le,.string r.nm]] W fun e w'=>DoP w0 W B x (doT T r) e w'):=fun W hW=>l05Acquire_any hW hT hn r hr hkd
 have H0:Hid (TM w0 w B x T v2 v3 ps):=h
 have hsB:Hid (B≤w.heap.size):=h.size
 have HX:Hid (∀ W,Below ((w.alloc (.cells #[.int .i64 r.cl,.int .i64 r.st,.int .i64 r.kd,.int .i64 r.le,.string r.nm] 42)).alloc (.cells #[.int .i64 0,.int .i64 0,.int .i64 0,.int .i64 0] 38)).heap.size ((w.alloc (.cells #[.int .i64 r.cl,.int .i64 r.st,.int .i64 r.kd,.int .i64 r.le,.string r.nm] 42)).alloc (.cells #[.int .i64 0,.int .i64 0,.int .i64 0,.int .i64 0] 38)) W→TM w0 W B x T v2 v3 ps∧W.heap[w.heap.size]?=some (.cells #[.int .i64 r.cl,.int .i64 r.st,.int .i64 r.kd,.int .i64 r.le,.string r.nm] 42 (0,0))∧W.heap[w.heap.size+1]?=some (.cells #[.int .i64 0,.int .i64 0,.int .i64 0,.int .i64 0] 38 (0,0))∧Oth w W):=fun W hW=>by
  have e1:(w.alloc (.cells #[.int .i64 r.cl,.int .i64 r.st,.int .i64 r.kd,.int .i64 r.le,.string r.nm] 42)).heap.size=w.heap.size+1:=by simp
  have b2:Below w.heap.size w ((w.alloc (.cells #[.int .i64 r.cl,.int .i64 r.st,.int .i64 r.kd,.int .i64 r.le,.string r.nm] 42)).alloc (.cells #[.int .i64 0,.int .i64 0,.int .i64 0,.int .i64 0] 38)):=(zAD w _).trans ((zAD _ _).mono (zAD w _).size)
  have bb:=b2.trans (hW.mono b2.size)
  refine ⟨H0.out.up bb,?_,?_,Oth.of_below bb⟩
  ·rw [hW.block _ (by simp;omega),(zAD (w.alloc (.cells #[.int .i64 r.cl,.int .i64 r.st,.int .i64 r.kd,.int .i64 r.le,.string r.nm] 42)) (.cells #[.int .i64 0,.int .i64 0,.int .i64 0,.int .i64 0] 38)).block _ (by simp)];exact zAJ _ _ _
  ·rw [hW.block _ (by simp),← e1];exact zAJ _ _ _
 have hk1:(r.kd == 1)=true:=by simp [hkd]
 obtain ⟨R,HR⟩ : ∃ R,Hid (doT T r=R):=⟨_,rfl⟩
 rw [HR.out] at HA
 rw [HR.out]
 clear h hT hkd hn
 go_enter Tryz.func98,Tryz.ntmps98
 go_upto_region 1 with fail
 generalize (w.alloc (.cells #[.int .i64 r.cl,.int .i64 r.st,.int .i64 r.kd,.int .i64 r.le,.string r.nm] 42)).alloc (.cells #[.int .i64 0,.int .i64 0,.int .i64 0,.int .i64 0] 38)=w2 at HX ⊢
 obtain ⟨t2,q2,z2,o2⟩:=HX.out w2 (Below.refl _ _)
 have c0:=(zAA q2 0 (x:=.int .i64 r.cl) rfl).1
 have c1:=(zAA q2 1 (x:=.int .i64 r.st) rfl).1
 have c2:=(zAA q2 2 (x:=.int .i64 r.kd) rfl).1
 have c3:=(zAA q2 3 (x:=.int .i64 r.le) rfl).1
 have c4:=(zAA q2 4 (x:=.string r.nm) rfl).1
 have HA2:=HA.out w2 t2
 have Z2:Hid (w2.heap[w.heap.size+1]?=some (.cells #[.int .i64 0,.int .i64 0,.int .i64 0,.int .i64 0] 38 (0,0))∧Oth w w2):=⟨z2,o2⟩
 clear t2 q2 z2 o2 HA HX
 go_wp2_with fail
 refine HA2.mono ?_
 rintro e w5 ⟨rfl,⟨u2,u3,qs,t5⟩,o5⟩
 have AX:Hid (w5.heap[w.heap.size+1]?=some (.cells #[.int .i64 0,.int .i64 0,.int .i64 0,.int .i64 0] 38 (0,0))):=o5 _ _ _ Z2.out.1 (by decide) (by decide) (by decide) (by decide)
 have RFH:Hid _:=zAg AX.out t5 (Z2.out.2.trans o5) (by omega) (Nat.le_succ_of_le hsB.out) (.int .i64 R.2.k) (.int .i64 R.2.t) (.int .i64 R.2.h) (.int .i64 R.2.e)
 clear t5 o5 Z2 HA2 c0 c1 c2 c3 c4
 obtain ⟨n0,f0⟩:=zAA AX.out 0 (x:=.int .i64 0) rfl
 obtain ⟨n1,f1⟩:=zAA AX.out 1 (x:=.int .i64 0) rfl
 obtain ⟨n2,f2⟩:=zAA AX.out 2 (x:=.int .i64 0) rfl
 obtain ⟨n3,f3⟩:=zAA AX.out 3 (x:=.int .i64 0) rfl
 go_wp2_with fail
 generalize ((((w5.setCell ⟨w.heap.size+1,0,none⟩ (.int .i64 R.2.k)).setCell ⟨w.heap.size+1,1,none⟩ (.int .i64 R.2.t)).setCell ⟨w.heap.size+1,2,none⟩ (.int .i64 R.2.h)).setCell ⟨w.heap.size+1,3,none⟩ (.int .i64 R.2.e))=wf at RFH ⊢
 have d0:=(zAA RFH.out.1 0 (x:=.int .i64 R.2.k) rfl).1
 have d1:=(zAA RFH.out.1 1 (x:=.int .i64 R.2.t) rfl).1
 have d2:=(zAA RFH.out.1 2 (x:=.int .i64 R.2.h) rfl).1
 have d3:=(zAA RFH.out.1 3 (x:=.int .i64 R.2.e) rfl).1
 refine bodyPost_ret (v:=.agg #[.int .i64 R.2.k,.int .i64 R.2.t,.int .i64 R.2.h,.int .i64 R.2.e]) (by simp [results,Tryz.results98,go_sem,d0,d1,d2,d3]) rfl ?_
 exact ⟨rfl,⟨u2,u3,qs,RFH.out.2.1⟩,RFH.out.2.2⟩
set_option maxRecDepth 100000 in
set_option maxHeartbeats 6400000 in
theorem l05Do_none {w0 w:World} {B x:Nat} {T:Tab} {v2 v3:Value} {ps:List LkA} (h:TM w0 w B x T v2 v3 ps) (hT:TOK T) (r:Da.Ask) (hkd:r.kd ≠ 1) (hidx:idx T.ls r.nm=none) :
 Calls Tryz.prog 98 #[.pointer (some ⟨x,0,none⟩),.agg #[.int .i64 r.cl,.int .i64 r.st,.int .i64 r.kd,.int .i64 r.le,.string r.nm]] w fun e w'=>DoP w0 w B x (doT T r) e w':=by
 have hl4:T.ls.length≤4:=hT.2.2.1
 have HDO:Hid (doT T r=(T,bare 3)):=by
  show _=_
  unfold doT
  rw [hidx]
  simp only [ne_eq,hkd,not_false_eq_true,if_true]
 have HF0:Hid (∀ W,TM w0 W B x T v2 v3 ps→Calls Tryz.prog 131 #[.agg #[.int .i64 T.tm,.int .i64 T.nx,v2,v3],.string r.nm] W fun e w'=>e=.returned (.int .i64 (-1))∧Below W.heap.size W w'):=fun W hW=>(zAS T.tm T.nx v2 v3 T.ls r.nm W hW.rows (by omega)).mono fun e w' ⟨q,h1,h2,h3⟩=>⟨by rw [h1,fnd_none hidx h2],h3⟩
 have H0:Hid (TM w0 w B x T v2 v3 ps):=h
 have HX:Hid (∀ W,Below ((w.alloc (.cells #[.int .i64 r.cl,.int .i64 r.st,.int .i64 r.kd,.int .i64 r.le,.string r.nm] 42)).alloc (.cells #[.int .i64 0,.int .i64 0,.int .i64 0,.int .i64 0] 38)).heap.size ((w.alloc (.cells #[.int .i64 r.cl,.int .i64 r.st,.int .i64 r.kd,.int .i64 r.le,.string r.nm] 42)).alloc (.cells #[.int .i64 0,.int .i64 0,.int .i64 0,.int .i64 0] 38)) W→TM w0 W B x T v2 v3 ps∧W.heap[w.heap.size]?=some (.cells #[.int .i64 r.cl,.int .i64 r.st,.int .i64 r.kd,.int .i64 r.le,.string r.nm] 42 (0,0))∧W.heap[w.heap.size+1]?=some (.cells #[.int .i64 0,.int .i64 0,.int .i64 0,.int .i64 0] 38 (0,0))∧Oth w W):=fun W hW=>by
  have e1:(w.alloc (.cells #[.int .i64 r.cl,.int .i64 r.st,.int .i64 r.kd,.int .i64 r.le,.string r.nm] 42)).heap.size=w.heap.size+1:=by simp
  have b2:Below w.heap.size w ((w.alloc (.cells #[.int .i64 r.cl,.int .i64 r.st,.int .i64 r.kd,.int .i64 r.le,.string r.nm] 42)).alloc (.cells #[.int .i64 0,.int .i64 0,.int .i64 0,.int .i64 0] 38)):=(zAD w _).trans ((zAD _ _).mono (zAD w _).size)
  have bb:=b2.trans (hW.mono b2.size)
  refine ⟨H0.out.up bb,?_,?_,Oth.of_below bb⟩
  ·rw [hW.block _ (by simp;omega),(zAD (w.alloc (.cells #[.int .i64 r.cl,.int .i64 r.st,.int .i64 r.kd,.int .i64 r.le,.string r.nm] 42)) (.cells #[.int .i64 0,.int .i64 0,.int .i64 0,.int .i64 0] 38)).block _ (by simp)];exact zAJ _ _ _
  ·rw [hW.block _ (by simp),← e1];exact zAJ _ _ _
 obtain ⟨la,lc,rfl⟩:=h.ol.slice
 have hsB:Hid (B≤w.heap.size):=h.size
 have hk1:(r.kd == 1)=false:=by simp [hkd]
 clear h hT hidx hkd hl4
 go_enter Tryz.func98,Tryz.ntmps98
 go_upto_region 1 with fail
 generalize (w.alloc (.cells #[.int .i64 r.cl,.int .i64 r.st,.int .i64 r.kd,.int .i64 r.le,.string r.nm] 42)).alloc (.cells #[.int .i64 0,.int .i64 0,.int .i64 0,.int .i64 0] 38)=w2 at HX ⊢
 have c2:=(zAA (HX.out w2 (Below.refl _ _)).2.1 2 (x:=.int .i64 r.kd) rfl).1
 go_upto_region 3 with fail
 clear c2
 obtain ⟨X,hX,W,QI0,QO0⟩:=Qc.zAZ w2
 have QI:Hid (∀ w',Below w2.heap.size w2 w'→∃ x,w'=W x):=QI0
 have QO:Hid (∀ x,Below w2.heap.size w2 (W x)):=QO0
 clear QI0 QO0
 have HF:Hid (∀ q,Calls Tryz.prog 131 #[.agg #[.int .i64 T.tm,.int .i64 T.nx,.slice la ps.length lc,v3],.string r.nm] (W q) fun e w'=>e=.returned (.int .i64 (-1))∧Below (W q).heap.size (W q) w'):=fun q=>HF0.out _ (HX.out _ (QO.out q)).1
 have y0:=fun q=>(zAA (HX.out _ (QO.out q)).1.hx 0 (x:=.int .i64 T.tm) rfl).1
 have y1:=fun q=>(zAA (HX.out _ (QO.out q)).1.hx 1 (x:=.int .i64 T.nx) rfl).1
 have y2:=fun q=>(zAA (HX.out _ (QO.out q)).1.hx 2 (x:=.slice la ps.length lc) rfl).1
 have y3:=fun q=>(zAA (HX.out _ (QO.out q)).1.hx 3 (x:=v3) rfl).1
 have z4:=fun q=>(zAA (HX.out _ (QO.out q)).2.1 4 (x:=.string r.nm) rfl).1
 refine Qc.zAF (W:=W) (by kernel_rfl) (by kernel_rfl) (QI.out _ Qc.zAI) ?_
 repeat (go_big_quiet_step (first | (go_at_call 131;refine (HF.out _).mono ?_;rintro e w2 ⟨rfl,b2⟩;exact ⟨rfl,Qc.back QI.out QO.out b2⟩)))
 refine wpQuiet_nil ?_
 rintro _ ⟨xq,rfl⟩
 have G3:Hid (Below w2.heap.size w2 (W xq)):=QO.out xq
 clear y0 y1 y2 y3 z4 HF HF0 QO QI
 generalize W xq=w3 at G3 ⊢
 have AX:Hid (w3.heap[w.heap.size+1]?=some (.cells #[.int .i64 0,.int .i64 0,.int .i64 0,.int .i64 0] 38 (0,0))):=(HX.out _ G3.out).2.2.1
 have RFH:Hid _:=zAg AX.out (HX.out _ G3.out).1 (HX.out _ G3.out).2.2.2 (by omega) (Nat.le_succ_of_le hsB.out) (.int .i64 3) (.int .i64 0) (.int .i64 (-1)) (.int .i64 0)
 obtain ⟨n0,f0⟩:=zAA AX.out 0 (x:=.int .i64 0) rfl
 obtain ⟨n1,f1⟩:=zAA AX.out 1 (x:=.int .i64 0) rfl
 obtain ⟨n2,f2⟩:=zAA AX.out 2 (x:=.int .i64 0) rfl
 obtain ⟨n3,f3⟩:=zAA AX.out 3 (x:=.int .i64 0) rfl
 go_wp2_with fail
 generalize ((((w3.setCell ⟨w.heap.size+1,0,none⟩ (.int .i64 3)).setCell ⟨w.heap.size+1,1,none⟩ (.int .i64 0)).setCell ⟨w.heap.size+1,2,none⟩ (.int .i64 (-1))).setCell ⟨w.heap.size+1,3,none⟩ (.int .i64 0))=wf at RFH ⊢
 have d0:=(zAA RFH.out.1 0 (x:=.int .i64 3) rfl).1
 have d1:=(zAA RFH.out.1 1 (x:=.int .i64 0) rfl).1
 have d2:=(zAA RFH.out.1 2 (x:=.int .i64 (-1)) rfl).1
 have d3:=(zAA RFH.out.1 3 (x:=.int .i64 0) rfl).1
 refine bodyPost_ret (v:=.agg #[.int .i64 3,.int .i64 0,.int .i64 (-1),.int .i64 0]) (by simp [results,Tryz.results98,go_sem,d0,d1,d2,d3]) rfl ?_
 refine ⟨?_,⟨.slice la ps.length lc,v3,ps,?_⟩,RFH.out.2.2⟩
 ·rw [HDO.out];rfl
 ·rw [HDO.out];exact RFH.out.2.1
end Go.Proofs.YticokpbelgpfmaaGreat.Ea
namespace Go.Proofs.YticokpbelgpfmaaGreat.Ea
open Go.RowKit By Ap Tb Tw Wa Tp Da
open Lo (LkA uV clL OwnL OwnL.kept OwnL.lt OwnL.below OwnL.row OwnL.slice zAG zAK Apart lenL atL)
open Tx (zAA zAC zAE zAJ zAD)
open Lf (Fnd zAS)
open Lsh
set_option maxRecDepth 100000 in
set_option maxHeartbeats 6400000 in
theorem l05Do_some {w0 w:World} {B x:Nat} {T:Tab} {v2 v3:Value} {ps:List LkA} (h:TM w0 w B x T v2 v3 ps) (hT:TOK T) (hn:T.nx≤999999) (r:Da.Ask) (hr:zBQ r) (hkd:r.kd ≠ 1) {k:Nat} (hidx:idx T.ls r.nm=some k) {y:Lk} (hy:T.ls[k]?=some y) :
 Calls Tryz.prog 98 #[.pointer (some ⟨x,0,none⟩),.agg #[.int .i64 r.cl,.int .i64 r.st,.int .i64 r.kd,.int .i64 r.le,.string r.nm]] w fun e w'=>DoP w0 w B x (doT T r) e w':=by
 obtain ⟨wi0,hwi0,wz0,wz1,wz2⟩:=info_parts infoW
 obtain ⟨p,hp,hpy⟩:=h.at hy
 have htm:=zAQ hT.1
 have hnx:=zAQ hT.2.1
 have hrc:=zAQ hr.1
 have hkds:r.kd=2 ∨ r.kd=3 ∨ r.kd=4:=by
  rcases hr.2.2.1 with ⟨h,_⟩ | ⟨h,_⟩ <;> omega
 have hle:0≤r.le∧r.le≤1000:=by
  rcases hr.2.2.1 with ⟨_,h⟩ | ⟨_,h⟩
  ·have:=zAQ h;omega
  ·omega
 have hl4:T.ls.length≤4:=hT.2.2.1
 have hh:=(hT.2.2.2.1 k y hy).2.2.2
 have HNEG:Hid (p.1.h<0→y.h = -1):=fun hC=>by
  rcases hh with hh | hh
  ·exact hh.1
  ·have:=(zAQ hh.2.1).1;rw [hpy] at hC;omega
 have HWL:Hid (p.1.ws.length≤4∧p.1.ws.length≤1000):=by
  have h5:y.ws.length≤4:=by
   rcases hh with hh | hh
   ·have:=hh.2.2;omega
   ·exact hh.2.2.2.1
  rw [hpy]
  exact ⟨h5,by omega⟩
 have HWP:Hid (∀ z ∈ p.1.ws,0≤z.l∧z.l≤1000):=fun z hz=>by
  rw [hpy] at hz
  rcases hh with hh | hh
  ·have:=hh.2.2
   have h0:y.ws=[]:=List.length_eq_zero_iff.1 (by omega)
   rw [h0] at hz
   simp at hz
  ·obtain ⟨j,hj⟩:=List.getElem?_of_mem hz
   have:=zAQ (hh.2.2.2.2 j z hj).2.1
   omega
 have hadd:=add_small htm.1 htm.2 hle.1 (by omega:r.le≤1000000000)
 have HADD:Hid (∀ W,Calls Tryz.prog 134 #[.int .i64 T.tm,.int .i64 r.le] W fun e w'=>e=.returned (.int .i64 (T.tm+r.le))∧w'=W):=fun W=>by
  have:=Tm.specAddTime_any T.tm r.le W (by omega) (by omega)
  rwa [hadd] at this
 have HDO:Hid (doT T r=(⟨T.tm,acN T.nx r y,T.ls.set k (acL T.tm T.nx r y),T.ss⟩,tell (acK r y) (acL T.tm T.nx r y))):=by
  show _=_
  unfold doT
  rw [hidx]
  simp only [getD_at hy]
 have HF0:Hid (∀ W,TM w0 W B x T v2 v3 ps→Calls Tryz.prog 131 #[.agg #[.int .i64 T.tm,.int .i64 T.nx,v2,v3],.string r.nm] W fun e w'=>e=.returned (.int .i64 (k:Int))∧Below W.heap.size W w'):=fun W hW=>(zAS T.tm T.nx v2 v3 T.ls r.nm W hW.rows (by omega)).mono fun e w' ⟨q,h1,h2,h3⟩=>⟨by rw [h1,fnd_idx hidx h2],h3⟩
 have H0:Hid (TM w0 w B x T v2 v3 ps):=h
 have HX:Hid (∀ W,Below ((w.alloc (.cells #[.int .i64 r.cl,.int .i64 r.st,.int .i64 r.kd,.int .i64 r.le,.string r.nm] 42)).alloc (.cells #[.int .i64 0,.int .i64 0,.int .i64 0,.int .i64 0] 38)).heap.size ((w.alloc (.cells #[.int .i64 r.cl,.int .i64 r.st,.int .i64 r.kd,.int .i64 r.le,.string r.nm] 42)).alloc (.cells #[.int .i64 0,.int .i64 0,.int .i64 0,.int .i64 0] 38)) W→TM w0 W B x T v2 v3 ps∧W.heap[w.heap.size]?=some (.cells #[.int .i64 r.cl,.int .i64 r.st,.int .i64 r.kd,.int .i64 r.le,.string r.nm] 42 (0,0))∧W.heap[w.heap.size+1]?=some (.cells #[.int .i64 0,.int .i64 0,.int .i64 0,.int .i64 0] 38 (0,0))∧Oth w W):=fun W hW=>by
  have e1:(w.alloc (.cells #[.int .i64 r.cl,.int .i64 r.st,.int .i64 r.kd,.int .i64 r.le,.string r.nm] 42)).heap.size=w.heap.size+1:=by simp
  have b2:Below w.heap.size w ((w.alloc (.cells #[.int .i64 r.cl,.int .i64 r.st,.int .i64 r.kd,.int .i64 r.le,.string r.nm] 42)).alloc (.cells #[.int .i64 0,.int .i64 0,.int .i64 0,.int .i64 0] 38)):=(zAD w _).trans ((zAD _ _).mono (zAD w _).size)
  have bb:=b2.trans (hW.mono b2.size)
  refine ⟨H0.out.up bb,?_,?_,Oth.of_below bb⟩
  ·rw [hW.block _ (by simp;omega),(zAD (w.alloc (.cells #[.int .i64 r.cl,.int .i64 r.st,.int .i64 r.kd,.int .i64 r.le,.string r.nm] 42)) (.cells #[.int .i64 0,.int .i64 0,.int .i64 0,.int .i64 0] 38)).block _ (by simp)];exact zAJ _ _ _
  ·rw [hW.block _ (by simp),← e1];exact zAJ _ _ _
 obtain ⟨g,cap,hv,hgB,_,_,_⟩:=h.row hp
 subst hv
 have hpl:ps.length=T.ls.length:=h.len
 have hkl:k<ps.length:=(List.getElem?_eq_some_iff.1 hp).1
 have hkI:(k:Int)<(ps.length:Int):=by omega
 have hk0:¬ (k:Int)<0:=by omega
 have hk00:(0:Int)≤(k:Int):=by omega
 have hsB:Hid (B≤w.heap.size):=h.size
 have HP:Hid (ps[k]?=some p∧p.1=y∧T.ls[k]?=some y∧B≤g):=⟨hp,hpy,hy,hgB⟩
 have hk1:(r.kd == 1)=false:=by simp [hkd]
 clear h hy hp hpy hpl hT hidx hkd hh hadd
 go_enter Tryz.func98,Tryz.ntmps98
 go_upto_region 1 with fail
 generalize (w.alloc (.cells #[.int .i64 r.cl,.int .i64 r.st,.int .i64 r.kd,.int .i64 r.le,.string r.nm] 42)).alloc (.cells #[.int .i64 0,.int .i64 0,.int .i64 0,.int .i64 0] 38)=w2 at HX ⊢
 have c2:=(zAA (HX.out w2 (Below.refl _ _)).2.1 2 (x:=.int .i64 r.kd) rfl).1
 go_upto_region 3 with fail
 clear c2
 obtain ⟨X,hX,W,QI0,QO0⟩:=Qc.zAZ w2
 have QI:Hid (∀ w',Below w2.heap.size w2 w'→∃ x,w'=W x):=QI0
 have QO:Hid (∀ x,Below w2.heap.size w2 (W x)):=QO0
 clear QI0 QO0
 have HF:Hid (∀ q,Calls Tryz.prog 131 #[.agg #[.int .i64 T.tm,.int .i64 T.nx,.slice (some ⟨g,0,none⟩) ps.length cap,v3],.string r.nm] (W q) fun e w'=>e=.returned (.int .i64 (k:Int))∧Below (W q).heap.size (W q) w'):=fun q=>HF0.out _ (HX.out _ (QO.out q)).1
 have y0:=fun q=>(zAA (HX.out _ (QO.out q)).1.hx 0 (x:=.int .i64 T.tm) rfl).1
 have y1:=fun q=>(zAA (HX.out _ (QO.out q)).1.hx 1 (x:=.int .i64 T.nx) rfl).1
 have y2:=fun q=>(zAA (HX.out _ (QO.out q)).1.hx 2 (x:=.slice (some ⟨g,0,none⟩) ps.length cap) rfl).1
 have y3:=fun q=>(zAA (HX.out _ (QO.out q)).1.hx 3 (x:=v3) rfl).1
 have z4:=fun q=>(zAA (HX.out _ (QO.out q)).2.1 4 (x:=.string r.nm) rfl).1
 refine Qc.zAF (W:=W) (by kernel_rfl) (by kernel_rfl) (QI.out _ Qc.zAI) ?_
 repeat (go_big_quiet_step (first | (go_at_call 131;refine (HF.out _).mono ?_;rintro e w2 ⟨rfl,b2⟩;exact ⟨rfl,Qc.back QI.out QO.out b2⟩)))
 refine wpQuiet_nil ?_
 rintro _ ⟨xq,rfl⟩
 have G3:Hid (Below w2.heap.size w2 (W xq)):=QO.out xq
 clear y0 y1 y2 y3 z4 HF HF0 QO QI
 generalize W xq=w3 at G3 ⊢
 obtain ⟨tq,qq,_,_⟩:=HX.out _ G3.out
 have HM:Hid (∀ j u,(clL p)[j]?=some u→w3.cell? ⟨g,k * 5+j,none⟩=some u):=fun j u hj=>by
  obtain ⟨g',cap',e,_,_,_,hc⟩:=tq.row HP.out.1
  cases e
  exact (hc j u hj).1
 have m0:w3.cell? ⟨g,k * 5,none⟩=some (.string p.1.n):=HM.out 0 (.string p.1.n) rfl
 have m1:=HM.out 1 (.int .i64 p.1.t) rfl
 have m2:=HM.out 2 (.int .i64 p.1.h) rfl
 have m3:=HM.out 3 (.int .i64 p.1.e) rfl
 have m4:=HM.out 4 (.slice p.2.1 p.1.ws.length p.2.2) rfl
 have c0:=(zAA qq 0 (x:=.int .i64 r.cl) rfl).1
 have c2:=(zAA qq 2 (x:=.int .i64 r.kd) rfl).1
 have c3:=(zAA qq 3 (x:=.int .i64 r.le) rfl).1
 have x0:=(zAA tq.hx 0 (x:=.int .i64 T.tm) rfl).1
 have x2:=(zAA tq.hx 2 (x:=.slice (some ⟨g,0,none⟩) ps.length cap) rfl).1
 clear tq qq HM
 have HRW:=((HX.out _ G3.out).1.ow p (List.mem_of_getElem? HP.out.1)).row
 go_upto_region 7 with fail
 by_cases k4:r.kd=4
 ·have HKD:Hid (r.kd=4):=k4
  have hk4:(r.kd == 4)=true:=by simp [k4]
  clear k4 HRW
  by_cases hC:p.1.h<0
  ·have hyh:y.h = -1:=HNEG.out hC
   have HAC:Hid (acN T.nx r y=T.nx∧acL T.tm T.nx r y=y∧acK r y=4):=by
    unfold acN acL acK stK
    rw [HKD.out]
    simp only [show ¬ (4:Int)=1 by decide,show ¬ (4:Int)=2 by decide,show ¬ (4:Int)=3 by decide,if_false,hyh,if_true]
    exact ⟨trivial,trivial,trivial⟩
   have HTL:Hid (∀ W,Calls Tryz.prog 132 #[.int .i64 4,.agg #[.string p.1.n,.int .i64 p.1.t,.int .i64 p.1.h,.int .i64 p.1.e,.slice p.2.1 p.1.ws.length p.2.2]] W fun e w'=>e=.returned (.agg #[.int .i64 4,.int .i64 p.1.t,.int .i64 p.1.h,.int .i64 p.1.e])∧Below W.heap.size W w'):=fun W=>zAT 4 p.1 (uV p) W
   go_wp2_with fail
   refine (HTL.out _).mono ?_
   rintro e w5 ⟨rfl,b5⟩
   have G5:Hid (Below w2.heap.size w2 w5):=G3.out.trans (b5.mono G3.out.size)
   clear b5 m0 m1 m2 m3 m4 c0 c2 c3 x0 x2 HTL
   have AX:Hid (w5.heap[w.heap.size+1]?=some (.cells #[.int .i64 0,.int .i64 0,.int .i64 0,.int .i64 0] 38 (0,0))):=(HX.out _ G5.out).2.2.1
   have RFH:Hid _:=zAg AX.out (HX.out _ G5.out).1 (HX.out _ G5.out).2.2.2 (by omega) (Nat.le_succ_of_le hsB.out) (.int .i64 4) (.int .i64 p.1.t) (.int .i64 p.1.h) (.int .i64 p.1.e)
   obtain ⟨n0,f0⟩:=zAA AX.out 0 (x:=.int .i64 0) rfl
   obtain ⟨n1,f1⟩:=zAA AX.out 1 (x:=.int .i64 0) rfl
   obtain ⟨n2,f2⟩:=zAA AX.out 2 (x:=.int .i64 0) rfl
   obtain ⟨n3,f3⟩:=zAA AX.out 3 (x:=.int .i64 0) rfl
   go_wp2_with fail
   generalize ((((w5.setCell ⟨w.heap.size+1,0,none⟩ (.int .i64 4)).setCell ⟨w.heap.size+1,1,none⟩ (.int .i64 p.1.t)).setCell ⟨w.heap.size+1,2,none⟩ (.int .i64 p.1.h)).setCell ⟨w.heap.size+1,3,none⟩ (.int .i64 p.1.e))=wf at RFH ⊢
   have d0:=(zAA RFH.out.1 0 (x:=.int .i64 4) rfl).1
   have d1:=(zAA RFH.out.1 1 (x:=.int .i64 p.1.t) rfl).1
   have d2:=(zAA RFH.out.1 2 (x:=.int .i64 p.1.h) rfl).1
   have d3:=(zAA RFH.out.1 3 (x:=.int .i64 p.1.e) rfl).1
   refine bodyPost_ret (v:=.agg #[.int .i64 4,.int .i64 p.1.t,.int .i64 p.1.h,.int .i64 p.1.e]) (by simp [results,Tryz.results98,go_sem,d0,d1,d2,d3]) rfl ?_
   refine ⟨?_,⟨.slice (some ⟨g,0,none⟩) ps.length cap,v3,ps,?_⟩,RFH.out.2.2⟩
   ·rw [HDO.out,HAC.out.1,HAC.out.2.1,HAC.out.2.2,← HP.out.2.1];rfl
   ·rw [HDO.out,HAC.out.1,HAC.out.2.1,zAU HP.out.2.2.1];exact RFH.out.2.1
  ·have hyh:¬ y.h = -1:=fun e=>hC (by rw [HP.out.2.1,e];decide)
   have HAC:Hid (acN T.nx r y=T.nx∧acL T.tm T.nx r y=y∧acK r y=5):=by
    unfold acN acL acK stK
    rw [HKD.out]
    simp only [show ¬ (4:Int)=1 by decide,show ¬ (4:Int)=2 by decide,show ¬ (4:Int)=3 by decide,if_false,hyh,if_false]
    exact ⟨trivial,trivial,trivial⟩
   have HTL:Hid (∀ W,Calls Tryz.prog 132 #[.int .i64 5,.agg #[.string p.1.n,.int .i64 p.1.t,.int .i64 p.1.h,.int .i64 p.1.e,.slice p.2.1 p.1.ws.length p.2.2]] W fun e w'=>e=.returned (.agg #[.int .i64 5,.int .i64 p.1.t,.int .i64 p.1.h,.int .i64 p.1.e])∧Below W.heap.size W w'):=fun W=>zAT 5 p.1 (uV p) W
   go_wp2_with fail
   refine (HTL.out _).mono ?_
   rintro e w5 ⟨rfl,b5⟩
   have G5:Hid (Below w2.heap.size w2 w5):=G3.out.trans (b5.mono G3.out.size)
   clear b5 m0 m1 m2 m3 m4 c0 c2 c3 x0 x2 HTL
   have AX:Hid (w5.heap[w.heap.size+1]?=some (.cells #[.int .i64 0,.int .i64 0,.int .i64 0,.int .i64 0] 38 (0,0))):=(HX.out _ G5.out).2.2.1
   have RFH:Hid _:=zAg AX.out (HX.out _ G5.out).1 (HX.out _ G5.out).2.2.2 (by omega) (Nat.le_succ_of_le hsB.out) (.int .i64 5) (.int .i64 p.1.t) (.int .i64 p.1.h) (.int .i64 p.1.e)
   obtain ⟨n0,f0⟩:=zAA AX.out 0 (x:=.int .i64 0) rfl
   obtain ⟨n1,f1⟩:=zAA AX.out 1 (x:=.int .i64 0) rfl
   obtain ⟨n2,f2⟩:=zAA AX.out 2 (x:=.int .i64 0) rfl
   obtain ⟨n3,f3⟩:=zAA AX.out 3 (x:=.int .i64 0) rfl
   go_wp2_with fail
   generalize ((((w5.setCell ⟨w.heap.size+1,0,none⟩ (.int .i64 5)).setCell ⟨w.heap.size+1,1,none⟩ (.int .i64 p.1.t)).setCell ⟨w.heap.size+1,2,none⟩ (.int .i64 p.1.h)).setCell ⟨w.heap.size+1,3,none⟩ (.int .i64 p.1.e))=wf at RFH ⊢
   have d0:=(zAA RFH.out.1 0 (x:=.int .i64 5) rfl).1
   have d1:=(zAA RFH.out.1 1 (x:=.int .i64 p.1.t) rfl).1
   have d2:=(zAA RFH.out.1 2 (x:=.int .i64 p.1.h) rfl).1
   have d3:=(zAA RFH.out.1 3 (x:=.int .i64 p.1.e) rfl).1
   refine bodyPost_ret (v:=.agg #[.int .i64 5,.int .i64 p.1.t,.int .i64 p.1.h,.int .i64 p.1.e]) (by simp [results,Tryz.results98,go_sem,d0,d1,d2,d3]) rfl ?_
   refine ⟨?_,⟨.slice (some ⟨g,0,none⟩) ps.length cap,v3,ps,?_⟩,RFH.out.2.2⟩
   ·rw [HDO.out,HAC.out.1,HAC.out.2.1,HAC.out.2.2,← HP.out.2.1];rfl
   ·rw [HDO.out,HAC.out.1,HAC.out.2.1,zAU HP.out.2.2.1];exact RFH.out.2.1
 ·have hk4:(r.kd == 4)=false:=by simp [k4]
  by_cases k2:r.kd=2
  ·have HKD:Hid (r.kd=2):=k2
   have hk2:(r.kd == 2)=true:=by simp [k2]
   have hk3:(r.kd == 3)=false:=by simp [k2]
   clear k4 k2
   obtain ⟨ix,HIX⟩ : ∃ ix,Hid (wIx p.1.ws r.cl=ix):=⟨_,rfl⟩
   go_upto_region 12 with fail
   obtain ⟨X,hX,W,QI0,QO0⟩:=Qc.zAZ w3
   have QI:Hid (∀ w',Below w3.heap.size w3 w'→∃ x,w'=W x):=QI0
   have QO:Hid (∀ x,Below w3.heap.size w3 (W x)):=QO0
   clear QI0 QO0
   have y0:=Qc.zAB QO.out m0
   have y1:=Qc.zAB QO.out m1
   have y2:=Qc.zAB QO.out m2
   have y3:=Qc.zAB QO.out m3
   have y4:=Qc.zAB QO.out m4
   have z0:=Qc.zAB QO.out c0
   have HW:Hid (∀ q,Calls Tryz.prog 133 #[.agg #[.string p.1.n,.int .i64 p.1.t,.int .i64 p.1.h,.int .i64 p.1.e,.slice p.2.1 p.1.ws.length p.2.2],.int .i64 r.cl] (W q) fun e w'=>e=.returned (.int .i64 ix)∧Below (W q).heap.size (W q) w'):=fun q=>by
    rw [← HIX.out]
    exact zAo p.1 (uV p) r.cl (W q) (RowW.below HRW (QO.out q)) HWL.out.2
   refine Qc.zAF (W:=W) (by kernel_rfl) (by kernel_rfl) (QI.out _ Qc.zAI) ?_
   repeat (go_big_quiet_step (first | (go_at_call 133;refine (HW.out _).mono ?_;rintro e w2 ⟨rfl,b2⟩;exact ⟨rfl,Qc.back QI.out QO.out b2⟩)))
   refine wpQuiet_nil ?_
   rintro _ ⟨xq,rfl⟩
   have G4:Hid (Below w2.heap.size w2 (W xq)):=G3.out.trans ((QO.out xq).mono G3.out.size)
   clear y0 y1 y2 y3 y4 z0 QO QI m0 m1 m2 m3 m4 c0 c2 c3 x0 x2 G3 HW
   generalize W xq=w4 at G4 ⊢
   clear HRW
   cases hB:wtB p.1.ws r.cl with
   | true =>
     obtain ⟨jx,hjx,hjl⟩ : ∃ jx:Nat,ix=(jx:Int)∧jx<p.1.ws.length∧(p.1.ws.findIdx fun w=>w.c == r.cl)=jx:=by
      refine ⟨_,by rw [← HIX.out];unfold wIx;rw [if_pos hB],?_,rfl⟩
      rw [List.findIdx_lt_length]
      unfold wtB at hB
      rw [List.any_eq_true] at hB
      exact hB
     subst hjx
     have hyb:wtB y.ws r.cl=true:=by rw [← HP.out.2.1];exact hB
     have HJX:Hid ((y.ws.findIdx fun w=>w.c == r.cl)=jx∧jx<p.1.ws.length):=⟨by rw [← HP.out.2.1];exact hjl.2,hjl.1⟩
     clear hjl
     have HAC:Hid (acN T.nx r y=T.nx∧acL T.tm T.nx r y = { y with ws:=y.ws.eraseIdx jx }∧acK r y=1):=by
      unfold acN acL acK stK
      rw [HKD.out]
      simp only [show ¬ (2:Int)=1 by decide,if_false,if_true,hyb,HJX.out.1]
      exact ⟨trivial,trivial,trivial⟩
     clear hyb hB HIX
     obtain ⟨pa,HPA⟩ : ∃ pa,Hid (p.2.1=pa):=⟨_,rfl⟩
     obtain ⟨pc,HPC⟩ : ∃ pc,Hid (p.2.2=pc):=⟨_,rfl⟩
     have hix:(0:Int)≤(jx:Int):=by omega
     have hjw:=HJX.out.2
     have hjc:jx+1≤pc:=by
      have hw4:=(HX.out _ G4.out).1.ow p (List.mem_of_getElem? HP.out.1)
      rw [← HPC.out]
      rcases hw4.2 with ⟨e,h1⟩ | ⟨g',cap,cur,e,_,_,hc,_⟩
      ·omega
      ·have:p.2.2=cap:=by injection e
       omega
     have hjI:(jx:Int)≤(pc:Int):=by omega
     have hjI1:(jx:Int)+1≤(pc:Int):=by omega
     have hjN:(jx:Int)≤(p.1.ws.length:Int):=by omega
     have hjN1:(jx:Int)+1≤(p.1.ws.length:Int):=by omega
     have hpl4:=HWL.out.1
     have hwr:IntKind.i64.wrap ((jx:Int)+1)=(jx:Int)+1:=by rw [IntKind.wrap_i64];omega
     have hj1n:¬ (jx:Int)+1<0:=by omega
     have hj0n:¬ (jx:Int)<0:=by omega
     have HX4:Hid (∀ W,Below w4.heap.size w4 W→TM w0 W B x T (.slice (some ⟨g,0,none⟩) ps.length cap) v3 ps∧W.heap[w.heap.size]?=some (.cells #[.int .i64 r.cl,.int .i64 r.st,.int .i64 r.kd,.int .i64 r.le,.string r.nm] 42 (0,0))∧W.heap[w.heap.size+1]?=some (.cells #[.int .i64 0,.int .i64 0,.int .i64 0,.int .i64 0] 38 (0,0))∧Oth w W):=fun W hW=>HX.out W (G4.out.trans (hW.mono G4.out.size))
     have HS4:Hid (∀ W,Below w4.heap.size w4 W→W.cell? ⟨g,k * 5+4,none⟩=some (.slice pa p.1.ws.length pc)):=fun W hW=>by
      obtain ⟨g',cap',e,_,_,_,hc⟩:=(HX4.out W hW).1.row HP.out.1
      cases e
      rw [← HPA.out,← HPC.out]
      exact (hc 4 (uV p) rfl).1
     have HOW:Hid (∀ W,Below w4.heap.size w4 W→Wa.OwnW W B (.slice pa p.1.ws.length pc) p.1.ws):=fun W hW=>by
      have:=(HX4.out W hW).1.ow p (List.mem_of_getElem? HP.out.1)
      rw [← HPA.out,← HPC.out]
      exact this
     clear HX
     go_upto_region 14 with fail
     refine wp_region_noPanic ?_
     refine zAm 19 (S:=fun W=>W.cell? ⟨g,k * 5+4,none⟩=some (.slice pa p.1.ws.length pc)) (by kernel_rfl) (HS4.out _ (Below.refl w4.heap.size w4).drew) (fun hHeld=>?_)
     refine tz 0 ⟨some 56,.move (.tmp 6),182,"l05_locks.go:165",#[],none⟩ ?v1 ?h1 hHeld ?r1
     case h1=>(intro wz hz;(try dsimp only at hz);have y4:=hz;go_simp;try (with_reducible rfl))
     simp only [Act.put,sA,sB,sC]
     refine tz 2 ⟨some 58,.move (.tmp 6),182,"l05_locks.go:165",#[],none⟩ ?v2 ?h2 hHeld ?r2
     case h2=>(intro wz hz;(try dsimp only at hz);have y4:=hz;go_simp;try (with_reducible rfl))
     simp only [Act.put,sA,sB,sC]
     refine tz 3 ⟨some 59,.nilCheck (.tmp 58),0,"l05_locks.go:165",#[⟨2,.data⟩],none⟩ ?v3 ?h3 hHeld ?r3
     case h3=>(intro wz hz;(try dsimp only at hz);have y4:=hz;go_simp;try (with_reducible rfl))
     simp only [Act.put,sA,sB,sC]
     refine tz 4 ⟨some 60,.fieldAddr 45 (.tmp 59) 4,0,"l05_locks.go:165",#[⟨3,.data⟩],none⟩ ?v4 ?h4 hHeld ?r4
     case h4=>(intro wz hz;(try dsimp only at hz);have y4:=hz;go_simp;try (with_reducible rfl))
     simp only [Act.put,sA,sB,sC]
     refine tz 5 ⟨some 61,.load 43 (.tmp 60),43,"l05_locks.go:165",#[⟨4,.data⟩],none⟩ ?v5 ?h5 hHeld ?r5
     case h5=>(intro wz hz;(try dsimp only at hz);have y4:=hz;go_simp;try (with_reducible rfl))
     simp only [Act.put,sA,sB,sC]
     refine tz 6 ⟨some 62,.move (.tmp 7),3,"l05_locks.go:165",#[],none⟩ ?v6 ?h6 hHeld ?r6
     case h6=>(intro wz hz;(try dsimp only at hz);have y4:=hz;go_simp;try (with_reducible rfl))
     simp only [Act.put,sA,sB,sC]
     refine tz 7 ⟨some 63,.slice 43 (.tmp 61) none (some (.tmp 62)) none,43,"l05_locks.go:165",#[⟨5,.data⟩,⟨6,.data⟩],none⟩ ?v7 ?h7 hHeld ?r7
     case h7=>(intro wz hz;(try dsimp only at hz);have y4:=hz;go_simp;try (with_reducible rfl))
     simp only [Act.put,sA,sB,sC]
     refine tz 9 ⟨some 65,.move (.tmp 6),182,"l05_locks.go:165",#[],none⟩ ?v8 ?h8 hHeld ?r8
     case h8=>(intro wz hz;(try dsimp only at hz);have y4:=hz;go_simp;try (with_reducible rfl))
     simp only [Act.put,sA,sB,sC]
     refine tz 10 ⟨some 66,.nilCheck (.tmp 65),0,"l05_locks.go:165",#[⟨9,.data⟩],none⟩ ?v9 ?h9 hHeld ?r9
     case h9=>(intro wz hz;(try dsimp only at hz);have y4:=hz;go_simp;try (with_reducible rfl))
     simp only [Act.put,sA,sB,sC]
     refine tz 11 ⟨some 67,.fieldAddr 45 (.tmp 66) 4,0,"l05_locks.go:165",#[⟨10,.data⟩],none⟩ ?v10 ?h10 hHeld ?r10
     case h10=>(intro wz hz;(try dsimp only at hz);have y4:=hz;go_simp;try (with_reducible rfl))
     simp only [Act.put,sA,sB,sC]
     refine tz 12 ⟨some 68,.load 43 (.tmp 67),43,"l05_locks.go:165",#[⟨11,.data⟩],none⟩ ?v11 ?h11 hHeld ?r11
     case h11=>(intro wz hz;(try dsimp only at hz);have y4:=hz;go_simp;try (with_reducible rfl))
     simp only [Act.put,sA,sB,sC]
     refine tz 13 ⟨some 69,.move (.tmp 7),3,"l05_locks.go:165",#[],none⟩ ?v12 ?h12 hHeld ?r12
     case h12=>(intro wz hz;(try dsimp only at hz);have y4:=hz;go_simp;try (with_reducible rfl))
     simp only [Act.put,sA,sB,sC]
     refine tz 14 ⟨some 70,.binOp BinOp.add 3 (.tmp 69) (Operand.const (Value.int IntKind.i64 1)) 3,3,"l05_locks.go:165",#[⟨13,.data⟩],none⟩ ?v13 ?h13 hHeld ?r13
     case h13=>(intro wz hz;(try dsimp only at hz);have y4:=hz;go_simp;try (with_reducible rfl))
     simp only [Act.put,sA,sB,sC]
     refine tz 15 ⟨some 71,.slice 43 (.tmp 68) (some (.tmp 70)) none none,43,"l05_locks.go:165",#[⟨12,.data⟩,⟨14,.data⟩],none⟩ (.slice (behindW pa pc (jx+1)) (p.1.ws.length - (jx+1)) (pc - (jx+1))) ?h14 hHeld ?r14
     case h14=>(intro wz hz;(try dsimp only at hz);have y4:=hz;unfold behindW;go_simp;try (with_reducible rfl))
     simp only [Act.put,sA,sB,sC]
     refine zAN (rs:=[1]) (by kernel_rfl) (by simp) ?_
     refine (ReadyZ.cons (o:=⟨some 57,.buildSlice 43 0 #[],43,"l05_locks.go:165",#[],none⟩) rfl (fun K hK=>?_) ReadyZ.nil)
     go_simp
     refine hK.out _ _ ?_ (fun hHeld=>?_)
     ·exact HS4.out _ ((Below.refl w4.heap.size w4).drew.alloc (Below.refl w4.heap.size w4).drew.size _)
     clear hK K
     (try simp only [Act.put,sA,sB,sC])
     have oE:Wa.OwnW (w4.drew.alloc (.cells #[] 153)) w4.heap.size (.slice (some ⟨w4.heap.size,0,none⟩) 0 0) []:=OwnW.made w4.drew w4.heap.size (Below.refl w4.heap.size w4).drew.size
     have bE:Below w4.heap.size w4 (w4.drew.alloc (.cells #[] 153)):=(Below.refl w4.heap.size w4).drew.alloc (Below.refl w4.heap.size w4).drew.size _
     refine zAN (rs:=[8]) (by kernel_rfl) (by simp) ?_
     refine (ReadyZ.cons (o:=⟨some 64,.call { callee:=Callee.builtin Builtin.append,args:=#[Operand.tmp 57,Operand.tmp 63],argTypes:=#[43,43] },43,"l05_locks.go:165",#[⟨1,.data⟩,⟨7,.data⟩],none⟩) rfl (fun K hK=>?_) ReadyZ.nil)
     refine step_wk (by rfl) _ _ 43 (by rfl) Tryz.underlying43 hwi0 wz0 wz1 wz2 _ oE (src_take2W (HOW.out _ bE) (k:=jx) (by omega)) bE.size (by simp;omega) (by rfl) (by rfl) ?_
     intro v57 w57 o57 b57 f57
     have c57:Below w4.heap.size w4 w57:=bE.trans b57
     refine hK.out _ _ ?_ (fun hHeld=>?_)
     ·exact HS4.out _ c57
     clear hK K
     (try simp only [Act.put,sA,sB,sC])
     refine zAN (rs:=[16]) (by kernel_rfl) (by simp) ?_
     refine (ReadyZ.cons (o:=⟨some 72,.call { callee:=Callee.builtin Builtin.append,args:=#[Operand.tmp 64,Operand.tmp 71],argTypes:=#[43,43] },43,"l05_locks.go:165",#[⟨8,.data⟩,⟨15,.data⟩,⟨8,.chain⟩],none⟩) rfl (fun K hK=>?_) ReadyZ.nil)
     refine step_wk (by rfl) _ _ 43 (by rfl) Tryz.underlying43 hwi0 wz0 wz1 wz2 _ o57 (src_drop2W (HOW.out _ c57) (k:=jx+1) (by omega)) c57.size (by simp;omega) (by rfl) (by rfl) ?_
     intro v67 w67 o67 b67 f67
     replace o67:Wa.OwnW w67 w4.heap.size v67 (p.1.ws.eraseIdx jx):=(by rw [List.eraseIdx_eq_take_drop_succ];simpa using o67)
     obtain ⟨a67,k67,rfl⟩:=OwnW.slice o67
     have c67:Below w4.heap.size w4 w67:=c57.trans b67
     refine hK.out _ _ ?_ (fun hHeld=>?_)
     ·exact HS4.out _ c67
     clear hK K
     (try simp only [Act.put,sA,sB,sC])
     refine tz 17 ⟨some 73,.nilCheck (.tmp 56),0,"l05_locks.go:165",#[⟨0,.data⟩,⟨0,.phase⟩,⟨1,.phase⟩,⟨2,.phase⟩,⟨3,.phase⟩,⟨4,.phase⟩,⟨5,.phase⟩,⟨6,.phase⟩,⟨7,.phase⟩,⟨8,.phase⟩,⟨9,.phase⟩,⟨10,.phase⟩,⟨11,.phase⟩,⟨12,.phase⟩,⟨13,.phase⟩,⟨14,.phase⟩,⟨15,.phase⟩,⟨16,.phase⟩],none⟩ ?v15 ?h15 hHeld ?r15
     case h15=>(intro wz hz;(try dsimp only at hz);have y4:=hz;go_simp;try (with_reducible rfl))
     simp only [Act.put,sA,sB,sC]
     refine tz 18 ⟨some 74,.fieldAddr 45 (.tmp 73) 4,0,"l05_locks.go:165",#[⟨17,.data⟩,⟨0,.phase⟩,⟨1,.phase⟩,⟨2,.phase⟩,⟨3,.phase⟩,⟨4,.phase⟩,⟨5,.phase⟩,⟨6,.phase⟩,⟨7,.phase⟩,⟨8,.phase⟩,⟨9,.phase⟩,⟨10,.phase⟩,⟨11,.phase⟩,⟨12,.phase⟩,⟨13,.phase⟩,⟨14,.phase⟩,⟨15,.phase⟩,⟨16,.phase⟩],none⟩ ?v16 ?h16 hHeld ?r16
     case h16=>(intro wz hz;(try dsimp only at hz);have y4:=hz;go_simp;try (with_reducible rfl))
     simp only [Act.put,sA,sB,sC]
     refine zAN (rs:=[19]) (by kernel_rfl) (by simp) ?_
     refine ReadyZ.last (o:=⟨none,.store 43 (.tmp 74) (.tmp 72),0,"l05_locks.go:165",#[⟨18,.data⟩,⟨16,.data⟩,⟨16,.chain⟩,⟨0,.phase⟩,⟨1,.phase⟩,⟨2,.phase⟩,⟨3,.phase⟩,⟨4,.phase⟩,⟨5,.phase⟩,⟨6,.phase⟩,⟨7,.phase⟩,⟨8,.phase⟩,⟨9,.phase⟩,⟨10,.phase⟩,⟨11,.phase⟩,⟨12,.phase⟩,⟨13,.phase⟩,⟨14,.phase⟩,⟨15,.phase⟩,⟨16,.phase⟩],none⟩) rfl (fun K hK=>?_)
     have s67:=(HX4.out _ c67).1
     obtain ⟨g',cap',e,_,_,_,hc⟩:=s67.row HP.out.1
     obtain ⟨z2,f2⟩:=hc 4 (uV p) rfl
     cases e
     have z2':w67.cell? ⟨g,k * 5+4,none⟩=some (.slice pa p.1.ws.length pc):=HS4.out _ c67
     clear z2 hc
     go_simp
     refine hK.out _ _ ?_
     clear hK K
     (try simp only [Act.put,sA,sB,sC])
     refine zBa (by kernel_rfl) ?_ _
     refine NoPanic.normal ?_
     have hx67:=HX4.out _ c67
     have T7:Hid (TM w0 (w67.setCell ⟨g,k * 5+4,none⟩ (.slice a67 (p.1.ws.eraseIdx jx).length k67)) B x { T with ls:=T.ls.set k { p.1 with ws:=p.1.ws.eraseIdx jx } } (.slice (some ⟨g,0,none⟩) ps.length cap) v3 (ps.set k ({ p.1 with ws:=p.1.ws.eraseIdx jx },a67,k67))∧(w67.setCell ⟨g,k * 5+4,none⟩ (.slice a67 (p.1.ws.eraseIdx jx).length k67)).heap[w.heap.size+1]?=some (.cells #[.int .i64 0,.int .i64 0,.int .i64 0,.int .i64 0] 38 (0,0))∧Oth w (w67.setCell ⟨g,k * 5+4,none⟩ (.slice a67 (p.1.ws.eraseIdx jx).length k67))):=by
      obtain ⟨cl,hcl⟩:=zAG hx67.1.ol (g:=g) rfl
      exact ⟨(HX4.out w4 (Below.refl _ _)).1.wnew HP.out.1 HP.out.2.2.2 c67 o67,(zAE (zAK hx67.2.2.1 hcl (by decide)) _ _).trans hx67.2.2.1,hx67.2.2.2.trans (hx67.1.othL _ _)⟩
     clear hx67 s67 c67 o67 c57 o57 bE oE hHeld HX4 HS4 HOW z2' f2 b67 b57 f57 f67
     generalize w67.setCell ⟨g,k * 5+4,none⟩ (.slice a67 (p.1.ws.eraseIdx jx).length k67)=w7 at T7 ⊢
     have HM5:Hid (∀ j u,(clL (({ p.1 with ws:=p.1.ws.eraseIdx jx }:Lk),a67,k67))[j]?=some u→w7.cell? ⟨g,k * 5+j,none⟩=some u):=fun j u hj=>by
      obtain ⟨g',cap',e,_,_,_,hc⟩:=T7.out.1.row (zBL HP.out.1)
      rw [List.length_set] at e
      cases e
      exact (hc j u hj).1
     have m0:w7.cell? ⟨g,k * 5,none⟩=some (.string p.1.n):=HM5.out 0 _ rfl
     have m1:=HM5.out 1 (.int .i64 p.1.t) rfl
     have m2:=HM5.out 2 (.int .i64 p.1.h) rfl
     have m3:=HM5.out 3 (.int .i64 p.1.e) rfl
     have m4:=HM5.out 4 (.slice a67 (p.1.ws.eraseIdx jx).length k67) rfl
     have x2:=(zAA T7.out.1.hx 2 (x:=.slice (some ⟨g,0,none⟩) ps.length cap) rfl).1
     have HTL:Hid (∀ W,Calls Tryz.prog 132 #[.int .i64 1,.agg #[.string p.1.n,.int .i64 p.1.t,.int .i64 p.1.h,.int .i64 p.1.e,.slice a67 (p.1.ws.eraseIdx jx).length k67]] W fun e w'=>e=.returned (.agg #[.int .i64 1,.int .i64 p.1.t,.int .i64 p.1.h,.int .i64 p.1.e])∧Below W.heap.size W w'):=fun W=>zAT 1 ((({ p.1 with ws:=p.1.ws.eraseIdx jx }:Lk),a67,k67)).1 (uV (({ p.1 with ws:=p.1.ws.eraseIdx jx }:Lk),a67,k67)) W
     clear HM5
     go_wp2_with fail
     refine (HTL.out _).mono ?_
     rintro e w8 ⟨rfl,b8⟩
     have T8:Hid (TM w0 w8 B x { T with ls:=T.ls.set k { p.1 with ws:=p.1.ws.eraseIdx jx } } (.slice (some ⟨g,0,none⟩) ps.length cap) v3 (ps.set k (({ p.1 with ws:=p.1.ws.eraseIdx jx }:Lk),a67,k67))∧w8.heap[w.heap.size+1]?=some (.cells #[.int .i64 0,.int .i64 0,.int .i64 0,.int .i64 0] 38 (0,0))∧Oth w w8):=⟨T7.out.1.up b8,(b8.block _ (Array.getElem?_eq_some_iff.1 T7.out.2.1).1).trans T7.out.2.1,T7.out.2.2.trans (Oth.of_below b8)⟩
     clear b8 m0 m1 m2 m3 m4 x2 HTL
     have AX:Hid (w8.heap[w.heap.size+1]?=some (.cells #[.int .i64 0,.int .i64 0,.int .i64 0,.int .i64 0] 38 (0,0))):=T8.out.2.1
     have RFH:Hid _:=zAg AX.out T8.out.1 T8.out.2.2 (by omega) (Nat.le_succ_of_le hsB.out) (.int .i64 1) (.int .i64 p.1.t) (.int .i64 p.1.h) (.int .i64 p.1.e)
     clear T8
     obtain ⟨n0,f0⟩:=zAA AX.out 0 (x:=.int .i64 0) rfl
     obtain ⟨n1,f1⟩:=zAA AX.out 1 (x:=.int .i64 0) rfl
     obtain ⟨n2,f2⟩:=zAA AX.out 2 (x:=.int .i64 0) rfl
     obtain ⟨n3,f3⟩:=zAA AX.out 3 (x:=.int .i64 0) rfl
     go_wp2_with fail
     generalize ((((w8.setCell ⟨w.heap.size+1,0,none⟩ (.int .i64 1)).setCell ⟨w.heap.size+1,1,none⟩ (.int .i64 p.1.t)).setCell ⟨w.heap.size+1,2,none⟩ (.int .i64 p.1.h)).setCell ⟨w.heap.size+1,3,none⟩ (.int .i64 p.1.e))=wf at RFH ⊢
     have d0:=(zAA RFH.out.1 0 (x:=.int .i64 1) rfl).1
     have d1:=(zAA RFH.out.1 1 (x:=.int .i64 p.1.t) rfl).1
     have d2:=(zAA RFH.out.1 2 (x:=.int .i64 p.1.h) rfl).1
     have d3:=(zAA RFH.out.1 3 (x:=.int .i64 p.1.e) rfl).1
     refine bodyPost_ret (v:=.agg #[.int .i64 1,.int .i64 p.1.t,.int .i64 p.1.h,.int .i64 p.1.e]) (by simp [results,Tryz.results98,go_sem,d0,d1,d2,d3]) rfl ?_
     refine ⟨?_,⟨.slice (some ⟨g,0,none⟩) ps.length cap,v3,ps.set k (({ p.1 with ws:=p.1.ws.eraseIdx jx }:Lk),a67,k67),?_⟩,RFH.out.2.2⟩
     ·rw [HDO.out,HAC.out.1,HAC.out.2.1,HAC.out.2.2,← HP.out.2.1];rfl
     ·rw [HDO.out,HAC.out.1,HAC.out.2.1,← HP.out.2.1];exact RFH.out.2.1
   | false =>
     have hix:¬ (0:Int)≤ix:=by rw [← HIX.out];unfold wIx;rw [if_neg (by rw [hB];decide)];decide
     have hyb:wtB y.ws r.cl=false:=by rw [← HP.out.2.1];exact hB
     clear hB HIX
     obtain ⟨tq,qq,_,_⟩:=HX.out _ G4.out
     have HM:Hid (∀ j u,(clL p)[j]?=some u→w4.cell? ⟨g,k * 5+j,none⟩=some u):=fun j u hj=>by
      obtain ⟨g',cap',e,_,_,_,hc⟩:=tq.row HP.out.1
      cases e
      exact (hc j u hj).1
     have m0:w4.cell? ⟨g,k * 5,none⟩=some (.string p.1.n):=HM.out 0 (.string p.1.n) rfl
     have m1:=HM.out 1 (.int .i64 p.1.t) rfl
     have m2:=HM.out 2 (.int .i64 p.1.h) rfl
     have m3:=HM.out 3 (.int .i64 p.1.e) rfl
     have m4:=HM.out 4 (.slice p.2.1 p.1.ws.length p.2.2) rfl
     have c0:=(zAA qq 0 (x:=.int .i64 r.cl) rfl).1
     have c2:=(zAA qq 2 (x:=.int .i64 r.kd) rfl).1
     have c3:=(zAA qq 3 (x:=.int .i64 r.le) rfl).1
     have x0:=(zAA tq.hx 0 (x:=.int .i64 T.tm) rfl).1
     have x2:=(zAA tq.hx 2 (x:=.slice (some ⟨g,0,none⟩) ps.length cap) rfl).1
     clear tq qq HM
     go_upto_region 16 with fail
     by_cases hA:p.1.h=r.cl
     ·have hyc:y.h=r.cl:=by rw [← HP.out.2.1];exact hA
      have hA':(p.1.h != r.cl)=false:=by simp [hA]
      clear hA
      have HAC:Hid (acN T.nx r y=frN T.nx y∧acL T.tm T.nx r y=frL T.tm T.nx y∧acK r y=1):=by
       unfold acN acL acK stK
       rw [HKD.out]
       simp only [show ¬ (2:Int)=1 by decide,if_false,if_true,hyb,Bool.false_eq_true,hyc]
       exact ⟨trivial,trivial,trivial⟩
      obtain ⟨X,hX,W,QI0,QO0⟩:=Qc.zAZ w4
      have QI:Hid (∀ w',Below w4.heap.size w4 w'→∃ x,w'=W x):=QI0
      have QO:Hid (∀ x,Below w4.heap.size w4 (W x)):=QO0
      clear QI0 QO0
      have y0:=Qc.zAB QO.out m0
      have y1:=Qc.zAB QO.out m1
      have y2:=Qc.zAB QO.out m2
      have y3:=Qc.zAB QO.out m3
      have y4:=Qc.zAB QO.out m4
      have z0:=Qc.zAB QO.out c0
      refine Qc.zAF (W:=W) (by kernel_rfl) (by kernel_rfl) (QI.out _ Qc.zAI) ?_
      repeat (go_big_quiet_step (fail))
      refine wpQuiet_nil ?_
      rintro _ ⟨xq,rfl⟩
      have G6:Hid (Below w2.heap.size w2 (W xq)):=G4.out.trans ((QO.out xq).mono G4.out.size)
      clear y0 y1 y2 y3 y4 z0 QO QI m0 m1 m2 m3 m4 c0 c2 c3 x0 x2 G4
      generalize W xq=w6 at G6 ⊢
      obtain ⟨t6,q6,z6,o6⟩:=HX.out _ G6.out
      have c2:=(zAA q6 2 (x:=.int .i64 r.kd) rfl).1
      have HF:=l05Free_any t6 HP.out.1 htm.1 htm.2 hnx.1 hn HWL.out.2 HWP.out
      have Z6:Hid (w6.heap[w.heap.size+1]?=some (.cells #[.int .i64 0,.int .i64 0,.int .i64 0,.int .i64 0] 38 (0,0))∧Oth w w6):=⟨z6,o6⟩
      clear t6 q6 z6 o6
      go_wp2_with fail
      refine HF.mono ?_
      rintro e w7 ⟨rfl,⟨qq,hqq,t7⟩,o7⟩
      have T7:Hid (TM w0 w7 B x { T with nx:=frN T.nx p.1,ls:=T.ls.set k qq.1 } (.slice (some ⟨g,0,none⟩) ps.length cap) v3 (ps.set k qq)∧w7.heap[w.heap.size+1]?=some (.cells #[.int .i64 0,.int .i64 0,.int .i64 0,.int .i64 0] 38 (0,0))∧Oth w w7):=⟨t7,o7 _ _ _ Z6.out.1 (by decide) (by decide) (by decide) (by decide),Z6.out.2.trans o7⟩
      have HQQ:Hid (qq.1=frL T.tm T.nx p.1):=hqq
      clear t7 o7 hqq HF Z6 c2
      have HM5:Hid (∀ j u,(clL qq)[j]?=some u→w7.cell? ⟨g,k * 5+j,none⟩=some u):=fun j u hj=>by
       obtain ⟨g',cap',e,_,_,_,hc⟩:=T7.out.1.row (zBL HP.out.1)
       rw [List.length_set] at e
       cases e
       exact (hc j u hj).1
      have m0:w7.cell? ⟨g,k * 5,none⟩=some (.string qq.1.n):=HM5.out 0 _ rfl
      have m1:=HM5.out 1 (.int .i64 qq.1.t) rfl
      have m2:=HM5.out 2 (.int .i64 qq.1.h) rfl
      have m3:=HM5.out 3 (.int .i64 qq.1.e) rfl
      have m4:=HM5.out 4 (.slice qq.2.1 qq.1.ws.length qq.2.2) rfl
      have x2:=(zAA T7.out.1.hx 2 (x:=.slice (some ⟨g,0,none⟩) ps.length cap) rfl).1
      have HTL:Hid (∀ W,Calls Tryz.prog 132 #[.int .i64 1,.agg #[.string qq.1.n,.int .i64 qq.1.t,.int .i64 qq.1.h,.int .i64 qq.1.e,.slice qq.2.1 qq.1.ws.length qq.2.2]] W fun e w'=>e=.returned (.agg #[.int .i64 1,.int .i64 qq.1.t,.int .i64 qq.1.h,.int .i64 qq.1.e])∧Below W.heap.size W w'):=fun W=>zAT 1 (qq).1 (uV qq) W
      clear HM5
      go_wp2_with fail
      refine (HTL.out _).mono ?_
      rintro e w8 ⟨rfl,b8⟩
      have T8:Hid (TM w0 w8 B x { T with nx:=frN T.nx p.1,ls:=T.ls.set k qq.1 } (.slice (some ⟨g,0,none⟩) ps.length cap) v3 (ps.set k qq)∧w8.heap[w.heap.size+1]?=some (.cells #[.int .i64 0,.int .i64 0,.int .i64 0,.int .i64 0] 38 (0,0))∧Oth w w8):=⟨T7.out.1.up b8,(b8.block _ (Array.getElem?_eq_some_iff.1 T7.out.2.1).1).trans T7.out.2.1,T7.out.2.2.trans (Oth.of_below b8)⟩
      clear b8 m0 m1 m2 m3 m4 x2 HTL
      have AX:Hid (w8.heap[w.heap.size+1]?=some (.cells #[.int .i64 0,.int .i64 0,.int .i64 0,.int .i64 0] 38 (0,0))):=T8.out.2.1
      have RFH:Hid _:=zAg AX.out T8.out.1 T8.out.2.2 (by omega) (Nat.le_succ_of_le hsB.out) (.int .i64 1) (.int .i64 qq.1.t) (.int .i64 qq.1.h) (.int .i64 qq.1.e)
      clear T8
      obtain ⟨n0,f0⟩:=zAA AX.out 0 (x:=.int .i64 0) rfl
      obtain ⟨n1,f1⟩:=zAA AX.out 1 (x:=.int .i64 0) rfl
      obtain ⟨n2,f2⟩:=zAA AX.out 2 (x:=.int .i64 0) rfl
      obtain ⟨n3,f3⟩:=zAA AX.out 3 (x:=.int .i64 0) rfl
      go_wp2_with fail
      generalize ((((w8.setCell ⟨w.heap.size+1,0,none⟩ (.int .i64 1)).setCell ⟨w.heap.size+1,1,none⟩ (.int .i64 qq.1.t)).setCell ⟨w.heap.size+1,2,none⟩ (.int .i64 qq.1.h)).setCell ⟨w.heap.size+1,3,none⟩ (.int .i64 qq.1.e))=wf at RFH ⊢
      have d0:=(zAA RFH.out.1 0 (x:=.int .i64 1) rfl).1
      have d1:=(zAA RFH.out.1 1 (x:=.int .i64 qq.1.t) rfl).1
      have d2:=(zAA RFH.out.1 2 (x:=.int .i64 qq.1.h) rfl).1
      have d3:=(zAA RFH.out.1 3 (x:=.int .i64 qq.1.e) rfl).1
      refine bodyPost_ret (v:=.agg #[.int .i64 1,.int .i64 qq.1.t,.int .i64 qq.1.h,.int .i64 qq.1.e]) (by simp [results,Tryz.results98,go_sem,d0,d1,d2,d3]) rfl ?_
      refine ⟨?_,⟨.slice (some ⟨g,0,none⟩) ps.length cap,v3,ps.set k qq,?_⟩,RFH.out.2.2⟩
      ·rw [HDO.out,HAC.out.1,HAC.out.2.1,HAC.out.2.2,← HP.out.2.1,← HQQ.out];rfl
      ·rw [HDO.out,HAC.out.1,HAC.out.2.1,← HP.out.2.1];rw [← HQQ.out];exact RFH.out.2.1
     ·have hyc:¬ y.h=r.cl:=by rw [← HP.out.2.1];exact hA
      have hA':(p.1.h != r.cl)=true:=by simp [hA]
      clear hA
      obtain ⟨X,hX,W,QI0,QO0⟩:=Qc.zAZ w4
      have QI:Hid (∀ w',Below w4.heap.size w4 w'→∃ x,w'=W x):=QI0
      have QO:Hid (∀ x,Below w4.heap.size w4 (W x)):=QO0
      clear QI0 QO0
      have y0:=Qc.zAB QO.out m0
      have y1:=Qc.zAB QO.out m1
      have y2:=Qc.zAB QO.out m2
      have y3:=Qc.zAB QO.out m3
      have y4:=Qc.zAB QO.out m4
      have z0:=Qc.zAB QO.out c0
      refine Qc.zAF (W:=W) (by kernel_rfl) (by kernel_rfl) (QI.out _ Qc.zAI) ?_
      repeat (go_big_quiet_step (fail))
      refine wpQuiet_nil ?_
      rintro _ ⟨xq,rfl⟩
      have G6:Hid (Below w2.heap.size w2 (W xq)):=G4.out.trans ((QO.out xq).mono G4.out.size)
      clear y0 y1 y2 y3 y4 z0 QO QI m0 m1 m2 m3 m4 c0 c2 c3 x0 x2 G4
      generalize W xq=w6 at G6 ⊢
      by_cases hC:p.1.h<0
      ·have hyh:y.h = -1:=HNEG.out hC
       have hyx:¬ (-1:Int)=r.cl:=by omega
       have HAC:Hid (acN T.nx r y=T.nx∧acL T.tm T.nx r y=y∧acK r y=4):=by
        unfold acN acL acK stK
        rw [HKD.out]
        simp only [show ¬ (2:Int)=1 by decide,if_false,if_true,hyb,Bool.false_eq_true,hyx,hyh]
        exact ⟨trivial,trivial,trivial⟩
       obtain ⟨tq,qq,_,_⟩:=HX.out _ G6.out
       have HM:Hid (∀ j u,(clL p)[j]?=some u→w6.cell? ⟨g,k * 5+j,none⟩=some u):=fun j u hj=>by
        obtain ⟨g',cap',e,_,_,_,hc⟩:=tq.row HP.out.1
        cases e
        exact (hc j u hj).1
       have m0:w6.cell? ⟨g,k * 5,none⟩=some (.string p.1.n):=HM.out 0 (.string p.1.n) rfl
       have m1:=HM.out 1 (.int .i64 p.1.t) rfl
       have m2:=HM.out 2 (.int .i64 p.1.h) rfl
       have m3:=HM.out 3 (.int .i64 p.1.e) rfl
       have m4:=HM.out 4 (.slice p.2.1 p.1.ws.length p.2.2) rfl
       have c0:=(zAA qq 0 (x:=.int .i64 r.cl) rfl).1
       have c2:=(zAA qq 2 (x:=.int .i64 r.kd) rfl).1
       have c3:=(zAA qq 3 (x:=.int .i64 r.le) rfl).1
       have x0:=(zAA tq.hx 0 (x:=.int .i64 T.tm) rfl).1
       have x2:=(zAA tq.hx 2 (x:=.slice (some ⟨g,0,none⟩) ps.length cap) rfl).1
       clear tq qq HM
       have HTL:Hid (∀ W,Calls Tryz.prog 132 #[.int .i64 4,.agg #[.string p.1.n,.int .i64 p.1.t,.int .i64 p.1.h,.int .i64 p.1.e,.slice p.2.1 p.1.ws.length p.2.2]] W fun e w'=>e=.returned (.agg #[.int .i64 4,.int .i64 p.1.t,.int .i64 p.1.h,.int .i64 p.1.e])∧Below W.heap.size W w'):=fun W=>zAT 4 p.1 (uV p) W
       go_wp2_with fail
       refine (HTL.out _).mono ?_
       rintro e w5 ⟨rfl,b5⟩
       have G5:Hid (Below w2.heap.size w2 w5):=G6.out.trans (b5.mono G6.out.size)
       clear b5 m0 m1 m2 m3 m4 c0 c2 c3 x0 x2 HTL
       have AX:Hid (w5.heap[w.heap.size+1]?=some (.cells #[.int .i64 0,.int .i64 0,.int .i64 0,.int .i64 0] 38 (0,0))):=(HX.out _ G5.out).2.2.1
       have RFH:Hid _:=zAg AX.out (HX.out _ G5.out).1 (HX.out _ G5.out).2.2.2 (by omega) (Nat.le_succ_of_le hsB.out) (.int .i64 4) (.int .i64 p.1.t) (.int .i64 p.1.h) (.int .i64 p.1.e)
       obtain ⟨n0,f0⟩:=zAA AX.out 0 (x:=.int .i64 0) rfl
       obtain ⟨n1,f1⟩:=zAA AX.out 1 (x:=.int .i64 0) rfl
       obtain ⟨n2,f2⟩:=zAA AX.out 2 (x:=.int .i64 0) rfl
       obtain ⟨n3,f3⟩:=zAA AX.out 3 (x:=.int .i64 0) rfl
       go_wp2_with fail
       generalize ((((w5.setCell ⟨w.heap.size+1,0,none⟩ (.int .i64 4)).setCell ⟨w.heap.size+1,1,none⟩ (.int .i64 p.1.t)).setCell ⟨w.heap.size+1,2,none⟩ (.int .i64 p.1.h)).setCell ⟨w.heap.size+1,3,none⟩ (.int .i64 p.1.e))=wf at RFH ⊢
       have d0:=(zAA RFH.out.1 0 (x:=.int .i64 4) rfl).1
       have d1:=(zAA RFH.out.1 1 (x:=.int .i64 p.1.t) rfl).1
       have d2:=(zAA RFH.out.1 2 (x:=.int .i64 p.1.h) rfl).1
       have d3:=(zAA RFH.out.1 3 (x:=.int .i64 p.1.e) rfl).1
       refine bodyPost_ret (v:=.agg #[.int .i64 4,.int .i64 p.1.t,.int .i64 p.1.h,.int .i64 p.1.e]) (by simp [results,Tryz.results98,go_sem,d0,d1,d2,d3]) rfl ?_
       refine ⟨?_,⟨.slice (some ⟨g,0,none⟩) ps.length cap,v3,ps,?_⟩,RFH.out.2.2⟩
       ·rw [HDO.out,HAC.out.1,HAC.out.2.1,HAC.out.2.2,← HP.out.2.1];rfl
       ·rw [HDO.out,HAC.out.1,HAC.out.2.1,zAU HP.out.2.2.1];exact RFH.out.2.1
      ·have hyh:¬ y.h = -1:=fun e=>hC (by rw [HP.out.2.1,e];decide)
       have HAC:Hid (acN T.nx r y=T.nx∧acL T.tm T.nx r y=y∧acK r y=5):=by
        unfold acN acL acK stK
        rw [HKD.out]
        simp only [show ¬ (2:Int)=1 by decide,if_false,if_true,hyb,Bool.false_eq_true,hyc,hyh,if_false]
        exact ⟨trivial,trivial,trivial⟩
       obtain ⟨tq,qq,_,_⟩:=HX.out _ G6.out
       have HM:Hid (∀ j u,(clL p)[j]?=some u→w6.cell? ⟨g,k * 5+j,none⟩=some u):=fun j u hj=>by
        obtain ⟨g',cap',e,_,_,_,hc⟩:=tq.row HP.out.1
        cases e
        exact (hc j u hj).1
       have m0:w6.cell? ⟨g,k * 5,none⟩=some (.string p.1.n):=HM.out 0 (.string p.1.n) rfl
       have m1:=HM.out 1 (.int .i64 p.1.t) rfl
       have m2:=HM.out 2 (.int .i64 p.1.h) rfl
       have m3:=HM.out 3 (.int .i64 p.1.e) rfl
       have m4:=HM.out 4 (.slice p.2.1 p.1.ws.length p.2.2) rfl
       have c0:=(zAA qq 0 (x:=.int .i64 r.cl) rfl).1
       have c2:=(zAA qq 2 (x:=.int .i64 r.kd) rfl).1
       have c3:=(zAA qq 3 (x:=.int .i64 r.le) rfl).1
       have x0:=(zAA tq.hx 0 (x:=.int .i64 T.tm) rfl).1
       have x2:=(zAA tq.hx 2 (x:=.slice (some ⟨g,0,none⟩) ps.length cap) rfl).1
       clear tq qq HM
       have HTL:Hid (∀ W,Calls Tryz.prog 132 #[.int .i64 5,.agg #[.string p.1.n,.int .i64 p.1.t,.int .i64 p.1.h,.int .i64 p.1.e,.slice p.2.1 p.1.ws.length p.2.2]] W fun e w'=>e=.returned (.agg #[.int .i64 5,.int .i64 p.1.t,.int .i64 p.1.h,.int .i64 p.1.e])∧Below W.heap.size W w'):=fun W=>zAT 5 p.1 (uV p) W
       go_wp2_with fail
       refine (HTL.out _).mono ?_
       rintro e w5 ⟨rfl,b5⟩
       have G5:Hid (Below w2.heap.size w2 w5):=G6.out.trans (b5.mono G6.out.size)
       clear b5 m0 m1 m2 m3 m4 c0 c2 c3 x0 x2 HTL
       have AX:Hid (w5.heap[w.heap.size+1]?=some (.cells #[.int .i64 0,.int .i64 0,.int .i64 0,.int .i64 0] 38 (0,0))):=(HX.out _ G5.out).2.2.1
       have RFH:Hid _:=zAg AX.out (HX.out _ G5.out).1 (HX.out _ G5.out).2.2.2 (by omega) (Nat.le_succ_of_le hsB.out) (.int .i64 5) (.int .i64 p.1.t) (.int .i64 p.1.h) (.int .i64 p.1.e)
       obtain ⟨n0,f0⟩:=zAA AX.out 0 (x:=.int .i64 0) rfl
       obtain ⟨n1,f1⟩:=zAA AX.out 1 (x:=.int .i64 0) rfl
       obtain ⟨n2,f2⟩:=zAA AX.out 2 (x:=.int .i64 0) rfl
       obtain ⟨n3,f3⟩:=zAA AX.out 3 (x:=.int .i64 0) rfl
       go_wp2_with fail
       generalize ((((w5.setCell ⟨w.heap.size+1,0,none⟩ (.int .i64 5)).setCell ⟨w.heap.size+1,1,none⟩ (.int .i64 p.1.t)).setCell ⟨w.heap.size+1,2,none⟩ (.int .i64 p.1.h)).setCell ⟨w.heap.size+1,3,none⟩ (.int .i64 p.1.e))=wf at RFH ⊢
       have d0:=(zAA RFH.out.1 0 (x:=.int .i64 5) rfl).1
       have d1:=(zAA RFH.out.1 1 (x:=.int .i64 p.1.t) rfl).1
       have d2:=(zAA RFH.out.1 2 (x:=.int .i64 p.1.h) rfl).1
       have d3:=(zAA RFH.out.1 3 (x:=.int .i64 p.1.e) rfl).1
       refine bodyPost_ret (v:=.agg #[.int .i64 5,.int .i64 p.1.t,.int .i64 p.1.h,.int .i64 p.1.e]) (by simp [results,Tryz.results98,go_sem,d0,d1,d2,d3]) rfl ?_
       refine ⟨?_,⟨.slice (some ⟨g,0,none⟩) ps.length cap,v3,ps,?_⟩,RFH.out.2.2⟩
       ·rw [HDO.out,HAC.out.1,HAC.out.2.1,HAC.out.2.2,← HP.out.2.1];rfl
       ·rw [HDO.out,HAC.out.1,HAC.out.2.1,zAU HP.out.2.2.1];exact RFH.out.2.1
  ·have k3:r.kd=3:=by omega
   have HKD:Hid (r.kd=3):=k3
   have hk2:(r.kd == 2)=false:=by simp [k3]
   have hk3:(r.kd == 3)=true:=by simp [k3]
   clear k4 k2 k3 HRW
   go_upto_region 16 with fail
   by_cases hA:p.1.h=r.cl
   ·have hyc:y.h=r.cl:=by rw [← HP.out.2.1];exact hA
    have hA':(p.1.h != r.cl)=false:=by simp [hA]
    clear hA
    have HAC:Hid (acN T.nx r y=T.nx∧acL T.tm T.nx r y = { y with e:=T.tm+r.le }∧acK r y=1):=by
     unfold acN acL acK stK
     rw [HKD.out]
     simp only [show ¬ (3:Int)=1 by decide,show ¬ (3:Int)=2 by decide,if_false,if_true,hyc]
     exact ⟨trivial,trivial,trivial⟩
    obtain ⟨X,hX,W,QI0,QO0⟩:=Qc.zAZ w3
    have QI:Hid (∀ w',Below w3.heap.size w3 w'→∃ x,w'=W x):=QI0
    have QO:Hid (∀ x,Below w3.heap.size w3 (W x)):=QO0
    clear QI0 QO0
    have y0:=Qc.zAB QO.out m0
    have y1:=Qc.zAB QO.out m1
    have y2:=Qc.zAB QO.out m2
    have y3:=Qc.zAB QO.out m3
    have y4:=Qc.zAB QO.out m4
    have z0:=Qc.zAB QO.out c0
    refine Qc.zAF (W:=W) (by kernel_rfl) (by kernel_rfl) (QI.out _ Qc.zAI) ?_
    repeat (go_big_quiet_step (fail))
    refine wpQuiet_nil ?_
    rintro _ ⟨xq,rfl⟩
    have G6:Hid (Below w2.heap.size w2 (W xq)):=G3.out.trans ((QO.out xq).mono G3.out.size)
    clear y0 y1 y2 y3 y4 z0 QO QI m0 m1 m2 m3 m4 c0 c2 c3 x0 x2 G3
    generalize W xq=w6 at G6 ⊢
    have HX6:Hid (∀ W,Below w6.heap.size w6 W→TM w0 W B x T (.slice (some ⟨g,0,none⟩) ps.length cap) v3 ps∧W.heap[w.heap.size]?=some (.cells #[.int .i64 r.cl,.int .i64 r.st,.int .i64 r.kd,.int .i64 r.le,.string r.nm] 42 (0,0))∧W.heap[w.heap.size+1]?=some (.cells #[.int .i64 0,.int .i64 0,.int .i64 0,.int .i64 0] 38 (0,0))∧Oth w W):=fun W hW=>HX.out W (G6.out.trans (hW.mono G6.out.size))
    have HAD:Hid (∀ W,Calls Tryz.prog 134 #[.int .i64 T.tm,.int .i64 r.le] W fun e w'=>e=.returned (.int .i64 (T.tm+r.le))∧w'=W):=fun W=>HADD.out W
    have c2:=(zAA (HX6.out w6 (Below.refl _ _)).2.1 2 (x:=.int .i64 r.kd) rfl).1
    have HS6:Hid (∀ W,Below w6.heap.size w6 W→W.cell? ⟨x,0,none⟩=some (.int .i64 T.tm)∧W.cell? ⟨w.heap.size,3,none⟩=some (.int .i64 r.le)):=fun W hW=>⟨(zAA (HX6.out W hW).1.hx 0 rfl).1,(zAA (HX6.out W hW).2.1 3 rfl).1⟩
    go_upto_region 21 with fail
    clear c2
    refine wp_region_noPanic ?_
    refine zAm 10 (S:=fun W=>W.cell? ⟨x,0,none⟩=some (.int .i64 T.tm)∧W.cell? ⟨w.heap.size,3,none⟩=some (.int .i64 r.le)) (by kernel_rfl) (HS6.out _ (Below.refl w6.heap.size w6).drew) (fun hHeld=>?_)
    refine zBA (i:=0) 4 (oi:=⟨some 102,.move (.tmp 6),182,"l05_locks.go:176",#[],none⟩) (v:=?v17) rfl (by kernel_rfl) (by kernel_rfl) (by kernel_rfl) (by kernel_rfl) (fun _ _ _ h=>h) (by kernel_rfl) (Or.inl ⟨by rfl,?h17⟩) hHeld ?r17
    case h17=>(rintro wz ⟨y0,y3⟩;go_simp;try (with_reducible rfl))
    simp only [Act.put,sA,sB,sC]
    refine zBA (i:=1) 4 (oi:=⟨some 103,.move (.tmp 0),141,"l05_locks.go:176",#[],none⟩) (v:=?v18) rfl (by kernel_rfl) (by kernel_rfl) (by kernel_rfl) (by kernel_rfl) (fun _ _ _ h=>h) (by kernel_rfl) (Or.inl ⟨by rfl,?h18⟩) hHeld ?r18
    case h18=>(rintro wz ⟨y0,y3⟩;go_simp;try (with_reducible rfl))
    simp only [Act.put,sA,sB,sC]
    refine zBA (i:=2) 4 (oi:=⟨some 104,.nilCheck (.tmp 103),0,"l05_locks.go:176",#[⟨1,.data⟩],none⟩) (v:=?v19) rfl (by kernel_rfl) (by kernel_rfl) (by kernel_rfl) (by kernel_rfl) (fun _ _ _ h=>h) (by kernel_rfl) (Or.inl ⟨by rfl,?h19⟩) hHeld ?r19
    case h19=>(rintro wz ⟨y0,y3⟩;go_simp;try (with_reducible rfl))
    simp only [Act.put,sA,sB,sC]
    refine zBA (i:=3) 4 (oi:=⟨some 105,.fieldAddr 30 (.tmp 104) 0,0,"l05_locks.go:176",#[⟨2,.data⟩],none⟩) (v:=?v20) rfl (by kernel_rfl) (by kernel_rfl) (by kernel_rfl) (by kernel_rfl) (fun _ _ _ h=>h) (by kernel_rfl) (Or.inl ⟨by rfl,?h20⟩) hHeld ?r20
    case h20=>(rintro wz ⟨y0,y3⟩;go_simp;try (with_reducible rfl))
    simp only [Act.put,sA,sB,sC]
    refine zBA (i:=4) 4 (oi:=⟨some 106,.load 3 (.tmp 105),3,"l05_locks.go:176",#[⟨3,.data⟩],none⟩) (v:=?v21) rfl (by kernel_rfl) (by kernel_rfl) (by kernel_rfl) (by kernel_rfl) (fun _ _ _ h=>h) (by kernel_rfl) (Or.inl ⟨by rfl,?h21⟩) hHeld ?r21
    case h21=>(rintro wz ⟨y0,y3⟩;go_simp;try (with_reducible rfl))
    simp only [Act.put,sA,sB,sC]
    refine zBA (i:=5) 4 (oi:=⟨some 107,.fieldAddr 42 (.tmp 3) 3,0,"l05_locks.go:176",#[],none⟩) (v:=?v22) rfl (by kernel_rfl) (by kernel_rfl) (by kernel_rfl) (by kernel_rfl) (fun _ _ _ h=>h) (by kernel_rfl) (Or.inl ⟨by rfl,?h22⟩) hHeld ?r22
    case h22=>(rintro wz ⟨y0,y3⟩;go_simp;try (with_reducible rfl))
    simp only [Act.put,sA,sB,sC]
    refine zBA (i:=6) 4 (oi:=⟨some 108,.load 3 (.tmp 107),3,"l05_locks.go:176",#[⟨5,.data⟩],none⟩) (v:=?v23) rfl (by kernel_rfl) (by kernel_rfl) (by kernel_rfl) (by kernel_rfl) (fun _ _ _ h=>h) (by kernel_rfl) (Or.inl ⟨by rfl,?h23⟩) hHeld ?r23
    case h23=>(rintro wz ⟨y0,y3⟩;go_simp;try (with_reducible rfl))
    simp only [Act.put,sA,sB,sC]
    refine zAN (rs:=[7]) (by kernel_rfl) (by simp) ?_
    refine (ReadyZ.cons (o:=⟨some 109,.call { callee:=Callee.value (Operand.func 134),args:=#[Operand.tmp 106,Operand.tmp 108],argTypes:=#[3,3] },3,"l05_locks.go:176",#[⟨4,.data⟩,⟨6,.data⟩],none⟩) rfl (fun K hK=>?_) ReadyZ.nil)
    go_simp
    go_at_call 134
    refine (HAD.out _).mono ?_
    rintro e w7 ⟨rfl,hw7⟩
    subst hw7
    try go_simp
    refine hK.out _ _ ?_ (fun hHeld=>?_)
    ·exact HS6.out _ (Below.refl w6.heap.size w6).drew
    clear hK K
    (try simp only [Act.put,sA,sB,sC])
    refine zBA (i:=8) 4 (oi:=⟨some 110,.nilCheck (.tmp 102),0,"l05_locks.go:176",#[⟨0,.data⟩,⟨0,.phase⟩,⟨1,.phase⟩,⟨2,.phase⟩,⟨3,.phase⟩,⟨4,.phase⟩,⟨5,.phase⟩,⟨6,.phase⟩,⟨7,.phase⟩],none⟩) (v:=?v24) rfl (by kernel_rfl) (by kernel_rfl) (by kernel_rfl) (by kernel_rfl) (fun _ _ _ h=>h) (by kernel_rfl) (Or.inl ⟨by rfl,?h24⟩) hHeld ?r24
    case h24=>(rintro wz ⟨y0,y3⟩;go_simp;try (with_reducible rfl))
    simp only [Act.put,sA,sB,sC]
    refine zBA (i:=9) 4 (oi:=⟨some 111,.fieldAddr 45 (.tmp 110) 3,0,"l05_locks.go:176",#[⟨8,.data⟩,⟨0,.phase⟩,⟨1,.phase⟩,⟨2,.phase⟩,⟨3,.phase⟩,⟨4,.phase⟩,⟨5,.phase⟩,⟨6,.phase⟩,⟨7,.phase⟩],none⟩) (v:=?v25) rfl (by kernel_rfl) (by kernel_rfl) (by kernel_rfl) (by kernel_rfl) (fun _ _ _ h=>h) (by kernel_rfl) (Or.inl ⟨by rfl,?h25⟩) hHeld ?r25
    case h25=>(rintro wz ⟨y0,y3⟩;go_simp;try (with_reducible rfl))
    simp only [Act.put,sA,sB,sC]
    refine zAN (rs:=[10]) (by kernel_rfl) (by simp) ?_
    refine ReadyZ.last (o:=⟨none,.store 3 (.tmp 111) (.tmp 109),0,"l05_locks.go:176",#[⟨9,.data⟩,⟨7,.data⟩,⟨7,.chain⟩,⟨0,.phase⟩,⟨1,.phase⟩,⟨2,.phase⟩,⟨3,.phase⟩,⟨4,.phase⟩,⟨5,.phase⟩,⟨6,.phase⟩,⟨7,.phase⟩],none⟩) rfl (fun K hK=>?_)
    have s67:=HX6.out _ (Below.refl w6.heap.size w6).drew
    obtain ⟨g',cap',e,_,_,_,hc⟩:=s67.1.row HP.out.1
    cases e
    obtain ⟨z2,f2⟩:=hc 3 (.int .i64 p.1.e) rfl
    clear hc
    go_simp
    refine hK.out _ _ ?_
    clear hK K
    (try simp only [Act.put,sA,sB,sC])
    refine zBa (by kernel_rfl) ?_ _
    refine NoPanic.normal ?_
    have T7:Hid (TM w0 (w6.setCell ⟨g,k * 5+3,none⟩ (.int .i64 (T.tm+r.le))).drew B x { T with ls:=T.ls.set k { p.1 with e:=T.tm+r.le } } (.slice (some ⟨g,0,none⟩) ps.length cap) v3 (ps.set k ({ p.1 with e:=T.tm+r.le },p.2))∧(w6.setCell ⟨g,k * 5+3,none⟩ (.int .i64 (T.tm+r.le))).drew.heap[w.heap.size+1]?=some (.cells #[.int .i64 0,.int .i64 0,.int .i64 0,.int .i64 0] 38 (0,0))∧Oth w (w6.setCell ⟨g,k * 5+3,none⟩ (.int .i64 (T.tm+r.le))).drew):=by
     have s68:=HX6.out w6 (Below.refl _ _)
     obtain ⟨cl,hcl⟩:=zAG s68.1.ol (g:=g) rfl
     exact ⟨(s68.1.put (q:=({ p.1 with e:=T.tm+r.le },p.2)) HP.out.1 rfl (by decide) (s68.1.ow p (List.mem_of_getElem? HP.out.1)) (s68.1.ap.set HP.out.1 rfl) HP.out.2.2.2).up (Below.refl _ _).drew,(zAE (zAK s68.2.2.1 hcl (by decide)) _ _).trans s68.2.2.1,(s68.2.2.2.trans (s68.1.othL _ _)).drew⟩
    clear s67 z2 f2 hHeld HX6 HS6 HAD
    try simp only [Nat.add_zero]
    generalize (w6.setCell ⟨g,k * 5+3,none⟩ (.int .i64 (T.tm+r.le))).drew=w7 at T7 ⊢
    have HM5:Hid (∀ j u,(clL (({ p.1 with e:=T.tm+r.le }:Lk),p.2))[j]?=some u→w7.cell? ⟨g,k * 5+j,none⟩=some u):=fun j u hj=>by
     obtain ⟨g',cap',e,_,_,_,hc⟩:=T7.out.1.row (zBL HP.out.1)
     rw [List.length_set] at e
     cases e
     exact (hc j u hj).1
    have m0:w7.cell? ⟨g,k * 5,none⟩=some (.string p.1.n):=HM5.out 0 _ rfl
    have m1:=HM5.out 1 (.int .i64 p.1.t) rfl
    have m2:=HM5.out 2 (.int .i64 p.1.h) rfl
    have m3:=HM5.out 3 (.int .i64 (T.tm+r.le)) rfl
    have m4:=HM5.out 4 (.slice p.2.1 p.1.ws.length p.2.2) rfl
    have x2:=(zAA T7.out.1.hx 2 (x:=.slice (some ⟨g,0,none⟩) ps.length cap) rfl).1
    have HTL:Hid (∀ W,Calls Tryz.prog 132 #[.int .i64 1,.agg #[.string p.1.n,.int .i64 p.1.t,.int .i64 p.1.h,.int .i64 (T.tm+r.le),.slice p.2.1 p.1.ws.length p.2.2]] W fun e w'=>e=.returned (.agg #[.int .i64 1,.int .i64 p.1.t,.int .i64 p.1.h,.int .i64 (T.tm+r.le)])∧Below W.heap.size W w'):=fun W=>zAT 1 ((({ p.1 with e:=T.tm+r.le }:Lk),p.2)).1 (uV (({ p.1 with e:=T.tm+r.le }:Lk),p.2)) W
    clear HM5
    go_wp2_with fail
    refine (HTL.out _).mono ?_
    rintro e w8 ⟨rfl,b8⟩
    have T8:Hid (TM w0 w8 B x { T with ls:=T.ls.set k { p.1 with e:=T.tm+r.le } } (.slice (some ⟨g,0,none⟩) ps.length cap) v3 (ps.set k (({ p.1 with e:=T.tm+r.le }:Lk),p.2))∧w8.heap[w.heap.size+1]?=some (.cells #[.int .i64 0,.int .i64 0,.int .i64 0,.int .i64 0] 38 (0,0))∧Oth w w8):=⟨T7.out.1.up b8,(b8.block _ (Array.getElem?_eq_some_iff.1 T7.out.2.1).1).trans T7.out.2.1,T7.out.2.2.trans (Oth.of_below b8)⟩
    clear b8 m0 m1 m2 m3 m4 x2 HTL
    have AX:Hid (w8.heap[w.heap.size+1]?=some (.cells #[.int .i64 0,.int .i64 0,.int .i64 0,.int .i64 0] 38 (0,0))):=T8.out.2.1
    have RFH:Hid _:=zAg AX.out T8.out.1 T8.out.2.2 (by omega) (Nat.le_succ_of_le hsB.out) (.int .i64 1) (.int .i64 p.1.t) (.int .i64 p.1.h) (.int .i64 (T.tm+r.le))
    clear T8
    obtain ⟨n0,f0⟩:=zAA AX.out 0 (x:=.int .i64 0) rfl
    obtain ⟨n1,f1⟩:=zAA AX.out 1 (x:=.int .i64 0) rfl
    obtain ⟨n2,f2⟩:=zAA AX.out 2 (x:=.int .i64 0) rfl
    obtain ⟨n3,f3⟩:=zAA AX.out 3 (x:=.int .i64 0) rfl
    go_wp2_with fail
    generalize ((((w8.setCell ⟨w.heap.size+1,0,none⟩ (.int .i64 1)).setCell ⟨w.heap.size+1,1,none⟩ (.int .i64 p.1.t)).setCell ⟨w.heap.size+1,2,none⟩ (.int .i64 p.1.h)).setCell ⟨w.heap.size+1,3,none⟩ (.int .i64 (T.tm+r.le)))=wf at RFH ⊢
    have d0:=(zAA RFH.out.1 0 (x:=.int .i64 1) rfl).1
    have d1:=(zAA RFH.out.1 1 (x:=.int .i64 p.1.t) rfl).1
    have d2:=(zAA RFH.out.1 2 (x:=.int .i64 p.1.h) rfl).1
    have d3:=(zAA RFH.out.1 3 (x:=.int .i64 (T.tm+r.le)) rfl).1
    refine bodyPost_ret (v:=.agg #[.int .i64 1,.int .i64 p.1.t,.int .i64 p.1.h,.int .i64 (T.tm+r.le)]) (by simp [results,Tryz.results98,go_sem,d0,d1,d2,d3]) rfl ?_
    refine ⟨?_,⟨.slice (some ⟨g,0,none⟩) ps.length cap,v3,ps.set k (({ p.1 with e:=T.tm+r.le }:Lk),p.2),?_⟩,RFH.out.2.2⟩
    ·rw [HDO.out,HAC.out.1,HAC.out.2.1,HAC.out.2.2,← HP.out.2.1];rfl
    ·rw [HDO.out,HAC.out.1,HAC.out.2.1,← HP.out.2.1];exact RFH.out.2.1
   ·have hyc:¬ y.h=r.cl:=by rw [← HP.out.2.1];exact hA
    have hA':(p.1.h != r.cl)=true:=by simp [hA]
    clear hA
    obtain ⟨X,hX,W,QI0,QO0⟩:=Qc.zAZ w3
    have QI:Hid (∀ w',Below w3.heap.size w3 w'→∃ x,w'=W x):=QI0
    have QO:Hid (∀ x,Below w3.heap.size w3 (W x)):=QO0
    clear QI0 QO0
    have y0:=Qc.zAB QO.out m0
    have y1:=Qc.zAB QO.out m1
    have y2:=Qc.zAB QO.out m2
    have y3:=Qc.zAB QO.out m3
    have y4:=Qc.zAB QO.out m4
    have z0:=Qc.zAB QO.out c0
    refine Qc.zAF (W:=W) (by kernel_rfl) (by kernel_rfl) (QI.out _ Qc.zAI) ?_
    repeat (go_big_quiet_step (fail))
    refine wpQuiet_nil ?_
    rintro _ ⟨xq,rfl⟩
    have G6:Hid (Below w2.heap.size w2 (W xq)):=G3.out.trans ((QO.out xq).mono G3.out.size)
    clear y0 y1 y2 y3 y4 z0 QO QI m0 m1 m2 m3 m4 c0 c2 c3 x0 x2 G3
    generalize W xq=w6 at G6 ⊢
    by_cases hC:p.1.h<0
    ·have hyh:y.h = -1:=HNEG.out hC
     have hyx:¬ (-1:Int)=r.cl:=by omega
     have HAC:Hid (acN T.nx r y=T.nx∧acL T.tm T.nx r y=y∧acK r y=4):=by
      unfold acN acL acK stK
      rw [HKD.out]
      simp only [show ¬ (3:Int)=1 by decide,show ¬ (3:Int)=2 by decide,if_false,if_true,hyx,hyh]
      exact ⟨trivial,trivial,trivial⟩
     obtain ⟨tq,qq,_,_⟩:=HX.out _ G6.out
     have HM:Hid (∀ j u,(clL p)[j]?=some u→w6.cell? ⟨g,k * 5+j,none⟩=some u):=fun j u hj=>by
      obtain ⟨g',cap',e,_,_,_,hc⟩:=tq.row HP.out.1
      cases e
      exact (hc j u hj).1
     have m0:w6.cell? ⟨g,k * 5,none⟩=some (.string p.1.n):=HM.out 0 (.string p.1.n) rfl
     have m1:=HM.out 1 (.int .i64 p.1.t) rfl
     have m2:=HM.out 2 (.int .i64 p.1.h) rfl
     have m3:=HM.out 3 (.int .i64 p.1.e) rfl
     have m4:=HM.out 4 (.slice p.2.1 p.1.ws.length p.2.2) rfl
     have c0:=(zAA qq 0 (x:=.int .i64 r.cl) rfl).1
     have c2:=(zAA qq 2 (x:=.int .i64 r.kd) rfl).1
     have c3:=(zAA qq 3 (x:=.int .i64 r.le) rfl).1
     have x0:=(zAA tq.hx 0 (x:=.int .i64 T.tm) rfl).1
     have x2:=(zAA tq.hx 2 (x:=.slice (some ⟨g,0,none⟩) ps.length cap) rfl).1
     clear tq qq HM
     have HTL:Hid (∀ W,Calls Tryz.prog 132 #[.int .i64 4,.agg #[.string p.1.n,.int .i64 p.1.t,.int .i64 p.1.h,.int .i64 p.1.e,.slice p.2.1 p.1.ws.length p.2.2]] W fun e w'=>e=.returned (.agg #[.int .i64 4,.int .i64 p.1.t,.int .i64 p.1.h,.int .i64 p.1.e])∧Below W.heap.size W w'):=fun W=>zAT 4 p.1 (uV p) W
     go_wp2_with fail
     refine (HTL.out _).mono ?_
     rintro e w5 ⟨rfl,b5⟩
     have G5:Hid (Below w2.heap.size w2 w5):=G6.out.trans (b5.mono G6.out.size)
     clear b5 m0 m1 m2 m3 m4 c0 c2 c3 x0 x2 HTL
     have AX:Hid (w5.heap[w.heap.size+1]?=some (.cells #[.int .i64 0,.int .i64 0,.int .i64 0,.int .i64 0] 38 (0,0))):=(HX.out _ G5.out).2.2.1
     have RFH:Hid _:=zAg AX.out (HX.out _ G5.out).1 (HX.out _ G5.out).2.2.2 (by omega) (Nat.le_succ_of_le hsB.out) (.int .i64 4) (.int .i64 p.1.t) (.int .i64 p.1.h) (.int .i64 p.1.e)
     obtain ⟨n0,f0⟩:=zAA AX.out 0 (x:=.int .i64 0) rfl
     obtain ⟨n1,f1⟩:=zAA AX.out 1 (x:=.int .i64 0) rfl
     obtain ⟨n2,f2⟩:=zAA AX.out 2 (x:=.int .i64 0) rfl
     obtain ⟨n3,f3⟩:=zAA AX.out 3 (x:=.int .i64 0) rfl
     go_wp2_with fail
     generalize ((((w5.setCell ⟨w.heap.size+1,0,none⟩ (.int .i64 4)).setCell ⟨w.heap.size+1,1,none⟩ (.int .i64 p.1.t)).setCell ⟨w.heap.size+1,2,none⟩ (.int .i64 p.1.h)).setCell ⟨w.heap.size+1,3,none⟩ (.int .i64 p.1.e))=wf at RFH ⊢
     have d0:=(zAA RFH.out.1 0 (x:=.int .i64 4) rfl).1
     have d1:=(zAA RFH.out.1 1 (x:=.int .i64 p.1.t) rfl).1
     have d2:=(zAA RFH.out.1 2 (x:=.int .i64 p.1.h) rfl).1
     have d3:=(zAA RFH.out.1 3 (x:=.int .i64 p.1.e) rfl).1
     refine bodyPost_ret (v:=.agg #[.int .i64 4,.int .i64 p.1.t,.int .i64 p.1.h,.int .i64 p.1.e]) (by simp [results,Tryz.results98,go_sem,d0,d1,d2,d3]) rfl ?_
     refine ⟨?_,⟨.slice (some ⟨g,0,none⟩) ps.length cap,v3,ps,?_⟩,RFH.out.2.2⟩
     ·rw [HDO.out,HAC.out.1,HAC.out.2.1,HAC.out.2.2,← HP.out.2.1];rfl
     ·rw [HDO.out,HAC.out.1,HAC.out.2.1,zAU HP.out.2.2.1];exact RFH.out.2.1
    ·have hyh:¬ y.h = -1:=fun e=>hC (by rw [HP.out.2.1,e];decide)
     have HAC:Hid (acN T.nx r y=T.nx∧acL T.tm T.nx r y=y∧acK r y=5):=by
      unfold acN acL acK stK
      rw [HKD.out]
      simp only [show ¬ (3:Int)=1 by decide,show ¬ (3:Int)=2 by decide,if_false,if_true,hyc,hyh,if_false]
      exact ⟨trivial,trivial,trivial⟩
     obtain ⟨tq,qq,_,_⟩:=HX.out _ G6.out
     have HM:Hid (∀ j u,(clL p)[j]?=some u→w6.cell? ⟨g,k * 5+j,none⟩=some u):=fun j u hj=>by
      obtain ⟨g',cap',e,_,_,_,hc⟩:=tq.row HP.out.1
      cases e
      exact (hc j u hj).1
     have m0:w6.cell? ⟨g,k * 5,none⟩=some (.string p.1.n):=HM.out 0 (.string p.1.n) rfl
     have m1:=HM.out 1 (.int .i64 p.1.t) rfl
     have m2:=HM.out 2 (.int .i64 p.1.h) rfl
     have m3:=HM.out 3 (.int .i64 p.1.e) rfl
     have m4:=HM.out 4 (.slice p.2.1 p.1.ws.length p.2.2) rfl
     have c0:=(zAA qq 0 (x:=.int .i64 r.cl) rfl).1
     have c2:=(zAA qq 2 (x:=.int .i64 r.kd) rfl).1
     have c3:=(zAA qq 3 (x:=.int .i64 r.le) rfl).1
     have x0:=(zAA tq.hx 0 (x:=.int .i64 T.tm) rfl).1
     have x2:=(zAA tq.hx 2 (x:=.slice (some ⟨g,0,none⟩) ps.length cap) rfl).1
     clear tq qq HM
     have HTL:Hid (∀ W,Calls Tryz.prog 132 #[.int .i64 5,.agg #[.string p.1.n,.int .i64 p.1.t,.int .i64 p.1.h,.int .i64 p.1.e,.slice p.2.1 p.1.ws.length p.2.2]] W fun e w'=>e=.returned (.agg #[.int .i64 5,.int .i64 p.1.t,.int .i64 p.1.h,.int .i64 p.1.e])∧Below W.heap.size W w'):=fun W=>zAT 5 p.1 (uV p) W
     go_wp2_with fail
     refine (HTL.out _).mono ?_
     rintro e w5 ⟨rfl,b5⟩
     have G5:Hid (Below w2.heap.size w2 w5):=G6.out.trans (b5.mono G6.out.size)
     clear b5 m0 m1 m2 m3 m4 c0 c2 c3 x0 x2 HTL
     have AX:Hid (w5.heap[w.heap.size+1]?=some (.cells #[.int .i64 0,.int .i64 0,.int .i64 0,.int .i64 0] 38 (0,0))):=(HX.out _ G5.out).2.2.1
     have RFH:Hid _:=zAg AX.out (HX.out _ G5.out).1 (HX.out _ G5.out).2.2.2 (by omega) (Nat.le_succ_of_le hsB.out) (.int .i64 5) (.int .i64 p.1.t) (.int .i64 p.1.h) (.int .i64 p.1.e)
     obtain ⟨n0,f0⟩:=zAA AX.out 0 (x:=.int .i64 0) rfl
     obtain ⟨n1,f1⟩:=zAA AX.out 1 (x:=.int .i64 0) rfl
     obtain ⟨n2,f2⟩:=zAA AX.out 2 (x:=.int .i64 0) rfl
     obtain ⟨n3,f3⟩:=zAA AX.out 3 (x:=.int .i64 0) rfl
     go_wp2_with fail
     generalize ((((w5.setCell ⟨w.heap.size+1,0,none⟩ (.int .i64 5)).setCell ⟨w.heap.size+1,1,none⟩ (.int .i64 p.1.t)).setCell ⟨w.heap.size+1,2,none⟩ (.int .i64 p.1.h)).setCell ⟨w.heap.size+1,3,none⟩ (.int .i64 p.1.e))=wf at RFH ⊢
     have d0:=(zAA RFH.out.1 0 (x:=.int .i64 5) rfl).1
     have d1:=(zAA RFH.out.1 1 (x:=.int .i64 p.1.t) rfl).1
     have d2:=(zAA RFH.out.1 2 (x:=.int .i64 p.1.h) rfl).1
     have d3:=(zAA RFH.out.1 3 (x:=.int .i64 p.1.e) rfl).1
     refine bodyPost_ret (v:=.agg #[.int .i64 5,.int .i64 p.1.t,.int .i64 p.1.h,.int .i64 p.1.e]) (by simp [results,Tryz.results98,go_sem,d0,d1,d2,d3]) rfl ?_
     refine ⟨?_,⟨.slice (some ⟨g,0,none⟩) ps.length cap,v3,ps,?_⟩,RFH.out.2.2⟩
     ·rw [HDO.out,HAC.out.1,HAC.out.2.1,HAC.out.2.2,← HP.out.2.1];rfl
     ·rw [HDO.out,HAC.out.1,HAC.out.2.1,zAU HP.out.2.2.1];exact RFH.out.2.1
end Go.Proofs.YticokpbelgpfmaaGreat.Ea
