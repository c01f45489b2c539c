/- Texts put together: Wa, Qt, Ob5. -/
import Derived.Test.YticokpbelgpfmaaGreatMa6
import Derived.StillTail
import Derived.Maps.OwnSet
import Derived.Maps.Views
import Derived.StringKeys
namespace Go.Proofs.YticokpbelgpfmaaGreat.Wa
open Go.RowKit By Ap Tb Tw Mw
def clW (p:Wt):List Value:=[.int .i64 p.c,.int .i64 p.l]
theorem oneW (p:Wt):∀ u ∈ clW p,u.oneCell'=true:=by
 intro u hu
 simp [clW] at hu
 rcases hu with rfl | rfl
 all_goals rfl
theorem lenW:∀ (ms:List Wt),(ms.flatMap clW).length=ms.length * 2
 | []=>rfl
 | x :: r=>by rw [List.flatMap_cons,List.length_append,lenW r];show 2+_=_;simp only [List.length_cons];omega
theorem atW:∀ (ms:List Wt) (i:Nat) (x:Wt) (j:Nat),ms[i]?=some x→j<2→(ms.flatMap clW)[i * 2+j]?=(clW x)[j]?
 | [],i,x,j,h,_=>by simp at h
 | y :: r,0,x,j,h,hj=>by
   simp at h;subst h
   rw [List.flatMap_cons,List.getElem?_append_left (by show _<2;omega)]
   simp
 | y :: r,i+1,x,j,h,hj=>by
   have h':r[i]?=some x:=by simpa using h
   rw [List.flatMap_cons,List.getElem?_append_right (by show 2≤_;omega)]
   rw [show (i+1) * 2+j - (clW y).length=i * 2+j by show _ - 2=_;omega]
   exact atW r i x j h' hj
theorem memW (ms:List Wt):∀ u ∈ ms.flatMap clW,u.oneCell'=true:=by
 intro u hu
 obtain ⟨x,_,hx⟩:=List.mem_flatMap.1 hu
 exact oneW x u hx
def OwnW (w:World) (B:Nat) (v:Value) (ms:List Wt):Prop:=w.ownsRow B 153 2 v ms.length (ms.flatMap clW)
theorem OwnW.kept {w w':World} {B:Nat} {v:Value} {ms:List Wt} (h:OwnW w B v ms) (hk:∀ g,v.ownBlock=some g→w'.heap[g]?=w.heap[g]?):OwnW w' B v ms:=by
 obtain ⟨hl,h⟩:=h
 refine ⟨hl,?_⟩
 rcases h with h | ⟨g,cap,cur,rfl,h1,hg,h2⟩
 ·exact .inl h
 ·exact .inr ⟨g,cap,cur,rfl,h1,(hk g rfl).trans hg,h2⟩
theorem OwnW.lt {w:World} {B:Nat} {v:Value} {ms:List Wt} (h:OwnW w B v ms):∀ g,v.ownBlock=some g→B≤g∧g<w.heap.size:=World.ownsRow.lt h
theorem OwnW.below {w w':World} {B:Nat} {v:Value} {ms:List Wt} (h:OwnW w B v ms) (hb:Below w.heap.size w w'):OwnW w' B v ms:=h.kept fun g hg=>hb.block g (h.lt g hg).2
theorem OwnW.made (w:World) (B:Nat) (hB:B≤w.heap.size):OwnW (w.alloc (.cells #[] 153)) B (.slice (some ⟨w.heap.size,0,none⟩) 0 0) []:=World.ownsRow_made w #[] 0 hB (by decide) rfl
theorem OwnW.nil (w:World) (B:Nat):OwnW w B (.slice none 0 0) []:=World.ownsRow_nil _ _ _ _
theorem OwnW.slice {w:World} {B:Nat} {v:Value} {ms:List Wt} (h:OwnW w B v ms):∃ a cap,v=.slice a ms.length cap:=by
 obtain ⟨_,h | ⟨g,cap,cur,he,_⟩⟩:=h
 ·exact ⟨none,0,by rw [h.1,h.2]⟩
 ·exact ⟨_,cap,he⟩
theorem OwnW.mono {w:World} {B B':Nat} {v:Value} {ms:List Wt} (h:OwnW w B v ms) (hb:B'≤B):OwnW w B' v ms:=by
 obtain ⟨hl,h⟩:=h
 refine ⟨hl,?_⟩
 rcases h with h | ⟨g,cap,cur,rfl,h1,hg,h2⟩
 ·exact .inl h
 ·exact .inr ⟨g,cap,cur,rfl,Nat.le_trans hb h1,hg,h2⟩
theorem OwnW.row {w:World} {B:Nat} {v:Value} {ms:List Wt} (h:OwnW w B v ms):RowW w v ms:=by
 obtain ⟨hl,h⟩:=h
 rcases h with ⟨rfl,h0⟩ | ⟨g,cap,cur,rfl,hB,hg,hc,_,hs,htk⟩
 ·exact ⟨none,0,by rw [h0],.inl (List.length_eq_zero_iff.1 h0)⟩
 ·refine ⟨_,cap,rfl,.inr ⟨g,0,rfl,hc,(Array.getElem?_eq_some_iff.1 hg).1,fun i x hi=>?_⟩⟩
  have hil:=(List.getElem?_eq_some_iff.1 hi).1
  have key:∀ j u,j<2→(clW x)[j]?=some u→w.cell? ⟨g,0+i * 2+j,none⟩=some u:=fun j u hj hu=>by
   rw [Nat.zero_add,Joins.cell_of_block hg,← Array.getElem?_toList]
   have h1:=atW ms i x j hi hj
   rw [← htk,List.getElem?_take,if_pos (by omega)] at h1
   rw [h1,hu]
  exact ⟨key 0 _ (by decide) rfl,key 1 _ (by decide) rfl⟩
theorem infoW:(Tryz.prog.info? 153).map (fun i=>(i.zero,i.size,i.bytes))=some (some (.agg #[.int .i64 0,.int .i64 0]),2,16):=by kernel_rfl
theorem srcW {w:World} {a:Addr} {xs:List Wt} {cap:Nat} (h:RowW w (.slice (some a) xs.length cap) xs):∀ j u,(xs.flatMap clW)[j]?=some u→w.cell? (a.add j)=some u:=by
 intro j u hj
 have hlt:=(List.getElem?_eq_some_iff.1 hj).1
 rw [lenW] at hlt
 obtain ⟨x,hx⟩ : ∃ x,xs[j / 2]?=some x:=⟨_,List.getElem?_eq_getElem (by omega)⟩
 obtain ⟨b,off,hab,_,hE⟩:=RowG.at h rfl hx
 cases hab
 have h2:=atW xs (j / 2) x (j % 2) hx (Nat.mod_lt _ (by decide))
 rw [show j / 2 * 2+j % 2=j by omega,hj] at h2
 rw [addr_add,show off+j=off+j / 2 * 2+j % 2 by omega]
 obtain ⟨e0,e1⟩:=hE
 rcases (by omega:j % 2=0 ∨ j % 2=1) with q | q
 ·rw [q] at h2 ⊢;exact e0.trans h2.symm
 ·rw [q] at h2 ⊢;exact e1.trans h2.symm
theorem appW {P:Program} {ops:Array Oper} {rest:List Oper} {o:Oper} {a:Act} {Q:Exit→Act→World→Prop} (hgd:o.guard=none) (s x:Operand) (t:TypeId)
 (ho:o.op=.call { callee:=.builtin .append,args:=#[s,x],argTypes:=#[t,t] }) (i:TypeInfo) (ht:P.underlying t=some (.slice 153)) (hi:P.info? 153=some i) (hz:i.zero=some (.agg #[.int .i64 0,.int .i64 0]))
 (hsize:i.size=2) (hby:i.bytes=16) (B:Nat) (w0 W:World) (v u:Value) (zs xs:List Wt) (hs:a.eval s=v) (hown:OwnW W B v zs) (hbel:Below B w0 W) (hB:B≤W.heap.size)
 (hx:a.eval x=u) (hu:RowW W u xs) (hlen:zs.length+xs.length≤1000000)
 (h:∀ v' w',OwnW w' B v' (zs ++ xs)→Below B w0 w'→(∀ k,k<W.heap.size→some k ≠ v.ownBlock→w'.heap[k]?=W.heap[k]?)→wpList P ops Q rest (a.put o.dst v') w'):wpList P ops Q (o :: rest) a W:=by
 have hu':=hu
 obtain ⟨ad,cap,rfl,hc⟩:=hu
 have hown2:=hown
 unfold OwnW at hown2
 cases ad with
 | none =>
   obtain rfl:xs=[]:=by
    rcases hc with h | ⟨_,_,h,_⟩
    ·exact h
    ·cases h
   have hr:(Builtin.append_ #[t,t] o.type #[v,.slice none 0 cap]).run P W=.ok v W:=by
    rcases hown2.2 with ⟨rfl,_⟩ | ⟨g,c,cur,rfl,_,_,hn,_⟩
    ·exact run_append_nothing W t t o.type _ i ht hi none 0 0 (Nat.le_refl _) _ (Src.ofNil W ht cap)
    ·exact run_append_nothing W t t o.type _ i ht hi _ _ _ hn _ (Src.ofNil W ht cap)
   refine wpList_plain hgd fun K hK=>?_
   unfold Oper.wp execOp
   simp only [ho,resolve,invoke,builtin,Sem.run_bind,Sem.run_pure,Result.andThen_ok,List.map_toArray,List.map_cons,List.map_nil,hs,hx,List.length_nil,hr]
   exact hK _ _ (h v W (by simpa using hown) hbel (fun _ _ _=>rfl))
 | some ad =>
   refine wpList_append_own_at (P:=P) _ hgd s x t ho B 153 i _ 2 16 ht hi hz hsize hby rfl (by decide) v zs.length _ hs hown2 ad xs.length cap (xs.flatMap clW) hx (lenW xs) (srcW hu') (memW xs) (by unfold maxLen;omega) (by omega) hB ?_
   intro v' w' h1 h2 h3 h4
   exact h v' w' (by unfold OwnW;rw [List.flatMap_append,List.length_append];exact h1) (hbel.grown h2 hB (fun k hk=>(hown2.lt k hk).1)) (fun k hk hn=>h2.block k hk hn)
def clS (p:Sn):List Value:=[.int .i64 p.c,.int .i64 p.s,.int .i64 p.k,.int .i64 p.t,.int .i64 p.h,.int .i64 p.e]
theorem oneS (p:Sn):∀ u ∈ clS p,u.oneCell'=true:=by
 intro u hu
 simp [clS] at hu
 rcases hu with rfl | rfl | rfl | rfl | rfl | rfl
 all_goals rfl
theorem lenS:∀ (ms:List Sn),(ms.flatMap clS).length=ms.length * 6
 | []=>rfl
 | x :: r=>by rw [List.flatMap_cons,List.length_append,lenS r];show 6+_=_;simp only [List.length_cons];omega
theorem atS:∀ (ms:List Sn) (i:Nat) (x:Sn) (j:Nat),ms[i]?=some x→j<6→(ms.flatMap clS)[i * 6+j]?=(clS x)[j]?
 | [],i,x,j,h,_=>by simp at h
 | y :: r,0,x,j,h,hj=>by
   simp at h;subst h
   rw [List.flatMap_cons,List.getElem?_append_left (by show _<6;omega)]
   simp
 | y :: r,i+1,x,j,h,hj=>by
   have h':r[i]?=some x:=by simpa using h
   rw [List.flatMap_cons,List.getElem?_append_right (by show 6≤_;omega)]
   rw [show (i+1) * 6+j - (clS y).length=i * 6+j by show _ - 6=_;omega]
   exact atS r i x j h' hj
theorem memS (ms:List Sn):∀ u ∈ ms.flatMap clS,u.oneCell'=true:=by
 intro u hu
 obtain ⟨x,_,hx⟩:=List.mem_flatMap.1 hu
 exact oneS x u hx
def OwnS (w:World) (B:Nat) (v:Value) (ms:List Sn):Prop:=w.ownsRow B 116 6 v ms.length (ms.flatMap clS)
theorem OwnS.kept {w w':World} {B:Nat} {v:Value} {ms:List Sn} (h:OwnS w B v ms) (hk:∀ g,v.ownBlock=some g→w'.heap[g]?=w.heap[g]?):OwnS w' B v ms:=by
 obtain ⟨hl,h⟩:=h
 refine ⟨hl,?_⟩
 rcases h with h | ⟨g,cap,cur,rfl,h1,hg,h2⟩
 ·exact .inl h
 ·exact .inr ⟨g,cap,cur,rfl,h1,(hk g rfl).trans hg,h2⟩
theorem OwnS.lt {w:World} {B:Nat} {v:Value} {ms:List Sn} (h:OwnS w B v ms):∀ g,v.ownBlock=some g→B≤g∧g<w.heap.size:=World.ownsRow.lt h
theorem OwnS.below {w w':World} {B:Nat} {v:Value} {ms:List Sn} (h:OwnS w B v ms) (hb:Below w.heap.size w w'):OwnS w' B v ms:=h.kept fun g hg=>hb.block g (h.lt g hg).2
theorem OwnS.alloc {w:World} {B:Nat} {v:Value} {ms:List Sn} (h:OwnS w B v ms) (o:Obj):OwnS (w.alloc o) B v ms:=h.below ((Below.refl _ _).alloc (Nat.le_refl _) _)
theorem OwnS.made (w:World) (B:Nat) (hB:B≤w.heap.size):OwnS (w.alloc (.cells #[] 116)) B (.slice (some ⟨w.heap.size,0,none⟩) 0 0) []:=World.ownsRow_made w #[] 0 hB (by decide) rfl
theorem OwnS.nil (w:World) (B:Nat):OwnS w B (.slice none 0 0) []:=World.ownsRow_nil _ _ _ _
theorem OwnS.slice {w:World} {B:Nat} {v:Value} {ms:List Sn} (h:OwnS w B v ms):∃ a cap,v=.slice a ms.length cap:=by
 obtain ⟨_,h | ⟨g,cap,cur,he,_⟩⟩:=h
 ·exact ⟨none,0,by rw [h.1,h.2]⟩
 ·exact ⟨_,cap,he⟩
theorem OwnS.mono {w:World} {B B':Nat} {v:Value} {ms:List Sn} (h:OwnS w B v ms) (hb:B'≤B):OwnS w B' v ms:=by
 obtain ⟨hl,h⟩:=h
 refine ⟨hl,?_⟩
 rcases h with h | ⟨g,cap,cur,rfl,h1,hg,h2⟩
 ·exact .inl h
 ·exact .inr ⟨g,cap,cur,rfl,Nat.le_trans hb h1,hg,h2⟩
theorem OwnS.row {w:World} {B:Nat} {v:Value} {ms:List Sn} (h:OwnS w B v ms):RowS w v ms:=by
 obtain ⟨hl,h⟩:=h
 rcases h with ⟨rfl,h0⟩ | ⟨g,cap,cur,rfl,hB,hg,hc,_,hs,htk⟩
 ·exact ⟨none,0,by rw [h0],.inl (List.length_eq_zero_iff.1 h0)⟩
 ·refine ⟨_,cap,rfl,.inr ⟨g,0,rfl,hc,(Array.getElem?_eq_some_iff.1 hg).1,fun i x hi=>?_⟩⟩
  have hil:=(List.getElem?_eq_some_iff.1 hi).1
  have key:∀ j u,j<6→(clS x)[j]?=some u→w.cell? ⟨g,0+i * 6+j,none⟩=some u:=fun j u hj hu=>by
   rw [Nat.zero_add,Joins.cell_of_block hg,← Array.getElem?_toList]
   have h1:=atS ms i x j hi hj
   rw [← htk,List.getElem?_take,if_pos (by omega)] at h1
   rw [h1,hu]
  exact ⟨key 0 _ (by decide) rfl,key 1 _ (by decide) rfl,key 2 _ (by decide) rfl,key 3 _ (by decide) rfl,key 4 _ (by decide) rfl,key 5 _ (by decide) rfl⟩
theorem infoS:(Tryz.prog.info? 116).map (fun i=>(i.zero,i.size,i.bytes))=some (some (.agg #[.int .i64 0,.int .i64 0,.int .i64 0,.int .i64 0,.int .i64 0,.int .i64 0]),6,48):=by kernel_rfl
theorem srcS {w:World} {a:Addr} {xs:List Sn} {cap:Nat} (h:RowS w (.slice (some a) xs.length cap) xs):∀ j u,(xs.flatMap clS)[j]?=some u→w.cell? (a.add j)=some u:=by
 intro j u hj
 have hlt:=(List.getElem?_eq_some_iff.1 hj).1
 rw [lenS] at hlt
 obtain ⟨x,hx⟩ : ∃ x,xs[j / 6]?=some x:=⟨_,List.getElem?_eq_getElem (by omega)⟩
 obtain ⟨b,off,hab,_,hE⟩:=RowG.at h rfl hx
 cases hab
 have h2:=atS xs (j / 6) x (j % 6) hx (Nat.mod_lt _ (by decide))
 rw [show j / 6 * 6+j % 6=j by omega,hj] at h2
 rw [addr_add,show off+j=off+j / 6 * 6+j % 6 by omega]
 obtain ⟨e0,e1,e2,e3,e4,e5⟩:=hE
 rcases (by omega:j % 6=0 ∨ j % 6=1 ∨ j % 6=2 ∨ j % 6=3 ∨ j % 6=4 ∨ j % 6=5) with q | q | q | q | q | q
 ·rw [q] at h2 ⊢;exact e0.trans h2.symm
 ·rw [q] at h2 ⊢;exact e1.trans h2.symm
 ·rw [q] at h2 ⊢;exact e2.trans h2.symm
 ·rw [q] at h2 ⊢;exact e3.trans h2.symm
 ·rw [q] at h2 ⊢;exact e4.trans h2.symm
 ·rw [q] at h2 ⊢;exact e5.trans h2.symm
theorem appS {P:Program} {ops:Array Oper} {rest:List Oper} {o:Oper} {a:Act} {Q:Exit→Act→World→Prop} (hgd:o.guard=none) (s x:Operand) (t:TypeId)
 (ho:o.op=.call { callee:=.builtin .append,args:=#[s,x],argTypes:=#[t,t] }) (i:TypeInfo) (ht:P.underlying t=some (.slice 116)) (hi:P.info? 116=some i) (hz:i.zero=some (.agg #[.int .i64 0,.int .i64 0,.int .i64 0,.int .i64 0,.int .i64 0,.int .i64 0]))
 (hsize:i.size=6) (hby:i.bytes=48) (B:Nat) (w0 W:World) (v u:Value) (zs xs:List Sn) (hs:a.eval s=v) (hown:OwnS W B v zs) (hbel:Below B w0 W) (hB:B≤W.heap.size)
 (hx:a.eval x=u) (hu:RowS W u xs) (hlen:zs.length+xs.length≤1000000)
 (h:∀ v' w',OwnS w' B v' (zs ++ xs)→Below B w0 w'→(∀ k,k<W.heap.size→some k ≠ v.ownBlock→w'.heap[k]?=W.heap[k]?)→wpList P ops Q rest (a.put o.dst v') w'):wpList P ops Q (o :: rest) a W:=by
 have hu':=hu
 obtain ⟨ad,cap,rfl,hc⟩:=hu
 have hown2:=hown
 unfold OwnS at hown2
 cases ad with
 | none =>
   obtain rfl:xs=[]:=by
    rcases hc with h | ⟨_,_,h,_⟩
    ·exact h
    ·cases h
   have hr:(Builtin.append_ #[t,t] o.type #[v,.slice none 0 cap]).run P W=.ok v W:=by
    rcases hown2.2 with ⟨rfl,_⟩ | ⟨g,c,cur,rfl,_,_,hn,_⟩
    ·exact run_append_nothing W t t o.type _ i ht hi none 0 0 (Nat.le_refl _) _ (Src.ofNil W ht cap)
    ·exact run_append_nothing W t t o.type _ i ht hi _ _ _ hn _ (Src.ofNil W ht cap)
   refine wpList_plain hgd fun K hK=>?_
   unfold Oper.wp execOp
   simp only [ho,resolve,invoke,builtin,Sem.run_bind,Sem.run_pure,Result.andThen_ok,List.map_toArray,List.map_cons,List.map_nil,hs,hx,List.length_nil,hr]
   exact hK _ _ (h v W (by simpa using hown) hbel (fun _ _ _=>rfl))
 | some ad =>
   refine wpList_append_own_at (P:=P) _ hgd s x t ho B 116 i _ 6 48 ht hi hz hsize hby rfl (by decide) v zs.length _ hs hown2 ad xs.length cap (xs.flatMap clS) hx (lenS xs) (srcS hu') (memS xs) (by unfold maxLen;omega) (by omega) hB ?_
   intro v' w' h1 h2 h3 h4
   exact h v' w' (by unfold OwnS;rw [List.flatMap_append,List.length_append];exact h1) (hbel.grown h2 hB (fun k hk=>(hown2.lt k hk).1)) (fun k hk hn=>h2.block k hk hn)
end Go.Proofs.YticokpbelgpfmaaGreat.Wa
namespace Go.Proofs.YticokpbelgpfmaaGreat.Qt
open Go.RowKit
theorem still_of_quiet {P:Program} {ops:Array Oper} {w:World} {Q:Act→Prop}:∀ (l:List Oper) (a:Act),wpQuiet P ops (fun w'=>w'=w) Q l a→wpStill P ops w Q l a:=by
 intro l
 induction l with
 | nil=>intro a h;exact h
 | cons o rest ih =>
   intro a h
   unfold wpQuiet at h
   unfold wpStill
   by_cases hw:Region.wanted o (yielded ops a.tmps)=true
   ·rw [if_pos hw] at h ⊢
    obtain ⟨v,hv,hn⟩:=h
    have h1:=hv w rfl
    have h2:=ih _ hn
    unfold Oper.still
    unfold Oper.quietAt at h1
    generalize (execOp a.eval o).run P w=r at h1
    cases r with
    | ok n w' =>
      cases n <;> simp only [Oper.quietUpon,Oper.stillUpon] at h1 ⊢
      case value u=>obtain ⟨e1,e2⟩:=h1;rw [e2];exact ⟨e1,h2⟩
      case skip=>obtain ⟨e1,e2⟩:=h1;rw [← e2];exact ⟨e1,h2⟩
      case enter f args=>exact ⟨h1.1,v,h1.2,h2⟩
    | halt x w'=>simp only [Oper.quietUpon] at h1
   ·rw [if_neg hw] at h ⊢
    exact ih _ h
theorem zBN {P:Program} {id:Nat} {Q:Exit→Act→World→Prop} {a:Act} {w:World} {l:List Oper} (n:Nat) (hm:P.follows .mixedOrders=true) (hB:Region.lexTailB .any l.toArray n=true)
 (h:wpQuiet P l.toArray (fun w'=>w'=w.drew) (fun a'=>wpList P l.toArray Q (l.drop n) a' w.drew) (l.take n) a):(Code.region id l.toArray true).wp P Q a w :=
 wp_region_still_tail n hm hB (still_of_quiet _ _ h)
end Go.Proofs.YticokpbelgpfmaaGreat.Qt
namespace Go.Proofs.YticokpbelgpfmaaGreat.Bk
open Go.RowKit By Ap Tb Tw Mw Wa
open Tx (zAA zAC zAE zAJ zAD)
theorem zAL (w:World) (o:Obj):(w.alloc o).heap.size=w.heap.size+1:=by simp
def RV:Value→Option (DataW Value × List MemPlace):=fun v=>some (.held v,[])
def kS (n:ByteArray):Lit:=.string n.data.toList
def kI (c:Int):Lit:=.int .i64 c
def dL (ps:List (Lk × Value)):DataW Value:=ps.foldl (fun D q=>D.put (kS q.1.n) (.held (lkV q.1 q.2))) (.map [])
def dS (ss:List Sn):DataW Value:=ss.foldl (fun D s=>D.put (kI s.c) (.held (snV s))) (.map [])
theorem dL_snoc (ps:List (Lk × Value)) (q:Lk × Value):dL (ps ++ [q])=(dL ps).put (kS q.1.n) (.held (lkV q.1 q.2)):=by unfold dL;rw [List.foldl_append];rfl
theorem dS_snoc (ss:List Sn) (s:Sn):dS (ss ++ [s])=(dS ss).put (kI s.c) (.held (snV s)):=by unfold dS;rw [List.foldl_append];rfl
abbrev MapL (w:World) (b n:Nat) (D:DataW Value):Prop:=w.ownsMap Tryz.prog 9 RV b n D
abbrev MapS (w:World) (b n:Nat) (D:DataW Value):Prop:=w.ownsMap Tryz.prog 3 RV b n D
theorem zAR {w w':World} {k:TypeId} {b n:Nat} {D:DataW Value} (h:w.ownsMap Tryz.prog k RV b n D) (hb:w'.heap[b]?=w.heap[b]?):w'.ownsMap Tryz.prog k RV b n D:=by
 obtain ⟨es,cl,h1,h2⟩:=h
 exact ⟨es,cl,hb.trans h1,h2⟩
theorem take_at {α:Type} {xs:List α} {k:Nat} {x:α} (h:xs[k]?=some x):xs.take (k+1)=xs.take k ++ [x]:=by rw [List.take_add_one,h];rfl
theorem wf_small {c:Int} (h:0≤c∧c≤255):(Lit.int .i64 c).wf=true:=by
 have h1:IntKind.i64.min = -9223372036854775808:=by rfl
 have h2:IntKind.i64.max=9223372036854775807:=by rfl
 simp only [Lit.wf,h1,h2,Bool.and_eq_true,decide_eq_true_eq]
 omega
end Go.Proofs.YticokpbelgpfmaaGreat.Bk
