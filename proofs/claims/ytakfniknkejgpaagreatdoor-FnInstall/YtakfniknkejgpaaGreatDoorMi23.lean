/- Texts put together: Wa, Ol, Ur. -/
import Derived.Test.YtakfniknkejgpaaGreatDoorMi22
namespace Go.Proofs.YtakfniknkejgpaaGreatDoor.Wa
open Go.RowKit Sl By Ap Tb Tw Mw
def clW (p:Wt):List Value:=[.int .i64 p.c,.int .i64 p.l]
theorem oneW (p:Wt):∀ u ∈ clW p,u.oneCell'=true:=by
 intro u hu
 simp [clW] at hu
 rcases hu with rfl | rfl
 all_goals rfl
theorem lenW:∀ (ms:List Wt),(ms.flatMap clW).length=ms.length * 2
 | []=>rfl
 | x :: r=>by rw [List.flatMap_cons,List.length_append,lenW r];show 2+_=_;simp only [List.length_cons];omega
theorem atW:∀ (ms:List Wt) (i:Nat) (x:Wt) (j:Nat),ms[i]?=some x→j<2→(ms.flatMap clW)[i * 2+j]?=(clW x)[j]?
 | [],i,x,j,h,_=>by simp at h
 | y :: r,0,x,j,h,hj=>by
   simp at h;subst h
   rw [List.flatMap_cons,List.getElem?_append_left (by show _<2;omega)]
   simp
 | y :: r,i+1,x,j,h,hj=>by
   have h':r[i]?=some x:=by simpa using h
   rw [List.flatMap_cons,List.getElem?_append_right (by show 2≤_;omega)]
   rw [show (i+1) * 2+j - (clW y).length=i * 2+j by show _ - 2=_;omega]
   exact atW r i x j h' hj
theorem memW (ms:List Wt):∀ u ∈ ms.flatMap clW,u.oneCell'=true:=by
 intro u hu
 obtain ⟨x,_,hx⟩:=List.mem_flatMap.1 hu
 exact oneW x u hx
def OwnW (w:World) (B:Nat) (v:Value) (ms:List Wt):Prop:=w.ownsRow B 98 2 v ms.length (ms.flatMap clW)
theorem OwnW.kept {w w':World} {B:Nat} {v:Value} {ms:List Wt} (h:OwnW w B v ms) (hk:∀ g,v.ownBlock=some g→w'.heap[g]?=w.heap[g]?):OwnW w' B v ms:=by
 obtain ⟨hl,h⟩:=h
 refine ⟨hl,?_⟩
 rcases h with h | ⟨g,cap,cur,rfl,h1,hg,h2⟩
 ·exact .inl h
 ·exact .inr ⟨g,cap,cur,rfl,h1,(hk g rfl).trans hg,h2⟩
theorem OwnW.lt {w:World} {B:Nat} {v:Value} {ms:List Wt} (h:OwnW w B v ms):∀ g,v.ownBlock=some g→B≤g∧g<w.heap.size:=World.ownsRow.lt h
theorem OwnW.below {w w':World} {B:Nat} {v:Value} {ms:List Wt} (h:OwnW w B v ms) (hb:Below w.heap.size w w'):OwnW w' B v ms:=h.kept fun g hg=>hb.block g (h.lt g hg).2
theorem OwnW.alloc {w:World} {B:Nat} {v:Value} {ms:List Wt} (h:OwnW w B v ms) (o:Obj):OwnW (w.alloc o) B v ms:=h.below ((Below.refl _ _).alloc (Nat.le_refl _) _)
theorem OwnW.made (w:World) (B:Nat) (hB:B≤w.heap.size):OwnW (w.alloc (.cells #[] 98)) B (.slice (some ⟨w.heap.size,0,none⟩) 0 0) []:=World.ownsRow_made w #[] 0 hB (by decide) rfl
theorem OwnW.nil (w:World) (B:Nat):OwnW w B (.slice none 0 0) []:=World.ownsRow_nil _ _ _ _
theorem OwnW.slice {w:World} {B:Nat} {v:Value} {ms:List Wt} (h:OwnW w B v ms):∃ a cap,v=.slice a ms.length cap:=by
 obtain ⟨_,h | ⟨g,cap,cur,he,_⟩⟩:=h
 ·exact ⟨none,0,by rw [h.1,h.2]⟩
 ·exact ⟨_,cap,he⟩
theorem OwnW.mono {w:World} {B B':Nat} {v:Value} {ms:List Wt} (h:OwnW w B v ms) (hb:B'≤B):OwnW w B' v ms:=by
 obtain ⟨hl,h⟩:=h
 refine ⟨hl,?_⟩
 rcases h with h | ⟨g,cap,cur,rfl,h1,hg,h2⟩
 ·exact .inl h
 ·exact .inr ⟨g,cap,cur,rfl,Nat.le_trans hb h1,hg,h2⟩
theorem OwnW.row {w:World} {B:Nat} {v:Value} {ms:List Wt} (h:OwnW w B v ms):RowW w v ms:=by
 obtain ⟨hl,h⟩:=h
 rcases h with ⟨rfl,h0⟩ | ⟨g,cap,cur,rfl,hB,hg,hc,_,hs,htk⟩
 ·exact ⟨none,0,by rw [h0],.inl (List.length_eq_zero_iff.1 h0)⟩
 ·refine ⟨_,cap,rfl,.inr ⟨g,0,rfl,hc,(Array.getElem?_eq_some_iff.1 hg).1,fun i x hi=>?_⟩⟩
  have hil:=(List.getElem?_eq_some_iff.1 hi).1
  have key:∀ j u,j<2→(clW x)[j]?=some u→w.cell? ⟨g,0+i * 2+j,none⟩=some u:=fun j u hj hu=>by
   rw [Nat.zero_add,Joins.cell_of_block hg,← Array.getElem?_toList]
   have h1:=atW ms i x j hi hj
   rw [← htk,List.getElem?_take,if_pos (by omega)] at h1
   rw [h1,hu]
  exact ⟨key 0 _ (by decide) rfl,key 1 _ (by decide) rfl⟩
theorem infoW:(Tryz.prog.info? 98).map (fun i=>(i.zero,i.size,i.bytes))=some (some (.agg #[.int .i64 0,.int .i64 0]),2,16):=by kernel_rfl
theorem srcW {w:World} {a:Addr} {xs:List Wt} {cap:Nat} (h:RowW w (.slice (some a) xs.length cap) xs):∀ j u,(xs.flatMap clW)[j]?=some u→w.cell? (a.add j)=some u:=by
 intro j u hj
 have hlt:=(List.getElem?_eq_some_iff.1 hj).1
 rw [lenW] at hlt
 obtain ⟨x,hx⟩ : ∃ x,xs[j / 2]?=some x:=⟨_,List.getElem?_eq_getElem (by omega)⟩
 obtain ⟨b,off,hab,_,hE⟩:=RowG.at h rfl hx
 cases hab
 have h2:=atW xs (j / 2) x (j % 2) hx (Nat.mod_lt _ (by decide))
 rw [show j / 2 * 2+j % 2=j by omega,hj] at h2
 rw [addr_add,show off+j=off+j / 2 * 2+j % 2 by omega]
 obtain ⟨e0,e1⟩:=hE
 rcases (by omega:j % 2=0 ∨ j % 2=1) with q | q
 ·rw [q] at h2 ⊢;exact e0.trans h2.symm
 ·rw [q] at h2 ⊢;exact e1.trans h2.symm
theorem appW {P:Program} {ops:Array Oper} {rest:List Oper} {o:Oper} {a:Act} {Q:Exit→Act→World→Prop} (hgd:o.guard=none) (s x:Operand) (t:TypeId)
 (ho:o.op=.call { callee:=.builtin .append,args:=#[s,x],argTypes:=#[t,t] }) (i:TypeInfo) (ht:P.underlying t=some (.slice 98)) (hi:P.info? 98=some i) (hz:i.zero=some (.agg #[.int .i64 0,.int .i64 0]))
 (hsize:i.size=2) (hby:i.bytes=16) (B:Nat) (w0 W:World) (v u:Value) (zs xs:List Wt) (hs:a.eval s=v) (hown:OwnW W B v zs) (hbel:Below B w0 W) (hB:B≤W.heap.size)
 (hx:a.eval x=u) (hu:RowW W u xs) (hlen:zs.length+xs.length≤1000000)
 (h:∀ v' w',OwnW w' B v' (zs ++ xs)→Below B w0 w'→(∀ k,k<W.heap.size→some k ≠ v.ownBlock→w'.heap[k]?=W.heap[k]?)→wpList P ops Q rest (a.put o.dst v') w'):wpList P ops Q (o :: rest) a W:=by
 have hu':=hu
 obtain ⟨ad,cap,rfl,hc⟩:=hu
 have hown2:=hown
 unfold OwnW at hown2
 cases ad with
 | none =>
   obtain rfl:xs=[]:=by
    rcases hc with h | ⟨_,_,h,_⟩
    ·exact h
    ·cases h
   have hr:(Builtin.append_ #[t,t] o.type #[v,.slice none 0 cap]).run P W=.ok v W:=by
    rcases hown2.2 with ⟨rfl,_⟩ | ⟨g,c,cur,rfl,_,_,hn,_⟩
    ·exact run_append_nothing W t t o.type _ i ht hi none 0 0 (Nat.le_refl _) _ (Src.ofNil W ht cap)
    ·exact run_append_nothing W t t o.type _ i ht hi _ _ _ hn _ (Src.ofNil W ht cap)
   refine wpList_plain hgd fun K hK=>?_
   unfold Oper.wp execOp
   simp only [ho,resolve,invoke,builtin,Sem.run_bind,Sem.run_pure,Result.andThen_ok,List.map_toArray,List.map_cons,List.map_nil,hs,hx,List.length_nil,hr]
   exact hK _ _ (h v W (by simpa using hown) hbel (fun _ _ _=>rfl))
 | some ad =>
   refine wpList_append_own_at (P:=P) _ hgd s x t ho B 98 i _ 2 16 ht hi hz hsize hby rfl (by decide) v zs.length _ hs hown2 ad xs.length cap (xs.flatMap clW) hx (lenW xs) (srcW hu') (memW xs) (by unfold maxLen;omega) (by omega) hB ?_
   intro v' w' h1 h2 h3 h4
   exact h v' w' (by unfold OwnW;rw [List.flatMap_append,List.length_append];exact h1) (hbel.grown h2 hB (fun k hk=>(hown2.lt k hk).1)) (fun k hk hn=>h2.block k hk hn)
def clS (p:Sn):List Value:=[.int .i64 p.c,.int .i64 p.s,.int .i64 p.k,.int .i64 p.t,.int .i64 p.h,.int .i64 p.e]
theorem oneS (p:Sn):∀ u ∈ clS p,u.oneCell'=true:=by
 intro u hu
 simp [clS] at hu
 rcases hu with rfl | rfl | rfl | rfl | rfl | rfl
 all_goals rfl
theorem lenS:∀ (ms:List Sn),(ms.flatMap clS).length=ms.length * 6
 | []=>rfl
 | x :: r=>by rw [List.flatMap_cons,List.length_append,lenS r];show 6+_=_;simp only [List.length_cons];omega
theorem atS:∀ (ms:List Sn) (i:Nat) (x:Sn) (j:Nat),ms[i]?=some x→j<6→(ms.flatMap clS)[i * 6+j]?=(clS x)[j]?
 | [],i,x,j,h,_=>by simp at h
 | y :: r,0,x,j,h,hj=>by
   simp at h;subst h
   rw [List.flatMap_cons,List.getElem?_append_left (by show _<6;omega)]
   simp
 | y :: r,i+1,x,j,h,hj=>by
   have h':r[i]?=some x:=by simpa using h
   rw [List.flatMap_cons,List.getElem?_append_right (by show 6≤_;omega)]
   rw [show (i+1) * 6+j - (clS y).length=i * 6+j by show _ - 6=_;omega]
   exact atS r i x j h' hj
theorem memS (ms:List Sn):∀ u ∈ ms.flatMap clS,u.oneCell'=true:=by
 intro u hu
 obtain ⟨x,_,hx⟩:=List.mem_flatMap.1 hu
 exact oneS x u hx
def OwnS (w:World) (B:Nat) (v:Value) (ms:List Sn):Prop:=w.ownsRow B 102 6 v ms.length (ms.flatMap clS)
theorem OwnS.kept {w w':World} {B:Nat} {v:Value} {ms:List Sn} (h:OwnS w B v ms) (hk:∀ g,v.ownBlock=some g→w'.heap[g]?=w.heap[g]?):OwnS w' B v ms:=by
 obtain ⟨hl,h⟩:=h
 refine ⟨hl,?_⟩
 rcases h with h | ⟨g,cap,cur,rfl,h1,hg,h2⟩
 ·exact .inl h
 ·exact .inr ⟨g,cap,cur,rfl,h1,(hk g rfl).trans hg,h2⟩
theorem OwnS.lt {w:World} {B:Nat} {v:Value} {ms:List Sn} (h:OwnS w B v ms):∀ g,v.ownBlock=some g→B≤g∧g<w.heap.size:=World.ownsRow.lt h
theorem OwnS.below {w w':World} {B:Nat} {v:Value} {ms:List Sn} (h:OwnS w B v ms) (hb:Below w.heap.size w w'):OwnS w' B v ms:=h.kept fun g hg=>hb.block g (h.lt g hg).2
theorem OwnS.alloc {w:World} {B:Nat} {v:Value} {ms:List Sn} (h:OwnS w B v ms) (o:Obj):OwnS (w.alloc o) B v ms:=h.below ((Below.refl _ _).alloc (Nat.le_refl _) _)
theorem OwnS.made (w:World) (B:Nat) (hB:B≤w.heap.size):OwnS (w.alloc (.cells #[] 102)) B (.slice (some ⟨w.heap.size,0,none⟩) 0 0) []:=World.ownsRow_made w #[] 0 hB (by decide) rfl
theorem OwnS.nil (w:World) (B:Nat):OwnS w B (.slice none 0 0) []:=World.ownsRow_nil _ _ _ _
theorem OwnS.slice {w:World} {B:Nat} {v:Value} {ms:List Sn} (h:OwnS w B v ms):∃ a cap,v=.slice a ms.length cap:=by
 obtain ⟨_,h | ⟨g,cap,cur,he,_⟩⟩:=h
 ·exact ⟨none,0,by rw [h.1,h.2]⟩
 ·exact ⟨_,cap,he⟩
theorem OwnS.mono {w:World} {B B':Nat} {v:Value} {ms:List Sn} (h:OwnS w B v ms) (hb:B'≤B):OwnS w B' v ms:=by
 obtain ⟨hl,h⟩:=h
 refine ⟨hl,?_⟩
 rcases h with h | ⟨g,cap,cur,rfl,h1,hg,h2⟩
 ·exact .inl h
 ·exact .inr ⟨g,cap,cur,rfl,Nat.le_trans hb h1,hg,h2⟩
theorem OwnS.row {w:World} {B:Nat} {v:Value} {ms:List Sn} (h:OwnS w B v ms):RowS w v ms:=by
 obtain ⟨hl,h⟩:=h
 rcases h with ⟨rfl,h0⟩ | ⟨g,cap,cur,rfl,hB,hg,hc,_,hs,htk⟩
 ·exact ⟨none,0,by rw [h0],.inl (List.length_eq_zero_iff.1 h0)⟩
 ·refine ⟨_,cap,rfl,.inr ⟨g,0,rfl,hc,(Array.getElem?_eq_some_iff.1 hg).1,fun i x hi=>?_⟩⟩
  have hil:=(List.getElem?_eq_some_iff.1 hi).1
  have key:∀ j u,j<6→(clS x)[j]?=some u→w.cell? ⟨g,0+i * 6+j,none⟩=some u:=fun j u hj hu=>by
   rw [Nat.zero_add,Joins.cell_of_block hg,← Array.getElem?_toList]
   have h1:=atS ms i x j hi hj
   rw [← htk,List.getElem?_take,if_pos (by omega)] at h1
   rw [h1,hu]
  exact ⟨key 0 _ (by decide) rfl,key 1 _ (by decide) rfl,key 2 _ (by decide) rfl,key 3 _ (by decide) rfl,key 4 _ (by decide) rfl,key 5 _ (by decide) rfl⟩
theorem infoS:(Tryz.prog.info? 102).map (fun i=>(i.zero,i.size,i.bytes))=some (some (.agg #[.int .i64 0,.int .i64 0,.int .i64 0,.int .i64 0,.int .i64 0,.int .i64 0]),6,48):=by kernel_rfl
theorem srcS {w:World} {a:Addr} {xs:List Sn} {cap:Nat} (h:RowS w (.slice (some a) xs.length cap) xs):∀ j u,(xs.flatMap clS)[j]?=some u→w.cell? (a.add j)=some u:=by
 intro j u hj
 have hlt:=(List.getElem?_eq_some_iff.1 hj).1
 rw [lenS] at hlt
 obtain ⟨x,hx⟩ : ∃ x,xs[j / 6]?=some x:=⟨_,List.getElem?_eq_getElem (by omega)⟩
 obtain ⟨b,off,hab,_,hE⟩:=RowG.at h rfl hx
 cases hab
 have h2:=atS xs (j / 6) x (j % 6) hx (Nat.mod_lt _ (by decide))
 rw [show j / 6 * 6+j % 6=j by omega,hj] at h2
 rw [addr_add,show off+j=off+j / 6 * 6+j % 6 by omega]
 obtain ⟨e0,e1,e2,e3,e4,e5⟩:=hE
 rcases (by omega:j % 6=0 ∨ j % 6=1 ∨ j % 6=2 ∨ j % 6=3 ∨ j % 6=4 ∨ j % 6=5) with q | q | q | q | q | q
 ·rw [q] at h2 ⊢;exact e0.trans h2.symm
 ·rw [q] at h2 ⊢;exact e1.trans h2.symm
 ·rw [q] at h2 ⊢;exact e2.trans h2.symm
 ·rw [q] at h2 ⊢;exact e3.trans h2.symm
 ·rw [q] at h2 ⊢;exact e4.trans h2.symm
 ·rw [q] at h2 ⊢;exact e5.trans h2.symm
end Go.Proofs.YtakfniknkejgpaaGreatDoor.Wa
namespace Go.Proofs.YtakfniknkejgpaaGreatDoor.Lo
open Go.RowKit Sl By Ap Tb Tw Mw Wa
open Tx (zAD)
abbrev LkA:=Lk × Option Addr × Nat
def uV (p:LkA):Value:=.slice p.2.1 p.1.ws.length p.2.2
def clL (p:LkA):List Value:=[.string p.1.n,.int .i64 p.1.t,.int .i64 p.1.h,.int .i64 p.1.e,uV p]
theorem oneL (p:LkA):∀ u ∈ clL p,u.oneCell'=true:=by
 intro u hu
 unfold clL at hu
 simp only [List.mem_cons,List.not_mem_nil,or_false] at hu
 rcases hu with h | h | h | h | h <;> (rw [h];rfl)
theorem lenL:∀ (ms:List LkA),(ms.flatMap clL).length=ms.length * 5
 | []=>rfl
 | x :: xs=>by rw [List.flatMap_cons,List.length_append,lenL xs];show 5+_=_;rw [List.length_cons];omega
theorem atL:∀ (ms:List LkA) (i:Nat) (x:LkA) (j:Nat),ms[i]?=some x→j<5→(ms.flatMap clL)[i * 5+j]?=(clL x)[j]?
 | [],i,x,j,h,_=>by simp at h
 | y :: ys,0,x,j,h,hj=>by
   simp at h
   subst h
   rw [List.flatMap_cons,Nat.zero_mul,Nat.zero_add,List.getElem?_append_left (by show _<5;exact hj)]
 | y :: ys,i+1,x,j,h,hj=>by
   have h':ys[i]?=some x:=by simpa using h
   rw [List.flatMap_cons,List.getElem?_append_right (by show 5≤_;omega),show (i+1) * 5+j - (clL y).length=i * 5+j by show _ - 5=_;omega]
   exact atL ys i x j h' hj
def OwnL (w:World) (B:Nat) (v:Value) (ms:List LkA):Prop:=w.ownsRow B 95 5 v ms.length (ms.flatMap clL)
theorem OwnL.kept {w w':World} {B:Nat} {v:Value} {ms:List LkA} (h:OwnL w B v ms) (hk:∀ g,v.ownBlock=some g→w'.heap[g]?=w.heap[g]?):OwnL w' B v ms:=by
 obtain ⟨hl,h⟩:=h
 refine ⟨hl,?_⟩
 rcases h with h | ⟨g,cap,cur,rfl,h1,hg,h2⟩
 ·exact .inl h
 ·exact .inr ⟨g,cap,cur,rfl,h1,(hk g rfl).trans hg,h2⟩
theorem OwnL.lt {w:World} {B:Nat} {v:Value} {ms:List LkA} (h:OwnL w B v ms):∀ g,v.ownBlock=some g→B≤g∧g<w.heap.size:=World.ownsRow.lt h
theorem OwnL.below {w w':World} {B:Nat} {v:Value} {ms:List LkA} (h:OwnL w B v ms) (hb:Below w.heap.size w w'):OwnL w' B v ms:=h.kept fun g hg=>hb.block g (h.lt g hg).2
theorem OwnL.alloc {w:World} {B:Nat} {v:Value} {ms:List LkA} (h:OwnL w B v ms) (o:Obj):OwnL (w.alloc o) B v ms:=h.below (zAD _ _)
theorem OwnL.slice {w:World} {B:Nat} {v:Value} {ms:List LkA} (h:OwnL w B v ms):∃ a cap,v=.slice a ms.length cap:=by
 obtain ⟨_,h | ⟨g,cap,cur,he,_⟩⟩:=h
 ·exact ⟨none,0,by rw [h.1,h.2]⟩
 ·exact ⟨_,cap,he⟩
theorem zAI {w:World} {B e n m:Nat} {v:Value} {xs:List Value} (h:w.ownsRow B e n v m xs) {g:Nat} (hg:v.ownBlock=some g):∃ cur,w.heap[g]?=some (.cells cur e (0,0)):=by
 obtain ⟨_,⟨rfl,_⟩ | ⟨g',cap,cur,rfl,_,h1,_⟩⟩:=h
 ·cases hg
 ·cases hg;exact ⟨cur,h1⟩
theorem zAO {w:World} {g x:Nat} {cs ds:Array Value} {e d:TypeId} (h:w.heap[g]?=some (.cells cs e (0,0))) (k:w.heap[x]?=some (.cells ds d (0,0))) (hne:e ≠ d):g ≠ x:=by
 rintro rfl
 rw [h] at k
 injection k with k
 injection k with _ k
 exact hne k
theorem OwnL.row {w:World} {B:Nat} {v:Value} {ms:List LkA} (h:OwnL w B v ms) (hr:∀ p ∈ ms,RowW w (uV p) p.1.ws):RowL w v (ms.map (·.1)):=by
 obtain ⟨hl,h⟩:=h
 rcases h with ⟨rfl,h0⟩ | ⟨g,cap,cur,rfl,hB,hg,hc,_,hs,htk⟩
 ·exact ⟨none,0,by rw [List.length_map,h0],.inl (by rw [List.length_eq_zero_iff.1 h0];rfl)⟩
 ·refine ⟨_,cap,by rw [List.length_map],.inr ⟨g,0,rfl,by rw [List.length_map];exact hc,(Array.getElem?_eq_some_iff.1 hg).1,fun i x hi=>?_⟩⟩
  rw [List.getElem?_map] at hi
  obtain ⟨p,hp,rfl⟩:=Option.map_eq_some_iff.1 hi
  have hil:=lt_at hp
  have key:∀ j u,j<5→(clL p)[j]?=some u→w.cell? ⟨g,0+i * 5+j,none⟩=some u:=fun j u hj hu=>by
   rw [Nat.zero_add,Joins.cell_of_block hg,← Array.getElem?_toList]
   have h1:=atL ms i p j hp hj
   rw [← htk,List.getElem?_take,if_pos (by omega)] at h1
   rw [h1,hu]
  exact ⟨uV p,key 0 _ (by decide) rfl,key 1 _ (by decide) rfl,key 2 _ (by decide) rfl,key 3 _ (by decide) rfl,key 4 _ (by decide) rfl,hr p (mem_at hp)⟩
theorem infoL:(Tryz.prog.info? 95).map (fun i=>(i.zero,i.size,i.bytes))=some (some (.agg #[.string ⟨#[]⟩,.int .i64 0,.int .i64 0,.int .i64 0,.slice none 0 0]),5,64):=by kernel_rfl
theorem list_lk {P:Program} {ops:Array Oper} {rest:List Oper} {o:Oper} {a:Act} {Q:Exit→Act→World→Prop} (hgd:o.guard=none) (s x:Operand) (t:TypeId)
 (ho:o.op=.call { callee:=.builtin .append,args:=#[s,x],argTypes:=#[t,t] }) (i:TypeInfo) (ht:P.underlying t=some (.slice 95)) (hi:P.info? 95=some i) (hz:i.zero=some (.agg #[.string ⟨#[]⟩,.int .i64 0,.int .i64 0,.int .i64 0,.slice none 0 0]))
 (hsize:i.size=5) (hby:i.bytes=64) (B:Nat) (w0 W:World) (v:Value) (ms:List LkA) (m:LkA) (hs:a.eval s=v) (hown:OwnL W B v ms) (hg0:Below B w0 W) (hB:B≤W.heap.size)
 (gx:Nat) (hx:a.eval x=.slice (some ⟨gx,0,none⟩) 1 1) (hgx:W.heap.size=gx) (hlen:ms.length≤1000000)
 (h:∀ v' w',OwnL w' B v' (ms ++ [m])→Below B w0 w'→(∀ k,k<W.heap.size→some k ≠ v.ownBlock→w'.heap[k]?=W.heap[k]?)→wpList P ops Q rest (a.put o.dst v') w'):wpList P ops Q (o :: rest) a (W.alloc (.cells #[.string m.1.n,.int .i64 m.1.t,.int .i64 m.1.h,.int .i64 m.1.e,.slice m.2.1 m.1.ws.length m.2.2] 95)):=by
 subst hgx
 have hown':=hown.alloc (.cells #[.string m.1.n,.int .i64 m.1.t,.int .i64 m.1.h,.int .i64 m.1.e,.slice m.2.1 m.1.ws.length m.2.2] 95)
 refine wpList_append_own_at (P:=P) _ hgd s x t ho B 95 i _ 5 64 ht hi hz hsize hby rfl (by decide) v ms.length _ hs hown' ⟨W.heap.size,0,none⟩ 1 1 (clL m) hx rfl ?_ (oneL m) (by unfold maxLen;omega) (by omega) (by simp;omega) ?_
 ·intro j u hj
  have h2:(⟨W.heap.size,0,none⟩ : Addr).add j=⟨W.heap.size,j,none⟩:=by unfold Addr.add;split <;> simp_all
  rw [h2,Joins.cell_of_block (heap_alloc_new W _),← hj]
  simp [clL,uV]
 ·intro v' w' h1 h2 h3 h4
  exact h v' w' (by unfold OwnL;rw [List.flatMap_append,List.length_append];simpa using h1) ((hg0.alloc hB _).grown h2 (by simp;omega) (fun k hk=>(hown'.lt k hk).1)) (fun k hk hn=>(h2.block k (by simp;omega) hn).trans (Below.heap_alloc W _ k hk))
theorem OwnL.mono {w:World} {B B':Nat} {v:Value} {ms:List LkA} (h:OwnL w B v ms) (hb:B'≤B):OwnL w B' v ms:=by
 obtain ⟨hl,h⟩:=h
 refine ⟨hl,?_⟩
 rcases h with h | ⟨g,cap,cur,rfl,h1,hg,h2⟩
 ·exact .inl h
 ·exact .inr ⟨g,cap,cur,rfl,Nat.le_trans hb h1,hg,h2⟩
end Go.Proofs.YtakfniknkejgpaaGreatDoor.Lo
namespace Go.Proofs.YtakfniknkejgpaaGreatDoor.Ur
open Go.RowKit Sl By Ap Rr Tb Tw
open Wa (OwnW appW infoW)
def nv (n:Nat) (xs:List Int):Int:=beN (tkB n xs)
theorem pow_pos':∀ n:Nat,(0:Int)<256 ^ n
 | 0=>by decide
 | n+1=>by rw [Int.pow_succ];have:=pow_pos' n;omega
theorem zBJ {n:Nat} {xs:List Int} (h:∀ x ∈ xs,0≤x∧x≤255):0≤nv n xs∧nv n xs<256 ^ n:=by
 obtain ⟨h1,h2⟩:=beN_range (tkB n xs) (tkB_range h)
 refine ⟨h1,?_⟩
 unfold nv
 by_cases hl:xs.length<n
 ·have e:tkB n xs=[]:=if_pos hl
  rw [e]
  exact pow_pos' n
 ·have e:(tkB n xs).length=n:=by unfold tkB;rw [if_neg hl,List.length_take];omega
  rw [e] at h2
  exact h2
def itR (f:List Int→List Int):Nat→List Int→List Int
 | 0,xs=>xs
 | k+1,xs=>f (itR f k xs)
def itS (f:List Int→List Int) (g:List Int→Bool→Bool):Nat→List Int→Bool→Bool
 | 0,_,sh=>sh
 | k+1,xs,sh=>g (itR f k xs) (itS f g k xs sh)
def itL {α:Type} (f:List Int→List Int) (o:List Int→α):Nat→List Int→List α
 | 0,_=>[]
 | k+1,xs=>itL f o k xs ++ [o (itR f k xs)]
theorem zBd {α:Type} (f:List Int→List Int) (o:List Int→α) (xs:List Int):∀ k,(itL f o k xs).length=k
 | 0=>rfl
 | k+1=>by unfold itL;rw [List.length_append,zBd f o xs k];rfl
def Less (f:List Int→List Int):Prop:=∀ xs:List Int,(f xs).length≤xs.length∧((∀ x ∈ xs,0≤x∧x≤255)→∀ x ∈ f xs,0≤x∧x≤255)
theorem zBN (n:Nat):Less (tkR n):=fun xs=>⟨zAu n xs,fun h=>zAh h⟩
theorem less_txt (n:Nat):Less (txtR n):=fun xs=>⟨txtR_len n xs,fun h=>txtR_range h⟩
theorem Less.comp {f g:List Int→List Int} (hf:Less f) (hg:Less g):Less (fun xs=>f (g xs)):=fun xs=>⟨Nat.le_trans (hf (g xs)).1 (hg xs).1,fun h=>(hf (g xs)).2 ((hg xs).2 h)⟩
theorem zCH {f:List Int→List Int} (hf:Less f):∀ k,Less (itR f k)
 | 0=>fun _=>⟨Nat.le_refl _,fun h=>h⟩
 | k+1=>hf.comp (zCH hf k)
def wtO (xs:List Int):Wt:=⟨nv 1 xs,nv 2 (tkR 1 xs)⟩
def wtR (xs:List Int):List Int:=tkR 2 (tkR 1 xs)
def wtS (xs:List Int) (sh:Bool):Bool:=tkS 2 (tkR 1 xs) (tkS 1 xs sh)
theorem less_wt:Less wtR:=(zBN 2).comp (zBN 1)
def lk3 (xs:List Int):List Int:=tkR 4 (tkR 2 (tkR 3 (txtR 1 xs)))
def cnt (xs:List Int):Nat:=(nv 1 xs).toNat
def lkO (xs:List Int):Lk:=⟨txtB 1 xs,nv 3 (txtR 1 xs),nv 2 (tkR 3 (txtR 1 xs)) - 1,nv 4 (tkR 2 (tkR 3 (txtR 1 xs))),itL wtR wtO (cnt (lk3 xs)) (tkR 1 (lk3 xs))⟩
def lkR (xs:List Int):List Int:=itR wtR (cnt (lk3 xs)) (tkR 1 (lk3 xs))
def lkS3 (xs:List Int) (sh:Bool):Bool:=tkS 4 (tkR 2 (tkR 3 (txtR 1 xs))) (tkS 2 (tkR 3 (txtR 1 xs)) (tkS 3 (txtR 1 xs) (txtS 1 xs sh)))
def lkS (xs:List Int) (sh:Bool):Bool:=itS wtR wtS (cnt (lk3 xs)) (tkR 1 (lk3 xs)) (tkS 1 (lk3 xs) (lkS3 xs sh))
theorem less_lk3:Less lk3:=(zBN 4).comp ((zBN 2).comp ((zBN 3).comp (less_txt 1)))
theorem less_lk:Less lkR:=fun xs=>((zCH less_wt (cnt (lk3 xs))).comp ((zBN 1).comp less_lk3)) xs
def sn5 (xs:List Int):List Int:=tkR 2 (tkR 3 (tkR 1 (tkR 2 (tkR 1 xs))))
def snO (xs:List Int):Sn:=⟨nv 1 xs,nv 2 (tkR 1 xs),nv 1 (tkR 2 (tkR 1 xs)),nv 3 (tkR 1 (tkR 2 (tkR 1 xs))),nv 2 (tkR 3 (tkR 1 (tkR 2 (tkR 1 xs)))) - 1,nv 4 (sn5 xs)⟩
def snR (xs:List Int):List Int:=tkR 4 (sn5 xs)
def snS (xs:List Int) (sh:Bool):Bool:=tkS 4 (sn5 xs) (tkS 2 (tkR 3 (tkR 1 (tkR 2 (tkR 1 xs)))) (tkS 3 (tkR 1 (tkR 2 (tkR 1 xs))) (tkS 1 (tkR 2 (tkR 1 xs)) (tkS 2 (tkR 1 xs) (tkS 1 xs sh)))))
theorem less_sn:Less snR:=(zBN 4).comp ((zBN 2).comp ((zBN 3).comp ((zBN 1).comp ((zBN 2).comp (zBN 1)))))
structure Lc (w W:World) (p B:Nat) (t:TypeId) (z cs:Array Value) (xs:List Int) (sh:Bool):Prop where
 a:W.heap[w.heap.size]?=some (.cells z t (0,0))
 b:W.heap[w.heap.size+1]?=some (.cells cs t (0,0))
 rd:Rdr B W p xs sh
 gr:w.grownBy W (some p)
 pl:p<w.heap.size∧B≤p
theorem zAN (w:World) (o:Obj):(w.alloc o).heap.size=w.heap.size+1:=by simp
theorem Lc.start {w:World} {p B:Nat} {xs:List Int} {sh:Bool} (h:Rdr B w p xs sh) (hB:B≤p) (t:TypeId) (z:Array Value):Lc w ((w.alloc (.cells z t)).alloc (.cells z t)) p B t z z xs sh:=by
 refine ⟨(Below.heap_alloc _ _ _ (by simp)).trans (zAK _ _ _),?_,rdr_alloc (rdr_alloc h hB _) hB _,zBP (zBP (grown_refl _ _) _) _,h.lt,hB⟩
 have:=zAK (w.alloc (.cells z t)) z t
 rw [zAN] at this
 exact this
theorem Lc.num {w W W':World} {p B:Nat} {t:TypeId} {z cs:Array Value} {xs ys:List Int} {sh sb:Bool} (h:Lc w W p B t z cs xs sh) (r:Rdr B W' p ys sb) (g:W.grownBy W' (some p)):Lc w W' p B t z cs ys sb :=
 ⟨zAv h.a g (by have:=h.pl;omega),zAv h.b g (by have:=h.pl;omega),r,zAk h.gr g,h.pl⟩
theorem Lc.set {w W:World} {p B:Nat} {t:TypeId} {z cs:Array Value} {xs:List Int} {sh:Bool} (h:Lc w W p B t z cs xs sh) (i:Nat) (v:Value):Lc w (W.setCell ⟨w.heap.size+1,i,none⟩ v) p B t z (cs.setIfInBounds i v) xs sh :=
 ⟨(zAB (by omega) i v).trans h.a,zAE h.b i v,rdr_set h.rd (by have:=h.pl;omega) (by have:=h.pl;omega) i v,zAZ h.gr (by omega) i v,h.pl⟩
theorem Lc.far {w W:World} {p B:Nat} {t:TypeId} {z cs:Array Value} {xs:List Int} {sh:Bool} (h:Lc w W p B t z cs xs sh) (q:Nat) (hq:w.heap.size+2≤q) (i:Nat) (v:Value):Lc w (W.setCell ⟨q,i,none⟩ v) p B t z cs xs sh :=
 ⟨(zAB (by omega) i v).trans h.a,(zAB (by omega) i v).trans h.b,rdr_set h.rd (by have:=h.pl;omega) (by have:=h.pl;omega) i v,zAZ h.gr (by omega) i v,h.pl⟩
theorem Lc.alloc {w W:World} {p B:Nat} {t:TypeId} {z cs:Array Value} {xs:List Int} {sh:Bool} (h:Lc w W p B t z cs xs sh) (o:Obj):Lc w (W.alloc o) p B t z cs xs sh :=
 ⟨(Below.heap_alloc _ _ _ (Array.getElem?_eq_some_iff.1 h.a).1).trans h.a,(Below.heap_alloc _ _ _ (Array.getElem?_eq_some_iff.1 h.b).1).trans h.b,rdr_alloc h.rd h.pl.2 o,zBP h.gr o,h.pl⟩
theorem Lc.far0 {w W:World} {p B:Nat} {t:TypeId} {z cs:Array Value} {xs:List Int} {sh:Bool} (h:Lc w W p B t z cs xs sh) (i:Nat) (v:Value):Lc w (W.setCell ⟨w.heap.size,i,none⟩ v) p B t (z.setIfInBounds i v) cs xs sh :=
 ⟨zAE h.a i v,(zAB (by omega) i v).trans h.b,rdr_set h.rd (by have:=h.pl;omega) (by have:=h.pl;omega) i v,zAZ h.gr (Nat.le_refl _) i v,h.pl⟩
theorem Lc.size {w W:World} {p B:Nat} {t:TypeId} {z cs:Array Value} {xs:List Int} {sh:Bool} (h:Lc w W p B t z cs xs sh):w.heap.size+2≤W.heap.size:=by
 have:=(Array.getElem?_eq_some_iff.1 h.b).1
 omega
set_option maxRecDepth 100000 in
set_option maxHeartbeats 3200000 in
theorem takeSeen_any (p B:Nat) (xs:List Int) (sh:Bool) (w:World) (h:Rdr B w p xs sh) (hB:B≤p) (hx:xs.length≤70000) (hr:∀ x ∈ xs,0≤x∧x≤255) :
 Calls Tryz.prog 106 #[.pointer (some ⟨p,0,none⟩)] w fun e w'=>e=.returned (snV (snO xs))∧Rdr B w' p (snR xs) (snS xs sh)∧w.grownBy w' (some p):=by
 have L0:Hid (Lc w ((w.alloc (.cells #[.int .i64 0,.int .i64 0,.int .i64 0,.int .i64 0,.int .i64 0,.int .i64 0] 102)).alloc (.cells #[.int .i64 0,.int .i64 0,.int .i64 0,.int .i64 0,.int .i64 0,.int .i64 0] 102)) p B 102 #[.int .i64 0,.int .i64 0,.int .i64 0,.int .i64 0,.int .i64 0,.int .i64 0] #[.int .i64 0,.int .i64 0,.int .i64 0,.int .i64 0,.int .i64 0,.int .i64 0] xs sh):=Lc.start h hB _ _
 have HR0:Hid (∀ x ∈ xs,0≤x∧x≤255):=hr
 have HX0:Hid (xs.length≤70000):=hx
 clear h hr hx
 go_enter Tryz.func106,Tryz.ntmps106
 go_wp2_with fail
 generalize (w.alloc (.cells #[.int .i64 0,.int .i64 0,.int .i64 0,.int .i64 0,.int .i64 0,.int .i64 0] 102)).alloc (.cells #[.int .i64 0,.int .i64 0,.int .i64 0,.int .i64 0,.int .i64 0,.int .i64 0] 102)=w0 at L0 ⊢
 have N0:=zAg 1 p B xs sh _ L0.out.rd hB (by decide) HX0.out HR0.out
 have nb0:=zBJ (n:=1) HR0.out
 have HR1:Hid (∀ x ∈ (tkR 1 xs),0≤x∧x≤255):=zAh HR0.out
 have HX1:Hid (((tkR 1 xs)).length≤70000):=Nat.le_trans (zAu _ _) HX0.out
 unfold nv at nb0
 obtain ⟨z0,HZ0⟩ : ∃ z,Hid (beN (tkB 1 xs)=z):=⟨_,rfl⟩
 rw [HZ0.out] at N0 nb0
 simp only [show ((256:Int) ^ 1)=256 from rfl] at nb0
 refine N0.mono ?_
 rintro e w1 ⟨rfl,r,g⟩
 have l:=L0.out.num r g
 obtain ⟨c,f⟩:=zAA l.b 0 (x:=.int .i64 0) rfl
 have L1:Hid (Lc w (w1.setCell ⟨w.heap.size+1,0,none⟩ (.int .i64 z0)) p B 102 #[.int .i64 0,.int .i64 0,.int .i64 0,.int .i64 0,.int .i64 0,.int .i64 0] #[.int .i64 z0,.int .i64 0,.int .i64 0,.int .i64 0,.int .i64 0,.int .i64 0] (tkR 1 xs) (tkS 1 xs sh)):=l.set 0 _
 clear l r g L0 N0 HR0 HX0
 go_wp2_with fail
 clear c f nb0
 generalize w1.setCell ⟨w.heap.size+1,0,none⟩ (.int .i64 z0)=w1' at L1 ⊢
 have N1:=zAg 2 p B (tkR 1 xs) (tkS 1 xs sh) _ L1.out.rd hB (by decide) HX1.out HR1.out
 have nb1:=zBJ (n:=2) HR1.out
 have HR2:Hid (∀ x ∈ (tkR 2 (tkR 1 xs)),0≤x∧x≤255):=zAh HR1.out
 have HX2:Hid (((tkR 2 (tkR 1 xs))).length≤70000):=Nat.le_trans (zAu _ _) HX1.out
 unfold nv at nb1
 obtain ⟨z1,HZ1⟩ : ∃ z,Hid (beN (tkB 2 (tkR 1 xs))=z):=⟨_,rfl⟩
 rw [HZ1.out] at N1 nb1
 simp only [show ((256:Int) ^ 2)=65536 from rfl] at nb1
 refine N1.mono ?_
 rintro e w2 ⟨rfl,r,g⟩
 have l:=L1.out.num r g
 obtain ⟨c,f⟩:=zAA l.b 1 (x:=.int .i64 0) rfl
 have L2:Hid (Lc w (w2.setCell ⟨w.heap.size+1,1,none⟩ (.int .i64 z1)) p B 102 #[.int .i64 0,.int .i64 0,.int .i64 0,.int .i64 0,.int .i64 0,.int .i64 0] #[.int .i64 z0,.int .i64 z1,.int .i64 0,.int .i64 0,.int .i64 0,.int .i64 0] (tkR 2 (tkR 1 xs)) (tkS 2 (tkR 1 xs) (tkS 1 xs sh))):=l.set 1 _
 clear l r g L1 N1 HR1 HX1
 go_wp2_with fail
 clear c f nb1
 generalize w2.setCell ⟨w.heap.size+1,1,none⟩ (.int .i64 z1)=w2' at L2 ⊢
 have N2:=zAg 1 p B (tkR 2 (tkR 1 xs)) (tkS 2 (tkR 1 xs) (tkS 1 xs sh)) _ L2.out.rd hB (by decide) HX2.out HR2.out
 have nb2:=zBJ (n:=1) HR2.out
 have HR3:Hid (∀ x ∈ (tkR 1 (tkR 2 (tkR 1 xs))),0≤x∧x≤255):=zAh HR2.out
 have HX3:Hid (((tkR 1 (tkR 2 (tkR 1 xs)))).length≤70000):=Nat.le_trans (zAu _ _) HX2.out
 unfold nv at nb2
 obtain ⟨z2,HZ2⟩ : ∃ z,Hid (beN (tkB 1 (tkR 2 (tkR 1 xs)))=z):=⟨_,rfl⟩
 rw [HZ2.out] at N2 nb2
 simp only [show ((256:Int) ^ 1)=256 from rfl] at nb2
 refine N2.mono ?_
 rintro e w3 ⟨rfl,r,g⟩
 have l:=L2.out.num r g
 obtain ⟨c,f⟩:=zAA l.b 2 (x:=.int .i64 0) rfl
 have L3:Hid (Lc w (w3.setCell ⟨w.heap.size+1,2,none⟩ (.int .i64 z2)) p B 102 #[.int .i64 0,.int .i64 0,.int .i64 0,.int .i64 0,.int .i64 0,.int .i64 0] #[.int .i64 z0,.int .i64 z1,.int .i64 z2,.int .i64 0,.int .i64 0,.int .i64 0] (tkR 1 (tkR 2 (tkR 1 xs))) (tkS 1 (tkR 2 (tkR 1 xs)) (tkS 2 (tkR 1 xs) (tkS 1 xs sh)))):=l.set 2 _
 clear l r g L2 N2 HR2 HX2
 go_wp2_with fail
 clear c f nb2
 generalize w3.setCell ⟨w.heap.size+1,2,none⟩ (.int .i64 z2)=w3' at L3 ⊢
 have N3:=zAg 3 p B (tkR 1 (tkR 2 (tkR 1 xs))) (tkS 1 (tkR 2 (tkR 1 xs)) (tkS 2 (tkR 1 xs) (tkS 1 xs sh))) _ L3.out.rd hB (by decide) HX3.out HR3.out
 have nb3:=zBJ (n:=3) HR3.out
 have HR4:Hid (∀ x ∈ (tkR 3 (tkR 1 (tkR 2 (tkR 1 xs)))),0≤x∧x≤255):=zAh HR3.out
 have HX4:Hid (((tkR 3 (tkR 1 (tkR 2 (tkR 1 xs))))).length≤70000):=Nat.le_trans (zAu _ _) HX3.out
 unfold nv at nb3
 obtain ⟨z3,HZ3⟩ : ∃ z,Hid (beN (tkB 3 (tkR 1 (tkR 2 (tkR 1 xs))))=z):=⟨_,rfl⟩
 rw [HZ3.out] at N3 nb3
 simp only [show ((256:Int) ^ 3)=16777216 from rfl] at nb3
 refine N3.mono ?_
 rintro e w4 ⟨rfl,r,g⟩
 have l:=L3.out.num r g
 obtain ⟨c,f⟩:=zAA l.b 3 (x:=.int .i64 0) rfl
 have L4:Hid (Lc w (w4.setCell ⟨w.heap.size+1,3,none⟩ (.int .i64 z3)) p B 102 #[.int .i64 0,.int .i64 0,.int .i64 0,.int .i64 0,.int .i64 0,.int .i64 0] #[.int .i64 z0,.int .i64 z1,.int .i64 z2,.int .i64 z3,.int .i64 0,.int .i64 0] (tkR 3 (tkR 1 (tkR 2 (tkR 1 xs)))) (tkS 3 (tkR 1 (tkR 2 (tkR 1 xs))) (tkS 1 (tkR 2 (tkR 1 xs)) (tkS 2 (tkR 1 xs) (tkS 1 xs sh))))):=l.set 3 _
 clear l r g L3 N3 HR3 HX3
 go_wp2_with fail
 clear c f nb3
 generalize w4.setCell ⟨w.heap.size+1,3,none⟩ (.int .i64 z3)=w4' at L4 ⊢
 have N4:=zAg 2 p B (tkR 3 (tkR 1 (tkR 2 (tkR 1 xs)))) (tkS 3 (tkR 1 (tkR 2 (tkR 1 xs))) (tkS 1 (tkR 2 (tkR 1 xs)) (tkS 2 (tkR 1 xs) (tkS 1 xs sh)))) _ L4.out.rd hB (by decide) HX4.out HR4.out
 have nb4:=zBJ (n:=2) HR4.out
 have HR5:Hid (∀ x ∈ (tkR 2 (tkR 3 (tkR 1 (tkR 2 (tkR 1 xs))))),0≤x∧x≤255):=zAh HR4.out
 have HX5:Hid (((tkR 2 (tkR 3 (tkR 1 (tkR 2 (tkR 1 xs)))))).length≤70000):=Nat.le_trans (zAu _ _) HX4.out
 unfold nv at nb4
 obtain ⟨z4,HZ4⟩ : ∃ z,Hid (beN (tkB 2 (tkR 3 (tkR 1 (tkR 2 (tkR 1 xs)))))=z):=⟨_,rfl⟩
 rw [HZ4.out] at N4 nb4
 simp only [show ((256:Int) ^ 2)=65536 from rfl] at nb4
 refine N4.mono ?_
 rintro e w5 ⟨rfl,r,g⟩
 have l:=L4.out.num r g
 obtain ⟨c,f⟩:=zAA l.b 4 (x:=.int .i64 0) rfl
 have L5:Hid (Lc w (w5.setCell ⟨w.heap.size+1,4,none⟩ (.int .i64 (z4 - 1))) p B 102 #[.int .i64 0,.int .i64 0,.int .i64 0,.int .i64 0,.int .i64 0,.int .i64 0] #[.int .i64 z0,.int .i64 z1,.int .i64 z2,.int .i64 z3,.int .i64 (z4 - 1),.int .i64 0] (tkR 2 (tkR 3 (tkR 1 (tkR 2 (tkR 1 xs))))) (tkS 2 (tkR 3 (tkR 1 (tkR 2 (tkR 1 xs)))) (tkS 3 (tkR 1 (tkR 2 (tkR 1 xs))) (tkS 1 (tkR 2 (tkR 1 xs)) (tkS 2 (tkR 1 xs) (tkS 1 xs sh)))))):=l.set 4 _
 clear l r g L4 N4 HR4 HX4
 go_wp2_with fail
 clear c f nb4
 generalize w5.setCell ⟨w.heap.size+1,4,none⟩ (.int .i64 (z4 - 1))=w5' at L5 ⊢
 have N5:=zAg 4 p B (tkR 2 (tkR 3 (tkR 1 (tkR 2 (tkR 1 xs))))) (tkS 2 (tkR 3 (tkR 1 (tkR 2 (tkR 1 xs)))) (tkS 3 (tkR 1 (tkR 2 (tkR 1 xs))) (tkS 1 (tkR 2 (tkR 1 xs)) (tkS 2 (tkR 1 xs) (tkS 1 xs sh))))) _ L5.out.rd hB (by decide) HX5.out HR5.out
 have nb5:=zBJ (n:=4) HR5.out
 have HR6:Hid (∀ x ∈ (tkR 4 (tkR 2 (tkR 3 (tkR 1 (tkR 2 (tkR 1 xs)))))),0≤x∧x≤255):=zAh HR5.out
 have HX6:Hid (((tkR 4 (tkR 2 (tkR 3 (tkR 1 (tkR 2 (tkR 1 xs))))))).length≤70000):=Nat.le_trans (zAu _ _) HX5.out
 unfold nv at nb5
 obtain ⟨z5,HZ5⟩ : ∃ z,Hid (beN (tkB 4 (tkR 2 (tkR 3 (tkR 1 (tkR 2 (tkR 1 xs))))))=z):=⟨_,rfl⟩
 rw [HZ5.out] at N5 nb5
 simp only [show ((256:Int) ^ 4)=4294967296 from rfl] at nb5
 refine N5.mono ?_
 rintro e w6 ⟨rfl,r,g⟩
 have l:=L5.out.num r g
 obtain ⟨c,f⟩:=zAA l.b 5 (x:=.int .i64 0) rfl
 have L6:Hid (Lc w (w6.setCell ⟨w.heap.size+1,5,none⟩ (.int .i64 z5)) p B 102 #[.int .i64 0,.int .i64 0,.int .i64 0,.int .i64 0,.int .i64 0,.int .i64 0] #[.int .i64 z0,.int .i64 z1,.int .i64 z2,.int .i64 z3,.int .i64 (z4 - 1),.int .i64 z5] (tkR 4 (tkR 2 (tkR 3 (tkR 1 (tkR 2 (tkR 1 xs)))))) (tkS 4 (tkR 2 (tkR 3 (tkR 1 (tkR 2 (tkR 1 xs))))) (tkS 2 (tkR 3 (tkR 1 (tkR 2 (tkR 1 xs)))) (tkS 3 (tkR 1 (tkR 2 (tkR 1 xs))) (tkS 1 (tkR 2 (tkR 1 xs)) (tkS 2 (tkR 1 xs) (tkS 1 xs sh))))))):=l.set 5 _
 clear l r g L5 N5 HR5 HX5
 go_upto_region 8 with fail
 clear c f nb5
 generalize w6.setCell ⟨w.heap.size+1,5,none⟩ (.int .i64 z5)=w6' at L6 ⊢
 have HE:Hid (snV (snO xs)=.agg #[.int .i64 z0,.int .i64 z1,.int .i64 z2,.int .i64 z3,.int .i64 (z4 - 1),.int .i64 z5]):=by
  show _=_
  unfold snV snO nv sn5
  rw [HZ0.out,HZ1.out,HZ2.out,HZ3.out,HZ4.out,HZ5.out]
 obtain ⟨ca0,fa0⟩:=zAA L6.out.a 0 (x:=.int .i64 0) rfl
 have cb0:=(zAA L6.out.b 0 (x:=.int .i64 z0) rfl).1
 obtain ⟨ca1,fa1⟩:=zAA L6.out.a 1 (x:=.int .i64 0) rfl
 have cb1:=(zAA L6.out.b 1 (x:=.int .i64 z1) rfl).1
 obtain ⟨ca2,fa2⟩:=zAA L6.out.a 2 (x:=.int .i64 0) rfl
 have cb2:=(zAA L6.out.b 2 (x:=.int .i64 z2) rfl).1
 obtain ⟨ca3,fa3⟩:=zAA L6.out.a 3 (x:=.int .i64 0) rfl
 have cb3:=(zAA L6.out.b 3 (x:=.int .i64 z3) rfl).1
 obtain ⟨ca4,fa4⟩:=zAA L6.out.a 4 (x:=.int .i64 0) rfl
 have cb4:=(zAA L6.out.b 4 (x:=.int .i64 (z4 - 1)) rfl).1
 obtain ⟨ca5,fa5⟩:=zAA L6.out.a 5 (x:=.int .i64 0) rfl
 have cb5:=(zAA L6.out.b 5 (x:=.int .i64 z5) rfl).1
 have LF:Hid (Lc w ((((((w6'.setCell ⟨w.heap.size,0,none⟩ (.int .i64 z0)).setCell ⟨w.heap.size,1,none⟩ (.int .i64 z1)).setCell ⟨w.heap.size,2,none⟩ (.int .i64 z2)).setCell ⟨w.heap.size,3,none⟩ (.int .i64 z3)).setCell ⟨w.heap.size,4,none⟩ (.int .i64 (z4 - 1))).setCell ⟨w.heap.size,5,none⟩ (.int .i64 z5)) p B 102 #[.int .i64 z0,.int .i64 z1,.int .i64 z2,.int .i64 z3,.int .i64 (z4 - 1),.int .i64 z5] #[.int .i64 z0,.int .i64 z1,.int .i64 z2,.int .i64 z3,.int .i64 (z4 - 1),.int .i64 z5] (tkR 4 (tkR 2 (tkR 3 (tkR 1 (tkR 2 (tkR 1 xs)))))) (tkS 4 (tkR 2 (tkR 3 (tkR 1 (tkR 2 (tkR 1 xs))))) (tkS 2 (tkR 3 (tkR 1 (tkR 2 (tkR 1 xs)))) (tkS 3 (tkR 1 (tkR 2 (tkR 1 xs))) (tkS 1 (tkR 2 (tkR 1 xs)) (tkS 2 (tkR 1 xs) (tkS 1 xs sh))))))):=L6.out.far0 0 _ |>.far0 1 _ |>.far0 2 _ |>.far0 3 _ |>.far0 4 _ |>.far0 5 _
 clear L6 HR6 HX6
 go_wp2_with fail
 generalize ((((((w6'.setCell ⟨w.heap.size,0,none⟩ (.int .i64 z0)).setCell ⟨w.heap.size,1,none⟩ (.int .i64 z1)).setCell ⟨w.heap.size,2,none⟩ (.int .i64 z2)).setCell ⟨w.heap.size,3,none⟩ (.int .i64 z3)).setCell ⟨w.heap.size,4,none⟩ (.int .i64 (z4 - 1))).setCell ⟨w.heap.size,5,none⟩ (.int .i64 z5))=wf at LF ⊢
 have d0:=(zAA LF.out.a 0 (x:=.int .i64 z0) rfl).1
 have d1:=(zAA LF.out.a 1 (x:=.int .i64 z1) rfl).1
 have d2:=(zAA LF.out.a 2 (x:=.int .i64 z2) rfl).1
 have d3:=(zAA LF.out.a 3 (x:=.int .i64 z3) rfl).1
 have d4:=(zAA LF.out.a 4 (x:=.int .i64 (z4 - 1)) rfl).1
 have d5:=(zAA LF.out.a 5 (x:=.int .i64 z5) rfl).1
 exact bodyPost_ret (v:=.agg #[.int .i64 z0,.int .i64 z1,.int .i64 z2,.int .i64 z3,.int .i64 (z4 - 1),.int .i64 z5]) (by simp [results,Tryz.results106,go_sem,d0,d1,d2,d3,d4,d5]) rfl ⟨by rw [HE.out],LF.out.rd,LF.out.gr⟩
end Go.Proofs.YtakfniknkejgpaaGreatDoor.Ur
