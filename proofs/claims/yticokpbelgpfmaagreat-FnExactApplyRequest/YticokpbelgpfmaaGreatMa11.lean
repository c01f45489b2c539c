/- Texts put together: Jf, Jg, Jc. -/
import Derived.Test.YticokpbelgpfmaaGreatMa10
namespace Go.Proofs.YticokpbelgpfmaaGreat.Jf
open Go.RowKit By Ap Tb Tw Mw Wa Bk Tp Da Ja Jb
open Lo (LkA uV clL OwnL zAG zAK Apart zAP list_lk infoL OwnL.below OwnL.slice)
open Tx (zAA zAC zAE zAJ zAD)
open Je
theorem cells_of {w:World} {B:Nat} {e:TypeId} {v:Value} {n:Nat} {xs:List Value} (h:w.ownsRow B e 1 v n xs):∃ a cap,v=.slice a n cap∧(n=0 ∨ ∃ g,a=some ⟨g,0,none⟩∧B≤g∧g<w.heap.size∧n≤cap∧∀ i u,xs[i]?=some u→w.cell? ⟨g,i,none⟩=some u):=by
 obtain ⟨hl,⟨rfl,h0⟩ | ⟨g,cap,cur,rfl,hB,hg,hc,_,hs,htk⟩⟩:=h
 ·exact ⟨none,0,by rw [h0],.inl h0⟩
 ·refine ⟨_,cap,rfl,.inr ⟨g,rfl,hB,(Array.getElem?_eq_some_iff.1 hg).1,hc,fun i u hi=>?_⟩⟩
  rw [← htk,List.getElem?_take] at hi
  split at hi
  ·rw [Joins.cell_of_block hg i];simpa using hi
  ·cases hi
theorem bytes_back (n:ByteArray):(⟨n.data.toList.toArray⟩ : ByteArray)=n:=by cases n;simp
theorem rowS1 (w:World) (x:Sn):RowS (w.alloc (.cells #[.int .i64 x.c,.int .i64 x.s,.int .i64 x.k,.int .i64 x.t,.int .i64 x.h,.int .i64 x.e] 116)) (.slice (some ⟨w.heap.size,0,none⟩) 1 1) [x]:=by
 have hb:=zAJ w #[.int .i64 x.c,.int .i64 x.s,.int .i64 x.k,.int .i64 x.t,.int .i64 x.h,.int .i64 x.e] 116
 refine ⟨_,1,rfl,.inr ⟨w.heap.size,0,rfl,Nat.le_refl _,by simp,fun i y hi=>?_⟩⟩
 obtain rfl:i=0:=by have:=(List.getElem?_eq_some_iff.1 hi).1;simp at this;exact this
 cases hi
 exact ⟨(zAA hb 0 rfl).1,(zAA hb 1 rfl).1,(zAA hb 2 rfl).1,(zAA hb 3 rfl).1,(zAA hb 4 rfl).1,(zAA hb 5 rfl).1⟩
set_option maxRecDepth 100000 in
set_option maxHeartbeats 1600000 in
theorem inOrderL_any (b:Nat) (w:World) (ps:List LkA) (hm:MapL w b ps.length (mL ps)) (hn:NmA (ps.map (·.1))) (hs:∀ p ∈ ps,p.1.n.size≤1000000) (hl:ps.length≤1000) :
 Calls Tryz.prog 94 #[.map (some b)] w fun e w'=>∃ v,e=.returned v∧OwnL w' w.heap.size v ps∧Below w.heap.size w w':=by
 obtain ⟨i0,hi0,hz0,hz1,hz2⟩:=info_parts infoL
 have HM:Hid (MapL w b ps.length (mL ps)∧NmA (ps.map (·.1))∧∀ p ∈ ps,p.1.n.size≤1000000):=⟨hm,hn,hs⟩
 have HK:Hid (∀ W,Calls Tryz.prog 125 #[.map (some b)] W fun e w'=>e=.returned (.func (.func 151) #[] #[.pointer (some ⟨W.heap.size,0,none⟩)])∧w'=W.alloc (.cells #[.map (some b)] 106)):=fun W=>keysL_any (some b) W
 have HSO:Hid (Calls Tryz.prog 124 #[.func (.func 151) #[] #[.pointer (some ⟨w.heap.size,0,none⟩)]] (w.alloc (.cells #[.map (some b)] 106)) fun e w'=>∃ a cap,e=.returned (.slice a ps.length cap)∧(ps.length=0 ∨ ∃ g,a=some ⟨g,0,none⟩∧g<w'.heap.size∧ps.length≤cap∧∀ (i:Nat) x,ps[i]?=some x→w'.cell? ⟨g,i,none⟩=some (.string x.1.n))∧Below w.heap.size w w'):=by
  refine (sortedL_any b ps.length (mL ps) w hm (by rw [show Maps.size (mL ps)=ps.length from zAe ps];unfold maxLen;omega) (by rw [show Maps.size (mL ps)=ps.length from zAe ps];omega)).mono ?_
  rintro e w' ⟨v,ks,rfl,hS,hrow,hb⟩
  have hE:=sort_L hn hS
  have hln:ks.length=ps.length:=by rw [← List.length_mergeSort ks,hE,List.length_map]
  rw [hE,hln] at hrow
  obtain ⟨a,cap,rfl,h⟩:=cells_of hrow
  refine ⟨a,cap,rfl,h.imp id ?_,((Below.refl _ w).alloc (Nat.le_refl _) _).trans (hb.mono (Nat.le_succ _))⟩
  rintro ⟨g,h1,_,h2,h3,h4⟩
  exact ⟨g,h1,h2,h3,fun i x hx=>h4 i _ (by rw [List.getElem?_map,List.getElem?_map,hx];show some (Value.string ⟨x.1.n.data.toList.toArray⟩)=_;rw [bytes_back])⟩
 clear hm hn hs
 go_enter Tryz.func94,Tryz.ntmps94
 go_upto_region 3 with (first | (go_at_call 125;refine (HK.out _).mono ?_;rintro e w' ⟨rfl,rfl⟩) | (go_at_call 124;refine HSO.out.mono ?_;rintro e w2 ⟨a,cap,rfl,h2,b2⟩;have H2:Hid ((ps.length=0 ∨ ∃ g,a=some ⟨g,0,none⟩∧g<w2.heap.size∧ps.length≤cap∧∀ (i:Nat) x,ps[i]?=some x→w2.cell? ⟨g,i,none⟩=some (.string x.1.n))∧Below w.heap.size w w2):=⟨h2,b2⟩;clear h2 b2))
 have HW:Hid (w.heap.size≤w2.heap.size∧b<w.heap.size):=⟨H2.out.2.size,HM.out.1.lt⟩
 clear HK HSO
 go_loopw [3,10] (fun l i wr=>∃ k:Nat,k≤ps.length∧i=.int .i64 k∧Hid (OwnL wr w2.heap.size l (ps.take k)∧Below w2.heap.size w2 wr)) (fun _ i _=>ps.length - (intOf i).toNat)
 case atStart=>exact ⟨0,by omega,rfl,World.ownsRow_nil _ _ _ _,Below.refl _ _⟩
 case round =>
  obtain ⟨k,hk,rfl,HO⟩:=hrel
  by_cases hlt:k<ps.length
  ·obtain ⟨x,hx⟩:=Tw.get_at hlt
   obtain ⟨g,rfl,hg,hcap,hcell⟩:=H2.out.1.resolve_left (by omega)
   have hc:=(HO.out.2.cell (p:=⟨g,k,none⟩) hg).trans (hcell k x hx)
   have hlk:(Instr.lookup 106 (.map (some b)) (.string x.1.n) false).run Tryz.prog wr=.ok (.agg #[.string x.1.n,.int .i64 x.1.t,.int .i64 x.1.h,.int .i64 x.1.e,.slice x.2.1 x.1.ws.length x.2.2]) wr:=lookL (zAR HM.out.1 (((H2.out.2.trans (HO.out.2.mono HW.out.1)).block b HW.out.2))) HM.out.2.1 (List.mem_of_getElem? hx) (HM.out.2.2 x (List.mem_of_getElem? hx))
   have HX:Hid (ps[k]?=some x):=hx
   clear hcell hx
   go_wp2_with (at_builtin;go_must (refine list_lk (by rfl) _ _ 27 (by rfl) i0 Tryz.underlying27 hi0 hz0 hz1 hz2 w2.heap.size w2 wr u3 (ps.take k) x (by rfl) HO.out.1 HO.out.2 HO.out.2.size wr.heap.size (by rfl) rfl (by rw [List.length_take];omega) ?_;intro v5 w5 o5 b5 _;have H5:Hid (OwnL w5 w2.heap.size v5 (ps.take k ++ [x])∧Below w2.heap.size w2 w5):=⟨o5,b5⟩;clear o5 b5 hlk hc))
   exact ⟨⟨k+1,by omega,by go_num,by rw [take_at HX.out];exact H5.out⟩,by simp [intOf];omega⟩
  ·obtain rfl:k=ps.length:=by omega
   have HE:Hid (OwnL wr w.heap.size _ ps∧Below w.heap.size w wr):=⟨by have:=HO.out.1;rw [List.take_length] at this;exact this.mono HW.out.1,H2.out.2.trans (HO.out.2.mono HW.out.1)⟩
   clear HO
   go_wp2_with fail
   go_ret
   exact ⟨_,rfl,HE.out⟩
set_option maxRecDepth 100000 in
set_option maxHeartbeats 1600000 in
theorem inOrderS_any (b:Nat) (w:World) (ss:List Sn) (hm:MapS w b ss.length (mS ss)) (hn:ClA ss) (hs:∀ s ∈ ss,0≤s.c∧s.c≤255) (hl:ss.length≤1000) :
 Calls Tryz.prog 95 #[.map (some b)] w fun e w'=>∃ v,e=.returned v∧OwnS w' w.heap.size v ss∧Below w.heap.size w w':=by
 obtain ⟨i0,hi0,hz0,hz1,hz2⟩:=info_parts infoS
 have HM:Hid (MapS w b ss.length (mS ss)∧ClA ss∧∀ s ∈ ss,0≤s.c∧s.c≤255):=⟨hm,hn,hs⟩
 have HK:Hid (∀ W,Calls Tryz.prog 127 #[.map (some b)] W fun e w'=>e=.returned (.func (.func 154) #[] #[.pointer (some ⟨W.heap.size,0,none⟩)])∧w'=W.alloc (.cells #[.map (some b)] 107)):=fun W=>keysS_any (some b) W
 have HSO:Hid (Calls Tryz.prog 126 #[.func (.func 154) #[] #[.pointer (some ⟨w.heap.size,0,none⟩)]] (w.alloc (.cells #[.map (some b)] 107)) fun e w'=>∃ a cap,e=.returned (.slice a ss.length cap)∧(ss.length=0 ∨ ∃ g,a=some ⟨g,0,none⟩∧g<w'.heap.size∧ss.length≤cap∧∀ (i:Nat) x,ss[i]?=some x→w'.cell? ⟨g,i,none⟩=some (.int .i64 x.c))∧Below w.heap.size w w'):=by
  refine (sortedS_any b ss.length (mS ss) w hm (by rw [show Maps.size (mS ss)=ss.length from zAe ss];unfold maxLen;omega) (by rw [show Maps.size (mS ss)=ss.length from zAe ss];omega)).mono ?_
  rintro e w' ⟨v,ks,rfl,hS,hrow,hb⟩
  have hE:=sort_S hn hS
  have hln:ks.length=ss.length:=by rw [← List.length_mergeSort ks,hE,List.length_map]
  rw [hE,hln] at hrow
  obtain ⟨a,cap,rfl,h⟩:=cells_of hrow
  refine ⟨a,cap,rfl,h.imp id ?_,((Below.refl _ w).alloc (Nat.le_refl _) _).trans (hb.mono (Nat.le_succ _))⟩
  rintro ⟨g,h1,_,h2,h3,h4⟩
  exact ⟨g,h1,h2,h3,fun i x hx=>h4 i _ (by rw [List.getElem?_map,List.getElem?_map,hx];rfl)⟩
 clear hm hn hs
 go_enter Tryz.func95,Tryz.ntmps95
 go_upto_region 3 with (first | (go_at_call 127;refine (HK.out _).mono ?_;rintro e w' ⟨rfl,rfl⟩) | (go_at_call 126;refine HSO.out.mono ?_;rintro e w2 ⟨a,cap,rfl,h2,b2⟩;have H2:Hid ((ss.length=0 ∨ ∃ g,a=some ⟨g,0,none⟩∧g<w2.heap.size∧ss.length≤cap∧∀ (i:Nat) x,ss[i]?=some x→w2.cell? ⟨g,i,none⟩=some (.int .i64 x.c))∧Below w.heap.size w w2):=⟨h2,b2⟩;clear h2 b2))
 have HW:Hid (w.heap.size≤w2.heap.size∧b<w.heap.size):=⟨H2.out.2.size,HM.out.1.lt⟩
 clear HK HSO
 go_loopw [3,10] (fun l i wr=>∃ k:Nat,k≤ss.length∧i=.int .i64 k∧Hid (OwnS wr w2.heap.size l (ss.take k)∧Below w2.heap.size w2 wr)) (fun _ i _=>ss.length - (intOf i).toNat)
 case atStart=>exact ⟨0,by omega,rfl,World.ownsRow_nil _ _ _ _,Below.refl _ _⟩
 case round =>
  obtain ⟨k,hk,rfl,HO⟩:=hrel
  by_cases hlt:k<ss.length
  ·obtain ⟨x,hx⟩:=Tw.get_at hlt
   obtain ⟨g,rfl,hg,hcap,hcell⟩:=H2.out.1.resolve_left (by omega)
   have hc:=(HO.out.2.cell (p:=⟨g,k,none⟩) hg).trans (hcell k x hx)
   have hlk:(Instr.lookup 107 (.map (some b)) (.int .i64 x.c) false).run Tryz.prog wr=.ok (.agg #[.int .i64 x.c,.int .i64 x.s,.int .i64 x.k,.int .i64 x.t,.int .i64 x.h,.int .i64 x.e]) wr:=lookS (zAR HM.out.1 (((H2.out.2.trans (HO.out.2.mono HW.out.1)).block b HW.out.2))) HM.out.2.1 (List.mem_of_getElem? hx) (HM.out.2.2 x (List.mem_of_getElem? hx))
   have HX:Hid (ss[k]?=some x):=hx
   clear hcell hx
   go_wp2_with (at_builtin;go_must (refine appS (by rfl) _ _ 28 (by rfl) i0 Tryz.underlying28 hi0 hz0 hz1 hz2 w2.heap.size w2 (wr.alloc (.cells #[.int .i64 x.c,.int .i64 x.s,.int .i64 x.k,.int .i64 x.t,.int .i64 x.h,.int .i64 x.e] 116)) u3 (.slice (some ⟨wr.heap.size,0,none⟩) 1 1) (ss.take k) [x] (by rfl) (HO.out.1.alloc _) (HO.out.2.alloc HO.out.2.size _) (by rw [Bk.zAL];have:=HO.out.2.size;omega) (by rfl) (rowS1 wr x) (by rw [List.length_take];simp;omega) ?_;intro v5 w5 o5 b5 _;have H5:Hid (OwnS w5 w2.heap.size v5 (ss.take k ++ [x])∧Below w2.heap.size w2 w5):=⟨o5,b5⟩;clear o5 b5 hlk hc))
   exact ⟨⟨k+1,by omega,by go_num,by rw [take_at HX.out];exact H5.out⟩,by simp [intOf];omega⟩
  ·obtain rfl:k=ss.length:=by omega
   have HE:Hid (OwnS wr w.heap.size _ ss∧Below w.heap.size w wr):=⟨by have:=HO.out.1;rw [List.take_length] at this;exact this.mono HW.out.1,H2.out.2.trans (HO.out.2.mono HW.out.1)⟩
   clear HO
   go_wp2_with fail
   go_ret
   exact ⟨_,rfl,HE.out⟩
end Go.Proofs.YticokpbelgpfmaaGreat.Jf
namespace Go.Proofs.YticokpbelgpfmaaGreat.Jg
open Go.RowKit By Ap Tb Tw Mw Wa Bk Tp Da Ja Jb
open Lo (LkA uV clL OwnL zAG zAK Apart zAP)
open Tx (zAA zAC zAE zAJ zAD)
open Je Jf
def ApV (ps:List (Lk × Value)):Prop:=∀ (i j:Nat) (x y:Lk × Value),ps[i]?=some x→ps[j]?=some y→i ≠ j→∀ g,x.2.ownBlock=some g→y.2.ownBlock ≠ some g
theorem ApV.push {ps:List (Lk × Value)} (h:ApV ps) {q:Lk × Value} (hn:∀ z ∈ ps,∀ g,q.2.ownBlock=some g→z.2.ownBlock ≠ some g):ApV (ps ++ [q]):=by
 intro i j x y hx hy hij g hg hyg
 have key:∀ (k:Nat) (z:Lk × Value),(ps ++ [q])[k]?=some z→(k<ps.length∧ps[k]?=some z) ∨ (k=ps.length∧z=q):=fun k z hz=>by
  rw [List.getElem?_append] at hz
  split at hz
  ·rename_i hk;exact .inl ⟨hk,hz⟩
  ·right
   have:=(List.getElem?_eq_some_iff.1 hz).1
   simp at this
   have hk:k=ps.length:=by omega
   subst hk
   simp at hz
   exact ⟨rfl,hz.symm⟩
 rcases key i x hx with ⟨h1,h2⟩ | ⟨h1,rfl⟩ <;> rcases key j y hy with ⟨h3,h4⟩ | ⟨h3,rfl⟩
 ·exact h i j x y h2 h4 hij g hg hyg
 ·exact hn x (List.mem_of_getElem? h2) g hyg hg
 ·exact hn y (List.mem_of_getElem? h4) g hg hyg
 ·omega
structure Oq (w wr:World) (tm nx:Int) (vl vs:Value) (b bL bS p:Nat) (ps:List (Lk × Value)) (qs:List Sn):Prop where
 hb:wr.heap[b]?=some (.cells #[.int .i64 tm,.int .i64 nx,vl,vs] 30 (0,0))
 hp:wr.heap[p]?=some (.cells #[.int .i64 tm,.int .i64 nx,.map (some bL),.map (some bS)] 109 (0,0))
 ml:MapL wr bL ps.length (dL ps)
 ms:MapS wr bS qs.length (dS qs)
 ow:∀ q ∈ ps,OwnW wr (p+1) q.2 q.1.ws
 bel:Below w.heap.size w wr
 ap:ApV ps
 lt:w.heap.size≤b∧b<p∧w.heap.size≤bL∧bL<p∧w.heap.size≤bS∧bS<p∧bL ≠ bS∧b ≠ bL∧b ≠ bS
theorem Oq.pl {w wr:World} {tm nx:Int} {vl vs:Value} {b bL bS p:Nat} {ps:List (Lk × Value)} {qs:List Sn} (h:Oq w wr tm nx vl vs b bL bS p ps qs):p<wr.heap.size:=(Array.getElem?_eq_some_iff.1 h.hp).1
theorem Oq.up {w wr w':World} {tm nx:Int} {vl vs:Value} {b bL bS p:Nat} {ps:List (Lk × Value)} {qs:List Sn} (h:Oq w wr tm nx vl vs b bL bS p ps qs) (hg:Below wr.heap.size wr w'):Oq w w' tm nx vl vs b bL bS p ps qs:=by
 have hl:=h.lt
 have hpl:=h.pl
 exact ⟨(hg.block b (by omega)).trans h.hb,(hg.block p hpl).trans h.hp,zAR h.ml (hg.block bL (by omega)),zAR h.ms (hg.block bS (by omega)),fun q hq=>(h.ow q hq).below hg,h.bel.trans (hg.mono h.bel.size),h.ap,hl⟩
theorem Oq.far {w wr:World} {tm nx:Int} {vl vs:Value} {b bL bS p:Nat} {ps:List (Lk × Value)} {qs:List Sn} (h:Oq w wr tm nx vl vs b bL bS p ps qs) (y:Nat) (hy:p<y) (hn:∀ q ∈ ps,some y ≠ q.2.ownBlock) (i:Nat) (x:Value):Oq w (wr.setCell ⟨y,i,none⟩ x) tm nx vl vs b bL bS p ps qs:=by
 have hl:=h.lt
 exact ⟨(zAE (by omega) i x).trans h.hb,(zAE (by omega) i x).trans h.hp,zAR h.ml (zAE (by omega) i x),zAR h.ms (zAE (by omega) i x),fun q hq=>(h.ow q hq).kept (fun g hg=>zAE (fun e=>hn q hq (by rw [hg,e])) i x),Below.setCell h.bel (p:=⟨y,i,none⟩) (by show w.heap.size≤y;omega) x,h.ap,hl⟩
theorem Oq.putL {w wr w':World} {tm nx:Int} {vl vs:Value} {b bL bS p:Nat} {ps:List (Lk × Value)} {qs:List Sn} (h:Oq w wr tm nx vl vs b bL bS p ps qs) (q:Lk × Value) (hq:OwnW wr (p+1) q.2 q.1.ws) (hn:∀ z ∈ ps,∀ g,q.2.ownBlock=some g→z.2.ownBlock ≠ some g) (hm:MapL w' bL (ps.length+1) ((dL ps).put (kS q.1.n) (.held (lkV q.1 q.2)))) (hg:wr.grownBy w' (some bL)):Oq w w' tm nx vl vs b bL bS p (ps ++ [q]) qs:=by
 have hl:=h.lt
 have hpl:=h.pl
 have k:∀ j,j<wr.heap.size→j ≠ bL→w'.heap[j]?=wr.heap[j]?:=fun j hj hne=>hg.block j hj (by simp;exact hne)
 refine ⟨(k b (by omega) hl.2.2.2.2.2.2.2.1).trans h.hb,(k p hpl (by omega)).trans h.hp,by rw [List.length_append,dL_snoc];exact hm,zAR h.ms (k bS (by omega) (fun e=>hl.2.2.2.2.2.2.1 e.symm)),fun z hz=>?_,⟨hg.os.trans h.bel.os,hg.tape.trans h.bel.tape,hg.output.trans h.bel.output,Nat.le_trans h.bel.size hg.size,fun j hj=>(k j (Nat.lt_of_lt_of_le hj h.bel.size) (by omega)).trans (h.bel.block j hj)⟩,h.ap.push hn,hl⟩
 have up:∀ (u:Value) (ws:List Wt),OwnW wr (p+1) u ws→OwnW w' (p+1) u ws:=fun u ws hu=>hu.kept (fun g hg'=>k g (hu.lt g hg').2 (by have:=(hu.lt g hg').1;omega))
 rcases List.mem_append.1 hz with hz | hz
 ·exact up _ _ (h.ow z hz)
 ·simp at hz;subst hz;exact up _ _ hq
theorem Oq.putS {w wr w':World} {tm nx:Int} {vl vs:Value} {b bL bS p:Nat} {ps:List (Lk × Value)} {qs:List Sn} (h:Oq w wr tm nx vl vs b bL bS p ps qs) (s:Sn) (hm:MapS w' bS (qs.length+1) ((dS qs).put (kI s.c) (.held (snV s)))) (hg:wr.grownBy w' (some bS)):Oq w w' tm nx vl vs b bL bS p ps (qs ++ [s]):=by
 have hl:=h.lt
 have hpl:=h.pl
 have k:∀ j,j<wr.heap.size→j ≠ bS→w'.heap[j]?=wr.heap[j]?:=fun j hj hne=>hg.block j hj (by simp;exact hne)
 exact ⟨(k b (by omega) hl.2.2.2.2.2.2.2.2).trans h.hb,(k p hpl (by omega)).trans h.hp,zAR h.ml (k bL (by omega) hl.2.2.2.2.2.2.1),by rw [List.length_append,dS_snoc];exact hm,fun q hq=>(h.ow q hq).kept (fun g hg'=>k g ((h.ow q hq).lt g hg').2 (by have:=((h.ow q hq).lt g hg').1;omega)),⟨hg.os.trans h.bel.os,hg.tape.trans h.bel.tape,hg.output.trans h.bel.output,Nat.le_trans h.bel.size hg.size,fun j hj=>(k j (Nat.lt_of_lt_of_le hj h.bel.size) (by omega)).trans (h.bel.block j hj)⟩,h.ap,hl⟩
set_option maxRecDepth 100000 in
set_option maxHeartbeats 1600000 in
theorem openBook_ap (tm nx:Int) (vl vs:Value) (ls:List Lk) (ss:List Sn) (w:World) (hl:RowL w vl ls) (hs:RowS w vs ss) (hw:∀ x ∈ ls,x.n.size≤1048576∧x.ws.length≤1000) (hc:∀ s ∈ ss,0≤s.c∧s.c≤255) (hy1:ls.length≤1000) (hy2:ss.length≤1000) :
 Calls Tryz.prog 65 #[tabV tm nx vl vs] w fun e w'=>∃ b bL bS p ps,e=.returned (.pointer (some ⟨p,0,none⟩))∧Oq w w' tm nx vl vs b bL bS p ps ss∧ps.map (·.1)=ls:=by
 obtain ⟨la,lc,rfl⟩:=RowG.slice hl
 obtain ⟨sa,sc,rfl⟩:=RowG.slice hs
 obtain ⟨i0,hi0,hz0,hz1,hz2⟩:=info_parts infoW
 have HLS:Hid (RowL w (.slice la ls.length lc) ls∧RowS w (.slice sa ss.length sc) ss):=⟨hl,hs⟩
 have HW:Hid (∀ x ∈ ls,x.n.size≤1048576∧x.ws.length≤1000):=hw
 have HC:Hid (∀ s ∈ ss,0≤s.c∧s.c≤255):=hc
 clear hl hs hw hc
 have O0:Hid (Oq w ((((w.alloc (.cells #[.int .i64 tm,.int .i64 nx,.slice la ls.length lc,.slice sa ss.length sc] 30)).alloc (.map #[] 0)).alloc (.map #[] 0)).alloc (.cells #[.int .i64 tm,.int .i64 nx,.map (some (w.heap.size+1)),.map (some (w.heap.size+1+1))] 109)) tm nx (.slice la ls.length lc) (.slice sa ss.length sc) w.heap.size (w.heap.size+1) (w.heap.size+1+1) (w.heap.size+1+1+1) [] []):=by
  have k1:(w.alloc (.cells #[.int .i64 tm,.int .i64 nx,.slice la ls.length lc,.slice sa ss.length sc] 30)).heap.size=w.heap.size+1:=zAL _ _
  have k2:((w.alloc (.cells #[.int .i64 tm,.int .i64 nx,.slice la ls.length lc,.slice sa ss.length sc] 30)).alloc (.map #[] 0)).heap.size=w.heap.size+1+1:=by rw [zAL,k1]
  have k3:(((w.alloc (.cells #[.int .i64 tm,.int .i64 nx,.slice la ls.length lc,.slice sa ss.length sc] 30)).alloc (.map #[] 0)).alloc (.map #[] 0)).heap.size=w.heap.size+1+1+1:=by rw [zAL,k2]
  have m1:=World.ownsMap_made (w.alloc (.cells #[.int .i64 tm,.int .i64 nx,.slice la ls.length lc,.slice sa ss.length sc] 30)) Tryz.prog 9 RV
  have m2:=World.ownsMap_made ((w.alloc (.cells #[.int .i64 tm,.int .i64 nx,.slice la ls.length lc,.slice sa ss.length sc] 30)).alloc (.map #[] 0)) Tryz.prog 3 RV
  have h4:=zAJ (((w.alloc (.cells #[.int .i64 tm,.int .i64 nx,.slice la ls.length lc,.slice sa ss.length sc] 30)).alloc (.map #[] 0)).alloc (.map #[] 0)) #[.int .i64 tm,.int .i64 nx,.map (some (w.heap.size+1)),.map (some (w.heap.size+1+1))] 109
  rw [k1] at m1
  rw [k2] at m2
  rw [k3] at h4
  refine ⟨?_,h4,(m1.alloc _).alloc _,m2.alloc _,fun q hq=>(by cases hq),?_,fun i j x y hx=>(by simp at hx),⟨by omega,by omega,by omega,by omega,by omega,by omega,by omega,by omega,by omega⟩⟩
  ·exact ((Below.heap_alloc _ _ _ (by rw [k3];omega)).trans ((Below.heap_alloc _ _ _ (by rw [k2];omega)).trans (Below.heap_alloc _ _ _ (by rw [k1];omega)))).trans (zAJ _ _ _)
  ·exact (((zAD w _).alloc (by rw [k1];omega) _).alloc (by rw [k2];omega) _).alloc (by rw [k3];omega) _
 have mk1:=fun W=>run_makeMap (P:=Tryz.prog) 106 W
 have mk2:=fun W=>run_makeMap (P:=Tryz.prog) 107 W
 unfold tabV
 go_enter Tryz.func65,Tryz.ntmps65
 go_upto_region 2 with fail
 generalize (((w.alloc (.cells #[.int .i64 tm,.int .i64 nx,.slice la ls.length lc,.slice sa ss.length sc] 30)).alloc (.map #[] 0)).alloc (.map #[] 0)).alloc (.cells #[.int .i64 tm,.int .i64 nx,.map (some (w.heap.size+1)),.map (some (w.heap.size+1+1))] 109)=w1 at O0 ⊢
 generalize w.heap.size+1+1+1=p at O0 ⊢
 generalize w.heap.size+1+1=bS at O0 ⊢
 generalize w.heap.size+1=bL at O0 ⊢
 obtain ⟨b,HBB⟩ : ∃ b,Hid (w.heap.size=b):=⟨_,rfl⟩
 rw [HBB.out]
 rw [show Hid (Oq w w1 tm nx (.slice la ls.length lc) (.slice sa ss.length sc) w.heap.size bL bS p [] [])=Hid (Oq w w1 tm nx (.slice la ls.length lc) (.slice sa ss.length sc) b bL bS p [] []) by rw [HBB.out]] at O0
 have c2:=(zAA O0.out.hb 2 (x:=.slice la ls.length lc) rfl).1
 clear mk1 mk2
 go_wp2_with fail
 clear c2
 go_loopw [19] (fun i wr=>∃ (k:Nat) (ps:List (Lk × Value)),k≤ls.length∧i=.int .i64 k∧Hid (Oq w wr tm nx (.slice la ls.length lc) (.slice sa ss.length sc) b bL bS p ps []∧ps.map (·.1)=ls.take k)) (fun i _=>ls.length - (intOf i).toNat)
 case atStart=>exact ⟨0,[],by omega,rfl,O0.out,rfl⟩
 case round =>
  obtain ⟨k,ps,hk,rfl,HO⟩:=hrel
  by_cases hlt:k<ls.length
  ·obtain ⟨x,hx⟩:=Tw.get_at hlt
   have hr:=(HLS.out.1).below HO.out.1.bel
   obtain ⟨lb,off,rfl,hbl,u,c0,c1,c2,c3,c4,c5⟩:=RowG.at hr rfl hx
   obtain ⟨ua,uc,rfl⟩:=RowG.slice c5
   have HU:Hid (RowW wr (.slice ua x.ws.length uc) x.ws):=c5
   have HXX:Hid (ls[k]?=some x):=hx
   clear hx c5 hr hbl
   go_upto_region 5 with fail
   have H4:Hid ((wr.alloc (.cells #[.string x.n,.int .i64 x.t,.int .i64 x.h,.int .i64 x.e,.slice ua x.ws.length uc] 45)).heap[wr.heap.size]?=some (.cells #[.string x.n,.int .i64 x.t,.int .i64 x.h,.int .i64 x.e,.slice ua x.ws.length uc] 45 (0,0))∧Oq w (wr.alloc (.cells #[.string x.n,.int .i64 x.t,.int .i64 x.h,.int .i64 x.e,.slice ua x.ws.length uc] 45)) tm nx (.slice (some ⟨lb,off,none⟩) ls.length lc) (.slice sa ss.length sc) b bL bS p ps []∧RowW (wr.alloc (.cells #[.string x.n,.int .i64 x.t,.int .i64 x.h,.int .i64 x.e,.slice ua x.ws.length uc] 45)) (.slice ua x.ws.length uc) x.ws∧wr.heap.size<(wr.alloc (.cells #[.string x.n,.int .i64 x.t,.int .i64 x.h,.int .i64 x.e,.slice ua x.ws.length uc] 45)).heap.size∧p<wr.heap.size∧∀ q ∈ ps,some wr.heap.size ≠ q.2.ownBlock) :=
    ⟨zAJ _ _ _,HO.out.1.up (zAD _ _),HU.out.below (zAD _ _),by rw [zAL];omega,HO.out.1.pl,fun q hq e=>absurd ((HO.out.1.ow q hq).lt _ e.symm).2 (by omega)⟩
   have HT:Hid (ps.map (·.1)=ls.take k∧ps.length=k):=⟨HO.out.2,by rw [← List.length_map (f:=(·.1)),HO.out.2,List.length_take];omega⟩
   clear HO HU c0 c1 c2 c3 c4
   generalize wr.alloc (.cells #[.string x.n,.int .i64 x.t,.int .i64 x.h,.int .i64 x.e,.slice ua x.ws.length uc] 45)=w4 at H4 ⊢
   generalize wr.heap.size=y at H4 ⊢
   have c4:=(zAA H4.out.1 4 (x:=.slice ua x.ws.length uc) rfl).1
   have HZ:Hid (x.n.size≤1048576∧x.ws.length≤1000):=HW.out x (Tw.zAp HXX.out)
   go_wp2_with (at_builtin;go_must (refine appW (by rfl) _ _ 43 (by rfl) i0 Tryz.underlying43 hi0 hz0 hz1 hz2 w4.heap.size w4 w4 (.slice none 0 0) (.slice ua x.ws.length uc) [] x.ws (by rfl) (OwnW.nil _ _) (Below.refl _ _) (Nat.le_refl _) (by rfl) H4.out.2.2.1 (by have:=HZ.out.2;simp;omega) ?_;intro v5 w5 o5 b5 _;rw [List.nil_append] at o5;obtain ⟨a5,k5,rfl⟩:=OwnW.slice o5;have H5:Hid (OwnW w5 w4.heap.size (.slice a5 x.ws.length k5) x.ws∧Below w4.heap.size w4 w5∧w5.heap[y]?=some (.cells #[.string x.n,.int .i64 x.t,.int .i64 x.h,.int .i64 x.e,.slice ua x.ws.length uc] 45 (0,0))):=⟨o5,b5,(b5.block y H4.out.2.2.2.1).trans H4.out.1⟩;obtain ⟨d4,f4⟩:=zAA H5.out.2.2 4 (x:=.slice ua x.ws.length uc) rfl;clear o5 b5 c4))
   have H6:Hid (OwnW (w5.setCell ⟨y,4,none⟩ (.slice a5 x.ws.length k5)) (p+1) (.slice a5 x.ws.length k5) x.ws∧Oq w (w5.setCell ⟨y,4,none⟩ (.slice a5 x.ws.length k5)) tm nx (.slice (some ⟨lb,off,none⟩) ls.length lc) (.slice sa ss.length sc) b bL bS p ps []∧(w5.setCell ⟨y,4,none⟩ (.slice a5 x.ws.length k5)).heap[y]?=some (.cells #[.string x.n,.int .i64 x.t,.int .i64 x.h,.int .i64 x.e,.slice a5 x.ws.length k5] 45 (0,0))∧∀ z ∈ ps,∀ g,Value.ownBlock (.slice a5 x.ws.length k5)=some g→z.2.ownBlock ≠ some g):=by
    have h4:=H4.out
    have h5:=H5.out
    refine ⟨(h5.1.kept (fun g hg=>zAE (by have:=(h5.1.lt g hg).1;omega) _ _)).mono (by omega),(h4.2.1.up h5.2.1).far y (by omega) h4.2.2.2.2.2 _ _,zAC h5.2.2 4 _,fun z hz g hg hzg=>by have:=(h5.1.lt g hg).1;have:=((h4.2.1.ow z hz).lt g hzg).2;omega⟩
   clear H4 H5 d4 f4
   generalize w5.setCell ⟨y,4,none⟩ (.slice a5 x.ws.length k5)=w6 at H6 ⊢
   have e0:=(zAA H6.out.2.2.1 0 (x:=.string x.n) rfl).1
   have e1:=(zAA H6.out.2.2.1 1 (x:=.int .i64 x.t) rfl).1
   have e2:=(zAA H6.out.2.2.1 2 (x:=.int .i64 x.h) rfl).1
   have e3:=(zAA H6.out.2.2.1 3 (x:=.int .i64 x.e) rfl).1
   have e4:=(zAA H6.out.2.2.1 4 (x:=.slice a5 x.ws.length k5) rfl).1
   have ep:=(zAA H6.out.2.1.hp 2 (x:=.map (some bL)) rfl).1
   refine Qt.zBN 7 (by kernel_rfl) (by kernel_rfl) ?_
   simp only [List.take_succ_cons,List.take_zero,List.drop_succ_cons,List.drop_zero]
   repeat (go_big_quiet_step (fail))
   refine wpQuiet_nil ?_
   have H7:Hid (OwnW w6.drew (p+1) (.slice a5 x.ws.length k5) x.ws∧Oq w w6.drew tm nx (.slice (some ⟨lb,off,none⟩) ls.length lc) (.slice sa ss.length sc) b bL bS p ps []∧∀ z ∈ ps,∀ g,Value.ownBlock (.slice a5 x.ws.length k5)=some g→z.2.ownBlock ≠ some g):=⟨H6.out.1.below (Below.refl _ _).drew,H6.out.2.1.up (Below.refl _ _).drew,H6.out.2.2.2⟩
   clear H6 e0 e1 e2 e3 e4 ep
   generalize w6.drew=w7 at H7 ⊢
   go_wp2_with (at_mapUpdate;go_must (refine wpList_mapUpdate_own (H:=Value) _ rfl _ _ _ 106 rfl 9 45 (Maps.string_keyed Tryz.underlying9) Tryz.underlying106 RV bL ps.length (dL ps) rfl H7.out.2.1.ml (by have:=HT.out.2;unfold maxLen;omega) (.string x.n) (lkV x (.slice a5 x.ws.length k5)) (kS x.n) rfl rfl (WideMaps.keyOf_string_mk Tryz.underlying9 (by have:=HZ.out.1;unfold maxLen;omega)) (.held (lkV x (.slice a5 x.ws.length k5))) [] rfl ?_;intro w8 m8 g8))
   go_round
   case rel=>exact ⟨k+1,ps ++ [(x,.slice a5 x.ws.length k5)],by omega,by go_num,H7.out.2.1.putL (x,.slice a5 x.ws.length k5) H7.out.1 H7.out.2.2 m8 g8,by rw [List.map_append,HT.out.1,take_at HXX.out];rfl⟩
   case measure=>simp [intOf];omega
  ·obtain rfl:k=ls.length:=by omega
   have H1:Hid (Oq w wr tm nx (.slice la ls.length lc) (.slice sa ss.length sc) b bL bS p ps []∧ps.map (·.1)=ls):=⟨HO.out.1,by rw [HO.out.2,List.take_length]⟩
   clear HO O0
   have c3:=(zAA H1.out.1.hb 3 (x:=.slice sa ss.length sc) rfl).1
   go_wp2_with fail
   clear c3
   go_loopw [38] (fun i wr=>∃ k:Nat,k≤ss.length∧i=.int .i64 k∧Hid (Oq w wr tm nx (.slice la ls.length lc) (.slice sa ss.length sc) b bL bS p ps (ss.take k))) (fun i _=>ss.length - (intOf i).toNat)
   case atStart=>exact ⟨0,by omega,rfl,H1.out.1⟩
   case round =>
    obtain ⟨k,hk,rfl,HO⟩:=hrel
    by_cases hlt:k<ss.length
    ·obtain ⟨x,hx⟩:=Tw.get_at hlt
     have hr:=(HLS.out.2).below HO.out.bel
     obtain ⟨lb,off,rfl,hbl,c0,c1,c2,c3,c4,c5⟩:=RowG.at hr rfl hx
     have HXX:Hid (ss[k]?=some x):=hx
     clear hx hr hbl
     go_upto_region 11 with fail
     have H4:Hid ((wr.alloc (.cells #[.int .i64 x.c,.int .i64 x.s,.int .i64 x.k,.int .i64 x.t,.int .i64 x.h,.int .i64 x.e] 116)).heap[wr.heap.size]?=some (.cells #[.int .i64 x.c,.int .i64 x.s,.int .i64 x.k,.int .i64 x.t,.int .i64 x.h,.int .i64 x.e] 116 (0,0))∧Oq w (wr.alloc (.cells #[.int .i64 x.c,.int .i64 x.s,.int .i64 x.k,.int .i64 x.t,.int .i64 x.h,.int .i64 x.e] 116)) tm nx (.slice la ls.length lc) (.slice (some ⟨lb,off,none⟩) ss.length sc) b bL bS p ps (ss.take k)):=⟨zAJ _ _ _,HO.out.up (zAD _ _)⟩
     clear HO c0 c1 c2 c3 c4 c5
     generalize wr.alloc (.cells #[.int .i64 x.c,.int .i64 x.s,.int .i64 x.k,.int .i64 x.t,.int .i64 x.h,.int .i64 x.e] 116)=w4 at H4 ⊢
     generalize wr.heap.size=y at H4 ⊢
     have e0:=(zAA H4.out.1 0 (x:=.int .i64 x.c) rfl).1
     have e1:=(zAA H4.out.1 1 (x:=.int .i64 x.s) rfl).1
     have e2:=(zAA H4.out.1 2 (x:=.int .i64 x.k) rfl).1
     have e3:=(zAA H4.out.1 3 (x:=.int .i64 x.t) rfl).1
     have e4:=(zAA H4.out.1 4 (x:=.int .i64 x.h) rfl).1
     have e5:=(zAA H4.out.1 5 (x:=.int .i64 x.e) rfl).1
     have ep:=(zAA H4.out.2.hp 3 (x:=.map (some bS)) rfl).1
     have HZ:Hid (0≤x.c∧x.c≤255):=HC.out x (Tw.zAp HXX.out)
     refine Qt.zBN 7 (by kernel_rfl) (by kernel_rfl) ?_
     simp only [List.take_succ_cons,List.take_zero,List.drop_succ_cons,List.drop_zero]
     repeat (go_big_quiet_step (fail))
     refine wpQuiet_nil ?_
     have H7:Hid (Oq w w4.drew tm nx (.slice la ls.length lc) (.slice (some ⟨lb,off,none⟩) ss.length sc) b bL bS p ps (ss.take k)):=H4.out.2.up (Below.refl _ _).drew
     clear H4 e0 e1 e2 e3 e4 e5 ep
     generalize w4.drew=w7 at H7 ⊢
     go_wp2_with (at_mapUpdate;go_must (refine wpList_mapUpdate_own (H:=Value) _ rfl _ _ _ 107 rfl 3 116 (Maps.int_keyed Tryz.underlying3) Tryz.underlying107 RV bS (ss.take k).length (dS (ss.take k)) rfl H7.out.ms (by rw [List.length_take];unfold maxLen;omega) (.int .i64 x.c) (snV x) (kI x.c) rfl rfl (Maps.keyOf_int_mk Tryz.underlying3 (wf_small HZ.out)) (.held (snV x)) [] rfl ?_;intro w8 m8 g8))
     go_round
     case rel=>exact ⟨k+1,by omega,by go_num,by rw [take_at HXX.out];exact H7.out.putS x m8 g8⟩
     case measure=>simp [intOf];omega
    ·obtain rfl:k=ss.length:=by omega
     have H2:Hid (Oq w wr tm nx (.slice la ls.length lc) (.slice sa ss.length sc) b bL bS p ps ss):=by have h:=HO.out;rw [List.take_length] at h;exact h
     clear HO
     go_wp2
     go_ret
     exact ⟨b,bL,bS,p,ps,rfl,H2.out,H1.out.2⟩
theorem Oq.bk {w w':World} {tm nx:Int} {vl vs:Value} {ls:List Lk} {ss:List Sn} {b bL bS p:Nat} {ps:List (Lk × Value)} (h:Oq w w' tm nx vl vs b bL bS p ps ss) (he:ps.map (·.1)=ls) (hn:NmA ls) (hc:ClA ss) (hs:∀ x ∈ ls,x.n.size≤1000000) (h2:∀ s ∈ ss,0≤s.c∧s.c≤255):∃ qs,BK w w' w.heap.size p bL bS ⟨tm,nx,ls,ss⟩ qs:=by
 have hV:∀ q ∈ ps,∃ a cap,q.2=.slice a q.1.ws.length cap:=fun q hq=>OwnW.slice (h.ow q hq)
 obtain ⟨qs,hqs⟩ : ∃ qs:List LkA,qs.map (fun z:LkA=>(z.1,uV z))=ps:=by
  clear he h
  induction ps with
  | nil=>exact ⟨[],rfl⟩
  | cons q r ih =>
    obtain ⟨qs,hq⟩:=ih (fun z hz=>hV z (List.mem_cons_of_mem _ hz))
    obtain ⟨a,cap,e⟩:=hV q (List.mem_cons_self ..)
    refine ⟨(q.1,a,cap) :: qs,?_⟩
    rw [List.map_cons,hq]
    show (q.1,uV (q.1,a,cap)) :: r=q :: r
    rw [show uV (q.1,a,cap)=q.2 from e.symm]
 have he2:qs.map (·.1)=ls:=by rw [← he,← hqs,List.map_map];rfl
 have hln:ps.length=qs.length:=by rw [← hqs,List.length_map]
 have hd:dL ps=mL qs:=by
  rw [dL_eq (NmA.ascV (by rw [he];exact hn))]
  unfold mL mapOf
  rw [← hqs,List.map_map]
  rfl
 have hl:=h.lt
 refine ⟨qs,h.hp,by rw [← hd,← hln];exact h.ml,by have:=h.ms;rw [dS_eq hc.asc] at this;exact this,fun q hq=>?_,?_,he2,hn,hc,hs,h2,h.bel,Nat.le_refl _,⟨by omega,by omega,by omega,by omega⟩⟩
 ·have hm:(q.1,uV q) ∈ ps:=by rw [← hqs];exact List.mem_map.2 ⟨q,hq,rfl⟩
  exact (OwnO.of (h.ow _ hm)).mono (by omega)
 ·intro i j x y hx hy hij g hg
  exact h.ap i j (x.1,uV x) (y.1,uV y) (by rw [← hqs,List.getElem?_map,hx];rfl) (by rw [← hqs,List.getElem?_map,hy];rfl) hij g hg
end Go.Proofs.YticokpbelgpfmaaGreat.Jg
namespace Go.Proofs.YticokpbelgpfmaaGreat.Jc
open Go.RowKit By Ap Tb Tw Mw Wa Bk Tp Da Ja Jb
open Lo (LkA uV clL OwnL zAG zAK Apart zAP)
open Tx (zAA zAC zAE zAJ zAD)
section
variable {w0 w:World} {B p bL bS:Nat} {T:Tab} {ps:List LkA}
theorem bel2 (w:World) (a b:Obj):Below w.heap.size w ((w.alloc a).alloc b):=(zAD w a).alloc (by rw [Bk.zAL];omega) b
theorem set5 {W:World} {r:Nat} {z0 z1 z2 z3 z4:Value} (hX:W.heap[r]?=some (.cells #[z0,z1,z2,z3,z4] 45 (0,0))) (a b c d e:Value):(((((W.setCell ⟨r,0,none⟩ a).setCell ⟨r,1,none⟩ b).setCell ⟨r,2,none⟩ c).setCell ⟨r,3,none⟩ d).setCell ⟨r,4,none⟩ e).heap[r]?=some (.cells #[a,b,c,d,e] 45 (0,0)):=zAC (zAC (zAC (zAC (zAC hX 0 a) 1 b) 2 c) 3 d) 4 e
theorem far5 {W:World} {r k:Nat} (hk:k ≠ r) (a b c d e:Value):(((((W.setCell ⟨r,0,none⟩ a).setCell ⟨r,1,none⟩ b).setCell ⟨r,2,none⟩ c).setCell ⟨r,3,none⟩ d).setCell ⟨r,4,none⟩ e).heap[k]?=W.heap[k]?:=(zAE hk 4 e).trans ((zAE hk 3 d).trans ((zAE hk 2 c).trans ((zAE hk 1 b).trans (zAE hk 0 a))))
theorem bk5 (h:BK w0 w B p bL bS T ps) {y:Nat} {cs:Array Value} (hy:w.heap[y]?=some (.cells cs 45 (0,0))) (h1:y ≠ p) (hB:B≤y) (a b c d e:Value):BK w0 (((((w.setCell ⟨y,0,none⟩ a).setCell ⟨y,1,none⟩ b).setCell ⟨y,2,none⟩ c).setCell ⟨y,3,none⟩ d).setCell ⟨y,4,none⟩ e) B p bL bS T ps:=by
 have k:∀ {W:World} {cs:Array Value},BK w0 W B p bL bS T ps→W.heap[y]?=some (.cells cs 45 (0,0))→∀ (i:Nat) (v:Value),BK w0 (W.setCell ⟨y,i,none⟩ v) B p bL bS T ps:=fun hW hy i v=>hW.far hy h1 (fun es c=>by intro e;cases e) (fun cs=>by intro e;cases e) hB i v
 exact k (k (k (k (k h hy 0 a) (zAC hy 0 a) 1 b) (zAC (zAC hy 0 a) 1 b) 2 c) (zAC (zAC (zAC hy 0 a) 1 b) 2 c) 3 d) (zAC (zAC (zAC (zAC hy 0 a) 1 b) 2 c) 3 d) 4 e
theorem cf {W:World} {q r i j:Nat} {v x:Value} (h:q ≠ r) (hc:W.cell? ⟨q,j,none⟩=some x):(W.setCell ⟨r,i,none⟩ v).cell? ⟨q,j,none⟩=some x:=(World.cell?_of_block (a:=⟨q,j,none⟩) (zAE h i v)).trans hc
set_option maxRecDepth 100000 in
set_option maxHeartbeats 3200000 in
theorem grant_any (h:BK w0 w B p bL bS T ps) (x:Lk) (ua:Option Addr) (un uc:Nat) (cl le:Int) (ht0:0≤T.tm) (ht1:T.tm≤1000000000) (hn0:1≤T.nx) (hn1:T.nx≤999999) (hle0:0≤le) (hle1:le≤1000) :
 Calls Tryz.prog 139 #[.pointer (some ⟨p,0,none⟩),lkV x (.slice ua un uc),.int .i64 cl,.int .i64 le] w fun e w'=>e=.returned (lkV (grL T.tm T.nx x cl le) (.slice ua un uc))∧BK w0 w' B p bL bS { T with nx:=T.nx+1 } ps∧Bx p w w':=by
 have HB:Hid (BK w0 ((w.alloc (.cells #[.string x.n,.int .i64 x.t,.int .i64 x.h,.int .i64 x.e,.slice ua un uc] 45)).alloc (.cells #[.string ⟨#[]⟩,.int .i64 0,.int .i64 0,.int .i64 0,.slice none 0 0] 45)) B p bL bS T ps∧((w.alloc (.cells #[.string x.n,.int .i64 x.t,.int .i64 x.h,.int .i64 x.e,.slice ua un uc] 45)).alloc (.cells #[.string ⟨#[]⟩,.int .i64 0,.int .i64 0,.int .i64 0,.slice none 0 0] 45)).heap[w.heap.size]?=some (.cells #[.string x.n,.int .i64 x.t,.int .i64 x.h,.int .i64 x.e,.slice ua un uc] 45 (0,0))∧((w.alloc (.cells #[.string x.n,.int .i64 x.t,.int .i64 x.h,.int .i64 x.e,.slice ua un uc] 45)).alloc (.cells #[.string ⟨#[]⟩,.int .i64 0,.int .i64 0,.int .i64 0,.slice none 0 0] 45)).heap[w.heap.size+1]?=some (.cells #[.string ⟨#[]⟩,.int .i64 0,.int .i64 0,.int .i64 0,.slice none 0 0] 45 (0,0))∧Bx p w ((w.alloc (.cells #[.string x.n,.int .i64 x.t,.int .i64 x.h,.int .i64 x.e,.slice ua un uc] 45)).alloc (.cells #[.string ⟨#[]⟩,.int .i64 0,.int .i64 0,.int .i64 0,.slice none 0 0] 45))) :=
  ⟨h.up (bel2 _ _ _),(zAP w _ _).1,(zAP w _ _).2,Bx.of_below (bel2 _ _ _)⟩
 have HN:Hid (p<w.heap.size∧B≤w.heap.size∧bL<w.heap.size∧bS<w.heap.size):=⟨h.plt,h.size,h.llt,h.slt⟩
 clear h
 unfold lkV
 go_enter Tryz.func139,Tryz.ntmps139
 go_upto_region 1 with fail
 obtain ⟨w1,hw1⟩ : ∃ w1,((w.alloc (.cells #[.string x.n,.int .i64 x.t,.int .i64 x.h,.int .i64 x.e,.slice ua un uc] 45)).alloc (.cells #[.string ⟨#[]⟩,.int .i64 0,.int .i64 0,.int .i64 0,.slice none 0 0] 45))=w1:=⟨_,rfl⟩
 rw [hw1] at HB ⊢
 clear hw1
 obtain ⟨l0,m0⟩:=zAA HB.out.2.1 0 (x:=.string x.n) rfl
 obtain ⟨l1,m1⟩:=zAA HB.out.2.1 1 (x:=.int .i64 x.t) rfl
 obtain ⟨l2,m2⟩:=zAA HB.out.2.1 2 (x:=.int .i64 x.h) rfl
 obtain ⟨l3,m3⟩:=zAA HB.out.2.1 3 (x:=.int .i64 x.e) rfl
 have p0:=(zAA HB.out.1.hp 0 (x:=.int .i64 T.tm) rfl).1
 have p1:=(zAA HB.out.1.hp 1 (x:=.int .i64 T.nx) rfl).1
 have HC:Hid (BK w0 (((w1.setCell ⟨w.heap.size,2,none⟩ (.int .i64 cl)).setCell ⟨w.heap.size,1,none⟩ (.int .i64 T.nx)).setCell ⟨w.heap.size,3,none⟩ (.int .i64 (T.tm+le))).drew B p bL bS T ps∧(((w1.setCell ⟨w.heap.size,2,none⟩ (.int .i64 cl)).setCell ⟨w.heap.size,1,none⟩ (.int .i64 T.nx)).setCell ⟨w.heap.size,3,none⟩ (.int .i64 (T.tm+le))).drew.heap[w.heap.size]?=some (.cells #[.string x.n,.int .i64 T.nx,.int .i64 cl,.int .i64 (T.tm+le),.slice ua un uc] 45 (0,0))∧(((w1.setCell ⟨w.heap.size,2,none⟩ (.int .i64 cl)).setCell ⟨w.heap.size,1,none⟩ (.int .i64 T.nx)).setCell ⟨w.heap.size,3,none⟩ (.int .i64 (T.tm+le))).drew.heap[w.heap.size+1]?=some (.cells #[.string ⟨#[]⟩,.int .i64 0,.int .i64 0,.int .i64 0,.slice none 0 0] 45 (0,0))∧Bx p w (((w1.setCell ⟨w.heap.size,2,none⟩ (.int .i64 cl)).setCell ⟨w.heap.size,1,none⟩ (.int .i64 T.nx)).setCell ⟨w.heap.size,3,none⟩ (.int .i64 (T.tm+le))).drew):=by
  obtain ⟨hb,hl,hr,hf⟩:=HB.out
  have k:∀ {W:World} {cs:Array Value},BK w0 W B p bL bS T ps→W.heap[w.heap.size]?=some (.cells cs 45 (0,0))→∀ (i:Nat) (v:Value),BK w0 (W.setCell ⟨w.heap.size,i,none⟩ v) B p bL bS T ps:=fun hW hy i v=>hW.far hy (by have:=HN.out;omega) (fun es c=>by intro e;cases e) (fun cs=>by intro e;cases e) HN.out.2.1 i v
  refine ⟨(k (k (k hb hl 2 _) (zAC hl 2 _) 1 _) (zAC (zAC hl 2 _) 1 _) 3 _).up (Below.refl _ _).drew,zAC (zAC (zAC hl 2 _) 1 _) 3 _,(zAE (by omega) 3 _).trans ((zAE (by omega) 1 _).trans ((zAE (by omega) 2 _).trans hr)),⟨by simpa using hf.size,fun b hbo n1=>?_⟩⟩
  have hne:b ≠ w.heap.size:=by omega
  exact (zAE hne 3 _).trans ((zAE hne 1 _).trans ((zAE hne 2 _).trans (hf.block b hbo n1)))
 have HWR:Hid (IntKind.i64.wrap (T.tm+le)=T.tm+le):=by show _=_;rw [IntKind.wrap_i64];omega
 have HPN:Hid (p ≠ w.heap.size):=by show _ ≠ _;have:=HN.out;omega
 go_region_held_law (fun W=>W.cell? ⟨p,0,none⟩=some (.int .i64 T.tm)∧W.cell? ⟨p,1,none⟩=some (.int .i64 T.nx)) (first | exact ⟨p0,p1⟩ | exact ⟨cf HPN.out p0,cf HPN.out p1⟩ | exact ⟨cf HPN.out (cf HPN.out p0),cf HPN.out (cf HPN.out p1)⟩ | exact ⟨cf HPN.out (cf HPN.out (cf HPN.out p0)),cf HPN.out (cf HPN.out (cf HPN.out p1))⟩) (fail)
 all_goals
  go_upto_region 2 with fail
  rw [HWR.out]
  clear l0 m0 l1 m1 l2 m2 l3 m3 p0 p1
  generalize (((w1.setCell ⟨w.heap.size,2,none⟩ (.int .i64 cl)).setCell ⟨w.heap.size,1,none⟩ (.int .i64 T.nx)).setCell ⟨w.heap.size,3,none⟩ (.int .i64 (T.tm+le))).drew=w2 at HC ⊢
  obtain ⟨p1,q1⟩:=zAA HC.out.1.hp 1 (x:=.int .i64 T.nx) rfl
  have HD:Hid (BK w0 (w2.setCell ⟨p,1,none⟩ (.int .i64 (T.nx+1))) B p bL bS { T with nx:=T.nx+1 } ps∧(w2.setCell ⟨p,1,none⟩ (.int .i64 (T.nx+1))).heap[w.heap.size]?=some (.cells #[.string x.n,.int .i64 T.nx,.int .i64 cl,.int .i64 (T.tm+le),.slice ua un uc] 45 (0,0))∧(w2.setCell ⟨p,1,none⟩ (.int .i64 (T.nx+1))).heap[w.heap.size+1]?=some (.cells #[.string ⟨#[]⟩,.int .i64 0,.int .i64 0,.int .i64 0,.slice none 0 0] 45 (0,0))∧Bx p w (w2.setCell ⟨p,1,none⟩ (.int .i64 (T.nx+1)))):=by
   obtain ⟨hb,hl,hr,hf⟩:=HC.out
   exact ⟨hb.box 1 _ rfl rfl rfl,(zAE (Ne.symm HPN.out) 1 _).trans hl,(zAE (by have:=HN.out;omega) 1 _).trans hr,hf.trans (bxBox p w2 1 _)⟩
  go_upto_region 3 with fail
  clear HC p1 q1
  generalize w2.setCell ⟨p,1,none⟩ (.int .i64 (T.nx+1))=w3 at HD ⊢
  have e0:=(zAA HD.out.2.1 0 (x:=.string x.n) rfl).1
  have e1:=(zAA HD.out.2.1 1 (x:=.int .i64 T.nx) rfl).1
  have e2:=(zAA HD.out.2.1 2 (x:=.int .i64 cl) rfl).1
  have e3:=(zAA HD.out.2.1 3 (x:=.int .i64 (T.tm+le)) rfl).1
  have e4:=(zAA HD.out.2.1 4 (x:=.slice ua un uc) rfl).1
  obtain ⟨r0,s0⟩:=zAA HD.out.2.2.1 0 (x:=.string ⟨#[]⟩) rfl
  obtain ⟨r1,s1⟩:=zAA HD.out.2.2.1 1 (x:=.int .i64 0) rfl
  obtain ⟨r2,s2⟩:=zAA HD.out.2.2.1 2 (x:=.int .i64 0) rfl
  obtain ⟨r3,s3⟩:=zAA HD.out.2.2.1 3 (x:=.int .i64 0) rfl
  obtain ⟨r4,s4⟩:=zAA HD.out.2.2.1 4 (x:=.slice none 0 0) rfl
  have HE:Hid (BK w0 (((((w3.setCell ⟨w.heap.size+1,0,none⟩ (.string x.n)).setCell ⟨w.heap.size+1,1,none⟩ (.int .i64 T.nx)).setCell ⟨w.heap.size+1,2,none⟩ (.int .i64 cl)).setCell ⟨w.heap.size+1,3,none⟩ (.int .i64 (T.tm+le))).setCell ⟨w.heap.size+1,4,none⟩ (.slice ua un uc)) B p bL bS { T with nx:=T.nx+1 } ps∧(((((w3.setCell ⟨w.heap.size+1,0,none⟩ (.string x.n)).setCell ⟨w.heap.size+1,1,none⟩ (.int .i64 T.nx)).setCell ⟨w.heap.size+1,2,none⟩ (.int .i64 cl)).setCell ⟨w.heap.size+1,3,none⟩ (.int .i64 (T.tm+le))).setCell ⟨w.heap.size+1,4,none⟩ (.slice ua un uc)).heap[w.heap.size+1]?=some (.cells #[.string x.n,.int .i64 T.nx,.int .i64 cl,.int .i64 (T.tm+le),.slice ua un uc] 45 (0,0))∧Bx p w (((((w3.setCell ⟨w.heap.size+1,0,none⟩ (.string x.n)).setCell ⟨w.heap.size+1,1,none⟩ (.int .i64 T.nx)).setCell ⟨w.heap.size+1,2,none⟩ (.int .i64 cl)).setCell ⟨w.heap.size+1,3,none⟩ (.int .i64 (T.tm+le))).setCell ⟨w.heap.size+1,4,none⟩ (.slice ua un uc))):=by
   obtain ⟨hb,hl,hr,hf⟩:=HD.out
   exact ⟨bk5 hb hr (by have:=HN.out;omega) (by have:=HN.out;omega) _ _ _ _ _,set5 hr _ _ _ _ _,⟨by simpa using hf.size,fun b hbo n1=>(far5 (by omega) _ _ _ _ _).trans (hf.block b hbo n1)⟩⟩
  clear HD
  go_wp2_with fail
  generalize (((((w3.setCell ⟨w.heap.size+1,0,none⟩ (.string x.n)).setCell ⟨w.heap.size+1,1,none⟩ (.int .i64 T.nx)).setCell ⟨w.heap.size+1,2,none⟩ (.int .i64 cl)).setCell ⟨w.heap.size+1,3,none⟩ (.int .i64 (T.tm+le))).setCell ⟨w.heap.size+1,4,none⟩ (.slice ua un uc))=wf at HE ⊢
  have d0:=(zAA HE.out.2.1 0 (x:=.string x.n) rfl).1
  have d1:=(zAA HE.out.2.1 1 (x:=.int .i64 T.nx) rfl).1
  have d2:=(zAA HE.out.2.1 2 (x:=.int .i64 cl) rfl).1
  have d3:=(zAA HE.out.2.1 3 (x:=.int .i64 (T.tm+le)) rfl).1
  have d4:=(zAA HE.out.2.1 4 (x:=.slice ua un uc) rfl).1
  exact bodyPost_ret (v:=.agg #[.string x.n,.int .i64 T.nx,.int .i64 cl,.int .i64 (T.tm+le),.slice ua un uc]) (by simp [results,Tryz.results139,go_sem,d0,d1,d2,d3,d4]) rfl ⟨rfl,HE.out.1,HE.out.2.2⟩
end
end Go.Proofs.YticokpbelgpfmaaGreat.Jc
