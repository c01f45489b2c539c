/- Texts put together: Jb, Shz, Je. -/
import Derived.Test.YticokpbelgpfmaaGreatMa9
import Derived.Deep.RegionHeldLaw
import Derived.Shelf.SlGeneric
import Derived.Shelf.SlIter.Nil
import Derived.Shelf.SlIterI.Nil
import Derived.Shelf.SortM.Plain
import Derived.Shelf.SortM.SortNone
import Derived.Ground.GgzProg
import Derived.Ground.SlgmProg
namespace Go.Proofs.YticokpbelgpfmaaGreat.Jb
open Go.RowKit By Ap Tb Tw Mw Wa Bk Tp Da Ja
open Lo (LkA uV clL OwnL zAG zAK Apart)
open Tx (zAA zAC zAE zAJ zAD)
def OwnO (W:World) (B:Nat) (v:Value) (ws:List Wt):Prop :=
 (v=.slice none 0 0∧ws=[]) ∨ ∃ g o cap cur,v=.slice (some ⟨g,o,none⟩) ws.length cap∧B≤g∧W.heap[g]?=some (.cells cur 153 (0,0))∧ws.length≤cap∧cap≤maxLen∧o+cap * 2≤cur.size∧(cur.toList.drop o).take (ws.length * 2)=ws.flatMap clW
theorem OwnO.of {W:World} {B:Nat} {v:Value} {ws:List Wt} (h:OwnW W B v ws):OwnO W B v ws:=by
 obtain ⟨_,⟨rfl,h0⟩ | ⟨g,cap,cur,rfl,h1,h2,h3,h4,h5,h6⟩⟩:=h
 ·exact .inl ⟨rfl,List.length_eq_zero_iff.1 h0⟩
 ·exact .inr ⟨g,0,cap,cur,rfl,h1,h2,h3,h4,by omega,by simpa using h6⟩
theorem OwnO.slice {W:World} {B:Nat} {v:Value} {ws:List Wt} (h:OwnO W B v ws):∃ a cap,v=.slice a ws.length cap:=by
 rcases h with ⟨rfl,rfl⟩ | ⟨g,o,cap,cur,rfl,_⟩
 ·exact ⟨none,0,rfl⟩
 ·exact ⟨_,cap,rfl⟩
theorem OwnO.lt {W:World} {B:Nat} {v:Value} {ws:List Wt} (h:OwnO W B v ws):∀ g,v.ownBlock=some g→B≤g∧g<W.heap.size:=by
 rcases h with ⟨rfl,rfl⟩ | ⟨g,o,cap,cur,rfl,h1,h2,_⟩
 ·intro g hg;cases hg
 ·intro k hk;cases hk;exact ⟨h1,(Array.getElem?_eq_some_iff.1 h2).1⟩
theorem OwnO.kept {W W':World} {B:Nat} {v:Value} {ws:List Wt} (h:OwnO W B v ws) (hk:∀ g,v.ownBlock=some g→W'.heap[g]?=W.heap[g]?):OwnO W' B v ws:=by
 rcases h with h | ⟨g,o,cap,cur,rfl,h1,h2,h3⟩
 ·exact .inl h
 ·exact .inr ⟨g,o,cap,cur,rfl,h1,(hk g rfl).trans h2,h3⟩
theorem OwnO.below {W W':World} {B:Nat} {v:Value} {ws:List Wt} (h:OwnO W B v ws) (hb:Below W.heap.size W W'):OwnO W' B v ws:=h.kept fun g hg=>hb.block g (h.lt g hg).2
theorem OwnO.mono {W:World} {B B':Nat} {v:Value} {ws:List Wt} (h:OwnO W B v ws) (hb:B'≤B):OwnO W B' v ws:=by
 rcases h with h | ⟨g,o,cap,cur,rfl,h1,h2⟩
 ·exact .inl h
 ·exact .inr ⟨g,o,cap,cur,rfl,Nat.le_trans hb h1,h2⟩
theorem OwnO.kind {W:World} {B:Nat} {v:Value} {ws:List Wt} (h:OwnO W B v ws) {b:Nat} {ob:Obj} (hb:W.heap[b]?=some ob) (hn:∀ cs,ob ≠ .cells cs 153 (0,0)):v.ownBlock ≠ some b:=by
 rcases h with ⟨rfl,rfl⟩ | ⟨g,o,cap,cur,rfl,_,h2,_⟩
 ·intro e;cases e
 ·intro e;cases e;rw [h2] at hb;cases hb;exact hn cur rfl
theorem OwnO.row {W:World} {B:Nat} {v:Value} {ws:List Wt} (h:OwnO W B v ws):RowW W v ws:=by
 rcases h with ⟨rfl,rfl⟩ | ⟨g,o,cap,cur,rfl,hB,hg,hc,_,hs,htk⟩
 ·exact ⟨none,0,rfl,.inl rfl⟩
 ·refine ⟨_,cap,rfl,.inr ⟨g,o,rfl,hc,(Array.getElem?_eq_some_iff.1 hg).1,fun i x hi=>?_⟩⟩
  have hil:=(List.getElem?_eq_some_iff.1 hi).1
  have key:∀ j u,j<2→(clW x)[j]?=some u→W.cell? ⟨g,o+i * 2+j,none⟩=some u:=fun j u hj hu=>by
   rw [Joins.cell_of_block hg,← Array.getElem?_toList]
   have h1:=atW ws i x j hi hj
   rw [← htk,List.getElem?_take,if_pos (by omega),List.getElem?_drop] at h1
   rw [show o+i * 2+j=o+(i * 2+j) by omega,h1,hu]
  exact ⟨key 0 _ (by decide) rfl,key 1 _ (by decide) rfl⟩
theorem OwnO.tail {W:World} {B g o n cap:Nat} {x:Wt} {ws:List Wt} (h:OwnO W B (.slice (some ⟨g,o,none⟩) n cap) (x :: ws)) (o':Nat) (ho:o'=o+2 ∨ (o'=o∧cap=1)):OwnO W B (.slice (some ⟨g,o',none⟩) ws.length (cap - 1)) ws:=by
 rcases h with ⟨h,_⟩ | ⟨g',o1,cap',cur,e,h1,h2,h3,h4,h5,h6⟩
 ·cases h
 ·cases e
  simp only [List.length_cons] at h3 h6
  rcases ho with rfl | ⟨rfl,hc⟩
  ·refine .inr ⟨g,o+2,cap - 1,cur,rfl,h1,h2,by omega,by omega,by omega,?_⟩
   rw [List.flatMap_cons] at h6
   have h7:=congrArg (List.drop 2) h6
   rw [List.drop_take,List.drop_drop] at h7
   rw [show (ws.length+1) * 2 - 2=ws.length * 2 by omega] at h7
   rw [h7]
   rfl
  ·obtain rfl:ws=[]:=List.length_eq_zero_iff.1 (by omega)
   exact .inr ⟨g,o',cap - 1,cur,rfl,h1,h2,by simp,by omega,by omega,by simp⟩
structure Fx (p bL bS:Nat) (w w':World):Prop where
 size:w.heap.size≤w'.heap.size
 block:∀ (b:Nat) (o:Obj),w.heap[b]?=some o→b ≠ p→b ≠ bL→b ≠ bS→(∀ cs,o ≠ .cells cs 153 (0,0))→w'.heap[b]?=some o
theorem Fx.refl (p bL bS:Nat) (w:World):Fx p bL bS w w:=⟨Nat.le_refl _,fun _ _ h _ _ _ _=>h⟩
theorem Fx.trans {p bL bS:Nat} {w w1 w2:World} (h:Fx p bL bS w w1) (g:Fx p bL bS w1 w2):Fx p bL bS w w2:=⟨Nat.le_trans h.size g.size,fun b o hb h1 h2 h3 h4=>g.block b o (h.block b o hb h1 h2 h3 h4) h1 h2 h3 h4⟩
theorem Fx.of_below {p bL bS:Nat} {w w':World} (h:Below w.heap.size w w'):Fx p bL bS w w':=⟨h.size,fun b _ hb _ _ _ _=>(h.block b (Array.getElem?_eq_some_iff.1 hb).1).trans hb⟩
structure Bx (p:Nat) (w w':World):Prop where
 size:w.heap.size≤w'.heap.size
 block:∀ b,b<w.heap.size→b ≠ p→w'.heap[b]?=w.heap[b]?
theorem Bx.of_below {p:Nat} {w w':World} (h:Below w.heap.size w w'):Bx p w w':=⟨h.size,fun b hb _=>h.block b hb⟩
theorem Bx.trans {p:Nat} {w w1 w2:World} (h:Bx p w w1) (g:Bx p w1 w2):Bx p w w2:=⟨Nat.le_trans h.size g.size,fun b hb hn=>(g.block b (Nat.lt_of_lt_of_le hb h.size) hn).trans (h.block b hb hn)⟩
theorem Bx.fx {p bL bS:Nat} {w w':World} (h:Bx p w w'):Fx p bL bS w w':=⟨h.size,fun b _ hb h1 _ _ _=>(h.block b (Array.getElem?_eq_some_iff.1 hb).1 h1).trans hb⟩
theorem bxBox (p:Nat) (w:World) (i:Nat) (z:Value):Bx p w (w.setCell ⟨p,i,none⟩ z):=⟨by simp,fun b _ h1=>zAE h1 i z⟩
structure BK (w0 w:World) (B p bL bS:Nat) (T:Tab) (ps:List LkA):Prop where
 hp:w.heap[p]?=some (.cells #[.int .i64 T.tm,.int .i64 T.nx,.map (some bL),.map (some bS)] 109 (0,0))
 ml:MapL w bL ps.length (mL ps)
 ms:MapS w bS T.ss.length (mS T.ss)
 ow:∀ q ∈ ps,OwnO w B (uV q) q.1.ws
 ap:Apart ps
 eq:ps.map (·.1)=T.ls
 nm:NmA T.ls
 cl:ClA T.ss
 sn:∀ x ∈ T.ls,x.n.size≤1000000
 sc:∀ s ∈ T.ss,0≤s.c∧s.c≤255
 bel:Below B w0 w
 b0:B≤w0.heap.size
 le:B≤p∧B≤bL∧B≤bS∧bL ≠ bS
section
variable {w0 w w':World} {B p bL bS:Nat} {T:Tab} {ps:List LkA}
theorem BK.plt (h:BK w0 w B p bL bS T ps):p<w.heap.size:=(Array.getElem?_eq_some_iff.1 h.hp).1
theorem BK.llt (h:BK w0 w B p bL bS T ps):bL<w.heap.size:=h.ml.lt
theorem BK.slt (h:BK w0 w B p bL bS T ps):bS<w.heap.size:=h.ms.lt
theorem BK.size (h:BK w0 w B p bL bS T ps):B≤w.heap.size:=Nat.le_trans h.b0 h.bel.size
theorem zBI {k:TypeId} {b n:Nat} {D:DataW Value} (h:w.ownsMap Tryz.prog k RV b n D):∃ es c,w.heap[b]?=some (.map es c):=by
 obtain ⟨es,c,h,_⟩:=h
 exact ⟨es,c,h⟩
theorem BK.ne (h:BK w0 w B p bL bS T ps):p ≠ bL∧p ≠ bS:=by
 obtain ⟨_,_,h1⟩:=zBI h.ml
 obtain ⟨_,_,h2⟩:=zBI h.ms
 have h3:=h.hp
 constructor
 ·intro e;subst e;rw [h1] at h3;cases h3
 ·intro e;subst e;rw [h2] at h3;cases h3
theorem BK.len (h:BK w0 w B p bL bS T ps):ps.length=T.ls.length:=by rw [← h.eq,List.length_map]
theorem BK.up (h:BK w0 w B p bL bS T ps) (hb:Below w.heap.size w w'):BK w0 w' B p bL bS T ps :=
 ⟨(hb.block p h.plt).trans h.hp,zAR h.ml (hb.block bL h.llt),zAR h.ms (hb.block bS h.slt),fun q hq=>(h.ow q hq).below hb,h.ap,h.eq,h.nm,h.cl,h.sn,h.sc,h.bel.trans (hb.mono h.size),h.b0,h.le⟩
theorem BK.far (h:BK w0 w B p bL bS T ps) {y:Nat} {ob:Obj} (hy:w.heap[y]?=some ob) (h1:y ≠ p) (h2:∀ es c,ob ≠ .map es c) (h3:∀ cs,ob ≠ .cells cs 153 (0,0)) (hB:B≤y) (i:Nat) (v:Value):BK w0 (w.setCell ⟨y,i,none⟩ v) B p bL bS T ps:=by
 have e1:bL ≠ y:=fun e=>by obtain ⟨es,c,hm⟩:=zBI h.ml;rw [e,hy] at hm;cases hm;exact h2 _ _ rfl
 have e2:bS ≠ y:=fun e=>by obtain ⟨es,c,hm⟩:=zBI h.ms;rw [e,hy] at hm;cases hm;exact h2 _ _ rfl
 exact ⟨(zAE (Ne.symm h1) i v).trans h.hp,zAR h.ml (zAE e1 i v),zAR h.ms (zAE e2 i v),fun q hq=>(h.ow q hq).kept (fun g hg=>zAE (fun e=>(h.ow q hq).kind hy h3 (by rw [hg,e])) i v),h.ap,h.eq,h.nm,h.cl,h.sn,h.sc,Below.setCell h.bel (p:=⟨y,i,none⟩) hB v,h.b0,h.le⟩
theorem BK.box {T':Tab} (h:BK w0 w B p bL bS T ps) (i:Nat) (z:Value) (hl:T'.ls=T.ls) (hs:T'.ss=T.ss) (hz:(#[.int .i64 T.tm,.int .i64 T.nx,.map (some bL),.map (some bS)]:Array Value).setIfInBounds i z=#[.int .i64 T'.tm,.int .i64 T'.nx,.map (some bL),.map (some bS)]):BK w0 (w.setCell ⟨p,i,none⟩ z) B p bL bS T' ps:=by
 refine ⟨by rw [← hz];exact zAC h.hp i z,zAR h.ml (zAE (Ne.symm h.ne.1) i z),by rw [hs];exact zAR h.ms (zAE (Ne.symm h.ne.2) i z),fun q hq=>(h.ow q hq).kept (fun g hg=>zAE (fun e=>(h.ow q hq).kind h.hp (fun cs=>by intro e;cases e) (by rw [hg,e])) i z),h.ap,h.eq.trans hl.symm,by rw [hl];exact h.nm,by rw [hs];exact h.cl,by rw [hl];exact h.sn,by rw [hs];exact h.sc,Below.setCell h.bel (p:=⟨p,i,none⟩) h.le.1 z,h.b0,h.le⟩
theorem fxBox (p bL bS:Nat) (w:World) (i:Nat) (z:Value):Fx p bL bS w (w.setCell ⟨p,i,none⟩ z):=⟨by simp,fun b o hb h1 _ _ _=>(zAE h1 i z).trans hb⟩
end
end Go.Proofs.YticokpbelgpfmaaGreat.Jb
namespace Go.Proofs.YticokpbelgpfmaaGreat.Sz
open Go.Shelf
def keysA_ren:Go.Shelf.Ren:=⟨fun | 7=>125 | 10=>151 | n=>n,fun | 23=>106 | 26=>9 | 3=>45 | 28=>174 | 0=>0 | 27=>173 | 33=>143 | 4=>4 | n=>n,fun | n=>n⟩
theorem keysA:Go.Proofs.SlLaysZ.n7 Tryz.prog keysA_ren:={
 mixed:=by kernel_rfl
 f7:=⟨Tryz.f125.name,by decide,Tryz.func125.trans (congrArg some (by kernel_rfl))⟩
 f10:=⟨Tryz.f151.name,by decide,Tryz.func151.trans (congrArg some (by kernel_rfl))⟩
 t0:=Tryz.underlying0
 a0:=Tryz.isAgg0
 z0:=Tryz.sizeOf0
 v0:=Tryz.zeroValue0
 t4:=Tryz.underlying4
 a4:=Tryz.isAgg4
 z4:=Tryz.sizeOf4
 v4:=Tryz.zeroValue4
 t23:=Tryz.underlying106
 a23:=Tryz.isAgg106
 z23:=Tryz.sizeOf106
 v23:=Tryz.zeroValue106
 t26:=Tryz.underlying9
 a26:=Tryz.isAgg9
 z26:=Tryz.sizeOf9
 v26:=Tryz.zeroValue9
 t27:=Tryz.underlying173
 a27:=Tryz.isAgg173
 z27:=Tryz.sizeOf173
 v27:=Tryz.zeroValue173
 t28:=Tryz.underlying174
 a28:=Tryz.isAgg174
 z28:=Tryz.sizeOf174
 v28:=Tryz.zeroValue174
 t33:=Tryz.underlying143
 a33:=Tryz.isAgg143
 z33:=Tryz.sizeOf143
 v33:=Tryz.zeroValue143 }
def sortedA_ren:Go.Shelf.Ren:=⟨fun | 6=>124 | 8=>149 | 9=>150 | 11=>173 | 13=>141 | 12=>174 | 23=>167 | 24=>168 | 14=>184 | 15=>185 | 16=>186 | 17=>187 | 18=>188 | 19=>189 | 20=>190 | 21=>191 | 22=>192 | 25=>203 | 26=>180 | 27=>181 | 28=>204 | 29=>205 | 30=>206 | 31=>210 | n=>n,fun | 26=>9 | 28=>174 | 24=>148 | 0=>0 | 3=>3 | 37=>189 | 48=>207 | 50=>209 | 4=>4 | 40=>200 | 39=>199 | 45=>204 | 5=>5 | 9=>9 | 51=>220 | 55=>224 | 57=>237 | 58=>238 | 33=>143 | n=>n,fun | n=>n⟩
theorem sortedA:Go.Proofs.SlLaysZ.n6 Tryz.prog sortedA_ren:={
 mixed:=by kernel_rfl
 f6:=⟨Tryz.f124.name,by decide,Tryz.func124.trans (congrArg some (by kernel_rfl))⟩
 f8:=⟨Tryz.f149.name,by decide,Tryz.func149.trans (congrArg some (by kernel_rfl))⟩
 f11:=⟨Tryz.f173.name,by decide,Tryz.func173.trans (congrArg some (by kernel_rfl))⟩
 t0:=Tryz.underlying0
 a0:=Tryz.isAgg0
 z0:=Tryz.sizeOf0
 v0:=Tryz.zeroValue0
 t24:=Tryz.underlying148
 a24:=Tryz.isAgg148
 z24:=Tryz.sizeOf148
 v24:=Tryz.zeroValue148
 t26:=Tryz.underlying9
 a26:=Tryz.isAgg9
 z26:=Tryz.sizeOf9
 v26:=Tryz.zeroValue9
 t28:=Tryz.underlying174
 a28:=Tryz.isAgg174
 z28:=Tryz.sizeOf174
 v28:=Tryz.zeroValue174
 i26:=by kernel_rfl }
def sortA_ren:Go.Shelf.Ren:=⟨fun | 6=>150 | 8=>141 | 9=>174 | 19=>167 | 20=>168 | 21=>184 | 22=>185 | 23=>186 | 24=>187 | 25=>188 | 26=>189 | 27=>190 | 28=>191 | 29=>192 | 36=>203 | 31=>180 | 32=>181 | 37=>204 | 38=>205 | 39=>206 | 41=>210 | n=>n,fun | 27=>148 | 29=>9 | 3=>3 | 32=>189 | 26=>148 | 0=>0 | 44=>207 | 46=>209 | 4=>4 | 36=>200 | 35=>199 | 41=>204 | 5=>5 | 9=>9 | 53=>220 | 57=>224 | 63=>237 | 64=>238 | n=>n,fun | n=>n⟩
theorem sortA:Go.Proofs.SlLaysM.n6 Tryz.prog sortA_ren:={
 mixed:=by kernel_rfl
 f6:=⟨Tryz.f150.name,by decide,Tryz.func150.trans (congrArg some (by kernel_rfl))⟩
 f8:=Tryz.func141.trans (congrArg some (by kernel_rfl))
 f9:=⟨Tryz.f174.name,by decide,Tryz.func174.trans (congrArg some (by kernel_rfl))⟩
 f19:=Tryz.func167.trans (congrArg some (by kernel_rfl))
 f20:=Tryz.func168.trans (congrArg some (by kernel_rfl))
 f21:=⟨Tryz.f184.name,by decide,Tryz.func184.trans (congrArg some (by kernel_rfl))⟩
 f22:=⟨Tryz.f185.name,by decide,Tryz.func185.trans (congrArg some (by kernel_rfl))⟩
 f23:=⟨Tryz.f186.name,by decide,Tryz.func186.trans (congrArg some (by kernel_rfl))⟩
 f24:=⟨Tryz.f187.name,by decide,Tryz.func187.trans (congrArg some (by kernel_rfl))⟩
 f25:=⟨Tryz.f188.name,by decide,Tryz.func188.trans (congrArg some (by kernel_rfl))⟩
 f26:=⟨Tryz.f189.name,by decide,Tryz.func189.trans (congrArg some (by kernel_rfl))⟩
 f27:=⟨Tryz.f190.name,by decide,Tryz.func190.trans (congrArg some (by kernel_rfl))⟩
 f28:=⟨Tryz.f191.name,by decide,Tryz.func191.trans (congrArg some (by kernel_rfl))⟩
 f29:=⟨Tryz.f192.name,by decide,Tryz.func192.trans (congrArg some (by kernel_rfl))⟩
 f31:=Tryz.func180.trans (congrArg some (by kernel_rfl))
 f32:=Tryz.func181.trans (congrArg some (by kernel_rfl))
 f36:=⟨Tryz.f203.name,by decide,Tryz.func203.trans (congrArg some (by kernel_rfl))⟩
 f37:=⟨Tryz.f204.name,by decide,Tryz.func204.trans (congrArg some (by kernel_rfl))⟩
 f38:=⟨Tryz.f205.name,by decide,Tryz.func205.trans (congrArg some (by kernel_rfl))⟩
 f39:=⟨Tryz.f206.name,by decide,Tryz.func206.trans (congrArg some (by kernel_rfl))⟩
 f41:=⟨Tryz.f210.name,by decide,Tryz.func210.trans (congrArg some (by kernel_rfl))⟩
 t0:=Tryz.underlying0
 a0:=Tryz.isAgg0
 z0:=Tryz.sizeOf0
 v0:=Tryz.zeroValue0
 t3:=Tryz.underlying3
 a3:=Tryz.isAgg3
 z3:=Tryz.sizeOf3
 v3:=Tryz.zeroValue3
 t4:=Tryz.underlying4
 a4:=Tryz.isAgg4
 z4:=Tryz.sizeOf4
 v4:=Tryz.zeroValue4
 t5:=Tryz.underlying5
 a5:=Tryz.isAgg5
 z5:=Tryz.sizeOf5
 v5:=Tryz.zeroValue5
 t9:=Tryz.underlying9
 a9:=Tryz.isAgg9
 z9:=Tryz.sizeOf9
 v9:=Tryz.zeroValue9
 t26:=Tryz.underlying148
 a26:=Tryz.isAgg148
 z26:=Tryz.sizeOf148
 v26:=Tryz.zeroValue148
 t27:=Tryz.underlying148
 a27:=Tryz.isAgg148
 z27:=Tryz.sizeOf148
 v27:=Tryz.zeroValue148
 t29:=Tryz.underlying9
 a29:=Tryz.isAgg9
 z29:=Tryz.sizeOf9
 v29:=Tryz.zeroValue9
 t32:=Tryz.underlying189
 a32:=Tryz.isAgg189
 z32:=Tryz.sizeOf189
 v32:=Tryz.zeroValue189
 t35:=Tryz.underlying199
 a35:=Tryz.isAgg199
 z35:=Tryz.sizeOf199
 v35:=Tryz.zeroValue199
 t36:=Tryz.underlying200
 a36:=Tryz.isAgg200
 z36:=Tryz.sizeOf200
 v36:=Tryz.zeroValue200
 t41:=Tryz.underlying204
 a41:=Tryz.isAgg204
 z41:=Tryz.sizeOf204
 v41:=Tryz.zeroValue204
 t44:=Tryz.underlying207
 a44:=Tryz.isAgg207
 z44:=Tryz.sizeOf207
 v44:=Tryz.zeroValue207
 t46:=Tryz.underlying209
 a46:=Tryz.isAgg209
 z46:=Tryz.sizeOf209
 v46:=Tryz.zeroValue209
 t53:=Tryz.underlying220
 a53:=Tryz.isAgg220
 z53:=Tryz.sizeOf220
 v53:=Tryz.zeroValue220
 t57:=Tryz.underlying224
 a57:=Tryz.isAgg224
 z57:=Tryz.sizeOf224
 v57:=Tryz.zeroValue224
 t63:=Tryz.underlying237
 a63:=Tryz.isAgg237
 z63:=Tryz.sizeOf237
 v63:=Tryz.zeroValue237
 t64:=Tryz.underlying238
 a64:=Tryz.isAgg238
 z64:=Tryz.sizeOf238
 v64:=Tryz.zeroValue238 }
def keysB_ren:Go.Shelf.Ren:=⟨fun | 7=>127 | 10=>154 | n=>n,fun | 23=>107 | 26=>3 | 3=>116 | 28=>178 | 0=>0 | 27=>177 | 33=>132 | 4=>4 | n=>n,fun | n=>n⟩
theorem keysB:Go.Proofs.SlLaysZI.n7 Tryz.prog keysB_ren:={
 mixed:=by kernel_rfl
 f7:=⟨Tryz.f127.name,by decide,Tryz.func127.trans (congrArg some (by kernel_rfl))⟩
 f10:=⟨Tryz.f154.name,by decide,Tryz.func154.trans (congrArg some (by kernel_rfl))⟩
 t0:=Tryz.underlying0
 a0:=Tryz.isAgg0
 z0:=Tryz.sizeOf0
 v0:=Tryz.zeroValue0
 t4:=Tryz.underlying4
 a4:=Tryz.isAgg4
 z4:=Tryz.sizeOf4
 v4:=Tryz.zeroValue4
 t23:=Tryz.underlying107
 a23:=Tryz.isAgg107
 z23:=Tryz.sizeOf107
 v23:=Tryz.zeroValue107
 t26:=Tryz.underlying3
 a26:=Tryz.isAgg3
 z26:=Tryz.sizeOf3
 v26:=Tryz.zeroValue3
 t27:=Tryz.underlying177
 a27:=Tryz.isAgg177
 z27:=Tryz.sizeOf177
 v27:=Tryz.zeroValue177
 t28:=Tryz.underlying178
 a28:=Tryz.isAgg178
 z28:=Tryz.sizeOf178
 v28:=Tryz.zeroValue178
 t33:=Tryz.underlying132
 a33:=Tryz.isAgg132
 z33:=Tryz.sizeOf132
 v33:=Tryz.zeroValue132 }
def sortedB_ren:Go.Shelf.Ren:=⟨fun | 6=>126 | 8=>152 | 9=>153 | 11=>175 | 13=>141 | 12=>176 | 23=>167 | 24=>168 | 14=>193 | 15=>194 | 16=>195 | 17=>196 | 18=>197 | 19=>198 | 20=>199 | 21=>200 | 22=>201 | 25=>207 | 26=>180 | 27=>181 | 28=>208 | 29=>209 | 30=>142 | 31=>211 | n=>n,fun | 26=>3 | 28=>178 | 24=>25 | 0=>0 | 3=>3 | 37=>189 | 48=>207 | 50=>209 | 4=>4 | 40=>200 | 39=>199 | 45=>204 | 5=>5 | 9=>9 | 51=>220 | 55=>224 | 57=>237 | 58=>238 | 33=>132 | n=>n,fun | n=>n⟩
theorem sortedB:Go.Proofs.SlLaysZI.n6 Tryz.prog sortedB_ren:={
 mixed:=by kernel_rfl
 f6:=⟨Tryz.f126.name,by decide,Tryz.func126.trans (congrArg some (by kernel_rfl))⟩
 f8:=⟨Tryz.f152.name,by decide,Tryz.func152.trans (congrArg some (by kernel_rfl))⟩
 f11:=⟨Tryz.f175.name,by decide,Tryz.func175.trans (congrArg some (by kernel_rfl))⟩
 t0:=Tryz.underlying0
 a0:=Tryz.isAgg0
 z0:=Tryz.sizeOf0
 v0:=Tryz.zeroValue0
 t24:=Tryz.underlying25
 a24:=Tryz.isAgg25
 z24:=Tryz.sizeOf25
 v24:=Tryz.zeroValue25
 t26:=Tryz.underlying3
 a26:=Tryz.isAgg3
 z26:=Tryz.sizeOf3
 v26:=Tryz.zeroValue3
 t28:=Tryz.underlying178
 a28:=Tryz.isAgg178
 z28:=Tryz.sizeOf178
 v28:=Tryz.zeroValue178
 i26:=by kernel_rfl }
def sortB_ren:Go.Shelf.Ren:=⟨fun | 5=>153 | 8=>141 | 7=>176 | 19=>167 | 20=>168 | 10=>193 | 11=>194 | 12=>195 | 13=>196 | 14=>197 | 15=>198 | 16=>199 | 17=>200 | 18=>201 | 30=>207 | 31=>180 | 32=>181 | 33=>208 | 34=>209 | 35=>142 | 40=>211 | n=>n,fun | 23=>25 | 25=>3 | 3=>3 | 32=>189 | 22=>25 | 0=>0 | 44=>207 | 46=>209 | 4=>4 | 36=>200 | 35=>199 | 41=>204 | 5=>5 | 9=>9 | 53=>220 | 57=>224 | 63=>237 | 64=>238 | n=>n,fun | n=>n⟩
theorem sortB:Go.Proofs.SlLaysM.n5 Tryz.prog sortB_ren:={
 mixed:=by kernel_rfl
 f5:=⟨Tryz.f153.name,by decide,Tryz.func153.trans (congrArg some (by kernel_rfl))⟩
 f7:=⟨Tryz.f176.name,by decide,Tryz.func176.trans (congrArg some (by kernel_rfl))⟩
 f8:=Tryz.func141.trans (congrArg some (by kernel_rfl))
 f10:=⟨Tryz.f193.name,by decide,Tryz.func193.trans (congrArg some (by kernel_rfl))⟩
 f11:=⟨Tryz.f194.name,by decide,Tryz.func194.trans (congrArg some (by kernel_rfl))⟩
 f12:=⟨Tryz.f195.name,by decide,Tryz.func195.trans (congrArg some (by kernel_rfl))⟩
 f13:=⟨Tryz.f196.name,by decide,Tryz.func196.trans (congrArg some (by kernel_rfl))⟩
 f14:=⟨Tryz.f197.name,by decide,Tryz.func197.trans (congrArg some (by kernel_rfl))⟩
 f15:=⟨Tryz.f198.name,by decide,Tryz.func198.trans (congrArg some (by kernel_rfl))⟩
 f16:=⟨Tryz.f199.name,by decide,Tryz.func199.trans (congrArg some (by kernel_rfl))⟩
 f17:=⟨Tryz.f200.name,by decide,Tryz.func200.trans (congrArg some (by kernel_rfl))⟩
 f18:=⟨Tryz.f201.name,by decide,Tryz.func201.trans (congrArg some (by kernel_rfl))⟩
 f19:=Tryz.func167.trans (congrArg some (by kernel_rfl))
 f20:=Tryz.func168.trans (congrArg some (by kernel_rfl))
 f30:=⟨Tryz.f207.name,by decide,Tryz.func207.trans (congrArg some (by kernel_rfl))⟩
 f31:=Tryz.func180.trans (congrArg some (by kernel_rfl))
 f32:=Tryz.func181.trans (congrArg some (by kernel_rfl))
 f33:=⟨Tryz.f208.name,by decide,Tryz.func208.trans (congrArg some (by kernel_rfl))⟩
 f34:=⟨Tryz.f209.name,by decide,Tryz.func209.trans (congrArg some (by kernel_rfl))⟩
 f35:=⟨Tryz.f142.name,by decide,Tryz.func142.trans (congrArg some (by kernel_rfl))⟩
 f40:=⟨Tryz.f211.name,by decide,Tryz.func211.trans (congrArg some (by kernel_rfl))⟩
 t0:=Tryz.underlying0
 a0:=Tryz.isAgg0
 z0:=Tryz.sizeOf0
 v0:=Tryz.zeroValue0
 t3:=Tryz.underlying3
 a3:=Tryz.isAgg3
 z3:=Tryz.sizeOf3
 v3:=Tryz.zeroValue3
 t4:=Tryz.underlying4
 a4:=Tryz.isAgg4
 z4:=Tryz.sizeOf4
 v4:=Tryz.zeroValue4
 t5:=Tryz.underlying5
 a5:=Tryz.isAgg5
 z5:=Tryz.sizeOf5
 v5:=Tryz.zeroValue5
 t9:=Tryz.underlying9
 a9:=Tryz.isAgg9
 z9:=Tryz.sizeOf9
 v9:=Tryz.zeroValue9
 t22:=Tryz.underlying25
 a22:=Tryz.isAgg25
 z22:=Tryz.sizeOf25
 v22:=Tryz.zeroValue25
 t23:=Tryz.underlying25
 a23:=Tryz.isAgg25
 z23:=Tryz.sizeOf25
 v23:=Tryz.zeroValue25
 t25:=Tryz.underlying3
 a25:=Tryz.isAgg3
 z25:=Tryz.sizeOf3
 v25:=Tryz.zeroValue3
 t32:=Tryz.underlying189
 a32:=Tryz.isAgg189
 z32:=Tryz.sizeOf189
 v32:=Tryz.zeroValue189
 t35:=Tryz.underlying199
 a35:=Tryz.isAgg199
 z35:=Tryz.sizeOf199
 v35:=Tryz.zeroValue199
 t36:=Tryz.underlying200
 a36:=Tryz.isAgg200
 z36:=Tryz.sizeOf200
 v36:=Tryz.zeroValue200
 t41:=Tryz.underlying204
 a41:=Tryz.isAgg204
 z41:=Tryz.sizeOf204
 v41:=Tryz.zeroValue204
 t44:=Tryz.underlying207
 a44:=Tryz.isAgg207
 z44:=Tryz.sizeOf207
 v44:=Tryz.zeroValue207
 t46:=Tryz.underlying209
 a46:=Tryz.isAgg209
 z46:=Tryz.sizeOf209
 v46:=Tryz.zeroValue209
 t53:=Tryz.underlying220
 a53:=Tryz.isAgg220
 z53:=Tryz.sizeOf220
 v53:=Tryz.zeroValue220
 t57:=Tryz.underlying224
 a57:=Tryz.isAgg224
 z57:=Tryz.sizeOf224
 v57:=Tryz.zeroValue224
 t63:=Tryz.underlying237
 a63:=Tryz.isAgg237
 z63:=Tryz.sizeOf237
 v63:=Tryz.zeroValue237
 t64:=Tryz.underlying238
 a64:=Tryz.isAgg238
 z64:=Tryz.sizeOf238
 v64:=Tryz.zeroValue238 }
end Go.Proofs.YticokpbelgpfmaaGreat.Sz
namespace Go.Proofs.YticokpbelgpfmaaGreat.Je
open Go.RowKit By Ap Tb Tw Mw Wa Bk Tp Da Ja Jb
open Lo (LkA uV clL OwnL zAG zAK Apart zAP)
open Tx (zAA zAC zAE zAJ zAD)
open Go.Shelf Go.Sort Go.Maps
theorem keysL_any (mb:Option Nat) (W:World):Calls Tryz.prog 125 #[.map mb] W fun e w'=>e=.returned (.func (.func 151) #[] #[.pointer (some ⟨W.heap.size,0,none⟩)])∧w'=W.alloc (.cells #[.map mb] 106) :=
 (callsIn_wide (n:=5)).1 (AnyZ.keys_in Sz.keysA Fence.wide 5 trivial rfl mb W)
theorem sortsL (m:Nat):AnyZ.SortsIn Tryz.prog Sz.sortedA_ren Fence.wide m :=
 ⟨fun blk off cap ss W hH hblk hsz=>callsIn_wide.2 (AnyM.slices_Sort_string Sz.sortA blk off cap ss W hH hblk hsz),fun p cap W=>callsIn_wide.2 (AnyM.slices_Sort_string_none Sz.sortA p cap W)⟩
theorem sortedL_any (b nn:Nat) (D0:DataW Value) (w:World) (hown:w.ownsMap Tryz.prog 9 RV b nn D0) (hmax:Maps.size D0≤maxLen) (hbytes:Maps.size D0 * 16≤140737488355328) :
 Calls Tryz.prog 124 #[.func (.func 151) #[] #[.pointer (some ⟨w.heap.size,0,none⟩)]] (w.alloc (.cells #[.map (some b)] 106)) fun e w'=>∃ (v:Value) (ss:List (List UInt8)),e=.returned v∧ss.Perm (strKeys D0) ∧
  w'.ownsRow (w.heap.size+1) 9 1 v ss.length ((ss.mergeSort (fun x y=>decide (x≤y))).map encStr)∧Below (w.heap.size+1) (w.alloc (.cells #[.map (some b)] 106)) w':=by
 refine (callsIn_wide (n:=5)).1 ?_
 have hbl:=hown.lt
 have hseq:SeqGives Fence.wide 2 Tryz.prog 151 #[.pointer (some ⟨w.heap.size,0,none⟩)] encStr (fun ss=>ss.Perm (strKeys D0)) (Maps.size D0) (w.alloc (.cells #[.map (some b)] 106)) :=
  AnyZ.keys_gives (ρ:=Sz.keysA_ren) { Sz.keysA with } Fence.wide _ trivial rfl (by omega) w.heap.size b nn D0 _ (by simp) (by simp) (by
   obtain ⟨es,clock,hb,Ft,hs,hD⟩:=hown
   exact ⟨es,clock,(Below.heap_alloc _ _ b hbl).trans hb,Ft,hs,hD⟩)
 have cS:=AnyZ.sorted_in Sz.sortedA Fence.wide 5 trivial trivial trivial trivial rfl (by omega) (sortsL _) (enters_of Tryz.func150 (by kernel_rfl) rfl) 151 #[.pointer (some ⟨w.heap.size,0,none⟩)] trivial (enters_of Tryz.func151 (by kernel_rfl) rfl) _ _ hmax hbytes _ hseq
 refine CallsIn.mono cS ?_
 rintro e w' ⟨v,ss,rfl,hS,hrow,_,hb⟩
 rw [show (w.alloc (.cells #[.map (some b)] 106)).heap.size=w.heap.size+1 from Bk.zAL _ _] at hrow hb
 exact ⟨v,ss,rfl,hS,hrow,hb⟩
theorem keysS_any (mb:Option Nat) (W:World):Calls Tryz.prog 127 #[.map mb] W fun e w'=>e=.returned (.func (.func 154) #[] #[.pointer (some ⟨W.heap.size,0,none⟩)])∧w'=W.alloc (.cells #[.map mb] 107) :=
 (callsIn_wide (n:=5)).1 (AnyZI.keys_in Sz.keysB Fence.wide 5 trivial rfl mb W)
theorem sortsS (m:Nat):AnyZI.SortsIn Tryz.prog Sz.sortedB_ren Fence.wide m :=
 ⟨fun blk off cap ss W hH hblk hsz=>callsIn_wide.2 (AnyM.slices_Sort_int Sz.sortB blk off cap ss W hH hblk hsz),fun p cap W=>callsIn_wide.2 (AnyM.slices_Sort_int_none Sz.sortB p cap W)⟩
theorem sortedS_any (b nn:Nat) (D0:DataW Value) (w:World) (hown:w.ownsMap Tryz.prog 3 RV b nn D0) (hmax:Maps.size D0≤maxLen) (hbytes:Maps.size D0 * 8≤140737488355328) :
 Calls Tryz.prog 126 #[.func (.func 154) #[] #[.pointer (some ⟨w.heap.size,0,none⟩)]] (w.alloc (.cells #[.map (some b)] 107)) fun e w'=>∃ (v:Value) (ss:List Int),e=.returned v∧ss.Perm (intKeys D0) ∧
  w'.ownsRow (w.heap.size+1) 3 1 v ss.length ((ss.mergeSort (fun x y=>decide (x≤y))).map encZ)∧Below (w.heap.size+1) (w.alloc (.cells #[.map (some b)] 107)) w':=by
 refine (callsIn_wide (n:=5)).1 ?_
 have hbl:=hown.lt
 have hseq:SeqGives Fence.wide 2 Tryz.prog 154 #[.pointer (some ⟨w.heap.size,0,none⟩)] encZ (fun ss=>ss.Perm (intKeys D0)) (Maps.size D0) (w.alloc (.cells #[.map (some b)] 107)) :=
  AnyZI.keys_gives (ρ:=Sz.keysB_ren) { Sz.keysB with } Fence.wide _ trivial rfl (by omega) w.heap.size b nn D0 _ (by simp) (by simp) (by
   obtain ⟨es,clock,hb,Ft,hs,hD⟩:=hown
   exact ⟨es,clock,(Below.heap_alloc _ _ b hbl).trans hb,Ft,hs,hD⟩)
 have cS:=AnyZI.sorted_in Sz.sortedB Fence.wide 5 trivial trivial trivial trivial rfl (by omega) (sortsS _) (enters_of Tryz.func153 (by kernel_rfl) rfl) 154 #[.pointer (some ⟨w.heap.size,0,none⟩)] trivial (enters_of Tryz.func154 (by kernel_rfl) rfl) _ _ hmax hbytes _ hseq
 refine CallsIn.mono cS ?_
 rintro e w' ⟨v,ss,rfl,hS,hrow,_,hb⟩
 rw [show (w.alloc (.cells #[.map (some b)] 107)).heap.size=w.heap.size+1 from Bk.zAL _ _] at hrow hb
 exact ⟨v,ss,rfl,hS,hrow,hb⟩
theorem zeroL (W:World):(zeroValue 45).run Tryz.prog W=.ok (.agg #[.string ⟨#[]⟩,.int .i64 0,.int .i64 0,.int .i64 0,.slice none 0 0]) W:=Tryz.zeroValue45 W
theorem zeroS (W:World):(zeroValue 116).run Tryz.prog W=.ok (.agg #[.int .i64 0,.int .i64 0,.int .i64 0,.int .i64 0,.int .i64 0,.int .i64 0]) W:=Tryz.zeroValue116 W
theorem rv_inv {v v':Value} {d:DataW Value} {ps:List MemPlace} (h:RV v=some (d,ps)) (hd:d=.held v'):v=v':=by
 unfold RV at h
 injection h with h
 injection h with h1 h2
 rw [hd] at h1
 injection h1
theorem lookL {w:World} {b n:Nat} {ps:List LkA} (hm:MapL w b n (mL ps)) (ha:NmA (ps.map (·.1))) {p:LkA} (hp:p ∈ ps) (hs:p.1.n.size≤1000000):(Instr.lookup 106 (.map (some b)) (.string p.1.n) false).run Tryz.prog w=.ok (lkV p.1 (uV p)) w:=by
 obtain ⟨v,q,hrun,hv⟩:=hm.lookup (Maps.string_keyed Tryz.underlying9) Tryz.underlying106 (zeroL w) (zd:=.held (.agg #[.string ⟨#[]⟩,.int .i64 0,.int .i64 0,.int .i64 0,.slice none 0 0])) (zp:=[]) rfl (WideMaps.keyOf_string_mk Tryz.underlying9 (s:=p.1.n) (by unfold maxLen;omega))
 rw [rv_inv hv (at_hit key_L ha.asc hp _)] at hrun
 exact hrun
theorem lookS {w:World} {b n:Nat} {ss:List Sn} (hm:MapS w b n (mS ss)) (ha:ClA ss) {s:Sn} (hp:s ∈ ss) (hs:0≤s.c∧s.c≤255):(Instr.lookup 107 (.map (some b)) (.int .i64 s.c) false).run Tryz.prog w=.ok (snV s) w:=by
 obtain ⟨v,q,hrun,hv⟩:=hm.lookup (Maps.int_keyed Tryz.underlying3) Tryz.underlying107 (zeroS w) (zd:=.held (.agg #[.int .i64 0,.int .i64 0,.int .i64 0,.int .i64 0,.int .i64 0,.int .i64 0])) (zp:=[]) rfl (Maps.keyOf_int_mk Tryz.underlying3 (wf_small hs))
 rw [rv_inv hv (at_hit key_S ha.asc hp _)] at hrun
 exact hrun
theorem lookL_ok {w:World} {b n:Nat} {ps:List LkA} (hm:MapL w b n (mL ps)) (ha:NmA (ps.map (·.1))) {p:LkA} (hp:p ∈ ps) (hs:p.1.n.size≤1000000):(Instr.lookup 106 (.map (some b)) (.string p.1.n) true).run Tryz.prog w=.ok (.tuple #[lkV p.1 (uV p),.bool true]) w:=by
 obtain ⟨v,q,hrun,hv⟩:=hm.look_ok (Maps.string_keyed Tryz.underlying9) Tryz.underlying106 (zeroL w) (zd:=.held (.agg #[.string ⟨#[]⟩,.int .i64 0,.int .i64 0,.int .i64 0,.slice none 0 0])) (zp:=[]) rfl (WideMaps.keyOf_string_mk Tryz.underlying9 (s:=p.1.n) (by unfold maxLen;omega))
 rw [rv_inv hv (at_hit key_L ha.asc hp _),show Maps.has (mL ps) (.string p.1.n.data.toList)=true from has_hit key_L hp] at hrun
 exact hrun
theorem lookL_no {w:World} {b n:Nat} {ps:List LkA} (hm:MapL w b n (mL ps)) {nm:ByteArray} (hp:∀ p ∈ ps,p.1.n ≠ nm) (hs:nm.size≤1000000):(Instr.lookup 106 (.map (some b)) (.string nm) true).run Tryz.prog w=.ok (.tuple #[.agg #[.string ⟨#[]⟩,.int .i64 0,.int .i64 0,.int .i64 0,.slice none 0 0],.bool false]) w:=by
 obtain ⟨v,q,hrun,hv⟩:=hm.look_ok (Maps.string_keyed Tryz.underlying9) Tryz.underlying106 (zeroL w) (zd:=.held (.agg #[.string ⟨#[]⟩,.int .i64 0,.int .i64 0,.int .i64 0,.slice none 0 0])) (zp:=[]) rfl (WideMaps.keyOf_string_mk Tryz.underlying9 (s:=nm) (by unfold maxLen;omega))
 have hne:∀ p ∈ ps,(eL p).1 ≠ kS nm:=fun p hpp e=>hp p hpp (Lp.toList_inj (by injection e))
 rw [rv_inv hv (at_miss hne _),show Maps.has (mL ps) (.string nm.data.toList)=false from has_miss hne] at hrun
 exact hrun
theorem lookS_ok {w:World} {b n:Nat} {ss:List Sn} (hm:MapS w b n (mS ss)) (ha:ClA ss) {s:Sn} (hp:s ∈ ss) (hs:0≤s.c∧s.c≤255):(Instr.lookup 107 (.map (some b)) (.int .i64 s.c) true).run Tryz.prog w=.ok (.tuple #[snV s,.bool true]) w:=by
 obtain ⟨v,q,hrun,hv⟩:=hm.look_ok (Maps.int_keyed Tryz.underlying3) Tryz.underlying107 (zeroS w) (zd:=.held (.agg #[.int .i64 0,.int .i64 0,.int .i64 0,.int .i64 0,.int .i64 0,.int .i64 0])) (zp:=[]) rfl (Maps.keyOf_int_mk Tryz.underlying3 (wf_small hs))
 rw [rv_inv hv (at_hit key_S ha.asc hp _),show Maps.has (mS ss) (.int .i64 s.c)=true from has_hit key_S hp] at hrun
 exact hrun
theorem lookS_no {w:World} {b n:Nat} {ss:List Sn} (hm:MapS w b n (mS ss)) {c:Int} (hp:∀ s ∈ ss,s.c ≠ c) (hs:0≤c∧c≤255):(Instr.lookup 107 (.map (some b)) (.int .i64 c) true).run Tryz.prog w=.ok (.tuple #[.agg #[.int .i64 0,.int .i64 0,.int .i64 0,.int .i64 0,.int .i64 0,.int .i64 0],.bool false]) w:=by
 obtain ⟨v,q,hrun,hv⟩:=hm.look_ok (Maps.int_keyed Tryz.underlying3) Tryz.underlying107 (zeroS w) (zd:=.held (.agg #[.int .i64 0,.int .i64 0,.int .i64 0,.int .i64 0,.int .i64 0,.int .i64 0])) (zp:=[]) rfl (Maps.keyOf_int_mk Tryz.underlying3 (wf_small hs))
 have hne:∀ s ∈ ss,(eS s).1 ≠ kI c:=fun s hss e=>hp s hss (by injection e)
 rw [rv_inv hv (at_miss hne _),show Maps.has (mS ss) (.int .i64 c)=false from has_miss hne] at hrun
 exact hrun
end Go.Proofs.YticokpbelgpfmaaGreat.Je
