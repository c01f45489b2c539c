/- Texts put together: Ol, Lf, Tr. -/
import Derived.Test.YticokpbelgpfmaaGreatMa7
namespace Go.Proofs.YticokpbelgpfmaaGreat.Lo
open Go.RowKit By Ap Tb Tw Mw Wa
open Tx (zAD)
abbrev LkA:=Lk × Option Addr × Nat
def uV (p:LkA):Value:=.slice p.2.1 p.1.ws.length p.2.2
def clL (p:LkA):List Value:=[.string p.1.n,.int .i64 p.1.t,.int .i64 p.1.h,.int .i64 p.1.e,uV p]
theorem oneL (p:LkA):∀ u ∈ clL p,u.oneCell'=true:=by
 intro u hu
 unfold clL at hu
 simp only [List.mem_cons,List.not_mem_nil,or_false] at hu
 rcases hu with h | h | h | h | h <;> (rw [h];rfl)
theorem lenL:∀ (ms:List LkA),(ms.flatMap clL).length=ms.length * 5
 | []=>rfl
 | x :: xs=>by rw [List.flatMap_cons,List.length_append,lenL xs];show 5+_=_;rw [List.length_cons];omega
theorem atL:∀ (ms:List LkA) (i:Nat) (x:LkA) (j:Nat),ms[i]?=some x→j<5→(ms.flatMap clL)[i * 5+j]?=(clL x)[j]?
 | [],i,x,j,h,_=>by simp at h
 | y :: ys,0,x,j,h,hj=>by
   simp at h
   subst h
   rw [List.flatMap_cons,Nat.zero_mul,Nat.zero_add,List.getElem?_append_left (by show _<5;exact hj)]
 | y :: ys,i+1,x,j,h,hj=>by
   have h':ys[i]?=some x:=by simpa using h
   rw [List.flatMap_cons,List.getElem?_append_right (by show 5≤_;omega),show (i+1) * 5+j - (clL y).length=i * 5+j by show _ - 5=_;omega]
   exact atL ys i x j h' hj
def OwnL (w:World) (B:Nat) (v:Value) (ms:List LkA):Prop:=w.ownsRow B 45 5 v ms.length (ms.flatMap clL)
theorem OwnL.kept {w w':World} {B:Nat} {v:Value} {ms:List LkA} (h:OwnL w B v ms) (hk:∀ g,v.ownBlock=some g→w'.heap[g]?=w.heap[g]?):OwnL w' B v ms:=by
 obtain ⟨hl,h⟩:=h
 refine ⟨hl,?_⟩
 rcases h with h | ⟨g,cap,cur,rfl,h1,hg,h2⟩
 ·exact .inl h
 ·exact .inr ⟨g,cap,cur,rfl,h1,(hk g rfl).trans hg,h2⟩
theorem OwnL.lt {w:World} {B:Nat} {v:Value} {ms:List LkA} (h:OwnL w B v ms):∀ g,v.ownBlock=some g→B≤g∧g<w.heap.size:=World.ownsRow.lt h
theorem OwnL.below {w w':World} {B:Nat} {v:Value} {ms:List LkA} (h:OwnL w B v ms) (hb:Below w.heap.size w w'):OwnL w' B v ms:=h.kept fun g hg=>hb.block g (h.lt g hg).2
theorem OwnL.alloc {w:World} {B:Nat} {v:Value} {ms:List LkA} (h:OwnL w B v ms) (o:Obj):OwnL (w.alloc o) B v ms:=h.below (zAD _ _)
theorem OwnL.slice {w:World} {B:Nat} {v:Value} {ms:List LkA} (h:OwnL w B v ms):∃ a cap,v=.slice a ms.length cap:=by
 obtain ⟨_,h | ⟨g,cap,cur,he,_⟩⟩:=h
 ·exact ⟨none,0,by rw [h.1,h.2]⟩
 ·exact ⟨_,cap,he⟩
theorem zAG {w:World} {B e n m:Nat} {v:Value} {xs:List Value} (h:w.ownsRow B e n v m xs) {g:Nat} (hg:v.ownBlock=some g):∃ cur,w.heap[g]?=some (.cells cur e (0,0)):=by
 obtain ⟨_,⟨rfl,_⟩ | ⟨g',cap,cur,rfl,_,h1,_⟩⟩:=h
 ·cases hg
 ·cases hg;exact ⟨cur,h1⟩
theorem zAK {w:World} {g x:Nat} {cs ds:Array Value} {e d:TypeId} (h:w.heap[g]?=some (.cells cs e (0,0))) (k:w.heap[x]?=some (.cells ds d (0,0))) (hne:e ≠ d):g ≠ x:=by
 rintro rfl
 rw [h] at k
 injection k with k
 injection k with _ k
 exact hne k
theorem OwnL.row {w:World} {B:Nat} {v:Value} {ms:List LkA} (h:OwnL w B v ms) (hr:∀ p ∈ ms,RowW w (uV p) p.1.ws):RowL w v (ms.map (·.1)):=by
 obtain ⟨hl,h⟩:=h
 rcases h with ⟨rfl,h0⟩ | ⟨g,cap,cur,rfl,hB,hg,hc,_,hs,htk⟩
 ·exact ⟨none,0,by rw [List.length_map,h0],.inl (by rw [List.length_eq_zero_iff.1 h0];rfl)⟩
 ·refine ⟨_,cap,by rw [List.length_map],.inr ⟨g,0,rfl,by rw [List.length_map];exact hc,(Array.getElem?_eq_some_iff.1 hg).1,fun i x hi=>?_⟩⟩
  rw [List.getElem?_map] at hi
  obtain ⟨p,hp,rfl⟩:=Option.map_eq_some_iff.1 hi
  have hil:=zAw hp
  have key:∀ j u,j<5→(clL p)[j]?=some u→w.cell? ⟨g,0+i * 5+j,none⟩=some u:=fun j u hj hu=>by
   rw [Nat.zero_add,Joins.cell_of_block hg,← Array.getElem?_toList]
   have h1:=atL ms i p j hp hj
   rw [← htk,List.getElem?_take,if_pos (by omega)] at h1
   rw [h1,hu]
  exact ⟨uV p,key 0 _ (by decide) rfl,key 1 _ (by decide) rfl,key 2 _ (by decide) rfl,key 3 _ (by decide) rfl,key 4 _ (by decide) rfl,hr p (zAp hp)⟩
theorem infoL:(Tryz.prog.info? 45).map (fun i=>(i.zero,i.size,i.bytes))=some (some (.agg #[.string ⟨#[]⟩,.int .i64 0,.int .i64 0,.int .i64 0,.slice none 0 0]),5,64):=by kernel_rfl
theorem list_lk {P:Program} {ops:Array Oper} {rest:List Oper} {o:Oper} {a:Act} {Q:Exit→Act→World→Prop} (hgd:o.guard=none) (s x:Operand) (t:TypeId)
 (ho:o.op=.call { callee:=.builtin .append,args:=#[s,x],argTypes:=#[t,t] }) (i:TypeInfo) (ht:P.underlying t=some (.slice 45)) (hi:P.info? 45=some i) (hz:i.zero=some (.agg #[.string ⟨#[]⟩,.int .i64 0,.int .i64 0,.int .i64 0,.slice none 0 0]))
 (hsize:i.size=5) (hby:i.bytes=64) (B:Nat) (w0 W:World) (v:Value) (ms:List LkA) (m:LkA) (hs:a.eval s=v) (hown:OwnL W B v ms) (hg0:Below B w0 W) (hB:B≤W.heap.size)
 (gx:Nat) (hx:a.eval x=.slice (some ⟨gx,0,none⟩) 1 1) (hgx:W.heap.size=gx) (hlen:ms.length≤1000000)
 (h:∀ v' w',OwnL w' B v' (ms ++ [m])→Below B w0 w'→(∀ k,k<W.heap.size→some k ≠ v.ownBlock→w'.heap[k]?=W.heap[k]?)→wpList P ops Q rest (a.put o.dst v') w'):wpList P ops Q (o :: rest) a (W.alloc (.cells #[.string m.1.n,.int .i64 m.1.t,.int .i64 m.1.h,.int .i64 m.1.e,.slice m.2.1 m.1.ws.length m.2.2] 45)):=by
 subst hgx
 have hown':=hown.alloc (.cells #[.string m.1.n,.int .i64 m.1.t,.int .i64 m.1.h,.int .i64 m.1.e,.slice m.2.1 m.1.ws.length m.2.2] 45)
 refine wpList_append_own_at (P:=P) _ hgd s x t ho B 45 i _ 5 64 ht hi hz hsize hby rfl (by decide) v ms.length _ hs hown' ⟨W.heap.size,0,none⟩ 1 1 (clL m) hx rfl ?_ (oneL m) (by unfold maxLen;omega) (by omega) (by simp;omega) ?_
 ·intro j u hj
  have h2:(⟨W.heap.size,0,none⟩ : Addr).add j=⟨W.heap.size,j,none⟩:=by unfold Addr.add;split <;> simp_all
  rw [h2,Joins.cell_of_block (heap_alloc_new W _),← hj]
  simp [clL,uV]
 ·intro v' w' h1 h2 h3 h4
  exact h v' w' (by unfold OwnL;rw [List.flatMap_append,List.length_append];simpa using h1) ((hg0.alloc hB _).grown h2 (by simp;omega) (fun k hk=>(hown'.lt k hk).1)) (fun k hk hn=>(h2.block k (by simp;omega) hn).trans (Below.heap_alloc W _ k hk))
theorem OwnL.mono {w:World} {B B':Nat} {v:Value} {ms:List LkA} (h:OwnL w B v ms) (hb:B'≤B):OwnL w B' v ms:=by
 obtain ⟨hl,h⟩:=h
 refine ⟨hl,?_⟩
 rcases h with h | ⟨g,cap,cur,rfl,h1,hg,h2⟩
 ·exact .inl h
 ·exact .inr ⟨g,cap,cur,rfl,Nat.le_trans hb h1,hg,h2⟩
end Go.Proofs.YticokpbelgpfmaaGreat.Lo
namespace Go.Proofs.YticokpbelgpfmaaGreat.Lf
open Go.RowKit By Ap Tx Tb Tw
theorem toList_ne {a b:ByteArray} (h:¬ a=b):(a.toList == b.toList)=false:=by
 apply beq_eq_false_iff_ne.2
 intro hh
 rw [Lib.toList_data,Lib.toList_data] at hh
 apply h
 cases a
 cases b
 have h2:=Array.toList_inj.1 hh
 simp only at h2
 rw [h2]
def Fnd (ls:List Lk) (n:ByteArray) (r:Int):Prop:=(∃ (k:Nat) (x:Lk),r=k∧ls[k]?=some x∧x.n=n∧∀ (j:Nat) (y:Lk),j<k→ls[j]?=some y→y.n ≠ n) ∨ (r = -1∧∀ (j:Nat) (y:Lk),ls[j]?=some y→y.n ≠ n)
set_option maxRecDepth 100000 in
set_option maxHeartbeats 800000 in
theorem zAS (tm nx:Int) (vl vs:Value) (ls:List Lk) (n:ByteArray) (w:World) (hl:RowL w vl ls) (h1:ls.length≤1048576) :
 Calls Tryz.prog 131 #[tabV tm nx vl vs,.string n] w fun e w'=>∃ r,e=.returned (.int .i64 r)∧Fnd ls n r∧Below w.heap.size w w':=by
 obtain ⟨la,lc,rfl⟩:=RowG.slice hl
 have HX:Hid (∀ W,Below (w.alloc (.cells #[.int .i64 tm,.int .i64 nx,.slice la ls.length lc,vs] 30)).heap.size (w.alloc (.cells #[.int .i64 tm,.int .i64 nx,.slice la ls.length lc,vs] 30)) W→W.cell? ⟨w.heap.size,2,none⟩=some (.slice la ls.length lc)∧RowL W (.slice la ls.length lc) ls∧Below w.heap.size w W):=fun W hW=>by
  have h1:=(hW.block w.heap.size (by simp)).trans (heap_alloc_new w _)
  exact ⟨(zAA h1 2 rfl).1,(hl.below (zAD _ _)).below hW,(zAD w _).trans (hW.mono (by simp))⟩
 clear hl
 unfold tabV
 go_enter Tryz.func131,Tryz.ntmps131
 go_upto_region 1 with fail
 generalize w.alloc (.cells #[.int .i64 tm,.int .i64 nx,.slice la ls.length lc,vs] 30)=wb at HX ⊢
 go_wp2_with fail
 go_loop [5] (fun i=>∃ k:Nat,k≤ls.length∧i=.int .i64 k∧Hid (∀ (j:Nat) (y:Lk),j<k→ls[j]?=some y→y.n ≠ n)) (fun i=>ls.length - (intOf i).toNat)
 case atStart=>exact ⟨0,by omega,rfl,fun j y hj=>absurd hj (by omega)⟩
 case round =>
  obtain ⟨k,hk,rfl,HN⟩:=hrel
  obtain ⟨x2,hr,hb⟩:=HX.out wb (Below.refl _ _)
  have HB:Hid (Below w.heap.size w wb):=hb
  by_cases hlt:k<ls.length
  ·obtain ⟨x,hx⟩:=Tw.get_at hlt
   obtain ⟨b,off,rfl,hbl,u,c0,c1,c2,c3,c4,c5⟩:=RowG.at hr rfl hx
   have HXX:Hid (ls[k]?=some x):=hx
   clear hx c5 hr hb c1 c2 c3 c4
   by_cases he:x.n=n
   ·have hq:(x.n.toList == n.toList)=true:=by rw [he];simp
    go_wp2
    go_ret
    exact ⟨(k:Int),rfl,.inl ⟨k,x,rfl,HXX.out,he,HN.out⟩,HB.out⟩
   ·have hq:(x.n.toList == n.toList)=false:=toList_ne he
    go_wp2
    go_round
    case rel=>exact ⟨k+1,by omega,by go_num,fun j y hj hy=>by
     by_cases e:j=k
     ·subst e
      rw [HXX.out] at hy
      cases hy
      exact he
     ·exact HN.out j y (by omega) hy⟩
    case measure=>simp [intOf];omega
  ·obtain rfl:k=ls.length:=by omega
   clear hr hb
   go_wp2
   go_ret
   exact ⟨-1,rfl,.inr ⟨rfl,fun j y hy=>HN.out j y (Tw.zAw hy) hy⟩,HB.out⟩
end Go.Proofs.YticokpbelgpfmaaGreat.Lf
namespace Go.Proofs.YticokpbelgpfmaaGreat.Tp
open Go.RowKit Ap Tx Tb Tw Rq
theorem with_any (x a b:Int) (w:World):Calls Tryz.prog 60 #[.int .i64 x,.int .i64 a,.int .i64 b] w fun e w'=>e=.returned (.bool (inB x a b))∧w=w':=(zAO x a b w).mono fun _ _ ⟨h1,h2⟩=>⟨h1,h2.symm⟩
set_option maxRecDepth 100000 in
set_option maxHeartbeats 1600000 in
theorem implTableOK_any (tm nx:Int) (vl vs:Value) (ls:List Lk) (ss:List Sn) (w:World) (hl:RowL w vl ls) (hs:RowS w vs ss) (hw:∀ x ∈ ls,x.n.size≤1048576∧x.ws.length≤1048576) (hy1:ls.length≤1048576) (hy2:ss.length≤1048576) :
 Calls Tryz.prog 15 #[tabV tm nx vl vs] w fun e w'=>e=.returned (.bool (bOf (TOK ⟨tm,nx,ls,ss⟩)))∧Below w.heap.size w w':=by
 obtain ⟨la,lc,rfl⟩:=RowG.slice hl
 obtain ⟨sa,sc,rfl⟩:=RowG.slice hs
 have HTK:Hid (TOK ⟨tm,nx,ls,ss⟩ ↔ (inB tm 0 1000000000=true∧inB nx 1 1000000=true∧ls.length≤4∧LsOK nx ls∧ss.length≤6∧SsOK ss)):=Iff.rfl
 have HWZ:Hid (∀ x ∈ ls,x.n.size≤1048576∧x.ws.length≤1048576):=hw
 unfold tabV
 have HX:Hid (∀ W,Below (w.alloc (.cells #[.int .i64 tm,.int .i64 nx,.slice la ls.length lc,.slice sa ss.length sc] 30)).heap.size (w.alloc (.cells #[.int .i64 tm,.int .i64 nx,.slice la ls.length lc,.slice sa ss.length sc] 30)) W→(W.cell? ⟨w.heap.size,0,none⟩=some (.int .i64 tm)∧W.cell? ⟨w.heap.size,1,none⟩=some (.int .i64 nx)∧W.cell? ⟨w.heap.size,2,none⟩=some (.slice la ls.length lc)∧W.cell? ⟨w.heap.size,3,none⟩=some (.slice sa ss.length sc))∧RowL W (.slice la ls.length lc) ls∧RowS W (.slice sa ss.length sc) ss∧Below w.heap.size w W):=fun W hW=>by
  have h1:=(hW.block w.heap.size (by simp)).trans (heap_alloc_new w _)
  exact ⟨⟨(zAA h1 0 rfl).1,(zAA h1 1 rfl).1,(zAA h1 2 rfl).1,(zAA h1 3 rfl).1⟩,(hl.below (zAD _ _)).below hW,(hs.below (zAD _ _)).below hW,(zAD w _).trans (hW.mono (by simp))⟩
 clear hl hs hw
 generalize HTO:bOf (TOK ⟨tm,nx,ls,ss⟩)=tok
 have HT:Hid (bOf (TOK ⟨tm,nx,ls,ss⟩)=tok):=HTO
 clear HTO
 go_enter Tryz.func15,Tryz.ntmps15
 go_upto_region 1 with fail
 generalize w.alloc (.cells #[.int .i64 tm,.int .i64 nx,.slice la ls.length lc,.slice sa ss.length sc] 30)=wb at HX ⊢
 obtain ⟨⟨x0,x1,x2,x3⟩,_,_,hb0⟩:=HX.out wb (Below.refl _ _)
 have HB0:Hid (Below w.heap.size w wb):=hb0
 clear hb0
 cases h1:inB tm 0 1000000000 with
 | false =>
   have HF:Hid (tok=false):=HT.out.symm.trans (zAM fun h=>by have:=(HTK.out.1 h).1;rw [h1] at this;cases this)
   go_wp2_with (go_at_call 60;refine (with_any _ _ _ _).mono ?_;rintro e w1 ⟨rfl,rfl⟩;rw [h1])
   go_ret
   exact ⟨zAH HF.out.symm,HB0.out⟩
 | true =>
 cases h2:inB nx 1 1000000 with
 | false =>
   have HF:Hid (tok=false):=HT.out.symm.trans (zAM fun h=>by have:=(HTK.out.1 h).2.1;rw [h2] at this;cases this)
   go_wp2_with (go_at_call 60;refine (with_any _ _ _ _).mono ?_;rintro e w1 ⟨rfl,rfl⟩;first | rw [h1] | rw [h2])
   go_ret
   exact ⟨zAH HF.out.symm,HB0.out⟩
 | true =>
 by_cases h3:ls.length≤4
 ·have h3':(ls.length:Int)≤4:=by omega
  have hnx:=zAQ h2
  have HLO:Hid (Calls Tryz.prog 61 #[.slice la ls.length lc,.int .i64 nx] wb fun e w'=>e=.returned (.bool (bOf (LsOK nx ls)))∧w'.cell? ⟨w.heap.size,3,none⟩=some (.slice sa ss.length sc)∧Hid (RowS w' (.slice sa ss.length sc) ss∧Below w.heap.size w w')):=(locksOK_any _ ls nx wb (HX.out wb (Below.refl _ _)).2.1 hy1 HWZ.out hnx.1 hnx.2).mono fun e w' ⟨he,hb⟩=>by
   obtain ⟨⟨_,_,_,q3⟩,_,q5,q6⟩:=HX.out w' hb
   exact ⟨he,q3,q5,q6⟩
  cases h4:bOf (LsOK nx ls) with
  | false =>
    have HF:Hid (tok=false):=HT.out.symm.trans (zAM fun h=>by rw [zAW (HTK.out.1 h).2.2.2.1] at h4;cases h4)
    rw [h4] at HLO
    clear h4
    go_wp2_with (first | (go_at_call 60;refine (with_any _ _ _ _).mono ?_;rintro e w1 ⟨rfl,rfl⟩;first | rw [h1] | rw [h2]) | (go_at_call 61;refine HLO.out.mono ?_;rintro e w2 ⟨rfl,q3,Q2⟩;clear x0 x1 x2 x3))
    go_ret
    exact ⟨zAH HF.out.symm,Q2.out.2⟩
  | true =>
    have HLS:Hid (LsOK nx ls):=(show LsOK nx ls from Classical.byContradiction fun hn=>by rw [zAM hn] at h4;cases h4)
    rw [h4] at HLO
    clear h4
    by_cases h5:ss.length≤6
    ·have h5':(ss.length:Int)≤6:=by omega
     have HF:Hid (tok=bOf (SsOK ss)):=by
      show _=_
      rw [← HT.out]
      by_cases hh:SsOK ss
      ·rw [zAW hh,zAW (HTK.out.2 ⟨h1,h2,h3,HLS.out,h5,hh⟩)]
      ·rw [zAM hh,zAM fun h=>hh (HTK.out.1 h).2.2.2.2.2]
     have HSO:Hid (∀ w2,RowS w2 (.slice sa ss.length sc) ss→Below w.heap.size w w2→Calls Tryz.prog 62 #[.slice sa ss.length sc] w2 fun e w'=>e=.returned (.bool tok)∧Below w.heap.size w w'):=fun w2 hr hb=>(seensOK_any _ ss w2 hr hy2).mono fun e w' ⟨he,hb2⟩=>⟨by rw [HF.out];exact he,hb.trans (hb2.mono hb.size)⟩
     go_wp2_with (first | (go_at_call 60;refine (with_any _ _ _ _).mono ?_;rintro e w1 ⟨rfl,rfl⟩;first | rw [h1] | rw [h2]) | (go_at_call 61;refine HLO.out.mono ?_;rintro e w2 ⟨rfl,q3,Q2⟩;clear x0 x1 x2 x3) | (go_at_call 62;refine (HSO.out _ Q2.out.1 Q2.out.2).mono ?_;rintro e w3 ⟨rfl,g3⟩))
     go_ret
     exact ⟨rfl,g3⟩
    ·have h5':decide ((ss.length:Int)≤6)=false:=decide_eq_false (by omega)
     have h5'':¬ (ss.length:Int)≤6:=by omega
     have HF:Hid (tok=false):=HT.out.symm.trans (zAM fun h=>h5 (HTK.out.1 h).2.2.2.2.1)
     go_wp2_with (first | (go_at_call 60;refine (with_any _ _ _ _).mono ?_;rintro e w1 ⟨rfl,rfl⟩;first | rw [h1] | rw [h2]) | (go_at_call 61;refine HLO.out.mono ?_;rintro e w2 ⟨rfl,q3,Q2⟩;clear x0 x1 x2 x3))
     go_ret
     exact ⟨zAH HF.out.symm,Q2.out.2⟩
 ·have h3':decide ((ls.length:Int)≤4)=false:=decide_eq_false (by omega)
  have h3'':¬ (ls.length:Int)≤4:=by omega
  have HF:Hid (tok=false):=HT.out.symm.trans (zAM fun h=>h3 (HTK.out.1 h).2.2.1)
  go_wp2_with (go_at_call 60;refine (with_any _ _ _ _).mono ?_;rintro e w1 ⟨rfl,rfl⟩;first | rw [h1] | rw [h2])
  go_ret
  exact ⟨zAH HF.out.symm,HB0.out⟩
end Go.Proofs.YticokpbelgpfmaaGreat.Tp
