/- Texts put together: Fd, Mw, Ml. -/
import Derived.Test.YticokpbelgpfmaaGreatMa5
import Derived.Deep.RegionWith
namespace Go.Proofs.YticokpbelgpfmaaGreat.Da
open Go.RowKit Tb Tw Tp Rq
def newL (nm:ByteArray):Lk:=⟨nm,0,-1,0,[]⟩
def doT (t:Tab) (r:Ask):Tab × An :=
 match idx t.ls r.nm with
 | some k=>(⟨t.tm,acN t.nx r (t.ls.getD k default),t.ls.set k (acL t.tm t.nx r (t.ls.getD k default)),t.ss⟩,tell (acK r (t.ls.getD k default)) (acL t.tm t.nx r (t.ls.getD k default)))
 | none=>if r.kd ≠ 1 then (t,bare 3) else if 4≤t.ls.length then (t,bare 6) else
   (⟨t.tm,acN t.nx r (newL r.nm),putAt t.ls (plc t.ls r.nm) (acL t.tm t.nx r (newL r.nm)),t.ss⟩,tell (acK r (newL r.nm)) (acL t.tm t.nx r (newL r.nm)))
def AnOK (a:An):Prop:=zBD a.k a.t a.h a.e
theorem bare_ok {k:Int} (h1:1≤k) (h2:k≤8):AnOK (bare k):=⟨zAf h1 h2,zAf (show (0:Int)≤0 by decide) (show (0:Int)≤1000000 by decide),zAf (show (-1:Int)≤-1 by decide) (show (-1:Int)≤255 by decide),zAf (show (0:Int)≤0 by decide) (show (0:Int)≤2000000000 by decide)⟩
theorem stK_in (x:Lk):1≤stK x∧stK x≤8:=by unfold stK;split <;> omega
theorem acK_in (r:Ask) (x:Lk):1≤acK r x∧acK r x≤8:=by
 have:=stK_in x
 unfold acK
 repeat' split
 all_goals omega
theorem hd_in {x:Lk} (h:HdOK x):(-1≤x.h∧x.h≤255)∧0≤x.e∧x.e≤2000000000:=by
 rcases h with ⟨h1,h2,_⟩ | ⟨_,h2,h3,_⟩
 ·omega
 ·have:=zAQ h2;have:=zAQ h3;omega
theorem tell_ok {k:Int} {x:Lk} (h1:1≤k) (h2:k≤8) (h:HdOK x) (h3:0≤x.t) (h4:x.t≤1000000):AnOK (tell k x):=by
 have:=hd_in h
 exact ⟨zAf h1 h2,zAf h3 h4,zAf this.1.1 this.1.2,zAf this.2.1 this.2.2⟩
theorem new_hd (nm:ByteArray):HdOK (newL nm):=.inl ⟨rfl,rfl,rfl⟩
theorem doT_nx (t:Tab) (r:Ask):t.nx≤(doT t r).1.nx∧(doT t r).1.nx≤t.nx+1:=by
 unfold doT
 repeat' split
 all_goals first | exact acN_le _ _ _ | (simp only;omega)
theorem doT_ss (t:Tab) (r:Ask):(doT t r).1.ss=t.ss∧(doT t r).1.tm=t.tm:=by
 unfold doT
 repeat' split
 all_goals exact ⟨rfl,rfl⟩
theorem doT_ok {t:Tab} {r:Ask} (h:TOK t) (hr:zBQ r) (he:less ⟨#[]⟩ r.nm=true) (hn:t.nx≤999999):TOK (doT t r).1∧AnOK (doT t r).2:=by
 obtain ⟨a1,a2,a3,a4,a5,a6⟩:=h
 have b1:=zAQ a1
 have b2:=zAQ a2
 unfold doT
 split
 ·rename_i k hk
  obtain ⟨x,hx,hxn⟩:=zBC _ _ hk
  have e:t.ls.getD k default=x:=by rw [List.getD_eq_getElem?_getD,hx];rfl
  rw [e]
  obtain ⟨c1,c2,c3,c4⟩:=a4 k x hx
  have c5:=zAQ c3
  have d1:=acL_tok (tm:=t.tm) (nx:=t.nx) (r:=r) (x:=x) c5.1 c5.2 (by omega)
  have d2:=acN_le t.nx r x
  have d3:=acL_hd (tm:=t.tm) (nx:=t.nx) c4 hr b1.1 b1.2
  have d4:=acK_in r x
  exact ⟨⟨a1,zAf (show 1≤acN t.nx r x by omega) (show acN t.nx r x≤1000000 by omega),by simp only [List.length_set];exact a3,set_ok a4 d2.1 hx (zBT _ _ _ _) (zAf d1.1 d1.2) d3,a5,a6⟩,tell_ok d4.1 d4.2 d3 d1.1 (by omega)⟩
 ·rename_i hk
  split
  ·exact ⟨⟨a1,a2,a3,a4,a5,a6⟩,bare_ok (by decide) (by decide)⟩
  ·split
   ·exact ⟨⟨a1,a2,a3,a4,a5,a6⟩,bare_ok (by decide) (by decide)⟩
   ·rename_i h4
    have d1:=acL_tok (tm:=t.tm) (nx:=t.nx) (r:=r) (x:=newL r.nm) (show (0:Int)≤0 by decide) (show (0:Int)≤t.nx - 1 by omega) (by omega)
    have d2:=acN_le t.nx r (newL r.nm)
    have d3:=acL_hd (tm:=t.tm) (nx:=t.nx) (new_hd r.nm) hr b1.1 b1.2
    have d4:=acK_in r (newL r.nm)
    have d5:(acL t.tm t.nx r (newL r.nm)).n=r.nm:=zBT _ _ _ _
    have d6:=put_ok (x:=acL t.tm t.nx r (newL r.nm)) (ls_up a4 d2.1) (by rw [d5];exact hk) (by rw [d5];exact hr.2.2.2) (by rw [d5];exact he) (zAf d1.1 d1.2) d3
    rw [d5] at d6
    exact ⟨⟨a1,zAf (show 1≤acN t.nx r (newL r.nm) by omega) (show acN t.nx r (newL r.nm)≤1000000 by omega),by simp only;rw [show plc t.ls r.nm=plP (fun y:Lk=>less y.n r.nm) t.ls from rfl,putAt_len (plP_le _)];omega,d6,a5,a6⟩,tell_ok d4.1 d4.2 d3 d1.1 (by omega)⟩
def sn (r:Ask) (a:An):Sn:=⟨r.cl,r.st,a.k,a.t,a.h,a.e⟩
def ansOf (s:Sn):An:=⟨s.k,s.t,s.h,s.e⟩
def sidx (ss:List Sn) (c:Int):Option Nat:=fiP (fun s=>s.c == c) ss
def splc (ss:List Sn) (c:Int):Nat:=plP (fun s=>decide (s.c<c)) ss
theorem pc_put {ss:List Sn} {k:Nat} {x:Sn} (hk:k≤ss.length) (i:Nat):pc (putAt ss k x) i=if i≤k then pc ss i else if i=k+1 then x.c+1 else pc ss (i - 1):=by
 unfold pc
 by_cases h0:i=0
 ·subst h0;simp
 ·rw [if_neg h0,List.getD_eq_getElem?_getD,zBc hk]
  by_cases h1:i≤k
  ·rw [if_pos h1,if_pos (by omega),if_neg h0,List.getD_eq_getElem?_getD]
  ·rw [if_neg h1,if_neg (by omega)]
   by_cases h2:i=k+1
   ·rw [if_pos h2,if_pos (by omega)];rfl
   ·rw [if_neg h2,if_neg (by omega),if_neg (by omega),List.getD_eq_getElem?_getD]
theorem sput_ok {ss:List Sn} {x:Sn} (h:SsOK ss) (hn:sidx ss x.c=none) (h1:inB x.c 0 255=true) (h2:inB x.s 1 65535=true) (h3:zBD x.k x.t x.h x.e):SsOK (putAt ss (splc ss x.c) x):=by
 have hk:=plP_le (p:=fun s:Sn=>decide (s.c<x.c)) ss
 have b1:=zAQ h1
 unfold splc
 intro i l hl
 rw [zBc hk] at hl
 rw [pc_put hk]
 generalize hK:plP (fun s:Sn=>decide (s.c<x.c)) ss=k at hk hl ⊢
 by_cases g1:i<k
 ·rw [if_pos g1] at hl
  rw [if_pos (by omega)]
  exact h i l hl
 ·rw [if_neg g1] at hl
  by_cases g2:i=k
  ·rw [if_pos g2] at hl
   obtain rfl:x=l:=by simpa using hl
   rw [if_pos (by omega)]
   refine ⟨zAf ?_ b1.2,h2,h3⟩
   subst g2
   unfold pc
   by_cases h0:i=0
   ·rw [if_pos h0];exact b1.1
   ·rw [if_neg h0,List.getD_eq_getElem?_getD]
    obtain ⟨y,hy⟩ : ∃ y,ss[i - 1]?=some y:=⟨_,List.getElem?_eq_getElem (show i - 1<ss.length by omega)⟩
    rw [hy]
    have:=zAt (p:=fun s:Sn=>decide (s.c<x.c)) ss (i - 1) y (by omega) hy
    simp at this
    show y.c+1≤x.c
    omega
  ·rw [if_neg g2] at hl
   rw [if_neg (by omega)]
   obtain ⟨a1,a2,a3⟩:=h (i - 1) l hl
   have b2:=zAQ a1
   by_cases g3:i=k+1
   ·rw [if_pos g3]
    refine ⟨zAf ?_ b2.2,a2,a3⟩
    have e:i - 1=k:=by omega
    have q1:¬ l.c<x.c:=by
     rw [e,← hK] at hl
     have:=zBd (p:=fun s:Sn=>decide (s.c<x.c)) ss l hl
     simpa using this
    have q2:l.c ≠ x.c:=by
     have:=fiP_none (p:=fun s:Sn=>s.c == x.c) ss hn (i - 1) l hl
     simpa using this
    omega
   ·rw [if_neg g3]
    exact ⟨a1,a2,a3⟩
theorem sset_ok {ss:List Sn} {k:Nat} {x y:Sn} (h:SsOK ss) (hx:ss[k]?=some x) (hc:y.c=x.c) (h2:inB y.s 1 65535=true) (h3:zBD y.k y.t y.h y.e):SsOK (ss.set k y):=by
 have hp:∀ i,pc (ss.set k y) i=pc ss i:=fun i=>by
  unfold pc
  by_cases h0:i=0
  ·rw [if_pos h0,if_pos h0]
  ·rw [if_neg h0,if_neg h0,List.getD_eq_getElem?_getD,List.getD_eq_getElem?_getD,List.getElem?_set]
   by_cases e:k=i - 1
   ·rw [if_pos e]
    subst e
    rw [if_pos (List.getElem?_eq_some_iff.1 hx).1,hx]
    show y.c+1=x.c+1
    rw [hc]
   ·rw [if_neg e]
 intro i l hl
 rw [hp]
 rw [List.getElem?_set] at hl
 by_cases e:k=i
 ·subst e
  rw [if_pos rfl,if_pos (List.getElem?_eq_some_iff.1 hx).1] at hl
  obtain rfl:y=l:=by simpa using hl
  obtain ⟨a1,_,_⟩:=h k x hx
  exact ⟨by rw [hc];exact a1,h2,h3⟩
 ·rw [if_neg e] at hl
  exact h i l hl
def apT (t:Tab) (now:Int) (r:Ask):Tab × An :=
 match sidx t.ss r.cl with
 | some k =>
   if r.st=(t.ss.getD k default).s then (exT t now,ansOf (t.ss.getD k default))
   else if r.st<(t.ss.getD k default).s then (exT t now,bare 7)
   else ({ (doT (exT t now) r).1 with ss:=t.ss.set k (sn r (doT (exT t now) r).2) },(doT (exT t now) r).2)
 | none=>if 6≤t.ss.length then (exT t now,bare 6)
   else ({ (doT (exT t now) r).1 with ss:=putAt t.ss (splc t.ss r.cl) (sn r (doT (exT t now) r).2) },(doT (exT t now) r).2)
theorem exT_nx (t:Tab) (now:Int) (h:t.ls.length≤4):t.nx≤(exT t now).nx∧(exT t now).nx≤t.nx+4:=by
 have:=exN_le (tm:=max t.tm now) (nx:=t.nx) (ls:=t.ls) t.ls.length
 unfold exT
 simp only
 omega
theorem apT_ok {t:Tab} {now:Int} {r:Ask} (h:TOK t) (h0:0≤now) (h1:now≤1000000000) (hr:zBQ r) (he:less ⟨#[]⟩ r.nm=true) (hn:t.nx≤999990):TOK (apT t now r).1∧AnOK (apT t now r).2∧(apT t now r).1.nx≤t.nx+5:=by
 have hx:=exT_ok h h0 h1 hn
 have hn1:=exT_nx t now h.2.2.1
 obtain ⟨a1,a2,a3,a4,a5,a6⟩:=h
 have hd:=doT_ok hx hr he (by omega)
 have hd2:=doT_nx (exT t now) r
 unfold apT
 split
 ·rename_i k hk
  obtain ⟨s,hs,hsc⟩:=zBC _ _ hk
  have hsc':s.c=r.cl:=by simpa using hsc
  have e:t.ss.getD k default=s:=by rw [List.getD_eq_getElem?_getD,hs];rfl
  rw [e]
  split
  ·exact ⟨hx,(a6 k s hs).2.2,by simp only;omega⟩
  ·split
   ·exact ⟨hx,bare_ok (by decide) (by decide),by simp only;omega⟩
   ·obtain ⟨c1,c2,c3,c4,c5,c6⟩:=hd.1
    exact ⟨⟨c1,c2,c3,c4,by simp only [List.length_set];exact a5,sset_ok a6 hs hsc'.symm hr.2.1 hd.2⟩,hd.2,by simp only;omega⟩
 ·rename_i hk
  split
  ·exact ⟨hx,bare_ok (by decide) (by decide),by simp only;omega⟩
  ·obtain ⟨c1,c2,c3,c4,c5,c6⟩:=hd.1
   exact ⟨⟨c1,c2,c3,c4,by simp only;rw [show splc t.ss r.cl=plP (fun s:Sn=>decide (s.c<r.cl)) t.ss from rfl,putAt_len (plP_le _)];omega,sput_ok (x:=sn r (doT (exT t now) r).2) a6 hk hr.1 hr.2.1 hd.2⟩,hd.2,by simp only;omega⟩
def t0:Tab:=⟨0,1,[],[]⟩
end Go.Proofs.YticokpbelgpfmaaGreat.Da
namespace Go.Proofs.YticokpbelgpfmaaGreat.Mw
open Go.RowKit By Ap Tx Tb Tw
theorem ret_str {a b:ByteArray} (h:a=b):Ending.returned (.string a)=.returned (.string b):=by rw [h]
def mtGo:Nat→Nat→ByteArray→ByteArray
 | 0,_,s=>s
 | f+1,k,s=>if k=0 then s else mtGo f (k / 10) (strOfNums [48+((k % 10:Nat):Int)] ++ s)
def mtext (k:Nat):ByteArray:=(⟨#[109]⟩ : ByteArray) ++ mtGo (k+1) k ⟨#[]⟩
set_option maxRecDepth 100000 in
set_option maxHeartbeats 400000 in
theorem zAi (k:Nat) (w:World) (h0:0<k) (h1:k≤1125899906842624) :
 Calls Tryz.prog 86 #[.int .i64 k] w fun e w'=>e=.returned (.string (mtext k))∧Below w.heap.size w w':=by
 have h0':¬ (k:Int)≤0:=by omega
 have h1':(k:Int)≤1125899906842624:=by omega
 have HT:Hid (mtext k=(⟨#[109]⟩ : ByteArray) ++ mtGo (k+1) k ⟨#[]⟩):=rfl
 go_enter Tryz.func86,Tryz.ntmps86
 go_wp2_with fail
 go_loopw [0,3] (fun n s wr=>∃ (q f:Nat) (t:ByteArray),n=.int .i64 q∧s=.string t∧q≤1125899906842624∧t.size+q≤1125899906842624∧Hid (q<f∧mtGo f q t=mtGo (k+1) k ⟨#[]⟩)∧Below w.heap.size w wr) (fun n _ _=>(intOf n).toNat)
 case atStart=>exact ⟨k,k+1,⟨#[]⟩,rfl,rfl,by omega,by simp [ByteArray.size];omega,⟨by omega,rfl⟩,Below.refl _ _⟩
 case round =>
  obtain ⟨q,f,t,rfl,rfl,hq,hts,HF,hbel⟩:=hrel
  by_cases hz:0<q
  ·have hz':(0:Int)<(q:Int):=by omega
   have hcv:=By.run_convert_own (P:=Tryz.prog) (wr.alloc (.cells #[.int .u8 (48+(q:Int) % 10)] 5)) wr.heap.size 22 5 9 Tryz.underlying22 Tryz.underlying5 Tryz.underlying9 (.slice (some ⟨wr.heap.size,0,none⟩) 1 1) [48+(q:Int) % 10] (own_one 5 wr wr.heap.size (48+(q:Int) % 10) (Nat.le_refl _))
   have hs1:(strOfNums [48+(q:Int) % 10]).size=1:=by rw [strOfNums_size];rfl
   have hsz:¬ 9223372036854775807<(strOfNums [48+(q:Int) % 10]).size+t.size:=by rw [hs1];omega
   have HS1:Hid ((strOfNums [48+(q:Int) % 10]).size=1):=hs1
   have HE:Hid (∃ f',q / 10<f'∧mtGo f' (q / 10) (strOfNums [48+(q:Int) % 10] ++ t)=mtGo (k+1) k ⟨#[]⟩):=by
    obtain ⟨e1,e2⟩:=HF.out
    cases f with
    | zero=>omega
    | succ f =>
      refine ⟨f,by omega,?_⟩
      rw [← e2]
      show _=if q=0 then t else mtGo f (q / 10) (strOfNums [48+((q % 10:Nat):Int)] ++ t)
      rw [if_neg (by omega)]
      rfl
   clear hs1 HF
   go_wp2_with fail
   obtain ⟨f',e1,e2⟩:=HE.out
   exact ⟨⟨q / 10,f',strOfNums [48+(q:Int) % 10] ++ t,by simp,rfl,by omega,by rw [ByteArray.size_append,HS1.out];omega,⟨e1,e2⟩,hbel.alloc hbel.size _⟩,by simp [intOf];omega⟩
  ·have hz0:q=0:=by omega
   have HE:Hid (mtGo (k+1) k ⟨#[]⟩=t):=by
    show _=_
    obtain ⟨e1,e2⟩:=HF.out
    rw [← e2,hz0]
    cases f with
    | zero=>rfl
    | succ f=>rfl
   have hz':¬ (0:Int)<(q:Int):=by omega
   have hz2:¬ 0<q:=hz
   have hsz2:¬ 9223372036854775807<1+t.size:=by omega
   have hsz3:¬ 9223372036854775807<(⟨#[109]⟩ : ByteArray).size+t.size:=hsz2
   clear hz0
   go_wp2
   go_ret
   exact ⟨ret_str (by rw [HT.out,HE.out]),hbel⟩
structure Mid (B C:Nat) (w w':World):Prop where
 os:w'.os=w.os
 tape:w'.tape=w.tape
 output:w'.output=w.output
 size:w.heap.size≤w'.heap.size
 block:∀ k,k<w.heap.size→(k<B ∨ C≤k)→w'.heap[k]?=w.heap[k]?
theorem Mid.refl (B C:Nat) (w:World):Mid B C w w:=⟨rfl,rfl,rfl,Nat.le_refl _,fun _ _ _=>rfl⟩
theorem Mid.trans {B C:Nat} {w w1 w2:World} (h:Mid B C w w1) (g:Mid B C w1 w2):Mid B C w w2 :=
 ⟨g.os.trans h.os,g.tape.trans h.tape,g.output.trans h.output,Nat.le_trans h.size g.size,fun k hk hn=>(g.block k (Nat.lt_of_lt_of_le hk h.size) hn).trans (h.block k hk hn)⟩
theorem Mid.of_below {B C:Nat} {w w1:World} (h:Below w.heap.size w w1):Mid B C w w1:=⟨h.os,h.tape,h.output,h.size,fun k hk _=>h.block k hk⟩
theorem Mid.set {B C:Nat} {w:World} {g:Nat} (h1:B≤g) (h2:g<C) (j:Nat) (x:Value):Mid B C w (w.setCell ⟨g,j,none⟩ x) :=
 ⟨rfl,rfl,rfl,by simp,fun k _ hk=>Below.heap_setCell w ⟨g,j,none⟩ x k (fun e=>by have e':k=g:=e;omega)⟩
theorem Mid.below {B C:Nat} {w w1:World} (h:Mid B C w w1) (hB:B≤w.heap.size):Below B w w1:=⟨h.os,h.tape,h.output,h.size,fun k hk=>h.block k (Nat.lt_of_lt_of_le hk hB) (.inl hk)⟩
def Wr (w:World) (g n:Nat):Prop:=∃ A t,w.heap[g]?=some (.cells A t (0,0))∧n≤A.size
theorem Wr.lt {w:World} {g n:Nat} (h:Wr w g n):g<w.heap.size:=by obtain ⟨A,t,h,_⟩:=h;exact (Array.getElem?_eq_some_iff.1 h).1
theorem Wr.below {w w':World} {g n:Nat} (h:Wr w g n) (hb:Below w.heap.size w w'):Wr w' g n:=by
 obtain ⟨A,t,h,hn⟩:=h
 exact ⟨A,t,(hb.block g (Array.getElem?_eq_some_iff.1 h).1).trans h,hn⟩
theorem Wr.set {w:World} {g n:Nat} (h:Wr w g n) (p j:Nat) (x:Value):Wr (w.setCell ⟨p,j,none⟩ x) g n:=by
 obtain ⟨A,t,h,hn⟩:=h
 by_cases e:p=g
 ·subst e
  exact ⟨_,t,zAC h j x,by rw [Array.size_setIfInBounds];exact hn⟩
 ·exact ⟨A,t,(zAE (fun h=>e h.symm) j x).trans h,hn⟩
theorem Wr.cell {w:World} {g n:Nat} (h:Wr w g n) {j:Nat} (hj:j<n):(∃ x,w.cell? ⟨g,j,none⟩=some x)∧w.frozen? ⟨g,j,none⟩=false:=by
 obtain ⟨A,t,h,hn⟩:=h
 obtain ⟨c,f⟩:=zAA h j (x:=A[j]'(by omega)) (Array.getElem?_eq_getElem (by omega))
 exact ⟨⟨_,c⟩,f⟩
def Kw (w w':World):Prop:=∀ g n,Wr w g n→Wr w' g n
theorem Kw.trans {w w1 w2:World} (h:Kw w w1) (g:Kw w1 w2):Kw w w2:=fun a n x=>g a n (h a n x)
set_option maxRecDepth 100000 in
set_option maxHeartbeats 800000 in
theorem markWaiterS_any (g n:Nat) (a:Nat) (B C:Nat) (w:World) (h:Wr w g (n * 2)) (hB:B≤g) (hC:g<C) (hn:n≤1048576) (ha:a≤1000000000000000) :
 Calls Tryz.prog 117 #[.slice (some ⟨g,0,none⟩) n n,.int .i64 a] w fun e w'=>e=.returned (.int .i64 ((a+n * 2:Nat):Int))∧Mid B C w w'∧Kw w w'∧(∀ k,k<w.heap.size→k ≠ g→w'.heap[k]?=w.heap[k]?):=by
 have H:Hid (Wr w g (n * 2)):=h
 clear h
 go_enter Tryz.func117,Tryz.ntmps117
 go_wp2_with fail
 go_loopw [1,5] (fun k i wr=>∃ q:Nat,q≤n∧k=.int .i64 ((a+q * 2:Nat):Int)∧i=.int .i64 q∧Hid (Wr wr g (n * 2)∧Mid B C w wr∧Kw w wr∧(∀ k,k<w.heap.size→k ≠ g→wr.heap[k]?=w.heap[k]?))) (fun _ i _=>n - (intOf i).toNat)
 case atStart=>exact ⟨0,by omega,by simp,rfl,H.out,Mid.refl _ _ _,fun _ _ h=>h,fun _ _ _=>rfl⟩
 case round =>
  obtain ⟨q,hq,rfl,rfl,HA⟩:=hrel
  by_cases hlt:q<n
  ·obtain ⟨⟨x0,c0⟩,f0⟩:=HA.out.1.cell (j:=q * 2) (by omega)
   obtain ⟨⟨x1,c1⟩,f1⟩:=HA.out.1.cell (j:=q * 2+1) (by omega)
   have hne:(⟨g,q * 2+1,none⟩ : Addr) ≠ ⟨g,q * 2,none⟩:=fun e=>by have e':q * 2+1=q * 2:=congrArg Addr.off e;omega
   go_wp2_with fail
   refine ⟨⟨q+1,by omega,by go_num,by go_num,(HA.out.1.set _ _ _).set _ _ _,HA.out.2.1.trans ((Mid.set hB hC _ _).trans (Mid.set hB hC _ _)),HA.out.2.2.1.trans fun _ _ h=>(h.set _ _ _).set _ _ _,fun k hk hk2=>?_⟩,by simp [intOf];omega⟩
   exact ((zAE hk2 _ _).trans (zAE hk2 _ _)).trans (HA.out.2.2.2 k hk hk2)
  ·obtain rfl:q=n:=by omega
   go_wp2_with fail
   go_ret
   exact ⟨rfl,HA.out.2.1,HA.out.2.2.1,HA.out.2.2.2⟩
set_option maxRecDepth 100000 in
set_option maxHeartbeats 1600000 in
theorem markSeenS_any (g n:Nat) (a:Nat) (B C:Nat) (w:World) (h:Wr w g (n * 6)) (hB:B≤g) (hC:g<C) (hn:n≤1048576) (ha:a≤1000000000000000) :
 Calls Tryz.prog 82 #[.slice (some ⟨g,0,none⟩) n n,.int .i64 a] w fun e w'=>e=.returned (.int .i64 ((a+n * 6:Nat):Int))∧Mid B C w w':=by
 have H:Hid (Wr w g (n * 6)):=h
 clear h
 go_enter Tryz.func82,Tryz.ntmps82
 go_wp2_with fail
 go_loopw [1,5] (fun k i wr=>∃ q:Nat,q≤n∧k=.int .i64 ((a+q * 6:Nat):Int)∧i=.int .i64 q∧Hid (Wr wr g (n * 6)∧Mid B C w wr)) (fun _ i _=>n - (intOf i).toNat)
 case atStart=>exact ⟨0,by omega,by simp,rfl,H.out,Mid.refl _ _ _⟩
 case round =>
  obtain ⟨q,hq,rfl,rfl,HA⟩:=hrel
  by_cases hlt:q<n
  ·obtain ⟨⟨x0,c0⟩,f0⟩:=HA.out.1.cell (j:=q * 6) (by omega)
   obtain ⟨⟨x1,c1⟩,f1⟩:=HA.out.1.cell (j:=q * 6+1) (by omega)
   obtain ⟨⟨x2,c2⟩,f2⟩:=HA.out.1.cell (j:=q * 6+2) (by omega)
   obtain ⟨⟨x3,c3⟩,f3⟩:=HA.out.1.cell (j:=q * 6+3) (by omega)
   obtain ⟨⟨x4,c4⟩,f4⟩:=HA.out.1.cell (j:=q * 6+4) (by omega)
   obtain ⟨⟨x5,c5⟩,f5⟩:=HA.out.1.cell (j:=q * 6+5) (by omega)
   go_wp2_with fail
   refine ⟨⟨q+1,by omega,by go_num,by go_num,(((((HA.out.1.set _ _ _).set _ _ _).set _ _ _).set _ _ _).set _ _ _).set _ _ _,?_⟩,by simp [intOf];omega⟩
   exact HA.out.2.trans ((Mid.set hB hC _ _).trans ((Mid.set hB hC _ _).trans ((Mid.set hB hC _ _).trans ((Mid.set hB hC _ _).trans ((Mid.set hB hC _ _).trans (Mid.set hB hC _ _))))))
  ·obtain rfl:q=n:=by omega
   go_wp2_with fail
   go_ret
   exact ⟨rfl,HA.out.2⟩
def WrL (B C:Nat) (w:World) (g:Nat) (ns:List Nat):Prop:=Wr w g (ns.length * 5)∧∀ (j m:Nat),ns[j]?=some m→∃ h,w.cell? ⟨g,j * 5+4,none⟩=some (.slice (some ⟨h,0,none⟩) m m)∧B≤h∧h<C∧h ≠ g∧Wr w h (m * 2)
theorem WrL.below {B C:Nat} {w w':World} {g:Nat} {ns:List Nat} (h:WrL B C w g ns) (hb:Below w.heap.size w w'):WrL B C w' g ns :=
 ⟨h.1.below hb,fun j m hj=>by
   obtain ⟨q,h1,h2,h3,h4,h5⟩:=h.2 j m hj
   exact ⟨q,(hb.cell (p:=⟨g,_,none⟩) h.1.lt).trans h1,h2,h3,h4,h5.below hb⟩⟩
theorem WrL.set {B C:Nat} {w:World} {g:Nat} {ns:List Nat} (h:WrL B C w g ns) (i:Nat) (x:Value) (hi:∀ j,i ≠ j * 5+4):WrL B C (w.setCell ⟨g,i,none⟩ x) g ns :=
 ⟨h.1.set _ _ _,fun j m hj=>by
   obtain ⟨q,h1,h2,h3,h4,h5⟩:=h.2 j m hj
   exact ⟨q,(World.cell?_setCell_other _ _ _ _ (fun e=>hi j (by have:=congrArg Addr.off e;exact this))).trans h1,h2,h3,h4,h5.set _ _ _⟩⟩
theorem WrL.kept {B C:Nat} {w w':World} {g p:Nat} {ns:List Nat} (h:WrL B C w g ns) (hp:p ≠ g) (hk:Kw w w') (ho:∀ k,k<w.heap.size→k ≠ p→w'.heap[k]?=w.heap[k]?):WrL B C w' g ns :=
 ⟨hk _ _ h.1,fun j m hj=>by
   obtain ⟨q,h1,h2,h3,h4,h5⟩:=h.2 j m hj
   exact ⟨q,(World.cell?_of_block (w:=w) (ho g h.1.lt (Ne.symm hp))).trans h1,h2,h3,h4,hk _ _ h5⟩⟩
set_option maxRecDepth 100000 in
set_option maxHeartbeats 1600000 in
theorem markLockS_any (g:Nat) (ns:List Nat) (B C:Nat) (w:World) (h:WrL B C w g ns) (hB:B≤g) (hC:g<C) (hn:ns.length≤1048576) (hm:∀ m ∈ ns,m≤1048576) :
 Calls Tryz.prog 81 #[.slice (some ⟨g,0,none⟩) ns.length ns.length,.int .i64 1] w fun e w'=>∃ r:Nat,e=.returned (.int .i64 (r:Int))∧r≤3000000000000∧Mid B C w w'∧Kw w w':=by
 have H:Hid (WrL B C w g ns):=h
 have HM:Hid (∀ m ∈ ns,m≤1048576):=hm
 clear h hm
 go_enter Tryz.func81,Tryz.ntmps81
 go_wp2_with fail
 go_loopw [1,5] (fun k i wr=>∃ q r:Nat,q≤ns.length∧k=.int .i64 (r:Int)∧0<r∧r≤1+q * 2097156∧i=.int .i64 q∧Hid (WrL B C wr g ns∧Mid B C w wr∧Kw w wr)) (fun _ i _=>ns.length - (intOf i).toNat)
 case atStart=>exact ⟨0,1,by omega,rfl,by omega,by omega,rfl,H.out,Mid.refl _ _ _,fun _ _ h=>h⟩
 case round =>
  obtain ⟨q,r,hq,rfl,hr0,hr,rfl,HA⟩:=hrel
  by_cases hlt:q<ns.length
  ·go_wp2_with fail
   refine (zAi r _ hr0 (by omega)).mono ?_
   rintro e w2 ⟨rfl,b2⟩
   have HB:Hid (WrL B C w2 g ns∧Mid B C w w2∧Kw w w2):=⟨HA.out.1.below b2,HA.out.2.1.trans (Mid.of_below b2),HA.out.2.2.trans fun _ _ h=>h.below b2⟩
   clear b2 HA
   generalize mtext r=mt
   obtain ⟨⟨x0,c0⟩,f0⟩:=HB.out.1.1.cell (j:=q * 5) (by omega)
   obtain ⟨⟨x1,c1⟩,f1⟩:=HB.out.1.1.cell (j:=q * 5+1) (by omega)
   obtain ⟨⟨x2,c2⟩,f2⟩:=HB.out.1.1.cell (j:=q * 5+2) (by omega)
   obtain ⟨⟨x3,c3⟩,f3⟩:=HB.out.1.1.cell (j:=q * 5+3) (by omega)
   obtain ⟨m,hm⟩:=Tw.get_at hlt
   obtain ⟨p,c4,p1,p2,p3,p4⟩:=HB.out.1.2 q m hm
   have HP:Hid (ns[q]?=some m):=hm
   clear hm
   have HC:Hid (WrL B C ((((w2.setCell ⟨g,q * 5,none⟩ (.string mt)).setCell ⟨g,q * 5+1,none⟩ (.int .i64 ((r:Int)+1))).setCell ⟨g,q * 5+2,none⟩ (.int .i64 ((r:Int)+1+1))).setCell ⟨g,q * 5+3,none⟩ (.int .i64 ((r:Int)+1+1+1))) g ns∧Mid B C w ((((w2.setCell ⟨g,q * 5,none⟩ (.string mt)).setCell ⟨g,q * 5+1,none⟩ (.int .i64 ((r:Int)+1))).setCell ⟨g,q * 5+2,none⟩ (.int .i64 ((r:Int)+1+1))).setCell ⟨g,q * 5+3,none⟩ (.int .i64 ((r:Int)+1+1+1)))∧Wr ((((w2.setCell ⟨g,q * 5,none⟩ (.string mt)).setCell ⟨g,q * 5+1,none⟩ (.int .i64 ((r:Int)+1))).setCell ⟨g,q * 5+2,none⟩ (.int .i64 ((r:Int)+1+1))).setCell ⟨g,q * 5+3,none⟩ (.int .i64 ((r:Int)+1+1+1))) p (m * 2)∧Kw w ((((w2.setCell ⟨g,q * 5,none⟩ (.string mt)).setCell ⟨g,q * 5+1,none⟩ (.int .i64 ((r:Int)+1))).setCell ⟨g,q * 5+2,none⟩ (.int .i64 ((r:Int)+1+1))).setCell ⟨g,q * 5+3,none⟩ (.int .i64 ((r:Int)+1+1+1)))) :=
    ⟨(((HB.out.1.set _ _ (fun j=>by omega)).set _ _ (fun j=>by omega)).set _ _ (fun j=>by omega)).set _ _ (fun j=>by omega),HB.out.2.1.trans ((Mid.set hB hC _ _).trans ((Mid.set hB hC _ _).trans ((Mid.set hB hC _ _).trans (Mid.set hB hC _ _)))),(((p4.set _ _ _).set _ _ _).set _ _ _).set _ _ _,HB.out.2.2.trans fun _ _ h=>(((h.set _ _ _).set _ _ _).set _ _ _).set _ _ _⟩
   have HMM:Hid (m≤1048576):=HM.out m (Tw.zAp HP.out)
   clear p4
   go_wp2_with fail
   generalize ((((w2.setCell ⟨g,q * 5,none⟩ (.string mt)).setCell ⟨g,q * 5+1,none⟩ (.int .i64 ((r:Int)+1))).setCell ⟨g,q * 5+2,none⟩ (.int .i64 ((r:Int)+1+1))).setCell ⟨g,q * 5+3,none⟩ (.int .i64 ((r:Int)+1+1+1)))=w3 at HC ⊢
   have ER:Hid ((r:Int)+1+1+1+1=((r+4:Nat):Int)):=by show _=_;omega
   rw [ER.out]
   refine (markWaiterS_any p m (r+4) B C w3 HC.out.2.2.1 p1 p2 HMM.out (by omega)).mono ?_
   rintro e w4 ⟨rfl,m4,k4,o4⟩
   have HD:Hid (WrL B C w4 g ns∧Mid B C w w4∧Kw w w4):=⟨HC.out.1.kept p3 k4 o4,HC.out.2.1.trans m4,HC.out.2.2.2.trans k4⟩
   have hmm:m≤1048576:=HMM.out
   clear m4 k4 o4 c0 c1 c2 c3 c4 f0 f1 f2 f3 HB HC
   go_wp2_with fail
   exact ⟨⟨q+1,r+4+m * 2,by omega,rfl,by omega,by omega,by go_num,HD.out⟩,by simp [intOf];omega⟩
  ·obtain rfl:q=ns.length:=by omega
   go_wp2_with fail
   go_ret
   exact ⟨r,rfl,by omega,HA.out.2⟩
def TabW (B C:Nat) (w:World) (gl gs:Nat) (ls:List Lk) (ss:List Sn):Prop:=(B≤gl∧gl<C∧B≤gs∧gs<C)∧WrL B C w gl (ls.map fun x=>x.ws.length)∧Wr w gs (ss.length * 6)
theorem TabW.below {B C:Nat} {w w':World} {gl gs:Nat} {ls:List Lk} {ss:List Sn} (h:TabW B C w gl gs ls ss) (hb:Below w.heap.size w w'):TabW B C w' gl gs ls ss:=⟨h.1,h.2.1.below hb,h.2.2.below hb⟩
set_option maxRecDepth 100000 in
set_option maxHeartbeats 800000 in
theorem zBS (tm nx:Int) (gl gs:Nat) (ls:List Lk) (ss:List Sn) (B C:Nat) (w:World) (h:TabW B C w gl gs ls ss) (h1:ls.length≤1048576) (h2:ss.length≤1048576) (h3:∀ x ∈ ls,x.ws.length≤1048576) (hCw:C≤w.heap.size) :
 Calls Tryz.prog 33 #[tabV tm nx (.slice (some ⟨gl,0,none⟩) ls.length ls.length) (.slice (some ⟨gs,0,none⟩) ss.length ss.length),.int .i64 1] w fun e w'=>∃ r:Nat,e=.returned (.int .i64 (r:Int))∧Mid B C w w':=by
 obtain ⟨⟨b1,b2,b3,b4⟩,hl,hs⟩:=h
 have HN:Hid ((ls.map fun x=>x.ws.length).length=ls.length∧∀ m ∈ ls.map (fun x=>x.ws.length),m≤1048576):=⟨by simp,fun m hm=>by obtain ⟨x,hx,rfl⟩:=List.mem_map.1 hm;exact h3 x hx⟩
 have HL:Hid (∀ W,Below w.heap.size w W→Calls Tryz.prog 81 #[.slice (some ⟨gl,0,none⟩) ls.length ls.length,.int .i64 1] W fun e w'=>∃ r:Nat,e=.returned (.int .i64 (r:Int))∧r≤3000000000000∧Mid B C W w'∧Kw W w'):=fun W hW=>by
  have h:=markLockS_any gl (ls.map fun x=>x.ws.length) B C W (hl.below hW) b1 b2 (by rw [HN.out.1];exact h1) HN.out.2
  rw [HN.out.1] at h
  exact h
 have HS:Hid (Wr w gs (ss.length * 6)):=hs
 clear hl hs h3
 unfold tabV
 have HBN:Hid (Below w.heap.size w (w.alloc (.cells #[.int .i64 tm,.int .i64 nx,.slice (some ⟨gl,0,none⟩) ls.length ls.length,.slice (some ⟨gs,0,none⟩) ss.length ss.length] 30))∧(w.alloc (.cells #[.int .i64 tm,.int .i64 nx,.slice (some ⟨gl,0,none⟩) ls.length ls.length,.slice (some ⟨gs,0,none⟩) ss.length ss.length] 30)).heap[w.heap.size]?=some (.cells #[.int .i64 tm,.int .i64 nx,.slice (some ⟨gl,0,none⟩) ls.length ls.length,.slice (some ⟨gs,0,none⟩) ss.length ss.length] 30)∧w.heap.size<(w.alloc (.cells #[.int .i64 tm,.int .i64 nx,.slice (some ⟨gl,0,none⟩) ls.length ls.length,.slice (some ⟨gs,0,none⟩) ss.length ss.length] 30)).heap.size):=⟨zAD _ _,heap_alloc_new w _,by simp⟩
 go_enter Tryz.func33,Tryz.ntmps33
 go_wp2_with fail
 generalize w.alloc (.cells #[.int .i64 tm,.int .i64 nx,.slice (some ⟨gl,0,none⟩) ls.length ls.length,.slice (some ⟨gs,0,none⟩) ss.length ss.length] 30)=wb at HBN ⊢
 refine (HL.out _ HBN.out.1).mono ?_
 rintro e w1 ⟨r,rfl,hr,m1,k1⟩
 have x3:=(zAA ((m1.block _ HBN.out.2.2 (.inr hCw)).trans HBN.out.2.1) 3 (x:=.slice (some ⟨gs,0,none⟩) ss.length ss.length) rfl).1
 have HM:Hid (Mid B C w w1∧Wr w1 gs (ss.length * 6)):=⟨(Mid.of_below HBN.out.1).trans m1,k1 _ _ (HS.out.below HBN.out.1)⟩
 clear m1 k1
 go_wp2_with fail
 refine (markSeenS_any gs ss.length r B C w1 HM.out.2 b3 b4 h2 (by omega)).mono ?_
 rintro e w2 ⟨rfl,m2⟩
 have HM2:Hid (Mid B C w w2):=HM.out.1.trans m2
 clear m2 x3
 go_wp2_with fail
 go_ret
 exact ⟨_,rfl,HM2.out⟩
end Go.Proofs.YticokpbelgpfmaaGreat.Mw
namespace Go.Proofs.YticokpbelgpfmaaGreat.Mw
open Go.RowKit By Ap Tx Tb Tw
theorem zAU {w:World} {g n j:Nat} (h:Wr w g n) (hj:j<n) (x:Value):(w.setCell ⟨g,j,none⟩ x).cell? ⟨g,j,none⟩=some x:=by
 obtain ⟨A,t,h,hn⟩:=h
 have h1:=zAC h j x
 exact (zAA h1 j (x:=x) (by rw [Array.getElem?_setIfInBounds,if_pos rfl,if_pos (by omega)])).1
theorem zAd {w:World} {g i j:Nat} (hne:i ≠ j) (x:Value):(w.setCell ⟨g,i,none⟩ x).cell? ⟨g,j,none⟩=w.cell? ⟨g,j,none⟩ :=
 World.cell?_setCell_other _ _ _ _ (fun e=>hne (by have:=congrArg Addr.off e;exact this))
set_option maxHeartbeats 400000 in
theorem zAy (a:Nat) (ad:Option Addr) (cap:Nat) (w:World):Calls Tryz.prog 117 #[.slice ad 0 cap,.int .i64 a] w fun e w'=>e=.returned (.int .i64 (a:Int))∧w'=w:=by
 go_enter Tryz.func117,Tryz.ntmps117
 go_wp2_with fail
 go_loopw [1,5] (fun k i wr=>k=.int .i64 (a:Int)∧i=.int .i64 0∧wr=w) (fun _ _ _=>0)
 case atStart=>exact ⟨rfl,rfl,rfl⟩
 case round =>
  obtain ⟨rfl,rfl,rfl⟩:=hrel
  go_wp2
  go_ret
  exact ⟨rfl,rfl⟩
set_option maxHeartbeats 400000 in
theorem zAx (a:Nat) (ad:Option Addr) (cap:Nat) (w:World):Calls Tryz.prog 118 #[.slice ad 0 cap,.int .i64 a] w fun e w'=>e=.returned (.int .i64 (a:Int))∧w'=w:=by
 go_enter Tryz.func118,Tryz.ntmps118
 go_wp2_with fail
 go_loopw [1,5] (fun k i wr=>k=.int .i64 (a:Int)∧i=.int .i64 0∧wr=w) (fun _ _ _=>0)
 case atStart=>exact ⟨rfl,rfl,rfl⟩
 case round =>
  obtain ⟨rfl,rfl,rfl⟩:=hrel
  go_wp2
  go_ret
  exact ⟨rfl,rfl⟩
end Go.Proofs.YticokpbelgpfmaaGreat.Mw
