/- Texts put together: Uv, Xl, Xn. -/
import Derived.Test.YtakfniknkejgpaaGreatDoorMiA0
import Derived.Test.YtakfniknkejgpaaGreatDoorMi24
import Derived.Test.YtakfniknkejgpaaGreatDoorMi21
namespace Go.Proofs.YtakfniknkejgpaaGreatDoor.Ur
open Go.RowKit Sl By Ap Rr Tb Tw
open Wa (OwnW OwnS)
open Lo (LkA uV OwnL)
open Tp (bOf TOK zBo)
theorem Mem.rows {W:World} {B:Nat} {v2 v3:Value} {ms:List LkA} {ss:List Sn} (h:Mem W B v2 v3 ms ss):RowL W v2 (ms.map (·.1))∧RowS W v3 ss:=⟨h.ol.row fun m hm=>(h.ow m hm).row,h.os.row⟩
theorem Mem.nil (W:World) (B:Nat):Mem W B (.slice none 0 0) (.slice none 0 0) [] []:=⟨World.ownsRow_nil _ _ _ _,fun m hm=>(by cases hm),List.Pairwise.nil,OwnS.nil _ _⟩
theorem Mem.mono {W:World} {B B':Nat} {v2 v3:Value} {ms:List LkA} {ss:List Sn} (h:Mem W B v2 v3 ms ss) (hb:B'≤B):Mem W B' v2 v3 ms ss:=⟨h.ol.mono hb,fun m hm=>(h.ow m hm).mono hb,h.di,h.os.mono hb⟩
theorem Mem.below {W W':World} {B:Nat} {v2 v3:Value} {ms:List LkA} {ss:List Sn} (h:Mem W B v2 v3 ms ss) (hb:Below W.heap.size W W'):Mem W' B v2 v3 ms ss:=h.kept fun g _ hg=>hb.block g hg
theorem txt_small (xs:List Int) (hr:∀ x ∈ xs,0≤x∧x≤255):(txtB 1 xs).size≤65535:=by
 unfold txtB
 rw [strOfNums_size]
 exact Nat.le_trans (tkB_len _ _) (txtN_le 1 xs (by decide) hr).1
theorem cnt_le {xs:List Int} (hr:∀ x ∈ xs,0≤x∧x≤255):cnt xs≤255:=by
 have nb:=zBJ (n:=1) hr
 simp only [show ((256:Int) ^ 1)=256 from rfl] at nb
 unfold cnt;omega
theorem lkO_small (xs:List Int) (hr:∀ x ∈ xs,0≤x∧x≤255):(lkO xs).n.size≤1048576∧(lkO xs).ws.length≤1048576:=by
 have h1:(lkO xs).n=txtB 1 xs:=by simp only [lkO]
 have h2:(lkO xs).ws=itL wtR wtO (cnt (lk3 xs)) (tkR 1 (lk3 xs)):=by simp only [lkO]
 have h3:=txt_small xs hr
 refine ⟨by rw [h1];omega,?_⟩
 rw [h2]
 rw [zBd]
 have:=cnt_le ((less_lk3 xs).2 hr)
 omega
theorem itL_all {α:Type} {f:List Int→List Int} {o:List Int→α} {Q:α→Prop} (hf:Less f) (ho:∀ xs:List Int,(∀ x ∈ xs,0≤x∧x≤255)→Q (o xs)) (xs:List Int) (hr:∀ x ∈ xs,0≤x∧x≤255):∀ k,∀ y ∈ itL f o k xs,Q y
 | 0,y,hy=>by cases hy
 | k+1,y,hy=>by
   rw [itL_succ] at hy
   rcases List.mem_append.1 hy with hy | hy
   ·exact itL_all hf ho xs hr k y hy
   ·rw [List.mem_singleton.1 hy];exact ho _ ((zCH hf k xs).2 hr)
theorem less_2:Less tb2:=(zBN 3).comp (zBN 4)
theorem less_A:Less tbA:=(zBN 1).comp less_2
theorem less_B:Less tbB:=fun xs=>((zCH less_lk (cnt (tb2 xs))).comp less_A) xs
theorem tbO_small (xs:List Int) (hr:∀ x ∈ xs,0≤x∧x≤255):(tbO xs).ls.length≤255∧(tbO xs).ss.length≤255∧∀ x ∈ (tbO xs).ls,x.n.size≤1048576∧x.ws.length≤1048576:=by
 refine ⟨?_,?_,?_⟩
 ·have e:(tbO xs).ls=itL lkR lkO (cnt (tb2 xs)) (tbA xs):=by simp only [tbO]
  rw [e,zBd];exact cnt_le ((less_2 xs).2 hr)
 ·have e:(tbO xs).ss=itL snR snO (cnt (tbB xs)) (tbC xs):=by simp only [tbO]
  rw [e,zBd];exact cnt_le ((less_B xs).2 hr)
 ·have e:(tbO xs).ls=itL lkR lkO (cnt (tb2 xs)) (tbA xs):=by simp only [tbO]
  rw [e]
  exact itL_all (Q:=fun x:Lk=>x.n.size≤1048576∧x.ws.length≤1048576) less_lk lkO_small (tbA xs) ((less_A xs).2 hr) _
noncomputable def rtOK (xs:List Int):Bool:=!tbS xs false && ((tbR xs).isEmpty && bOf (TOK (tbO xs)))
noncomputable def rtC (xs:List Int):Int:=if 65536<xs.length then 2 else if rtOK xs then 0 else 3
def zTab:Tab:=⟨0,0,[],[]⟩
noncomputable def rtT (xs:List Int):Tab:=if rtC xs=0 then tbO xs else zTab
theorem rt_long {xs:List Int} (h:65536<xs.length):rtC xs=2∧rtT xs=zTab:=by
 have e:rtC xs=2:=if_pos h
 exact ⟨e,by unfold rtT;rw [e];rfl⟩
theorem rt_bad {xs:List Int} (h:¬ 65536<xs.length) (hb:rtOK xs=false):rtC xs=3∧rtT xs=zTab:=by
 have e:rtC xs=3:=by unfold rtC;rw [if_neg h,hb];rfl
 exact ⟨e,by unfold rtT;rw [e];rfl⟩
theorem rt_ok {xs:List Int} (h:¬ 65536<xs.length) (hb:rtOK xs=true):rtC xs=0∧rtT xs=tbO xs:=by
 have e:rtC xs=0:=by unfold rtC;rw [if_neg h,hb];rfl
 exact ⟨e,by unfold rtT;rw [e];rfl⟩
structure Jt (w W:World) (x:Nat) (tm nx:Int) (vl vs:Value) (ms:List LkA) (ss:List Sn):Prop where
 a:W.heap[w.heap.size]?=some (.cells #[.int .i64 0,.int .i64 0,.slice none 0 0,.slice none 0 0] 26 (0,0))
 b:W.heap[w.heap.size+1]?=some (.cells #[.int .i64 0,.int .i64 0,.slice none 0 0,.slice none 0 0] 26 (0,0))
 x:W.heap[x]?=some (.cells #[.int .i64 tm,.int .i64 nx,vl,vs] 26 (0,0))
 g:Below w.heap.size w W
 m:Mem W (w.heap.size+3) vl vs ms ss
theorem Jt.below {w W W':World} {x:Nat} {tm nx:Int} {vl vs:Value} {ms:List LkA} {ss:List Sn} (h:Jt w W x tm nx vl vs ms ss) (hb:Below W.heap.size W W'):Jt w W' x tm nx vl vs ms ss :=
 ⟨(hb.block _ (Array.getElem?_eq_some_iff.1 h.a).1).trans h.a,(hb.block _ (Array.getElem?_eq_some_iff.1 h.b).1).trans h.b,(hb.block _ (Array.getElem?_eq_some_iff.1 h.x).1).trans h.x,h.g.trans (hb.mono h.g.size),h.m.below hb⟩
theorem rj_start (w:World) (v:Value) (xs:List Int) (h:RowB w v xs):Rdr w.heap.size (((w.alloc (.cells #[.int .i64 0,.int .i64 0,.slice none 0 0,.slice none 0 0] 26)).alloc (.cells #[.int .i64 0,.int .i64 0,.slice none 0 0,.slice none 0 0] 26)).alloc (.cells #[v,.bool false] 184)) (w.heap.size+2) xs false:=by
 refine ⟨_,?_,(RowU.of h).kept (fun k hk=>?_)⟩
 ·have:=zAK ((w.alloc (.cells #[.int .i64 0,.int .i64 0,.slice none 0 0,.slice none 0 0] 26)).alloc (.cells #[.int .i64 0,.int .i64 0,.slice none 0 0,.slice none 0 0] 26)) #[v,.bool false] 184
  rw [zAN,zAN] at this
  exact this
 ·rw [Below.heap_alloc _ _ _ (by simp;omega),Below.heap_alloc _ _ _ (by simp;omega),Below.heap_alloc _ _ _ hk]
set_option maxRecDepth 100000 in
set_option maxHeartbeats 1600000 in
theorem readJust_any (v:Value) (xs:List Int) (w:World) (h:RowB w v xs) :
 Calls Tryz.prog 85 #[v,.func (Fn.func 86) #[] #[],.func (Fn.func 65) #[] #[]] w fun e w'=>∃ u2 u3 ms,e=.returned (.tuple #[tabV (rtT xs).tm (rtT xs).nx u2 u3,.int .i64 (rtC xs)])∧(ms.map (·.1)=(rtT xs).ls∧Mem w' w.heap.size u2 u3 ms (rtT xs).ss)∧Below w.heap.size w w':=by
 have hr:∀ x ∈ xs,0≤x∧x≤255:=by obtain ⟨_,_,_,_,h⟩:=h;exact h
 have H0:Hid (∀ a cap,v=.slice a xs.length cap→Rdr w.heap.size (((w.alloc (.cells #[.int .i64 0,.int .i64 0,.slice none 0 0,.slice none 0 0] 26)).alloc (.cells #[.int .i64 0,.int .i64 0,.slice none 0 0,.slice none 0 0] 26)).alloc (.cells #[.slice a xs.length cap,.bool false] 184)) (w.heap.size+2) xs false):=fun a cap e=>by rw [← e];exact rj_start w v xs h
 obtain ⟨a,cap,rfl,_⟩:=h
 by_cases hb:65536<xs.length
 ·have hb':(65536:Int)<(xs.length:Int):=by omega
  have HN:Hid (rtC xs=2∧rtT xs=zTab):=rt_long hb
  rw [HN.out.1,HN.out.2]
  clear H0 hr
  go_enter Tryz.func85,Tryz.ntmps85
  go_wp2_with fail
  exact bodyPost_ret (v:=.tuple #[.agg #[.int .i64 0,.int .i64 0,.slice none 0 0,.slice none 0 0],.int .i64 2]) (by simp [results,Tryz.results85,go_sem]) rfl ⟨.slice none 0 0,.slice none 0 0,[],rfl,⟨rfl,Mem.nil _ _⟩,((Below.refl _ _).alloc (Nat.le_refl _) _).alloc (by simp) _⟩
 have hb':¬ (65536:Int)<(xs.length:Int):=by omega
 have HTK:Hid (Calls Tryz.prog 86 #[.pointer (some ⟨w.heap.size+2,0,none⟩)] (((w.alloc (.cells #[.int .i64 0,.int .i64 0,.slice none 0 0,.slice none 0 0] 26)).alloc (.cells #[.int .i64 0,.int .i64 0,.slice none 0 0,.slice none 0 0] 26)).alloc (.cells #[.slice a xs.length cap,.bool false] 184)) fun e w'=>∃ u2 u3 ms,e=.returned (tabV (tbO xs).tm (tbO xs).nx u2 u3)∧(ms.map (·.1)=(tbO xs).ls∧Mem w' (w.heap.size+3) u2 u3 ms (tbO xs).ss)∧Rdr w.heap.size w' (w.heap.size+2) (tbR xs) (tbS xs false)∧(w'.heap[w.heap.size]?=some (.cells #[.int .i64 0,.int .i64 0,.slice none 0 0,.slice none 0 0] 26 (0,0))∧w'.heap[w.heap.size+1]?=some (.cells #[.int .i64 0,.int .i64 0,.slice none 0 0,.slice none 0 0] 26 (0,0))∧Below w.heap.size w w'∧w.heap.size+3≤w'.heap.size)):=by
  have hs3:(((w.alloc (.cells #[.int .i64 0,.int .i64 0,.slice none 0 0,.slice none 0 0] 26)).alloc (.cells #[.int .i64 0,.int .i64 0,.slice none 0 0,.slice none 0 0] 26)).alloc (.cells #[.slice a xs.length cap,.bool false] 184)).heap.size=w.heap.size+3:=by rw [zAN,zAN,zAN]
  refine (takeTable_any (w.heap.size+2) w.heap.size xs false _ (H0.out a cap rfl) (by omega) (by omega) hr).mono ?_
  rintro e w' ⟨u2,u3,ms,rfl,hm,r,g⟩
  rw [hs3] at hm
  refine ⟨u2,u3,ms,rfl,hm,r,zAv ?_ g (by omega),zAv ?_ g (by omega),?_,by have:=g.size;omega⟩
  ·exact ((Below.heap_alloc _ _ _ (by simp;omega)).trans (Below.heap_alloc _ _ _ (by simp))).trans (zAK _ _ _)
  ·have:=zAK (w.alloc (.cells #[.int .i64 0,.int .i64 0,.slice none 0 0,.slice none 0 0] 26)) #[.int .i64 0,.int .i64 0,.slice none 0 0,.slice none 0 0] 26
   rw [zAN] at this
   exact (Below.heap_alloc _ _ _ (by simp)).trans this
  ·have G0:Below w.heap.size w (((w.alloc (.cells #[.int .i64 0,.int .i64 0,.slice none 0 0,.slice none 0 0] 26)).alloc (.cells #[.int .i64 0,.int .i64 0,.slice none 0 0,.slice none 0 0] 26)).alloc (.cells #[.slice a xs.length cap,.bool false] 184)):=(((Below.refl _ _).alloc (Nat.le_refl _) _).alloc (by simp) _).alloc (by simp;omega) _
   exact ⟨g.os.trans G0.os,g.tape.trans G0.tape,g.output.trans G0.output,Nat.le_trans G0.size g.size,fun k hk=>(zBX g (by omega) (by rw [hs3];omega) k hk).trans (G0.block k hk)⟩
 have HTS:=tbO_small xs hr
 have HOK:Hid (rtOK xs=(!tbS xs false && ((tbR xs).isEmpty && bOf (TOK (tbO xs))))):=rfl
 have HBD:Hid (rtOK xs=false→rtC xs=3∧rtT xs=zTab):=rt_bad hb
 have HGD:Hid (rtOK xs=true→rtC xs=0∧rtT xs=tbO xs):=rt_ok hb
 obtain ⟨⟨tm,nx,ls,ss⟩,HT⟩ : ∃ t,Hid (tbO xs=t):=⟨_,rfl⟩
 obtain ⟨rs,HRS⟩ : ∃ rs,Hid (tbR xs=rs):=⟨_,rfl⟩
 obtain ⟨sb,HSB⟩ : ∃ sb,Hid (tbS xs false=sb):=⟨_,rfl⟩
 rw [HT.out,HRS.out,HSB.out] at HTK HOK
 rw [HT.out] at HTS HGD
 dsimp only at HTK HTS
 have HTS':Hid (∀ _:Unit,ls.length≤255∧ss.length≤255∧∀ x ∈ ls,x.n.size≤1048576∧x.ws.length≤1048576):=fun _=>HTS
 clear H0 hr HTS HT HRS HSB hb
 go_enter Tryz.func85,Tryz.ntmps85
 go_wp2_with fail
 rw [show w.heap.size+1+1=w.heap.size+2 from rfl]
 refine HTK.out.mono ?_
 rintro e w4 ⟨u2,u3,ms,rfl,hm,r4,ha,hbb,g4,s4⟩
 obtain ⟨la,lc,rfl⟩:=hm.2.ol.slice
 obtain ⟨sa,sc,rfl⟩:=hm.2.os.slice
 obtain ⟨v4,p4,a',cap',rfl,_,_,_⟩:=r4
 have HML:Hid (ms.map (·.1)=ls):=hm.1
 have J0:Hid (Jt w (w4.alloc (.cells #[.int .i64 tm,.int .i64 nx,.slice la ms.length lc,.slice sa ss.length sc] 26)) w4.heap.size tm nx (.slice la ms.length lc) (.slice sa ss.length sc) ms ss) :=
  ⟨(Below.heap_alloc _ _ _ (by omega)).trans ha,(Below.heap_alloc _ _ _ (by omega)).trans hbb,heap_alloc_new _ _,g4.alloc g4.size _,hm.2.below (by exact (Below.refl _ _).alloc (Nat.le_refl _) _)⟩
 have P5:=(Below.heap_alloc w4 (.cells #[.int .i64 tm,.int .i64 nx,.slice la ms.length lc,.slice sa ss.length sc] 26) _ (show w.heap.size+2<w4.heap.size by omega)).trans p4
 clear HTK hm ha hbb g4 p4
 unfold tabV
 go_upto_region 6 with fail
 generalize (w4.alloc (.cells #[.int .i64 tm,.int .i64 nx,.slice la ms.length lc,.slice sa ss.length sc] 26))=w5 at J0 P5 ⊢
 generalize w4.heap.size=x5 at J0 ⊢
 obtain ⟨p0,_⟩:=zAA P5 0 (x:=.slice a' rs.length cap') rfl
 obtain ⟨p1,_⟩:=zAA P5 1 (x:=.bool sb) rfl
 obtain ⟨ln,HLN⟩ : ∃ ln,Hid (ms.length=ln):=⟨_,rfl⟩
 obtain ⟨sn,HSN⟩ : ∃ sn,Hid (ss.length=sn):=⟨_,rfl⟩
 rw [HLN.out,HSN.out] at J0 ⊢
 clear P5
 rcases Bool.eq_false_or_eq_true sb with hsb | hsb
 case inl =>
  rw [hsb] at p1
  have HN:Hid (rtC xs=3∧rtT xs=zTab):=HBD.out (by rw [HOK.out,hsb];rfl)
  have J:=J0
  clear J0
  have y0:=(zAA J.out.b 0 (x:=.int .i64 0) rfl).1
  obtain ⟨zc0,zf0⟩:=zAA J.out.a 0 (x:=.int .i64 0) rfl
  have y1:=(zAA J.out.b 1 (x:=.int .i64 0) rfl).1
  obtain ⟨zc1,zf1⟩:=zAA J.out.a 1 (x:=.int .i64 0) rfl
  have y2:=(zAA J.out.b 2 (x:=.slice none 0 0) rfl).1
  obtain ⟨zc2,zf2⟩:=zAA J.out.a 2 (x:=.slice none 0 0) rfl
  have y3:=(zAA J.out.b 3 (x:=.slice none 0 0) rfl).1
  obtain ⟨zc3,zf3⟩:=zAA J.out.a 3 (x:=.slice none 0 0) rfl
  have AF:Hid (((((w5.setCell ⟨w.heap.size,0,none⟩ (.int .i64 0)).setCell ⟨w.heap.size,1,none⟩ (.int .i64 0)).setCell ⟨w.heap.size,2,none⟩ (.slice none 0 0)).setCell ⟨w.heap.size,3,none⟩ (.slice none 0 0)).heap[w.heap.size]?=some (.cells #[.int .i64 0,.int .i64 0,.slice none 0 0,.slice none 0 0] 26 (0,0))∧Below w.heap.size w ((((w5.setCell ⟨w.heap.size,0,none⟩ (.int .i64 0)).setCell ⟨w.heap.size,1,none⟩ (.int .i64 0)).setCell ⟨w.heap.size,2,none⟩ (.slice none 0 0)).setCell ⟨w.heap.size,3,none⟩ (.slice none 0 0))∧Mem ((((w5.setCell ⟨w.heap.size,0,none⟩ (.int .i64 0)).setCell ⟨w.heap.size,1,none⟩ (.int .i64 0)).setCell ⟨w.heap.size,2,none⟩ (.slice none 0 0)).setCell ⟨w.heap.size,3,none⟩ (.slice none 0 0)) (w.heap.size+3) (.slice la ln lc) (.slice sa sn sc) ms ss) :=
   ⟨zAE (zAE (zAE (zAE J.out.a 0 _) 1 _) 2 _) 3 _,Below.setCell (Below.setCell (Below.setCell (Below.setCell J.out.g (p:=⟨w.heap.size,0,none⟩) (Nat.le_refl _) _) (p:=⟨w.heap.size,1,none⟩) (Nat.le_refl _) _) (p:=⟨w.heap.size,2,none⟩) (Nat.le_refl _) _) (p:=⟨w.heap.size,3,none⟩) (Nat.le_refl _) _,J.out.m.kept fun g hg _=>(zAB (by omega) 3 _).trans ((zAB (by omega) 2 _).trans ((zAB (by omega) 1 _).trans (zAB (by omega) 0 _)))⟩
  clear J
  go_wp2_with fail
  generalize ((((w5.setCell ⟨w.heap.size,0,none⟩ (.int .i64 0)).setCell ⟨w.heap.size,1,none⟩ (.int .i64 0)).setCell ⟨w.heap.size,2,none⟩ (.slice none 0 0)).setCell ⟨w.heap.size,3,none⟩ (.slice none 0 0))=wf at AF ⊢
  have d0:=(zAA AF.out.1 0 (x:=.int .i64 0) rfl).1
  have d1:=(zAA AF.out.1 1 (x:=.int .i64 0) rfl).1
  have d2:=(zAA AF.out.1 2 (x:=.slice none 0 0) rfl).1
  have d3:=(zAA AF.out.1 3 (x:=.slice none 0 0) rfl).1
  refine bodyPost_ret (v:=.tuple #[.agg #[.int .i64 0,.int .i64 0,.slice none 0 0,.slice none 0 0],.int .i64 3]) (by simp [results,Tryz.results85,go_sem,d0,d1,d2,d3]) rfl ?_
  exact ⟨.slice none 0 0,.slice none 0 0,[],by rw [HN.out.1,HN.out.2];rfl,⟨by rw [HN.out.2];rfl,by rw [HN.out.2];exact Mem.nil _ _⟩,AF.out.2.1⟩
 case inr =>
  rw [hsb] at p1
  rcases rs with _ | ⟨y,ys⟩
  rotate_left
  ·have HN:Hid (rtC xs=3∧rtT xs=zTab):=HBD.out (by rw [HOK.out,hsb];rfl)
   have hlen:0<(y :: ys).length:=Nat.succ_pos _
   have hdec:decide (0<(y :: ys).length)=true:=decide_eq_true hlen
   clear HOK
   generalize (y :: ys).length=len at p0 hlen hdec
   have J:=J0
   clear J0
   have y0:=(zAA J.out.b 0 (x:=.int .i64 0) rfl).1
   obtain ⟨zc0,zf0⟩:=zAA J.out.a 0 (x:=.int .i64 0) rfl
   have y1:=(zAA J.out.b 1 (x:=.int .i64 0) rfl).1
   obtain ⟨zc1,zf1⟩:=zAA J.out.a 1 (x:=.int .i64 0) rfl
   have y2:=(zAA J.out.b 2 (x:=.slice none 0 0) rfl).1
   obtain ⟨zc2,zf2⟩:=zAA J.out.a 2 (x:=.slice none 0 0) rfl
   have y3:=(zAA J.out.b 3 (x:=.slice none 0 0) rfl).1
   obtain ⟨zc3,zf3⟩:=zAA J.out.a 3 (x:=.slice none 0 0) rfl
   have AF:Hid (((((w5.setCell ⟨w.heap.size,0,none⟩ (.int .i64 0)).setCell ⟨w.heap.size,1,none⟩ (.int .i64 0)).setCell ⟨w.heap.size,2,none⟩ (.slice none 0 0)).setCell ⟨w.heap.size,3,none⟩ (.slice none 0 0)).heap[w.heap.size]?=some (.cells #[.int .i64 0,.int .i64 0,.slice none 0 0,.slice none 0 0] 26 (0,0))∧Below w.heap.size w ((((w5.setCell ⟨w.heap.size,0,none⟩ (.int .i64 0)).setCell ⟨w.heap.size,1,none⟩ (.int .i64 0)).setCell ⟨w.heap.size,2,none⟩ (.slice none 0 0)).setCell ⟨w.heap.size,3,none⟩ (.slice none 0 0))∧Mem ((((w5.setCell ⟨w.heap.size,0,none⟩ (.int .i64 0)).setCell ⟨w.heap.size,1,none⟩ (.int .i64 0)).setCell ⟨w.heap.size,2,none⟩ (.slice none 0 0)).setCell ⟨w.heap.size,3,none⟩ (.slice none 0 0)) (w.heap.size+3) (.slice la ln lc) (.slice sa sn sc) ms ss) :=
    ⟨zAE (zAE (zAE (zAE J.out.a 0 _) 1 _) 2 _) 3 _,Below.setCell (Below.setCell (Below.setCell (Below.setCell J.out.g (p:=⟨w.heap.size,0,none⟩) (Nat.le_refl _) _) (p:=⟨w.heap.size,1,none⟩) (Nat.le_refl _) _) (p:=⟨w.heap.size,2,none⟩) (Nat.le_refl _) _) (p:=⟨w.heap.size,3,none⟩) (Nat.le_refl _) _,J.out.m.kept fun g hg _=>(zAB (by omega) 3 _).trans ((zAB (by omega) 2 _).trans ((zAB (by omega) 1 _).trans (zAB (by omega) 0 _)))⟩
   clear J
   go_wp2_with fail
   generalize ((((w5.setCell ⟨w.heap.size,0,none⟩ (.int .i64 0)).setCell ⟨w.heap.size,1,none⟩ (.int .i64 0)).setCell ⟨w.heap.size,2,none⟩ (.slice none 0 0)).setCell ⟨w.heap.size,3,none⟩ (.slice none 0 0))=wf at AF ⊢
   have d0:=(zAA AF.out.1 0 (x:=.int .i64 0) rfl).1
   have d1:=(zAA AF.out.1 1 (x:=.int .i64 0) rfl).1
   have d2:=(zAA AF.out.1 2 (x:=.slice none 0 0) rfl).1
   have d3:=(zAA AF.out.1 3 (x:=.slice none 0 0) rfl).1
   refine bodyPost_ret (v:=.tuple #[.agg #[.int .i64 0,.int .i64 0,.slice none 0 0,.slice none 0 0],.int .i64 3]) (by simp [results,Tryz.results85,go_sem,d0,d1,d2,d3]) rfl ?_
   exact ⟨.slice none 0 0,.slice none 0 0,[],by rw [HN.out.1,HN.out.2];rfl,⟨by rw [HN.out.2];rfl,by rw [HN.out.2];exact Mem.nil _ _⟩,AF.out.2.1⟩
  ·have HOK2:Hid (rtOK xs=bOf (TOK ⟨tm,nx,ls,ss⟩)):=by rw [HOK.out,hsb];rfl
   clear HOK
   have HTO:Hid (Calls Tryz.prog 65 #[.agg #[.int .i64 tm,.int .i64 nx,.slice la ln lc,.slice sa sn sc]] w5 fun e w'=>e=.returned (.bool (bOf (TOK ⟨tm,nx,ls,ss⟩)))∧Below w5.heap.size w5 w'):=by
    obtain ⟨r1,r2⟩:=J0.out.m.rows
    rw [HML.out] at r1
    obtain ⟨t1,t2,t3⟩:=HTS'.out ()
    exact zBo tm nx _ _ ls ss w5 r1 r2 t3 (by omega) (by omega)
   have x0:=(zAA J0.out.x 0 (x:=.int .i64 tm) rfl).1
   have x1:=(zAA J0.out.x 1 (x:=.int .i64 nx) rfl).1
   have x2:=(zAA J0.out.x 2 (x:=.slice la ln lc) rfl).1
   have x3:=(zAA J0.out.x 3 (x:=.slice sa sn sc) rfl).1
   generalize bOf (TOK ⟨tm,nx,ls,ss⟩)=bb at HTO HOK2
   go_wp2_with fail
   refine HTO.out.mono ?_
   rintro e w6 ⟨rfl,b6⟩
   have J:Hid (Jt w w6 x5 tm nx (.slice la ln lc) (.slice sa sn sc) ms ss):=J0.out.below b6
   clear J0 b6 HTO x0 x1 x2 x3 p0 p1
   cases bb
   case false =>
    have HN:Hid (rtC xs=3∧rtT xs=zTab):=HBD.out HOK2.out
    have y0:=(zAA J.out.b 0 (x:=.int .i64 0) rfl).1
    obtain ⟨zc0,zf0⟩:=zAA J.out.a 0 (x:=.int .i64 0) rfl
    have y1:=(zAA J.out.b 1 (x:=.int .i64 0) rfl).1
    obtain ⟨zc1,zf1⟩:=zAA J.out.a 1 (x:=.int .i64 0) rfl
    have y2:=(zAA J.out.b 2 (x:=.slice none 0 0) rfl).1
    obtain ⟨zc2,zf2⟩:=zAA J.out.a 2 (x:=.slice none 0 0) rfl
    have y3:=(zAA J.out.b 3 (x:=.slice none 0 0) rfl).1
    obtain ⟨zc3,zf3⟩:=zAA J.out.a 3 (x:=.slice none 0 0) rfl
    have AF:Hid (((((w6.setCell ⟨w.heap.size,0,none⟩ (.int .i64 0)).setCell ⟨w.heap.size,1,none⟩ (.int .i64 0)).setCell ⟨w.heap.size,2,none⟩ (.slice none 0 0)).setCell ⟨w.heap.size,3,none⟩ (.slice none 0 0)).heap[w.heap.size]?=some (.cells #[.int .i64 0,.int .i64 0,.slice none 0 0,.slice none 0 0] 26 (0,0))∧Below w.heap.size w ((((w6.setCell ⟨w.heap.size,0,none⟩ (.int .i64 0)).setCell ⟨w.heap.size,1,none⟩ (.int .i64 0)).setCell ⟨w.heap.size,2,none⟩ (.slice none 0 0)).setCell ⟨w.heap.size,3,none⟩ (.slice none 0 0))∧Mem ((((w6.setCell ⟨w.heap.size,0,none⟩ (.int .i64 0)).setCell ⟨w.heap.size,1,none⟩ (.int .i64 0)).setCell ⟨w.heap.size,2,none⟩ (.slice none 0 0)).setCell ⟨w.heap.size,3,none⟩ (.slice none 0 0)) (w.heap.size+3) (.slice la ln lc) (.slice sa sn sc) ms ss) :=
     ⟨zAE (zAE (zAE (zAE J.out.a 0 _) 1 _) 2 _) 3 _,Below.setCell (Below.setCell (Below.setCell (Below.setCell J.out.g (p:=⟨w.heap.size,0,none⟩) (Nat.le_refl _) _) (p:=⟨w.heap.size,1,none⟩) (Nat.le_refl _) _) (p:=⟨w.heap.size,2,none⟩) (Nat.le_refl _) _) (p:=⟨w.heap.size,3,none⟩) (Nat.le_refl _) _,J.out.m.kept fun g hg _=>(zAB (by omega) 3 _).trans ((zAB (by omega) 2 _).trans ((zAB (by omega) 1 _).trans (zAB (by omega) 0 _)))⟩
    clear J
    go_wp2_with fail
    generalize ((((w6.setCell ⟨w.heap.size,0,none⟩ (.int .i64 0)).setCell ⟨w.heap.size,1,none⟩ (.int .i64 0)).setCell ⟨w.heap.size,2,none⟩ (.slice none 0 0)).setCell ⟨w.heap.size,3,none⟩ (.slice none 0 0))=wf at AF ⊢
    have d0:=(zAA AF.out.1 0 (x:=.int .i64 0) rfl).1
    have d1:=(zAA AF.out.1 1 (x:=.int .i64 0) rfl).1
    have d2:=(zAA AF.out.1 2 (x:=.slice none 0 0) rfl).1
    have d3:=(zAA AF.out.1 3 (x:=.slice none 0 0) rfl).1
    refine bodyPost_ret (v:=.tuple #[.agg #[.int .i64 0,.int .i64 0,.slice none 0 0,.slice none 0 0],.int .i64 3]) (by simp [results,Tryz.results85,go_sem,d0,d1,d2,d3]) rfl ?_
    exact ⟨.slice none 0 0,.slice none 0 0,[],by rw [HN.out.1,HN.out.2];rfl,⟨by rw [HN.out.2];rfl,by rw [HN.out.2];exact Mem.nil _ _⟩,AF.out.2.1⟩
   case true =>
    have HN:Hid (rtC xs=0∧rtT xs=⟨tm,nx,ls,ss⟩):=HGD.out HOK2.out
    have y0:=(zAA J.out.x 0 (x:=.int .i64 tm) rfl).1
    obtain ⟨zc0,zf0⟩:=zAA J.out.a 0 (x:=.int .i64 0) rfl
    have y1:=(zAA J.out.x 1 (x:=.int .i64 nx) rfl).1
    obtain ⟨zc1,zf1⟩:=zAA J.out.a 1 (x:=.int .i64 0) rfl
    have y2:=(zAA J.out.x 2 (x:=.slice la ln lc) rfl).1
    obtain ⟨zc2,zf2⟩:=zAA J.out.a 2 (x:=.slice none 0 0) rfl
    have y3:=(zAA J.out.x 3 (x:=.slice sa sn sc) rfl).1
    obtain ⟨zc3,zf3⟩:=zAA J.out.a 3 (x:=.slice none 0 0) rfl
    have AF:Hid (((((w6.setCell ⟨w.heap.size,0,none⟩ (.int .i64 tm)).setCell ⟨w.heap.size,1,none⟩ (.int .i64 nx)).setCell ⟨w.heap.size,2,none⟩ (.slice la ln lc)).setCell ⟨w.heap.size,3,none⟩ (.slice sa sn sc)).heap[w.heap.size]?=some (.cells #[.int .i64 tm,.int .i64 nx,.slice la ln lc,.slice sa sn sc] 26 (0,0))∧Below w.heap.size w ((((w6.setCell ⟨w.heap.size,0,none⟩ (.int .i64 tm)).setCell ⟨w.heap.size,1,none⟩ (.int .i64 nx)).setCell ⟨w.heap.size,2,none⟩ (.slice la ln lc)).setCell ⟨w.heap.size,3,none⟩ (.slice sa sn sc))∧Mem ((((w6.setCell ⟨w.heap.size,0,none⟩ (.int .i64 tm)).setCell ⟨w.heap.size,1,none⟩ (.int .i64 nx)).setCell ⟨w.heap.size,2,none⟩ (.slice la ln lc)).setCell ⟨w.heap.size,3,none⟩ (.slice sa sn sc)) (w.heap.size+3) (.slice la ln lc) (.slice sa sn sc) ms ss) :=
     ⟨zAE (zAE (zAE (zAE J.out.a 0 _) 1 _) 2 _) 3 _,Below.setCell (Below.setCell (Below.setCell (Below.setCell J.out.g (p:=⟨w.heap.size,0,none⟩) (Nat.le_refl _) _) (p:=⟨w.heap.size,1,none⟩) (Nat.le_refl _) _) (p:=⟨w.heap.size,2,none⟩) (Nat.le_refl _) _) (p:=⟨w.heap.size,3,none⟩) (Nat.le_refl _) _,J.out.m.kept fun g hg _=>(zAB (by omega) 3 _).trans ((zAB (by omega) 2 _).trans ((zAB (by omega) 1 _).trans (zAB (by omega) 0 _)))⟩
    clear J
    go_wp2_with fail
    generalize ((((w6.setCell ⟨w.heap.size,0,none⟩ (.int .i64 tm)).setCell ⟨w.heap.size,1,none⟩ (.int .i64 nx)).setCell ⟨w.heap.size,2,none⟩ (.slice la ln lc)).setCell ⟨w.heap.size,3,none⟩ (.slice sa sn sc))=wf at AF ⊢
    have d0:=(zAA AF.out.1 0 (x:=.int .i64 tm) rfl).1
    have d1:=(zAA AF.out.1 1 (x:=.int .i64 nx) rfl).1
    have d2:=(zAA AF.out.1 2 (x:=.slice la ln lc) rfl).1
    have d3:=(zAA AF.out.1 3 (x:=.slice sa sn sc) rfl).1
    refine bodyPost_ret (v:=.tuple #[.agg #[.int .i64 tm,.int .i64 nx,.slice la ln lc,.slice sa sn sc],.int .i64 0]) (by simp [results,Tryz.results85,go_sem,d0,d1,d2,d3]) rfl ?_
    exact ⟨_,_,ms,by rw [HN.out.1,HN.out.2];rfl,⟨by rw [HN.out.2];exact HML.out,by rw [HN.out.2];exact AF.out.2.2.mono (by omega)⟩,AF.out.2.1⟩
set_option maxRecDepth 100000 in
set_option maxHeartbeats 1600000 in
theorem zBa (v:Value) (xs:List Int) (w:World) (h:RowB w v xs) :
 Calls Tryz.prog 55 #[v] w fun e w'=>∃ u2 u3 ms,e=.returned (.tuple #[tabV (rtT xs).tm (rtT xs).nx u2 u3,.int .i64 (rtC xs)])∧(ms.map (·.1)=(rtT xs).ls∧Mem w' w.heap.size u2 u3 ms (rtT xs).ss)∧Below w.heap.size w w':=by
 have HJ:Hid (Calls Tryz.prog 85 #[v,.func (Fn.func 86) #[] #[],.func (Fn.func 65) #[] #[]] (w.alloc (.cells #[.int .i64 0,.int .i64 0,.slice none 0 0,.slice none 0 0] 26)) fun e w'=>∃ u2 u3 ms,e=.returned (.tuple #[tabV (rtT xs).tm (rtT xs).nx u2 u3,.int .i64 (rtC xs)])∧(ms.map (·.1)=(rtT xs).ls∧Mem w' (w.heap.size+1) u2 u3 ms (rtT xs).ss)∧Below (w.heap.size+1) (w.alloc (.cells #[.int .i64 0,.int .i64 0,.slice none 0 0,.slice none 0 0] 26)) w'):=by
  have:=readJust_any v xs (w.alloc (.cells #[.int .i64 0,.int .i64 0,.slice none 0 0,.slice none 0 0] 26)) (h.below ((Below.refl _ _).alloc (Nat.le_refl _) _))
  rw [zAN] at this
  exact this
 obtain ⟨⟨tm,nx,ls,ss⟩,HT⟩ : ∃ t,Hid (rtT xs=t):=⟨_,rfl⟩
 obtain ⟨RC,HC⟩ : ∃ c,Hid (rtC xs=c):=⟨_,rfl⟩
 rw [HT.out,HC.out] at HJ
 rw [HT.out,HC.out]
 dsimp only at HJ ⊢
 clear h HT HC
 go_enter Tryz.func55,Tryz.ntmps55
 go_wp2_with fail
 refine HJ.out.mono ?_
 rintro e w1 ⟨u2,u3,ms,rfl,hm,b1⟩
 obtain ⟨la,lc,rfl⟩:=hm.2.ol.slice
 obtain ⟨sa,sc,rfl⟩:=hm.2.os.slice
 have A1:w1.heap[w.heap.size]?=some (.cells #[.int .i64 0,.int .i64 0,.slice none 0 0,.slice none 0 0] 26 (0,0)):=(b1.block _ (by omega)).trans (heap_alloc_new w _)
 have G1:Hid (Below w.heap.size w w1∧ms.map (·.1)=ls∧Mem w1 (w.heap.size+1) (.slice la ms.length lc) (.slice sa ss.length sc) ms ss):=⟨((Below.refl _ _).alloc (Nat.le_refl _) _).trans (b1.mono (by omega)),hm.1,hm.2⟩
 obtain ⟨ln,HLN⟩ : ∃ ln,Hid (ms.length=ln):=⟨_,rfl⟩
 obtain ⟨sn,HSN⟩ : ∃ sn,Hid (ss.length=sn):=⟨_,rfl⟩
 rw [HLN.out,HSN.out] at G1 ⊢
 unfold tabV
 clear hm b1 HJ
 obtain ⟨zc0,zf0⟩:=zAA A1 0 (x:=.int .i64 0) rfl
 obtain ⟨zc1,zf1⟩:=zAA A1 1 (x:=.int .i64 0) rfl
 obtain ⟨zc2,zf2⟩:=zAA A1 2 (x:=.slice none 0 0) rfl
 obtain ⟨zc3,zf3⟩:=zAA A1 3 (x:=.slice none 0 0) rfl
 have AF:Hid (((((w1.setCell ⟨w.heap.size,0,none⟩ (.int .i64 tm)).setCell ⟨w.heap.size,1,none⟩ (.int .i64 nx)).setCell ⟨w.heap.size,2,none⟩ (.slice la ln lc)).setCell ⟨w.heap.size,3,none⟩ (.slice sa sn sc)).heap[w.heap.size]?=some (.cells #[.int .i64 tm,.int .i64 nx,.slice la ln lc,.slice sa sn sc] 26 (0,0))∧Below w.heap.size w ((((w1.setCell ⟨w.heap.size,0,none⟩ (.int .i64 tm)).setCell ⟨w.heap.size,1,none⟩ (.int .i64 nx)).setCell ⟨w.heap.size,2,none⟩ (.slice la ln lc)).setCell ⟨w.heap.size,3,none⟩ (.slice sa sn sc))∧ms.map (·.1)=ls∧Mem ((((w1.setCell ⟨w.heap.size,0,none⟩ (.int .i64 tm)).setCell ⟨w.heap.size,1,none⟩ (.int .i64 nx)).setCell ⟨w.heap.size,2,none⟩ (.slice la ln lc)).setCell ⟨w.heap.size,3,none⟩ (.slice sa sn sc)) (w.heap.size+1) (.slice la ln lc) (.slice sa sn sc) ms ss) :=
  ⟨zAE (zAE (zAE (zAE A1 0 _) 1 _) 2 _) 3 _,Below.setCell (Below.setCell (Below.setCell (Below.setCell G1.out.1 (p:=⟨w.heap.size,0,none⟩) (Nat.le_refl _) _) (p:=⟨w.heap.size,1,none⟩) (Nat.le_refl _) _) (p:=⟨w.heap.size,2,none⟩) (Nat.le_refl _) _) (p:=⟨w.heap.size,3,none⟩) (Nat.le_refl _) _,G1.out.2.1,G1.out.2.2.kept fun g hg _=>(zAB (by omega) 3 _).trans ((zAB (by omega) 2 _).trans ((zAB (by omega) 1 _).trans (zAB (by omega) 0 _)))⟩
 clear G1 A1
 go_wp2_with fail
 generalize ((((w1.setCell ⟨w.heap.size,0,none⟩ (.int .i64 tm)).setCell ⟨w.heap.size,1,none⟩ (.int .i64 nx)).setCell ⟨w.heap.size,2,none⟩ (.slice la ln lc)).setCell ⟨w.heap.size,3,none⟩ (.slice sa sn sc))=wf at AF ⊢
 have d0:=(zAA AF.out.1 0 (x:=.int .i64 tm) rfl).1
 have d1:=(zAA AF.out.1 1 (x:=.int .i64 nx) rfl).1
 have d2:=(zAA AF.out.1 2 (x:=.slice la ln lc) rfl).1
 have d3:=(zAA AF.out.1 3 (x:=.slice sa sn sc) rfl).1
 exact bodyPost_ret (v:=.tuple #[.agg #[.int .i64 tm,.int .i64 nx,.slice la ln lc,.slice sa sn sc],.int .i64 RC]) (by simp [results,Tryz.results55,go_sem,d0,d1,d2,d3]) rfl ⟨_,_,ms,rfl,⟨AF.out.2.2.1,AF.out.2.2.2.mono (by omega)⟩,AF.out.2.1⟩
end Go.Proofs.YtakfniknkejgpaaGreatDoor.Ur
namespace Go.Proofs.YtakfniknkejgpaaGreatDoor.Xl
open Go.RowKit Sl By Ap Tx Ho Er Xp
open Sh (KTab KTab.below)
open Pw (ckC zBV)
open Pf (PcP pcB pcC pcB_yes pcB_no pcB_get pcC_ok pcC_get pcC_bad)
open Ur (rtC rtT rtOK zTab)
open Tb (Tab)
open Xs (stB)
open Xv (vok vok_size)
open Xq (f_four)
open Tm (zAz fOut zAX)
open Gt (Vo)
noncomputable def pfC (rt piece:ByteArray) (i n:Int) (proof:ByteArray):Int:=if okT proof=true then ckC rt piece i n (chk proof) else 10
noncomputable def fbC (rt:ByteArray) (sz:Int) (ps qs:List ByteArray):Nat→Int
 | 0=>0
 | k+1=>if fbC rt sz ps qs k=0 then pfC rt (tnth ps k) k sz (tnth qs k) else fbC rt sz ps qs k
section
variable {rt:ByteArray} {sz:Int} {ps qs:List ByteArray}
theorem fb_succ (k:Nat):fbC rt sz ps qs (k+1)=if fbC rt sz ps qs k=0 then pfC rt (tnth ps k) k sz (tnth qs k) else fbC rt sz ps qs k:=rfl
theorem fb_stay {k:Nat} (h:fbC rt sz ps qs k ≠ 0):∀ m,k≤m→fbC rt sz ps qs m=fbC rt sz ps qs k
 | 0,hm=>by
   have:k=0:=by omega
   rw [this]
 | m+1,hm=>by
   by_cases e:k=m+1
   ·rw [e]
   ·have ih:=fb_stay h m (by omega)
    rw [fb_succ,ih,if_neg h]
theorem fb_first {k m:Nat} {c:Int} (h0:fbC rt sz ps qs k=0) (h:pfC rt (tnth ps k) k sz (tnth qs k)=c) (hc:c ≠ 0) (hm:k<m):fbC rt sz ps qs m=c:=by
 have e:fbC rt sz ps qs (k+1)=c:=by rw [fb_succ,if_pos h0,h]
 rw [fb_stay (by rw [e];exact hc) m hm,e]
theorem fb_go {k:Nat} (h0:fbC rt sz ps qs k=0) (h:pfC rt (tnth ps k) k sz (tnth qs k)=0):fbC rt sz ps qs (k+1)=0:=by rw [fb_succ,if_pos h0,h]
end
theorem ck_vals (rt piece:ByteArray) (i n:Int) (ps:List ByteArray):ckC rt piece i n ps=0 ∨ ckC rt piece i n ps=1 ∨ ckC rt piece i n ps=2 ∨ ckC rt piece i n ps=4 ∨ ckC rt piece i n ps=10 ∨ ckC rt piece i n ps=11:=by
 unfold ckC
 repeat' split
 all_goals simp
theorem pf_vals (rt piece:ByteArray) (i n:Int) (pr:ByteArray):pfC rt piece i n pr=0 ∨ pfC rt piece i n pr=1 ∨ pfC rt piece i n pr=2 ∨ pfC rt piece i n pr=4 ∨ pfC rt piece i n pr=10 ∨ pfC rt piece i n pr=11:=by
 unfold pfC
 split
 ·exact ck_vals _ _ _ _ _
 ·simp
theorem pf_code {rt piece:ByteArray} {i n:Int} {pr:ByteArray} (h:pfC rt piece i n pr ≠ 0):zBA (fidx (pfC rt piece i n pr))=pfC rt piece i n pr:=by
 rcases pf_vals rt piece i n pr with e | e | e | e | e | e
 ·exact absurd e h
 all_goals rw [e];decide
noncomputable def itC (n sq sz:Int) (rt:ByteArray) (vs:List Vo) (ps qs:List ByteArray):Int :=
 if 4096<ps.length ∨ 4096<qs.length then 2 else if zAz n=0 then (if stB n sq sz rt vs=true then (if pcB ps=true∧(ps.length:Int)=sz∧(qs.length:Int)=sz then (if fbC rt sz ps qs ps.length=0 then rtC (cat ps) else fbC rt sz ps qs ps.length) else 1) else 12) else 4
noncomputable def itT (n sq sz:Int) (rt:ByteArray) (vs:List Vo) (ps qs:List ByteArray):Tab:=if itC n sq sz rt vs ps qs=0 then rtT (cat ps) else zTab
structure It (n sq sz:Int) (rt:ByteArray) (vs:List Vo) (ps qs:List ByteArray) (c:Int) (t:Tab):Prop where
 c:itC n sq sz rt vs ps qs=c
 t:itT n sq sz rt vs ps qs=t
theorem it_no {n sq sz:Int} {rt:ByteArray} {vs:List Vo} {ps qs:List ByteArray} {c:Int} (h:itC n sq sz rt vs ps qs=c) (hc:c ≠ 0):It n sq sz rt vs ps qs c zTab:=⟨h,by unfold itT;rw [h,if_neg hc]⟩
theorem it_end {n sq sz:Int} {rt:ByteArray} {vs:List Vo} {ps qs:List ByteArray} (h:itC n sq sz rt vs ps qs=rtC (cat ps)):It n sq sz rt vs ps qs (rtC (cat ps)) (rtT (cat ps)):=⟨h,by
 unfold itT
 rw [h]
 by_cases e:rtC (cat ps)=0
 ·rw [if_pos e]
 ·rw [if_neg e]
  unfold rtT
  rw [if_neg e]⟩
theorem cat_le {n:Nat}:∀ (ts:List ByteArray),(∀ t ∈ ts,t.size≤n)→(cat ts).length≤n * ts.length
 | [],_=>by simp [cat]
 | t :: ts,h=>by
   have ih:=cat_le ts (fun x hx=>h x (List.mem_cons_of_mem _ hx))
   have h1:=h t List.mem_cons_self
   unfold cat at ih ⊢
   rw [List.flatMap_cons,List.length_append,zAV,List.length_cons,Nat.mul_succ]
   omega
theorem pc_small {ts:List ByteArray} (h:PcP ts):∀ t ∈ ts,t.size≤32:=fun t ht=>by
 obtain ⟨k,hk,e⟩:=List.getElem_of_mem ht
 have:=(h.2 k hk).2.1
 have e2:tnth ts k=t:=by unfold tnth;rw [List.getD_eq_getElem?_getD,List.getElem?_eq_getElem hk,e];rfl
 rwa [e2] at this
theorem pc_cat {ts:List ByteArray} (h:PcP ts):(cat ts).length≤2048:=by
 have:=cat_le ts (pc_small h)
 have:=h.1
 omega
theorem rt_vals {xs:List Int} (h:xs.length≤2048):rtC xs=0 ∨ rtC xs=3:=by
 unfold rtC
 rw [if_neg (by omega)]
 split
 ·exact .inl rfl
 ·exact .inr rfl
def pfS (proof:ByteArray):ByteArray:=if okT proof=true then tPr else tPt
theorem chk_len (s:ByteArray):(chk s).length=s.size / 32:=by unfold chk;exact hsTo_len s _
set_option maxRecDepth 100000 in
set_option maxHeartbeats 1600000 in
theorem zCG (n:Int) (w:World) (h:zAz n=0):Calls Tryz.prog 32 #[.int .i64 n] w fun e w'=>e=.returned .nilIface∧Below w.heap.size w w':=by
 have HF:=zAX n w
 rw [h] at HF
 clear h
 go_enter Tryz.func32,Tryz.ntmps32
 go_wp2_with fail
 refine HF.mono ?_
 rintro e w1 ⟨rfl,hw⟩
 rw [hw]
 clear hw HF
 go_wp2_with fail
 refine (zBI _ w).mono ?_
 rintro e w2 ⟨rfl,b2⟩
 go_wp2_with fail
 go_ret
 exact ⟨rfl,b2⟩
def tNo:ByteArray:=⟨#[110,111,100,101,115]⟩
set_option maxRecDepth 100000 in
set_option maxHeartbeats 1600000 in
theorem zCN (n:Int) {w:World} {A:Nat→Addr} (h:¬ zAz n=0) (hS:Sen w A):Calls Tryz.prog 32 #[.int .i64 n] w fun e w'=>e=.returned (fnd tNo (sen (A 2)))∧Below w.heap.size w w':=by
 have HF:=zAX n w
 rw [f_four h] at HF
 have HC:Hid (Calls Tryz.prog 35 #[.string tNo,.int .i64 4] w fun e w'=>e=.returned (fnd tNo (sen (A 2)))∧Below w.heap.size w w'):=zBH tNo 4 (by decide) hS
 generalize fnd tNo (sen (A 2))=ev at HC ⊢
 unfold tNo at HC
 clear h hS
 go_enter Tryz.func32,Tryz.ntmps32
 go_wp2_with fail
 refine HF.mono ?_
 rintro e w1 ⟨rfl,hw⟩
 rw [hw]
 clear hw HF
 go_wp2_with fail
 refine HC.out.mono ?_
 rintro e w2 ⟨rfl,b2⟩
 go_wp2_with fail
 go_ret
 exact ⟨rfl,b2⟩
set_option maxRecDepth 100000 in
set_option maxHeartbeats 1600000 in
theorem provedFault_nil (sq sz:Int) (rt:ByteArray) (va:Option Addr) (vn vc:Nat) (piece:ByteArray) (i:Int) (proof:ByteArray) (w:World) (hq:proof.size≤1048576) (h:pfC rt piece i sz proof=0) (hK:KTab w) (hp:9<w.heap.size) :
 Calls Tryz.prog 53 #[.agg #[.int .i64 sq,.int .i64 sz,.string rt,.slice va vn vc],.string piece,.int .i64 i,.string proof] w fun e w'=>e=.returned .nilIface∧Below w.heap.size w w':=by
 have ho:okT proof=true:=by
  cases e:okT proof with
  | true=>rfl
  | false=>unfold pfC at h;rw [e] at h;simp at h
 have hc:ckC rt piece i sz (chk proof)=0:=by unfold pfC at h;rwa [if_pos ho] at h
 obtain ⟨ho1,ho2⟩ : proof.size % 32=0∧proof.size≤640:=by unfold okT at ho;exact of_decide_eq_true ho
 have HCK:Hid (∀ W v,Below w.heap.size w W→RowT W v (chk proof)→Calls Tryz.prog 83 #[.string rt,.string piece,.int .i64 i,.int .i64 sz,v] W fun e w'=>e=.returned (.int .i64 0)∧Below W.heap.size W w'):=fun W v hW hv=>by
  have:=zBV rt piece i sz v (chk proof) W hv (by rw [chk_len];omega) (hK.below hW hp) (Nat.lt_of_lt_of_le hp hW.size)
  rwa [hc] at this
 have HHI:Hid (∀ W,Calls Tryz.prog 82 #[.string proof] W fun e w'=>∃ v,e=.returned (.tuple #[v,.nilIface])∧OwnS w' W.heap.size v (chk proof)∧Below W.heap.size W w'):=fun W=>hashesIn_ok proof W ho1 ho2
 have HX:Hid (∀ W,Below (w.alloc (.cells #[.int .i64 sq,.int .i64 sz,.string rt,.slice va vn vc] 33)).heap.size (w.alloc (.cells #[.int .i64 sq,.int .i64 sz,.string rt,.slice va vn vc] 33)) W→(W.cell? ⟨w.heap.size,0,none⟩=some (.int .i64 sq)∧W.cell? ⟨w.heap.size,1,none⟩=some (.int .i64 sz)∧W.cell? ⟨w.heap.size,2,none⟩=some (.string rt)∧W.cell? ⟨w.heap.size,3,none⟩=some (.slice va vn vc))∧Below w.heap.size w W):=fun W hW=>by
  have h1:=(hW.block w.heap.size (by simp)).trans (heap_alloc_new w _)
  have b:=(zAD w (.cells #[.int .i64 sq,.int .i64 sz,.string rt,.slice va vn vc] 33)).trans (hW.mono (by simp))
  exact ⟨⟨(zAA h1 0 rfl).1,(zAA h1 1 rfl).1,(zAA h1 2 rfl).1,(zAA h1 3 rfl).1⟩,b⟩
 clear h ho hc ho1 ho2 hK hp hq
 go_enter Tryz.func53,Tryz.ntmps53
 go_upto_region 1 with fail
 generalize w.alloc (.cells #[.int .i64 sq,.int .i64 sz,.string rt,.slice va vn vc] 33)=wb at HX ⊢
 go_wp2_with fail
 refine (HHI.out _).mono ?_
 rintro e w1 ⟨v1,rfl,o1,b1⟩
 have R1:Hid (RowT w1 v1 (chk proof)):=o1.row
 obtain ⟨⟨c0,c1,c2,c3⟩,g1⟩:=HX.out _ b1
 have G1:Hid (Below w.heap.size w w1):=g1
 clear o1 b1 g1 HX HHI
 go_wp2_with fail
 refine (HCK.out _ _ G1.out R1.out).mono ?_
 rintro e w2 ⟨rfl,b2⟩
 have G2:Hid (Below w.heap.size w w2):=G1.out.trans (b2.mono G1.out.size)
 clear b2 c0 c1 c2 c3 G1
 go_wp2_with fail
 refine (zBI _ w2).mono ?_
 rintro e w3 ⟨rfl,b3⟩
 have G3:Hid (Below w.heap.size w w3):=G2.out.trans (b3.mono G2.out.size)
 clear b3 G2
 go_wp2_with fail
 go_ret
 exact ⟨rfl,G3.out⟩
set_option maxRecDepth 100000 in
set_option maxHeartbeats 1600000 in
theorem provedFault_bad (sq sz:Int) (rt:ByteArray) (va:Option Addr) (vn vc:Nat) (piece:ByteArray) (i:Int) (proof:ByteArray) (w:World) (A:Nat→Addr) (hq:proof.size≤1048576) (h:pfC rt piece i sz proof ≠ 0) (hS:Sen w A) (hK:KTab w) (hp:9<w.heap.size) :
 Calls Tryz.prog 53 #[.agg #[.int .i64 sq,.int .i64 sz,.string rt,.slice va vn vc],.string piece,.int .i64 i,.string proof] w fun e w'=>e=.returned (fnd (pfS proof) (sen (A (fidx (pfC rt piece i sz proof)))))∧Below w.heap.size w w':=by
 have HX:Hid (∀ W,Below (w.alloc (.cells #[.int .i64 sq,.int .i64 sz,.string rt,.slice va vn vc] 33)).heap.size (w.alloc (.cells #[.int .i64 sq,.int .i64 sz,.string rt,.slice va vn vc] 33)) W→(W.cell? ⟨w.heap.size,0,none⟩=some (.int .i64 sq)∧W.cell? ⟨w.heap.size,1,none⟩=some (.int .i64 sz)∧W.cell? ⟨w.heap.size,2,none⟩=some (.string rt)∧W.cell? ⟨w.heap.size,3,none⟩=some (.slice va vn vc))∧Below w.heap.size w W):=fun W hW=>by
  have h1:=(hW.block w.heap.size (by simp)).trans (heap_alloc_new w _)
  have b:=(zAD w (.cells #[.int .i64 sq,.int .i64 sz,.string rt,.slice va vn vc] 33)).trans (hW.mono (by simp))
  exact ⟨⟨(zAA h1 0 rfl).1,(zAA h1 1 rfl).1,(zAA h1 2 rfl).1,(zAA h1 3 rfl).1⟩,b⟩
 cases ho:okT proof with
 | true =>
   have hc:pfC rt piece i sz proof=ckC rt piece i sz (chk proof):=by unfold pfC;rw [if_pos ho]
   have hps:pfS proof=tPr:=by unfold pfS;rw [if_pos ho]
   rw [hc] at h ⊢
   rw [hps]
   clear hps
   obtain ⟨ho1,ho2⟩ : proof.size % 32=0∧proof.size≤640:=by unfold okT at ho;exact of_decide_eq_true ho
   have HCK:Hid (∀ W v,Below w.heap.size w W→RowT W v (chk proof)→Calls Tryz.prog 83 #[.string rt,.string piece,.int .i64 i,.int .i64 sz,v] W fun e w'=>e=.returned (.int .i64 (ckC rt piece i sz (chk proof)))∧Below W.heap.size W w'):=fun W v hW hv=>zBV rt piece i sz v (chk proof) W hv (by rw [chk_len];omega) (hK.below hW hp) (Nat.lt_of_lt_of_le hp hW.size)
   have HHI:Hid (∀ W,Calls Tryz.prog 82 #[.string proof] W fun e w'=>∃ v,e=.returned (.tuple #[v,.nilIface])∧OwnS w' W.heap.size v (chk proof)∧Below W.heap.size W w'):=fun W=>hashesIn_ok proof W ho1 ho2
   generalize ckC rt piece i sz (chk proof)=c at h HCK ⊢
   have HFC:Hid (∀ W,Below w.heap.size w W→Calls Tryz.prog 35 #[.string tPr,.int .i64 c] W fun e w'=>e=.returned (fnd tPr (sen (A (fidx c))))∧Below W.heap.size W w'):=fun W hW=>zBH tPr c h (hS.below hW)
   clear ho hc ho1 ho2 hK hp hq hS
   unfold tPr at HFC
   go_enter Tryz.func53,Tryz.ntmps53
   go_upto_region 1 with fail
   generalize w.alloc (.cells #[.int .i64 sq,.int .i64 sz,.string rt,.slice va vn vc] 33)=wb at HX ⊢
   go_wp2_with fail
   refine (HHI.out _).mono ?_
   rintro e w1 ⟨v1,rfl,o1,b1⟩
   have R1:Hid (RowT w1 v1 (chk proof)):=o1.row
   obtain ⟨⟨c0,c1,c2,c3⟩,g1⟩:=HX.out _ b1
   have G1:Hid (Below w.heap.size w w1):=g1
   clear o1 b1 g1 HX HHI
   go_wp2_with fail
   refine (HCK.out _ _ G1.out R1.out).mono ?_
   rintro e w2 ⟨rfl,b2⟩
   have G2:Hid (Below w.heap.size w w2):=G1.out.trans (b2.mono G1.out.size)
   clear b2 c0 c1 c2 c3 G1
   go_wp2_with fail
   refine (HFC.out _ G2.out).mono ?_
   rintro e w3 ⟨rfl,b3⟩
   have G3:Hid (Below w.heap.size w w3):=G2.out.trans (b3.mono G2.out.size)
   clear b3 G2
   go_wp2_with fail
   go_ret
   exact ⟨rfl,G3.out⟩
 | false =>
   have hc:pfC rt piece i sz proof=10:=by unfold pfC;rw [ho];rfl
   have hps:pfS proof=tPt:=by unfold pfS;rw [ho];rfl
   rw [hc,hps]
   clear hps
   have hno:¬ (proof.size % 32=0∧proof.size≤640):=by unfold okT at ho;exact of_decide_eq_false ho
   have HHI:Hid (∀ W,Below w.heap.size w W→Calls Tryz.prog 82 #[.string proof] W fun e w'=>e=.returned (.tuple #[.slice none 0 0,fnd tPt (sen (A (fidx 10)))])∧Below W.heap.size W w'):=fun W hW=>hashesIn_bad proof hq (hS.below hW) hno
   clear ho hc hno hK hp hq hS h
   generalize A (fidx 10)=ad at HHI ⊢
   unfold fnd sen at HHI
   go_enter Tryz.func53,Tryz.ntmps53
   go_upto_region 1 with fail
   generalize w.alloc (.cells #[.int .i64 sq,.int .i64 sz,.string rt,.slice va vn vc] 33)=wb at HX ⊢
   have G0:Hid (Below w.heap.size w wb):=(HX.out _ (Below.refl _ _)).2
   go_wp2_with fail
   refine (HHI.out _ G0.out).mono ?_
   rintro e w1 ⟨rfl,b1⟩
   have G1:Hid (Below w.heap.size w w1):=(HX.out _ b1).2
   clear b1 HX HHI
   go_wp2_with fail
   go_ret
   exact ⟨rfl,G1.out⟩
end Go.Proofs.YtakfniknkejgpaaGreatDoor.Xl
namespace Go.Proofs.YtakfniknkejgpaaGreatDoor.Xl
open Go.RowKit Sl Er
open Rg (zAA zAE zAB zAD)
open Sh (KTab KTab.below)
open Tx (RowT RowT.below tnth)
open Ho (cat catS bys_catS bytes_run)
open Ap (bys)
open Xp (itoa_small)
open Pf (PcP pcB pcC pcB_yes pcB_no pcB_get pcC_ok pcC_get pcC_bad)
open Ur (rtC rtT rtOK zTab Mem Mem.nil Mem.kept Mem.mono zAN zBa)
open Tb (Tab tabV Sn)
open Lo (LkA)
open Xs (stB zBK)
open Xv (vok vok_size)
open Tm (zAz)
open Gt (Vo)
theorem row_at {W:World} {a:Option Addr} {cap k:Nat} {ts:List ByteArray} (h:RowT W (.slice a ts.length cap) ts) (hk:k<ts.length):∃ b off,a=some ⟨b,off,none⟩∧b<W.heap.size∧W.cell? ⟨b,off+k,none⟩=some (.string (tnth ts k)):=by
 obtain ⟨a',cap',e,h⟩:=h
 cases e
 rcases h with h | ⟨b,off,rfl,hc,hb,hcell⟩
 ·rw [h] at hk;simp at hk
 ·exact ⟨b,off,rfl,hb,hcell k hk⟩
theorem row_slice {W:World} {v:Value} {ts:List ByteArray} (h:RowT W v ts):∃ a cap,v=.slice a ts.length cap:=by
 obtain ⟨a,cap,e,_⟩:=h
 exact ⟨a,cap,e⟩
theorem st_sz {n sq sz:Int} {rt:ByteArray} {vs:List Vo} (h:stB n sq sz rt vs=true):1≤sz:=by
 unfold stB at h
 rw [Bool.and_eq_true] at h
 exact (vok_size h.1).2.1.1
set_option maxRecDepth 100000 in
set_option maxHeartbeats 3200000 in
theorem takenTable_any (n sq sz:Int) (rt:ByteArray) (vr:Value) (vs:List Vo) (up uq:Value) (ps qs:List ByteArray) (w:World) (A:Nat→Addr) (hV:Gt.Row w vr vs) (hvl:vs.length≤1048576) (hP:RowT w up ps) (hpl:ps.length≤1048576) (hQ:RowT w uq qs) (hql:qs.length≤1048576) (hqz:∀ t ∈ qs,t.size≤1048576) (hSe:Sen w A) (hK:KTab w) (hp:9<w.heap.size) :
 Calls Tryz.prog 29 #[.int .i64 n,.agg #[.int .i64 sq,.int .i64 sz,.string rt,vr],up,uq] w fun e w'=>∃ u2 u3 ms er,e=.returned (.tuple #[tabV (itT n sq sz rt vs ps qs).tm (itT n sq sz rt vs ps qs).nx u2 u3,er])∧((itC n sq sz rt vs ps qs=0∧er=.nilIface) ∨ (∃ s j,j<8∧er=fnd s (sen (A j))∧zBA j=itC n sq sz rt vs ps qs) ∨ ∃ s r j,j<8∧er=fnd s (fnd r (sen (A j)))∧zBA j=itC n sq sz rt vs ps qs)∧(ms.map (·.1)=(itT n sq sz rt vs ps qs).ls∧Mem w' w.heap.size u2 u3 ms (itT n sq sz rt vs ps qs).ss)∧Below w.heap.size w w':=by
 obtain ⟨va,vc,rfl⟩:=Rg.RowG.slice hV
 obtain ⟨pa,pc,rfl⟩:=row_slice hP
 obtain ⟨qa,qc,rfl⟩:=row_slice hQ
 have e2:((w.alloc (.cells #[.int .i64 sq,.int .i64 sz,.string rt,.slice va vs.length vc] 33)).alloc (.cells #[.int .i64 0,.int .i64 0,.slice none 0 0,.slice none 0 0] 26)).heap.size=w.heap.size+1+1:=by rw [zAN,zAN]
 have HX0:Hid (∀ W,Below ((w.alloc (.cells #[.int .i64 sq,.int .i64 sz,.string rt,.slice va vs.length vc] 33)).alloc (.cells #[.int .i64 0,.int .i64 0,.slice none 0 0,.slice none 0 0] 26)).heap.size ((w.alloc (.cells #[.int .i64 sq,.int .i64 sz,.string rt,.slice va vs.length vc] 33)).alloc (.cells #[.int .i64 0,.int .i64 0,.slice none 0 0,.slice none 0 0] 26)) W→(W.cell? ⟨w.heap.size,0,none⟩=some (.int .i64 sq)∧W.cell? ⟨w.heap.size,1,none⟩=some (.int .i64 sz)∧W.cell? ⟨w.heap.size,2,none⟩=some (.string rt)∧W.cell? ⟨w.heap.size,3,none⟩=some (.slice va vs.length vc))):=fun W hW=>by
  have h0:W.heap[w.heap.size]?=some (.cells #[.int .i64 sq,.int .i64 sz,.string rt,.slice va vs.length vc] 33):=by rw [hW.block _ (by omega),Below.heap_alloc _ _ _ (by rw [zAN];omega)];exact heap_alloc_new w _
  exact ⟨(zAA h0 0 rfl).1,(zAA h0 1 rfl).1,(zAA h0 2 rfl).1,(zAA h0 3 rfl).1⟩
 have HY0:Hid (∀ W,Below ((w.alloc (.cells #[.int .i64 sq,.int .i64 sz,.string rt,.slice va vs.length vc] 33)).alloc (.cells #[.int .i64 0,.int .i64 0,.slice none 0 0,.slice none 0 0] 26)).heap.size ((w.alloc (.cells #[.int .i64 sq,.int .i64 sz,.string rt,.slice va vs.length vc] 33)).alloc (.cells #[.int .i64 0,.int .i64 0,.slice none 0 0,.slice none 0 0] 26)) W→W.heap[w.heap.size+1]?=some (.cells #[.int .i64 0,.int .i64 0,.slice none 0 0,.slice none 0 0] 26)∧Below w.heap.size w W):=fun W hW=>by
  have h1:W.heap[w.heap.size+1]?=some (.cells #[.int .i64 0,.int .i64 0,.slice none 0 0,.slice none 0 0] 26):=by rw [hW.block _ (by omega)];have:=heap_alloc_new (w.alloc (.cells #[.int .i64 sq,.int .i64 sz,.string rt,.slice va vs.length vc] 33)) (.cells #[.int .i64 0,.int .i64 0,.slice none 0 0,.slice none 0 0] 26);rwa [zAN] at this
  exact ⟨h1,(((Below.refl w.heap.size w).alloc (Nat.le_refl _) _).alloc (by rw [zAN];omega) _).trans (hW.mono (by omega))⟩
 have HSE0:Hid (∀ W,Below w.heap.size w W→Sen W A):=fun W hW=>hSe.below hW
 have HST:Hid (∀ W,Below w.heap.size w W→Calls Tryz.prog 10 #[.int .i64 n,.agg #[.int .i64 sq,.int .i64 sz,.string rt,.slice va vs.length vc]] W fun e w'=>e=.returned (.bool (stB n sq sz rt vs))∧Below W.heap.size W w'):=fun W hW=>zBK n sq sz rt _ vs W (hV.below hW) hvl (hK.below hW hp) (Nat.lt_of_lt_of_le hp hW.size)
 have HPF:Hid (∀ W,Below w.heap.size w W→Calls Tryz.prog 21 #[.slice pa ps.length pc] W fun e w'=>e=.returned (.int .i64 (pcC ps))∧W=w'):=fun W hW=>Pf.piecesFault_any _ ps W (hP.below hW) (by unfold maxLen;omega)
 have HRW:Hid (∀ W,Below w.heap.size w W→RowT W (.slice pa ps.length pc) ps∧RowT W (.slice qa qs.length qc) qs∧KTab W∧9<W.heap.size):=fun W hW=>⟨hP.below hW,hQ.below hW,hK.below hW hp,Nat.lt_of_lt_of_le hp hW.size⟩
 have HQZ:Hid (∀ k,k<qs.length→(tnth qs k).size≤1048576):=fun k hk=>hqz _ (Tx.zBr hk)
 have HYL0:Hid (w.heap.size≤w.heap.size+1):=Nat.le_succ _
 have HYG0:Hid (0 ≠ w.heap.size+1):=by show _ ≠ _;have:=World.block_lt_of_cell? w _ hSe.g0;simp only at this;omega
 have HYG5:Hid (3 ≠ w.heap.size+1):=by show _ ≠ _;have:=World.block_lt_of_cell? w _ hSe.g5;simp only at this;omega
 have HYG7:Hid (4 ≠ w.heap.size+1):=by show _ ≠ _;have:=World.block_lt_of_cell? w _ hSe.g7;simp only at this;omega
 have hMS:itC n sq sz rt vs ps qs=if 4096<ps.length ∨ 4096<qs.length then 2 else if zAz n=0 then (if stB n sq sz rt vs=true then (if pcB ps=true∧(ps.length:Int)=sz∧(qs.length:Int)=sz then (if fbC rt sz ps qs ps.length=0 then rtC (cat ps) else fbC rt sz ps qs ps.length) else 1) else 12) else 4:=rfl
 clear hV hP hQ hqz hSe hK hp e2
 by_cases h1:4096<ps.length
 ·have h1':(4096:Int)<(ps.length:Int):=by omega
  rw [if_pos (.inl h1)] at hMS
  have HM:Hid (It n sq sz rt vs ps qs 2 zTab):=it_no hMS (by decide)
  clear hMS h1 HST HPF HRW HQZ
  go_enter Tryz.func29,Tryz.ntmps29
  go_upto_region 1 with fail
  generalize (w.alloc (.cells #[.int .i64 sq,.int .i64 sz,.string rt,.slice va vs.length vc] 33)).alloc (.cells #[.int .i64 0,.int .i64 0,.slice none 0 0,.slice none 0 0] 26)=wb at HX0 HY0 ⊢
  obtain ⟨y,HY⟩ : ∃ y,Hid (w.heap.size+1=y):=⟨_,rfl⟩
  rw [HY.out] at HY0 HYL0 HYG0 HYG5 HYG7 ⊢
  have HYL:Hid (w.heap.size≤y):=HYL0
  have HSE:Hid (∀ W,Below wb.heap.size wb W→Sen W A):=fun W hW=>HSE0.out _ (HY0.out _ hW).2
  clear HYL0
  obtain ⟨k9,g9⟩:=HY0.out _ (Below.refl _ _)
  obtain ⟨m0,n0⟩:=zAA k9 0 (x:=.int .i64 0) rfl
  obtain ⟨m1,n1⟩:=zAA k9 1 (x:=.int .i64 0) rfl
  obtain ⟨m2,n2⟩:=zAA k9 2 (x:=.slice none 0 0) rfl
  obtain ⟨m3,n3⟩:=zAA k9 3 (x:=.slice none 0 0) rfl
  have AF:((((wb.setCell ⟨y,0,none⟩ (.int .i64 0)).setCell ⟨y,1,none⟩ (.int .i64 0)).setCell ⟨y,2,none⟩ (.slice none 0 0)).setCell ⟨y,3,none⟩ (.slice none 0 0)).heap[y]?=some (.cells #[.int .i64 0,.int .i64 0,.slice none 0 0,.slice none 0 0] 26 (0,0)):=(zAE (zAE (zAE (zAE k9 0 (.int .i64 0)) 1 (.int .i64 0)) 2 (.slice none 0 0)) 3 (.slice none 0 0))
  have RF:Hid (Below w.heap.size w ((((wb.setCell ⟨y,0,none⟩ (.int .i64 0)).setCell ⟨y,1,none⟩ (.int .i64 0)).setCell ⟨y,2,none⟩ (.slice none 0 0)).setCell ⟨y,3,none⟩ (.slice none 0 0))):=(Below.setCell (Below.setCell (Below.setCell (Below.setCell g9 (p:=⟨y,0,none⟩) (HYL.out) (.int .i64 0)) (p:=⟨y,1,none⟩) (HYL.out) (.int .i64 0)) (p:=⟨y,2,none⟩) (HYL.out) (.slice none 0 0)) (p:=⟨y,3,none⟩) (HYL.out) (.slice none 0 0))
  clear g9 k9
  have GS:=(HSE.out _ (Below.refl _ _)).g0
  unfold sen at GS
  have GS9:Hid (((((wb.setCell ⟨y,0,none⟩ (.int .i64 0)).setCell ⟨y,1,none⟩ (.int .i64 0)).setCell ⟨y,2,none⟩ (.slice none 0 0)).setCell ⟨y,3,none⟩ (.slice none 0 0)).cell? ⟨0,0,none⟩=some (.iface 218 (.pointer (some (A 0))))):=((World.cell?_of_block (a:=⟨0,0,none⟩) (zAB HYG0.out 3 (.slice none 0 0))).trans ((World.cell?_of_block (a:=⟨0,0,none⟩) (zAB HYG0.out 2 (.slice none 0 0))).trans ((World.cell?_of_block (a:=⟨0,0,none⟩) (zAB HYG0.out 1 (.int .i64 0))).trans ((World.cell?_of_block (a:=⟨0,0,none⟩) (zAB HYG0.out 0 (.int .i64 0))).trans GS))))
  go_upto_region 2 with fail
  refine wp_region_noPanic ?_
  refine wp_region_held_drew (S:=(fun W=>W.cell? ⟨0,0,none⟩=some (.iface 218 (.pointer (some (A 0)))))) (by kernel_rfl) GS (fun hHeld=>?_)
  refine ta 0 ⟨some 24,.build 26 #[],26,"l10_checkpoint.go:214",#[],none⟩ ?v1 ?h1 hHeld ?r1
  case h1=>intro wz hz;(try dsimp only at hz);go_simp;try (with_reducible rfl)
  simp only [Act.put,sA,sB,sC]
  refine ta 1 ⟨some 25,.load 55 (Operand.global 0),55,"l10_checkpoint.go:214",#[],none⟩ ?v2 ?h2 hHeld ?r2
  case h2=>intro wz hz;(try dsimp only at hz);go_simp;try (with_reducible rfl)
  simp only [Act.put,sA,sB,sC]
  refine ta 2 ⟨some 26,.build 82 #[(0,Operand.const (Value.string { data:=#[112,105,101,99,101,115,32,97,110,100,32,112,114,111,111,102,115] })),(1,Operand.tmp 25)],82,"l10_checkpoint.go:214",#[⟨1,.data⟩],none⟩ ?v3 ?h3 hHeld ?r3
  case h3=>intro wz hz;(try dsimp only at hz);go_simp;try (with_reducible rfl)
  simp only [Act.put,sA,sB,sC]
  refine ta 3 ⟨some 27,.makeInterface 82 (.tmp 26),55,"l10_checkpoint.go:214",#[⟨2,.data⟩,⟨4,.gcOnly .lateStores⟩],none⟩ ?v4 ?h4 hHeld ?r4
  case h4=>intro wz hz;(try dsimp only at hz);go_simp;try (with_reducible rfl)
  simp only [Act.put,sA,sB,sC]
  refine wpAnyH_ready (rs:=[4]) (by kernel_rfl) (by simp) ?_
  refine AllReadyH.cons (o:=⟨none,.store 26 (.tmp 8) (.tmp 24),0,"l10_checkpoint.go:214",#[⟨0,.data⟩,⟨0,.phase⟩,⟨1,.textOnly .lateStores⟩,⟨2,.textOnly .lateStores⟩,⟨3,.textOnly .lateStores⟩],none⟩) rfl (fun K hK=>?_) AllReadyH.nil
  go_simp
  refine hK.out _ _ ?_ (fun hHeld=>?_)
  ·exact GS9.out
  clear hK K
  (try simp only [Act.put,sA,sB,sC])
  refine ta 5 ⟨some 9,.assign (.tmp 27),55,"l10_checkpoint.go:214",#[⟨3,.data⟩,⟨4,.chain⟩,⟨0,.phase⟩,⟨1,.phase⟩,⟨2,.phase⟩,⟨3,.phase⟩,⟨4,.phase⟩],none⟩ ?v5 ?h5 hHeld ?r5
  case h5=>intro wz hz;(try dsimp only at hz);go_simp;try (with_reducible rfl)
  simp only [Act.put,sA,sB,sC]
  refine wpAnyH_done (by kernel_rfl) ?_ _
  refine NoPanic.normal ?_
  clear GS9
  go_wp2_with fail
  generalize ((((wb.setCell ⟨y,0,none⟩ (.int .i64 0)).setCell ⟨y,1,none⟩ (.int .i64 0)).setCell ⟨y,2,none⟩ (.slice none 0 0)).setCell ⟨y,3,none⟩ (.slice none 0 0))=wf at AF RF ⊢
  have d0:=(zAA AF 0 (x:=.int .i64 0) rfl).1
  have d1:=(zAA AF 1 (x:=.int .i64 0) rfl).1
  have d2:=(zAA AF 2 (x:=.slice none 0 0) rfl).1
  have d3:=(zAA AF 3 (x:=.slice none 0 0) rfl).1
  refine bodyPost_ret (v:=.tuple #[.agg #[.int .i64 0,.int .i64 0,.slice none 0 0,.slice none 0 0],.iface 82 (.agg #[.string ⟨#[112,105,101,99,101,115,32,97,110,100,32,112,114,111,111,102,115]⟩,.iface 218 (.pointer (some (A 0)))])]) (by simp [results,Tryz.results29,go_sem,d0,d1,d2,d3]) rfl ?_
  rw [HM.out.c,HM.out.t]
  exact ⟨_,_,[],_,rfl,.inr (.inl ⟨_,0,by decide,rfl,rfl⟩),⟨rfl,Mem.nil _ _⟩,RF.out.drew⟩
 have h1':¬ (4096:Int)<(ps.length:Int):=by omega
 by_cases h2:4096<qs.length
 ·have h2':(4096:Int)<(qs.length:Int):=by omega
  rw [if_pos (.inr h2)] at hMS
  have HM:Hid (It n sq sz rt vs ps qs 2 zTab):=it_no hMS (by decide)
  clear hMS h1 h2 HST HPF HRW HQZ
  go_enter Tryz.func29,Tryz.ntmps29
  go_upto_region 1 with fail
  generalize (w.alloc (.cells #[.int .i64 sq,.int .i64 sz,.string rt,.slice va vs.length vc] 33)).alloc (.cells #[.int .i64 0,.int .i64 0,.slice none 0 0,.slice none 0 0] 26)=wb at HX0 HY0 ⊢
  obtain ⟨y,HY⟩ : ∃ y,Hid (w.heap.size+1=y):=⟨_,rfl⟩
  rw [HY.out] at HY0 HYL0 HYG0 HYG5 HYG7 ⊢
  have HYL:Hid (w.heap.size≤y):=HYL0
  have HSE:Hid (∀ W,Below wb.heap.size wb W→Sen W A):=fun W hW=>HSE0.out _ (HY0.out _ hW).2
  clear HYL0
  obtain ⟨k9,g9⟩:=HY0.out _ (Below.refl _ _)
  obtain ⟨m0,n0⟩:=zAA k9 0 (x:=.int .i64 0) rfl
  obtain ⟨m1,n1⟩:=zAA k9 1 (x:=.int .i64 0) rfl
  obtain ⟨m2,n2⟩:=zAA k9 2 (x:=.slice none 0 0) rfl
  obtain ⟨m3,n3⟩:=zAA k9 3 (x:=.slice none 0 0) rfl
  have AF:((((wb.setCell ⟨y,0,none⟩ (.int .i64 0)).setCell ⟨y,1,none⟩ (.int .i64 0)).setCell ⟨y,2,none⟩ (.slice none 0 0)).setCell ⟨y,3,none⟩ (.slice none 0 0)).heap[y]?=some (.cells #[.int .i64 0,.int .i64 0,.slice none 0 0,.slice none 0 0] 26 (0,0)):=(zAE (zAE (zAE (zAE k9 0 (.int .i64 0)) 1 (.int .i64 0)) 2 (.slice none 0 0)) 3 (.slice none 0 0))
  have RF:Hid (Below w.heap.size w ((((wb.setCell ⟨y,0,none⟩ (.int .i64 0)).setCell ⟨y,1,none⟩ (.int .i64 0)).setCell ⟨y,2,none⟩ (.slice none 0 0)).setCell ⟨y,3,none⟩ (.slice none 0 0))):=(Below.setCell (Below.setCell (Below.setCell (Below.setCell g9 (p:=⟨y,0,none⟩) (HYL.out) (.int .i64 0)) (p:=⟨y,1,none⟩) (HYL.out) (.int .i64 0)) (p:=⟨y,2,none⟩) (HYL.out) (.slice none 0 0)) (p:=⟨y,3,none⟩) (HYL.out) (.slice none 0 0))
  clear g9 k9
  have GS:=(HSE.out _ (Below.refl _ _)).g0
  unfold sen at GS
  have GS9:Hid (((((wb.setCell ⟨y,0,none⟩ (.int .i64 0)).setCell ⟨y,1,none⟩ (.int .i64 0)).setCell ⟨y,2,none⟩ (.slice none 0 0)).setCell ⟨y,3,none⟩ (.slice none 0 0)).cell? ⟨0,0,none⟩=some (.iface 218 (.pointer (some (A 0))))):=((World.cell?_of_block (a:=⟨0,0,none⟩) (zAB HYG0.out 3 (.slice none 0 0))).trans ((World.cell?_of_block (a:=⟨0,0,none⟩) (zAB HYG0.out 2 (.slice none 0 0))).trans ((World.cell?_of_block (a:=⟨0,0,none⟩) (zAB HYG0.out 1 (.int .i64 0))).trans ((World.cell?_of_block (a:=⟨0,0,none⟩) (zAB HYG0.out 0 (.int .i64 0))).trans GS))))
  go_upto_region 2 with fail
  refine wp_region_noPanic ?_
  refine wp_region_held_drew (S:=(fun W=>W.cell? ⟨0,0,none⟩=some (.iface 218 (.pointer (some (A 0)))))) (by kernel_rfl) GS (fun hHeld=>?_)
  refine ta 0 ⟨some 24,.build 26 #[],26,"l10_checkpoint.go:214",#[],none⟩ ?v6 ?h6 hHeld ?r6
  case h6=>intro wz hz;(try dsimp only at hz);go_simp;try (with_reducible rfl)
  simp only [Act.put,sA,sB,sC]
  refine ta 1 ⟨some 25,.load 55 (Operand.global 0),55,"l10_checkpoint.go:214",#[],none⟩ ?v7 ?h7 hHeld ?r7
  case h7=>intro wz hz;(try dsimp only at hz);go_simp;try (with_reducible rfl)
  simp only [Act.put,sA,sB,sC]
  refine ta 2 ⟨some 26,.build 82 #[(0,Operand.const (Value.string { data:=#[112,105,101,99,101,115,32,97,110,100,32,112,114,111,111,102,115] })),(1,Operand.tmp 25)],82,"l10_checkpoint.go:214",#[⟨1,.data⟩],none⟩ ?v8 ?h8 hHeld ?r8
  case h8=>intro wz hz;(try dsimp only at hz);go_simp;try (with_reducible rfl)
  simp only [Act.put,sA,sB,sC]
  refine ta 3 ⟨some 27,.makeInterface 82 (.tmp 26),55,"l10_checkpoint.go:214",#[⟨2,.data⟩,⟨4,.gcOnly .lateStores⟩],none⟩ ?v9 ?h9 hHeld ?r9
  case h9=>intro wz hz;(try dsimp only at hz);go_simp;try (with_reducible rfl)
  simp only [Act.put,sA,sB,sC]
  refine wpAnyH_ready (rs:=[4]) (by kernel_rfl) (by simp) ?_
  refine AllReadyH.cons (o:=⟨none,.store 26 (.tmp 8) (.tmp 24),0,"l10_checkpoint.go:214",#[⟨0,.data⟩,⟨0,.phase⟩,⟨1,.textOnly .lateStores⟩,⟨2,.textOnly .lateStores⟩,⟨3,.textOnly .lateStores⟩],none⟩) rfl (fun K hK=>?_) AllReadyH.nil
  go_simp
  refine hK.out _ _ ?_ (fun hHeld=>?_)
  ·exact GS9.out
  clear hK K
  (try simp only [Act.put,sA,sB,sC])
  refine ta 5 ⟨some 9,.assign (.tmp 27),55,"l10_checkpoint.go:214",#[⟨3,.data⟩,⟨4,.chain⟩,⟨0,.phase⟩,⟨1,.phase⟩,⟨2,.phase⟩,⟨3,.phase⟩,⟨4,.phase⟩],none⟩ ?v10 ?h10 hHeld ?r10
  case h10=>intro wz hz;(try dsimp only at hz);go_simp;try (with_reducible rfl)
  simp only [Act.put,sA,sB,sC]
  refine wpAnyH_done (by kernel_rfl) ?_ _
  refine NoPanic.normal ?_
  clear GS9
  go_wp2_with fail
  generalize ((((wb.setCell ⟨y,0,none⟩ (.int .i64 0)).setCell ⟨y,1,none⟩ (.int .i64 0)).setCell ⟨y,2,none⟩ (.slice none 0 0)).setCell ⟨y,3,none⟩ (.slice none 0 0))=wf at AF RF ⊢
  have d0:=(zAA AF 0 (x:=.int .i64 0) rfl).1
  have d1:=(zAA AF 1 (x:=.int .i64 0) rfl).1
  have d2:=(zAA AF 2 (x:=.slice none 0 0) rfl).1
  have d3:=(zAA AF 3 (x:=.slice none 0 0) rfl).1
  refine bodyPost_ret (v:=.tuple #[.agg #[.int .i64 0,.int .i64 0,.slice none 0 0,.slice none 0 0],.iface 82 (.agg #[.string ⟨#[112,105,101,99,101,115,32,97,110,100,32,112,114,111,111,102,115]⟩,.iface 218 (.pointer (some (A 0)))])]) (by simp [results,Tryz.results29,go_sem,d0,d1,d2,d3]) rfl ?_
  rw [HM.out.c,HM.out.t]
  exact ⟨_,_,[],_,rfl,.inr (.inl ⟨_,0,by decide,rfl,rfl⟩),⟨rfl,Mem.nil _ _⟩,RF.out.drew⟩
 have h2':¬ (4096:Int)<(qs.length:Int):=by omega
 rw [if_neg (by omega)] at hMS
 go_enter Tryz.func29,Tryz.ntmps29
 go_upto_region 1 with fail
 generalize (w.alloc (.cells #[.int .i64 sq,.int .i64 sz,.string rt,.slice va vs.length vc] 33)).alloc (.cells #[.int .i64 0,.int .i64 0,.slice none 0 0,.slice none 0 0] 26)=wb at HX0 HY0 ⊢
 obtain ⟨y,HY⟩ : ∃ y,Hid (w.heap.size+1=y):=⟨_,rfl⟩
 rw [HY.out] at HY0 HYL0 HYG0 HYG5 HYG7 ⊢
 have HYL:Hid (w.heap.size≤y):=HYL0
 have HSE:Hid (∀ W,Below wb.heap.size wb W→Sen W A):=fun W hW=>HSE0.out _ (HY0.out _ hW).2
 clear HYL0
 have G0:Hid (Below w.heap.size w wb):=(HY0.out _ (Below.refl _ _)).2
 by_cases hn:zAz n=0
 case neg =>
  rw [if_neg hn] at hMS
  have HM:Hid (It n sq sz rt vs ps qs 4 zTab):=it_no hMS (by decide)
  have HNF:=zCN n hn (HSE.out wb (Below.refl _ _))
  unfold fnd sen at HNF
  clear hMS hn HST HPF HRW HQZ
  go_wp2_with fail
  refine HNF.mono ?_
  rintro e w1 ⟨rfl,b1⟩
  obtain ⟨k9,g9⟩:=HY0.out _ (b1)
  obtain ⟨m0,n0⟩:=zAA k9 0 (x:=.int .i64 0) rfl
  obtain ⟨m1,n1⟩:=zAA k9 1 (x:=.int .i64 0) rfl
  obtain ⟨m2,n2⟩:=zAA k9 2 (x:=.slice none 0 0) rfl
  obtain ⟨m3,n3⟩:=zAA k9 3 (x:=.slice none 0 0) rfl
  have AF:((((w1.setCell ⟨y,0,none⟩ (.int .i64 0)).setCell ⟨y,1,none⟩ (.int .i64 0)).setCell ⟨y,2,none⟩ (.slice none 0 0)).setCell ⟨y,3,none⟩ (.slice none 0 0)).heap[y]?=some (.cells #[.int .i64 0,.int .i64 0,.slice none 0 0,.slice none 0 0] 26 (0,0)):=(zAE (zAE (zAE (zAE k9 0 (.int .i64 0)) 1 (.int .i64 0)) 2 (.slice none 0 0)) 3 (.slice none 0 0))
  have RF:Hid (Below w.heap.size w ((((w1.setCell ⟨y,0,none⟩ (.int .i64 0)).setCell ⟨y,1,none⟩ (.int .i64 0)).setCell ⟨y,2,none⟩ (.slice none 0 0)).setCell ⟨y,3,none⟩ (.slice none 0 0))):=(Below.setCell (Below.setCell (Below.setCell (Below.setCell g9 (p:=⟨y,0,none⟩) (HYL.out) (.int .i64 0)) (p:=⟨y,1,none⟩) (HYL.out) (.int .i64 0)) (p:=⟨y,2,none⟩) (HYL.out) (.slice none 0 0)) (p:=⟨y,3,none⟩) (HYL.out) (.slice none 0 0))
  clear g9 k9
  go_wp2_with fail
  generalize ((((w1.setCell ⟨y,0,none⟩ (.int .i64 0)).setCell ⟨y,1,none⟩ (.int .i64 0)).setCell ⟨y,2,none⟩ (.slice none 0 0)).setCell ⟨y,3,none⟩ (.slice none 0 0))=wf at AF RF ⊢
  have d0:=(zAA AF 0 (x:=.int .i64 0) rfl).1
  have d1:=(zAA AF 1 (x:=.int .i64 0) rfl).1
  have d2:=(zAA AF 2 (x:=.slice none 0 0) rfl).1
  have d3:=(zAA AF 3 (x:=.slice none 0 0) rfl).1
  refine bodyPost_ret (v:=.tuple #[.agg #[.int .i64 0,.int .i64 0,.slice none 0 0,.slice none 0 0],.iface 82 (.agg #[.string tNo,.iface 218 (.pointer (some (A 2)))])]) (by simp [results,Tryz.results29,go_sem,d0,d1,d2,d3]) rfl ?_
  rw [HM.out.c,HM.out.t]
  exact ⟨_,_,[],_,rfl,.inr (.inl ⟨tNo,2,by decide,rfl,rfl⟩),⟨rfl,Mem.nil _ _⟩,RF.out⟩
 case pos =>
 rw [if_pos hn] at hMS
 have HNF:=zCG n wb hn
 clear hn
 go_wp2_with fail
 refine HNF.mono ?_
 rintro e w1 ⟨rfl,b1⟩
 have B1:Hid (Below wb.heap.size wb w1):=b1
 clear b1 HNF
 obtain ⟨c0,c1,c2,c3⟩:=HX0.out _ B1.out
 go_wp2_with fail
 refine (HST.out _ (HY0.out _ B1.out).2).mono ?_
 rintro e w2 ⟨rfl,b2⟩
 have B2:Hid (Below wb.heap.size wb w2):=B1.out.trans (b2.mono B1.out.size)
 clear b2 c0 c1 c2 c3 B1 HST
 cases hst:stB n sq sz rt vs
 case false =>
  rw [if_neg (fun hh=>by rw [hst] at hh;cases hh)] at hMS
  have HM:Hid (It n sq sz rt vs ps qs 12 zTab):=it_no hMS (by decide)
  clear hMS hst HPF HRW HQZ
  obtain ⟨k9,g9⟩:=HY0.out _ (B2.out)
  obtain ⟨m0,n0⟩:=zAA k9 0 (x:=.int .i64 0) rfl
  obtain ⟨m1,n1⟩:=zAA k9 1 (x:=.int .i64 0) rfl
  obtain ⟨m2,n2⟩:=zAA k9 2 (x:=.slice none 0 0) rfl
  obtain ⟨m3,n3⟩:=zAA k9 3 (x:=.slice none 0 0) rfl
  have AF:((((w2.setCell ⟨y,0,none⟩ (.int .i64 0)).setCell ⟨y,1,none⟩ (.int .i64 0)).setCell ⟨y,2,none⟩ (.slice none 0 0)).setCell ⟨y,3,none⟩ (.slice none 0 0)).heap[y]?=some (.cells #[.int .i64 0,.int .i64 0,.slice none 0 0,.slice none 0 0] 26 (0,0)):=(zAE (zAE (zAE (zAE k9 0 (.int .i64 0)) 1 (.int .i64 0)) 2 (.slice none 0 0)) 3 (.slice none 0 0))
  have RF:Hid (Below w.heap.size w ((((w2.setCell ⟨y,0,none⟩ (.int .i64 0)).setCell ⟨y,1,none⟩ (.int .i64 0)).setCell ⟨y,2,none⟩ (.slice none 0 0)).setCell ⟨y,3,none⟩ (.slice none 0 0))):=(Below.setCell (Below.setCell (Below.setCell (Below.setCell g9 (p:=⟨y,0,none⟩) (HYL.out) (.int .i64 0)) (p:=⟨y,1,none⟩) (HYL.out) (.int .i64 0)) (p:=⟨y,2,none⟩) (HYL.out) (.slice none 0 0)) (p:=⟨y,3,none⟩) (HYL.out) (.slice none 0 0))
  clear g9 k9
  have GS:=(HSE.out _ (B2.out)).g5
  unfold sen at GS
  have GS9:Hid (((((w2.setCell ⟨y,0,none⟩ (.int .i64 0)).setCell ⟨y,1,none⟩ (.int .i64 0)).setCell ⟨y,2,none⟩ (.slice none 0 0)).setCell ⟨y,3,none⟩ (.slice none 0 0)).cell? ⟨3,0,none⟩=some (.iface 218 (.pointer (some (A 5))))):=((World.cell?_of_block (a:=⟨3,0,none⟩) (zAB HYG5.out 3 (.slice none 0 0))).trans ((World.cell?_of_block (a:=⟨3,0,none⟩) (zAB HYG5.out 2 (.slice none 0 0))).trans ((World.cell?_of_block (a:=⟨3,0,none⟩) (zAB HYG5.out 1 (.int .i64 0))).trans ((World.cell?_of_block (a:=⟨3,0,none⟩) (zAB HYG5.out 0 (.int .i64 0))).trans GS))))
  go_upto_region 7 with fail
  refine wp_region_noPanic ?_
  refine wp_region_held_drew (S:=(fun W=>W.cell? ⟨3,0,none⟩=some (.iface 218 (.pointer (some (A 5)))))) (by kernel_rfl) GS (fun hHeld=>?_)
  refine ta 0 ⟨some 38,.build 26 #[],26,"l10_checkpoint.go:220",#[],none⟩ ?v11 ?h11 hHeld ?r11
  case h11=>intro wz hz;(try dsimp only at hz);go_simp;try (with_reducible rfl)
  simp only [Act.put,sA,sB,sC]
  refine ta 1 ⟨some 39,.load 55 (Operand.global 3),55,"l10_checkpoint.go:220",#[],none⟩ ?v12 ?h12 hHeld ?r12
  case h12=>intro wz hz;(try dsimp only at hz);go_simp;try (with_reducible rfl)
  simp only [Act.put,sA,sB,sC]
  refine ta 2 ⟨some 40,.build 82 #[(0,Operand.const (Value.string { data:=#[99,104,101,99,107,112,111,105,110,116] })),(1,Operand.tmp 39)],82,"l10_checkpoint.go:220",#[⟨1,.data⟩],none⟩ ?v13 ?h13 hHeld ?r13
  case h13=>intro wz hz;(try dsimp only at hz);go_simp;try (with_reducible rfl)
  simp only [Act.put,sA,sB,sC]
  refine ta 3 ⟨some 41,.makeInterface 82 (.tmp 40),55,"l10_checkpoint.go:220",#[⟨2,.data⟩,⟨4,.gcOnly .lateStores⟩],none⟩ ?v14 ?h14 hHeld ?r14
  case h14=>intro wz hz;(try dsimp only at hz);go_simp;try (with_reducible rfl)
  simp only [Act.put,sA,sB,sC]
  refine wpAnyH_ready (rs:=[4]) (by kernel_rfl) (by simp) ?_
  refine AllReadyH.cons (o:=⟨none,.store 26 (.tmp 8) (.tmp 38),0,"l10_checkpoint.go:220",#[⟨0,.data⟩,⟨0,.phase⟩,⟨1,.textOnly .lateStores⟩,⟨2,.textOnly .lateStores⟩,⟨3,.textOnly .lateStores⟩],none⟩) rfl (fun K hK=>?_) AllReadyH.nil
  go_simp
  refine hK.out _ _ ?_ (fun hHeld=>?_)
  ·exact GS9.out
  clear hK K
  (try simp only [Act.put,sA,sB,sC])
  refine ta 5 ⟨some 9,.assign (.tmp 41),55,"l10_checkpoint.go:220",#[⟨3,.data⟩,⟨4,.chain⟩,⟨0,.phase⟩,⟨1,.phase⟩,⟨2,.phase⟩,⟨3,.phase⟩,⟨4,.phase⟩],none⟩ ?v15 ?h15 hHeld ?r15
  case h15=>intro wz hz;(try dsimp only at hz);go_simp;try (with_reducible rfl)
  simp only [Act.put,sA,sB,sC]
  refine wpAnyH_done (by kernel_rfl) ?_ _
  refine NoPanic.normal ?_
  clear GS9
  go_wp2_with fail
  generalize ((((w2.setCell ⟨y,0,none⟩ (.int .i64 0)).setCell ⟨y,1,none⟩ (.int .i64 0)).setCell ⟨y,2,none⟩ (.slice none 0 0)).setCell ⟨y,3,none⟩ (.slice none 0 0))=wf at AF RF ⊢
  have d0:=(zAA AF 0 (x:=.int .i64 0) rfl).1
  have d1:=(zAA AF 1 (x:=.int .i64 0) rfl).1
  have d2:=(zAA AF 2 (x:=.slice none 0 0) rfl).1
  have d3:=(zAA AF 3 (x:=.slice none 0 0) rfl).1
  refine bodyPost_ret (v:=.tuple #[.agg #[.int .i64 0,.int .i64 0,.slice none 0 0,.slice none 0 0],.iface 82 (.agg #[.string ⟨#[99,104,101,99,107,112,111,105,110,116]⟩,.iface 218 (.pointer (some (A 5)))])]) (by simp [results,Tryz.results29,go_sem,d0,d1,d2,d3]) rfl ?_
  rw [HM.out.c,HM.out.t]
  exact ⟨_,_,[],_,rfl,.inr (.inl ⟨_,5,by decide,rfl,rfl⟩),⟨rfl,Mem.nil _ _⟩,RF.out.drew⟩
 case true =>
 rw [if_pos hst] at hMS
 have HSZ:Hid (1≤sz):=st_sz hst
 clear hst
 obtain ⟨c0,c1,c2,c3⟩:=HX0.out _ B2.out
 go_wp2_with fail
 refine (HPF.out _ (HY0.out _ B2.out).2).mono ?_
 rintro e w3 ⟨rfl,rfl⟩
 clear HPF
 by_cases hpc:PcP ps
 case neg =>
  rw [pcC_bad h1 hpc]
  have hMS1:itC n sq sz rt vs ps qs=1:=by rw [hMS,if_neg (fun hh=>by rw [pcB_no hpc] at hh;cases hh.1)]
  have HM:Hid (It n sq sz rt vs ps qs 1 zTab):=it_no hMS1 (by decide)
  clear hMS hMS1 hpc HRW HQZ c0 c2 c3
  obtain ⟨k9,g9⟩:=HY0.out _ (B2.out)
  obtain ⟨m0,n0⟩:=zAA k9 0 (x:=.int .i64 0) rfl
  obtain ⟨m1,n1⟩:=zAA k9 1 (x:=.int .i64 0) rfl
  obtain ⟨m2,n2⟩:=zAA k9 2 (x:=.slice none 0 0) rfl
  obtain ⟨m3,n3⟩:=zAA k9 3 (x:=.slice none 0 0) rfl
  have AF:((((w2.setCell ⟨y,0,none⟩ (.int .i64 0)).setCell ⟨y,1,none⟩ (.int .i64 0)).setCell ⟨y,2,none⟩ (.slice none 0 0)).setCell ⟨y,3,none⟩ (.slice none 0 0)).heap[y]?=some (.cells #[.int .i64 0,.int .i64 0,.slice none 0 0,.slice none 0 0] 26 (0,0)):=(zAE (zAE (zAE (zAE k9 0 (.int .i64 0)) 1 (.int .i64 0)) 2 (.slice none 0 0)) 3 (.slice none 0 0))
  have RF:Hid (Below w.heap.size w ((((w2.setCell ⟨y,0,none⟩ (.int .i64 0)).setCell ⟨y,1,none⟩ (.int .i64 0)).setCell ⟨y,2,none⟩ (.slice none 0 0)).setCell ⟨y,3,none⟩ (.slice none 0 0))):=(Below.setCell (Below.setCell (Below.setCell (Below.setCell g9 (p:=⟨y,0,none⟩) (HYL.out) (.int .i64 0)) (p:=⟨y,1,none⟩) (HYL.out) (.int .i64 0)) (p:=⟨y,2,none⟩) (HYL.out) (.slice none 0 0)) (p:=⟨y,3,none⟩) (HYL.out) (.slice none 0 0))
  clear g9 k9
  have GS:=(HSE.out _ (B2.out)).g7
  unfold sen at GS
  have GS9:Hid (((((w2.setCell ⟨y,0,none⟩ (.int .i64 0)).setCell ⟨y,1,none⟩ (.int .i64 0)).setCell ⟨y,2,none⟩ (.slice none 0 0)).setCell ⟨y,3,none⟩ (.slice none 0 0)).cell? ⟨4,0,none⟩=some (.iface 218 (.pointer (some (A 7))))):=((World.cell?_of_block (a:=⟨4,0,none⟩) (zAB HYG7.out 3 (.slice none 0 0))).trans ((World.cell?_of_block (a:=⟨4,0,none⟩) (zAB HYG7.out 2 (.slice none 0 0))).trans ((World.cell?_of_block (a:=⟨4,0,none⟩) (zAB HYG7.out 1 (.int .i64 0))).trans ((World.cell?_of_block (a:=⟨4,0,none⟩) (zAB HYG7.out 0 (.int .i64 0))).trans GS))))
  go_upto_region 9 with fail
  refine wp_region_noPanic ?_
  refine wp_region_held_drew (S:=(fun W=>W.cell? ⟨4,0,none⟩=some (.iface 218 (.pointer (some (A 7)))))) (by kernel_rfl) GS (fun hHeld=>?_)
  refine ta 0 ⟨some 59,.build 26 #[],26,"l10_checkpoint.go:223",#[],none⟩ ?v16 ?h16 hHeld ?r16
  case h16=>intro wz hz;(try dsimp only at hz);go_simp;try (with_reducible rfl)
  simp only [Act.put,sA,sB,sC]
  refine ta 1 ⟨some 60,.load 55 (Operand.global 4),55,"l10_checkpoint.go:223",#[],none⟩ ?v17 ?h17 hHeld ?r17
  case h17=>intro wz hz;(try dsimp only at hz);go_simp;try (with_reducible rfl)
  simp only [Act.put,sA,sB,sC]
  refine ta 2 ⟨some 61,.build 82 #[(0,Operand.const (Value.string { data:=#[112,105,101,99,101,115,32,97,110,100,32,112,114,111,111,102,115] })),(1,Operand.tmp 60)],82,"l10_checkpoint.go:223",#[⟨1,.data⟩],none⟩ ?v18 ?h18 hHeld ?r18
  case h18=>intro wz hz;(try dsimp only at hz);go_simp;try (with_reducible rfl)
  simp only [Act.put,sA,sB,sC]
  refine ta 3 ⟨some 62,.makeInterface 82 (.tmp 61),55,"l10_checkpoint.go:223",#[⟨2,.data⟩,⟨4,.gcOnly .lateStores⟩],none⟩ ?v19 ?h19 hHeld ?r19
  case h19=>intro wz hz;(try dsimp only at hz);go_simp;try (with_reducible rfl)
  simp only [Act.put,sA,sB,sC]
  refine wpAnyH_ready (rs:=[4]) (by kernel_rfl) (by simp) ?_
  refine AllReadyH.cons (o:=⟨none,.store 26 (.tmp 8) (.tmp 59),0,"l10_checkpoint.go:223",#[⟨0,.data⟩,⟨0,.phase⟩,⟨1,.textOnly .lateStores⟩,⟨2,.textOnly .lateStores⟩,⟨3,.textOnly .lateStores⟩],none⟩) rfl (fun K hK=>?_) AllReadyH.nil
  go_simp
  refine hK.out _ _ ?_ (fun hHeld=>?_)
  ·exact GS9.out
  clear hK K
  (try simp only [Act.put,sA,sB,sC])
  refine ta 5 ⟨some 9,.assign (.tmp 62),55,"l10_checkpoint.go:223",#[⟨3,.data⟩,⟨4,.chain⟩,⟨0,.phase⟩,⟨1,.phase⟩,⟨2,.phase⟩,⟨3,.phase⟩,⟨4,.phase⟩],none⟩ ?v20 ?h20 hHeld ?r20
  case h20=>intro wz hz;(try dsimp only at hz);go_simp;try (with_reducible rfl)
  simp only [Act.put,sA,sB,sC]
  refine wpAnyH_done (by kernel_rfl) ?_ _
  refine NoPanic.normal ?_
  clear GS9
  go_wp2_with fail
  generalize ((((w2.setCell ⟨y,0,none⟩ (.int .i64 0)).setCell ⟨y,1,none⟩ (.int .i64 0)).setCell ⟨y,2,none⟩ (.slice none 0 0)).setCell ⟨y,3,none⟩ (.slice none 0 0))=wf at AF RF ⊢
  have d0:=(zAA AF 0 (x:=.int .i64 0) rfl).1
  have d1:=(zAA AF 1 (x:=.int .i64 0) rfl).1
  have d2:=(zAA AF 2 (x:=.slice none 0 0) rfl).1
  have d3:=(zAA AF 3 (x:=.slice none 0 0) rfl).1
  refine bodyPost_ret (v:=.tuple #[.agg #[.int .i64 0,.int .i64 0,.slice none 0 0,.slice none 0 0],.iface 82 (.agg #[.string ⟨#[112,105,101,99,101,115,32,97,110,100,32,112,114,111,111,102,115]⟩,.iface 218 (.pointer (some (A 7)))])]) (by simp [results,Tryz.results29,go_sem,d0,d1,d2,d3]) rfl ?_
  rw [HM.out.c,HM.out.t]
  exact ⟨_,_,[],_,rfl,.inr (.inl ⟨_,7,by decide,rfl,rfl⟩),⟨rfl,Mem.nil _ _⟩,RF.out.drew⟩
 case pos =>
 rw [pcC_ok hpc]
 by_cases hz1:(ps.length:Int)=sz
 case neg =>
  have hz1':((ps.length:Int) != sz)=true:=by simpa using hz1
  have hMS1:itC n sq sz rt vs ps qs=1:=by rw [hMS,if_neg (fun hh=>hz1 hh.2.1)]
  have HM:Hid (It n sq sz rt vs ps qs 1 zTab):=it_no hMS1 (by decide)
  clear hMS hMS1 hpc hz1 HRW HQZ c0 c2 c3
  obtain ⟨k9,g9⟩:=HY0.out _ (B2.out)
  obtain ⟨m0,n0⟩:=zAA k9 0 (x:=.int .i64 0) rfl
  obtain ⟨m1,n1⟩:=zAA k9 1 (x:=.int .i64 0) rfl
  obtain ⟨m2,n2⟩:=zAA k9 2 (x:=.slice none 0 0) rfl
  obtain ⟨m3,n3⟩:=zAA k9 3 (x:=.slice none 0 0) rfl
  have AF:((((w2.setCell ⟨y,0,none⟩ (.int .i64 0)).setCell ⟨y,1,none⟩ (.int .i64 0)).setCell ⟨y,2,none⟩ (.slice none 0 0)).setCell ⟨y,3,none⟩ (.slice none 0 0)).heap[y]?=some (.cells #[.int .i64 0,.int .i64 0,.slice none 0 0,.slice none 0 0] 26 (0,0)):=(zAE (zAE (zAE (zAE k9 0 (.int .i64 0)) 1 (.int .i64 0)) 2 (.slice none 0 0)) 3 (.slice none 0 0))
  have RF:Hid (Below w.heap.size w ((((w2.setCell ⟨y,0,none⟩ (.int .i64 0)).setCell ⟨y,1,none⟩ (.int .i64 0)).setCell ⟨y,2,none⟩ (.slice none 0 0)).setCell ⟨y,3,none⟩ (.slice none 0 0))):=(Below.setCell (Below.setCell (Below.setCell (Below.setCell g9 (p:=⟨y,0,none⟩) (HYL.out) (.int .i64 0)) (p:=⟨y,1,none⟩) (HYL.out) (.int .i64 0)) (p:=⟨y,2,none⟩) (HYL.out) (.slice none 0 0)) (p:=⟨y,3,none⟩) (HYL.out) (.slice none 0 0))
  clear g9 k9
  have GS:=(HSE.out _ (B2.out)).g7
  unfold sen at GS
  have GS9:Hid (((((w2.setCell ⟨y,0,none⟩ (.int .i64 0)).setCell ⟨y,1,none⟩ (.int .i64 0)).setCell ⟨y,2,none⟩ (.slice none 0 0)).setCell ⟨y,3,none⟩ (.slice none 0 0)).cell? ⟨4,0,none⟩=some (.iface 218 (.pointer (some (A 7))))):=((World.cell?_of_block (a:=⟨4,0,none⟩) (zAB HYG7.out 3 (.slice none 0 0))).trans ((World.cell?_of_block (a:=⟨4,0,none⟩) (zAB HYG7.out 2 (.slice none 0 0))).trans ((World.cell?_of_block (a:=⟨4,0,none⟩) (zAB HYG7.out 1 (.int .i64 0))).trans ((World.cell?_of_block (a:=⟨4,0,none⟩) (zAB HYG7.out 0 (.int .i64 0))).trans GS))))
  go_upto_region 9 with fail
  refine wp_region_noPanic ?_
  refine wp_region_held_drew (S:=(fun W=>W.cell? ⟨4,0,none⟩=some (.iface 218 (.pointer (some (A 7)))))) (by kernel_rfl) GS (fun hHeld=>?_)
  refine ta 0 ⟨some 59,.build 26 #[],26,"l10_checkpoint.go:223",#[],none⟩ ?v21 ?h21 hHeld ?r21
  case h21=>intro wz hz;(try dsimp only at hz);go_simp;try (with_reducible rfl)
  simp only [Act.put,sA,sB,sC]
  refine ta 1 ⟨some 60,.load 55 (Operand.global 4),55,"l10_checkpoint.go:223",#[],none⟩ ?v22 ?h22 hHeld ?r22
  case h22=>intro wz hz;(try dsimp only at hz);go_simp;try (with_reducible rfl)
  simp only [Act.put,sA,sB,sC]
  refine ta 2 ⟨some 61,.build 82 #[(0,Operand.const (Value.string { data:=#[112,105,101,99,101,115,32,97,110,100,32,112,114,111,111,102,115] })),(1,Operand.tmp 60)],82,"l10_checkpoint.go:223",#[⟨1,.data⟩],none⟩ ?v23 ?h23 hHeld ?r23
  case h23=>intro wz hz;(try dsimp only at hz);go_simp;try (with_reducible rfl)
  simp only [Act.put,sA,sB,sC]
  refine ta 3 ⟨some 62,.makeInterface 82 (.tmp 61),55,"l10_checkpoint.go:223",#[⟨2,.data⟩,⟨4,.gcOnly .lateStores⟩],none⟩ ?v24 ?h24 hHeld ?r24
  case h24=>intro wz hz;(try dsimp only at hz);go_simp;try (with_reducible rfl)
  simp only [Act.put,sA,sB,sC]
  refine wpAnyH_ready (rs:=[4]) (by kernel_rfl) (by simp) ?_
  refine AllReadyH.cons (o:=⟨none,.store 26 (.tmp 8) (.tmp 59),0,"l10_checkpoint.go:223",#[⟨0,.data⟩,⟨0,.phase⟩,⟨1,.textOnly .lateStores⟩,⟨2,.textOnly .lateStores⟩,⟨3,.textOnly .lateStores⟩],none⟩) rfl (fun K hK=>?_) AllReadyH.nil
  go_simp
  refine hK.out _ _ ?_ (fun hHeld=>?_)
  ·exact GS9.out
  clear hK K
  (try simp only [Act.put,sA,sB,sC])
  refine ta 5 ⟨some 9,.assign (.tmp 62),55,"l10_checkpoint.go:223",#[⟨3,.data⟩,⟨4,.chain⟩,⟨0,.phase⟩,⟨1,.phase⟩,⟨2,.phase⟩,⟨3,.phase⟩,⟨4,.phase⟩],none⟩ ?v25 ?h25 hHeld ?r25
  case h25=>intro wz hz;(try dsimp only at hz);go_simp;try (with_reducible rfl)
  simp only [Act.put,sA,sB,sC]
  refine wpAnyH_done (by kernel_rfl) ?_ _
  refine NoPanic.normal ?_
  clear GS9
  go_wp2_with fail
  generalize ((((w2.setCell ⟨y,0,none⟩ (.int .i64 0)).setCell ⟨y,1,none⟩ (.int .i64 0)).setCell ⟨y,2,none⟩ (.slice none 0 0)).setCell ⟨y,3,none⟩ (.slice none 0 0))=wf at AF RF ⊢
  have d0:=(zAA AF 0 (x:=.int .i64 0) rfl).1
  have d1:=(zAA AF 1 (x:=.int .i64 0) rfl).1
  have d2:=(zAA AF 2 (x:=.slice none 0 0) rfl).1
  have d3:=(zAA AF 3 (x:=.slice none 0 0) rfl).1
  refine bodyPost_ret (v:=.tuple #[.agg #[.int .i64 0,.int .i64 0,.slice none 0 0,.slice none 0 0],.iface 82 (.agg #[.string ⟨#[112,105,101,99,101,115,32,97,110,100,32,112,114,111,111,102,115]⟩,.iface 218 (.pointer (some (A 7)))])]) (by simp [results,Tryz.results29,go_sem,d0,d1,d2,d3]) rfl ?_
  rw [HM.out.c,HM.out.t]
  exact ⟨_,_,[],_,rfl,.inr (.inl ⟨_,7,by decide,rfl,rfl⟩),⟨rfl,Mem.nil _ _⟩,RF.out.drew⟩
 case pos =>
 have hz1':((ps.length:Int) != sz)=false:=by simpa using hz1
 by_cases hz2:(qs.length:Int)=sz
 case neg =>
  have hz2':((qs.length:Int) != sz)=true:=by simpa using hz2
  have hMS1:itC n sq sz rt vs ps qs=1:=by rw [hMS,if_neg (fun hh=>hz2 hh.2.2)]
  have HM:Hid (It n sq sz rt vs ps qs 1 zTab):=it_no hMS1 (by decide)
  clear hMS hMS1 hpc hz1 hz2 HRW HQZ c0 c2 c3
  obtain ⟨k9,g9⟩:=HY0.out _ (B2.out)
  obtain ⟨m0,n0⟩:=zAA k9 0 (x:=.int .i64 0) rfl
  obtain ⟨m1,n1⟩:=zAA k9 1 (x:=.int .i64 0) rfl
  obtain ⟨m2,n2⟩:=zAA k9 2 (x:=.slice none 0 0) rfl
  obtain ⟨m3,n3⟩:=zAA k9 3 (x:=.slice none 0 0) rfl
  have AF:((((w2.setCell ⟨y,0,none⟩ (.int .i64 0)).setCell ⟨y,1,none⟩ (.int .i64 0)).setCell ⟨y,2,none⟩ (.slice none 0 0)).setCell ⟨y,3,none⟩ (.slice none 0 0)).heap[y]?=some (.cells #[.int .i64 0,.int .i64 0,.slice none 0 0,.slice none 0 0] 26 (0,0)):=(zAE (zAE (zAE (zAE k9 0 (.int .i64 0)) 1 (.int .i64 0)) 2 (.slice none 0 0)) 3 (.slice none 0 0))
  have RF:Hid (Below w.heap.size w ((((w2.setCell ⟨y,0,none⟩ (.int .i64 0)).setCell ⟨y,1,none⟩ (.int .i64 0)).setCell ⟨y,2,none⟩ (.slice none 0 0)).setCell ⟨y,3,none⟩ (.slice none 0 0))):=(Below.setCell (Below.setCell (Below.setCell (Below.setCell g9 (p:=⟨y,0,none⟩) (HYL.out) (.int .i64 0)) (p:=⟨y,1,none⟩) (HYL.out) (.int .i64 0)) (p:=⟨y,2,none⟩) (HYL.out) (.slice none 0 0)) (p:=⟨y,3,none⟩) (HYL.out) (.slice none 0 0))
  clear g9 k9
  have GS:=(HSE.out _ (B2.out)).g7
  unfold sen at GS
  have GS9:Hid (((((w2.setCell ⟨y,0,none⟩ (.int .i64 0)).setCell ⟨y,1,none⟩ (.int .i64 0)).setCell ⟨y,2,none⟩ (.slice none 0 0)).setCell ⟨y,3,none⟩ (.slice none 0 0)).cell? ⟨4,0,none⟩=some (.iface 218 (.pointer (some (A 7))))):=((World.cell?_of_block (a:=⟨4,0,none⟩) (zAB HYG7.out 3 (.slice none 0 0))).trans ((World.cell?_of_block (a:=⟨4,0,none⟩) (zAB HYG7.out 2 (.slice none 0 0))).trans ((World.cell?_of_block (a:=⟨4,0,none⟩) (zAB HYG7.out 1 (.int .i64 0))).trans ((World.cell?_of_block (a:=⟨4,0,none⟩) (zAB HYG7.out 0 (.int .i64 0))).trans GS))))
  go_upto_region 9 with fail
  refine wp_region_noPanic ?_
  refine wp_region_held_drew (S:=(fun W=>W.cell? ⟨4,0,none⟩=some (.iface 218 (.pointer (some (A 7)))))) (by kernel_rfl) GS (fun hHeld=>?_)
  refine ta 0 ⟨some 59,.build 26 #[],26,"l10_checkpoint.go:223",#[],none⟩ ?v26 ?h26 hHeld ?r26
  case h26=>intro wz hz;(try dsimp only at hz);go_simp;try (with_reducible rfl)
  simp only [Act.put,sA,sB,sC]
  refine ta 1 ⟨some 60,.load 55 (Operand.global 4),55,"l10_checkpoint.go:223",#[],none⟩ ?v27 ?h27 hHeld ?r27
  case h27=>intro wz hz;(try dsimp only at hz);go_simp;try (with_reducible rfl)
  simp only [Act.put,sA,sB,sC]
  refine ta 2 ⟨some 61,.build 82 #[(0,Operand.const (Value.string { data:=#[112,105,101,99,101,115,32,97,110,100,32,112,114,111,111,102,115] })),(1,Operand.tmp 60)],82,"l10_checkpoint.go:223",#[⟨1,.data⟩],none⟩ ?v28 ?h28 hHeld ?r28
  case h28=>intro wz hz;(try dsimp only at hz);go_simp;try (with_reducible rfl)
  simp only [Act.put,sA,sB,sC]
  refine ta 3 ⟨some 62,.makeInterface 82 (.tmp 61),55,"l10_checkpoint.go:223",#[⟨2,.data⟩,⟨4,.gcOnly .lateStores⟩],none⟩ ?v29 ?h29 hHeld ?r29
  case h29=>intro wz hz;(try dsimp only at hz);go_simp;try (with_reducible rfl)
  simp only [Act.put,sA,sB,sC]
  refine wpAnyH_ready (rs:=[4]) (by kernel_rfl) (by simp) ?_
  refine AllReadyH.cons (o:=⟨none,.store 26 (.tmp 8) (.tmp 59),0,"l10_checkpoint.go:223",#[⟨0,.data⟩,⟨0,.phase⟩,⟨1,.textOnly .lateStores⟩,⟨2,.textOnly .lateStores⟩,⟨3,.textOnly .lateStores⟩],none⟩) rfl (fun K hK=>?_) AllReadyH.nil
  go_simp
  refine hK.out _ _ ?_ (fun hHeld=>?_)
  ·exact GS9.out
  clear hK K
  (try simp only [Act.put,sA,sB,sC])
  refine ta 5 ⟨some 9,.assign (.tmp 62),55,"l10_checkpoint.go:223",#[⟨3,.data⟩,⟨4,.chain⟩,⟨0,.phase⟩,⟨1,.phase⟩,⟨2,.phase⟩,⟨3,.phase⟩,⟨4,.phase⟩],none⟩ ?v30 ?h30 hHeld ?r30
  case h30=>intro wz hz;(try dsimp only at hz);go_simp;try (with_reducible rfl)
  simp only [Act.put,sA,sB,sC]
  refine wpAnyH_done (by kernel_rfl) ?_ _
  refine NoPanic.normal ?_
  clear GS9
  go_wp2_with fail
  generalize ((((w2.setCell ⟨y,0,none⟩ (.int .i64 0)).setCell ⟨y,1,none⟩ (.int .i64 0)).setCell ⟨y,2,none⟩ (.slice none 0 0)).setCell ⟨y,3,none⟩ (.slice none 0 0))=wf at AF RF ⊢
  have d0:=(zAA AF 0 (x:=.int .i64 0) rfl).1
  have d1:=(zAA AF 1 (x:=.int .i64 0) rfl).1
  have d2:=(zAA AF 2 (x:=.slice none 0 0) rfl).1
  have d3:=(zAA AF 3 (x:=.slice none 0 0) rfl).1
  refine bodyPost_ret (v:=.tuple #[.agg #[.int .i64 0,.int .i64 0,.slice none 0 0,.slice none 0 0],.iface 82 (.agg #[.string ⟨#[112,105,101,99,101,115,32,97,110,100,32,112,114,111,111,102,115]⟩,.iface 218 (.pointer (some (A 7)))])]) (by simp [results,Tryz.results29,go_sem,d0,d1,d2,d3]) rfl ?_
  rw [HM.out.c,HM.out.t]
  exact ⟨_,_,[],_,rfl,.inr (.inl ⟨_,7,by decide,rfl,rfl⟩),⟨rfl,Mem.nil _ _⟩,RF.out.drew⟩
 case pos =>
 have hz2':((qs.length:Int) != sz)=false:=by simpa using hz2
 rw [if_pos ⟨pcB_yes hpc,hz1,hz2⟩] at hMS
 have HLN:Hid (ps.length≤64∧ps.length=qs.length∧0<ps.length):=⟨hpc.1,by omega,by have:=HSZ.out;omega⟩
 have HCL:Hid ((cat ps).length≤2048):=pc_cat hpc
 have HNB:Hid (∀ k c,k<ps.length→fbC rt sz ps qs k=0→pfC rt (tnth ps k) k sz (tnth qs k)=c→c ≠ 0→It n sq sz rt vs ps qs c zTab):=fun k c hk h0 hc hne=>it_no (by rw [hMS,fb_first h0 hc hne hk,if_neg hne]) hne
 have HEN:Hid (fbC rt sz ps qs ps.length=0→It n sq sz rt vs ps qs (rtC (cat ps)) (rtT (cat ps))):=fun h0=>it_end (by rw [hMS,if_pos h0])
 have hk64:=HLN.out.1
 clear hMS hpc hz1 hz2 h1 h2 HSZ
 go_wp2_with fail
 clear c0 c1 c2 c3 hz1' hz2' h1' h2'
 go_loopw [65] (fun i wr=>∃ k:Nat,k≤ps.length∧i=.int .i64 k∧Hid (fbC rt sz ps qs k=0∧Below wb.heap.size wb wr)) (fun i _=>ps.length - (intOf i).toNat)
 case atStart=>exact ⟨0,by omega,rfl,⟨rfl,B2.out⟩⟩
 case round =>
  obtain ⟨k,hk,rfl,HZ⟩:=hrel
  by_cases hlt:k<ps.length
  ·have HGR:Hid (Below w.heap.size w wr):=(HY0.out _ HZ.out.2).2
   obtain ⟨b,off,rfl,hbl,d0⟩:=row_at (HRW.out _ HGR.out).1 hlt
   obtain ⟨b',off',rfl,hbl',e0⟩:=row_at (HRW.out _ HGR.out).2.1 (show k<qs.length by have:=HLN.out.2.1;omega)
   obtain ⟨c0,c1,c2,c3⟩:=HX0.out _ HZ.out.2
   have hp0:(0:Int)≤(k:Int):=by omega
   have hp1:(k:Int)<(ps.length:Int):=by omega
   have hp2:(k:Int)<(qs.length:Int):=by have:=HLN.out.2.1;omega
   go_upto_region 13 with fail
   obtain ⟨X,hX,W,QI0,QO0⟩:=Qc.zAo wr
   have QI:Hid (∀ w',Below wr.heap.size wr w'→∃ x,w'=W x):=QI0
   have QO:Hid (∀ x,Below wr.heap.size wr (W x)):=QO0
   clear QI0 QO0
   have QB:Hid (∀ x,Below wb.heap.size wb (W x)):=fun x=>HZ.out.2.trans ((QO.out x).mono HZ.out.2.size)
   have y0:=Qc.zAC QO.out e0
   have t0:=Qc.zAC QO.out c0
   have t1:=Qc.zAC QO.out c1
   have t2:=Qc.zAC QO.out c2
   have t3:=Qc.zAC QO.out c3
   clear c0 c1 c2 c3 d0 e0 hbl hbl'
   by_cases hpf:pfC rt (tnth ps k) k sz (tnth qs k)=0
   ·have HVM:Hid (∀ x,Calls Tryz.prog 53 #[.agg #[.int .i64 sq,.int .i64 sz,.string rt,.slice va vs.length vc],.string (tnth ps k),.int .i64 k,.string (tnth qs k)] (W x) fun e w'=>e=.returned .nilIface∧Below (W x).heap.size (W x) w'):=fun xq=>by
     obtain ⟨_,_,hK',hp'⟩:=HRW.out _ (HY0.out _ (QB.out xq)).2
     exact provedFault_nil sq sz rt va vs.length vc _ k _ (W xq) (HQZ.out k (by have:=HLN.out.2.1;omega)) hpf hK' hp'
    have HSS:Hid (fbC rt sz ps qs (k+1)=0):=fb_go HZ.out.1 hpf
    clear hpf HNB HEN
    generalize tnth ps k=pk at HVM ⊢
    generalize tnth qs k=qk at HVM y0 ⊢
    refine Qc.zAF (W:=W) (by kernel_rfl) (by kernel_rfl) (QI.out _ Qc.zAJ) ?_
    repeat (go_big_quiet_step (first | (go_at_call 53;refine (HVM.out _).mono ?_;rintro e w2 ⟨rfl,b2⟩;exact ⟨rfl,Qc.back QI.out QO.out b2⟩)))
    refine wpQuiet_nil ?_
    rintro _ ⟨xq,rfl⟩
    have G2:Hid (Below wb.heap.size wb (W xq)):=QB.out xq
    clear y0 t0 t1 t2 t3
    generalize W xq=wq at G2 ⊢
    go_wp2_with fail
    exact ⟨⟨k+1,by omega,by go_num,⟨HSS.out,G2.out⟩⟩,by simp [intOf];omega⟩
   ·have HVM:Hid (∀ x,Calls Tryz.prog 53 #[.agg #[.int .i64 sq,.int .i64 sz,.string rt,.slice va vs.length vc],.string (tnth ps k),.int .i64 k,.string (tnth qs k)] (W x) fun e w'=>e=.returned (fnd (pfS (tnth qs k)) (sen (A (fidx (pfC rt (tnth ps k) k sz (tnth qs k))))))∧Below (W x).heap.size (W x) w'):=fun xq=>by
     obtain ⟨_,_,hK',hp'⟩:=HRW.out _ (HY0.out _ (QB.out xq)).2
     exact provedFault_bad sq sz rt va vs.length vc _ k _ (W xq) A (HQZ.out k (by have:=HLN.out.2.1;omega)) hpf (HSE.out _ (QB.out xq)) hK' hp'
    have HM:Hid (It n sq sz rt vs ps qs (pfC rt (tnth ps k) k sz (tnth qs k)) zTab):=HNB.out k _ hlt HZ.out.1 rfl hpf
    have HCD:Hid (zBA (fidx (pfC rt (tnth ps k) k sz (tnth qs k)))=pfC rt (tnth ps k) k sz (tnth qs k)∧fidx (pfC rt (tnth ps k) k sz (tnth qs k))<8):=⟨pf_code hpf,fidx_lt _⟩
    have hk99:k<64:=by omega
    clear hpf HNB HEN
    generalize pfC rt (tnth ps k) k sz (tnth qs k)=cc at HVM HM HCD
    generalize fidx cc=jj at HVM HCD
    generalize pfS (tnth qs k)=sp at HVM
    generalize tnth ps k=pk at HVM ⊢
    generalize tnth qs k=qk at HVM y0 ⊢
    unfold fnd sen at HVM
    refine Qc.zAF (W:=W) (by kernel_rfl) (by kernel_rfl) (QI.out _ Qc.zAJ) ?_
    repeat (go_big_quiet_step (first | (go_at_call 53;refine (HVM.out _).mono ?_;rintro e w2 ⟨rfl,b2⟩;exact ⟨rfl,Qc.back QI.out QO.out b2⟩)))
    refine wpQuiet_nil ?_
    rintro _ ⟨xq,rfl⟩
    have G2:Hid (Below wb.heap.size wb (W xq)):=QB.out xq
    clear y0 t0 t1 t2 t3
    generalize W xq=wq at G2 ⊢
    go_wp2_with fail
    refine (itoa_small k hk99 _).mono ?_
    rintro e w4 ⟨s4,rfl,hs4,rfl⟩
    obtain ⟨k9,g9⟩:=HY0.out _ (G2.out)
    obtain ⟨m0,n0⟩:=zAA k9 0 (x:=.int .i64 0) rfl
    obtain ⟨m1,n1⟩:=zAA k9 1 (x:=.int .i64 0) rfl
    obtain ⟨m2,n2⟩:=zAA k9 2 (x:=.slice none 0 0) rfl
    obtain ⟨m3,n3⟩:=zAA k9 3 (x:=.slice none 0 0) rfl
    have AF:((((wq.setCell ⟨y,0,none⟩ (.int .i64 0)).setCell ⟨y,1,none⟩ (.int .i64 0)).setCell ⟨y,2,none⟩ (.slice none 0 0)).setCell ⟨y,3,none⟩ (.slice none 0 0)).heap[y]?=some (.cells #[.int .i64 0,.int .i64 0,.slice none 0 0,.slice none 0 0] 26 (0,0)):=(zAE (zAE (zAE (zAE k9 0 (.int .i64 0)) 1 (.int .i64 0)) 2 (.slice none 0 0)) 3 (.slice none 0 0))
    have RF:Hid (Below w.heap.size w ((((wq.setCell ⟨y,0,none⟩ (.int .i64 0)).setCell ⟨y,1,none⟩ (.int .i64 0)).setCell ⟨y,2,none⟩ (.slice none 0 0)).setCell ⟨y,3,none⟩ (.slice none 0 0))):=(Below.setCell (Below.setCell (Below.setCell (Below.setCell g9 (p:=⟨y,0,none⟩) (HYL.out) (.int .i64 0)) (p:=⟨y,1,none⟩) (HYL.out) (.int .i64 0)) (p:=⟨y,2,none⟩) (HYL.out) (.slice none 0 0)) (p:=⟨y,3,none⟩) (HYL.out) (.slice none 0 0))
    clear g9 k9
    go_wp2_with fail
    generalize ((((wq.setCell ⟨y,0,none⟩ (.int .i64 0)).setCell ⟨y,1,none⟩ (.int .i64 0)).setCell ⟨y,2,none⟩ (.slice none 0 0)).setCell ⟨y,3,none⟩ (.slice none 0 0))=wf at AF RF ⊢
    have d0:=(zAA AF 0 (x:=.int .i64 0) rfl).1
    have d1:=(zAA AF 1 (x:=.int .i64 0) rfl).1
    have d2:=(zAA AF 2 (x:=.slice none 0 0) rfl).1
    have d3:=(zAA AF 3 (x:=.slice none 0 0) rfl).1
    refine bodyPost_ret (v:=.tuple #[.agg #[.int .i64 0,.int .i64 0,.slice none 0 0,.slice none 0 0],.iface 82 (.agg #[.string (⟨#[112,105,101,99,101,32]⟩ ++ s4),.iface 82 (.agg #[.string sp,.iface 218 (.pointer (some (A jj)))])])]) (by simp [results,Tryz.results29,go_sem,d0,d1,d2,d3]) rfl ?_
    rw [HM.out.c,HM.out.t]
    exact ⟨_,_,[],_,rfl,.inr (.inr ⟨_,sp,jj,HCD.out.2,rfl,HCD.out.1⟩),⟨rfl,Mem.nil _ _⟩,RF.out⟩
  ·obtain rfl:k=ps.length:=by omega
   have HM0:=HEN.out HZ.out.1
   have HGR:Hid (Below w.heap.size w wr):=(HY0.out _ HZ.out.2).2
   have HJO:Hid (Calls Tryz.prog 22 #[.slice pa ps.length pc,.string ⟨#[]⟩] wr fun e w'=>e=.returned (.string (catS ps))∧Below wr.heap.size wr w'):=Ho.join_any _ ps wr (HRW.out _ HGR.out).1 (fun e=>by have:=HLN.out.2.2;rw [e] at this;simp at this) (by omega) (by have:=HCL.out;omega)
   have HBC:Hid (bys (catS ps)=cat ps):=bys_catS ps
   obtain ⟨er,HER,HFC⟩ : ∃ er,Hid ((rtC (cat ps)=0∧er=.nilIface) ∨ ∃ s j,j<8∧er=fnd s (sen (A j))∧zBA j=rtC (cat ps))∧Hid (∀ W,Below w.heap.size w W→Calls Tryz.prog 35 #[.string ⟨#[106,111,105,110,101,100,32,112,105,101,99,101,115]⟩,.int .i64 (rtC (cat ps))] W fun e w'=>e=.returned er∧Below W.heap.size W w'):=by
    rcases rt_vals HCL.out with e | e
    ·rw [e]
     exact ⟨_,.inl ⟨rfl,rfl⟩,fun W _=>zBI _ W⟩
    ·rw [e]
     exact ⟨_,.inr ⟨_,fidx 3,by decide,rfl,by decide⟩,fun W hW=>zBH _ 3 (by decide) (HSE0.out _ hW)⟩
   have HYB:Hid (y<wb.heap.size):=(Array.getElem?_eq_some_iff.1 (HY0.out wb (Below.refl _ _)).1).1
   have HWB:Hid (w.heap.size≤wb.heap.size):=G0.out.size
   clear HEN HNB HQZ HLN hk64
   go_wp2_with fail
   refine HJO.out.mono ?_
   rintro e w4 ⟨rfl,b4⟩
   obtain ⟨v5,w5,hcv,r5,b5⟩:=bytes_run (catS ps) w4
   rw [HBC.out] at r5
   have B5:Hid (RowB w5 v5 (cat ps)∧Below wb.heap.size wb w5):=⟨r5,(HZ.out.2.trans (b4.mono HZ.out.2.size)).trans (b5.mono (Nat.le_trans HZ.out.2.size b4.size))⟩
   clear r5 b5 b4 HJO HBC
   have HRT:Hid (Calls Tryz.prog 55 #[v5] w5 fun e w'=>∃ u2 u3 ms,e=.returned (.tuple #[tabV (rtT (cat ps)).tm (rtT (cat ps)).nx u2 u3,.int .i64 (rtC (cat ps))])∧(ms.map (·.1)=(rtT (cat ps)).ls∧Mem w' w5.heap.size u2 u3 ms (rtT (cat ps)).ss)∧Below w5.heap.size w5 w'):=zBa v5 (cat ps) w5 B5.out.1
   generalize rtC (cat ps)=c at HRT HER HFC HM0
   obtain ⟨⟨tm,nx,ls,ss⟩,HT⟩ : ∃ t,Hid (rtT (cat ps)=t):=⟨_,rfl⟩
   rw [HT.out] at HRT HM0
   dsimp only at HRT
   have HM:Hid (It n sq sz rt vs ps qs c ⟨tm,nx,ls,ss⟩):=HM0
   clear HM0 HT HCL
   go_wp2_with fail
   refine HRT.out.mono ?_
   rintro e w6 ⟨u2,u3,ms,rfl,⟨hm,me⟩,b6⟩
   obtain ⟨la,lc,rfl⟩:=me.ol.slice
   obtain ⟨sa,sc,rfl⟩:=me.os.slice
   have HMM:Hid (ms.map (·.1)=ls):=hm
   obtain ⟨ln,HLN2⟩ : ∃ ln,Hid (ms.length=ln):=⟨_,rfl⟩
   obtain ⟨sn,HSN2⟩ : ∃ sn,Hid (ss.length=sn):=⟨_,rfl⟩
   rw [HLN2.out,HSN2.out] at me ⊢
   have B1:Hid (Below wb.heap.size wb w6∧Mem w6 wb.heap.size (.slice la ln lc) (.slice sa sn sc) ms ss):=⟨B5.out.2.trans (b6.mono B5.out.2.size),me.mono B5.out.2.size⟩
   unfold tabV
   clear hm me b6 HRT B5 HX0
   have HZZ:Hid (∀ W,Below (w6.alloc (.cells #[.int .i64 tm,.int .i64 nx,.slice la ln lc,.slice sa sn sc] 26)).heap.size (w6.alloc (.cells #[.int .i64 tm,.int .i64 nx,.slice la ln lc,.slice sa sn sc] 26)) W→(fun W=>W.cell? ⟨w6.heap.size,0,none⟩=some (.int .i64 tm)∧W.cell? ⟨w6.heap.size,1,none⟩=some (.int .i64 nx)∧W.cell? ⟨w6.heap.size,2,none⟩=some (.slice la ln lc)∧W.cell? ⟨w6.heap.size,3,none⟩=some (.slice sa sn sc)) W∧Below wb.heap.size wb W∧Mem W wb.heap.size (.slice la ln lc) (.slice sa sn sc) ms ss):=fun W hW=>by
    have h0:=(hW.block w6.heap.size (by simp)).trans (heap_alloc_new w6 _)
    have b:=(zAD w6 (.cells #[.int .i64 tm,.int .i64 nx,.slice la ln lc,.slice sa sn sc] 26)).trans (hW.mono (by simp))
    exact ⟨⟨(zAA h0 0 rfl).1,(zAA h0 1 rfl).1,(zAA h0 2 rfl).1,(zAA h0 3 rfl).1⟩,B1.out.1.trans (b.mono B1.out.1.size),B1.out.2.below b⟩
   go_upto_region 18 with fail
   generalize hzz:w6.alloc (.cells #[.int .i64 tm,.int .i64 nx,.slice la ln lc,.slice sa sn sc] 26)=wz at HZZ ⊢
   clear hzz
   have HZY:Hid (w6.heap.size ≠ y):=by show _ ≠ _;have:=HYB.out;have:=B1.out.1.size;omega
   generalize w6.heap.size=zb at HZZ HZY ⊢
   obtain ⟨S0,Bz,_⟩:=HZZ.out _ (Below.refl _ _)
   have HC2:Hid (Calls Tryz.prog 35 #[.string ⟨#[106,111,105,110,101,100,32,112,105,101,99,101,115]⟩,.int .i64 c] wz.drew fun e w'=>e=.returned er∧Below wz.heap.size wz w'):=(HFC.out wz.drew ((HY0.out _ Bz).2.drew)).mono fun e w' ⟨h1,h2⟩=>⟨h1,((Below.refl wz.heap.size wz).drew).trans h2⟩
   clear HFC B1
   refine wp_region_noPanic ?_
   refine wp_region_held_drew (S:=(fun W=>W.cell? ⟨zb,0,none⟩=some (.int .i64 tm)∧W.cell? ⟨zb,1,none⟩=some (.int .i64 nx)∧W.cell? ⟨zb,2,none⟩=some (.slice la ln lc)∧W.cell? ⟨zb,3,none⟩=some (.slice sa sn sc))) (by kernel_rfl) S0 (fun hHeld=>?_)
   refine ta 0 ⟨some 95,.load 26 (.tmp 14),26,"l10_checkpoint.go:231",#[],none⟩ ?v31 ?h31 hHeld ?r31
   case h31=>intro wz hz;(try dsimp only at hz);go_simp;try (with_reducible rfl)
   simp only [Act.put,sA,sB,sC]
   refine ta 1 ⟨some 96,.move (.tmp 15),3,"l10_checkpoint.go:231",#[],none⟩ ?v32 ?h32 hHeld ?r32
   case h32=>intro wz hz;(try dsimp only at hz);go_simp;try (with_reducible rfl)
   simp only [Act.put,sA,sB,sC]
   refine wpAnyH_ready (rs:=[2]) (by kernel_rfl) (by simp) ?_
   refine AllReadyH.cons (o:=⟨some 97,.call { callee:=Callee.value (Operand.func 35),args:=#[Operand.const (Value.string { data:=#[106,111,105,110,101,100,32,112,105,101,99,101,115] }),Operand.tmp 96],argTypes:=#[9,3] },55,"l10_checkpoint.go:231",#[⟨1,.data⟩],none⟩) rfl (fun K hK=>?_) AllReadyH.nil
   go_simp
   go_at_call 35
   refine HC2.out.mono ?_
   rintro e w7 ⟨rfl,b7⟩
   obtain ⟨S3,B3,o3⟩:=HZZ.out _ b7
   try go_simp
   refine hK.out _ _ ?_ (fun hHeld=>?_)
   ·exact S3
   clear hK K
   (try simp only [Act.put,sA,sB,sC])
   obtain ⟨k9,g9⟩:=HY0.out _ (B3)
   obtain ⟨m0,n0⟩:=zAA k9 0 (x:=.int .i64 0) rfl
   obtain ⟨m1,n1⟩:=zAA k9 1 (x:=.int .i64 0) rfl
   obtain ⟨m2,n2⟩:=zAA k9 2 (x:=.slice none 0 0) rfl
   obtain ⟨m3,n3⟩:=zAA k9 3 (x:=.slice none 0 0) rfl
   have AF:((((w7.setCell ⟨y,0,none⟩ (.int .i64 tm)).setCell ⟨y,1,none⟩ (.int .i64 nx)).setCell ⟨y,2,none⟩ (.slice la ln lc)).setCell ⟨y,3,none⟩ (.slice sa sn sc)).heap[y]?=some (.cells #[.int .i64 tm,.int .i64 nx,.slice la ln lc,.slice sa sn sc] 26 (0,0)):=(zAE (zAE (zAE (zAE k9 0 (.int .i64 tm)) 1 (.int .i64 nx)) 2 (.slice la ln lc)) 3 (.slice sa sn sc))
   have RF:Hid (Below w.heap.size w ((((w7.setCell ⟨y,0,none⟩ (.int .i64 tm)).setCell ⟨y,1,none⟩ (.int .i64 nx)).setCell ⟨y,2,none⟩ (.slice la ln lc)).setCell ⟨y,3,none⟩ (.slice sa sn sc))∧Mem ((((w7.setCell ⟨y,0,none⟩ (.int .i64 tm)).setCell ⟨y,1,none⟩ (.int .i64 nx)).setCell ⟨y,2,none⟩ (.slice la ln lc)).setCell ⟨y,3,none⟩ (.slice sa sn sc)) w.heap.size (.slice la ln lc) (.slice sa sn sc) ms ss):=⟨(Below.setCell (Below.setCell (Below.setCell (Below.setCell g9 (p:=⟨y,0,none⟩) (HYL.out) (.int .i64 tm)) (p:=⟨y,1,none⟩) (HYL.out) (.int .i64 nx)) (p:=⟨y,2,none⟩) (HYL.out) (.slice la ln lc)) (p:=⟨y,3,none⟩) (HYL.out) (.slice sa sn sc)),(Mem.kept o3 (fun g hg _=>((zAB (by have:=HYB.out;omega) 3 (.slice sa sn sc)).trans ((zAB (by have:=HYB.out;omega) 2 (.slice la ln lc)).trans ((zAB (by have:=HYB.out;omega) 1 (.int .i64 nx)).trans ((zAB (by have:=HYB.out;omega) 0 (.int .i64 tm)).trans (Eq.refl w7.heap[g]?))))))).mono (HWB.out)⟩
   clear g9 k9
   have S9:Hid ((fun W=>W.cell? ⟨zb,0,none⟩=some (.int .i64 tm)∧W.cell? ⟨zb,1,none⟩=some (.int .i64 nx)∧W.cell? ⟨zb,2,none⟩=some (.slice la ln lc)∧W.cell? ⟨zb,3,none⟩=some (.slice sa sn sc)) ((((w7.setCell ⟨y,0,none⟩ (.int .i64 tm)).setCell ⟨y,1,none⟩ (.int .i64 nx)).setCell ⟨y,2,none⟩ (.slice la ln lc)).setCell ⟨y,3,none⟩ (.slice sa sn sc))):=⟨((World.cell?_of_block (a:=⟨zb,0,none⟩) (zAB HZY.out 3 (.slice sa sn sc))).trans ((World.cell?_of_block (a:=⟨zb,0,none⟩) (zAB HZY.out 2 (.slice la ln lc))).trans ((World.cell?_of_block (a:=⟨zb,0,none⟩) (zAB HZY.out 1 (.int .i64 nx))).trans ((World.cell?_of_block (a:=⟨zb,0,none⟩) (zAB HZY.out 0 (.int .i64 tm))).trans S3.1)))),((World.cell?_of_block (a:=⟨zb,1,none⟩) (zAB HZY.out 3 (.slice sa sn sc))).trans ((World.cell?_of_block (a:=⟨zb,1,none⟩) (zAB HZY.out 2 (.slice la ln lc))).trans ((World.cell?_of_block (a:=⟨zb,1,none⟩) (zAB HZY.out 1 (.int .i64 nx))).trans ((World.cell?_of_block (a:=⟨zb,1,none⟩) (zAB HZY.out 0 (.int .i64 tm))).trans S3.2.1)))),((World.cell?_of_block (a:=⟨zb,2,none⟩) (zAB HZY.out 3 (.slice sa sn sc))).trans ((World.cell?_of_block (a:=⟨zb,2,none⟩) (zAB HZY.out 2 (.slice la ln lc))).trans ((World.cell?_of_block (a:=⟨zb,2,none⟩) (zAB HZY.out 1 (.int .i64 nx))).trans ((World.cell?_of_block (a:=⟨zb,2,none⟩) (zAB HZY.out 0 (.int .i64 tm))).trans S3.2.2.1)))),((World.cell?_of_block (a:=⟨zb,3,none⟩) (zAB HZY.out 3 (.slice sa sn sc))).trans ((World.cell?_of_block (a:=⟨zb,3,none⟩) (zAB HZY.out 2 (.slice la ln lc))).trans ((World.cell?_of_block (a:=⟨zb,3,none⟩) (zAB HZY.out 1 (.int .i64 nx))).trans ((World.cell?_of_block (a:=⟨zb,3,none⟩) (zAB HZY.out 0 (.int .i64 tm))).trans S3.2.2.2))))⟩
   refine wpAnyH_ready (rs:=[3]) (by kernel_rfl) (by simp) ?_
   refine AllReadyH.cons (o:=⟨none,.store 26 (.tmp 8) (.tmp 95),0,"l10_checkpoint.go:231",#[⟨0,.data⟩,⟨2,.chain⟩,⟨0,.phase⟩,⟨1,.textOnly .lateStores⟩,⟨2,.textOnly .lateStoresUnsure⟩],none⟩) rfl (fun K hK=>?_) AllReadyH.nil
   go_simp
   refine hK.out _ _ ?_ (fun hHeld=>?_)
   ·exact S9.out
   clear hK K
   (try simp only [Act.put,sA,sB,sC])
   refine ta 4 ⟨some 9,.assign (.tmp 97),55,"l10_checkpoint.go:231",#[⟨2,.data⟩,⟨3,.chain⟩,⟨0,.phase⟩,⟨1,.phase⟩,⟨2,.phase⟩,⟨3,.phase⟩],none⟩ ?v33 ?h33 hHeld ?r33
   case h33=>intro wz hz;(try dsimp only at hz);go_simp;try (with_reducible rfl)
   simp only [Act.put,sA,sB,sC]
   refine wpAnyH_done (by kernel_rfl) ?_ _
   refine NoPanic.normal ?_
   clear S9 S3 S0 hHeld
   go_wp2_with fail
   generalize ((((w7.setCell ⟨y,0,none⟩ (.int .i64 tm)).setCell ⟨y,1,none⟩ (.int .i64 nx)).setCell ⟨y,2,none⟩ (.slice la ln lc)).setCell ⟨y,3,none⟩ (.slice sa sn sc))=wf at AF RF ⊢
   have d0:=(zAA AF 0 (x:=.int .i64 tm) rfl).1
   have d1:=(zAA AF 1 (x:=.int .i64 nx) rfl).1
   have d2:=(zAA AF 2 (x:=.slice la ln lc) rfl).1
   have d3:=(zAA AF 3 (x:=.slice sa sn sc) rfl).1
   refine bodyPost_ret (v:=.tuple #[.agg #[.int .i64 tm,.int .i64 nx,.slice la ln lc,.slice sa sn sc],er]) (by simp [results,Tryz.results29,go_sem,d0,d1,d2,d3]) rfl ?_
   rw [HM.out.c,HM.out.t]
   exact ⟨_,_,ms,_,rfl,HER.out.elim .inl (fun h=>.inr (.inl h)),⟨HMM.out,RF.out.2⟩,RF.out.1⟩
end Go.Proofs.YtakfniknkejgpaaGreatDoor.Xl
