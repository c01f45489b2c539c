/- Texts put together: Xi, XjI, Pw. -/
import Derived.Test.YtakfniknkejgpaaGreatDoorMiA0
import Derived.Test.YtakfniknkejgpaaGreatDoorMi19
import Derived.Deep.RegionHeld
namespace Go.Proofs.YtakfniknkejgpaaGreatDoor.Xo
open Go.RowKit Sl Rg Xv
open Gt (Vo)
open Hs (stV)
open Sh (KTab KTab.below)
open Xq (RowJ RowJ.below RowJ.at)
open Tb (Lk Sn Tab RowL RowS RowL.below RowS.below tabV)
open Tp (TOK bOf zAY zAP)
open Pt (zBO Bnd zCY lsBs zCI ssBs zCA tbOut zBQ)
open Ps (zBw)
open Pu (nums zAQ nums_length)
open Sl (RowB)
open Ap (zAT)
open Tx (RowT OwnS)
open Pg (zBF cutN cutL cutC cut_ok zAt pcn)
open Py (zAy zAn zBR)
open Fz (zAU)
open Er
open Xq (qvB qv_iff isV zBZ frn okN zBe f_four)
open Tm (zAz fOut zAX)
open Rm (inR zAR)
noncomputable def msC (n sq tm nx:Int) (ls:List Lk) (ss:List Sn) (fs:List Int):Int:=if 4096<fs.length then 2 else if zAz n=0∧inR sq 0 65535=true then (if bOf (TOK ⟨tm,nx,ls,ss⟩)=true then (if qvB n fs=true then 0 else 19) else 1) else 4
noncomputable def msQ (n sq tm nx:Int) (ls:List Lk) (ss:List Sn) (fs:List Int):Int:=if msC n sq tm nx ls ss fs=0 then sq else 0
noncomputable def msZ (n sq tm nx:Int) (ls:List Lk) (ss:List Sn) (fs:List Int):Int:=if msC n sq tm nx ls ss fs=0 then tN tm nx ls ss else 0
noncomputable def msR (n sq tm nx:Int) (ls:List Lk) (ss:List Sn) (fs:List Int):ByteArray:=if msC n sq tm nx ls ss fs=0 then tR tm nx ls ss else ⟨#[]⟩
noncomputable def msL (n sq tm nx:Int) (ls:List Lk) (ss:List Sn) (fs:List Int):List Vo:=if msC n sq tm nx ls ss fs=0 then vtTo sq (tN tm nx ls ss) (tR tm nx ls ss) fs fs.length else []
structure Ms (n sq tm nx:Int) (ls:List Lk) (ss:List Sn) (fs:List Int) (c q z:Int) (r:ByteArray) (l:List Vo):Prop where
 c:msC n sq tm nx ls ss fs=c
 q:msQ n sq tm nx ls ss fs=q
 z:msZ n sq tm nx ls ss fs=z
 r:msR n sq tm nx ls ss fs=r
 l:msL n sq tm nx ls ss fs=l
theorem ms_no {n sq tm nx:Int} {ls:List Lk} {ss:List Sn} {fs:List Int} {c:Int} (h:msC n sq tm nx ls ss fs=c) (hc:c ≠ 0):Ms n sq tm nx ls ss fs c 0 0 ⟨#[]⟩ []:=by
 refine ⟨h,?_,?_,?_,?_⟩
 ·unfold msQ;rw [h,if_neg hc]
 ·unfold msZ;rw [h,if_neg hc]
 ·unfold msR;rw [h,if_neg hc]
 ·unfold msL;rw [h,if_neg hc]
theorem ms_yes {n sq tm nx:Int} {ls:List Lk} {ss:List Sn} {fs:List Int} (h:msC n sq tm nx ls ss fs=0):Ms n sq tm nx ls ss fs 0 sq (tN tm nx ls ss) (tR tm nx ls ss) (vtTo sq (tN tm nx ls ss) (tR tm nx ls ss) fs fs.length):=by
 refine ⟨h,?_,?_,?_,?_⟩
 ·unfold msQ;rw [if_pos h]
 ·unfold msZ;rw [if_pos h]
 ·unfold msR;rw [if_pos h]
 ·unfold msL;rw [if_pos h]
theorem q_nodes {n:Int} {fs:List Int} (h:qvB n fs=true):∀ f ∈ fs,∃ i:Nat,f=i∧i<7:=fun f hf=>⟨_,zBZ ((qv_iff.1 h).2.2.1 f hf)⟩
set_option maxRecDepth 100000 in
set_option maxHeartbeats 1600000 in
theorem unvoted_any (tm nx:Int) (ls:List Lk) (ss:List Sn) (sq:Int) (v:Value) (w:World) (h:RowB w v (zBO tm nx ls ss)) (ht:TOK ⟨tm,nx,ls,ss⟩) (hK:KTab w) (hp:9<w.heap.size) :
 Calls Tryz.prog 37 #[.int .i64 sq,v] w fun e w'=>e=.returned (stV sq (tN tm nx ls ss) (tR tm nx ls ss) (.slice none 0 0))∧Below w.heap.size w w':=by
 have hlen:=tab_len (tm:=tm) (nx:=nx) (zCY ht)
 have hco:=cut_ok (xs:=zBO tm nx ls ss) (by omega)
 have HCU:Hid (∀ W,Below w.heap.size w W→Calls Tryz.prog 8 #[v] W fun e w'=>∃ v',e=.returned (.tuple #[v',.int .i64 0])∧RowT w' v' (tL tm nx ls ss)∧Below W.heap.size W w'):=fun W hW=>(zAt v _ W (h.below hW) (by omega)).mono fun e w' ⟨v',h1,h2,h3⟩=>⟨v',by rw [h1,hco.1],by have:=h2.row;rwa [hco.2] at this,h3⟩
 have HRO:Hid (∀ W u,Below w.heap.size w W→RowT W u (tL tm nx ls ss)→Calls Tryz.prog 48 #[u] W fun e w'=>e=.returned (.string (tR tm nx ls ss))∧Below W.heap.size W w'):=fun W u hb hW=>zBR 64 _ u W hW (tL_some ht).1 (tL_some ht).2 (tL_some ht).2 (tL_small ht) (hK.below hb hp) (Nat.lt_of_lt_of_le hp hb.size)
 have hln:=tL_len (tm:=tm) (nx:=nx) (ls:=ls) (ss:=ss)
 have HX0:Hid (∀ W,Below (w.alloc (.cells #[.int .i64 0,.int .i64 0,.string ⟨#[]⟩,.slice none 0 0] 33)).heap.size (w.alloc (.cells #[.int .i64 0,.int .i64 0,.string ⟨#[]⟩,.slice none 0 0] 33)) W→W.heap[w.heap.size]?=some (.cells #[.int .i64 0,.int .i64 0,.string ⟨#[]⟩,.slice none 0 0] 33)∧Below w.heap.size w W):=fun W hW=>⟨(hW.block w.heap.size (by simp)).trans (heap_alloc_new w _),(zAD w (.cells #[.int .i64 0,.int .i64 0,.string ⟨#[]⟩,.slice none 0 0] 33)).trans (hW.mono (by simp))⟩
 generalize tR tm nx ls ss=rt at HRO ⊢
 generalize tN tm nx ls ss=sz at hln ⊢
 generalize tL tm nx ls ss=pcs at HCU HRO hln
 have HLN0:Hid ((pcs.length:Int)=sz):=hln
 clear h ht hK hp hlen hco hln
 unfold stV
 go_enter Tryz.func37,Tryz.ntmps37
 go_upto_region 1 with fail
 generalize w.alloc (.cells #[.int .i64 0,.int .i64 0,.string ⟨#[]⟩,.slice none 0 0] 33)=wb at HX0 ⊢
 have G0:Hid (Below w.heap.size w wb):=(HX0.out _ (Below.refl _ _)).2
 go_wp2_with fail
 refine (HCU.out _ G0.out).mono ?_
 rintro e w1 ⟨v1,rfl,r1,b1⟩
 have R1:Hid (RowT w1 v1 pcs∧Below wb.heap.size wb w1):=⟨r1,b1⟩
 obtain ⟨pa,pc,rfl,_⟩:=r1
 clear b1
 go_wp2_with fail
 refine (HRO.out _ _ (HX0.out _ R1.out.2).2 R1.out.1).mono ?_
 rintro e w2 ⟨rfl,b2⟩
 have B2:Hid (Below wb.heap.size wb w2):=R1.out.2.trans (b2.mono R1.out.2.size)
 clear b2 R1
 rw [HLN0.out]
 obtain ⟨k2,g2⟩:=HX0.out _ B2.out
 obtain ⟨y,HY⟩ : ∃ y,Hid (w.heap.size=y):=⟨_,rfl⟩
 rw [HY.out] at k2 ⊢
 obtain ⟨m0,n0⟩:=zAA k2 0 (x:=.int .i64 0) rfl
 obtain ⟨m1,n1⟩:=zAA k2 1 (x:=.int .i64 0) rfl
 obtain ⟨m2,n2⟩:=zAA k2 2 (x:=.string ⟨#[]⟩) rfl
 obtain ⟨m3,n3⟩:=zAA k2 3 (x:=.slice none 0 0) rfl
 have AF:((((w2.setCell ⟨y,0,none⟩ (.int .i64 sq)).setCell ⟨y,1,none⟩ (.int .i64 sz)).setCell ⟨y,2,none⟩ (.string rt)).setCell ⟨y,3,none⟩ (.slice none 0 0)).heap[y]?=some (.cells #[.int .i64 sq,.int .i64 sz,.string rt,.slice none 0 0] 33 (0,0)):=(zAE (zAE (zAE (zAE k2 0 (.int .i64 sq)) 1 (.int .i64 sz)) 2 (.string rt)) 3 (.slice none 0 0))
 have RF:Hid (Below w.heap.size w ((((w2.setCell ⟨y,0,none⟩ (.int .i64 sq)).setCell ⟨y,1,none⟩ (.int .i64 sz)).setCell ⟨y,2,none⟩ (.string rt)).setCell ⟨y,3,none⟩ (.slice none 0 0))):=(Below.setCell (Below.setCell (Below.setCell (Below.setCell g2 (p:=⟨y,0,none⟩) (Nat.le_of_eq HY.out) (.int .i64 sq)) (p:=⟨y,1,none⟩) (Nat.le_of_eq HY.out) (.int .i64 sz)) (p:=⟨y,2,none⟩) (Nat.le_of_eq HY.out) (.string rt)) (p:=⟨y,3,none⟩) (Nat.le_of_eq HY.out) (.slice none 0 0))
 clear g2 k2
 go_wp2_with fail
 generalize ((((w2.setCell ⟨y,0,none⟩ (.int .i64 sq)).setCell ⟨y,1,none⟩ (.int .i64 sz)).setCell ⟨y,2,none⟩ (.string rt)).setCell ⟨y,3,none⟩ (.slice none 0 0))=wf at AF RF ⊢
 have d0:=(zAA AF 0 (x:=.int .i64 sq) rfl).1
 have d1:=(zAA AF 1 (x:=.int .i64 sz) rfl).1
 have d2:=(zAA AF 2 (x:=.string rt) rfl).1
 have d3:=(zAA AF 3 (x:=.slice none 0 0) rfl).1
 exact bodyPost_ret (v:=stV sq sz rt (.slice none 0 0)) (by simp [stV,results,Tryz.results37,go_sem,d0,d1,d2,d3]) rfl ⟨rfl,RF.out⟩
set_option maxRecDepth 100000 in
set_option maxHeartbeats 1600000 in
theorem zCG (n:Int) (w:World) (h:zAz n=0):Calls Tryz.prog 32 #[.int .i64 n] w fun e w'=>e=.returned .nilIface∧Below w.heap.size w w':=by
 have HF:=zAX n w
 rw [h] at HF
 clear h
 go_enter Tryz.func32,Tryz.ntmps32
 go_wp2_with fail
 refine HF.mono ?_
 rintro e w1 ⟨rfl,hw⟩
 rw [hw]
 clear hw HF
 go_wp2_with fail
 refine (zBI _ w).mono ?_
 rintro e w2 ⟨rfl,b2⟩
 go_wp2_with fail
 go_ret
 exact ⟨rfl,b2⟩
def tNo:ByteArray:=⟨#[110,111,100,101,115]⟩
def tTa:ByteArray:=⟨#[116,97,98,108,101]⟩
set_option maxRecDepth 100000 in
set_option maxHeartbeats 1600000 in
theorem zCN (n:Int) {w:World} {A:Nat→Addr} (h:¬ zAz n=0) (hS:Sen w A):Calls Tryz.prog 32 #[.int .i64 n] w fun e w'=>e=.returned (fnd tNo (sen (A 2)))∧Below w.heap.size w w':=by
 have HF:=zAX n w
 rw [f_four h] at HF
 have HC:Hid (Calls Tryz.prog 35 #[.string tNo,.int .i64 4] w fun e w'=>e=.returned (fnd tNo (sen (A 2)))∧Below w.heap.size w w'):=zBH tNo 4 (by decide) hS
 generalize fnd tNo (sen (A 2))=ev at HC ⊢
 unfold tNo at HC
 clear h hS
 go_enter Tryz.func32,Tryz.ntmps32
 go_wp2_with fail
 refine HF.mono ?_
 rintro e w1 ⟨rfl,hw⟩
 rw [hw]
 clear hw HF
 go_wp2_with fail
 refine HC.out.mono ?_
 rintro e w2 ⟨rfl,b2⟩
 go_wp2_with fail
 go_ret
 exact ⟨rfl,b2⟩
set_option maxRecDepth 100000 in
set_option maxHeartbeats 3200000 in
theorem votedTable_any (n sq tm nx:Int) (vl vs:Value) (ls:List Lk) (ss:List Sn) (u:Value) (fs:List Int) (w:World) (A:Nat→Addr) (hL:RowL w vl ls) (hS:RowS w vs ss) (hw:∀ x ∈ ls,x.n.size≤1048576∧x.ws.length≤1048576) (hy1:ls.length≤1048576) (hy2:ss.length≤1048576) (h:RowJ w u fs) (hfl:fs.length≤1048576) (hSe:Sen w A) (hK:KTab w) (hp:9<w.heap.size) :
 Calls Tryz.prog 16 #[.int .i64 n,.int .i64 sq,tabV tm nx vl vs,u] w fun e w'=>∃ v er,e=.returned (.tuple #[stV (msQ n sq tm nx ls ss fs) (msZ n sq tm nx ls ss fs) (msR n sq tm nx ls ss fs) v,er])∧((msC n sq tm nx ls ss fs=0∧er=.nilIface) ∨ ∃ s j,j<8∧er=fnd s (sen (A j))∧zBA j=msC n sq tm nx ls ss fs)∧OwnV w' w.heap.size v (msL n sq tm nx ls ss fs)∧Below w.heap.size w w':=by
 have hu:=h
 obtain ⟨a,cap,rfl,_⟩:=h
 obtain ⟨la,lc,rfl⟩:=Tb.RowG.slice hL
 obtain ⟨sa,sc,rfl⟩:=Tb.RowG.slice hS
 have e2:((w.alloc (.cells #[.int .i64 tm,.int .i64 nx,.slice la ls.length lc,.slice sa ss.length sc] 26)).alloc (.cells #[.int .i64 0,.int .i64 0,.string ⟨#[]⟩,.slice none 0 0] 33)).heap.size=w.heap.size+1+1:=by rw [zAN,zAN]
 have HX0:Hid (∀ W,Below ((w.alloc (.cells #[.int .i64 tm,.int .i64 nx,.slice la ls.length lc,.slice sa ss.length sc] 26)).alloc (.cells #[.int .i64 0,.int .i64 0,.string ⟨#[]⟩,.slice none 0 0] 33)).heap.size ((w.alloc (.cells #[.int .i64 tm,.int .i64 nx,.slice la ls.length lc,.slice sa ss.length sc] 26)).alloc (.cells #[.int .i64 0,.int .i64 0,.string ⟨#[]⟩,.slice none 0 0] 33)) W→(W.cell? ⟨w.heap.size,0,none⟩=some (.int .i64 tm)∧W.cell? ⟨w.heap.size,1,none⟩=some (.int .i64 nx)∧W.cell? ⟨w.heap.size,2,none⟩=some (.slice la ls.length lc)∧W.cell? ⟨w.heap.size,3,none⟩=some (.slice sa ss.length sc))):=fun W hW=>by
  have h0:W.heap[w.heap.size]?=some (.cells #[.int .i64 tm,.int .i64 nx,.slice la ls.length lc,.slice sa ss.length sc] 26):=by rw [hW.block _ (by omega),Below.heap_alloc _ _ _ (by rw [zAN];omega)];exact heap_alloc_new w _
  exact ⟨(zAA h0 0 rfl).1,(zAA h0 1 rfl).1,(zAA h0 2 rfl).1,(zAA h0 3 rfl).1⟩
 have HY0:Hid (∀ W,Below ((w.alloc (.cells #[.int .i64 tm,.int .i64 nx,.slice la ls.length lc,.slice sa ss.length sc] 26)).alloc (.cells #[.int .i64 0,.int .i64 0,.string ⟨#[]⟩,.slice none 0 0] 33)).heap.size ((w.alloc (.cells #[.int .i64 tm,.int .i64 nx,.slice la ls.length lc,.slice sa ss.length sc] 26)).alloc (.cells #[.int .i64 0,.int .i64 0,.string ⟨#[]⟩,.slice none 0 0] 33)) W→W.heap[w.heap.size+1]?=some (.cells #[.int .i64 0,.int .i64 0,.string ⟨#[]⟩,.slice none 0 0] 33)∧Below w.heap.size w W):=fun W hW=>by
  have h1:W.heap[w.heap.size+1]?=some (.cells #[.int .i64 0,.int .i64 0,.string ⟨#[]⟩,.slice none 0 0] 33):=by rw [hW.block _ (by omega)];have:=heap_alloc_new (w.alloc (.cells #[.int .i64 tm,.int .i64 nx,.slice la ls.length lc,.slice sa ss.length sc] 26)) (.cells #[.int .i64 0,.int .i64 0,.string ⟨#[]⟩,.slice none 0 0] 33);rwa [zAN] at this
  exact ⟨h1,(((Below.refl w.heap.size w).alloc (Nat.le_refl _) _).alloc (by rw [zAN];omega) _).trans (hW.mono (by omega))⟩
 have HSE0:Hid (∀ W,Below w.heap.size w W→Sen W A):=fun W hW=>hSe.below hW
 have HTB:Hid (∀ W,Below w.heap.size w W→Calls Tryz.prog 34 #[tabV tm nx (.slice la ls.length lc) (.slice sa ss.length sc)] W fun e w'=>∃ v,e=.returned (.tuple #[v,.int .i64 (zBQ tm nx ls ss)])∧(TOK ⟨tm,nx,ls,ss⟩→RowB w' v (zBO tm nx ls ss))∧Below W.heap.size W w'):=fun W hW=>(Pt.implTableBytes_any tm nx _ _ ls ss W (hL.below hW) (hS.below hW) hw hy1 hy2).mono fun e w' ⟨v,h1,h2,h3⟩=>⟨v,h1,fun ht=>by have:=zAT h2 (by unfold tbOut;rw [zAY ht];exact tab_range tm nx ls ss);unfold tbOut at this;rwa [zAY ht] at this,h3⟩
 have HRQ:Hid (∀ W,Below w.heap.size w W→Calls Tryz.prog 25 #[.int .i64 n,.slice a fs.length cap] W fun e w'=>e=.returned (.bool (qvB n fs))∧W=w'):=fun W hW=>zBe n _ fs W (hu.below hW) (by omega)
 have HUN:Hid (∀ W v,TOK ⟨tm,nx,ls,ss⟩→Below w.heap.size w W→RowB W v (zBO tm nx ls ss)→Calls Tryz.prog 37 #[.int .i64 sq,v] W fun e w'=>e=.returned (stV sq (tN tm nx ls ss) (tR tm nx ls ss) (.slice none 0 0))∧Below W.heap.size W w'):=fun W v ht hW hv=>unvoted_any tm nx ls ss sq v W hv ht (hK.below hW hp) (Nat.lt_of_lt_of_le hp hW.size)
 have HWV:Hid (∀ W,TOK ⟨tm,nx,ls,ss⟩→qvB n fs=true→fs.length≤4096→Below w.heap.size w W→Calls Tryz.prog 36 #[stV sq (tN tm nx ls ss) (tR tm nx ls ss) (.slice none 0 0),.slice a fs.length cap] W fun e w'=>∃ v,e=.returned (stV sq (tN tm nx ls ss) (tR tm nx ls ss) v)∧OwnV w' w.heap.size v (vtTo sq (tN tm nx ls ss) (tR tm nx ls ss) fs fs.length)∧Below W.heap.size W w'):=fun W ht hq hl hW=>(withVotes_any sq _ _ _ fs W (hu.below hW) hl (q_nodes hq) (tR_size ht) (hK.below hW hp) (Nat.lt_of_lt_of_le hp hW.size)).mono fun e w' ⟨v,h1,h2,h3⟩=>⟨v,h1,h2.mono hW.size,h3⟩
 have HYL0:Hid (w.heap.size≤w.heap.size+1):=Nat.le_succ _
 have HYG0:Hid (0 ≠ w.heap.size+1):=by show _ ≠ _;have:=World.block_lt_of_cell? w _ hSe.g0;simp only at this;omega
 have HYG2:Hid (1 ≠ w.heap.size+1):=by show _ ≠ _;have:=World.block_lt_of_cell? w _ hSe.g2;simp only at this;omega
 have HYG6:Hid (2 ≠ w.heap.size+1):=by show _ ≠ _;have:=World.block_lt_of_cell? w _ hSe.g6;simp only at this;omega
 have hMS:msC n sq tm nx ls ss fs=if 4096<fs.length then 2 else if zAz n=0∧inR sq 0 65535=true then (if bOf (TOK ⟨tm,nx,ls,ss⟩)=true then (if qvB n fs=true then 0 else 19) else 1) else 4:=rfl
 clear hL hS hw hy1 hy2 hu hSe hK hp e2
 unfold tabV at HTB ⊢
 by_cases h1:4096<fs.length
 ·have h1':(4096:Int)<(fs.length:Int):=by omega
  rw [if_pos h1] at hMS
  have HM:Hid (Ms n sq tm nx ls ss fs 2 0 0 ⟨#[]⟩ []):=ms_no hMS (by decide)
  clear hMS h1 HTB HRQ HUN HWV
  go_enter Tryz.func16,Tryz.ntmps16
  go_upto_region 1 with fail
  generalize (w.alloc (.cells #[.int .i64 tm,.int .i64 nx,.slice la ls.length lc,.slice sa ss.length sc] 26)).alloc (.cells #[.int .i64 0,.int .i64 0,.string ⟨#[]⟩,.slice none 0 0] 33)=wb at HX0 HY0 ⊢
  obtain ⟨y,HY⟩ : ∃ y,Hid (w.heap.size+1=y):=⟨_,rfl⟩
  rw [HY.out] at HY0 HYL0 HYG0 HYG2 HYG6 ⊢
  have HYL:Hid (w.heap.size≤y):=HYL0
  have HSE:Hid (∀ W,Below wb.heap.size wb W→Sen W A):=fun W hW=>HSE0.out _ (HY0.out _ hW).2
  clear HYL0
  obtain ⟨k9,g9⟩:=HY0.out _ (Below.refl _ _)
  obtain ⟨m0,n0⟩:=zAA k9 0 (x:=.int .i64 0) rfl
  obtain ⟨m1,n1⟩:=zAA k9 1 (x:=.int .i64 0) rfl
  obtain ⟨m2,n2⟩:=zAA k9 2 (x:=.string ⟨#[]⟩) rfl
  obtain ⟨m3,n3⟩:=zAA k9 3 (x:=.slice none 0 0) rfl
  have AF:((((wb.setCell ⟨y,0,none⟩ (.int .i64 0)).setCell ⟨y,1,none⟩ (.int .i64 0)).setCell ⟨y,2,none⟩ (.string ⟨#[]⟩)).setCell ⟨y,3,none⟩ (.slice none 0 0)).heap[y]?=some (.cells #[.int .i64 0,.int .i64 0,.string ⟨#[]⟩,.slice none 0 0] 33 (0,0)):=(zAE (zAE (zAE (zAE k9 0 (.int .i64 0)) 1 (.int .i64 0)) 2 (.string ⟨#[]⟩)) 3 (.slice none 0 0))
  have RF:Hid (Below w.heap.size w ((((wb.setCell ⟨y,0,none⟩ (.int .i64 0)).setCell ⟨y,1,none⟩ (.int .i64 0)).setCell ⟨y,2,none⟩ (.string ⟨#[]⟩)).setCell ⟨y,3,none⟩ (.slice none 0 0))∧OwnV ((((wb.setCell ⟨y,0,none⟩ (.int .i64 0)).setCell ⟨y,1,none⟩ (.int .i64 0)).setCell ⟨y,2,none⟩ (.string ⟨#[]⟩)).setCell ⟨y,3,none⟩ (.slice none 0 0)) w.heap.size (.slice none 0 0) []):=⟨(Below.setCell (Below.setCell (Below.setCell (Below.setCell g9 (p:=⟨y,0,none⟩) (HYL.out) (.int .i64 0)) (p:=⟨y,1,none⟩) (HYL.out) (.int .i64 0)) (p:=⟨y,2,none⟩) (HYL.out) (.string ⟨#[]⟩)) (p:=⟨y,3,none⟩) (HYL.out) (.slice none 0 0)),OwnV.nil _ _⟩
  clear g9 k9
  have GS:=(HSE.out _ (Below.refl _ _)).g0
  unfold sen at GS
  have GS9:Hid (((((wb.setCell ⟨y,0,none⟩ (.int .i64 0)).setCell ⟨y,1,none⟩ (.int .i64 0)).setCell ⟨y,2,none⟩ (.string ⟨#[]⟩)).setCell ⟨y,3,none⟩ (.slice none 0 0)).cell? ⟨0,0,none⟩=some (.iface 218 (.pointer (some (A 0))))):=((World.cell?_of_block (a:=⟨0,0,none⟩) (zAB HYG0.out 3 (.slice none 0 0))).trans ((World.cell?_of_block (a:=⟨0,0,none⟩) (zAB HYG0.out 2 (.string ⟨#[]⟩))).trans ((World.cell?_of_block (a:=⟨0,0,none⟩) (zAB HYG0.out 1 (.int .i64 0))).trans ((World.cell?_of_block (a:=⟨0,0,none⟩) (zAB HYG0.out 0 (.int .i64 0))).trans GS))))
  go_upto_region 2 with fail
  refine wp_region_noPanic ?_
  refine wp_region_held_drew (S:=(fun W=>W.cell? ⟨0,0,none⟩=some (.iface 218 (.pointer (some (A 0)))))) (by kernel_rfl) GS (fun hHeld=>?_)
  refine ta 0 ⟨some 17,.build 33 #[],33,"l10_checkpoint.go:169",#[],none⟩ ?v1 ?h1 hHeld ?r1
  case h1=>intro wz hz;(try dsimp only at hz);go_simp;try (with_reducible rfl)
  simp only [Act.put,sA,sB,sC]
  refine ta 1 ⟨some 18,.load 55 (Operand.global 0),55,"l10_checkpoint.go:169",#[],none⟩ ?v2 ?h2 hHeld ?r2
  case h2=>intro wz hz;(try dsimp only at hz);go_simp;try (with_reducible rfl)
  simp only [Act.put,sA,sB,sC]
  refine ta 2 ⟨some 19,.build 82 #[(0,Operand.const (Value.string { data:=#[118,111,116,101,114,115] })),(1,Operand.tmp 18)],82,"l10_checkpoint.go:169",#[⟨1,.data⟩],none⟩ ?v3 ?h3 hHeld ?r3
  case h3=>intro wz hz;(try dsimp only at hz);go_simp;try (with_reducible rfl)
  simp only [Act.put,sA,sB,sC]
  refine ta 3 ⟨some 20,.makeInterface 82 (.tmp 19),55,"l10_checkpoint.go:169",#[⟨2,.data⟩,⟨4,.gcOnly .lateStores⟩],none⟩ ?v4 ?h4 hHeld ?r4
  case h4=>intro wz hz;(try dsimp only at hz);go_simp;try (with_reducible rfl)
  simp only [Act.put,sA,sB,sC]
  refine wpAnyH_ready (rs:=[4]) (by kernel_rfl) (by simp) ?_
  refine AllReadyH.cons (o:=⟨none,.store 33 (.tmp 8) (.tmp 17),0,"l10_checkpoint.go:169",#[⟨0,.data⟩,⟨0,.phase⟩,⟨1,.textOnly .lateStores⟩,⟨2,.textOnly .lateStores⟩,⟨3,.textOnly .lateStores⟩],none⟩) rfl (fun K hK=>?_) AllReadyH.nil
  go_simp
  refine hK.out _ _ ?_ (fun hHeld=>?_)
  ·exact GS9.out
  clear hK K
  (try simp only [Act.put,sA,sB,sC])
  refine ta 5 ⟨some 9,.assign (.tmp 20),55,"l10_checkpoint.go:169",#[⟨3,.data⟩,⟨4,.chain⟩,⟨0,.phase⟩,⟨1,.phase⟩,⟨2,.phase⟩,⟨3,.phase⟩,⟨4,.phase⟩],none⟩ ?v5 ?h5 hHeld ?r5
  case h5=>intro wz hz;(try dsimp only at hz);go_simp;try (with_reducible rfl)
  simp only [Act.put,sA,sB,sC]
  refine wpAnyH_done (by kernel_rfl) ?_ _
  refine NoPanic.normal ?_
  clear GS9
  go_wp2_with fail
  generalize ((((wb.setCell ⟨y,0,none⟩ (.int .i64 0)).setCell ⟨y,1,none⟩ (.int .i64 0)).setCell ⟨y,2,none⟩ (.string ⟨#[]⟩)).setCell ⟨y,3,none⟩ (.slice none 0 0))=wf at AF RF ⊢
  have d0:=(zAA AF 0 (x:=.int .i64 0) rfl).1
  have d1:=(zAA AF 1 (x:=.int .i64 0) rfl).1
  have d2:=(zAA AF 2 (x:=.string ⟨#[]⟩) rfl).1
  have d3:=(zAA AF 3 (x:=.slice none 0 0) rfl).1
  refine bodyPost_ret (v:=.tuple #[.agg #[.int .i64 0,.int .i64 0,.string ⟨#[]⟩,.slice none 0 0],.iface 82 (.agg #[.string ⟨#[118,111,116,101,114,115]⟩,.iface 218 (.pointer (some (A 0)))])]) (by simp [results,Tryz.results16,go_sem,d0,d1,d2,d3]) rfl ?_
  rw [HM.out.c,HM.out.q,HM.out.z,HM.out.r,HM.out.l]
  exact ⟨_,_,rfl,.inr ⟨_,0,by decide,rfl,rfl⟩,OwnV.nil _ _,RF.out.1.drew⟩
 have h1':¬ (4096:Int)<(fs.length:Int):=by omega
 rw [if_neg h1] at hMS
 go_enter Tryz.func16,Tryz.ntmps16
 go_upto_region 1 with fail
 generalize (w.alloc (.cells #[.int .i64 tm,.int .i64 nx,.slice la ls.length lc,.slice sa ss.length sc] 26)).alloc (.cells #[.int .i64 0,.int .i64 0,.string ⟨#[]⟩,.slice none 0 0] 33)=wb at HX0 HY0 ⊢
 obtain ⟨y,HY⟩ : ∃ y,Hid (w.heap.size+1=y):=⟨_,rfl⟩
 rw [HY.out] at HY0 HYL0 HYG0 HYG2 HYG6 ⊢
 have HYL:Hid (w.heap.size≤y):=HYL0
 have HSE:Hid (∀ W,Below wb.heap.size wb W→Sen W A):=fun W hW=>HSE0.out _ (HY0.out _ hW).2
 clear HYL0
 have G0:Hid (Below w.heap.size w wb):=(HY0.out _ (Below.refl _ _)).2
 by_cases hn:zAz n=0
 case neg =>
  rw [if_neg (fun hh=>hn hh.1)] at hMS
  have HM:Hid (Ms n sq tm nx ls ss fs 4 0 0 ⟨#[]⟩ []):=ms_no hMS (by decide)
  have HNF:=zCN n hn (HSE.out wb (Below.refl _ _))
  unfold fnd sen at HNF
  clear hMS hn HTB HRQ HUN HWV
  go_wp2_with fail
  refine HNF.mono ?_
  rintro e w1 ⟨rfl,b1⟩
  obtain ⟨k9,g9⟩:=HY0.out _ (b1)
  obtain ⟨m0,n0⟩:=zAA k9 0 (x:=.int .i64 0) rfl
  obtain ⟨m1,n1⟩:=zAA k9 1 (x:=.int .i64 0) rfl
  obtain ⟨m2,n2⟩:=zAA k9 2 (x:=.string ⟨#[]⟩) rfl
  obtain ⟨m3,n3⟩:=zAA k9 3 (x:=.slice none 0 0) rfl
  have AF:((((w1.setCell ⟨y,0,none⟩ (.int .i64 0)).setCell ⟨y,1,none⟩ (.int .i64 0)).setCell ⟨y,2,none⟩ (.string ⟨#[]⟩)).setCell ⟨y,3,none⟩ (.slice none 0 0)).heap[y]?=some (.cells #[.int .i64 0,.int .i64 0,.string ⟨#[]⟩,.slice none 0 0] 33 (0,0)):=(zAE (zAE (zAE (zAE k9 0 (.int .i64 0)) 1 (.int .i64 0)) 2 (.string ⟨#[]⟩)) 3 (.slice none 0 0))
  have RF:Hid (Below w.heap.size w ((((w1.setCell ⟨y,0,none⟩ (.int .i64 0)).setCell ⟨y,1,none⟩ (.int .i64 0)).setCell ⟨y,2,none⟩ (.string ⟨#[]⟩)).setCell ⟨y,3,none⟩ (.slice none 0 0))∧OwnV ((((w1.setCell ⟨y,0,none⟩ (.int .i64 0)).setCell ⟨y,1,none⟩ (.int .i64 0)).setCell ⟨y,2,none⟩ (.string ⟨#[]⟩)).setCell ⟨y,3,none⟩ (.slice none 0 0)) w.heap.size (.slice none 0 0) []):=⟨(Below.setCell (Below.setCell (Below.setCell (Below.setCell g9 (p:=⟨y,0,none⟩) (HYL.out) (.int .i64 0)) (p:=⟨y,1,none⟩) (HYL.out) (.int .i64 0)) (p:=⟨y,2,none⟩) (HYL.out) (.string ⟨#[]⟩)) (p:=⟨y,3,none⟩) (HYL.out) (.slice none 0 0)),OwnV.nil _ _⟩
  clear g9 k9
  go_wp2_with fail
  generalize ((((w1.setCell ⟨y,0,none⟩ (.int .i64 0)).setCell ⟨y,1,none⟩ (.int .i64 0)).setCell ⟨y,2,none⟩ (.string ⟨#[]⟩)).setCell ⟨y,3,none⟩ (.slice none 0 0))=wf at AF RF ⊢
  have d0:=(zAA AF 0 (x:=.int .i64 0) rfl).1
  have d1:=(zAA AF 1 (x:=.int .i64 0) rfl).1
  have d2:=(zAA AF 2 (x:=.string ⟨#[]⟩) rfl).1
  have d3:=(zAA AF 3 (x:=.slice none 0 0) rfl).1
  refine bodyPost_ret (v:=.tuple #[.agg #[.int .i64 0,.int .i64 0,.string ⟨#[]⟩,.slice none 0 0],.iface 82 (.agg #[.string tNo,.iface 218 (.pointer (some (A 2)))])]) (by simp [results,Tryz.results16,go_sem,d0,d1,d2,d3]) rfl ?_
  rw [HM.out.c,HM.out.q,HM.out.z,HM.out.r,HM.out.l]
  exact ⟨_,_,rfl,.inr ⟨tNo,2,by decide,rfl,rfl⟩,RF.out.2,RF.out.1⟩
 case pos =>
 have HNF:=zCG n wb hn
 go_wp2_with fail
 refine HNF.mono ?_
 rintro e w1 ⟨rfl,b1⟩
 have B1:Hid (Below wb.heap.size wb w1):=b1
 clear b1 HNF
 have HWI:=zAR sq 0 65535 w1
 cases hsq:inR sq 0 65535
 case false =>
  rw [if_neg (fun hh=>by rw [hsq] at hh;cases hh.2)] at hMS
  have HM:Hid (Ms n sq tm nx ls ss fs 4 0 0 ⟨#[]⟩ []):=ms_no hMS (by decide)
  rw [hsq] at HWI
  clear hMS hn hsq HTB HRQ HUN HWV
  go_upto_region 6 with fail
  go_upto_region 7 with (go_at_call 33;refine HWI.mono ?_;rintro e w2 ⟨rfl,rfl⟩)
  obtain ⟨k9,g9⟩:=HY0.out _ (B1.out)
  obtain ⟨m0,n0⟩:=zAA k9 0 (x:=.int .i64 0) rfl
  obtain ⟨m1,n1⟩:=zAA k9 1 (x:=.int .i64 0) rfl
  obtain ⟨m2,n2⟩:=zAA k9 2 (x:=.string ⟨#[]⟩) rfl
  obtain ⟨m3,n3⟩:=zAA k9 3 (x:=.slice none 0 0) rfl
  have AF:((((w1.setCell ⟨y,0,none⟩ (.int .i64 0)).setCell ⟨y,1,none⟩ (.int .i64 0)).setCell ⟨y,2,none⟩ (.string ⟨#[]⟩)).setCell ⟨y,3,none⟩ (.slice none 0 0)).heap[y]?=some (.cells #[.int .i64 0,.int .i64 0,.string ⟨#[]⟩,.slice none 0 0] 33 (0,0)):=(zAE (zAE (zAE (zAE k9 0 (.int .i64 0)) 1 (.int .i64 0)) 2 (.string ⟨#[]⟩)) 3 (.slice none 0 0))
  have RF:Hid (Below w.heap.size w ((((w1.setCell ⟨y,0,none⟩ (.int .i64 0)).setCell ⟨y,1,none⟩ (.int .i64 0)).setCell ⟨y,2,none⟩ (.string ⟨#[]⟩)).setCell ⟨y,3,none⟩ (.slice none 0 0))∧OwnV ((((w1.setCell ⟨y,0,none⟩ (.int .i64 0)).setCell ⟨y,1,none⟩ (.int .i64 0)).setCell ⟨y,2,none⟩ (.string ⟨#[]⟩)).setCell ⟨y,3,none⟩ (.slice none 0 0)) w.heap.size (.slice none 0 0) []):=⟨(Below.setCell (Below.setCell (Below.setCell (Below.setCell g9 (p:=⟨y,0,none⟩) (HYL.out) (.int .i64 0)) (p:=⟨y,1,none⟩) (HYL.out) (.int .i64 0)) (p:=⟨y,2,none⟩) (HYL.out) (.string ⟨#[]⟩)) (p:=⟨y,3,none⟩) (HYL.out) (.slice none 0 0)),OwnV.nil _ _⟩
  clear g9 k9
  have GS:=(HSE.out _ (B1.out)).g2
  unfold sen at GS
  have GS9:Hid (((((w1.setCell ⟨y,0,none⟩ (.int .i64 0)).setCell ⟨y,1,none⟩ (.int .i64 0)).setCell ⟨y,2,none⟩ (.string ⟨#[]⟩)).setCell ⟨y,3,none⟩ (.slice none 0 0)).cell? ⟨1,0,none⟩=some (.iface 218 (.pointer (some (A 2))))):=((World.cell?_of_block (a:=⟨1,0,none⟩) (zAB HYG2.out 3 (.slice none 0 0))).trans ((World.cell?_of_block (a:=⟨1,0,none⟩) (zAB HYG2.out 2 (.string ⟨#[]⟩))).trans ((World.cell?_of_block (a:=⟨1,0,none⟩) (zAB HYG2.out 1 (.int .i64 0))).trans ((World.cell?_of_block (a:=⟨1,0,none⟩) (zAB HYG2.out 0 (.int .i64 0))).trans GS))))
  refine wp_region_noPanic ?_
  refine wp_region_held_drew (S:=(fun W=>W.cell? ⟨1,0,none⟩=some (.iface 218 (.pointer (some (A 2)))))) (by kernel_rfl) GS (fun hHeld=>?_)
  refine ta 0 ⟨some 30,.build 33 #[],33,"l10_checkpoint.go:175",#[],none⟩ ?v6 ?h6 hHeld ?r6
  case h6=>intro wz hz;(try dsimp only at hz);go_simp;try (with_reducible rfl)
  simp only [Act.put,sA,sB,sC]
  refine ta 1 ⟨some 31,.load 55 (Operand.global 1),55,"l10_checkpoint.go:175",#[],none⟩ ?v7 ?h7 hHeld ?r7
  case h7=>intro wz hz;(try dsimp only at hz);go_simp;try (with_reducible rfl)
  simp only [Act.put,sA,sB,sC]
  refine ta 2 ⟨some 32,.build 82 #[(0,Operand.const (Value.string { data:=#[115,101,113] })),(1,Operand.tmp 31)],82,"l10_checkpoint.go:175",#[⟨1,.data⟩],none⟩ ?v8 ?h8 hHeld ?r8
  case h8=>intro wz hz;(try dsimp only at hz);go_simp;try (with_reducible rfl)
  simp only [Act.put,sA,sB,sC]
  refine ta 3 ⟨some 33,.makeInterface 82 (.tmp 32),55,"l10_checkpoint.go:175",#[⟨2,.data⟩,⟨4,.gcOnly .lateStores⟩],none⟩ ?v9 ?h9 hHeld ?r9
  case h9=>intro wz hz;(try dsimp only at hz);go_simp;try (with_reducible rfl)
  simp only [Act.put,sA,sB,sC]
  refine wpAnyH_ready (rs:=[4]) (by kernel_rfl) (by simp) ?_
  refine AllReadyH.cons (o:=⟨none,.store 33 (.tmp 8) (.tmp 30),0,"l10_checkpoint.go:175",#[⟨0,.data⟩,⟨0,.phase⟩,⟨1,.textOnly .lateStores⟩,⟨2,.textOnly .lateStores⟩,⟨3,.textOnly .lateStores⟩],none⟩) rfl (fun K hK=>?_) AllReadyH.nil
  go_simp
  refine hK.out _ _ ?_ (fun hHeld=>?_)
  ·exact GS9.out
  clear hK K
  (try simp only [Act.put,sA,sB,sC])
  refine ta 5 ⟨some 9,.assign (.tmp 33),55,"l10_checkpoint.go:175",#[⟨3,.data⟩,⟨4,.chain⟩,⟨0,.phase⟩,⟨1,.phase⟩,⟨2,.phase⟩,⟨3,.phase⟩,⟨4,.phase⟩],none⟩ ?v10 ?h10 hHeld ?r10
  case h10=>intro wz hz;(try dsimp only at hz);go_simp;try (with_reducible rfl)
  simp only [Act.put,sA,sB,sC]
  refine wpAnyH_done (by kernel_rfl) ?_ _
  refine NoPanic.normal ?_
  clear GS9
  go_wp2_with fail
  generalize ((((w1.setCell ⟨y,0,none⟩ (.int .i64 0)).setCell ⟨y,1,none⟩ (.int .i64 0)).setCell ⟨y,2,none⟩ (.string ⟨#[]⟩)).setCell ⟨y,3,none⟩ (.slice none 0 0))=wf at AF RF ⊢
  have d0:=(zAA AF 0 (x:=.int .i64 0) rfl).1
  have d1:=(zAA AF 1 (x:=.int .i64 0) rfl).1
  have d2:=(zAA AF 2 (x:=.string ⟨#[]⟩) rfl).1
  have d3:=(zAA AF 3 (x:=.slice none 0 0) rfl).1
  refine bodyPost_ret (v:=.tuple #[.agg #[.int .i64 0,.int .i64 0,.string ⟨#[]⟩,.slice none 0 0],.iface 82 (.agg #[.string ⟨#[115,101,113]⟩,.iface 218 (.pointer (some (A 2)))])]) (by simp [results,Tryz.results16,go_sem,d0,d1,d2,d3]) rfl ?_
  rw [HM.out.c,HM.out.q,HM.out.z,HM.out.r,HM.out.l]
  exact ⟨_,_,rfl,.inr ⟨_,2,by decide,rfl,rfl⟩,OwnV.nil _ _,RF.out.1.drew⟩
 case true =>
 rw [if_pos ⟨hn,hsq⟩] at hMS
 rw [hsq] at HWI
 clear hsq hn
 obtain ⟨c0,c1,c2,c3⟩:=HX0.out _ B1.out
 go_wp2_with (first | (go_at_call 33;refine HWI.mono ?_;rintro e w2 ⟨rfl,rfl⟩) | fail)
 refine (HTB.out _ (HY0.out _ B1.out).2).mono ?_
 rintro e w2 ⟨v2,rfl,r2,b2⟩
 have B2:Hid (Below wb.heap.size wb w2):=B1.out.trans (b2.mono B1.out.size)
 have R2:Hid (TOK ⟨tm,nx,ls,ss⟩→RowB w2 v2 (zBO tm nx ls ss)):=r2
 clear b2 r2 B1 c0 c1 c2 c3 HWI HTB
 by_cases ht:TOK ⟨tm,nx,ls,ss⟩
 case neg =>
  rw [zAP ht] at hMS
  have hMS1:msC n sq tm nx ls ss fs=1:=hMS
  have HM:Hid (Ms n sq tm nx ls ss fs 1 0 0 ⟨#[]⟩ []):=ms_no hMS1 (by decide)
  have HTC:Hid (zBQ tm nx ls ss=1):=by show _=_;unfold zBQ;rw [zAP ht];rfl
  rw [HTC.out]
  have HFC:Hid (Calls Tryz.prog 35 #[.string tTa,.int .i64 1] w2 fun e w'=>e=.returned (fnd tTa (sen (A 7)))∧Below w2.heap.size w2 w'):=zBH tTa 1 (by decide) (HSE.out _ B2.out)
  unfold fnd sen at HFC
  clear hMS hMS1 ht R2 HRQ HUN HWV
  unfold tTa at HFC
  go_wp2_with fail
  refine HFC.out.mono ?_
  rintro e w3 ⟨rfl,b3⟩
  have B3:Hid (Below wb.heap.size wb w3):=B2.out.trans (b3.mono B2.out.size)
  clear b3
  obtain ⟨k9,g9⟩:=HY0.out _ (B3.out)
  obtain ⟨m0,n0⟩:=zAA k9 0 (x:=.int .i64 0) rfl
  obtain ⟨m1,n1⟩:=zAA k9 1 (x:=.int .i64 0) rfl
  obtain ⟨m2,n2⟩:=zAA k9 2 (x:=.string ⟨#[]⟩) rfl
  obtain ⟨m3,n3⟩:=zAA k9 3 (x:=.slice none 0 0) rfl
  have AF:((((w3.setCell ⟨y,0,none⟩ (.int .i64 0)).setCell ⟨y,1,none⟩ (.int .i64 0)).setCell ⟨y,2,none⟩ (.string ⟨#[]⟩)).setCell ⟨y,3,none⟩ (.slice none 0 0)).heap[y]?=some (.cells #[.int .i64 0,.int .i64 0,.string ⟨#[]⟩,.slice none 0 0] 33 (0,0)):=(zAE (zAE (zAE (zAE k9 0 (.int .i64 0)) 1 (.int .i64 0)) 2 (.string ⟨#[]⟩)) 3 (.slice none 0 0))
  have RF:Hid (Below w.heap.size w ((((w3.setCell ⟨y,0,none⟩ (.int .i64 0)).setCell ⟨y,1,none⟩ (.int .i64 0)).setCell ⟨y,2,none⟩ (.string ⟨#[]⟩)).setCell ⟨y,3,none⟩ (.slice none 0 0))∧OwnV ((((w3.setCell ⟨y,0,none⟩ (.int .i64 0)).setCell ⟨y,1,none⟩ (.int .i64 0)).setCell ⟨y,2,none⟩ (.string ⟨#[]⟩)).setCell ⟨y,3,none⟩ (.slice none 0 0)) w.heap.size (.slice none 0 0) []):=⟨(Below.setCell (Below.setCell (Below.setCell (Below.setCell g9 (p:=⟨y,0,none⟩) (HYL.out) (.int .i64 0)) (p:=⟨y,1,none⟩) (HYL.out) (.int .i64 0)) (p:=⟨y,2,none⟩) (HYL.out) (.string ⟨#[]⟩)) (p:=⟨y,3,none⟩) (HYL.out) (.slice none 0 0)),OwnV.nil _ _⟩
  clear g9 k9
  go_wp2_with fail
  generalize ((((w3.setCell ⟨y,0,none⟩ (.int .i64 0)).setCell ⟨y,1,none⟩ (.int .i64 0)).setCell ⟨y,2,none⟩ (.string ⟨#[]⟩)).setCell ⟨y,3,none⟩ (.slice none 0 0))=wf at AF RF ⊢
  have d0:=(zAA AF 0 (x:=.int .i64 0) rfl).1
  have d1:=(zAA AF 1 (x:=.int .i64 0) rfl).1
  have d2:=(zAA AF 2 (x:=.string ⟨#[]⟩) rfl).1
  have d3:=(zAA AF 3 (x:=.slice none 0 0) rfl).1
  refine bodyPost_ret (v:=.tuple #[.agg #[.int .i64 0,.int .i64 0,.string ⟨#[]⟩,.slice none 0 0],.iface 82 (.agg #[.string ⟨#[116,97,98,108,101]⟩,.iface 218 (.pointer (some (A 7)))])]) (by simp [results,Tryz.results16,go_sem,d0,d1,d2,d3]) rfl ?_
  rw [HM.out.c,HM.out.q,HM.out.z,HM.out.r,HM.out.l]
  exact ⟨_,_,rfl,.inr ⟨_,7,by decide,rfl,rfl⟩,RF.out.2,RF.out.1⟩
 case pos =>
 rw [zAY ht] at hMS
 have hMS1:msC n sq tm nx ls ss fs=if qvB n fs=true then 0 else 19:=hMS
 have HTC:Hid (zBQ tm nx ls ss=0):=by show _=_;unfold zBQ;rw [zAY ht];rfl
 rw [HTC.out]
 have RB:=R2.out ht
 clear R2 hMS
 go_wp2_with fail
 refine (zBI _ w2).mono ?_
 rintro e w3 ⟨rfl,b3⟩
 have B3:Hid (Below wb.heap.size wb w3):=B2.out.trans (b3.mono B2.out.size)
 have RB3:Hid (RowB w3 v2 (zBO tm nx ls ss)):=RB.below b3
 clear b3 RB B2
 have HRQ3:=HRQ.out w3 (HY0.out _ B3.out).2
 cases hq:qvB n fs
 case false =>
  rw [if_neg (fun hh=>by rw [hq] at hh;cases hh)] at hMS1
  have HM:Hid (Ms n sq tm nx ls ss fs 19 0 0 ⟨#[]⟩ []):=ms_no hMS1 (by decide)
  rw [hq] at HRQ3
  clear hMS1 hq ht HRQ HUN HWV RB3
  go_upto_region 12 with fail
  go_upto_region 13 with (go_at_call 25;refine HRQ3.mono ?_;rintro e w4 ⟨rfl,rfl⟩)
  obtain ⟨k9,g9⟩:=HY0.out _ (B3.out)
  obtain ⟨m0,n0⟩:=zAA k9 0 (x:=.int .i64 0) rfl
  obtain ⟨m1,n1⟩:=zAA k9 1 (x:=.int .i64 0) rfl
  obtain ⟨m2,n2⟩:=zAA k9 2 (x:=.string ⟨#[]⟩) rfl
  obtain ⟨m3,n3⟩:=zAA k9 3 (x:=.slice none 0 0) rfl
  have AF:((((w3.setCell ⟨y,0,none⟩ (.int .i64 0)).setCell ⟨y,1,none⟩ (.int .i64 0)).setCell ⟨y,2,none⟩ (.string ⟨#[]⟩)).setCell ⟨y,3,none⟩ (.slice none 0 0)).heap[y]?=some (.cells #[.int .i64 0,.int .i64 0,.string ⟨#[]⟩,.slice none 0 0] 33 (0,0)):=(zAE (zAE (zAE (zAE k9 0 (.int .i64 0)) 1 (.int .i64 0)) 2 (.string ⟨#[]⟩)) 3 (.slice none 0 0))
  have RF:Hid (Below w.heap.size w ((((w3.setCell ⟨y,0,none⟩ (.int .i64 0)).setCell ⟨y,1,none⟩ (.int .i64 0)).setCell ⟨y,2,none⟩ (.string ⟨#[]⟩)).setCell ⟨y,3,none⟩ (.slice none 0 0))∧OwnV ((((w3.setCell ⟨y,0,none⟩ (.int .i64 0)).setCell ⟨y,1,none⟩ (.int .i64 0)).setCell ⟨y,2,none⟩ (.string ⟨#[]⟩)).setCell ⟨y,3,none⟩ (.slice none 0 0)) w.heap.size (.slice none 0 0) []):=⟨(Below.setCell (Below.setCell (Below.setCell (Below.setCell g9 (p:=⟨y,0,none⟩) (HYL.out) (.int .i64 0)) (p:=⟨y,1,none⟩) (HYL.out) (.int .i64 0)) (p:=⟨y,2,none⟩) (HYL.out) (.string ⟨#[]⟩)) (p:=⟨y,3,none⟩) (HYL.out) (.slice none 0 0)),OwnV.nil _ _⟩
  clear g9 k9
  have GS:=(HSE.out _ (B3.out)).g6
  unfold sen at GS
  have GS9:Hid (((((w3.setCell ⟨y,0,none⟩ (.int .i64 0)).setCell ⟨y,1,none⟩ (.int .i64 0)).setCell ⟨y,2,none⟩ (.string ⟨#[]⟩)).setCell ⟨y,3,none⟩ (.slice none 0 0)).cell? ⟨2,0,none⟩=some (.iface 218 (.pointer (some (A 6))))):=((World.cell?_of_block (a:=⟨2,0,none⟩) (zAB HYG6.out 3 (.slice none 0 0))).trans ((World.cell?_of_block (a:=⟨2,0,none⟩) (zAB HYG6.out 2 (.string ⟨#[]⟩))).trans ((World.cell?_of_block (a:=⟨2,0,none⟩) (zAB HYG6.out 1 (.int .i64 0))).trans ((World.cell?_of_block (a:=⟨2,0,none⟩) (zAB HYG6.out 0 (.int .i64 0))).trans GS))))
  refine wp_region_noPanic ?_
  refine wp_region_held_drew (S:=(fun W=>W.cell? ⟨2,0,none⟩=some (.iface 218 (.pointer (some (A 6)))))) (by kernel_rfl) GS (fun hHeld=>?_)
  refine ta 0 ⟨some 49,.build 33 #[],33,"l10_checkpoint.go:182",#[],none⟩ ?v11 ?h11 hHeld ?r11
  case h11=>intro wz hz;(try dsimp only at hz);go_simp;try (with_reducible rfl)
  simp only [Act.put,sA,sB,sC]
  refine ta 1 ⟨some 50,.load 55 (Operand.global 2),55,"l10_checkpoint.go:182",#[],none⟩ ?v12 ?h12 hHeld ?r12
  case h12=>intro wz hz;(try dsimp only at hz);go_simp;try (with_reducible rfl)
  simp only [Act.put,sA,sB,sC]
  refine ta 2 ⟨some 51,.build 82 #[(0,Operand.const (Value.string { data:=#[118,111,116,101,114,115] })),(1,Operand.tmp 50)],82,"l10_checkpoint.go:182",#[⟨1,.data⟩],none⟩ ?v13 ?h13 hHeld ?r13
  case h13=>intro wz hz;(try dsimp only at hz);go_simp;try (with_reducible rfl)
  simp only [Act.put,sA,sB,sC]
  refine ta 3 ⟨some 52,.makeInterface 82 (.tmp 51),55,"l10_checkpoint.go:182",#[⟨2,.data⟩,⟨4,.gcOnly .lateStores⟩],none⟩ ?v14 ?h14 hHeld ?r14
  case h14=>intro wz hz;(try dsimp only at hz);go_simp;try (with_reducible rfl)
  simp only [Act.put,sA,sB,sC]
  refine wpAnyH_ready (rs:=[4]) (by kernel_rfl) (by simp) ?_
  refine AllReadyH.cons (o:=⟨none,.store 33 (.tmp 8) (.tmp 49),0,"l10_checkpoint.go:182",#[⟨0,.data⟩,⟨0,.phase⟩,⟨1,.textOnly .lateStores⟩,⟨2,.textOnly .lateStores⟩,⟨3,.textOnly .lateStores⟩],none⟩) rfl (fun K hK=>?_) AllReadyH.nil
  go_simp
  refine hK.out _ _ ?_ (fun hHeld=>?_)
  ·exact GS9.out
  clear hK K
  (try simp only [Act.put,sA,sB,sC])
  refine ta 5 ⟨some 9,.assign (.tmp 52),55,"l10_checkpoint.go:182",#[⟨3,.data⟩,⟨4,.chain⟩,⟨0,.phase⟩,⟨1,.phase⟩,⟨2,.phase⟩,⟨3,.phase⟩,⟨4,.phase⟩],none⟩ ?v15 ?h15 hHeld ?r15
  case h15=>intro wz hz;(try dsimp only at hz);go_simp;try (with_reducible rfl)
  simp only [Act.put,sA,sB,sC]
  refine wpAnyH_done (by kernel_rfl) ?_ _
  refine NoPanic.normal ?_
  clear GS9
  go_wp2_with fail
  generalize ((((w3.setCell ⟨y,0,none⟩ (.int .i64 0)).setCell ⟨y,1,none⟩ (.int .i64 0)).setCell ⟨y,2,none⟩ (.string ⟨#[]⟩)).setCell ⟨y,3,none⟩ (.slice none 0 0))=wf at AF RF ⊢
  have d0:=(zAA AF 0 (x:=.int .i64 0) rfl).1
  have d1:=(zAA AF 1 (x:=.int .i64 0) rfl).1
  have d2:=(zAA AF 2 (x:=.string ⟨#[]⟩) rfl).1
  have d3:=(zAA AF 3 (x:=.slice none 0 0) rfl).1
  refine bodyPost_ret (v:=.tuple #[.agg #[.int .i64 0,.int .i64 0,.string ⟨#[]⟩,.slice none 0 0],.iface 82 (.agg #[.string ⟨#[118,111,116,101,114,115]⟩,.iface 218 (.pointer (some (A 6)))])]) (by simp [results,Tryz.results16,go_sem,d0,d1,d2,d3]) rfl ?_
  rw [HM.out.c,HM.out.q,HM.out.z,HM.out.r,HM.out.l]
  exact ⟨_,_,rfl,.inr ⟨_,6,by decide,rfl,rfl⟩,OwnV.nil _ _,RF.out.1.drew⟩
 case true =>
 rw [if_pos hq] at hMS1
 rw [hq] at HRQ3
 have HM0:=ms_yes hMS1
 have HUN3:=HUN.out w3 v2 ht (HY0.out _ B3.out).2 RB3.out
 have HWV3:Hid (∀ W,Below w.heap.size w W→Calls Tryz.prog 36 #[stV sq (tN tm nx ls ss) (tR tm nx ls ss) (.slice none 0 0),.slice a fs.length cap] W fun e w'=>∃ v,e=.returned (stV sq (tN tm nx ls ss) (tR tm nx ls ss) v)∧OwnV w' w.heap.size v (vtTo sq (tN tm nx ls ss) (tR tm nx ls ss) fs fs.length)∧Below W.heap.size W w'):=fun W hW=>HWV.out W ht hq (by omega) hW
 have HLV:Hid ((vtTo sq (tN tm nx ls ss) (tR tm nx ls ss) fs fs.length).length=fs.length):=vtTo_len (Nat.le_refl _)
 clear hMS1 hq ht HUN HWV HRQ RB3
 generalize vtTo sq (tN tm nx ls ss) (tR tm nx ls ss) fs fs.length=ol at HM0 HWV3 HLV
 generalize tN tm nx ls ss=sz at HM0 HUN3 HWV3
 generalize tR tm nx ls ss=rt at HM0 HUN3 HWV3
 have HM:Hid (Ms n sq tm nx ls ss fs 0 sq sz rt ol):=HM0
 clear HM0
 unfold stV at HUN3 HWV3
 go_wp2_with (first | (go_at_call 25;refine HRQ3.mono ?_;rintro e w4 ⟨rfl,rfl⟩) | fail)
 refine HUN3.mono ?_
 rintro e w5 ⟨rfl,b5⟩
 have B5:Hid (Below wb.heap.size wb w5):=B3.out.trans (b5.mono B3.out.size)
 clear b5 B3 HUN3 HRQ3
 go_wp2_with fail
 refine (HWV3.out _ (HY0.out _ B5.out).2).mono ?_
 rintro e w6 ⟨v6,rfl,o6,b6⟩
 have B6:Hid (Below wb.heap.size wb w6):=B5.out.trans (b6.mono B5.out.size)
 obtain ⟨va,vc,rfl⟩:=o6.slice
 rw [HLV.out] at o6 ⊢
 clear b6 B5 HWV3
 obtain ⟨k9,g9⟩:=HY0.out _ (B6.out)
 obtain ⟨m0,n0⟩:=zAA k9 0 (x:=.int .i64 0) rfl
 obtain ⟨m1,n1⟩:=zAA k9 1 (x:=.int .i64 0) rfl
 obtain ⟨m2,n2⟩:=zAA k9 2 (x:=.string ⟨#[]⟩) rfl
 obtain ⟨m3,n3⟩:=zAA k9 3 (x:=.slice none 0 0) rfl
 have AF:((((w6.setCell ⟨y,0,none⟩ (.int .i64 sq)).setCell ⟨y,1,none⟩ (.int .i64 sz)).setCell ⟨y,2,none⟩ (.string rt)).setCell ⟨y,3,none⟩ (.slice va fs.length vc)).heap[y]?=some (.cells #[.int .i64 sq,.int .i64 sz,.string rt,.slice va fs.length vc] 33 (0,0)):=(zAE (zAE (zAE (zAE k9 0 (.int .i64 sq)) 1 (.int .i64 sz)) 2 (.string rt)) 3 (.slice va fs.length vc))
 have RF:Hid (Below w.heap.size w ((((w6.setCell ⟨y,0,none⟩ (.int .i64 sq)).setCell ⟨y,1,none⟩ (.int .i64 sz)).setCell ⟨y,2,none⟩ (.string rt)).setCell ⟨y,3,none⟩ (.slice va fs.length vc))∧OwnV ((((w6.setCell ⟨y,0,none⟩ (.int .i64 sq)).setCell ⟨y,1,none⟩ (.int .i64 sz)).setCell ⟨y,2,none⟩ (.string rt)).setCell ⟨y,3,none⟩ (.slice va fs.length vc)) w.heap.size (.slice va fs.length vc) ol):=⟨(Below.setCell (Below.setCell (Below.setCell (Below.setCell g9 (p:=⟨y,0,none⟩) (HYL.out) (.int .i64 sq)) (p:=⟨y,1,none⟩) (HYL.out) (.int .i64 sz)) (p:=⟨y,2,none⟩) (HYL.out) (.string rt)) (p:=⟨y,3,none⟩) (HYL.out) (.slice va fs.length vc)),o6.kept (fun g hg=>((zAB (own_ne o6 k9 g hg) 3 (.slice va fs.length vc)).trans ((zAB (own_ne o6 k9 g hg) 2 (.string rt)).trans ((zAB (own_ne o6 k9 g hg) 1 (.int .i64 sz)).trans ((zAB (own_ne o6 k9 g hg) 0 (.int .i64 sq)).trans (Eq.refl w6.heap[g]?))))))⟩
 clear g9 k9
 clear o6
 go_wp2_with fail
 generalize ((((w6.setCell ⟨y,0,none⟩ (.int .i64 sq)).setCell ⟨y,1,none⟩ (.int .i64 sz)).setCell ⟨y,2,none⟩ (.string rt)).setCell ⟨y,3,none⟩ (.slice va fs.length vc))=wf at AF RF ⊢
 have d0:=(zAA AF 0 (x:=.int .i64 sq) rfl).1
 have d1:=(zAA AF 1 (x:=.int .i64 sz) rfl).1
 have d2:=(zAA AF 2 (x:=.string rt) rfl).1
 have d3:=(zAA AF 3 (x:=.slice va fs.length vc) rfl).1
 refine bodyPost_ret (v:=.tuple #[.agg #[.int .i64 sq,.int .i64 sz,.string rt,.slice va fs.length vc],.nilIface]) (by simp [results,Tryz.results16,go_sem,d0,d1,d2,d3]) rfl ?_
 rw [HM.out.c,HM.out.q,HM.out.z,HM.out.r,HM.out.l]
 exact ⟨_,_,rfl,.inl ⟨rfl,rfl⟩,RF.out.2,RF.out.1⟩
end Go.Proofs.YtakfniknkejgpaaGreatDoor.Xo
namespace Go.Proofs.YtakfniknkejgpaaGreatDoor.Xo
open Go.RowKit Sl Rg Xv
open Gt (Vo)
open Hs (stV)
open Sh (KTab KTab.below)
open Xq (RowJ RowJ.below RowJ.at)
open Tb (Lk Sn Tab RowL RowS RowL.below RowS.below tabV)
open Tp (TOK bOf zAY zAP)
open Pt (zBO Bnd zCY lsBs zCI ssBs zCA tbOut zBQ)
open Ps (zBw)
open Pu (nums zAQ nums_length)
open Sl (RowB)
open Ap (zAT)
open Tx (RowT OwnS)
open Pg (zBF cutN cutL cutC cut_ok zAt pcn)
open Py (zAy zAn zBR)
open Fz (zAU)
open Er
open Xq (qvB qv_iff isV zBZ frn okN okN_iff f_four f_small)
open Tm (zAz fOut)
open Qm (qOut inB)
open Rm (inR)
set_option maxRecDepth 100000 in
set_option maxHeartbeats 1600000 in
theorem zBx (n sq tm nx:Int) (vl vs:Value) (ls:List Lk) (ss:List Sn) (u:Value) (fs:List Int) (w:World) (A:Nat→Addr) (hL:RowL w vl ls) (hS:RowS w vs ss) (hw:∀ x ∈ ls,x.n.size≤1048576∧x.ws.length≤1048576) (hy1:ls.length≤1048576) (hy2:ss.length≤1048576) (h:RowJ w u fs) (hfl:fs.length≤1048576) (hSe:Sen w A) (hK:KTab w) (hp:9<w.heap.size) :
 Calls Tryz.prog 6 #[.int .i64 n,.int .i64 sq,tabV tm nx vl vs,u] w fun e w'=>∃ v,e=.returned (.tuple #[stV (msQ n sq tm nx ls ss fs) (msZ n sq tm nx ls ss fs) (msR n sq tm nx ls ss fs) v,.int .i64 (msC n sq tm nx ls ss fs)])∧OwnV w' w.heap.size v (msL n sq tm nx ls ss fs)∧Below w.heap.size w w':=by
 have HVT:Hid (∀ W,Below w.heap.size w W→Calls Tryz.prog 16 #[.int .i64 n,.int .i64 sq,tabV tm nx vl vs,u] W fun e w'=>∃ v er,e=.returned (.tuple #[stV (msQ n sq tm nx ls ss fs) (msZ n sq tm nx ls ss fs) (msR n sq tm nx ls ss fs) v,er])∧((msC n sq tm nx ls ss fs=0∧er=.nilIface) ∨ ∃ s j,j<8∧er=fnd s (sen (A j))∧zBA j=msC n sq tm nx ls ss fs)∧OwnV w' w.heap.size v (msL n sq tm nx ls ss fs)∧Below W.heap.size W w'):=fun W hW=>(votedTable_any n sq tm nx vl vs ls ss u fs W A (hL.below hW) (hS.below hW) hw hy1 hy2 (h.below hW) hfl (hSe.below hW) (hK.below hW hp) (Nat.lt_of_lt_of_le hp hW.size)).mono fun e w' ⟨v,er,h1,h2,h3,h4⟩=>⟨v,er,h1,h2,h3.mono hW.size,h4⟩
 have HCO:Hid (∀ W er,Below w.heap.size w W→((msC n sq tm nx ls ss fs=0∧er=.nilIface) ∨ ∃ s j,j<8∧er=fnd s (sen (A j))∧zBA j=msC n sq tm nx ls ss fs)→Calls Tryz.prog 17 #[er] W fun e w'=>e=.returned (.int .i64 (msC n sq tm nx ls ss fs))∧Below W.heap.size W w'):=fun W er hW hh=>by
  rcases hh with ⟨h1,rfl⟩ | ⟨s,j,hj,rfl,hc⟩
  ·rw [h1];exact codeOfFault_nil W
  ·rw [← hc];exact code1_any s j hj (hSe.below hW)
 obtain ⟨la,lc,rfl⟩:=Tb.RowG.slice hL
 obtain ⟨sa,sc,rfl⟩:=Tb.RowG.slice hS
 have e2:((w.alloc (.cells #[.int .i64 tm,.int .i64 nx,.slice la ls.length lc,.slice sa ss.length sc] 26)).alloc (.cells #[.int .i64 0,.int .i64 0,.string ⟨#[]⟩,.slice none 0 0] 33)).heap.size=w.heap.size+1+1:=by rw [zAN,zAN]
 have HX0:Hid (∀ W,Below ((w.alloc (.cells #[.int .i64 tm,.int .i64 nx,.slice la ls.length lc,.slice sa ss.length sc] 26)).alloc (.cells #[.int .i64 0,.int .i64 0,.string ⟨#[]⟩,.slice none 0 0] 33)).heap.size ((w.alloc (.cells #[.int .i64 tm,.int .i64 nx,.slice la ls.length lc,.slice sa ss.length sc] 26)).alloc (.cells #[.int .i64 0,.int .i64 0,.string ⟨#[]⟩,.slice none 0 0] 33)) W→(W.cell? ⟨w.heap.size,0,none⟩=some (.int .i64 tm)∧W.cell? ⟨w.heap.size,1,none⟩=some (.int .i64 nx)∧W.cell? ⟨w.heap.size,2,none⟩=some (.slice la ls.length lc)∧W.cell? ⟨w.heap.size,3,none⟩=some (.slice sa ss.length sc))):=fun W hW=>by
  have h0:W.heap[w.heap.size]?=some (.cells #[.int .i64 tm,.int .i64 nx,.slice la ls.length lc,.slice sa ss.length sc] 26):=by rw [hW.block _ (by omega),Below.heap_alloc _ _ _ (by rw [zAN];omega)];exact heap_alloc_new w _
  exact ⟨(zAA h0 0 rfl).1,(zAA h0 1 rfl).1,(zAA h0 2 rfl).1,(zAA h0 3 rfl).1⟩
 have HY0:Hid (∀ W,Below ((w.alloc (.cells #[.int .i64 tm,.int .i64 nx,.slice la ls.length lc,.slice sa ss.length sc] 26)).alloc (.cells #[.int .i64 0,.int .i64 0,.string ⟨#[]⟩,.slice none 0 0] 33)).heap.size ((w.alloc (.cells #[.int .i64 tm,.int .i64 nx,.slice la ls.length lc,.slice sa ss.length sc] 26)).alloc (.cells #[.int .i64 0,.int .i64 0,.string ⟨#[]⟩,.slice none 0 0] 33)) W→W.heap[w.heap.size+1]?=some (.cells #[.int .i64 0,.int .i64 0,.string ⟨#[]⟩,.slice none 0 0] 33)∧Below w.heap.size w W):=fun W hW=>by
  have h1:W.heap[w.heap.size+1]?=some (.cells #[.int .i64 0,.int .i64 0,.string ⟨#[]⟩,.slice none 0 0] 33):=by rw [hW.block _ (by omega)];have:=heap_alloc_new (w.alloc (.cells #[.int .i64 tm,.int .i64 nx,.slice la ls.length lc,.slice sa ss.length sc] 26)) (.cells #[.int .i64 0,.int .i64 0,.string ⟨#[]⟩,.slice none 0 0] 33);rwa [zAN] at this
  exact ⟨h1,(((Below.refl w.heap.size w).alloc (Nat.le_refl _) _).alloc (by rw [zAN];omega) _).trans (hW.mono (by omega))⟩
 have HYL0:Hid (w.heap.size≤w.heap.size+1):=Nat.le_succ _
 have HM:Hid (Ms n sq tm nx ls ss fs (msC n sq tm nx ls ss fs) (msQ n sq tm nx ls ss fs) (msZ n sq tm nx ls ss fs) (msR n sq tm nx ls ss fs) (msL n sq tm nx ls ss fs)):=⟨rfl,rfl,rfl,rfl,rfl⟩
 clear hL hS hw hy1 hy2 h hSe hK hp e2
 have HPO:∀ (e:Ending) (w':World),(∃ v,e=.returned (.tuple #[stV (msQ n sq tm nx ls ss fs) (msZ n sq tm nx ls ss fs) (msR n sq tm nx ls ss fs) v,.int .i64 (msC n sq tm nx ls ss fs)])∧OwnV w' w.heap.size v (msL n sq tm nx ls ss fs)∧Below w.heap.size w w')→(∃ v,e=.returned (.tuple #[stV (msQ n sq tm nx ls ss fs) (msZ n sq tm nx ls ss fs) (msR n sq tm nx ls ss fs) v,.int .i64 (msC n sq tm nx ls ss fs)])∧OwnV w' w.heap.size v (msL n sq tm nx ls ss fs)∧Below w.heap.size w w'):=fun _ _ h=>h
 clear HPO HM
 generalize msC n sq tm nx ls ss fs=c at HVT HCO ⊢
 generalize msQ n sq tm nx ls ss fs=q at HVT ⊢
 generalize msZ n sq tm nx ls ss fs=z at HVT ⊢
 generalize msR n sq tm nx ls ss fs=r at HVT ⊢
 generalize msL n sq tm nx ls ss fs=l at HVT ⊢
 unfold tabV stV at HVT
 unfold tabV stV
 go_enter Tryz.func6,Tryz.ntmps6
 go_upto_region 1 with fail
 generalize (w.alloc (.cells #[.int .i64 tm,.int .i64 nx,.slice la ls.length lc,.slice sa ss.length sc] 26)).alloc (.cells #[.int .i64 0,.int .i64 0,.string ⟨#[]⟩,.slice none 0 0] 33)=wb at HX0 HY0 ⊢
 obtain ⟨y,HY⟩ : ∃ y,Hid (w.heap.size+1=y):=⟨_,rfl⟩
 rw [HY.out] at HY0 HYL0 ⊢
 have HYL:Hid (w.heap.size≤y):=HYL0
 clear HYL0
 have G0:Hid (Below w.heap.size w wb):=(HY0.out _ (Below.refl _ _)).2
 obtain ⟨c0,c1,c2,c3⟩:=HX0.out _ (Below.refl _ _)
 go_wp2_with fail
 refine (HVT.out _ G0.out).mono ?_
 rintro e w1 ⟨v1,er,rfl,h1,o1,b1⟩
 have HE:Hid ((c=0∧er=.nilIface) ∨ ∃ s j,j<8∧er=fnd s (sen (A j))∧zBA j=c):=h1
 have B1:Hid (Below wb.heap.size wb w1∧OwnV w1 w.heap.size v1 l):=⟨b1,o1⟩
 obtain ⟨va,vc,rfl⟩:=o1.slice
 clear h1 b1 c0 c1 c2 c3 HVT HX0
 have HZ:Hid (∀ W,Below (w1.alloc (.cells #[.int .i64 q,.int .i64 z,.string r,.slice va l.length vc] 33)).heap.size (w1.alloc (.cells #[.int .i64 q,.int .i64 z,.string r,.slice va l.length vc] 33)) W→(fun W=>W.cell? ⟨w1.heap.size,0,none⟩=some (.int .i64 q)∧W.cell? ⟨w1.heap.size,1,none⟩=some (.int .i64 z)∧W.cell? ⟨w1.heap.size,2,none⟩=some (.string r)∧W.cell? ⟨w1.heap.size,3,none⟩=some (.slice va l.length vc)) W∧Below wb.heap.size wb W∧OwnV W w.heap.size (.slice va l.length vc) l):=fun W hW=>by
  have h0:=(hW.block w1.heap.size (by simp)).trans (heap_alloc_new w1 _)
  have b:=(zAD w1 (.cells #[.int .i64 q,.int .i64 z,.string r,.slice va l.length vc] 33)).trans (hW.mono (by simp))
  exact ⟨⟨(zAA h0 0 rfl).1,(zAA h0 1 rfl).1,(zAA h0 2 rfl).1,(zAA h0 3 rfl).1⟩,B1.out.1.trans (b.mono B1.out.1.size),B1.out.2.below b⟩
 go_upto_region 2 with fail
 generalize hzz:w1.alloc (.cells #[.int .i64 q,.int .i64 z,.string r,.slice va l.length vc] 33)=wz at HZ ⊢
 clear hzz
 have HZY:Hid (w1.heap.size ≠ y):=by show _ ≠ _;have h1:=(HY0.out wb (Below.refl _ _)).1;have h2:=(Array.getElem?_eq_some_iff.1 h1).1;have:=B1.out.1.size;omega
 generalize w1.heap.size=zb at HZ HZY ⊢
 obtain ⟨S0,Bz,_⟩:=HZ.out _ (Below.refl _ _)
 have HCO1:=HCO.out wz.drew er ((HY0.out _ Bz).2.drew) HE.out
 clear HCO HE
 have HC2:Hid (Calls Tryz.prog 17 #[er] wz.drew fun e w'=>e=.returned (.int .i64 c)∧Below wz.heap.size wz w'):=HCO1.mono fun e w' ⟨h1,h2⟩=>⟨h1,((Below.refl wz.heap.size wz).drew).trans h2⟩
 clear HCO1
 refine wp_region_noPanic ?_
 refine wp_region_held_drew (S:=(fun W=>W.cell? ⟨zb,0,none⟩=some (.int .i64 q)∧W.cell? ⟨zb,1,none⟩=some (.int .i64 z)∧W.cell? ⟨zb,2,none⟩=some (.string r)∧W.cell? ⟨zb,3,none⟩=some (.slice va l.length vc))) (by kernel_rfl) S0 (fun hHeld=>?_)
 refine ta 0 ⟨some 20,.load 33 (.tmp 10),33,"l10_checkpoint.go:164",#[],none⟩ ?v1 ?h1 hHeld ?r1
 case h1=>intro wz hz;(try dsimp only at hz);go_simp;try (with_reducible rfl)
 simp only [Act.put,sA,sB,sC]
 refine ta 1 ⟨some 21,.move (.tmp 11),55,"l10_checkpoint.go:164",#[],none⟩ ?v2 ?h2 hHeld ?r2
 case h2=>intro wz hz;(try dsimp only at hz);go_simp;try (with_reducible rfl)
 simp only [Act.put,sA,sB,sC]
 refine wpAnyH_ready (rs:=[2]) (by kernel_rfl) (by simp) ?_
 refine AllReadyH.cons (o:=⟨some 22,.call { callee:=Callee.value (Operand.func 17),args:=#[Operand.tmp 21],argTypes:=#[55] },3,"l10_checkpoint.go:164",#[⟨1,.data⟩],none⟩) rfl (fun K hK=>?_) AllReadyH.nil
 go_simp
 go_at_call 17
 refine HC2.out.mono ?_
 rintro e w3 ⟨rfl,b3⟩
 obtain ⟨S3,B3,o3⟩:=HZ.out _ b3
 try go_simp
 refine hK.out _ _ ?_ (fun hHeld=>?_)
 ·exact S3
 clear hK K
 (try simp only [Act.put,sA,sB,sC])
 obtain ⟨k9,g9⟩:=HY0.out _ (B3)
 obtain ⟨m0,n0⟩:=zAA k9 0 (x:=.int .i64 0) rfl
 obtain ⟨m1,n1⟩:=zAA k9 1 (x:=.int .i64 0) rfl
 obtain ⟨m2,n2⟩:=zAA k9 2 (x:=.string ⟨#[]⟩) rfl
 obtain ⟨m3,n3⟩:=zAA k9 3 (x:=.slice none 0 0) rfl
 have AF:((((w3.setCell ⟨y,0,none⟩ (.int .i64 q)).setCell ⟨y,1,none⟩ (.int .i64 z)).setCell ⟨y,2,none⟩ (.string r)).setCell ⟨y,3,none⟩ (.slice va l.length vc)).heap[y]?=some (.cells #[.int .i64 q,.int .i64 z,.string r,.slice va l.length vc] 33 (0,0)):=(zAE (zAE (zAE (zAE k9 0 (.int .i64 q)) 1 (.int .i64 z)) 2 (.string r)) 3 (.slice va l.length vc))
 have RF:Hid (Below w.heap.size w ((((w3.setCell ⟨y,0,none⟩ (.int .i64 q)).setCell ⟨y,1,none⟩ (.int .i64 z)).setCell ⟨y,2,none⟩ (.string r)).setCell ⟨y,3,none⟩ (.slice va l.length vc))∧OwnV ((((w3.setCell ⟨y,0,none⟩ (.int .i64 q)).setCell ⟨y,1,none⟩ (.int .i64 z)).setCell ⟨y,2,none⟩ (.string r)).setCell ⟨y,3,none⟩ (.slice va l.length vc)) w.heap.size (.slice va l.length vc) l):=⟨(Below.setCell (Below.setCell (Below.setCell (Below.setCell g9 (p:=⟨y,0,none⟩) (HYL.out) (.int .i64 q)) (p:=⟨y,1,none⟩) (HYL.out) (.int .i64 z)) (p:=⟨y,2,none⟩) (HYL.out) (.string r)) (p:=⟨y,3,none⟩) (HYL.out) (.slice va l.length vc)),o3.kept (fun g hg=>((zAB (own_ne o3 k9 g hg) 3 (.slice va l.length vc)).trans ((zAB (own_ne o3 k9 g hg) 2 (.string r)).trans ((zAB (own_ne o3 k9 g hg) 1 (.int .i64 z)).trans ((zAB (own_ne o3 k9 g hg) 0 (.int .i64 q)).trans (Eq.refl w3.heap[g]?))))))⟩
 clear g9 k9
 have S9:Hid ((fun W=>W.cell? ⟨zb,0,none⟩=some (.int .i64 q)∧W.cell? ⟨zb,1,none⟩=some (.int .i64 z)∧W.cell? ⟨zb,2,none⟩=some (.string r)∧W.cell? ⟨zb,3,none⟩=some (.slice va l.length vc)) ((((w3.setCell ⟨y,0,none⟩ (.int .i64 q)).setCell ⟨y,1,none⟩ (.int .i64 z)).setCell ⟨y,2,none⟩ (.string r)).setCell ⟨y,3,none⟩ (.slice va l.length vc))):=⟨((World.cell?_of_block (a:=⟨zb,0,none⟩) (zAB HZY.out 3 (.slice va l.length vc))).trans ((World.cell?_of_block (a:=⟨zb,0,none⟩) (zAB HZY.out 2 (.string r))).trans ((World.cell?_of_block (a:=⟨zb,0,none⟩) (zAB HZY.out 1 (.int .i64 z))).trans ((World.cell?_of_block (a:=⟨zb,0,none⟩) (zAB HZY.out 0 (.int .i64 q))).trans S3.1)))),((World.cell?_of_block (a:=⟨zb,1,none⟩) (zAB HZY.out 3 (.slice va l.length vc))).trans ((World.cell?_of_block (a:=⟨zb,1,none⟩) (zAB HZY.out 2 (.string r))).trans ((World.cell?_of_block (a:=⟨zb,1,none⟩) (zAB HZY.out 1 (.int .i64 z))).trans ((World.cell?_of_block (a:=⟨zb,1,none⟩) (zAB HZY.out 0 (.int .i64 q))).trans S3.2.1)))),((World.cell?_of_block (a:=⟨zb,2,none⟩) (zAB HZY.out 3 (.slice va l.length vc))).trans ((World.cell?_of_block (a:=⟨zb,2,none⟩) (zAB HZY.out 2 (.string r))).trans ((World.cell?_of_block (a:=⟨zb,2,none⟩) (zAB HZY.out 1 (.int .i64 z))).trans ((World.cell?_of_block (a:=⟨zb,2,none⟩) (zAB HZY.out 0 (.int .i64 q))).trans S3.2.2.1)))),((World.cell?_of_block (a:=⟨zb,3,none⟩) (zAB HZY.out 3 (.slice va l.length vc))).trans ((World.cell?_of_block (a:=⟨zb,3,none⟩) (zAB HZY.out 2 (.string r))).trans ((World.cell?_of_block (a:=⟨zb,3,none⟩) (zAB HZY.out 1 (.int .i64 z))).trans ((World.cell?_of_block (a:=⟨zb,3,none⟩) (zAB HZY.out 0 (.int .i64 q))).trans S3.2.2.2))))⟩
 refine wpAnyH_ready (rs:=[3]) (by kernel_rfl) (by simp) ?_
 refine AllReadyH.cons (o:=⟨none,.store 33 (.tmp 8) (.tmp 20),0,"l10_checkpoint.go:164",#[⟨0,.data⟩,⟨2,.chain⟩,⟨0,.phase⟩,⟨1,.textOnly .lateStores⟩,⟨2,.textOnly .lateStoresUnsure⟩],none⟩) rfl (fun K hK=>?_) AllReadyH.nil
 go_simp
 refine hK.out _ _ ?_ (fun hHeld=>?_)
 ·exact S9.out
 clear hK K
 (try simp only [Act.put,sA,sB,sC])
 refine ta 4 ⟨some 9,.assign (.tmp 22),3,"l10_checkpoint.go:164",#[⟨2,.data⟩,⟨3,.chain⟩,⟨0,.phase⟩,⟨1,.phase⟩,⟨2,.phase⟩,⟨3,.phase⟩],none⟩ ?v3 ?h3 hHeld ?r3
 case h3=>intro wz hz;(try dsimp only at hz);go_simp;try (with_reducible rfl)
 simp only [Act.put,sA,sB,sC]
 refine wpAnyH_done (by kernel_rfl) ?_ _
 refine NoPanic.normal ?_
 clear S9 S3 S0 hHeld
 go_wp2_with fail
 generalize ((((w3.setCell ⟨y,0,none⟩ (.int .i64 q)).setCell ⟨y,1,none⟩ (.int .i64 z)).setCell ⟨y,2,none⟩ (.string r)).setCell ⟨y,3,none⟩ (.slice va l.length vc))=wf at AF RF ⊢
 have d0:=(zAA AF 0 (x:=.int .i64 q) rfl).1
 have d1:=(zAA AF 1 (x:=.int .i64 z) rfl).1
 have d2:=(zAA AF 2 (x:=.string r) rfl).1
 have d3:=(zAA AF 3 (x:=.slice va l.length vc) rfl).1
 exact bodyPost_ret (v:=.tuple #[.agg #[.int .i64 q,.int .i64 z,.string r,.slice va l.length vc],.int .i64 c]) (by simp [results,Tryz.results6,go_sem,d0,d1,d2,d3]) rfl ⟨_,rfl,RF.out.2,RF.out.1⟩
end Go.Proofs.YtakfniknkejgpaaGreatDoor.Xo
namespace Go.Proofs.YtakfniknkejgpaaGreatDoor.Pw
open Go.RowKit Sl By Ap Tx Sh Ho Se Ka Pf Px Py
def szP:Nat→Nat→Nat→Nat
 | 0,_,_=>0
 | f+1,k,n=>if n=1 then 0 else if k<half n then szP f k (half n)+1 else szP f (k - half n) (n - half n)+1
theorem szP_one {f k n:Nat} (h:n=1):szP (f+1) k n=0:=if_pos h
theorem szP_left {f k n:Nat} (h:n ≠ 1) (hk:k<half n):szP (f+1) k n=szP f k (half n)+1:=by show (if _ then _ else _)=_;rw [if_neg h,if_pos hk]
theorem zCU {f k n:Nat} (h:n ≠ 1) (hk:¬ k<half n):szP (f+1) k n=szP f (k - half n) (n - half n)+1:=by show (if _ then _ else _)=_;rw [if_neg h,if_neg hk]
theorem szP_le:∀ (f k n:Nat),szP f k n≤f
 | 0,_,_=>Nat.le_refl _
 | f+1,k,n=>by
   by_cases h:n=1
   ·rw [szP_one h];omega
   ·by_cases hk:k<half n
    ·rw [szP_left h hk];have:=szP_le f k (half n);omega
    ·rw [zCU h hk];have:=szP_le f (k - half n) (n - half n);omega
def upF:Nat→ByteArray→Nat→Nat→List ByteArray→ByteArray
 | 0,h,_,_,_=>h
 | f+1,h,k,n,ps=>if n=1 then h else
     if k<half n then node (upF f h k (half n) (ps.take (ps.length - 1))) (tnth ps (ps.length - 1))
     else node (tnth ps (ps.length - 1)) (upF f h (k - half n) (n - half n) (ps.take (ps.length - 1)))
theorem upF_one {f k n:Nat} {h:ByteArray} {ps:List ByteArray} (hn:n=1):upF (f+1) h k n ps=h:=if_pos hn
theorem upF_left {f k n:Nat} {h:ByteArray} {ps:List ByteArray} (hn:n ≠ 1) (hk:k<half n):upF (f+1) h k n ps=node (upF f h k (half n) (ps.take (ps.length - 1))) (tnth ps (ps.length - 1)):=by show (if _ then _ else _)=_;rw [if_neg hn,if_pos hk]
theorem upF_right {f k n:Nat} {h:ByteArray} {ps:List ByteArray} (hn:n ≠ 1) (hk:¬ k<half n):upF (f+1) h k n ps=node (tnth ps (ps.length - 1)) (upF f h (k - half n) (n - half n) (ps.take (ps.length - 1))):=by show (if _ then _ else _)=_;rw [if_neg hn,if_neg hk]
set_option maxRecDepth 100000 in
set_option maxHeartbeats 800000 in
theorem zCe:∀ (f k n:Nat) (w:World),k<n→n≤f→f≤64 →
 Calls Tryz.prog 101 #[.int .i64 k,.int .i64 n] w fun e w'=>e=.returned (.int .i64 (szP f k n))∧w=w'
 | 0,k,n,w,h1,h2,_=>by omega
 | f+1,k,n,w,h1,h2,hf=>by
   by_cases hone:n=1
   ·have HE:Hid (szP (f+1) k n=0):=szP_one hone
    rw [HE.out]
    subst hone
    clear HE h2 hf
    go_enter Tryz.func101,Tryz.ntmps101
    go_wp2_with fail
    go_ret
    exact ⟨rfl,rfl⟩
   ·obtain ⟨q1,q2,q3⟩:=half_lt (show 2≤n by omega)
    have HF:Hid (Calls Tryz.prog 47 #[.int .i64 n] w fun e w'=>e=.returned (.int .i64 (half n))∧w=w'):=forkOf_any n w (by omega) (by omega)
    have hn1:((n:Int) == 1)=false:=by rw [beq_eq_false_iff_ne];omega
    by_cases hk:k<half n
    ·have HE:Hid (szP (f+1) k n=szP f k (half n)+1):=szP_left hone hk
     have HL:Hid (Calls Tryz.prog 101 #[.int .i64 k,.int .i64 (half n)] w fun e w'=>e=.returned (.int .i64 (szP f k (half n)))∧w=w'):=zCe f k (half n) w hk (by omega) (by omega)
     have hz:=szP_le f k (half n)
     rw [HE.out]
     generalize szP f k (half n)=z at HL hz
     generalize half n=m at q1 q2 q3 HF HL hk
     have p0:(k:Int)<(m:Int):=by omega
     clear HE h2 hone
     go_enter Tryz.func101,Tryz.ntmps101
     go_wp2_with fail
     refine HF.out.mono ?_
     rintro e w1 ⟨rfl,rfl⟩
     go_wp2_with fail
     refine HL.out.mono ?_
     rintro e w1 ⟨rfl,rfl⟩
     go_wp2_with fail
     go_ret
     exact ⟨retI (by omega),rfl⟩
    ·have HE:Hid (szP (f+1) k n=szP f (k - half n) (n - half n)+1):=zCU hone hk
     have HL0:=zCe f (k - half n) (n - half n) w (by omega) (by omega) (by omega)
     rw [show ((k - half n:Nat):Int)=(k:Int) - (half n:Int) by omega,show ((n - half n:Nat):Int)=(n:Int) - (half n:Int) by omega] at HL0
     have HL:Hid (Calls Tryz.prog 101 #[.int .i64 ((k:Int) - (half n:Int)),.int .i64 ((n:Int) - (half n:Int))] w fun e w'=>e=.returned (.int .i64 (szP f (k - half n) (n - half n)))∧w=w'):=HL0
     have hz:=szP_le f (k - half n) (n - half n)
     rw [HE.out]
     generalize szP f (k - half n) (n - half n)=z at HL hz
     generalize half n=m at q1 q2 q3 HF HL hk
     have p0:¬ (k:Int)<(m:Int):=by omega
     have w1:IntKind.i64.wrap ((k:Int) - (m:Int))=(k:Int) - (m:Int):=by rw [IntKind.wrap_i64];omega
     have w2:IntKind.i64.wrap ((n:Int) - (m:Int))=(n:Int) - (m:Int):=by rw [IntKind.wrap_i64];omega
     have w3:wrap64 ((k:Int) - (m:Int))=(k:Int) - (m:Int):=by unfold wrap64;omega
     have w4:wrap64 ((n:Int) - (m:Int))=(n:Int) - (m:Int):=by unfold wrap64;omega
     clear HE h2 hone HL0
     go_enter Tryz.func101,Tryz.ntmps101
     go_wp2_with fail
     refine HF.out.mono ?_
     rintro e w1 ⟨rfl,rfl⟩
     go_wp2_with fail
     refine HL.out.mono ?_
     rintro e w1 ⟨rfl,rfl⟩
     go_wp2_with fail
     go_ret
     exact ⟨retI (by omega),rfl⟩
end Go.Proofs.YtakfniknkejgpaaGreatDoor.Pw
