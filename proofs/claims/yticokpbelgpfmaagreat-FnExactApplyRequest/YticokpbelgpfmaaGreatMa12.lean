/- Texts put together: Jd, Ea, Tm. -/
import Derived.Test.YticokpbelgpfmaaGreatMa11
namespace Go.Proofs.YticokpbelgpfmaaGreat.Jd
open Go.RowKit By Ap Tb Tw Mw Wa Bk Tp Da Ja Jb Jc
open Lo (LkA uV clL OwnL zAG zAK Apart zAP)
open Tx (zAA zAC zAE zAJ zAD)
section
variable {w0 w:World} {B p bL bS:Nat} {T:Tab} {ps:List LkA}
theorem frL_nil {tm nx:Int} {y:Lk} (h:y.ws=[]):frL tm nx y = { y with h:=-1,e:=0 }∧frN nx y=nx:=by unfold frL frN;rw [h];exact ⟨rfl,rfl⟩
theorem frL_cons {tm nx:Int} {y:Lk} {z:Wt} {r:List Wt} (h:y.ws=z :: r):frL tm nx y=grL tm nx { y with ws:=r } z.c z.l∧frN nx y=nx+1:=by unfold frL frN;rw [h];exact ⟨rfl,rfl⟩
set_option maxRecDepth 100000 in
set_option maxHeartbeats 3200000 in
theorem free_any (h:BK w0 w B p bL bS T ps) (x:Lk) (ua:Option Addr) (uc:Nat) (hw:OwnO w B (.slice ua x.ws.length uc) x.ws) (hle:∀ z ∈ x.ws,0≤z.l∧z.l≤1000) (ht0:0≤T.tm) (ht1:T.tm≤1000000000) (hn0:1≤T.nx) (hn1:T.nx≤999999) (hcap:x.ws.length≤1000) :
 Calls Tryz.prog 105 #[.pointer (some ⟨p,0,none⟩),lkV x (.slice ua x.ws.length uc)] w fun e w'=>∃ ua' uc',e=.returned (lkV (frL T.tm T.nx x) (.slice ua' (frL T.tm T.nx x).ws.length uc'))∧OwnO w' B (.slice ua' (frL T.tm T.nx x).ws.length uc') (frL T.tm T.nx x).ws∧Value.ownBlock (.slice ua' (frL T.tm T.nx x).ws.length uc')=Value.ownBlock (.slice ua x.ws.length uc)∧BK w0 w' B p bL bS { T with nx:=frN T.nx x } ps∧Bx p w w':=by
 obtain ⟨xn,xt,xh,xe,ws⟩:=x
 dsimp only at hw hle hcap ⊢
 have HH:Hid (BK w0 w B p bL bS T ps):=h
 have HO:Hid (OwnO w B (.slice ua ws.length uc) ws):=hw
 have HLE:Hid (∀ z ∈ ws,0≤z.l∧z.l≤1000):=hle
 clear h hw hle
 unfold lkV
 cases ws with
 | nil =>
   have HF:Hid (frL T.tm T.nx ⟨xn,xt,xh,xe,[]⟩=⟨xn,xt,-1,0,[]⟩∧frN T.nx ⟨xn,xt,xh,xe,[]⟩=T.nx):=frL_nil rfl
   rw [HF.out.1,HF.out.2]
   dsimp only [List.length_nil] at HO ⊢
   have HB:Hid (Below w.heap.size w ((w.alloc (.cells #[.string xn,.int .i64 xt,.int .i64 xh,.int .i64 xe,.slice ua 0 uc] 45)).alloc (.cells #[.string ⟨#[]⟩,.int .i64 0,.int .i64 0,.int .i64 0,.slice none 0 0] 45))∧((w.alloc (.cells #[.string xn,.int .i64 xt,.int .i64 xh,.int .i64 xe,.slice ua 0 uc] 45)).alloc (.cells #[.string ⟨#[]⟩,.int .i64 0,.int .i64 0,.int .i64 0,.slice none 0 0] 45)).heap[w.heap.size]?=some (.cells #[.string xn,.int .i64 xt,.int .i64 xh,.int .i64 xe,.slice ua 0 uc] 45 (0,0))∧((w.alloc (.cells #[.string xn,.int .i64 xt,.int .i64 xh,.int .i64 xe,.slice ua 0 uc] 45)).alloc (.cells #[.string ⟨#[]⟩,.int .i64 0,.int .i64 0,.int .i64 0,.slice none 0 0] 45)).heap[w.heap.size+1]?=some (.cells #[.string ⟨#[]⟩,.int .i64 0,.int .i64 0,.int .i64 0,.slice none 0 0] 45 (0,0))) :=
    ⟨bel2 _ _ _,(zAP w _ _).1,(zAP w _ _).2⟩
   go_enter Tryz.func105,Tryz.ntmps105
   go_upto_region 1 with fail
   obtain ⟨w1,hw1⟩ : ∃ w1,((w.alloc (.cells #[.string xn,.int .i64 xt,.int .i64 xh,.int .i64 xe,.slice ua 0 uc] 45)).alloc (.cells #[.string ⟨#[]⟩,.int .i64 0,.int .i64 0,.int .i64 0,.slice none 0 0] 45))=w1:=⟨_,rfl⟩
   rw [hw1] at HB ⊢
   clear hw1
   obtain ⟨l0,lf0⟩:=zAA HB.out.2.1 0 (x:=.string xn) rfl
   obtain ⟨l1,lf1⟩:=zAA HB.out.2.1 1 (x:=.int .i64 xt) rfl
   obtain ⟨l2,lf2⟩:=zAA HB.out.2.1 2 (x:=.int .i64 xh) rfl
   obtain ⟨l3,lf3⟩:=zAA HB.out.2.1 3 (x:=.int .i64 xe) rfl
   obtain ⟨l4,lf4⟩:=zAA HB.out.2.1 4 (x:=.slice ua 0 uc) rfl
   obtain ⟨r0,rf0⟩:=zAA HB.out.2.2 0 (x:=.string ⟨#[]⟩) rfl
   obtain ⟨r1,rf1⟩:=zAA HB.out.2.2 1 (x:=.int .i64 0) rfl
   obtain ⟨r2,rf2⟩:=zAA HB.out.2.2 2 (x:=.int .i64 0) rfl
   obtain ⟨r3,rf3⟩:=zAA HB.out.2.2 3 (x:=.int .i64 0) rfl
   obtain ⟨r4,rf4⟩:=zAA HB.out.2.2 4 (x:=.slice none 0 0) rfl
   have HC:Hid (Below w.heap.size w (((((((w1.setCell ⟨w.heap.size,2,none⟩ (.int .i64 (-1))).setCell ⟨w.heap.size,3,none⟩ (.int .i64 0)).setCell ⟨w.heap.size+1,0,none⟩ (.string xn)).setCell ⟨w.heap.size+1,1,none⟩ (.int .i64 xt)).setCell ⟨w.heap.size+1,2,none⟩ (.int .i64 (-1))).setCell ⟨w.heap.size+1,3,none⟩ (.int .i64 0)).setCell ⟨w.heap.size+1,4,none⟩ (.slice ua 0 uc))∧(((((((w1.setCell ⟨w.heap.size,2,none⟩ (.int .i64 (-1))).setCell ⟨w.heap.size,3,none⟩ (.int .i64 0)).setCell ⟨w.heap.size+1,0,none⟩ (.string xn)).setCell ⟨w.heap.size+1,1,none⟩ (.int .i64 xt)).setCell ⟨w.heap.size+1,2,none⟩ (.int .i64 (-1))).setCell ⟨w.heap.size+1,3,none⟩ (.int .i64 0)).setCell ⟨w.heap.size+1,4,none⟩ (.slice ua 0 uc)).heap[w.heap.size+1]?=some (.cells #[.string xn,.int .i64 xt,.int .i64 (-1),.int .i64 0,.slice ua 0 uc] 45 (0,0))∧(((w1.setCell ⟨w.heap.size,2,none⟩ (.int .i64 (-1))).setCell ⟨w.heap.size,3,none⟩ (.int .i64 0)).heap[w.heap.size]?=some (.cells #[.string xn,.int .i64 xt,.int .i64 (-1),.int .i64 0,.slice ua 0 uc] 45 (0,0)))):=by
    obtain ⟨hb,hl,hr⟩:=HB.out
    have b1:w.heap.size≤w.heap.size+1:=Nat.le_succ _
    refine ⟨(Below.setCell (Below.setCell (Below.setCell (Below.setCell (Below.setCell (Below.setCell (Below.setCell hb (p:=⟨w.heap.size,2,none⟩) (Nat.le_refl _) (.int .i64 (-1))) (p:=⟨w.heap.size,3,none⟩) (Nat.le_refl _) (.int .i64 0)) (p:=⟨w.heap.size+1,0,none⟩) (b1) (.string xn)) (p:=⟨w.heap.size+1,1,none⟩) (b1) (.int .i64 xt)) (p:=⟨w.heap.size+1,2,none⟩) (b1) (.int .i64 (-1))) (p:=⟨w.heap.size+1,3,none⟩) (b1) (.int .i64 0)) (p:=⟨w.heap.size+1,4,none⟩) (b1) (.slice ua 0 uc)),set5 ((zAE (by omega) 3 _).trans ((zAE (by omega) 2 _).trans hr)) _ _ _ _ _,zAC (zAC hl 2 _) 3 _⟩
   go_wp2_with fail
   generalize (((((((w1.setCell ⟨w.heap.size,2,none⟩ (.int .i64 (-1))).setCell ⟨w.heap.size,3,none⟩ (.int .i64 0)).setCell ⟨w.heap.size+1,0,none⟩ (.string xn)).setCell ⟨w.heap.size+1,1,none⟩ (.int .i64 xt)).setCell ⟨w.heap.size+1,2,none⟩ (.int .i64 (-1))).setCell ⟨w.heap.size+1,3,none⟩ (.int .i64 0)).setCell ⟨w.heap.size+1,4,none⟩ (.slice ua 0 uc))=wf at HC ⊢
   have d0:=(zAA HC.out.2.1 0 (x:=.string xn) rfl).1
   have d1:=(zAA HC.out.2.1 1 (x:=.int .i64 xt) rfl).1
   have d2:=(zAA HC.out.2.1 2 (x:=.int .i64 (-1)) rfl).1
   have d3:=(zAA HC.out.2.1 3 (x:=.int .i64 0) rfl).1
   have d4:=(zAA HC.out.2.1 4 (x:=.slice ua 0 uc) rfl).1
   exact bodyPost_ret (v:=.agg #[.string xn,.int .i64 xt,.int .i64 (-1),.int .i64 0,.slice ua 0 uc]) (by simp [results,Tryz.results105,go_sem,d0,d1,d2,d3,d4]) rfl ⟨ua,uc,rfl,HO.out.below HC.out.1,rfl,HH.out.up HC.out.1,Bx.of_below HC.out.1⟩
 | cons z r =>
   have HF:Hid (frL T.tm T.nx ⟨xn,xt,xh,xe,z :: r⟩=grL T.tm T.nx ⟨xn,xt,xh,xe,r⟩ z.c z.l∧frN T.nx ⟨xn,xt,xh,xe,z :: r⟩=T.nx+1):=frL_cons rfl
   rw [HF.out.1,HF.out.2]
   dsimp only [List.length_cons] at HO hcap ⊢
   have HZ:Hid (0≤z.l∧z.l≤1000):=HLE.out z (List.mem_cons_self ..)
   obtain ⟨g,o,HG,HR0,HR1⟩ : ∃ g o,ua=some ⟨g,o,none⟩∧w.cell? ⟨g,o,none⟩=some (.int .i64 z.c)∧w.cell? ⟨g,o+1,none⟩=some (.int .i64 z.l):=by
    have hr:=HO.out.row
    obtain ⟨b,off,hab,_,c0,c1⟩:=RowG.at hr rfl (i:=0) (x:=z) rfl
    exact ⟨b,off,hab,by simpa using c0,by simpa using c1⟩
   subst HG
   have HB:Hid (Below w.heap.size w ((w.alloc (.cells #[.string xn,.int .i64 xt,.int .i64 xh,.int .i64 xe,.slice (some ⟨g,o,none⟩) (r.length+1) uc] 45)).alloc (.cells #[.string ⟨#[]⟩,.int .i64 0,.int .i64 0,.int .i64 0,.slice none 0 0] 45))∧((w.alloc (.cells #[.string xn,.int .i64 xt,.int .i64 xh,.int .i64 xe,.slice (some ⟨g,o,none⟩) (r.length+1) uc] 45)).alloc (.cells #[.string ⟨#[]⟩,.int .i64 0,.int .i64 0,.int .i64 0,.slice none 0 0] 45)).heap[w.heap.size]?=some (.cells #[.string xn,.int .i64 xt,.int .i64 xh,.int .i64 xe,.slice (some ⟨g,o,none⟩) (r.length+1) uc] 45 (0,0))∧((w.alloc (.cells #[.string xn,.int .i64 xt,.int .i64 xh,.int .i64 xe,.slice (some ⟨g,o,none⟩) (r.length+1) uc] 45)).alloc (.cells #[.string ⟨#[]⟩,.int .i64 0,.int .i64 0,.int .i64 0,.slice none 0 0] 45)).heap[w.heap.size+1]?=some (.cells #[.string ⟨#[]⟩,.int .i64 0,.int .i64 0,.int .i64 0,.slice none 0 0] 45 (0,0))∧((w.alloc (.cells #[.string xn,.int .i64 xt,.int .i64 xh,.int .i64 xe,.slice (some ⟨g,o,none⟩) (r.length+1) uc] 45)).alloc (.cells #[.string ⟨#[]⟩,.int .i64 0,.int .i64 0,.int .i64 0,.slice none 0 0] 45)).heap.size=w.heap.size+1+1) :=
    ⟨bel2 _ _ _,(zAP w _ _).1,(zAP w _ _).2,by rw [Bk.zAL,Bk.zAL]⟩
   have HG:Hid (g<w.heap.size):=(HO.out.lt g rfl).2
   go_enter Tryz.func105,Tryz.ntmps105
   go_upto_region 1 with fail
   obtain ⟨w1,hw1⟩ : ∃ w1,((w.alloc (.cells #[.string xn,.int .i64 xt,.int .i64 xh,.int .i64 xe,.slice (some ⟨g,o,none⟩) (r.length+1) uc] 45)).alloc (.cells #[.string ⟨#[]⟩,.int .i64 0,.int .i64 0,.int .i64 0,.slice none 0 0] 45))=w1:=⟨_,rfl⟩
   rw [hw1] at HB ⊢
   clear hw1
   have HS:Hid (∀ q,q<w.heap.size→w1.heap[q]?=w.heap[q]?):=HB.out.1.block
   have R0:=(World.cell?_of_block (a:=⟨g,o,none⟩) (HS.out g HG.out)).trans HR0
   have R1:=(World.cell?_of_block (a:=⟨g,o+1,none⟩) (HS.out g HG.out)).trans HR1
   have l4:=(zAA HB.out.2.1 4 (x:=.slice (some ⟨g,o,none⟩) (r.length+1) uc) rfl).1
   have hne:¬ ((r.length:Int)+1=0):=by omega
   go_upto_region 5 with fail
   obtain ⟨y,HY⟩ : ∃ y,Hid (w1.heap.size=y):=⟨_,rfl⟩
   rw [HY.out]
   have HD:Hid (Below w.heap.size w (w1.alloc (.cells #[.int .i64 z.c,.int .i64 z.l] 153))∧(w1.alloc (.cells #[.int .i64 z.c,.int .i64 z.l] 153)).heap[w.heap.size]?=some (.cells #[.string xn,.int .i64 xt,.int .i64 xh,.int .i64 xe,.slice (some ⟨g,o,none⟩) (r.length+1) uc] 45 (0,0))∧(w1.alloc (.cells #[.int .i64 z.c,.int .i64 z.l] 153)).heap[w.heap.size+1]?=some (.cells #[.string ⟨#[]⟩,.int .i64 0,.int .i64 0,.int .i64 0,.slice none 0 0] 45 (0,0))∧(w1.alloc (.cells #[.int .i64 z.c,.int .i64 z.l] 153)).heap[y]?=some (.cells #[.int .i64 z.c,.int .i64 z.l] 153 (0,0))∧y=w.heap.size+1+1):=by
    obtain ⟨hb,hl,hr,hs⟩:=HB.out
    have hy:=HY.out
    subst hy
    exact ⟨hb.alloc hb.size _,(Below.heap_alloc _ _ _ (by omega)).trans hl,(Below.heap_alloc _ _ _ (by omega)).trans hr,zAJ _ _ _,hs⟩
   clear HB HS R0 R1 l4 HR0 HR1 HY
   generalize w1.alloc (.cells #[.int .i64 z.c,.int .i64 z.l] 153)=w2 at HD ⊢
   obtain ⟨l4,m4⟩:=zAA HD.out.2.1 4 (x:=.slice (some ⟨g,o,none⟩) (r.length+1) uc) rfl
   go_upto_region 6 with fail
   obtain ⟨o',HIF,HOO⟩ : ∃ o',Hid ((if uc=1 then some (⟨g,o,none⟩ : Addr) else some ⟨g,o+2,none⟩)=some ⟨g,o',none⟩)∧Hid (o'=o+2 ∨ (o'=o∧uc=1)):=by
    by_cases h1:uc=1
    ·exact ⟨o,if_pos h1,.inr ⟨rfl,h1⟩⟩
    ·exact ⟨o+2,if_neg h1,.inl rfl⟩
   rw [HIF.out]
   have HE:Hid (Below w.heap.size w (w2.setCell ⟨w.heap.size,4,none⟩ (.slice (some ⟨g,o',none⟩) r.length (uc - 1)))∧(w2.setCell ⟨w.heap.size,4,none⟩ (.slice (some ⟨g,o',none⟩) r.length (uc - 1))).heap[w.heap.size]?=some (.cells #[.string xn,.int .i64 xt,.int .i64 xh,.int .i64 xe,.slice (some ⟨g,o',none⟩) r.length (uc - 1)] 45 (0,0))∧(w2.setCell ⟨w.heap.size,4,none⟩ (.slice (some ⟨g,o',none⟩) r.length (uc - 1))).heap[w.heap.size+1]?=some (.cells #[.string ⟨#[]⟩,.int .i64 0,.int .i64 0,.int .i64 0,.slice none 0 0] 45 (0,0))∧(w2.setCell ⟨w.heap.size,4,none⟩ (.slice (some ⟨g,o',none⟩) r.length (uc - 1))).heap[y]?=some (.cells #[.int .i64 z.c,.int .i64 z.l] 153 (0,0))∧y=w.heap.size+1+1∧OwnO (w2.setCell ⟨w.heap.size,4,none⟩ (.slice (some ⟨g,o',none⟩) r.length (uc - 1))) B (.slice (some ⟨g,o',none⟩) r.length (uc - 1)) r):=by
    obtain ⟨hb,hl,hr,hy,hs⟩:=HD.out
    have hb3:=Below.setCell hb (p:=⟨w.heap.size,4,none⟩) (Nat.le_refl _) (.slice (some ⟨g,o',none⟩) r.length (uc - 1))
    exact ⟨hb3,zAC hl 4 _,(zAE (by omega) 4 _).trans hr,(zAE (by omega) 4 _).trans hy,hs,(HO.out.tail o' HOO.out).below hb3⟩
   clear HD l4 m4 HIF HOO
   generalize (w2.setCell ⟨w.heap.size,4,none⟩ (.slice (some ⟨g,o',none⟩) r.length (uc - 1)))=w3 at HE ⊢
   have e0:=(zAA HE.out.2.1 0 (x:=.string xn) rfl).1
   have e1:=(zAA HE.out.2.1 1 (x:=.int .i64 xt) rfl).1
   have e2:=(zAA HE.out.2.1 2 (x:=.int .i64 xh) rfl).1
   have e3:=(zAA HE.out.2.1 3 (x:=.int .i64 xe) rfl).1
   have e4:=(zAA HE.out.2.1 4 (x:=.slice (some ⟨g,o',none⟩) r.length (uc - 1)) rfl).1
   have y0:=(zAA HE.out.2.2.2.1 0 (x:=.int .i64 z.c) rfl).1
   have y1:=(zAA HE.out.2.2.2.1 1 (x:=.int .i64 z.l) rfl).1
   have HGR:Calls Tryz.prog 139 #[.pointer (some ⟨p,0,none⟩),.agg #[.string xn,.int .i64 xt,.int .i64 xh,.int .i64 xe,.slice (some ⟨g,o',none⟩) r.length (uc - 1)],.int .i64 z.c,.int .i64 z.l] w3 fun e w'=>e=.returned (.agg #[.string xn,.int .i64 T.nx,.int .i64 z.c,.int .i64 (T.tm+z.l),.slice (some ⟨g,o',none⟩) r.length (uc - 1)])∧BK w0 w' B p bL bS { T with nx:=T.nx+1 } ps∧Bx p w3 w' :=
    grant_any (HH.out.up HE.out.1) ⟨xn,xt,xh,xe,r⟩ (some ⟨g,o',none⟩) r.length (uc - 1) z.c z.l ht0 ht1 hn0 hn1 HZ.out.1 HZ.out.2
   have HPL:Hid (p<w.heap.size∧B≤w.heap.size):=⟨HH.out.plt,HH.out.size⟩
   go_wp2_with (go_at_call 139;refine HGR.mono ?_;rintro e w4 ⟨rfl,hb4,hx4⟩;have H4:Hid (BK w0 w4 B p bL bS { T with nx:=T.nx+1 } ps∧Bx p w3 w4∧w4.heap[w.heap.size+1]?=some (.cells #[.string ⟨#[]⟩,.int .i64 0,.int .i64 0,.int .i64 0,.slice none 0 0] 45 (0,0))):=⟨hb4,hx4,(hx4.block _ (Array.getElem?_eq_some_iff.1 HE.out.2.2.1).1 (by have:=HPL.out;omega)).trans HE.out.2.2.1⟩;obtain ⟨r0,s0⟩:=zAA H4.out.2.2 0 (x:=.string ⟨#[]⟩) rfl;obtain ⟨r1,s1⟩:=zAA H4.out.2.2 1 (x:=.int .i64 0) rfl;obtain ⟨r2,s2⟩:=zAA H4.out.2.2 2 (x:=.int .i64 0) rfl;obtain ⟨r3,s3⟩:=zAA H4.out.2.2 3 (x:=.int .i64 0) rfl;obtain ⟨r4,s4⟩:=zAA H4.out.2.2 4 (x:=.slice none 0 0) rfl;clear hb4 hx4)
   have H5:Hid (BK w0 (((((w4.setCell ⟨w.heap.size+1,0,none⟩ (.string xn)).setCell ⟨w.heap.size+1,1,none⟩ (.int .i64 T.nx)).setCell ⟨w.heap.size+1,2,none⟩ (.int .i64 z.c)).setCell ⟨w.heap.size+1,3,none⟩ (.int .i64 (T.tm+z.l))).setCell ⟨w.heap.size+1,4,none⟩ (.slice (some ⟨g,o',none⟩) r.length (uc - 1))) B p bL bS { T with nx:=T.nx+1 } ps∧(((((w4.setCell ⟨w.heap.size+1,0,none⟩ (.string xn)).setCell ⟨w.heap.size+1,1,none⟩ (.int .i64 T.nx)).setCell ⟨w.heap.size+1,2,none⟩ (.int .i64 z.c)).setCell ⟨w.heap.size+1,3,none⟩ (.int .i64 (T.tm+z.l))).setCell ⟨w.heap.size+1,4,none⟩ (.slice (some ⟨g,o',none⟩) r.length (uc - 1))).heap[w.heap.size+1]?=some (.cells #[.string xn,.int .i64 T.nx,.int .i64 z.c,.int .i64 (T.tm+z.l),.slice (some ⟨g,o',none⟩) r.length (uc - 1)] 45 (0,0))∧Bx p w (((((w4.setCell ⟨w.heap.size+1,0,none⟩ (.string xn)).setCell ⟨w.heap.size+1,1,none⟩ (.int .i64 T.nx)).setCell ⟨w.heap.size+1,2,none⟩ (.int .i64 z.c)).setCell ⟨w.heap.size+1,3,none⟩ (.int .i64 (T.tm+z.l))).setCell ⟨w.heap.size+1,4,none⟩ (.slice (some ⟨g,o',none⟩) r.length (uc - 1)))∧OwnO (((((w4.setCell ⟨w.heap.size+1,0,none⟩ (.string xn)).setCell ⟨w.heap.size+1,1,none⟩ (.int .i64 T.nx)).setCell ⟨w.heap.size+1,2,none⟩ (.int .i64 z.c)).setCell ⟨w.heap.size+1,3,none⟩ (.int .i64 (T.tm+z.l))).setCell ⟨w.heap.size+1,4,none⟩ (.slice (some ⟨g,o',none⟩) r.length (uc - 1))) B (.slice (some ⟨g,o',none⟩) r.length (uc - 1)) r):=by
    obtain ⟨hb,hx,hr⟩:=H4.out
    have hp:=HPL.out
    have hg:=HG.out
    have hgp:g ≠ p:=fun e=>(HO.out.kind HH.out.hp (fun cs=>by intro e;cases e)) (by show some g=some p;rw [e])
    have hbel:=HE.out.1
    refine ⟨bk5 hb hr (by omega) (by omega) _ _ _ _ _,set5 hr _ _ _ _ _,⟨by have:=hx.size;have:=hbel.size;simp;omega,fun b hb1 hn=>(far5 (by omega) _ _ _ _ _).trans ((hx.block b (Nat.lt_of_lt_of_le hb1 hbel.size) hn).trans (hbel.block b hb1))⟩,HE.out.2.2.2.2.2.kept fun k hk=>?_⟩
    cases hk
    exact (far5 (show g ≠ w.heap.size+1 by omega) _ _ _ _ _).trans (hx.block g (Nat.lt_of_lt_of_le hg hbel.size) hgp)
   clear H4 HE HGR
   generalize (((((w4.setCell ⟨w.heap.size+1,0,none⟩ (.string xn)).setCell ⟨w.heap.size+1,1,none⟩ (.int .i64 T.nx)).setCell ⟨w.heap.size+1,2,none⟩ (.int .i64 z.c)).setCell ⟨w.heap.size+1,3,none⟩ (.int .i64 (T.tm+z.l))).setCell ⟨w.heap.size+1,4,none⟩ (.slice (some ⟨g,o',none⟩) r.length (uc - 1)))=wf at H5 ⊢
   have d0:=(zAA H5.out.2.1 0 (x:=.string xn) rfl).1
   have d1:=(zAA H5.out.2.1 1 (x:=.int .i64 T.nx) rfl).1
   have d2:=(zAA H5.out.2.1 2 (x:=.int .i64 z.c) rfl).1
   have d3:=(zAA H5.out.2.1 3 (x:=.int .i64 (T.tm+z.l)) rfl).1
   have d4:=(zAA H5.out.2.1 4 (x:=.slice (some ⟨g,o',none⟩) r.length (uc - 1)) rfl).1
   exact bodyPost_ret (v:=.agg #[.string xn,.int .i64 T.nx,.int .i64 z.c,.int .i64 (T.tm+z.l),.slice (some ⟨g,o',none⟩) r.length (uc - 1)]) (by simp [results,Tryz.results105,go_sem,d0,d1,d2,d3,d4]) rfl ⟨some ⟨g,o',none⟩,uc - 1,rfl,H5.out.2.2.2,rfl,H5.out.1,H5.out.2.2.1⟩
end
end Go.Proofs.YticokpbelgpfmaaGreat.Jd
namespace Go.Proofs.YticokpbelgpfmaaGreat.Ea
open Go.RowKit By Ap Tb Tw Mw Wa Tp Da
open Lo (LkA uV clL OwnL OwnL.kept OwnL.lt OwnL.below OwnL.row OwnL.slice zAG zAK Apart)
open Tx (zAA zAC zAE zAJ zAD)
structure TM (w0 w:World) (B x:Nat) (T:Tab) (v2 v3:Value) (ps:List LkA):Prop where
 hx:w.heap[x]?=some (.cells #[.int .i64 T.tm,.int .i64 T.nx,v2,v3] 30 (0,0))
 ol:OwnL w B v2 ps
 os:OwnS w B v3 T.ss
 ow:∀ p ∈ ps,OwnW w B (uV p) p.1.ws
 ap:Apart ps
 eq:ps.map (·.1)=T.ls
 bel:Below B w0 w
 b0:B≤w0.heap.size
 le:B≤x
theorem TM.size {w0 w:World} {B x:Nat} {T:Tab} {v2 v3:Value} {ps:List LkA} (h:TM w0 w B x T v2 v3 ps):B≤w.heap.size:=Nat.le_trans h.b0 h.bel.size
theorem TM.xlt {w0 w:World} {B x:Nat} {T:Tab} {v2 v3:Value} {ps:List LkA} (h:TM w0 w B x T v2 v3 ps):x<w.heap.size:=(Array.getElem?_eq_some_iff.1 h.hx).1
theorem TM.up {w0 w w':World} {B x:Nat} {T:Tab} {v2 v3:Value} {ps:List LkA} (h:TM w0 w B x T v2 v3 ps) (hb:Below w.heap.size w w'):TM w0 w' B x T v2 v3 ps :=
 ⟨(hb.block x h.xlt).trans h.hx,h.ol.below hb,h.os.below hb,fun p hp=>(h.ow p hp).below hb,h.ap,h.eq,h.bel.trans (hb.mono h.size),h.b0,h.le⟩
theorem TM.at {w0 w:World} {B x:Nat} {T:Tab} {v2 v3:Value} {ps:List LkA} (h:TM w0 w B x T v2 v3 ps) {k:Nat} {y:Lk} (hk:T.ls[k]?=some y):∃ p,ps[k]?=some p∧p.1=y:=by
 rw [← h.eq,List.getElem?_map] at hk
 obtain ⟨p,hp,e⟩:=Option.map_eq_some_iff.1 hk
 exact ⟨p,hp,e⟩
theorem TM.len {w0 w:World} {B x:Nat} {T:Tab} {v2 v3:Value} {ps:List LkA} (h:TM w0 w B x T v2 v3 ps):ps.length=T.ls.length:=by rw [← h.eq,List.length_map]
theorem TM.row {w0 w:World} {B x:Nat} {T:Tab} {v2 v3:Value} {ps:List LkA} (h:TM w0 w B x T v2 v3 ps) {k:Nat} {p:LkA} (hk:ps[k]?=some p) :
 ∃ g cap,v2=.slice (some ⟨g,0,none⟩) ps.length cap∧B≤g∧g ≠ x∧ps.length≤cap∧(∀ j u,(clL p)[j]?=some u→w.cell? ⟨g,k * 5+j,none⟩=some u∧w.frozen? ⟨g,k * 5+j,none⟩=false):=by
 have hlt:k<ps.length:=(List.getElem?_eq_some_iff.1 hk).1
 obtain ⟨hl,h1 | ⟨g,cap,cur,e,hB,hg,hc,hm,hs,htk⟩⟩:=h.ol
 ·rw [h1.2] at hlt;exact absurd hlt (by omega)
 refine ⟨g,cap,e,hB,fun hgx=>by rw [hgx] at hg;have:=h.hx;rw [hg] at this;injection this with this;injection this with _ h2 _;exact absurd h2 (by decide),hc,fun j u hj=>?_⟩
 have hj5:j<5:=(List.getElem?_eq_some_iff.1 hj).1
 have h1:=Lo.atL ps k p j hk hj5
 rw [← htk,List.getElem?_take,if_pos (by omega),hj] at h1
 refine ⟨by rw [Joins.cell_of_block hg,← Array.getElem?_toList];exact h1,by simp [World.frozen?,hg]⟩
theorem flat_set:∀ (ps:List LkA) (k j:Nat) (p q:LkA) (z:Value),ps[k]?=some p→clL q=(clL p).set j z→j<5→(ps.flatMap clL).set (k * 5+j) z=(ps.set k q).flatMap clL
 | [],k,j,p,q,z,h,_,_=>by simp at h
 | a :: r,0,j,p,q,z,h,hq,hj=>by
   simp at h;subst h
   rw [List.flatMap_cons,List.set_cons_zero,List.flatMap_cons,hq,Nat.zero_mul,Nat.zero_add,List.set_append_left _ _ (by show _<5;omega)]
 | a :: r,k+1,j,p,q,z,h,hq,hj=>by
   have h':r[k]?=some p:=by simpa using h
   rw [List.flatMap_cons,List.set_cons_succ,List.flatMap_cons,List.set_append_right _ _ (by show 5≤_;omega)]
   rw [show (k+1) * 5+j - (clL a).length=k * 5+j by show _ - 5=_;omega,flat_set r k j p q z h' hq hj]
theorem OwnL.set {w:World} {B:Nat} {g cap n:Nat} {ps:List LkA} (h:OwnL w B (.slice (some ⟨g,0,none⟩) n cap) ps) {k j:Nat} {p q:LkA} {z:Value} (hk:ps[k]?=some p) (hq:clL q=(clL p).set j z) (hj:j<5) :
 OwnL (w.setCell ⟨g,k * 5+j,none⟩ z) B (.slice (some ⟨g,0,none⟩) n cap) (ps.set k q):=by
 have hlt:k<ps.length:=(List.getElem?_eq_some_iff.1 hk).1
 obtain ⟨hl,h1 | ⟨g',cap',cur,e,hB,hg,hc,hm,hs,htk⟩⟩:=h
 ·exact absurd h1.1 (by simp)
 cases e
 refine ⟨by rw [← flat_set ps k j p q z hk hq hj,List.length_set,List.length_set];exact hl,.inr ⟨g,cap,cur.setIfInBounds (k * 5+j) z,by rw [List.length_set],hB,zAC hg _ _,by rw [List.length_set];exact hc,hm,by simpa using hs,?_⟩⟩
 rw [List.length_set,← flat_set ps k j p q z hk hq hj,← htk,Array.toList_setIfInBounds,List.take_set]
theorem map_set {ps:List LkA} {k:Nat} {q:LkA} {ls:List Lk} (h:ps.map (·.1)=ls):(ps.set k q).map (·.1)=ls.set k q.1:=by rw [List.map_set,h]
theorem TM.put {w0 w:World} {B x:Nat} {T:Tab} {v3:Value} {ps:List LkA} {g cap n:Nat} (h:TM w0 w B x T (.slice (some ⟨g,0,none⟩) n cap) v3 ps) {k j:Nat} {p q:LkA} {z:Value} (hk:ps[k]?=some p) (hq:clL q=(clL p).set j z) (hj:j<5) (hw:OwnW w B (uV q) q.1.ws) (ha:Apart (ps.set k q)) (hg:B≤g) :
 TM w0 (w.setCell ⟨g,k * 5+j,none⟩ z) B x { T with ls:=T.ls.set k q.1 } (.slice (some ⟨g,0,none⟩) n cap) v3 (ps.set k q):=by
 obtain ⟨cl,hcl⟩:=zAG h.ol (g:=g) rfl
 have far:∀ (u:Value) (ws:List Wt),OwnW w B u ws→OwnW (w.setCell ⟨g,k * 5+j,none⟩ z) B u ws:=fun u ws hu=>hu.kept (fun g' hg'=>by
  obtain ⟨c1,h1⟩:=zAG hu hg'
  exact zAE (zAK h1 hcl (by decide)) _ _)
 refine ⟨(zAE (zAK h.hx hcl (by decide)) _ _).trans h.hx,OwnL.set h.ol hk hq hj,h.os.kept (fun g' hg'=>?_),fun a ha'=>?_,ha,map_set h.eq,Below.setCell h.bel (p:=⟨g,_,none⟩) hg z,h.b0,h.le⟩
 ·obtain ⟨c1,h1⟩:=zAG h.os hg'
  exact zAE (zAK h1 hcl (by decide)) _ _
 ·rcases List.mem_or_eq_of_mem_set ha' with ha' | rfl
  ·exact far _ _ (h.ow a ha')
  ·exact far _ _ hw
theorem TM.box {w0 w:World} {B x:Nat} {T T':Tab} {v2 v3:Value} {ps:List LkA} (h:TM w0 w B x T v2 v3 ps) (i:Nat) (z:Value) (hs:T'.ss=T.ss) (hl:T'.ls=T.ls) (hz:(#[.int .i64 T.tm,.int .i64 T.nx,v2,v3]:Array Value).setIfInBounds i z=#[.int .i64 T'.tm,.int .i64 T'.nx,v2,v3]) :
 TM w0 (w.setCell ⟨x,i,none⟩ z) B x T' v2 v3 ps:=by
 refine ⟨by rw [zAC h.hx,hz],h.ol.kept (fun g hg=>?_),hs ▸ (h.os.kept (fun g hg=>by obtain ⟨c1,h1⟩:=zAG h.os hg;exact zAE (zAK h1 h.hx (by decide)) _ _)),fun p hp=>(h.ow p hp).kept (fun g hg=>?_),h.ap,by rw [hl];exact h.eq,Below.setCell h.bel (p:=⟨x,_,none⟩) h.le z,h.b0,h.le⟩
 ·obtain ⟨c1,h1⟩:=zAG h.ol hg
  exact zAE (zAK h1 h.hx (by decide)) _ _
 ·obtain ⟨c1,h1⟩:=zAG (h.ow p hp) hg
  exact zAE (zAK h1 h.hx (by decide)) _ _
def Oth (w w':World):Prop:=∀ (b:Nat) (cs:Array Value) (e:TypeId),w.heap[b]?=some (.cells cs e (0,0))→e ≠ 30→e ≠ 45→e ≠ 153→e ≠ 116→w'.heap[b]?=some (.cells cs e (0,0))
theorem Oth.trans {w w1 w2:World} (h:Oth w w1) (g:Oth w1 w2):Oth w w2:=fun b cs e hb h1 h2 h3 h4=>g b cs e (h b cs e hb h1 h2 h3 h4) h1 h2 h3 h4
theorem Oth.of_below {w w':World} (h:Below w.heap.size w w'):Oth w w':=fun b _ _ hb _ _ _ _=>(h.block b (Array.getElem?_eq_some_iff.1 hb).1).trans hb
theorem Oth.drew {w w':World} (h:Oth w w'):Oth w w'.drew:=h
theorem TM.othL {w0 w:World} {B x:Nat} {T:Tab} {v3:Value} {ps:List LkA} {g cap n:Nat} (h:TM w0 w B x T (.slice (some ⟨g,0,none⟩) n cap) v3 ps) (i:Nat) (z:Value):Oth w (w.setCell ⟨g,i,none⟩ z):=fun _ _ _ hb _ h2 _ _=>by
 obtain ⟨cl,hcl⟩:=zAG h.ol (g:=g) rfl
 exact (zAE (zAK hb hcl h2) _ _).trans hb
theorem TM.othX {w0 w:World} {B x:Nat} {T:Tab} {v2 v3:Value} {ps:List LkA} (h:TM w0 w B x T v2 v3 ps) (i:Nat) (z:Value):Oth w (w.setCell ⟨x,i,none⟩ z):=fun _ _ _ hb h1 _ _ _=>(zAE (zAK hb h.hx h1) _ _).trans hb
theorem TM.far {w0 w:World} {B x:Nat} {T:Tab} {v2 v3:Value} {ps:List LkA} (h:TM w0 w B x T v2 v3 ps) {r:Nat} {cs:Array Value} {e:TypeId} (hr:w.heap[r]?=some (.cells cs e (0,0))) (h1:e ≠ 30) (h2:e ≠ 45) (h3:e ≠ 153) (h4:e ≠ 116) (hB:B≤r) (i:Nat) (z:Value):TM w0 (w.setCell ⟨r,i,none⟩ z) B x T v2 v3 ps:=by
 refine ⟨(zAE (zAK h.hx hr (Ne.symm h1)) _ _).trans h.hx,h.ol.kept (fun g hg=>?_),h.os.kept (fun g hg=>?_),fun p hp=>(h.ow p hp).kept (fun g hg=>?_),h.ap,h.eq,Below.setCell h.bel (p:=⟨r,_,none⟩) hB z,h.b0,h.le⟩
 ·obtain ⟨c1,hc⟩:=zAG h.ol hg
  exact zAE (zAK hc hr (Ne.symm h2)) _ _
 ·obtain ⟨c1,hc⟩:=zAG h.os hg
  exact zAE (zAK hc hr (Ne.symm h4)) _ _
 ·obtain ⟨c1,hc⟩:=zAG (h.ow p hp) hg
  exact zAE (zAK hc hr (Ne.symm h3)) _ _
end Go.Proofs.YticokpbelgpfmaaGreat.Ea
namespace Go.Proofs.YticokpbelgpfmaaGreat.Tm
open Go.RowKit
def adT (a b:Int):Int:=min (max a 0+max b 0) 9223372036854775807
theorem ret_i {a b:Int} (h:a=b):Ending.returned (.int .i64 a)=.returned (.int .i64 b):=by rw [h]
set_option maxRecDepth 100000 in
set_option maxHeartbeats 400000 in
theorem specAddTime_any (a b:Int) (w:World) (ha : -9223372036854775808≤a∧a≤9223372036854775807) (hb : -9223372036854775808≤b∧b≤9223372036854775807) :
 Calls Tryz.prog 134 #[.int .i64 a,.int .i64 b] w fun e w'=>e=.returned (.int .i64 (adT a b))∧w'=w:=by
 go_enter Tryz.func134,Tryz.ntmps134
 go_wp2_with fail
 all_goals (go_ret;exact ⟨ret_i (by unfold adT;omega),rfl⟩)
end Go.Proofs.YticokpbelgpfmaaGreat.Tm
