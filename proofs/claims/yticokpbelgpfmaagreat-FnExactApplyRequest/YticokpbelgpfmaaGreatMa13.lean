/- Texts put together: Eb, Lo, Ec. -/
import Derived.Test.YticokpbelgpfmaaGreatMa12
namespace Go.Proofs.YticokpbelgpfmaaGreat.Ea
open Go.RowKit By Ap Tb Tw Mw Wa Tp Da
open Lo (LkA uV clL OwnL OwnL.kept OwnL.lt OwnL.below OwnL.row OwnL.slice zAG zAK Apart)
open Tx (zAA zAC zAE zAJ zAD)
theorem add_small {a b:Int} (h0:0≤a) (h1:a≤1000000000) (h2:0≤b) (h3:b≤1000000000):Tm.adT a b=a+b:=by unfold Tm.adT;omega
theorem zBL {α:Type} {ps:List α} {k:Nat} {p q:α} (h:ps[k]?=some p):(ps.set k q)[k]?=some q:=by rw [List.getElem?_set];simp [(List.getElem?_eq_some_iff.1 h).1]
set_option maxRecDepth 100000 in
set_option maxHeartbeats 3200000 in
theorem zBJ {w0 w:World} {B x:Nat} {T:Tab} {v2 v3:Value} {ps:List LkA} (h:TM w0 w B x T v2 v3 ps) {k:Nat} {p:LkA} (hk:ps[k]?=some p) (cl le:Int) (ht0:0≤T.tm) (ht1:T.tm≤1000000000) (hn0:1≤T.nx) (hn1:T.nx≤999999) (hle0:0≤le) (hle1:le≤1000) :
 Calls Tryz.prog 156 #[.pointer (some ⟨x,0,none⟩),.int .i64 (k:Int),.int .i64 cl,.int .i64 le] w fun e w'=>e=.returned (.tuple #[])∧TM w0 w' B x { T with nx:=T.nx+1,ls:=T.ls.set k (grL T.tm T.nx p.1 cl le) } v2 v3 (ps.set k (grL T.tm T.nx p.1 cl le,p.2))∧Oth w w':=by
 have hkl:k<ps.length:=(List.getElem?_eq_some_iff.1 hk).1
 have hkI:(k:Int)<(ps.length:Int):=by omega
 obtain ⟨g,cap,rfl,hgB,hgx,hcap,hcell⟩:=h.row hk
 obtain ⟨m2,f2⟩:=hcell 2 (.int .i64 p.1.h) rfl
 have hadd:=add_small ht0 ht1 hle0 (by omega:le≤1000000000)
 have HAD:Hid (∀ W,Calls Tryz.prog 134 #[.int .i64 T.tm,.int .i64 le] W fun e w'=>e=.returned (.int .i64 (T.tm+le))∧w'=W):=fun W=>by
  have:=Tm.specAddTime_any T.tm le W (by omega) (by omega)
  rwa [hadd] at this
 have hmin:min (1000000:Int) (T.nx+1)=T.nx+1:=by omega
 have hmin2:¬ (1000000:Int)<T.nx+1:=by omega
 -- the holder
 have H1:Hid (TM w0 (w.setCell ⟨g,k * 5+2,none⟩ (.int .i64 cl)) B x { T with ls:=T.ls.set k { p.1 with h:=cl } } (.slice (some ⟨g,0,none⟩) ps.length cap) v3 (ps.set k ({ p.1 with h:=cl },p.2))∧(ps.set k ({ p.1 with h:=cl },p.2))[k]?=some ({ p.1 with h:=cl },p.2)):=⟨h.put hk (q:=({ p.1 with h:=cl },p.2)) rfl (by decide) (h.ow p (List.mem_of_getElem? hk)) (h.ap.set hk rfl) hgB,zBL hk⟩
 have HLEN:Hid ((ps.set k (({ p.1 with h:=cl }:Lk),p.2)).length=ps.length):=List.length_set
 have x0:=(zAA h.hx 0 (x:=.int .i64 T.tm) rfl).1
 have x1:=(zAA h.hx 1 (x:=.int .i64 T.nx) rfl).1
 have x2:=(zAA h.hx 2 (x:=.slice (some ⟨g,0,none⟩) ps.length cap) rfl).1
 have HP:Hid (OwnW w B (uV p) p.1.ws):=h.ow p (List.mem_of_getElem? hk)
 have HGB:Hid (B≤g):=hgB
 have OT1:Hid (Oth w (w.setCell ⟨g,k * 5+2,none⟩ (.int .i64 cl))):=h.othL _ _
 clear h hcell hadd
 go_enter Tryz.func156,Tryz.ntmps156
 go_upto_region 1 with fail
 generalize w.setCell ⟨g,k * 5+2,none⟩ (.int .i64 cl)=w1 at H1 OT1 ⊢
 clear m2 f2 x0 x1 x2
 have x0:=(zAA H1.out.1.hx 0 (x:=.int .i64 T.tm) rfl).1
 have x1:=(zAA H1.out.1.hx 1 (x:=.int .i64 T.nx) rfl).1
 have x2:=(zAA H1.out.1.hx 2 (x:=.slice (some ⟨g,0,none⟩) ps.length cap) rfl).1
 obtain ⟨m1,f1⟩ : w1.cell? ⟨g,k * 5+1,none⟩=some (.int .i64 p.1.t)∧w1.frozen? ⟨g,k * 5+1,none⟩=false:=by
  obtain ⟨g',cap',e,_,_,_,hc⟩:=H1.out.1.row H1.out.2
  rw [HLEN.out] at e
  cases e
  exact hc 1 (.int .i64 p.1.t) rfl
 have H2:Hid (TM w0 (w1.setCell ⟨g,k * 5+1,none⟩ (.int .i64 T.nx)).drew B x { T with ls:=(T.ls.set k ({ p.1 with h:=cl }:Lk)).set k ({ p.1 with h:=cl,t:=T.nx }:Lk) } (.slice (some ⟨g,0,none⟩) ps.length cap) v3 ((ps.set k (({ p.1 with h:=cl }:Lk),p.2)).set k (({ p.1 with h:=cl,t:=T.nx }:Lk),p.2))):=(H1.out.1.put H1.out.2 (q:=(({ p.1 with h:=cl,t:=T.nx }:Lk),p.2)) rfl (by decide) (H1.out.1.ow (({ p.1 with h:=cl }:Lk),p.2) (List.mem_of_getElem? H1.out.2)) (H1.out.1.ap.set H1.out.2 rfl) HGB.out).up (Below.refl _ _).drew
 rw [List.set_set,List.set_set] at H2
 have OT2:Hid (Oth w (w1.setCell ⟨g,k * 5+1,none⟩ (.int .i64 T.nx)).drew):=OT1.out.trans (H1.out.1.othL _ _).drew
 go_region_held_law (fun W=>W.cell? ⟨x,0,none⟩=some (.int .i64 T.tm)∧W.cell? ⟨x,1,none⟩=some (.int .i64 T.nx)∧W.cell? ⟨x,2,none⟩=some (.slice (some ⟨g,0,none⟩) ps.length cap)) (first | exact ⟨x0,x1,x2⟩ | exact ⟨(zAA H2.out.hx 0 rfl).1,(zAA H2.out.hx 1 rfl).1,(zAA H2.out.hx 2 rfl).1⟩) (fail)
 all_goals
  go_upto_region 2 with fail
  clear m1 f1 x0 x1 x2 H1
  generalize (w1.setCell ⟨g,k * 5+1,none⟩ (.int .i64 T.nx)).drew=w2 at H2 OT2 ⊢
  have HL2:Hid ((ps.set k (({ p.1 with h:=cl,t:=T.nx }:Lk),p.2)).length=ps.length∧(ps.set k (({ p.1 with h:=cl,t:=T.nx }:Lk),p.2))[k]?=some (({ p.1 with h:=cl,t:=T.nx }:Lk),p.2)):=⟨List.length_set,zBL hk⟩
  have x0:=(zAA H2.out.hx 0 (x:=.int .i64 T.tm) rfl).1
  have x1:=(zAA H2.out.hx 1 (x:=.int .i64 T.nx) rfl).1
  have x2:=(zAA H2.out.hx 2 (x:=.slice (some ⟨g,0,none⟩) ps.length cap) rfl).1
  obtain ⟨m3,f3⟩ : w2.cell? ⟨g,k * 5+3,none⟩=some (.int .i64 p.1.e)∧w2.frozen? ⟨g,k * 5+3,none⟩=false:=by
   obtain ⟨g',cap',e,_,_,_,hc⟩:=H2.out.row HL2.out.2
   rw [HL2.out.1] at e
   cases e
   exact hc 3 (.int .i64 p.1.e) rfl
  have H3:Hid (TM w0 (w2.setCell ⟨g,k * 5+3,none⟩ (.int .i64 (T.tm+le))).drew B x { T with ls:=(T.ls.set k ({ p.1 with h:=cl,t:=T.nx }:Lk)).set k (grL T.tm T.nx p.1 cl le) } (.slice (some ⟨g,0,none⟩) ps.length cap) v3 ((ps.set k (({ p.1 with h:=cl,t:=T.nx }:Lk),p.2)).set k ((grL T.tm T.nx p.1 cl le),p.2))):=(H2.out.put HL2.out.2 (q:=((grL T.tm T.nx p.1 cl le),p.2)) rfl (by decide) (H2.out.ow (({ p.1 with h:=cl,t:=T.nx }:Lk),p.2) (List.mem_of_getElem? HL2.out.2)) (H2.out.ap.set HL2.out.2 rfl) HGB.out).up (Below.refl _ _).drew
  rw [List.set_set,List.set_set] at H3
  have OT3:Hid (Oth w (w2.setCell ⟨g,k * 5+3,none⟩ (.int .i64 (T.tm+le))).drew):=OT2.out.trans (H2.out.othL _ _).drew
  go_region_held_law (fun W=>W.cell? ⟨x,0,none⟩=some (.int .i64 T.tm)∧W.cell? ⟨x,1,none⟩=some (.int .i64 T.nx)∧W.cell? ⟨x,2,none⟩=some (.slice (some ⟨g,0,none⟩) ps.length cap)) (first | exact ⟨x0,x1,x2⟩ | exact ⟨(zAA H3.out.hx 0 rfl).1,(zAA H3.out.hx 1 rfl).1,(zAA H3.out.hx 2 rfl).1⟩) ((go_simp;go_at_call 134;(with_reducible refine (HAD.out _).mono ?_);rintro e w5 ⟨rfl,rfl⟩;try go_simp))
  all_goals
   go_upto_region 3 with fail
   clear m3 f3 x0 x1 x2 H2
   generalize (w2.setCell ⟨g,k * 5+3,none⟩ (.int .i64 (T.tm+le))).drew=w3 at H3 OT3 ⊢
   obtain ⟨y1,z1⟩:=zAA H3.out.hx 1 (x:=.int .i64 T.nx) rfl
   have H4:Hid (TM w0 (w3.setCell ⟨x,1,none⟩ (.int .i64 (T.nx+1))) B x { T with nx:=T.nx+1,ls:=T.ls.set k (grL T.tm T.nx p.1 cl le) } (.slice (some ⟨g,0,none⟩) ps.length cap) v3 (ps.set k ((grL T.tm T.nx p.1 cl le),p.2))):=H3.out.box 1 _ rfl rfl rfl
   have OT4:Hid (Oth w (w3.setCell ⟨x,1,none⟩ (.int .i64 (T.nx+1)))):=OT3.out.trans (H3.out.othX _ _)
   go_wp2_with fail
   go_end0
   exact ⟨rfl,H4.out,OT4.out⟩
theorem frL_nil {tm nx:Int} {y:Lk} (h:y.ws=[]):frL tm nx y = { y with h:=-1,e:=0 }∧frN nx y=nx:=by unfold frL frN;rw [h];exact ⟨rfl,rfl⟩
theorem frL_cons {tm nx:Int} {y:Lk} {a:Wt} {r:List Wt} (h:y.ws=a :: r):frL tm nx y=grL tm nx { y with ws:=r } a.c a.l∧frN nx y=nx+1:=by unfold frL frN;rw [h];exact ⟨rfl,rfl⟩
theorem row_tail {w:World} {b off cap n:Nat} {a:Wt} {r:List Wt} (h:RowW w (.slice (some ⟨b,off,none⟩) n cap) (a :: r)):RowW w (.slice (some ⟨b,off+2,none⟩) r.length (cap - 1)) r:=by
 obtain ⟨a',cap',e,h⟩:=h
 cases e
 refine ⟨_,_,rfl,?_⟩
 rcases h with h | ⟨b',off',e,hc,hlt,hx⟩
 ·cases h
 cases e
 refine .inr ⟨b,off+2,rfl,by simp at hc;omega,hlt,fun i y hi=>?_⟩
 have:=hx (i+1) y (by simpa using hi)
 rwa [show off+(i+1) * 2=off+2+i * 2 by omega] at this
def FrP (w0:World) (B x:Nat) (T:Tab) (v2 v3:Value) (ps:List LkA) (k:Nat) (p:LkA) (w':World):Prop:=∃ q:LkA,q.1=frL T.tm T.nx p.1∧TM w0 w' B x { T with nx:=frN T.nx p.1,ls:=T.ls.set k q.1 } v2 v3 (ps.set k q)
set_option maxRecDepth 100000 in
set_option maxHeartbeats 3200000 in
theorem l05Free_any {w0 w:World} {B x:Nat} {T:Tab} {v2 v3:Value} {ps:List LkA} (h:TM w0 w B x T v2 v3 ps) {k:Nat} {p:LkA} (hk:ps[k]?=some p) (ht0:0≤T.tm) (ht1:T.tm≤1000000000) (hn0:1≤T.nx) (hn1:T.nx≤999999) (hw:p.1.ws.length≤1000) (hle:∀ y ∈ p.1.ws,0≤y.l∧y.l≤1000) :
 Calls Tryz.prog 129 #[.pointer (some ⟨x,0,none⟩),.int .i64 (k:Int)] w fun e w'=>e=.returned (.tuple #[])∧FrP w0 B x T v2 v3 ps k p w'∧Oth w w':=by
 have hkl:k<ps.length:=(List.getElem?_eq_some_iff.1 hk).1
 have hkI:(k:Int)<(ps.length:Int):=by omega
 obtain ⟨g,cap,rfl,hgB,hgx,hcap,hcell⟩:=h.row hk
 have H:Hid (TM w0 w B x T (.slice (some ⟨g,0,none⟩) ps.length cap) v3 ps):=h
 have HGB:Hid (B≤g):=hgB
 have x2:=(zAA h.hx 2 (x:=.slice (some ⟨g,0,none⟩) ps.length cap) rfl).1
 obtain ⟨m4,f4⟩:=hcell 4 (uV p) rfl
 obtain ⟨m2,f2⟩:=hcell 2 (.int .i64 p.1.h) rfl
 obtain ⟨m3,f3⟩:=hcell 3 (.int .i64 p.1.e) rfl
 clear h
 cases hws:p.1.ws with
 | nil =>
   have hu:uV p=.slice p.2.1 0 p.2.2:=by unfold uV;rw [hws];rfl
   rw [hu] at m4
   have e1:=(frL_nil (tm:=T.tm) (nx:=T.nx) hws)
   have H1:Hid (TM w0 (w.setCell ⟨g,k * 5+2,none⟩ (.int .i64 (-1))) B x { T with ls:=T.ls.set k ({ p.1 with h:=-1 }:Lk) } (.slice (some ⟨g,0,none⟩) ps.length cap) v3 (ps.set k (({ p.1 with h:=-1 }:Lk),p.2))):=H.out.put hk (q:=(({ p.1 with h:=-1 }:Lk),p.2)) rfl (by decide) (H.out.ow p (List.mem_of_getElem? hk)) (H.out.ap.set hk rfl) HGB.out
   have H2:Hid (TM w0 ((w.setCell ⟨g,k * 5+2,none⟩ (.int .i64 (-1))).setCell ⟨g,k * 5+3,none⟩ (.int .i64 0)) B x { T with ls:=(T.ls.set k ({ p.1 with h:=-1 }:Lk)).set k ({ p.1 with h:=-1,e:=0 }:Lk) } (.slice (some ⟨g,0,none⟩) ps.length cap) v3 ((ps.set k (({ p.1 with h:=-1 }:Lk),p.2)).set k (({ p.1 with h:=-1,e:=0 }:Lk),p.2))):=H1.out.put (zBL hk) (q:=(({ p.1 with h:=-1,e:=0 }:Lk),p.2)) rfl (by decide) (H1.out.ow (({ p.1 with h:=-1 }:Lk),p.2) (List.mem_of_getElem? (zBL hk))) (H1.out.ap.set (zBL hk) rfl) HGB.out
   rw [List.set_set,List.set_set] at H2
   have OT:Hid (Oth w ((w.setCell ⟨g,k * 5+2,none⟩ (.int .i64 (-1))).setCell ⟨g,k * 5+3,none⟩ (.int .i64 0))):=(H.out.othL _ _).trans (H1.out.othL _ _)
   have HE:Hid (frL T.tm T.nx p.1 = { p.1 with h:=-1,e:=0 }∧frN T.nx p.1=T.nx):=e1
   clear e1 hws hu hcell hle hw
   go_enter Tryz.func129,Tryz.ntmps129
   go_wp2_with fail
   refine bodyPost_ret (results_none rfl _ _ _) rfl ?_
   refine ⟨rfl,⟨(({ p.1 with h:=-1,e:=0 }:Lk),p.2),HE.out.1.symm,?_⟩,OT.out⟩
   rw [HE.out.2]
   exact H2.out
 | cons a r =>
   obtain ⟨j0,hj0,hjz,hj1,hj2⟩:=info_parts infoW
   have HOW:Hid (OwnW w B (uV p) p.1.ws):=H.out.ow p (List.mem_of_getElem? hk)
   have hrow:RowW w (uV p) (a :: r):=hws ▸ HOW.out.row
   obtain ⟨pa,pcap,hpv⟩:=RowG.slice hrow
   rw [hpv] at m4 hrow
   obtain ⟨b,off,rfl,hbl,c0,c1⟩:=RowG.at hrow rfl (i:=0) (x:=a) rfl
   rw [Nat.zero_mul,Nat.add_zero] at c0 c1
   have hpc:r.length+1≤pcap:=by
    obtain ⟨_,_,e,hh⟩:=id hrow
    cases e
    rcases hh with hh | ⟨_,_,_,hc,_⟩
    ·cases hh
    ·exact hc
   have HT:Hid (∀ W,Below w.heap.size w W→RowW W (.slice (some ⟨b,off+2,none⟩) r.length (pcap - 1)) r):=fun W hW=>(row_tail hrow).below hW
   have HT0:Hid (∀ W,r.length=0→RowW W (.slice (some ⟨b,off,none⟩) r.length 0) r):=fun W h0=>⟨_,_,rfl,.inl (List.length_eq_zero_iff.1 h0)⟩
   have hla:=hle a (by rw [hws];exact List.mem_cons_self)
   have hrl:r.length≤1000:=by rw [hws] at hw;simp at hw;omega
   have HE:Hid (frL T.tm T.nx p.1=grL T.tm T.nx { p.1 with ws:=r } a.c a.l∧frN T.nx p.1=T.nx+1):=frL_cons hws
   have HB:Hid (TM w0 (w.alloc (.cells #[.int .i64 a.c,.int .i64 a.l] 153)) B x T (.slice (some ⟨g,0,none⟩) ps.length cap) v3 ps∧(w.alloc (.cells #[.int .i64 a.c,.int .i64 a.l] 153)).heap[w.heap.size]?=some (.cells #[.int .i64 a.c,.int .i64 a.l] 153 (0,0))∧Below w.heap.size w (w.alloc (.cells #[.int .i64 a.c,.int .i64 a.l] 153))):=⟨H.out.up (zAD _ _),zAJ _ _ _,zAD _ _⟩
   have hlen0:((r.length+1:Nat):Int)=(r.length:Int)+1:=by omega
   have hwb:(w.alloc (.cells #[.int .i64 a.c,.int .i64 a.l] 153)).cell? ⟨g,k * 5+4,none⟩=some (.slice (some ⟨b,off,none⟩) (r.length+1) pcap):=by
    rw [(zAD w _).cell (p:=⟨g,k * 5+4,none⟩) (World.block_lt_of_cell? w _ m4)]
    exact m4
   clear hws hle hw hcell hpv hrow
   go_enter Tryz.func129,Tryz.ntmps129
   go_upto_region 5 with fail
   generalize w.alloc (.cells #[.int .i64 a.c,.int .i64 a.l] 153)=wb at HB hwb ⊢
   have HT2:Hid (∀ o,RowW (wb.alloc o) (.slice (some ⟨b,off+2,none⟩) r.length (pcap - 1)) r):=fun o=>HT.out _ (HB.out.2.2.trans ((zAD wb o).mono HB.out.2.2.size))
   have OTB:Hid (Oth w wb):=Oth.of_below HB.out.2.2
   generalize w.heap.size=bw at HB ⊢
   clear m2 f2 m3 f3 m4 f4 x2 c0 c1 hbl
   have hwa:∀ o,(wb.alloc o).cell? ⟨g,k * 5+4,none⟩=some (.slice (some ⟨b,off,none⟩) (r.length+1) pcap):=fun o=>by
    rw [(zAD wb o).cell (p:=⟨g,k * 5+4,none⟩) (World.block_lt_of_cell? wb _ hwb)]
    exact hwb
   have hfz:wb.frozen? ⟨g,k * 5+4,none⟩=false:=by
    obtain ⟨g',cap',e,_,_,_,hc⟩:=HB.out.1.row hk
    cases e
    exact (hc 4 (uV p) rfl).2
   have HFZ:Hid (∀ W,TM w0 W B x T (.slice (some ⟨g,0,none⟩) ps.length cap) v3 ps→W.frozen? ⟨g,k * 5+4,none⟩=false∧∃ u,W.cell? ⟨g,k * 5+4,none⟩=some u):=fun W hW=>by
    obtain ⟨g',cap',e,_,_,_,hc⟩:=hW.row hk
    cases e
    exact ⟨(hc 4 (uV p) rfl).2,_,(hc 4 (uV p) rfl).1⟩
   by_cases hp1:pcap=1
   ·subst hp1
    obtain rfl:r=[]:=List.length_eq_zero_iff.1 (by omega)
    rw [List.length_nil,Nat.zero_add] at hwb
    simp only [List.length_nil,Nat.zero_add] at hwa
    go_upto_region 6 with (at_builtin;go_must (refine appW (by rfl) _ _ 43 (by rfl) j0 Tryz.underlying43 hj0 hjz hj1 hj2 wb.heap.size wb (wb.alloc (.cells #[] 153)) (.slice (some ⟨wb.heap.size,0,none⟩) 0 0) (.slice (some ⟨b,off,none⟩) 0 0) [] [] (by rfl) (OwnW.made _ _ (Nat.le_refl _)) (zAD _ _) (zAD wb _).size (by rfl) ⟨_,_,rfl,.inl rfl⟩ (by simp;try omega) ?_;intro v6 w6 o6 b6 _;rw [List.nil_append] at o6;obtain ⟨a6,c6,rfl⟩:=OwnW.slice o6;have T6:Hid (TM w0 w6 B x T (.slice (some ⟨g,0,none⟩) ps.length cap) v3 ps∧OwnW w6 wb.heap.size (.slice a6 0 c6) []∧Below wb.heap.size wb w6):=⟨HB.out.1.up b6,o6,b6⟩;clear o6 b6;obtain ⟨f6,u6,m6⟩:=HFZ.out _ T6.out.1;(try rw [List.length_nil])))
    have H7:Hid (TM w0 (w6.setCell ⟨g,k * 5+4,none⟩ (.slice a6 0 c6)) B x { T with ls:=T.ls.set k ({ p.1 with ws:=[] }:Lk) } (.slice (some ⟨g,0,none⟩) ps.length cap) v3 (ps.set k (({ p.1 with ws:=[] }:Lk),a6,c6))∧(w6.setCell ⟨g,k * 5+4,none⟩ (.slice a6 0 c6)).heap[bw]?=some (.cells #[.int .i64 a.c,.int .i64 a.l] 153 (0,0))):=by
     refine ⟨T6.out.1.put hk (q:=(({ p.1 with ws:=[] }:Lk),a6,c6)) rfl (by decide) (T6.out.2.1.mono HB.out.1.size) (Apart.fresh T6.out.1.ap (G:=wb.heap.size) (fun g' hg'=>(T6.out.2.1.lt g' hg').1) (fun p' hp' g' hg'=>((HB.out.1.ow p' hp').lt g' hg').2)) HGB.out,?_⟩
     have h1:=(T6.out.2.2.block bw (Array.getElem?_eq_some_iff.1 HB.out.2.1).1).trans HB.out.2.1
     obtain ⟨cl,hcl⟩:=zAG T6.out.1.ol (g:=g) rfl
     exact (zAE (zAK h1 hcl (by decide)) _ _).trans h1
    have OT7:Hid (Oth w (w6.setCell ⟨g,k * 5+4,none⟩ (.slice a6 0 c6))):=(OTB.out.trans (Oth.of_below T6.out.2.2)).trans (T6.out.1.othL _ _)
    clear f6 m6 hwb hwa hfz HFZ HT2 HT0 HT T6 HB
    generalize w6.setCell ⟨g,k * 5+4,none⟩ (.slice a6 0 c6)=w7 at H7 OT7 ⊢
    have d0:=(zAA H7.out.2 0 (x:=.int .i64 a.c) rfl).1
    have d1:=(zAA H7.out.2 1 (x:=.int .i64 a.l) rfl).1
    have HG:=zBJ H7.out.1 (zBL hk) a.c a.l ht0 ht1 hn0 hn1 hla.1 hla.2
    go_wp2_with fail
    refine HG.mono ?_
    rintro e w8 ⟨rfl,t8,ot8⟩
    have OT8:Hid (Oth w w8):=OT7.out.trans ot8
    clear ot8
    have T8:Hid (FrP w0 B x T (.slice (some ⟨g,0,none⟩) ps.length cap) v3 ps k p w8):=by
     refine ⟨(grL T.tm T.nx ({ p.1 with ws:=[] }:Lk) a.c a.l,a6,c6),HE.out.1.symm,?_⟩
     rw [HE.out.2]
     rw [List.set_set,List.set_set] at t8
     exact t8
    clear t8 d0 d1 H7
    go_wp2_with fail
    go_end0
    exact ⟨rfl,T8.out,OT8.out⟩
   ·go_upto_region 6 with (at_builtin;go_must (refine appW (by rfl) _ _ 43 (by rfl) j0 Tryz.underlying43 hj0 hjz hj1 hj2 wb.heap.size wb (wb.alloc (.cells #[] 153)) (.slice (some ⟨wb.heap.size,0,none⟩) 0 0) (.slice (some ⟨b,off+2,none⟩) r.length (pcap - 1)) [] r (by rfl) (OwnW.made _ _ (Nat.le_refl _)) (zAD _ _) (zAD wb _).size (by rfl) (HT2.out _) (by simp;try omega) ?_;intro v6 w6 o6 b6 _;rw [List.nil_append] at o6;obtain ⟨a6,c6,rfl⟩:=OwnW.slice o6;have T6:Hid (TM w0 w6 B x T (.slice (some ⟨g,0,none⟩) ps.length cap) v3 ps∧OwnW w6 wb.heap.size (.slice a6 r.length c6) r∧Below wb.heap.size wb w6):=⟨HB.out.1.up b6,o6,b6⟩;clear o6 b6;obtain ⟨f6,u6,m6⟩:=HFZ.out _ T6.out.1;(try rw [List.length_nil])))
    have H7:Hid (TM w0 (w6.setCell ⟨g,k * 5+4,none⟩ (.slice a6 r.length c6)) B x { T with ls:=T.ls.set k ({ p.1 with ws:=r }:Lk) } (.slice (some ⟨g,0,none⟩) ps.length cap) v3 (ps.set k (({ p.1 with ws:=r }:Lk),a6,c6))∧(w6.setCell ⟨g,k * 5+4,none⟩ (.slice a6 r.length c6)).heap[bw]?=some (.cells #[.int .i64 a.c,.int .i64 a.l] 153 (0,0))):=by
     refine ⟨T6.out.1.put hk (q:=(({ p.1 with ws:=r }:Lk),a6,c6)) rfl (by decide) (T6.out.2.1.mono HB.out.1.size) (Apart.fresh T6.out.1.ap (G:=wb.heap.size) (fun g' hg'=>(T6.out.2.1.lt g' hg').1) (fun p' hp' g' hg'=>((HB.out.1.ow p' hp').lt g' hg').2)) HGB.out,?_⟩
     have h1:=(T6.out.2.2.block bw (Array.getElem?_eq_some_iff.1 HB.out.2.1).1).trans HB.out.2.1
     obtain ⟨cl,hcl⟩:=zAG T6.out.1.ol (g:=g) rfl
     exact (zAE (zAK h1 hcl (by decide)) _ _).trans h1
    have OT7:Hid (Oth w (w6.setCell ⟨g,k * 5+4,none⟩ (.slice a6 r.length c6))):=(OTB.out.trans (Oth.of_below T6.out.2.2)).trans (T6.out.1.othL _ _)
    clear f6 m6 hwb hwa hfz HFZ HT2 HT0 HT T6 HB
    generalize w6.setCell ⟨g,k * 5+4,none⟩ (.slice a6 r.length c6)=w7 at H7 OT7 ⊢
    have d0:=(zAA H7.out.2 0 (x:=.int .i64 a.c) rfl).1
    have d1:=(zAA H7.out.2 1 (x:=.int .i64 a.l) rfl).1
    have HG:=zBJ H7.out.1 (zBL hk) a.c a.l ht0 ht1 hn0 hn1 hla.1 hla.2
    go_wp2_with fail
    refine HG.mono ?_
    rintro e w8 ⟨rfl,t8,ot8⟩
    have OT8:Hid (Oth w w8):=OT7.out.trans ot8
    clear ot8
    have T8:Hid (FrP w0 B x T (.slice (some ⟨g,0,none⟩) ps.length cap) v3 ps k p w8):=by
     refine ⟨(grL T.tm T.nx ({ p.1 with ws:=r }:Lk) a.c a.l,a6,c6),HE.out.1.symm,?_⟩
     rw [HE.out.2]
     rw [List.set_set,List.set_set] at t8
     exact t8
    clear t8 d0 d1 H7
    go_wp2_with fail
    go_end0
    exact ⟨rfl,T8.out,OT8.out⟩
end Go.Proofs.YticokpbelgpfmaaGreat.Ea
namespace Go.Proofs.YticokpbelgpfmaaGreat.Lo
open Go.RowKit By Ap Tb Tw Mw Wa Bk Tp
open Tx (zAA zAC zAE zAJ zAD)
set_option maxRecDepth 100000 in
set_option maxHeartbeats 6400000 in
theorem l05Own_all (tm nx:Int) (vl vs:Value) (ls:List Lk) (ss:List Sn) (w:World) (hl:RowL w vl ls) (hs:RowS w vs ss) (hw:∀ x ∈ ls,x.ws.length≤1000) (hy1:ls.length≤1000) (hy2:ss.length≤1000) :
 Calls Tryz.prog 58 #[tabV tm nx vl vs] w fun e w'=>∃ ul us ps,e=.returned (tabV tm nx ul us)∧(OwnL w' w.heap.size ul ps∧(∀ p ∈ ps,OwnW w' w.heap.size (uV p) p.1.ws)∧ps.map (·.1)=ls∧Apart ps)∧OwnS w' w.heap.size us ss∧Below w.heap.size w w':=by
 obtain ⟨la,lc,rfl⟩:=RowG.slice hl
 obtain ⟨sa,sc,rfl⟩:=RowG.slice hs
 unfold tabV
 go_enter Tryz.func58,Tryz.ntmps58
 go_upto_region 1 with fail
 have HX:Hid ((∀ W,Below ((w.alloc (.cells #[.int .i64 tm,.int .i64 nx,.slice la ls.length lc,.slice sa ss.length sc] 30)).alloc (.cells #[.int .i64 0,.int .i64 0,.slice none 0 0,.slice none 0 0] 30)).heap.size ((w.alloc (.cells #[.int .i64 tm,.int .i64 nx,.slice la ls.length lc,.slice sa ss.length sc] 30)).alloc (.cells #[.int .i64 0,.int .i64 0,.slice none 0 0,.slice none 0 0] 30)) W→W.heap[w.heap.size]?=some (.cells #[.int .i64 tm,.int .i64 nx,.slice la ls.length lc,.slice sa ss.length sc] 30 (0,0))∧W.heap[w.heap.size+1]?=some (.cells #[.int .i64 0,.int .i64 0,.slice none 0 0,.slice none 0 0] 30 (0,0))∧RowL W (.slice la ls.length lc) ls∧RowS W (.slice sa ss.length sc) ss∧Below w.heap.size w W)):=by
  intro W hW
  have k1:=zAL w (.cells #[.int .i64 tm,.int .i64 nx,.slice la ls.length lc,.slice sa ss.length sc] 30)
  have k2:=zAL (w.alloc (.cells #[.int .i64 tm,.int .i64 nx,.slice la ls.length lc,.slice sa ss.length sc] 30)) (.cells #[.int .i64 0,.int .i64 0,.slice none 0 0,.slice none 0 0] 30)
  have hb2:=(zAD w (.cells #[.int .i64 tm,.int .i64 nx,.slice la ls.length lc,.slice sa ss.length sc] 30)).alloc (by rw [k1];omega) (.cells #[.int .i64 0,.int .i64 0,.slice none 0 0,.slice none 0 0] 30)
  refine ⟨(hW.block _ (by omega)).trans ((Below.heap_alloc _ _ _ (by omega)).trans (zAJ _ _ _)),(hW.block _ (by omega)).trans ?_,(hl.below hb2).below hW,(hs.below hb2).below hW,hb2.trans (hW.mono (by omega))⟩
  have:=zAJ (w.alloc (.cells #[.int .i64 tm,.int .i64 nx,.slice la ls.length lc,.slice sa ss.length sc] 30)) #[.int .i64 0,.int .i64 0,.slice none 0 0,.slice none 0 0] 30
  rw [k1] at this
  exact this
 have HS1:Hid (((w.alloc (.cells #[.int .i64 tm,.int .i64 nx,.slice la ls.length lc,.slice sa ss.length sc] 30)).alloc (.cells #[.int .i64 0,.int .i64 0,.slice none 0 0,.slice none 0 0] 30)).heap.size=w.heap.size+2):=by
  show _=_
  rw [zAL,zAL]
 generalize (w.alloc (.cells #[.int .i64 tm,.int .i64 nx,.slice la ls.length lc,.slice sa ss.length sc] 30)).alloc (.cells #[.int .i64 0,.int .i64 0,.slice none 0 0,.slice none 0 0] 30)=w1 at HX HS1 ⊢
 have HL:Hid (RowL w (.slice la ls.length lc) ls∧RowS w (.slice sa ss.length sc) ss):=⟨hl,hs⟩
 have HW:Hid (∀ x ∈ ls,x.ws.length≤1000):=hw
 clear hl hs hw
 obtain ⟨i0,hi0,hz0,hz1,hz2⟩:=info_parts infoS
 have x0:=(zAA (HX.out w1 (Below.refl _ _)).1 0 (x:=.int .i64 tm) rfl).1
 have x1:=(zAA (HX.out w1 (Below.refl _ _)).1 1 (x:=.int .i64 nx) rfl).1
 have x3:=(zAA (HX.out w1 (Below.refl _ _)).1 3 (x:=.slice sa ss.length sc) rfl).1
 have hbl:w.heap.size<w1.heap.size:=by rw [HS1.out];omega
 have hxs:∀ W,Below w1.heap.size w1 W→RowS W (.slice sa ss.length sc) ss:=fun W hW=>(HX.out W hW).2.2.2.1
 have HK:Hid (∀ W,Below w1.heap.size w1 W→(W.cell? ⟨w.heap.size,0,none⟩=some (.int .i64 tm)∧W.cell? ⟨w.heap.size,1,none⟩=some (.int .i64 nx)∧W.cell? ⟨w.heap.size,3,none⟩=some (.slice sa ss.length sc))):=fun W hW=>⟨(zAA (HX.out W hW).1 0 rfl).1,(zAA (HX.out W hW).1 1 rfl).1,(zAA (HX.out W hW).1 3 rfl).1⟩
 go_cut [3] (fun px wx=>Fin w1 tm nx ss px wx)
 case first =>
  go_region_held_law (fun W=>W.cell? ⟨w.heap.size,0,none⟩=some (.int .i64 tm)∧W.cell? ⟨w.heap.size,1,none⟩=some (.int .i64 nx)∧W.cell? ⟨w.heap.size,3,none⟩=some (.slice sa ss.length sc)) ((refine HK.out _ ?_;repeat (first | with_reducible exact B5.out | with_reducible exact Below.refl _ _ | with_reducible refine Below.drew ?_ | with_reducible refine belA ?_ _ | (with_reducible refine belS ?_ _ _ _ (by first | omega | (have:=B5.out.size;omega))))))
   ((refine step_appS (by rfl) _ _ 28 (by rfl) Tryz.underlying28 hi0 hz0 hz1 hz2 w1 _ (.slice sa ss.length sc) ss _ (by rfl) (by rfl) (by first | exact nest1 _ _ | exact (zAP _ _ _).1 | exact (zAP _ _ _).2 | exact (zAX _ _ _ _).1 | exact (zAX _ _ _ _).2.1 | exact (zAX _ _ _ _).2.2) (by omega) (by repeat (first | with_reducible exact Below.refl _ _ | with_reducible refine Below.drew ?_ | with_reducible refine belA ?_ _)) hxs hy2 ?_;intro v5 w5 o5 b5 q5;obtain ⟨a5,k5,rfl⟩:=OwnS.slice o5;(try (have hX:=q5 (w1.heap.size) (.cells #[.int .i64 0,.int .i64 0,.slice none 0 0,.slice none 0 0] 30) (by first | exact nest1 _ _ | exact (zAP _ _ _).1 | exact (zAP _ _ _).2 | exact (zAX _ _ _ _).1 | exact (zAX _ _ _ _).2.1 | exact (zAX _ _ _ _).2.2) (by omega);obtain ⟨cX0,fX0⟩:=zAA hX 0 (x:=.int .i64 0) rfl;obtain ⟨cX1,fX1⟩:=zAA hX 1 (x:=.int .i64 0) rfl;obtain ⟨cX2,fX2⟩:=zAA hX 2 (x:=.slice none 0 0) rfl;obtain ⟨cX3,fX3⟩:=zAA hX 3 (x:=.slice none 0 0) rfl;have hXo:=fun o=>(Below.heap_alloc w5 o _ (Array.getElem?_eq_some_iff.1 hX).1).trans hX;have dX0:=fun o=>zAA (hXo o) 0 (x:=.int .i64 0) rfl;have dX1:=fun o=>zAA (hXo o) 1 (x:=.int .i64 0) rfl;have dX2:=fun o=>zAA (hXo o) 2 (x:=.slice none 0 0) rfl;have dX3:=fun o=>zAA (hXo o) 3 (x:=.slice none 0 0) rfl));(try (have hX:=q5 (w1.heap.size+1) (.cells #[.int .i64 0,.int .i64 0,.slice none 0 0,.slice none 0 0] 30) (by first | exact nest1 _ _ | exact (zAP _ _ _).1 | exact (zAP _ _ _).2 | exact (zAX _ _ _ _).1 | exact (zAX _ _ _ _).2.1 | exact (zAX _ _ _ _).2.2) (by omega);obtain ⟨cX0,fX0⟩:=zAA hX 0 (x:=.int .i64 0) rfl;obtain ⟨cX1,fX1⟩:=zAA hX 1 (x:=.int .i64 0) rfl;obtain ⟨cX2,fX2⟩:=zAA hX 2 (x:=.slice none 0 0) rfl;obtain ⟨cX3,fX3⟩:=zAA hX 3 (x:=.slice none 0 0) rfl;have hXo:=fun o=>(Below.heap_alloc w5 o _ (Array.getElem?_eq_some_iff.1 hX).1).trans hX;have dX0:=fun o=>zAA (hXo o) 0 (x:=.int .i64 0) rfl;have dX1:=fun o=>zAA (hXo o) 1 (x:=.int .i64 0) rfl;have dX2:=fun o=>zAA (hXo o) 2 (x:=.slice none 0 0) rfl;have dX3:=fun o=>zAA (hXo o) 3 (x:=.slice none 0 0) rfl));(try (have hX:=q5 (w1.heap.size+1+1) (.cells #[.int .i64 0,.int .i64 0,.slice none 0 0,.slice none 0 0] 30) (by first | exact nest1 _ _ | exact (zAP _ _ _).1 | exact (zAP _ _ _).2 | exact (zAX _ _ _ _).1 | exact (zAX _ _ _ _).2.1 | exact (zAX _ _ _ _).2.2) (by omega);obtain ⟨cX0,fX0⟩:=zAA hX 0 (x:=.int .i64 0) rfl;obtain ⟨cX1,fX1⟩:=zAA hX 1 (x:=.int .i64 0) rfl;obtain ⟨cX2,fX2⟩:=zAA hX 2 (x:=.slice none 0 0) rfl;obtain ⟨cX3,fX3⟩:=zAA hX 3 (x:=.slice none 0 0) rfl;have hXo:=fun o=>(Below.heap_alloc w5 o _ (Array.getElem?_eq_some_iff.1 hX).1).trans hX;have dX0:=fun o=>zAA (hXo o) 0 (x:=.int .i64 0) rfl;have dX1:=fun o=>zAA (hXo o) 1 (x:=.int .i64 0) rfl;have dX2:=fun o=>zAA (hXo o) 2 (x:=.slice none 0 0) rfl;have dX3:=fun o=>zAA (hXo o) 3 (x:=.slice none 0 0) rfl));(try (have hA:=q5 (w1.heap.size) (.cells #[] 45) (by first | exact nest1 _ _ | exact (zAP _ _ _).1 | exact (zAP _ _ _).2 | exact (zAX _ _ _ _).1 | exact (zAX _ _ _ _).2.1 | exact (zAX _ _ _ _).2.2) (by omega)));(try (have hA:=q5 (w1.heap.size+1) (.cells #[] 45) (by first | exact nest1 _ _ | exact (zAP _ _ _).1 | exact (zAP _ _ _).2 | exact (zAX _ _ _ _).1 | exact (zAX _ _ _ _).2.1 | exact (zAX _ _ _ _).2.2) (by omega)));(try (have hA:=q5 (w1.heap.size+1+1) (.cells #[] 45) (by first | exact nest1 _ _ | exact (zAP _ _ _).1 | exact (zAP _ _ _).2 | exact (zAX _ _ _ _).1 | exact (zAX _ _ _ _).2.1 | exact (zAX _ _ _ _).2.2) (by omega)));have B5:Hid (Below w1.heap.size w1 w5):=b5;clear q5;try go_simp))
  all_goals go_wp2_with fail
  all_goals go_meet
  all_goals first | with_reducible exact fin1 hA o5 B5.out (by omega) | with_reducible exact fin2 hX hA o5 B5.out (by omega) (by omega) | with_reducible exact fin3 o5 B5.out | with_reducible exact fin4 o5 B5.out | with_reducible exact fin5 hX o5 B5.out (by omega)
 case rest =>
  obtain ⟨x,a2,c2,a3,c3,rfl,hiv⟩:=hcut.iv
  have HI:Hid (Iv w1 wc tm nx x (.slice a2 0 c2) (.slice a3 ss.length c3) [] ss):=hiv
  obtain ⟨j0,hj0,hjz,hj1,hj2⟩:=info_parts infoW
  obtain ⟨l0,hl0,hlz,hl1,hl2⟩:=info_parts infoL
  clear hiv hcut x0 x1 x3 hxs HK hi0 hz0 hz1 hz2
  go_wp2_with fail
  go_loopw [4] (fun i wr=>∃ (k:Nat) (a2:Option Addr) (c2:Nat) (ps:List LkA),k≤ls.length∧i=.int .i64 k∧Hid (Iv w1 wr tm nx x (.slice a2 k c2) (.slice a3 ss.length c3) ps ss∧ps.map (·.1)=ls.take k)) (fun i _=>ls.length - (intOf i).toNat)
  case atStart=>exact ⟨0,a2,c2,[],by omega,rfl,HI.out,rfl⟩
  case round =>
   clear HI a2 c2
   obtain ⟨k,a2,c2,ps,hk,rfl,HO⟩:=hrel
   have x2:=(zAA (HX.out wr HO.out.1.bel).1 2 (x:=.slice la ls.length lc) rfl).1
   by_cases hlt:k<ls.length
   ·obtain ⟨z,hz⟩:=Tw.get_at hlt
    have hr:=(HX.out wr HO.out.1.bel).2.2.1
    obtain ⟨lb,off,rfl,_,u,e0,e1,e2,e3,e4,e5⟩:=RowG.at hr rfl hz
    obtain ⟨ua,uc,rfl⟩:=RowG.slice e5
    have HU:Hid (RowW wr (.slice ua z.ws.length uc) z.ws):=e5
    have HZZ:Hid (ls[k]?=some z):=hz
    have HZ:Hid (z.ws.length≤1000):=HW.out z (Tw.zAp hz)
    clear hr hz e5
    go_upto_region 6 with fail
    have H4:Hid ((wr.alloc (.cells #[.string z.n,.int .i64 z.t,.int .i64 z.h,.int .i64 z.e,.slice ua z.ws.length uc] 45)).heap[wr.heap.size]?=some (.cells #[.string z.n,.int .i64 z.t,.int .i64 z.h,.int .i64 z.e,.slice ua z.ws.length uc] 45 (0,0))∧Iv w1 (wr.alloc (.cells #[.string z.n,.int .i64 z.t,.int .i64 z.h,.int .i64 z.e,.slice ua z.ws.length uc] 45)) tm nx x (.slice a2 k c2) (.slice a3 ss.length c3) ps ss∧RowW (wr.alloc (.cells #[.string z.n,.int .i64 z.t,.int .i64 z.h,.int .i64 z.e,.slice ua z.ws.length uc] 45)) (.slice ua z.ws.length uc) z.ws∧wr.heap.size<(wr.alloc (.cells #[.string z.n,.int .i64 z.t,.int .i64 z.h,.int .i64 z.e,.slice ua z.ws.length uc] 45)).heap.size∧w1.heap.size≤wr.heap.size∧x ≠ wr.heap.size∧(Value.slice a2 k c2).ownBlock ≠ some wr.heap.size∧(Value.slice a3 ss.length c3).ownBlock ≠ some wr.heap.size∧∀ p ∈ ps,(uV p).ownBlock ≠ some wr.heap.size) :=
     ⟨zAJ _ _ _,HO.out.1.up (zAD _ _),HU.out.below (zAD _ _),by rw [zAL];omega,HO.out.1.bel.size,by have:=(Array.getElem?_eq_some_iff.1 HO.out.1.hx).1;omega,fun e=>absurd (HO.out.1.ol.lt _ e).2 (by omega),fun e=>absurd (HO.out.1.os.lt _ e).2 (by omega),fun p hp e=>absurd ((HO.out.1.ow p hp).lt _ e).2 (by omega)⟩
    have HT:Hid (ps.map (·.1)=ls.take k∧ps.length=k):=⟨HO.out.2,by rw [← List.length_map (f:=(·.1)),HO.out.2,List.length_take];omega⟩
    clear HO HU e0 e1 e2 e3 e4 x2
    generalize wr.alloc (.cells #[.string z.n,.int .i64 z.t,.int .i64 z.h,.int .i64 z.e,.slice ua z.ws.length uc] 45)=w4 at H4 ⊢
    generalize wr.heap.size=y at H4 ⊢
    have c4:=(zAA H4.out.1 4 (x:=.slice ua z.ws.length uc) rfl).1
    have d4:=fun o=>(zAA ((Below.heap_alloc w4 o y H4.out.2.2.2.1).trans H4.out.1) 4 (x:=.slice ua z.ws.length uc) rfl).1
    go_upto_region 7 with (at_builtin;go_must (refine appW (by rfl) _ _ 43 (by rfl) j0 Tryz.underlying43 hj0 hjz hj1 hj2 w4.heap.size w4 (w4.alloc (.cells #[] 153)) (.slice (some ⟨w4.heap.size,0,none⟩) 0 0) (.slice ua z.ws.length uc) [] z.ws (by rfl) (OwnW.made _ _ (Nat.le_refl _)) (zAD _ _) (by rw [zAL];omega) (by rfl) (H4.out.2.2.1.below (zAD _ _)) (by have:=HZ.out;simp;omega) ?_;intro v6 w6 o6 b6 _;rw [List.nil_append] at o6;obtain ⟨a6,k6,rfl⟩:=OwnW.slice o6;have H5:Hid (OwnW w6 w4.heap.size (.slice a6 z.ws.length k6) z.ws∧Below w4.heap.size w4 w6∧w6.heap[y]?=some (.cells #[.string z.n,.int .i64 z.t,.int .i64 z.h,.int .i64 z.e,.slice ua z.ws.length uc] 45 (0,0))):=⟨o6,b6,(b6.block y H4.out.2.2.2.1).trans H4.out.1⟩;obtain ⟨d4',f4⟩:=zAA H5.out.2.2 4 (x:=.slice ua z.ws.length uc) rfl;clear o6 b6 c4 d4))
    have H7:Hid (OwnW (w6.setCell ⟨y,4,none⟩ (.slice a6 z.ws.length k6)) w1.heap.size (uV (z,a6,k6)) z.ws∧Iv w1 (w6.setCell ⟨y,4,none⟩ (.slice a6 z.ws.length k6)) tm nx x (.slice a2 k c2) (.slice a3 ss.length c3) ps ss∧(w6.setCell ⟨y,4,none⟩ (.slice a6 z.ws.length k6)).heap[y]?=some (.cells #[.string z.n,.int .i64 z.t,.int .i64 z.h,.int .i64 z.e,.slice a6 z.ws.length k6] 45 (0,0))):=by
     obtain ⟨_,q2,_,q4,q5,q6,q7,q8,q9⟩:=H4.out
     have h5:=H5.out
     exact ⟨(h5.1.kept (fun g hg=>zAE (by have:=(h5.1.lt g hg).1;omega) _ _)).mono (by omega),(q2.up h5.2.1).far y 4 _ q5 q6 q7 q8 q9,zAC h5.2.2 4 _⟩
    have HAP:Hid (Apart (ps ++ [(z,a6,k6)])):=Apart.push H4.out.2.1.ap (G:=w4.heap.size) (fun g hg=>(H5.out.1.lt g hg).1) (fun p hp g hg=>((H4.out.2.1.ow p hp).lt g hg).2)
    clear H4 H5 d4' f4
    generalize w6.setCell ⟨y,4,none⟩ (.slice a6 z.ws.length k6)=w7 at H7 ⊢
    have g0:=(zAA H7.out.2.2 0 (x:=.string z.n) rfl).1
    have g1:=(zAA H7.out.2.2 1 (x:=.int .i64 z.t) rfl).1
    have g2:=(zAA H7.out.2.2 2 (x:=.int .i64 z.h) rfl).1
    have g3:=(zAA H7.out.2.2 3 (x:=.int .i64 z.e) rfl).1
    have g4:=(zAA H7.out.2.2 4 (x:=.slice a6 z.ws.length k6) rfl).1
    have gx:=(zAA H7.out.2.1.hx 2 (x:=.slice a2 k c2) rfl).1
    have HLN:Hid ((ps ++ [(z,a6,k6)]).length=k+1):=by show _=_;rw [List.length_append,HT.out.2];rfl
    go_wp2_with (at_builtin;go_must (refine list_lk (by rfl) _ _ 27 (by rfl) l0 Tryz.underlying27 hl0 hlz hl1 hl2 w1.heap.size w1 w7 (.slice a2 k c2) ps (z,a6,k6) (by rfl) H7.out.2.1.ol H7.out.2.1.bel H7.out.2.1.bel.size w7.heap.size (by rfl) rfl (by have:=HT.out.2;omega) ?_;intro v8 w8 o8 b8 k8;obtain ⟨a8,c8,rfl⟩:=OwnL.slice' o8 HLN.out;have I8:Hid (Iv w1 (w8.setCell ⟨x,2,none⟩ (.slice a8 (k+1) c8)) tm nx x (.slice a8 (k+1) c8) (.slice a3 ss.length c3) (ps ++ [(z,a6,k6)]) ss):=H7.out.2.1.put (z,a6,k6) H7.out.1 o8 b8 k8 HAP.out;obtain ⟨d8,f8⟩:=zAA (H7.out.2.1.kx k8) 2 (x:=.slice a2 k c2) rfl;clear o8 b8 k8))
    exact ⟨⟨k+1,a8,c8,ps ++ [(z,a6,k6)],by omega,by go_num,I8.out,by rw [List.map_append,HT.out.1,take_at HZZ.out];rfl⟩,by simp [intOf];omega⟩
   ·obtain rfl:k=ls.length:=by omega
    have H1:Hid (Iv w1 wr tm nx x (.slice a2 ls.length c2) (.slice a3 ss.length c3) ps ss∧ps.map (·.1)=ls):=⟨HO.out.1,by rw [HO.out.2,List.take_length]⟩
    have AX:Hid (wr.heap[w.heap.size+1]?=some (.cells #[.int .i64 0,.int .i64 0,.slice none 0 0,.slice none 0 0] 30 (0,0))):=(HX.out wr HO.out.1.bel).2.1
    have BW:Hid (Below w.heap.size w wr):=(HX.out wr HO.out.1.bel).2.2.2.2
    have HAF:Hid (Apart ps):=HO.out.1.ap
    clear HO
    have p0:=(zAA H1.out.1.hx 0 (x:=.int .i64 tm) rfl).1
    have p1:=(zAA H1.out.1.hx 1 (x:=.int .i64 nx) rfl).1
    have p2:=(zAA H1.out.1.hx 2 (x:=.slice a2 ls.length c2) rfl).1
    have p3:=(zAA H1.out.1.hx 3 (x:=.slice a3 ss.length c3) rfl).1
    obtain ⟨m0,n0⟩:=zAA AX.out 0 (x:=.int .i64 0) rfl
    obtain ⟨m1,n1⟩:=zAA AX.out 1 (x:=.int .i64 0) rfl
    obtain ⟨m2,n2⟩:=zAA AX.out 2 (x:=.slice none 0 0) rfl
    obtain ⟨m3,n3⟩:=zAA AX.out 3 (x:=.slice none 0 0) rfl
    have AF:((((wr.setCell ⟨w.heap.size+1,0,none⟩ (.int .i64 tm)).setCell ⟨w.heap.size+1,1,none⟩ (.int .i64 nx)).setCell ⟨w.heap.size+1,2,none⟩ (.slice a2 ls.length c2)).setCell ⟨w.heap.size+1,3,none⟩ (.slice a3 ss.length c3)).heap[w.heap.size+1]?=some (.cells #[.int .i64 tm,.int .i64 nx,.slice a2 ls.length c2,.slice a3 ss.length c3] 30 (0,0)):=set4 AX.out _ _ _ _
    have RF:Hid (OwnL ((((wr.setCell ⟨w.heap.size+1,0,none⟩ (.int .i64 tm)).setCell ⟨w.heap.size+1,1,none⟩ (.int .i64 nx)).setCell ⟨w.heap.size+1,2,none⟩ (.slice a2 ls.length c2)).setCell ⟨w.heap.size+1,3,none⟩ (.slice a3 ss.length c3)) w.heap.size (.slice a2 ls.length c2) ps∧(∀ p ∈ ps,OwnW ((((wr.setCell ⟨w.heap.size+1,0,none⟩ (.int .i64 tm)).setCell ⟨w.heap.size+1,1,none⟩ (.int .i64 nx)).setCell ⟨w.heap.size+1,2,none⟩ (.slice a2 ls.length c2)).setCell ⟨w.heap.size+1,3,none⟩ (.slice a3 ss.length c3)) w.heap.size (uV p) p.1.ws)∧OwnS ((((wr.setCell ⟨w.heap.size+1,0,none⟩ (.int .i64 tm)).setCell ⟨w.heap.size+1,1,none⟩ (.int .i64 nx)).setCell ⟨w.heap.size+1,2,none⟩ (.slice a2 ls.length c2)).setCell ⟨w.heap.size+1,3,none⟩ (.slice a3 ss.length c3)) w.heap.size (.slice a3 ss.length c3) ss):=H1.out.1.done w.heap.size (w.heap.size+1) (by rw [HS1.out];omega) (by rw [HS1.out];omega) (.int .i64 tm) (.int .i64 nx) (.slice a2 ls.length c2) (.slice a3 ss.length c3)
    have GF:Below w.heap.size w ((((wr.setCell ⟨w.heap.size+1,0,none⟩ (.int .i64 tm)).setCell ⟨w.heap.size+1,1,none⟩ (.int .i64 nx)).setCell ⟨w.heap.size+1,2,none⟩ (.slice a2 ls.length c2)).setCell ⟨w.heap.size+1,3,none⟩ (.slice a3 ss.length c3)):=Below.setCell (Below.setCell (Below.setCell (Below.setCell BW.out (p:=⟨w.heap.size+1,0,none⟩) (Nat.le_succ _) _) (p:=⟨w.heap.size+1,1,none⟩) (Nat.le_succ _) _) (p:=⟨w.heap.size+1,2,none⟩) (Nat.le_succ _) _) (p:=⟨w.heap.size+1,3,none⟩) (Nat.le_succ _) _
    go_wp2_with fail
    generalize (((wr.setCell ⟨w.heap.size+1,0,none⟩ (.int .i64 tm)).setCell ⟨w.heap.size+1,1,none⟩ (.int .i64 nx)).setCell ⟨w.heap.size+1,2,none⟩ (.slice a2 ls.length c2)).setCell ⟨w.heap.size+1,3,none⟩ (.slice a3 ss.length c3)=wf at AF RF GF ⊢
    have d0:=(zAA AF 0 (x:=.int .i64 tm) rfl).1
    have d1:=(zAA AF 1 (x:=.int .i64 nx) rfl).1
    have d2:=(zAA AF 2 (x:=.slice a2 ls.length c2) rfl).1
    have d3:=(zAA AF 3 (x:=.slice a3 ss.length c3) rfl).1
    exact bodyPost_ret (v:=tabV tm nx (.slice a2 ls.length c2) (.slice a3 ss.length c3)) (by simp [tabV,results,Tryz.results58,go_sem,d0,d1,d2,d3]) rfl ⟨_,_,ps,rfl,⟨RF.out.1,RF.out.2.1,H1.out.2,HAF.out⟩,RF.out.2.2,GF⟩
end Go.Proofs.YticokpbelgpfmaaGreat.Lo
namespace Go.Proofs.YticokpbelgpfmaaGreat.Ea
open Go.RowKit By Ap Tb Tw Mw Wa Tp Da
open Lo (LkA uV clL OwnL OwnL.kept OwnL.lt OwnL.below OwnL.row OwnL.slice OwnL.mono zAG zAK Apart l05Own_all)
open Tx (zAA zAC zAE zAJ zAD)
def mid (tm nx:Int) (ls:List Lk) (k:Nat):List Lk:=ls.mapIdx fun i y=>if i<k then exK tm nx ls i y else y
theorem mid_at (tm nx:Int) (ls:List Lk) (k i:Nat):(mid tm nx ls k)[i]?=(ls[i]?).map fun y=>if i<k then exK tm nx ls i y else y:=by unfold mid;rw [List.getElem?_mapIdx]
theorem mid_0 (tm nx:Int) (ls:List Lk):mid tm nx ls 0=ls:=by
 apply List.ext_getElem? fun i=>?_
 rw [mid_at]
 cases ls[i]? <;> rfl
theorem mid_len (tm nx:Int) (ls:List Lk) (k:Nat):(mid tm nx ls k).length=ls.length:=by unfold mid;simp
theorem mid_all (tm nx:Int) (ls:List Lk):mid tm nx ls ls.length=exL tm nx ls:=by
 apply List.ext_getElem? fun i=>?_
 rw [mid_at]
 unfold exL
 rw [List.getElem?_mapIdx]
 cases h:ls[i]? with
 | none=>rfl
 | some y=>simp only [Option.map_some];rw [if_pos (List.getElem?_eq_some_iff.1 h).1]
theorem mid_set {tm nx:Int} {ls:List Lk} {k:Nat} {y:Lk} (h:ls[k]?=some y):mid tm nx ls (k+1)=(mid tm nx ls k).set k (exK tm nx ls k y):=by
 apply List.ext_getElem? fun i=>?_
 rw [mid_at,List.getElem?_set,mid_at,mid_len]
 have hk:=(List.getElem?_eq_some_iff.1 h).1
 by_cases e:k=i
 ·subst e
  rw [if_pos rfl,if_pos hk,h]
  simp
 ·rw [if_neg e]
  cases ls[i]? with
  | none=>rfl
  | some z =>
    simp only [Option.map_some]
    by_cases hi:i<k
    ·rw [if_pos hi,if_pos (by omega)]
    ·rw [if_neg hi,if_neg (by omega)]
theorem mid_here {tm nx:Int} {ls:List Lk} {k:Nat} {y:Lk} (h:ls[k]?=some y):(mid tm nx ls k)[k]?=some y:=by rw [mid_at,h];simp
theorem mid_same {tm nx:Int} {ls:List Lk} {k:Nat} {y:Lk} (h:ls[k]?=some y) (hd:Da.due tm y=false):mid tm nx ls (k+1)=mid tm nx ls k:=by
 rw [mid_set h]
 unfold exK
 rw [hd]
 simp only [Bool.false_eq_true,if_false]
 apply List.ext_getElem? fun i=>?_
 rw [List.getElem?_set]
 by_cases e:k=i
 ·subst e
  rw [if_pos rfl,mid_here h,mid_len,if_pos (List.getElem?_eq_some_iff.1 h).1]
 ·rw [if_neg e]
def Tk (T:Tab) (M:Int) (k:Nat):Tab:=⟨M,exN M T.nx T.ls k,mid M T.nx T.ls k,T.ss⟩
def OwnT (w:World) (B:Nat) (T:Tab) (e:Ending):Prop:=∃ ul us ps,e=.returned (tabV T.tm T.nx ul us)∧OwnL w B ul ps∧(∀ p ∈ ps,OwnW w B (uV p) p.1.ws)∧ps.map (·.1)=T.ls∧Apart ps∧OwnS w B us T.ss
set_option maxRecDepth 100000 in
set_option maxHeartbeats 3200000 in
theorem l05Expire_any (T:Tab) (vl vs:Value) (now:Int) (w:World) (hl:RowL w vl T.ls) (hs:RowS w vs T.ss) (hT:TOK T) (h0:0≤now) (h1:now≤1000000000) (hn:T.nx≤999990) :
 Calls Tryz.prog 97 #[tabV T.tm T.nx vl vs,.int .i64 now] w fun e w'=>OwnT w' w.heap.size (exT T now) e∧Below w.heap.size w w':=by
 have HTK:Hid (TOK T):=hT
 have hl4:T.ls.length≤4:=hT.2.2.1
 have hs6:T.ss.length≤6:=hT.2.2.2.2.1
 have htm:=zAQ hT.1
 have hnx:=zAQ hT.2.1
 have HLK:Hid (∀ y ∈ T.ls,HdOK y):=fun y hy=>by
  obtain ⟨i,hi,e⟩:=List.mem_iff_getElem.1 hy
  exact (hT.2.2.2.1 i y (by rw [List.getElem?_eq_getElem hi,e])).2.2.2
 have HWS:Hid (∀ y ∈ T.ls,y.ws.length≤4∧∀ z ∈ y.ws,1≤z.l∧z.l≤1000):=fun y hy=>by
  rcases HLK.out y hy with ⟨_,_,h⟩ | ⟨_,_,_,h,hw⟩
  ·have:=List.length_eq_zero_iff.1 h
   rw [this]
   exact ⟨by simp,fun z hz=>by cases hz⟩
  ·refine ⟨h,fun z hz=>?_⟩
   obtain ⟨i,hi,e⟩:=List.mem_iff_getElem.1 hz
   exact zAQ (hw i z (by rw [List.getElem?_eq_getElem hi,e])).2.1
 have HX:Hid (∀ W,Below ((w.alloc (.cells #[.int .i64 T.tm,.int .i64 T.nx,vl,vs] 30)).alloc (.cells #[.int .i64 0,.int .i64 0,.slice none 0 0,.slice none 0 0] 30)).heap.size ((w.alloc (.cells #[.int .i64 T.tm,.int .i64 T.nx,vl,vs] 30)).alloc (.cells #[.int .i64 0,.int .i64 0,.slice none 0 0,.slice none 0 0] 30)) W→W.heap[w.heap.size]?=some (.cells #[.int .i64 T.tm,.int .i64 T.nx,vl,vs] 30 (0,0))∧W.heap[w.heap.size+1]?=some (.cells #[.int .i64 0,.int .i64 0,.slice none 0 0,.slice none 0 0] 30 (0,0))∧RowL W vl T.ls∧RowS W vs T.ss∧Below w.heap.size w W):=fun W hW=>by
  have e1:(w.alloc (.cells #[.int .i64 T.tm,.int .i64 T.nx,vl,vs] 30)).heap.size=w.heap.size+1:=by simp
  have b2:Below w.heap.size w ((w.alloc (.cells #[.int .i64 T.tm,.int .i64 T.nx,vl,vs] 30)).alloc (.cells #[.int .i64 0,.int .i64 0,.slice none 0 0,.slice none 0 0] 30)):=(zAD w _).trans ((zAD _ _).mono (zAD w _).size)
  have bb:=b2.trans (hW.mono b2.size)
  refine ⟨?_,?_,hl.below bb,hs.below bb,bb⟩
  ·rw [hW.block _ (by simp;omega),(zAD (w.alloc (.cells #[.int .i64 T.tm,.int .i64 T.nx,vl,vs] 30)) (.cells #[.int .i64 0,.int .i64 0,.slice none 0 0,.slice none 0 0] 30)).block _ (by simp)];exact zAJ _ _ _
  ·rw [hW.block _ (by simp),← e1];exact zAJ _ _ _
 have HOW:Hid (∀ W,RowL W vl T.ls→RowS W vs T.ss→Calls Tryz.prog 58 #[.agg #[.int .i64 T.tm,.int .i64 T.nx,vl,vs]] W fun e w'=>∃ ul us ps,e=.returned (.agg #[.int .i64 T.tm,.int .i64 T.nx,ul,us])∧(OwnL w' W.heap.size ul ps∧(∀ p ∈ ps,OwnW w' W.heap.size (uV p) p.1.ws)∧ps.map (·.1)=T.ls∧Apart ps)∧OwnS w' W.heap.size us T.ss∧Below W.heap.size W w'):=fun W a b=>l05Own_all T.tm T.nx vl vs T.ls T.ss W a b (fun x hx=>by have:=(HWS.out x hx).1;omega) (by omega) (by omega)
 obtain ⟨la,lc,rfl⟩:=RowG.slice hl
 obtain ⟨sa,sc,rfl⟩:=RowG.slice hs
 clear hl hs hT
 unfold tabV
 go_enter Tryz.func97,Tryz.ntmps97
 go_upto_region 1 with fail
 generalize (w.alloc (.cells #[.int .i64 T.tm,.int .i64 T.nx,.slice la T.ls.length lc,.slice sa T.ss.length sc] 30)).alloc (.cells #[.int .i64 0,.int .i64 0,.slice none 0 0,.slice none 0 0] 30)=w2 at HX ⊢
 have c0:=(zAA (HX.out _ (Below.refl _ _)).1 0 rfl).1
 have c1:=(zAA (HX.out _ (Below.refl _ _)).1 1 rfl).1
 have c2:=(zAA (HX.out _ (Below.refl _ _)).1 2 rfl).1
 have c3:=(zAA (HX.out _ (Below.refl _ _)).1 3 rfl).1
 go_wp2_with fail
 refine (HOW.out _ (HX.out _ (Below.refl _ _)).2.2.1 (HX.out _ (Below.refl _ _)).2.2.2.1).mono ?_
 rintro e w3 ⟨ul,us,ps,rfl,⟨o1,o2,o3,o4⟩,o5,b3⟩
 have hpl:ps.length=T.ls.length:=by rw [← o3,List.length_map]
 obtain ⟨ua,uc,rfl⟩:=OwnL.slice o1
 obtain ⟨ta,tc,rfl⟩:=OwnS.slice o5
 have H4:Hid (TM w2 (w3.alloc (.cells #[.int .i64 T.tm,.int .i64 T.nx,.slice ua ps.length uc,.slice ta T.ss.length tc] 30)) w2.heap.size w3.heap.size T (.slice ua ps.length uc) (.slice ta T.ss.length tc) ps):=⟨zAJ _ _ _,o1.below (zAD _ _),o5.below (zAD _ _),fun p hp=>(o2 p hp).below (zAD _ _),o4,o3,b3.trans ((zAD w3 _).mono b3.size),Nat.le_refl _,b3.size⟩
 rw [hpl] at H4 ⊢
 clear o1 o2 o3 o4 o5 b3 c0 c1 c2 c3 HOW
 go_upto_region 2 with fail
 generalize w3.alloc (.cells #[.int .i64 T.tm,.int .i64 T.nx,.slice ua T.ls.length uc,.slice ta T.ss.length tc] 30)=w4 at H4 ⊢
 generalize w3.heap.size=x at H4 ⊢
 obtain ⟨d0,f0⟩:=zAA H4.out.hx 0 (x:=.int .i64 T.tm) rfl
 obtain ⟨M,hM⟩ : ∃ M,max T.tm now=M:=⟨_,rfl⟩
 have hM0:0≤M∧M≤1000000000:=by omega
 have H5:Hid (TM w2 (w4.setCell ⟨x,0,none⟩ (.int .i64 M)) w2.heap.size x (Tk T M 0) (.slice ua T.ls.length uc) (.slice ta T.ss.length tc) ps):=H4.out.box 0 _ rfl (mid_0 M T.nx T.ls) rfl
 have HMM:Hid (max T.tm now=M):=hM
 have HEX:Hid (exT T now=Tk T M T.ls.length):=by
  show _=_
  unfold exT Tk
  rw [HMM.out,mid_all]
 go_upto_region 3 with fail
 try rw [HMM.out]
 generalize w4.setCell ⟨x,0,none⟩ (.int .i64 M)=w5 at H5 ⊢
 clear d0 f0 H4 hM
 go_wp2_with fail
 go_loopw [6] (fun i wr=>∃ k:Nat,k≤T.ls.length∧i=.int .i64 k∧Hid (∃ ps,TM w2 wr w2.heap.size x (Tk T M k) (.slice ua T.ls.length uc) (.slice ta T.ss.length tc) ps)) (fun i _=>T.ls.length - (intOf i).toNat)
 case atStart=>exact ⟨0,by omega,rfl,⟨ps,H5.out⟩⟩
 case round =>
  clear H5 hpl ps
  obtain ⟨k,hk,rfl,HK⟩:=hrel
  obtain ⟨ps,hps⟩:=HK.out
  have H:Hid (TM w2 wr w2.heap.size x (Tk T M k) (.slice ua T.ls.length uc) (.slice ta T.ss.length tc) ps):=hps
  have x0:=(zAA hps.hx 0 (x:=.int .i64 M) rfl).1
  have x2:=(zAA hps.hx 2 (x:=.slice ua T.ls.length uc) rfl).1
  clear hps HK
  by_cases hlt:k<T.ls.length
  ·obtain ⟨y,hy⟩:=Tw.get_at hlt
   have hkI:(k:Int)<(T.ls.length:Int):=by omega
   obtain ⟨p,hp,hpy⟩:=H.out.at (k:=k) (y:=y) (mid_here hy)
   obtain ⟨g,cap,hv,hgB,hgx,hcap,hcell⟩:=H.out.row hp
   injection hv with hv1 hv2 hv3
   subst hv1
   obtain ⟨m2,_⟩:=hcell 2 (.int .i64 p.1.h) rfl
   obtain ⟨m3,_⟩:=hcell 3 (.int .i64 p.1.e) rfl
   rw [hpy] at m2 m3
   have HP:Hid (ps[k]?=some p∧p.1=y∧T.ls[k]?=some y):=⟨hp,hpy,hy⟩
   have HHD:=HLK.out y (Tw.zAp hy)
   have hyh:y.h = -1 ∨ 0≤y.h:=by
    rcases HHD with ⟨h,_⟩ | ⟨_,h,_⟩
    ·exact .inl h
    ·exact .inr (zAQ h).1
   have hnk:=exN_le (tm:=M) (nx:=T.nx) (ls:=T.ls) k
   clear hcell hp hpy hy HHD hcap hgx hgB hv2 hv3
   go_upto_region 6 with fail
   by_cases hd1:0≤y.h
   ·by_cases hd2:y.e≤M
    ·have HD:Hid (Da.due M y=true):=by show _=_;unfold Da.due;rw [decide_eq_true];exact ⟨by omega,hd2⟩
     obtain ⟨X,hX,W,QI0,QO0⟩:=Qc.zAZ wr
     have QI:Hid (∀ w',Below wr.heap.size wr w'→∃ x,w'=W x):=QI0
     have QO:Hid (∀ x,Below wr.heap.size wr (W x)):=QO0
     clear QI0 QO0
     have y0:=Qc.zAB QO.out x0
     have y2:=Qc.zAB QO.out x2
     have z2:=Qc.zAB QO.out m2
     have z3:=Qc.zAB QO.out m3
     refine Qc.zAF (W:=W) (by kernel_rfl) (by kernel_rfl) (QI.out _ Qc.zAI) ?_
     repeat (go_big_quiet_step (fail))
     refine wpQuiet_nil ?_
     rintro _ ⟨xq,rfl⟩
     have GQ:Hid (TM w2 (W xq) w2.heap.size x (Tk T M k) (.slice (some ⟨g,0,none⟩) T.ls.length uc) (.slice ta T.ss.length tc) ps):=H.out.up (QO.out xq)
     clear y0 y2 z2 z3 QO QI H x0 x2 m2 m3
     generalize W xq=wq at GQ ⊢
     have HWP:=HWS.out y (Tw.zAp HP.out.2.2)
     have HF:=l05Free_any GQ.out HP.out.1 hM0.1 hM0.2 (by show 1≤exN M T.nx T.ls k;omega) (by show exN M T.nx T.ls k≤999999;omega) (by rw [HP.out.2.1];omega) (fun z hz=>by rw [HP.out.2.1] at hz;have:=HWP.2 z hz;omega)
     go_wp2_with fail
     refine HF.mono ?_
     rintro e w8 ⟨rfl,⟨q,hq,t8⟩,_⟩
     have HS:Hid (TM w2 w8 w2.heap.size x (Tk T M (k+1)) (.slice (some ⟨g,0,none⟩) T.ls.length uc) (.slice ta T.ss.length tc) (ps.set k q)):=by
      have e1:Tk T M (k+1)=⟨M,frN (exN M T.nx T.ls k) y,(mid M T.nx T.ls k).set k (frL M (exN M T.nx T.ls k) y),T.ss⟩:=by
       unfold Tk
       rw [mid_set HP.out.2.2,zBV HP.out.2.2,HD.out]
       unfold exK
       rw [HD.out]
       rfl
      rw [HP.out.2.1] at hq t8
      have e2:q.1=frL M (exN M T.nx T.ls k) y:=hq
      rw [e2] at t8
      rw [e1]
      exact t8
     clear t8 hq HF GQ
     go_wp2_with fail
     first
      | exact ⟨⟨k+1,by omega,by go_num,⟨_,HS.out⟩⟩,by simp [intOf];omega⟩
      | (go_roundw
         case rel=>(repeat apply Exists.intro);exact ⟨⟨k+1,by omega,by go_num,⟨_,HS.out⟩⟩,rfl⟩
         case measure=>simp [intOf];omega)
    ·have HD:Hid (Da.due M y=false):=by show _=_;unfold Da.due;rw [decide_eq_false];exact fun h=>hd2 h.2
     obtain ⟨X,hX,W,QI0,QO0⟩:=Qc.zAZ wr
     have QI:Hid (∀ w',Below wr.heap.size wr w'→∃ x,w'=W x):=QI0
     have QO:Hid (∀ x,Below wr.heap.size wr (W x)):=QO0
     clear QI0 QO0
     have y0:=Qc.zAB QO.out x0
     have y2:=Qc.zAB QO.out x2
     have z2:=Qc.zAB QO.out m2
     have z3:=Qc.zAB QO.out m3
     refine Qc.zAF (W:=W) (by kernel_rfl) (by kernel_rfl) (QI.out _ Qc.zAI) ?_
     repeat (go_big_quiet_step (fail))
     refine wpQuiet_nil ?_
     rintro _ ⟨xq,rfl⟩
     have GQ:Hid (TM w2 (W xq) w2.heap.size x (Tk T M k) (.slice (some ⟨g,0,none⟩) T.ls.length uc) (.slice ta T.ss.length tc) ps):=H.out.up (QO.out xq)
     clear y0 y2 z2 z3 QO QI H x0 x2 m2 m3
     generalize W xq=wq at GQ ⊢
     have HS:Hid (Tk T M (k+1)=Tk T M k):=by
      show _=_
      unfold Tk
      rw [mid_same HP.out.2.2 HD.out,zBV HP.out.2.2,HD.out]
      rfl
     go_wp2_with fail
     exact ⟨⟨k+1,by omega,by go_num,⟨ps,by rw [HS.out];exact GQ.out⟩⟩,by simp [intOf];omega⟩
   ·have HD:Hid (Da.due M y=false):=by show _=_;unfold Da.due;rw [decide_eq_false];exact fun h=>h.1 (by omega)
    obtain ⟨X,hX,W,QI0,QO0⟩:=Qc.zAZ wr
    have QI:Hid (∀ w',Below wr.heap.size wr w'→∃ x,w'=W x):=QI0
    have QO:Hid (∀ x,Below wr.heap.size wr (W x)):=QO0
    clear QI0 QO0
    have y0:=Qc.zAB QO.out x0
    have y2:=Qc.zAB QO.out x2
    have z2:=Qc.zAB QO.out m2
    have z3:=Qc.zAB QO.out m3
    refine Qc.zAF (W:=W) (by kernel_rfl) (by kernel_rfl) (QI.out _ Qc.zAI) ?_
    repeat (go_big_quiet_step (fail))
    refine wpQuiet_nil ?_
    rintro _ ⟨xq,rfl⟩
    have GQ:Hid (TM w2 (W xq) w2.heap.size x (Tk T M k) (.slice (some ⟨g,0,none⟩) T.ls.length uc) (.slice ta T.ss.length tc) ps):=H.out.up (QO.out xq)
    clear y0 y2 z2 z3 QO QI H x0 x2 m2 m3
    generalize W xq=wq at GQ ⊢
    have HS:Hid (Tk T M (k+1)=Tk T M k):=by
     show _=_
     unfold Tk
     rw [mid_same HP.out.2.2 HD.out,zBV HP.out.2.2,HD.out]
     rfl
    go_wp2_with fail
    exact ⟨⟨k+1,by omega,by go_num,⟨ps,by rw [HS.out];exact GQ.out⟩⟩,by simp [intOf];omega⟩
  ·obtain rfl:k=T.ls.length:=by omega
   have x1:=(zAA H.out.hx 1 (x:=.int .i64 (exN M T.nx T.ls T.ls.length)) rfl).1
   have x3:=(zAA H.out.hx 3 (x:=.slice ta T.ss.length tc) rfl).1
   have AX:Hid (wr.heap[w.heap.size+1]?=some (.cells #[.int .i64 0,.int .i64 0,.slice none 0 0,.slice none 0 0] 30 (0,0))∧Below w.heap.size w wr∧w.heap.size+1<w2.heap.size∧w.heap.size≤w2.heap.size):=by
    have hh:=HX.out wr H.out.bel
    exact ⟨hh.2.1,hh.2.2.2.2,(Array.getElem?_eq_some_iff.1 (HX.out w2 (Below.refl _ _)).2.1).1,(HX.out w2 (Below.refl _ _)).2.2.2.2.size⟩
   obtain ⟨m0,n0⟩:=zAA AX.out.1 0 (x:=.int .i64 0) rfl
   obtain ⟨m1,n1⟩:=zAA AX.out.1 1 (x:=.int .i64 0) rfl
   obtain ⟨m2,n2⟩:=zAA AX.out.1 2 (x:=.slice none 0 0) rfl
   obtain ⟨m3,n3⟩:=zAA AX.out.1 3 (x:=.slice none 0 0) rfl
   have AF:((((wr.setCell ⟨w.heap.size+1,0,none⟩ (.int .i64 M)).setCell ⟨w.heap.size+1,1,none⟩ (.int .i64 (exN M T.nx T.ls T.ls.length))).setCell ⟨w.heap.size+1,2,none⟩ (.slice ua T.ls.length uc)).setCell ⟨w.heap.size+1,3,none⟩ (.slice ta T.ss.length tc)).heap[w.heap.size+1]?=some (.cells #[.int .i64 M,.int .i64 (exN M T.nx T.ls T.ls.length),.slice ua T.ls.length uc,.slice ta T.ss.length tc] 30 (0,0)):=(zAC (zAC (zAC (zAC AX.out.1 _ _) _ _) _ _) _ _)
   have GF:Below w.heap.size w ((((wr.setCell ⟨w.heap.size+1,0,none⟩ (.int .i64 M)).setCell ⟨w.heap.size+1,1,none⟩ (.int .i64 (exN M T.nx T.ls T.ls.length))).setCell ⟨w.heap.size+1,2,none⟩ (.slice ua T.ls.length uc)).setCell ⟨w.heap.size+1,3,none⟩ (.slice ta T.ss.length tc)):=(Below.setCell (Below.setCell (Below.setCell (Below.setCell AX.out.2.1 (p:=⟨w.heap.size+1,0,none⟩) (Nat.le_succ _) (.int .i64 M)) (p:=⟨w.heap.size+1,1,none⟩) (Nat.le_succ _) (.int .i64 (exN M T.nx T.ls T.ls.length))) (p:=⟨w.heap.size+1,2,none⟩) (Nat.le_succ _) (.slice ua T.ls.length uc)) (p:=⟨w.heap.size+1,3,none⟩) (Nat.le_succ _) (.slice ta T.ss.length tc))
   have KF:Hid (∀ g,w2.heap.size≤g→((((wr.setCell ⟨w.heap.size+1,0,none⟩ (.int .i64 M)).setCell ⟨w.heap.size+1,1,none⟩ (.int .i64 (exN M T.nx T.ls T.ls.length))).setCell ⟨w.heap.size+1,2,none⟩ (.slice ua T.ls.length uc)).setCell ⟨w.heap.size+1,3,none⟩ (.slice ta T.ss.length tc)).heap[g]?=wr.heap[g]?):=fun g' hg'=>by
    have hne:∀ g:Nat,w2.heap.size≤g→g ≠ w.heap.size+1:=fun g hg=>by have:=AX.out.2.2.1;omega
    exact ((zAE (hne g' hg') _ _).trans ((zAE (hne g' hg') _ _).trans ((zAE (hne g' hg') _ _).trans ((zAE (hne g' hg') _ _).trans rfl))))
   have OF:Hid (OwnT ((((wr.setCell ⟨w.heap.size+1,0,none⟩ (.int .i64 M)).setCell ⟨w.heap.size+1,1,none⟩ (.int .i64 (exN M T.nx T.ls T.ls.length))).setCell ⟨w.heap.size+1,2,none⟩ (.slice ua T.ls.length uc)).setCell ⟨w.heap.size+1,3,none⟩ (.slice ta T.ss.length tc)) w.heap.size (exT T now) (.returned (tabV M (exN M T.nx T.ls T.ls.length) (.slice ua T.ls.length uc) (.slice ta T.ss.length tc)))):=by
    have hle:=AX.out.2.2.2
    rw [HEX.out]
    refine ⟨_,_,ps,rfl,(H.out.ol.kept (fun g hg=>KF.out g (H.out.ol.lt g hg).1)).mono hle,fun p hp=>((H.out.ow p hp).kept (fun g hg=>KF.out g ((H.out.ow p hp).lt g hg).1)).mono hle,H.out.eq,H.out.ap,(H.out.os.kept (fun g hg=>KF.out g (H.out.os.lt g hg).1)).mono hle⟩
   go_wp2_with fail
   generalize ((((wr.setCell ⟨w.heap.size+1,0,none⟩ (.int .i64 M)).setCell ⟨w.heap.size+1,1,none⟩ (.int .i64 (exN M T.nx T.ls T.ls.length))).setCell ⟨w.heap.size+1,2,none⟩ (.slice ua T.ls.length uc)).setCell ⟨w.heap.size+1,3,none⟩ (.slice ta T.ss.length tc))=wf at AF GF OF ⊢
   have d0:=(zAA AF 0 (x:=.int .i64 M) rfl).1
   have d1:=(zAA AF 1 (x:=.int .i64 (exN M T.nx T.ls T.ls.length)) rfl).1
   have d2:=(zAA AF 2 (x:=.slice ua T.ls.length uc) rfl).1
   have d3:=(zAA AF 3 (x:=.slice ta T.ss.length tc) rfl).1
   exact bodyPost_ret (v:=.agg #[.int .i64 M,.int .i64 (exN M T.nx T.ls T.ls.length),.slice ua T.ls.length uc,.slice ta T.ss.length tc]) (by simp [results,Tryz.results97,go_sem,d0,d1,d2,d3]) rfl ⟨OF.out,GF⟩
end Go.Proofs.YticokpbelgpfmaaGreat.Ea
