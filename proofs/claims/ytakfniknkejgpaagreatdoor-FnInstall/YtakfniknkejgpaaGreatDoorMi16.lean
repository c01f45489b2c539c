/- Texts put together: Ps, Tq, Ub. -/
import Derived.Test.YtakfniknkejgpaaGreatDoorMi15
namespace Go.Proofs.YtakfniknkejgpaaGreatDoor.Ps
open Go.RowKit Sl By Ap Tx Tb Tw Rq Tp Pu Pt
theorem zAS {w w1:World} {v v1:Value} (h:Kp w w1 v v1):Kp w w1.drew v v1:=⟨h.os,h.tape,h.output,h.size,h.block,h.away⟩
theorem ble {B:Nat} {w w1:World} {v v1:Value} (hB:B≤w.heap.size) (h:Kp w w1 v v1):B≤w1.heap.size:=Nat.le_trans hB h.size
theorem num2 (x:Int) (w:World):Calls Tryz.prog 43 #[.int .i64 x,.int .i64 2] w fun e w'=>∃ v',e=.returned v'∧OwnB 5 w' w.heap.size v' (nums x 2 2)∧Below w.heap.size w w':=zCc x 2 w (by decide)
theorem num3 (x:Int) (w:World):Calls Tryz.prog 43 #[.int .i64 x,.int .i64 3] w fun e w'=>∃ v',e=.returned v'∧OwnB 5 w' w.heap.size v' (nums x 3 3)∧Below w.heap.size w w':=zCc x 3 w (by decide)
theorem num4 (x:Int) (w:World):Calls Tryz.prog 43 #[.int .i64 x,.int .i64 4] w fun e w'=>∃ v',e=.returned v'∧OwnB 5 w' w.heap.size v' (nums x 4 4)∧Below w.heap.size w w':=zCc x 4 w (by decide)
theorem first_num {e:TypeId} {wb w1:World} {B:Nat} {v:Value} {xs:List Int} (hB:B=wb.heap.size) (b1:Below wb.drew.heap.size wb.drew w1) (o1:OwnB e w1 wb.drew.heap.size v xs):Below B wb w1∧OwnB e w1 B v xs:=by
 subst hB
 exact ⟨(ordB rfl b1).1,o1⟩
theorem next_num {B:Nat} {wb w1 w2:World} (h:Below B wb w1) (hB:B≤wb.heap.size) (b:Below w1.heap.size w1 w2):Below B wb w2:=h.trans (b.mono (Nat.le_trans hB h.size))
theorem at_drew {wb:World} {B:Nat}:Below B wb wb.drew:=(Below.refl _ _).drew
theorem zBs {e:TypeId} {B:Nat} {w0 X wn:World} {v0 v:Value} {zs:List Int} (bn:Below X.heap.size X wn) (o:OwnB e X B v zs) (k:Kp w0 X v0 v):OwnB e wn B v zs∧Kp w0 wn v0 v∧∀ g,v.ownBlock=some g→g<X.heap.size:=⟨own_below o bn,k.trans (Kp.of_below _ bn),own_lt o⟩
theorem one_num {x:Int} (h:0≤x∧x≤255) : [x]=nums x 1 1:=by simp [nums,nb];omega
theorem wrap1 (x:Int) : [IntKind.u8.wrap x]=nums x 1 1:=by simp [nums,nb,IntKind.wrap_u8]
set_option maxRecDepth 100000 in
set_option maxHeartbeats 6400000 in
theorem zBw (tm nx:Int) (vl vs:Value) (ls:List Lk) (ss:List Sn) (w:World) (hl:RowL w vl ls) (hs:RowS w vs ss) (hbd:Bnd ls ss) :
 Calls Tryz.prog 19 #[tabV tm nx vl vs] w fun e w'=>∃ v,e=.returned v∧OwnB 5 w' w.heap.size v (zBO tm nx ls ss)∧Below w.heap.size w w':=by
 obtain ⟨la,lc,rfl⟩:=RowG.slice hl
 obtain ⟨sa,sc,rfl⟩:=RowG.slice hs
 obtain ⟨i0,hi,hz0,hz1,hz2⟩:=info_parts Sl.info5
 have HBD:Hid (Bnd ls ss):=hbd
 have HX:Hid (∀ W,Below (w.alloc (.cells #[.int .i64 tm,.int .i64 nx,.slice la ls.length lc,.slice sa ss.length sc] 26)).heap.size (w.alloc (.cells #[.int .i64 tm,.int .i64 nx,.slice la ls.length lc,.slice sa ss.length sc] 26)) W→(W.cell? ⟨w.heap.size,0,none⟩=some (.int .i64 tm)∧W.cell? ⟨w.heap.size,1,none⟩=some (.int .i64 nx)∧W.cell? ⟨w.heap.size,2,none⟩=some (.slice la ls.length lc)∧W.cell? ⟨w.heap.size,3,none⟩=some (.slice sa ss.length sc))∧RowLB (w.alloc (.cells #[.int .i64 tm,.int .i64 nx,.slice la ls.length lc,.slice sa ss.length sc] 26)).heap.size W (.slice la ls.length lc) ls∧RowSB (w.alloc (.cells #[.int .i64 tm,.int .i64 nx,.slice la ls.length lc,.slice sa ss.length sc] 26)).heap.size W (.slice sa ss.length sc) ss∧Below w.heap.size w W):=fun W hW=>by
  have h1:=(hW.block w.heap.size (by simp)).trans (heap_alloc_new w _)
  exact ⟨⟨(zAA h1 0 rfl).1,(zAA h1 1 rfl).1,(zAA h1 2 rfl).1,(zAA h1 3 rfl).1⟩,(RowL.low (hl.below (zAD _ _))).below hW,(RowS.low (hs.below (zAD _ _))).below hW,(zAD w _).trans (hW.mono (by simp))⟩
 have HSZ:Hid (w.heap.size≤(w.alloc (.cells #[.int .i64 tm,.int .i64 nx,.slice la ls.length lc,.slice sa ss.length sc] 26)).heap.size):=by show _≤_;simp
 clear hl hs hbd
 unfold tabV
 go_enter Tryz.func19,Tryz.ntmps19
 go_upto_region 1 with fail
 generalize w.alloc (.cells #[.int .i64 tm,.int .i64 nx,.slice la ls.length lc,.slice sa ss.length sc] 26)=wb at HX HSZ ⊢
 obtain ⟨B,HB⟩ : ∃ B,Hid (B=wb.heap.size):=⟨_,rfl⟩
 rw [← HB.out] at HX
 have HBL:Hid (B≤wb.heap.size):=Nat.le_of_eq HB.out
 go_cut [3] (fun s3 wx=>OwnB 5 wx B s3 (nums tm 4 4 ++ nums nx 3 3)∧Below B wb wx)
 case first =>
  go_region_held_law (fun W=>W.cell? ⟨w.heap.size,0,none⟩=some (.int .i64 tm)∧W.cell? ⟨w.heap.size,1,none⟩=some (.int .i64 nx)∧W.cell? ⟨w.heap.size,2,none⟩=some (.slice la ls.length lc)∧W.cell? ⟨w.heap.size,3,none⟩=some (.slice sa ss.length sc)) (first | exact (HX.out _ at_drew).1 | exact (HX.out _ q1.out).1 | exact (HX.out _ q2.out).1 | exact (HX.out _ q3.out).1)
   (first
     | (go_simp;go_at_call 43;(with_reducible refine (num4 tm _).mono ?_);rintro e w1 ⟨v1,rfl,o1,b1⟩;obtain ⟨q1x,p1⟩:=first_num HB.out b1 o1;have q1:Hid (Below B wb w1):=q1x;clear o1 b1 q1x;try go_simp)
     | (go_simp;go_at_call 43;(with_reducible refine (num3 nx _).mono ?_);rintro e w2 ⟨v2,rfl,o2,b2⟩;have q2x:=next_num q1.out HBL.out b2;have q2:Hid (Below B wb w2):=q2x;clear q2x;have p2:=own_below p1 b2;have r2:=zAT o2 (zAQ _ _ _);clear o2 b2;try go_simp)
     | (refine zBC (by rfl) _ _ 22 (by rfl) Tryz.underlying22 hi hz0 hz1 hz2 B _ _ _ _ _ (by rfl) (by rfl) p2 (Nat.le_trans HBL.out q2.out.size) r2 (by simp only [nums_length];decide) ?_;intro v3 w3 o3 k3;have q3x:=q2.out.trans (k3.below p2 (Nat.le_trans HBL.out q2.out.size));have q3:Hid (Below B wb w3):=q3x;clear q3x;try go_simp))
  all_goals
   go_wp2_with fail
   go_meet
   exact ⟨o3,q3.out⟩
 case rest =>
 obtain ⟨o1,g1⟩:=hcut
 obtain ⟨wA,rfl⟩ : ∃ wA,wA=wc:=⟨_,rfl⟩
 have O1:Hid (OwnB 5 wA B u3 (nums tm 4 4 ++ nums nx 3 3)∧Below B wb wA):=⟨o1,g1⟩
 obtain ⟨⟨x0,x1,x2,x3⟩,_⟩:=HX.out _ g1
 clear o1 g1
 have hlr:(0:Int)≤(ls.length:Int)∧(ls.length:Int)≤255:=by have:=HBD.out.1;omega
 go_wp2_with (at_builtin;go_must (refine list_one (by rfl) _ _ 22 (by rfl) Tryz.underlying22 hi hz0 hz1 hz2 B _ _ _ _ (by rfl) (by rfl) O1.out.1 (Nat.le_trans HBL.out O1.out.2.size) hlr (by simp only [List.length_append,nums_length];decide) ?_;intro v2 w2 o2 k2))
 have B2:=O1.out.2.trans (k2.below O1.out.1 (Nat.le_trans HBL.out O1.out.2.size))
 obtain ⟨ys,HYS⟩ : ∃ ys,Hid (nums tm 4 4 ++ nums nx 3 3 ++ nums (ls.length:Int) 1 1=ys):=⟨_,rfl⟩
 have HYL:Hid (ys.length=8):=by show _=_;rw [← HYS.out];simp only [List.length_append,nums_length]
 rw [one_num hlr,HYS.out] at o2
 have O2:Hid (OwnB 5 w2 B v2 ys∧Below B wb w2):=⟨o2,B2⟩
 clear o2 k2 B2 O1 hlr x0 x1 x2 x3
 have hl4:ls.length≤4:=HBD.out.1
 have hl6:ss.length≤6:=HBD.out.2.1
 obtain ⟨⟨x0,x1,x2,x3⟩,_⟩:=HX.out _ O2.out.2
 go_wp2_with fail
 clear x0 x1 x2 x3
 go_loopw [3,4] (fun b i wr=>∃ k:Nat,k≤ls.length∧i=.int .i64 k∧Hid (OwnB 5 wr B b (ys ++ lsBs (ls.take k))∧Below B wb wr)) (fun _ i _=>ls.length - (intOf i).toNat)
 case atStart=>exact ⟨0,by omega,rfl,⟨by simpa [lsBs] using O2.out.1,O2.out.2⟩⟩
 case round =>
  rename World=>wk
  clear O2
  obtain ⟨k,hk,rfl,HO⟩:=hrel
  obtain ⟨v0,rfl⟩ : ∃ v0,v0=u3:=⟨_,rfl⟩
  obtain ⟨⟨x0,x1,x2,x3⟩,hrl,_,_⟩:=HX.out _ HO.out.2
  by_cases hlt:k<ls.length
  ·obtain ⟨x,hx⟩:=Tw.get_at hlt
   obtain ⟨b,off,rfl,hbl,hbB,u,c0,c1,c2,c3,c4,c5⟩:=RowG.at hrl rfl hx
   obtain ⟨ua,uc,rfl⟩:=RowG.slice c5
   have HT:Hid (lsBs (ls.take (k+1))=lsBs (ls.take k) ++ lkBs x):=take_bs lkBs hx
   have HXB:Hid (x.n.size≤12∧x.ws.length≤4):=⟨(HBD.out.2.2.1 x (mem_at hx)).1,(HBD.out.2.2.1 x (mem_at hx)).2.1⟩
   have hh1:=(HBD.out.2.2.1 x (mem_at hx)).2.2
   have hwr:IntKind.i64.wrap (x.h+1)=x.h+1:=by rw [IntKind.wrap_i64];omega
   obtain ⟨zs,HZS⟩ : ∃ zs,Hid (ys ++ lsBs (ls.take k)=zs):=⟨_,rfl⟩
   have HLN:Hid (zs.length≤1000):=by
    show _≤_
    have h1:=zCI (ls.take k) (take_le (fun x hx=>⟨(HBD.out.2.2.1 x hx).1,(HBD.out.2.2.1 x hx).2.1⟩) k)
    have h2:=HBD.out.1
    rw [← HZS.out,List.length_append,HYL.out]
    rw [List.length_take] at h1
    omega
   rw [HZS.out] at HO
   obtain ⟨bx,HBX⟩ : ∃ bx,Hid (wk.heap.size=bx):=⟨_,rfl⟩
   have O0:Hid (OwnB 5 (wk.alloc (.cells #[.string x.n,.int .i64 x.t,.int .i64 x.h,.int .i64 x.e,.slice ua x.ws.length uc] 95)) B v0 zs∧B≤(wk.alloc (.cells #[.string x.n,.int .i64 x.t,.int .i64 x.h,.int .i64 x.e,.slice ua x.ws.length uc] 95)).heap.size):=⟨zAH HO.out.1 _,Nat.le_trans (Nat.le_trans HBL.out HO.out.2.size) (by simp)⟩
   have HL:Hid (∀ W v',Kp (wk.alloc (.cells #[.string x.n,.int .i64 x.t,.int .i64 x.h,.int .i64 x.e,.slice ua x.ws.length uc] 95)) W v0 v'→(W.cell? ⟨bx,0,none⟩=some (.string x.n)∧W.cell? ⟨bx,1,none⟩=some (.int .i64 x.t)∧W.cell? ⟨bx,2,none⟩=some (.int .i64 x.h)∧W.cell? ⟨bx,3,none⟩=some (.int .i64 x.e)∧W.cell? ⟨bx,4,none⟩=some (.slice ua x.ws.length uc))∧W.cell? ⟨w.heap.size,2,none⟩=some (.slice (some ⟨b,off,none⟩) ls.length lc)∧RowWB B W (.slice ua x.ws.length uc) x.ws∧Below B wb W):=fun W v' h=>by
    have h1:=box_kept h (own_away HO.out.1)
    rw [HBX.out] at h1
    have h2:=h.below O0.out.1 O0.out.2
    have h3:Below B wk (wk.alloc (.cells #[.string x.n,.int .i64 x.t,.int .i64 x.h,.int .i64 x.e,.slice ua x.ws.length uc] 95)):=(zAD wk _).mono (Nat.le_trans HBL.out HO.out.2.size)
    have h4:=HO.out.2.trans (h3.trans h2)
    exact ⟨⟨(zAA h1 0 rfl).1,(zAA h1 1 rfl).1,(zAA h1 2 rfl).1,(zAA h1 3 rfl).1,(zAA h1 4 rfl).1⟩,(HX.out W h4).1.2.2.1,RowWB.below (RowWB.below c5 h3) h2,h4⟩
   clear hx c5 hrl HO
   go_upto_region 7 with fail
   clear c0 c1 c2 c3 c4 x0 x1 x2 x3
   generalize wk.alloc (.cells #[.string x.n,.int .i64 x.t,.int .i64 x.h,.int .i64 x.e,.slice ua x.ws.length uc] 95)=w0 at HL O0 ⊢
   rw [HBX.out]
   have HB0:Hid (B≤w0.heap.size):=O0.out.2
   go_cut [3,5] (fun s3 s5 wx=>s5=.pointer (some ⟨bx,0,none⟩)∧OwnB 5 wx B s3 (zs ++ nums (x.n.size:Int) 1 1 ++ bys x.n)∧Kp w0 wx v0 s3)
   case first =>
    have o1:=O0.out.1
    have k1:=Kp.refl w0 v0
    go_region_held_law (fun W=>W.cell? ⟨bx,0,none⟩=some (.string x.n)∧W.cell? ⟨bx,1,none⟩=some (.int .i64 x.t)∧W.cell? ⟨bx,2,none⟩=some (.int .i64 x.h)∧W.cell? ⟨bx,3,none⟩=some (.int .i64 x.e)∧W.cell? ⟨bx,4,none⟩=some (.slice ua x.ws.length uc)) (first | exact (HL.out _ _ (by first | assumption | exact zAS (by assumption) | exact Kp.alloc (by assumption) _ | exact zAS (Kp.alloc (by assumption) _) | exact Kp.alloc (zAS (by assumption)) _)).1)
     (first
       | (refine zBC (by rfl) _ _ 22 (by rfl) Tryz.underlying22 hi hz0 hz1 hz2 B _ _ _ _ _ (by rfl) (by rfl) (by first | assumption | exact zAL (by assumption) | exact zAH (by assumption) _ | exact zAL (zAH (by assumption) _) | exact zAH (zAL (by assumption)) _) (ble HB0.out (by first | assumption | exact zAS (by assumption) | exact Kp.alloc (by assumption) _ | exact zAS (Kp.alloc (by assumption) _) | exact Kp.alloc (zAS (by assumption)) _)) (by first | exact zAT fb (zAd (zAb _)) | exact zAT (zAi 5 _ _ _ (Nat.le_refl _)) (zAd (zAb _)) | exact rowB_drew (zAT (zAi 5 _ _ _ (Nat.le_refl _)) (zAd (zAb _))) | exact zAT (zAL (zAi 5 _ _ _ (Nat.le_refl _))) (zAd (zAb _))) (by have:=HLN.out;have:=HXB.out;first | (simp;omega) | (simp [nums_length];omega)) ?_;intro v8 w8 o8 k8x;have k8:=Kp.trans (by first | assumption | exact zAS (by assumption) | exact Kp.alloc (by assumption) _ | exact zAS (Kp.alloc (by assumption) _) | exact Kp.alloc (zAS (by assumption)) _) k8x;try go_simp)
       | (refine step_str (by rfl) _ _ 22 9 (by rfl) Tryz.underlying22 Tryz.underlying9 hi hz0 hz1 hz2 B _ _ x.n _ (by rfl) (by rfl) (by first | assumption | exact zAL (by assumption) | exact zAH (by assumption) _ | exact zAL (zAH (by assumption) _) | exact zAH (zAL (by assumption)) _) (ble HB0.out (by first | assumption | exact zAS (by assumption) | exact Kp.alloc (by assumption) _ | exact zAS (Kp.alloc (by assumption) _) | exact Kp.alloc (zAS (by assumption)) _)) (by have:=HLN.out;have:=HXB.out;first | (simp;omega) | (simp [nums_length];omega)) ?_;intro v9 w9 o9 k9x;have k9:=Kp.trans (by first | assumption | exact zAS (by assumption) | exact Kp.alloc (by assumption) _ | exact zAS (Kp.alloc (by assumption) _) | exact Kp.alloc (zAS (by assumption)) _) k9x;try go_simp))
    all_goals
     rw [wrap1] at o9
     go_wp2_with fail
     go_meet
     exact ⟨rfl,o9,k9⟩
   case rest =>
   obtain ⟨rfl,o1,k1⟩:=hcut
   obtain ⟨w1,rfl⟩ : ∃ w1,w1=wc:=⟨_,rfl⟩
   obtain ⟨v1,rfl⟩ : ∃ v1,v1=u3:=⟨_,rfl⟩
   obtain ⟨z1,HZ1⟩ : ∃ z1,Hid (zs ++ nums (x.n.size:Int) 1 1 ++ bys x.n=z1):=⟨_,rfl⟩
   rw [HZ1.out] at o1
   have HLN:Hid (z1.length≤1100):=by show _≤_;rw [← HZ1.out];simp only [List.length_append,nums_length,zAV];have:=HLN.out;have:=HXB.out;omega
   go_upto_region 8 with fail
   go_cut [3,5] (fun s3 s5 wx=>s5=.pointer (some ⟨bx,0,none⟩)∧OwnB 5 wx B s3 (z1 ++ nums x.t 3 3 ++ nums (x.h+1) 2 2)∧Kp w0 wx v0 s3)
   case first =>
    go_region_held_law (fun W=>W.cell? ⟨bx,0,none⟩=some (.string x.n)∧W.cell? ⟨bx,1,none⟩=some (.int .i64 x.t)∧W.cell? ⟨bx,2,none⟩=some (.int .i64 x.h)∧W.cell? ⟨bx,3,none⟩=some (.int .i64 x.e)∧W.cell? ⟨bx,4,none⟩=some (.slice ua x.ws.length uc)) (first | exact (HL.out _ _ (by first | assumption | exact zAS (by assumption) | exact Kp.alloc (by assumption) _ | exact zAS (Kp.alloc (by assumption) _) | exact Kp.alloc (zAS (by assumption)) _)).1)
     (first
       | (go_simp;go_at_call 43;(with_reducible refine (num3 (x.t) _).mono ?_);rintro e wn ⟨vnf1,rfl,f1,bn⟩;obtain ⟨on,kn,h1⟩:=zBs bn (by first | assumption | exact zAL (by assumption) | exact zAH (by assumption) _ | exact zAL (zAH (by assumption) _) | exact zAH (zAL (by assumption)) _) (by first | assumption | exact zAS (by assumption) | exact Kp.alloc (by assumption) _ | exact zAS (Kp.alloc (by assumption) _) | exact Kp.alloc (zAS (by assumption)) _);clear bn;try go_simp)
       | (go_simp;go_at_call 43;(with_reducible refine (num2 (x.h+1) _).mono ?_);rintro e wn ⟨vnf2,rfl,f2,bn⟩;obtain ⟨on,kn,h2⟩:=zBs bn (by first | assumption | exact zAL (by assumption) | exact zAH (by assumption) _ | exact zAL (zAH (by assumption) _) | exact zAH (zAL (by assumption)) _) (by first | assumption | exact zAS (by assumption) | exact Kp.alloc (by assumption) _ | exact zAS (Kp.alloc (by assumption) _) | exact Kp.alloc (zAS (by assumption)) _);(first | (have f1:=own_below f1 bn) | skip);clear bn;try go_simp)
       | (refine zBC (by rfl) _ _ 22 (by rfl) Tryz.underlying22 hi hz0 hz1 hz2 B _ _ _ _ _ (by rfl) (by rfl) (by first | assumption | exact zAL (by assumption) | exact zAH (by assumption) _ | exact zAL (zAH (by assumption) _) | exact zAH (zAL (by assumption)) _) (ble HB0.out (by first | assumption | exact zAS (by assumption) | exact Kp.alloc (by assumption) _ | exact zAS (Kp.alloc (by assumption) _) | exact Kp.alloc (zAS (by assumption)) _)) (by first | exact zAT f1 (zAQ _ _ _) | exact zAT (zAH f1 _) (zAQ _ _ _)) (by have:=HLN.out;have:=HXB.out;first | (simp;omega) | (simp [nums_length];omega)) ?_;intro v8 w8 o8 k8x;have k8:=Kp.trans (by first | assumption | exact zAS (by assumption) | exact Kp.alloc (by assumption) _ | exact zAS (Kp.alloc (by assumption) _) | exact Kp.alloc (zAS (by assumption)) _) k8x;(first | (have f2:=own_kp f2 k8x h2) | (have f2:=own_kp (zAH f2 _) k8x h2) | skip);try go_simp)
       | (refine zBC (by rfl) _ _ 22 (by rfl) Tryz.underlying22 hi hz0 hz1 hz2 B _ _ _ _ _ (by rfl) (by rfl) (by first | assumption | exact zAL (by assumption) | exact zAH (by assumption) _ | exact zAL (zAH (by assumption) _) | exact zAH (zAL (by assumption)) _) (ble HB0.out (by first | assumption | exact zAS (by assumption) | exact Kp.alloc (by assumption) _ | exact zAS (Kp.alloc (by assumption) _) | exact Kp.alloc (zAS (by assumption)) _)) (by first | exact zAT f2 (zAQ _ _ _) | exact zAT (zAH f2 _) (zAQ _ _ _)) (by have:=HLN.out;have:=HXB.out;first | (simp;omega) | (simp [nums_length];omega)) ?_;intro v9 w9 o9 k9x;have k9:=Kp.trans (by first | assumption | exact zAS (by assumption) | exact Kp.alloc (by assumption) _ | exact zAS (Kp.alloc (by assumption) _) | exact Kp.alloc (zAS (by assumption)) _) k9x;try go_simp))
    all_goals
     go_wp2_with fail
     go_meet
     exact ⟨rfl,o9,k9⟩
   case rest =>
   clear o1 k1
   obtain ⟨rfl,o1,k1⟩:=hcut
   obtain ⟨w2,rfl⟩ : ∃ w2,w2=wc:=⟨_,rfl⟩
   obtain ⟨v2,rfl⟩ : ∃ v2,v2=u3:=⟨_,rfl⟩
   obtain ⟨z2,HZ2⟩ : ∃ z2,Hid (z1 ++ nums x.t 3 3 ++ nums (x.h+1) 2 2=z2):=⟨_,rfl⟩
   rw [HZ2.out] at o1
   have HLN:Hid (z2.length≤1200):=by show _≤_;rw [← HZ2.out];simp only [List.length_append,nums_length];have:=HLN.out;omega
   go_upto_region 9 with fail
   go_cut [3,5] (fun s3 s5 wx=>s5=.pointer (some ⟨bx,0,none⟩)∧OwnB 5 wx B s3 (z2 ++ nums x.e 4 4 ++ nums (x.ws.length:Int) 1 1)∧Kp w0 wx v0 s3)
   case first =>
    go_region_held_law (fun W=>W.cell? ⟨bx,0,none⟩=some (.string x.n)∧W.cell? ⟨bx,1,none⟩=some (.int .i64 x.t)∧W.cell? ⟨bx,2,none⟩=some (.int .i64 x.h)∧W.cell? ⟨bx,3,none⟩=some (.int .i64 x.e)∧W.cell? ⟨bx,4,none⟩=some (.slice ua x.ws.length uc)) (first | exact (HL.out _ _ (by first | assumption | exact zAS (by assumption) | exact Kp.alloc (by assumption) _ | exact zAS (Kp.alloc (by assumption) _) | exact Kp.alloc (zAS (by assumption)) _)).1)
     (first
       | (go_simp;go_at_call 43;(with_reducible refine (num4 (x.e) _).mono ?_);rintro e wn ⟨vnf1,rfl,f1,bn⟩;obtain ⟨on,kn,h1⟩:=zBs bn (by first | assumption | exact zAL (by assumption) | exact zAH (by assumption) _ | exact zAL (zAH (by assumption) _) | exact zAH (zAL (by assumption)) _) (by first | assumption | exact zAS (by assumption) | exact Kp.alloc (by assumption) _ | exact zAS (Kp.alloc (by assumption) _) | exact Kp.alloc (zAS (by assumption)) _);(first | (have fb:=own_below (zAi 5 _ _ _ (Nat.le_refl _)) bn;have hb:=own_lt o1) | (have fb:=own_below (zAL (zAi 5 _ _ _ (Nat.le_refl _))) bn;have hb:=own_lt o1) | skip);clear bn;try go_simp)
       | (refine zBC (by rfl) _ _ 22 (by rfl) Tryz.underlying22 hi hz0 hz1 hz2 B _ _ _ _ _ (by rfl) (by rfl) (by first | assumption | exact zAL (by assumption) | exact zAH (by assumption) _ | exact zAL (zAH (by assumption) _) | exact zAH (zAL (by assumption)) _) (ble HB0.out (by first | assumption | exact zAS (by assumption) | exact Kp.alloc (by assumption) _ | exact zAS (Kp.alloc (by assumption) _) | exact Kp.alloc (zAS (by assumption)) _)) (by first | exact zAT f1 (zAQ _ _ _) | exact zAT (zAH f1 _) (zAQ _ _ _)) (by have:=HLN.out;have:=HXB.out;first | (simp;omega) | (simp [nums_length];omega)) ?_;intro v8 w8 o8 k8x;have k8:=Kp.trans (by first | assumption | exact zAS (by assumption) | exact Kp.alloc (by assumption) _ | exact zAS (Kp.alloc (by assumption) _) | exact Kp.alloc (zAS (by assumption)) _) k8x;(first | (have fb:=own_kp fb k8x hb) | (have fb:=own_kp (zAi 5 _ _ _ (Nat.le_refl _)) k8x (own_lt (by first | assumption | exact zAL (by assumption) | exact zAH (by assumption) _ | exact zAL (zAH (by assumption) _) | exact zAH (zAL (by assumption)) _))) | skip);try go_simp)
       | (refine zBC (by rfl) _ _ 22 (by rfl) Tryz.underlying22 hi hz0 hz1 hz2 B _ _ _ _ _ (by rfl) (by rfl) (by first | assumption | exact zAL (by assumption) | exact zAH (by assumption) _ | exact zAL (zAH (by assumption) _) | exact zAH (zAL (by assumption)) _) (ble HB0.out (by first | assumption | exact zAS (by assumption) | exact Kp.alloc (by assumption) _ | exact zAS (Kp.alloc (by assumption) _) | exact Kp.alloc (zAS (by assumption)) _)) (by first | exact zAT fb (zAd (zAb _)) | exact zAT (zAi 5 _ _ _ (Nat.le_refl _)) (zAd (zAb _)) | exact rowB_drew (zAT (zAi 5 _ _ _ (Nat.le_refl _)) (zAd (zAb _))) | exact zAT (zAL (zAi 5 _ _ _ (Nat.le_refl _))) (zAd (zAb _))) (by have:=HLN.out;have:=HXB.out;first | (simp;omega) | (simp [nums_length];omega)) ?_;intro v9 w9 o9 k9x;have k9:=Kp.trans (by first | assumption | exact zAS (by assumption) | exact Kp.alloc (by assumption) _ | exact zAS (Kp.alloc (by assumption) _) | exact Kp.alloc (zAS (by assumption)) _) k9x;try go_simp))
    all_goals
     rw [wrap1] at o9
     go_wp2_with fail
     go_meet
     exact ⟨rfl,o9,k9⟩
   case rest =>
   clear o1 k1
   obtain ⟨rfl,o1,k1⟩:=hcut
   obtain ⟨w3,rfl⟩ : ∃ w3,w3=wc:=⟨_,rfl⟩
   obtain ⟨v3,rfl⟩ : ∃ v3,v3=u3:=⟨_,rfl⟩
   obtain ⟨z3,HZ3⟩ : ∃ z3,Hid (z2 ++ nums x.e 4 4 ++ nums (x.ws.length:Int) 1 1=z3):=⟨_,rfl⟩
   rw [HZ3.out] at o1
   have HLN:Hid (z3.length≤1300):=by show _≤_;rw [← HZ3.out];simp only [List.length_append,nums_length];have:=HLN.out;omega
   have hw4:x.ws.length≤4:=HXB.out.2
   have HO3:Hid (OwnB 5 w3 B v3 z3∧Kp w0 w3 v0 v3):=⟨o1,k1⟩
   obtain ⟨⟨q0,q1,q2,q3,q4⟩,_⟩:=HL.out _ _ k1
   clear o1 k1 O0
   go_wp2_with fail
   clear q0 q1 q2 q3 q4
   go_loopw [3,6] (fun b i wr=>∃ m:Nat,m≤x.ws.length∧i=.int .i64 m∧Hid (OwnB 5 wr B b (z3 ++ wsBs (x.ws.take m))∧Kp w0 wr v0 b)) (fun _ i _=>x.ws.length - (intOf i).toNat)
   case atStart=>exact ⟨0,by omega,rfl,⟨by simpa [wsBs] using HO3.out.1,HO3.out.2⟩⟩
   case round =>
    rename World=>wi
    clear HO3
    obtain ⟨m,hm,rfl,HM⟩:=hrel
    obtain ⟨v4,rfl⟩ : ∃ v4,v4=u3:=⟨_,rfl⟩
    obtain ⟨⟨q0,q1,q2,q3,q4⟩,q5,hrw,_⟩:=HL.out _ _ HM.out.2
    by_cases hlt2:m<x.ws.length
    ·obtain ⟨z,hz⟩:=Tw.get_at hlt2
     obtain ⟨b2,off2,rfl,_,hb2,_,_⟩:=RowG.at hrw rfl hz
     have HT2:Hid (wsBs (x.ws.take (m+1))=wsBs (x.ws.take m) ++ wtBs z):=take_bs wtBs hz
     have HL2:Hid (∀ W v',Kp w0 W v0 v'→(W.cell? ⟨bx,4,none⟩=some (.slice (some ⟨b2,off2,none⟩) x.ws.length uc)∧W.cell? ⟨b2,off2+m * 2,none⟩=some (.int .i64 z.c)∧W.cell? ⟨b2,off2+m * 2+1,none⟩=some (.int .i64 z.l))):=fun W v' h=>by
      obtain ⟨⟨_,_,_,_,p4⟩,_,pr,_⟩:=HL.out W v' h
      obtain ⟨b',off',e,_,_,d0,d1⟩:=RowG.at pr rfl hz
      cases e
      exact ⟨p4,d0,d1⟩
     obtain ⟨z4,HZ4⟩ : ∃ z4,Hid (z3 ++ wsBs (x.ws.take m)=z4):=⟨_,rfl⟩
     have HLN:Hid (z4.length≤1400):=by show _≤_;rw [← HZ4.out,List.length_append,wsBs_len,List.length_take];have:=HLN.out;have:=HXB.out;omega
     have o1:=HM.out.1
     have k1:=HM.out.2
     rw [HZ4.out] at o1
     have l1:(0:Int)≤(m:Int):=by omega
     have l2:(m:Int)<(x.ws.length:Int):=by omega
     clear hz hrw q0 q1 q2 q3 HM
     go_upto_region 13 with fail
     clear q4 q5
     go_region_held_law (fun W=>W.cell? ⟨bx,4,none⟩=some (.slice (some ⟨b2,off2,none⟩) x.ws.length uc)∧W.cell? ⟨b2,off2+m * 2,none⟩=some (.int .i64 z.c)∧W.cell? ⟨b2,off2+m * 2+1,none⟩=some (.int .i64 z.l)) (first | exact (HL2.out _ _ (by first | assumption | exact zAS (by assumption) | exact Kp.alloc (by assumption) _ | exact zAS (Kp.alloc (by assumption) _) | exact Kp.alloc (zAS (by assumption)) _)))
      (first
        | (go_simp;go_at_call 43;(with_reducible refine (num2 (z.l) _).mono ?_);rintro e wn ⟨vnf1,rfl,f1,bn⟩;obtain ⟨on,kn,h1⟩:=zBs bn (by first | assumption | exact zAL (by assumption) | exact zAH (by assumption) _ | exact zAL (zAH (by assumption) _) | exact zAH (zAL (by assumption)) _) (by first | assumption | exact zAS (by assumption) | exact Kp.alloc (by assumption) _ | exact zAS (Kp.alloc (by assumption) _) | exact Kp.alloc (zAS (by assumption)) _);(first | (have fb:=own_below (zAi 5 _ _ _ (Nat.le_refl _)) bn;have hb:=own_lt o1) | (have fb:=own_below (zAL (zAi 5 _ _ _ (Nat.le_refl _))) bn;have hb:=own_lt o1) | skip);clear bn;try go_simp)
        | (refine zBC (by rfl) _ _ 22 (by rfl) Tryz.underlying22 hi hz0 hz1 hz2 B _ _ _ _ _ (by rfl) (by rfl) (by first | assumption | exact zAL (by assumption) | exact zAH (by assumption) _ | exact zAL (zAH (by assumption) _) | exact zAH (zAL (by assumption)) _) (ble HB0.out (by first | assumption | exact zAS (by assumption) | exact Kp.alloc (by assumption) _ | exact zAS (Kp.alloc (by assumption) _) | exact Kp.alloc (zAS (by assumption)) _)) (by first | exact zAT fb (zAd (zAb _)) | exact zAT (zAi 5 _ _ _ (Nat.le_refl _)) (zAd (zAb _)) | exact rowB_drew (zAT (zAi 5 _ _ _ (Nat.le_refl _)) (zAd (zAb _))) | exact zAT (zAL (zAi 5 _ _ _ (Nat.le_refl _))) (zAd (zAb _))) (by have:=HLN.out;have:=HXB.out;first | (simp;omega) | (simp [nums_length];omega)) ?_;intro v8 w8 o8 k8x;have k8:=Kp.trans (by first | assumption | exact zAS (by assumption) | exact Kp.alloc (by assumption) _ | exact zAS (Kp.alloc (by assumption) _) | exact Kp.alloc (zAS (by assumption)) _) k8x;(first | (have f1:=own_kp f1 k8x h1) | (have f1:=own_kp (zAH f1 _) k8x h1) | skip);try go_simp)
        | (refine zBC (by rfl) _ _ 22 (by rfl) Tryz.underlying22 hi hz0 hz1 hz2 B _ _ _ _ _ (by rfl) (by rfl) (by first | assumption | exact zAL (by assumption) | exact zAH (by assumption) _ | exact zAL (zAH (by assumption) _) | exact zAH (zAL (by assumption)) _) (ble HB0.out (by first | assumption | exact zAS (by assumption) | exact Kp.alloc (by assumption) _ | exact zAS (Kp.alloc (by assumption) _) | exact Kp.alloc (zAS (by assumption)) _)) (by first | exact zAT f1 (zAQ _ _ _) | exact zAT (zAH f1 _) (zAQ _ _ _)) (by have:=HLN.out;have:=HXB.out;first | (simp;omega) | (simp [nums_length];omega)) ?_;intro v9 w9 o9 k9x;have k9:=Kp.trans (by first | assumption | exact zAS (by assumption) | exact Kp.alloc (by assumption) _ | exact zAS (Kp.alloc (by assumption) _) | exact Kp.alloc (zAS (by assumption)) _) k9x;try go_simp))
     all_goals
      rw [wrap1] at o9
      have O9:Hid (OwnB 5 w9 B v9 (z3 ++ wsBs (x.ws.take (m+1)))∧Kp w0 w9 v0 v9):=⟨by rw [HT2.out,← List.append_assoc,HZ4.out];unfold wtBs;rw [← List.append_assoc];exact o9,k9⟩
      clear o9 k9
      go_wp2_with fail
      first
       | exact ⟨⟨m+1,by omega,by go_num,O9⟩,by simp [intOf];omega⟩
       | (go_roundw
          case rel=>(repeat apply Exists.intro);exact ⟨⟨m+1,by omega,by go_num,O9⟩,rfl⟩
          case measure=>simp [intOf];omega)
    ·obtain rfl:m=x.ws.length:=by omega
     have HE:Hid (z3 ++ wsBs (x.ws.take x.ws.length)=ys ++ lsBs (ls.take (k+1))):=by
      show _=_
      rw [List.take_length,HT.out,← HZ3.out,← HZ2.out,← HZ1.out,← HZS.out]
      unfold lkBs
      simp [List.append_assoc]
     have HFO:Hid (OwnB 5 wi B v4 (ys ++ lsBs (ls.take (k+1)))∧Below B wb wi):=⟨by rw [← HE.out];exact HM.out.1,(HL.out _ _ HM.out.2).2.2.2⟩
     clear hrw HM
     go_wp2_with fail
     first
      | exact ⟨⟨k+1,by omega,by go_num,HFO⟩,by simp [intOf];omega⟩
      | (go_roundw
         case rel=>(repeat apply Exists.intro);exact ⟨⟨k+1,by omega,by go_num,HFO⟩,rfl⟩
         case measure=>simp [intOf];omega)
  ·obtain rfl:k=ls.length:=by omega
   rw [List.take_length] at HO
   have HLN:Hid ((ys ++ lsBs ls).length≤1000):=by
    show _≤_
    have h1:=zCI ls (fun x hx=>⟨(HBD.out.2.2.1 x hx).1,(HBD.out.2.2.1 x hx).2.1⟩)
    have h2:=HBD.out.1
    rw [List.length_append,HYL.out]
    omega
   have hsr:(0:Int)≤(ss.length:Int)∧(ss.length:Int)≤255:=by have:=HBD.out.2.1;omega
   clear hrl
   go_wp2_with (at_builtin;go_must (refine list_one (by rfl) _ _ 22 (by rfl) Tryz.underlying22 hi hz0 hz1 hz2 B _ _ _ _ (by rfl) (by rfl) HO.out.1 (Nat.le_trans HBL.out HO.out.2.size) hsr (by have:=HLN.out;omega) ?_;intro v5 w5 o5 k5))
   have B5:=HO.out.2.trans (k5.below HO.out.1 (Nat.le_trans HBL.out HO.out.2.size))
   obtain ⟨zt,HZT⟩ : ∃ zt,Hid (ys ++ lsBs ls ++ nums (ss.length:Int) 1 1=zt):=⟨_,rfl⟩
   have HZL:Hid (zt.length≤1001):=by show _≤_;rw [← HZT.out,List.length_append,nums_length];have:=HLN.out;omega
   rw [one_num hsr,HZT.out] at o5
   have O5:Hid (OwnB 5 w5 B v5 zt∧Below B wb w5):=⟨o5,B5⟩
   clear o5 k5 B5 HO hsr x0 x1 x2 x3 HLN
   obtain ⟨⟨x0,x1,x2,x3⟩,_⟩:=HX.out _ O5.out.2
   go_wp2_with fail
   clear x0 x1 x2 x3
   go_loopw [3,7] (fun b i wr=>∃ k:Nat,k≤ss.length∧i=.int .i64 k∧Hid (OwnB 5 wr B b (zt ++ ssBs (ss.take k))∧Below B wb wr)) (fun _ i _=>ss.length - (intOf i).toNat)
   case atStart=>exact ⟨0,by omega,rfl,⟨by simpa [ssBs] using O5.out.1,O5.out.2⟩⟩
   case round =>
    rename World=>wi
    clear O5
    obtain ⟨k,hk,rfl,HO⟩:=hrel
    obtain ⟨v0,rfl⟩ : ∃ v0,v0=u3:=⟨_,rfl⟩
    obtain ⟨⟨x0,x1,x2,x3⟩,_,hrs,hbw⟩:=HX.out _ HO.out.2
    by_cases hlt:k<ss.length
    ·obtain ⟨x,hx⟩:=Tw.get_at hlt
     obtain ⟨b,off,rfl,hbl,hbB,c0,c1,c2,c3,c4,c5⟩:=RowG.at hrs rfl hx
     have HT:Hid (ssBs (ss.take (k+1))=ssBs (ss.take k) ++ snBs x):=take_bs snBs hx
     have hh1:=HBD.out.2.2.2 x (mem_at hx)
     have hwr:IntKind.i64.wrap (x.h+1)=x.h+1:=by rw [IntKind.wrap_i64];omega
     have HXB:Hid (True):=trivial
     obtain ⟨zs,HZS⟩ : ∃ zs,Hid (zt ++ ssBs (ss.take k)=zs):=⟨_,rfl⟩
     have HLN:Hid (zs.length≤1100):=by
      show _≤_
      have h2:=HBD.out.2.1
      have h3:=HZL.out
      rw [← HZS.out,List.length_append,zCA,List.length_take]
      omega
     rw [HZS.out] at HO
     obtain ⟨bx,HBX⟩ : ∃ bx,Hid (wi.heap.size=bx):=⟨_,rfl⟩
     have O0:Hid (OwnB 5 (wi.alloc (.cells #[.int .i64 x.c,.int .i64 x.s,.int .i64 x.k,.int .i64 x.t,.int .i64 x.h,.int .i64 x.e] 102)) B v0 zs∧B≤(wi.alloc (.cells #[.int .i64 x.c,.int .i64 x.s,.int .i64 x.k,.int .i64 x.t,.int .i64 x.h,.int .i64 x.e] 102)).heap.size):=⟨zAH HO.out.1 _,Nat.le_trans (Nat.le_trans HBL.out HO.out.2.size) (by simp)⟩
     have HL:Hid (∀ W v',Kp (wi.alloc (.cells #[.int .i64 x.c,.int .i64 x.s,.int .i64 x.k,.int .i64 x.t,.int .i64 x.h,.int .i64 x.e] 102)) W v0 v'→(W.cell? ⟨bx,0,none⟩=some (.int .i64 x.c)∧W.cell? ⟨bx,1,none⟩=some (.int .i64 x.s)∧W.cell? ⟨bx,2,none⟩=some (.int .i64 x.k)∧W.cell? ⟨bx,3,none⟩=some (.int .i64 x.t)∧W.cell? ⟨bx,4,none⟩=some (.int .i64 x.h)∧W.cell? ⟨bx,5,none⟩=some (.int .i64 x.e))∧Below B wb W):=fun W v' h=>by
      have h1:=box_kept h (own_away HO.out.1)
      rw [HBX.out] at h1
      have h2:=h.below O0.out.1 O0.out.2
      have h3:Below B wi (wi.alloc (.cells #[.int .i64 x.c,.int .i64 x.s,.int .i64 x.k,.int .i64 x.t,.int .i64 x.h,.int .i64 x.e] 102)):=(zAD wi _).mono (Nat.le_trans HBL.out HO.out.2.size)
      exact ⟨⟨(zAA h1 0 rfl).1,(zAA h1 1 rfl).1,(zAA h1 2 rfl).1,(zAA h1 3 rfl).1,(zAA h1 4 rfl).1,(zAA h1 5 rfl).1⟩,HO.out.2.trans (h3.trans h2)⟩
     clear hx hrs hbw HO
     go_upto_region 19 with fail
     clear c0 c1 c2 c3 c4 c5 x0 x1 x2 x3
     generalize wi.alloc (.cells #[.int .i64 x.c,.int .i64 x.s,.int .i64 x.k,.int .i64 x.t,.int .i64 x.h,.int .i64 x.e] 102)=w0 at HL O0 ⊢
     rw [HBX.out]
     have HB0:Hid (B≤w0.heap.size):=O0.out.2
     go_cut [3,8] (fun s3 s8 wx=>s8=.pointer (some ⟨bx,0,none⟩)∧OwnB 5 wx B s3 (zs ++ nums x.c 1 1 ++ nums x.s 2 2)∧Kp w0 wx v0 s3)
     case first =>
      have o1:=O0.out.1
      have k1:=Kp.refl w0 v0
      go_region_held_law (fun W=>W.cell? ⟨bx,0,none⟩=some (.int .i64 x.c)∧W.cell? ⟨bx,1,none⟩=some (.int .i64 x.s)∧W.cell? ⟨bx,2,none⟩=some (.int .i64 x.k)∧W.cell? ⟨bx,3,none⟩=some (.int .i64 x.t)∧W.cell? ⟨bx,4,none⟩=some (.int .i64 x.h)∧W.cell? ⟨bx,5,none⟩=some (.int .i64 x.e)) (first | exact (HL.out _ _ (by first | assumption | exact zAS (by assumption) | exact Kp.alloc (by assumption) _ | exact zAS (Kp.alloc (by assumption) _) | exact Kp.alloc (zAS (by assumption)) _)).1)
       (first
         | (go_simp;go_at_call 43;(with_reducible refine (num2 (x.s) _).mono ?_);rintro e wn ⟨vnf1,rfl,f1,bn⟩;obtain ⟨on,kn,h1⟩:=zBs bn (by first | assumption | exact zAL (by assumption) | exact zAH (by assumption) _ | exact zAL (zAH (by assumption) _) | exact zAH (zAL (by assumption)) _) (by first | assumption | exact zAS (by assumption) | exact Kp.alloc (by assumption) _ | exact zAS (Kp.alloc (by assumption) _) | exact Kp.alloc (zAS (by assumption)) _);(first | (have fb:=own_below (zAi 5 _ _ _ (Nat.le_refl _)) bn;have hb:=own_lt o1) | (have fb:=own_below (zAL (zAi 5 _ _ _ (Nat.le_refl _))) bn;have hb:=own_lt o1) | skip);clear bn;try go_simp)
         | (refine zBC (by rfl) _ _ 22 (by rfl) Tryz.underlying22 hi hz0 hz1 hz2 B _ _ _ _ _ (by rfl) (by rfl) (by first | assumption | exact zAL (by assumption) | exact zAH (by assumption) _ | exact zAL (zAH (by assumption) _) | exact zAH (zAL (by assumption)) _) (ble HB0.out (by first | assumption | exact zAS (by assumption) | exact Kp.alloc (by assumption) _ | exact zAS (Kp.alloc (by assumption) _) | exact Kp.alloc (zAS (by assumption)) _)) (by first | exact zAT fb (zAd (zAb _)) | exact zAT (zAi 5 _ _ _ (Nat.le_refl _)) (zAd (zAb _)) | exact rowB_drew (zAT (zAi 5 _ _ _ (Nat.le_refl _)) (zAd (zAb _))) | exact zAT (zAL (zAi 5 _ _ _ (Nat.le_refl _))) (zAd (zAb _))) (by have:=HLN.out;have:=HXB.out;first | (simp;omega) | (simp [nums_length];omega)) ?_;intro v8 w8 o8 k8x;have k8:=Kp.trans (by first | assumption | exact zAS (by assumption) | exact Kp.alloc (by assumption) _ | exact zAS (Kp.alloc (by assumption) _) | exact Kp.alloc (zAS (by assumption)) _) k8x;(first | (have f1:=own_kp f1 k8x h1) | (have f1:=own_kp (zAH f1 _) k8x h1) | skip);try go_simp)
         | (refine zBC (by rfl) _ _ 22 (by rfl) Tryz.underlying22 hi hz0 hz1 hz2 B _ _ _ _ _ (by rfl) (by rfl) (by first | assumption | exact zAL (by assumption) | exact zAH (by assumption) _ | exact zAL (zAH (by assumption) _) | exact zAH (zAL (by assumption)) _) (ble HB0.out (by first | assumption | exact zAS (by assumption) | exact Kp.alloc (by assumption) _ | exact zAS (Kp.alloc (by assumption) _) | exact Kp.alloc (zAS (by assumption)) _)) (by first | exact zAT f1 (zAQ _ _ _) | exact zAT (zAH f1 _) (zAQ _ _ _)) (by have:=HLN.out;have:=HXB.out;first | (simp;omega) | (simp [nums_length];omega)) ?_;intro v9 w9 o9 k9x;have k9:=Kp.trans (by first | assumption | exact zAS (by assumption) | exact Kp.alloc (by assumption) _ | exact zAS (Kp.alloc (by assumption) _) | exact Kp.alloc (zAS (by assumption)) _) k9x;try go_simp))
      all_goals
       rw [wrap1] at o9
       go_wp2_with fail
       go_meet
       exact ⟨rfl,o9,k9⟩
     case rest =>
     obtain ⟨rfl,o1,k1⟩:=hcut
     obtain ⟨w1,rfl⟩ : ∃ w1,w1=wc:=⟨_,rfl⟩
     obtain ⟨v1,rfl⟩ : ∃ v1,v1=u3:=⟨_,rfl⟩
     obtain ⟨z1,HZ1⟩ : ∃ z1,Hid (zs ++ nums x.c 1 1 ++ nums x.s 2 2=z1):=⟨_,rfl⟩
     rw [HZ1.out] at o1
     have HLN:Hid (z1.length≤1200):=by show _≤_;rw [← HZ1.out];simp only [List.length_append,nums_length];have:=HLN.out;omega
     go_upto_region 20 with fail
     go_cut [3,8] (fun s3 s8 wx=>s8=.pointer (some ⟨bx,0,none⟩)∧OwnB 5 wx B s3 (z1 ++ nums x.k 1 1 ++ nums x.t 3 3)∧Kp w0 wx v0 s3)
     case first =>
      go_region_held_law (fun W=>W.cell? ⟨bx,0,none⟩=some (.int .i64 x.c)∧W.cell? ⟨bx,1,none⟩=some (.int .i64 x.s)∧W.cell? ⟨bx,2,none⟩=some (.int .i64 x.k)∧W.cell? ⟨bx,3,none⟩=some (.int .i64 x.t)∧W.cell? ⟨bx,4,none⟩=some (.int .i64 x.h)∧W.cell? ⟨bx,5,none⟩=some (.int .i64 x.e)) (first | exact (HL.out _ _ (by first | assumption | exact zAS (by assumption) | exact Kp.alloc (by assumption) _ | exact zAS (Kp.alloc (by assumption) _) | exact Kp.alloc (zAS (by assumption)) _)).1)
       (first
         | (go_simp;go_at_call 43;(with_reducible refine (num3 (x.t) _).mono ?_);rintro e wn ⟨vnf1,rfl,f1,bn⟩;obtain ⟨on,kn,h1⟩:=zBs bn (by first | assumption | exact zAL (by assumption) | exact zAH (by assumption) _ | exact zAL (zAH (by assumption) _) | exact zAH (zAL (by assumption)) _) (by first | assumption | exact zAS (by assumption) | exact Kp.alloc (by assumption) _ | exact zAS (Kp.alloc (by assumption) _) | exact Kp.alloc (zAS (by assumption)) _);(first | (have fb:=own_below (zAi 5 _ _ _ (Nat.le_refl _)) bn;have hb:=own_lt o1) | (have fb:=own_below (zAL (zAi 5 _ _ _ (Nat.le_refl _))) bn;have hb:=own_lt o1) | skip);clear bn;try go_simp)
         | (refine zBC (by rfl) _ _ 22 (by rfl) Tryz.underlying22 hi hz0 hz1 hz2 B _ _ _ _ _ (by rfl) (by rfl) (by first | assumption | exact zAL (by assumption) | exact zAH (by assumption) _ | exact zAL (zAH (by assumption) _) | exact zAH (zAL (by assumption)) _) (ble HB0.out (by first | assumption | exact zAS (by assumption) | exact Kp.alloc (by assumption) _ | exact zAS (Kp.alloc (by assumption) _) | exact Kp.alloc (zAS (by assumption)) _)) (by first | exact zAT fb (zAd (zAb _)) | exact zAT (zAi 5 _ _ _ (Nat.le_refl _)) (zAd (zAb _)) | exact rowB_drew (zAT (zAi 5 _ _ _ (Nat.le_refl _)) (zAd (zAb _))) | exact zAT (zAL (zAi 5 _ _ _ (Nat.le_refl _))) (zAd (zAb _))) (by have:=HLN.out;have:=HXB.out;first | (simp;omega) | (simp [nums_length];omega)) ?_;intro v8 w8 o8 k8x;have k8:=Kp.trans (by first | assumption | exact zAS (by assumption) | exact Kp.alloc (by assumption) _ | exact zAS (Kp.alloc (by assumption) _) | exact Kp.alloc (zAS (by assumption)) _) k8x;(first | (have f1:=own_kp f1 k8x h1) | (have f1:=own_kp (zAH f1 _) k8x h1) | skip);try go_simp)
         | (refine zBC (by rfl) _ _ 22 (by rfl) Tryz.underlying22 hi hz0 hz1 hz2 B _ _ _ _ _ (by rfl) (by rfl) (by first | assumption | exact zAL (by assumption) | exact zAH (by assumption) _ | exact zAL (zAH (by assumption) _) | exact zAH (zAL (by assumption)) _) (ble HB0.out (by first | assumption | exact zAS (by assumption) | exact Kp.alloc (by assumption) _ | exact zAS (Kp.alloc (by assumption) _) | exact Kp.alloc (zAS (by assumption)) _)) (by first | exact zAT f1 (zAQ _ _ _) | exact zAT (zAH f1 _) (zAQ _ _ _)) (by have:=HLN.out;have:=HXB.out;first | (simp;omega) | (simp [nums_length];omega)) ?_;intro v9 w9 o9 k9x;have k9:=Kp.trans (by first | assumption | exact zAS (by assumption) | exact Kp.alloc (by assumption) _ | exact zAS (Kp.alloc (by assumption) _) | exact Kp.alloc (zAS (by assumption)) _) k9x;try go_simp))
      all_goals
       rw [wrap1] at o9
       go_wp2_with fail
       go_meet
       exact ⟨rfl,o9,k9⟩
     case rest =>
     clear o1 k1
     obtain ⟨rfl,o1,k1⟩:=hcut
     obtain ⟨w2,rfl⟩ : ∃ w2,w2=wc:=⟨_,rfl⟩
     obtain ⟨v2,rfl⟩ : ∃ v2,v2=u3:=⟨_,rfl⟩
     obtain ⟨z2,HZ2⟩ : ∃ z2,Hid (z1 ++ nums x.k 1 1 ++ nums x.t 3 3=z2):=⟨_,rfl⟩
     rw [HZ2.out] at o1
     have HLN:Hid (z2.length≤1300):=by show _≤_;rw [← HZ2.out];simp only [List.length_append,nums_length];have:=HLN.out;omega
     go_upto_region 21 with fail
     go_region_held_law (fun W=>W.cell? ⟨bx,0,none⟩=some (.int .i64 x.c)∧W.cell? ⟨bx,1,none⟩=some (.int .i64 x.s)∧W.cell? ⟨bx,2,none⟩=some (.int .i64 x.k)∧W.cell? ⟨bx,3,none⟩=some (.int .i64 x.t)∧W.cell? ⟨bx,4,none⟩=some (.int .i64 x.h)∧W.cell? ⟨bx,5,none⟩=some (.int .i64 x.e)) (first | exact (HL.out _ _ (by first | assumption | exact zAS (by assumption) | exact Kp.alloc (by assumption) _ | exact zAS (Kp.alloc (by assumption) _) | exact Kp.alloc (zAS (by assumption)) _)).1)
      (first
        | (go_simp;go_at_call 43;(with_reducible refine (num2 (x.h+1) _).mono ?_);rintro e wn ⟨vnf1,rfl,f1,bn⟩;obtain ⟨on,kn,h1⟩:=zBs bn (by first | assumption | exact zAL (by assumption) | exact zAH (by assumption) _ | exact zAL (zAH (by assumption) _) | exact zAH (zAL (by assumption)) _) (by first | assumption | exact zAS (by assumption) | exact Kp.alloc (by assumption) _ | exact zAS (Kp.alloc (by assumption) _) | exact Kp.alloc (zAS (by assumption)) _);clear bn;try go_simp)
        | (go_simp;go_at_call 43;(with_reducible refine (num4 (x.e) _).mono ?_);rintro e wn ⟨vnf2,rfl,f2,bn⟩;obtain ⟨on,kn,h2⟩:=zBs bn (by first | assumption | exact zAL (by assumption) | exact zAH (by assumption) _ | exact zAL (zAH (by assumption) _) | exact zAH (zAL (by assumption)) _) (by first | assumption | exact zAS (by assumption) | exact Kp.alloc (by assumption) _ | exact zAS (Kp.alloc (by assumption) _) | exact Kp.alloc (zAS (by assumption)) _);(first | (have f1:=own_below f1 bn) | skip);clear bn;try go_simp)
        | (refine zBC (by rfl) _ _ 22 (by rfl) Tryz.underlying22 hi hz0 hz1 hz2 B _ _ _ _ _ (by rfl) (by rfl) (by first | assumption | exact zAL (by assumption) | exact zAH (by assumption) _ | exact zAL (zAH (by assumption) _) | exact zAH (zAL (by assumption)) _) (ble HB0.out (by first | assumption | exact zAS (by assumption) | exact Kp.alloc (by assumption) _ | exact zAS (Kp.alloc (by assumption) _) | exact Kp.alloc (zAS (by assumption)) _)) (by first | exact zAT f1 (zAQ _ _ _) | exact zAT (zAH f1 _) (zAQ _ _ _)) (by have:=HLN.out;have:=HXB.out;first | (simp;omega) | (simp [nums_length];omega)) ?_;intro v8 w8 o8 k8x;have k8:=Kp.trans (by first | assumption | exact zAS (by assumption) | exact Kp.alloc (by assumption) _ | exact zAS (Kp.alloc (by assumption) _) | exact Kp.alloc (zAS (by assumption)) _) k8x;(first | (have f2:=own_kp f2 k8x h2) | (have f2:=own_kp (zAH f2 _) k8x h2) | skip);try go_simp)
        | (refine zBC (by rfl) _ _ 22 (by rfl) Tryz.underlying22 hi hz0 hz1 hz2 B _ _ _ _ _ (by rfl) (by rfl) (by first | assumption | exact zAL (by assumption) | exact zAH (by assumption) _ | exact zAL (zAH (by assumption) _) | exact zAH (zAL (by assumption)) _) (ble HB0.out (by first | assumption | exact zAS (by assumption) | exact Kp.alloc (by assumption) _ | exact zAS (Kp.alloc (by assumption) _) | exact Kp.alloc (zAS (by assumption)) _)) (by first | exact zAT f2 (zAQ _ _ _) | exact zAT (zAH f2 _) (zAQ _ _ _)) (by have:=HLN.out;have:=HXB.out;first | (simp;omega) | (simp [nums_length];omega)) ?_;intro v9 w9 o9 k9x;have k9:=Kp.trans (by first | assumption | exact zAS (by assumption) | exact Kp.alloc (by assumption) _ | exact zAS (Kp.alloc (by assumption) _) | exact Kp.alloc (zAS (by assumption)) _) k9x;try go_simp))
     all_goals
      have HFO:Hid (OwnB 5 w9 B v9 (zt ++ ssBs (ss.take (k+1)))∧Below B wb w9):=⟨by rw [HT.out,← List.append_assoc,HZS.out];unfold snBs;rw [← HZ2.out,← HZ1.out] at o9;simpa [List.append_assoc] using o9,(HL.out _ _ k9).2⟩
      clear o9 k9
      go_wp2_with fail
      first
       | exact ⟨⟨k+1,by omega,by go_num,HFO⟩,by simp [intOf];omega⟩
       | (go_roundw
          case rel=>(repeat apply Exists.intro);exact ⟨⟨k+1,by omega,by go_num,HFO⟩,rfl⟩
          case measure=>simp [intOf];omega)
    ·obtain rfl:k=ss.length:=by omega
     rw [List.take_length] at HO
     have HE:Hid (zt ++ ssBs ss=zBO tm nx ls ss):=by show _=_;rw [← HZT.out,← HYS.out];unfold zBO;simp [List.append_assoc]
     have HFB:Hid (Below w.heap.size w wi∧OwnB 5 wi w.heap.size v0 (zBO tm nx ls ss)):=⟨hbw,by rw [← HE.out];exact own_le HO.out.1 (by rw [HB.out];exact HSZ.out)⟩
     clear hrs hbw HO
     go_wp2_with fail
     go_ret
     exact ⟨_,rfl,HFB.out.2,HFB.out.1⟩
end Go.Proofs.YtakfniknkejgpaaGreatDoor.Ps
namespace Go.Proofs.YtakfniknkejgpaaGreatDoor.Tq
open Go.RowKit Sl Ap Tx Tb Tw Rq Tp
theorem zAj (x a b:Int) (w:World):Calls Tryz.prog 40 #[.int .i64 x,.int .i64 a,.int .i64 b] w fun e w'=>e=.returned (.bool (inB x a b))∧w=w':=(zAl x a b w).mono fun _ _ ⟨h1,h2⟩=>⟨h1,h2.symm⟩
theorem zAw (n:ByteArray) (w:World) (hs:n.size≤maxLen):Calls Tryz.prog 41 #[.string n,.int .i64 12] w fun e w'=>e=.returned (.bool (opB n))∧w=w':=(zCX n w hs).mono fun _ _ ⟨h1,h2⟩=>⟨h1,h2.symm⟩
theorem less_total:∀ (a b:List UInt8),Op.bytesLess a b = !(Op.bytesLess b a || b == a)
 | [],[]=>rfl
 | [],_ :: _=>by simp [Op.bytesLess]
 | _ :: _,[]=>by simp [Op.bytesLess]
 | a :: x,b :: y=>by
   have ih:=less_total x y
   rw [Op.bytesLess,Op.bytesLess,ih]
   have hc:(b :: y == a :: x)=(b == a && y == x):=rfl
   rw [hc]
   rcases Nat.lt_trichotomy a.toNat b.toNat with h | h | h
   ·have e1:decide (a<b)=true:=decide_eq_true (UInt8.lt_iff_toNat_lt.2 h)
    have e2:decide (b<a)=false:=decide_eq_false (fun hh=>by have:=UInt8.lt_iff_toNat_lt.1 hh;omega)
    have e3:(b == a)=false:=beq_eq_false_iff_ne.2 (fun hh=>by rw [hh] at h;omega)
    rw [e1,e2,e3]
    rfl
   ·have e:a=b:=UInt8.toNat_inj.1 h
    subst e
    have e1:decide (a<a)=false:=decide_eq_false (fun hh=>by have:=UInt8.lt_iff_toNat_lt.1 hh;omega)
    rw [e1,beq_self_eq_true]
    cases Op.bytesLess y x <;> cases (y == x) <;> rfl
   ·have e1:decide (a<b)=false:=decide_eq_false (fun hh=>by have:=UInt8.lt_iff_toNat_lt.1 hh;omega)
    have e2:decide (b<a)=true:=decide_eq_true (UInt8.lt_iff_toNat_lt.2 h)
    have e3:(a == b)=false:=beq_eq_false_iff_ne.2 (fun hh=>by rw [hh] at h;omega)
    rw [e1,e2,e3]
    rfl
theorem op_some {n:ByteArray} (h:opB n=true):(n.toList == ([]:List UInt8))=false:=by
 unfold opB Nm.zBm at h
 simp only [Bool.and_eq_true,decide_eq_true_eq] at h
 cases hh:n.toList with
 | nil =>
   have:=h.2.1
   have hl:n.toList.length=n.size:=by rw [Lib.toList_data,Array.length_toList];rfl
   rw [hh] at hl
   simp at hl
   omega
 | cons a l=>rfl
theorem hd_iff (x:Lk):HdOK x ↔ (inB x.h (-1) 255=true∧inB x.e 0 2000000000=true∧x.ws.length≤4∧(x.h<0→x.e=0∧x.ws.length=0)∧WsOK x.h x.ws):=by
 unfold HdOK inB
 simp only [decide_eq_true_eq]
 constructor
 ·rintro (⟨h1,h2,h3⟩ | ⟨h1,h2,h3,h4,h5⟩)
  ·refine ⟨by omega,by omega,by omega,fun _=>⟨h2,h3⟩,fun k y hy=>?_⟩
   rw [List.length_eq_zero_iff.1 h3] at hy
   simp at hy
  ·exact ⟨by omega,by omega,h4,fun h=>by omega,h5⟩
 ·rintro ⟨h1,h2,h3,h4,h5⟩
  by_cases h:x.h = -1
  ·exact .inl ⟨h,(h4 (by omega)).1,(h4 (by omega)).2⟩
  ·exact .inr ⟨h,by omega,by omega,h3,h5⟩
theorem bel_n {B:Nat} {w0 w:World} (h:Below B w0 w) {n:Nat}:Below B w0 (w.drewN n):=⟨h.os,h.tape,h.output,h.size,h.block⟩
def Asks (nx:Int) (ls:List Lk) (k:Nat) (x:Lk):Prop:=opB x.n=true∧(0<k→Op.bytesLess (pn ls k).toList x.n.toList=true)∧inB x.t 0 (nx - 1)=true∧inB x.h (-1) 255=true∧inB x.e 0 2000000000=true∧x.ws.length≤4∧(x.h<0→x.e=0∧x.ws.length=0)∧WsOK x.h x.ws
theorem one_iff (nx:Int) (ls:List Lk) (k:Nat) (x:Lk):LOne nx (pn ls k) x ↔ Asks nx ls k x:=by
 unfold LOne Asks
 rw [hd_iff]
 have hless:opB x.n=true→((Op.bytesLess x.n.toList (pn ls k).toList || x.n.toList == (pn ls k).toList)=false ↔ (0<k→Op.bytesLess (pn ls k).toList x.n.toList=true)):=fun ho=>by
  rw [less_total (pn ls k).toList x.n.toList]
  by_cases hk:k=0
  ·subst hk
   have e0:(pn ls 0).toList=[]:=by unfold pn;rw [if_pos rfl,Lib.toList_data]
   rw [e0,op_some ho]
   have:Op.bytesLess x.n.toList []=false:=by cases x.n.toList <;> rfl
   rw [this]
   simp
  ·constructor
   ·intro h _
    rw [h];rfl
   ·intro h
    have:=h (by omega)
    cases hh:(Op.bytesLess x.n.toList (pn ls k).toList || x.n.toList == (pn ls k).toList) with
    | false=>rfl
    | true=>rw [hh] at this;cases this
 constructor
 ·rintro ⟨h1,h2,h3,h4,h5,h6,h7,h8⟩
  exact ⟨h2,(hless h2).1 h1,h3,h4,h5,h6,h7,h8⟩
 ·rintro ⟨h1,h2,h3,h4,h5,h6,h7,h8⟩
  exact ⟨(hless h1).2 h2,h1,h3,h4,h5,h6,h7,h8⟩
theorem seen_iff {ss:List Sn} {k:Nat} {x p:Sn} (h:∀ (j:Nat) (y:Sn),j<k+1→ss[j]?=some y→SOne (pc ss j) y) (hp:ss[k]?=some p) :
 SOne (pc ss (k+1)) x ↔ (inB x.c 0 255=true∧inB x.s 1 65535=true∧zBi x.k x.t x.h x.e∧p.c<x.c):=by
 have h0:=pc_ge (k:=k) (fun j y hj hy=>h j y (by omega) hy) (Nat.le_of_lt (lt_at hp))
 have h1:=(zAa (h k p (by omega) hp).1).1
 rw [pc_succ hp]
 unfold SOne inB
 simp only [decide_eq_true_eq]
 constructor
 ·rintro ⟨⟨a,b⟩,c,d⟩
  exact ⟨⟨by omega,b⟩,c,d,by omega⟩
 ·rintro ⟨⟨a,b⟩,c,d,e⟩
  exact ⟨⟨by omega,b⟩,c,d⟩
set_option maxRecDepth 100000 in
set_option maxHeartbeats 6400000 in
theorem specTableOK_any (tm nx:Int) (vl vs:Value) (ls:List Lk) (ss:List Sn) (w:World) (hl:RowL w vl ls) (hs:RowS w vs ss) (hw:∀ x ∈ ls,x.n.size≤1048576∧x.ws.length≤1048576) (hy1:ls.length≤1048576) (hy2:ss.length≤1048576) :
 Calls Tryz.prog 18 #[tabV tm nx vl vs] w fun e w'=>e=.returned (.bool (bOf (TOK ⟨tm,nx,ls,ss⟩)))∧Below w.heap.size w w':=by
 obtain ⟨la,lc,rfl⟩:=RowG.slice hl
 obtain ⟨sa,sc,rfl⟩:=RowG.slice hs
 have HTK:Hid (TOK ⟨tm,nx,ls,ss⟩ ↔ (inB tm 0 1000000000=true∧inB nx 1 1000000=true∧ls.length≤4∧LsOK nx ls∧ss.length≤6∧SsOK ss)):=Iff.rfl
 have HWZ:Hid (∀ x ∈ ls,x.n.size≤1048576∧x.ws.length≤1048576):=hw
 unfold tabV
 have HX:Hid (∀ W,Below (w.alloc (.cells #[.int .i64 tm,.int .i64 nx,.slice la ls.length lc,.slice sa ss.length sc] 26)).heap.size (w.alloc (.cells #[.int .i64 tm,.int .i64 nx,.slice la ls.length lc,.slice sa ss.length sc] 26)) W→(W.cell? ⟨w.heap.size,0,none⟩=some (.int .i64 tm)∧W.cell? ⟨w.heap.size,1,none⟩=some (.int .i64 nx)∧W.cell? ⟨w.heap.size,2,none⟩=some (.slice la ls.length lc)∧W.cell? ⟨w.heap.size,3,none⟩=some (.slice sa ss.length sc))∧RowL W (.slice la ls.length lc) ls∧RowS W (.slice sa ss.length sc) ss∧Below w.heap.size w W):=fun W hW=>by
  have h1:=(hW.block w.heap.size (by simp)).trans (heap_alloc_new w _)
  exact ⟨⟨(zAA h1 0 rfl).1,(zAA h1 1 rfl).1,(zAA h1 2 rfl).1,(zAA h1 3 rfl).1⟩,(hl.below (zAD _ _)).below hW,(hs.below (zAD _ _)).below hW,(zAD w _).trans (hW.mono (by simp))⟩
 clear hl hs hw
 generalize HTO:bOf (TOK ⟨tm,nx,ls,ss⟩)=tok
 have HT:Hid (bOf (TOK ⟨tm,nx,ls,ss⟩)=tok):=HTO
 clear HTO
 go_enter Tryz.func18,Tryz.ntmps18
 go_upto_region 1 with fail
 generalize w.alloc (.cells #[.int .i64 tm,.int .i64 nx,.slice la ls.length lc,.slice sa ss.length sc] 26)=wb at HX ⊢
 obtain ⟨⟨x0,x1,x2,x3⟩,_,_,hb0⟩:=HX.out wb (Below.refl _ _)
 have HB0:Hid (Below w.heap.size w wb):=hb0
 clear hb0
 cases h1:inB tm 0 1000000000 with
 | false =>
   have HF:Hid (tok=false):=HT.out.symm.trans (zAP fun h=>by have:=(HTK.out.1 h).1;rw [h1] at this;cases this)
   go_wp2_with (go_at_call 40;refine (zAj _ _ _ _).mono ?_;rintro e w1 ⟨rfl,rfl⟩;first | rw [h1])
   go_ret
   exact ⟨zAG HF.out.symm,HB0.out⟩
 | true =>
 cases h2:inB nx 1 1000000 with
 | false =>
   have HF:Hid (tok=false):=HT.out.symm.trans (zAP fun h=>by have:=(HTK.out.1 h).2.1;rw [h2] at this;cases this)
   go_wp2_with (go_at_call 40;refine (zAj _ _ _ _).mono ?_;rintro e w1 ⟨rfl,rfl⟩;first | rw [h1] | rw [h2])
   go_ret
   exact ⟨zAG HF.out.symm,HB0.out⟩
 | true =>
 by_cases h3:4<ls.length
 ·have h3':(4:Int)<(ls.length:Int):=by omega
  have HF:Hid (tok=false):=HT.out.symm.trans (zAP fun h=>by have:=(HTK.out.1 h).2.2.1;omega)
  go_wp2_with (go_at_call 40;refine (zAj _ _ _ _).mono ?_;rintro e w1 ⟨rfl,rfl⟩;first | rw [h1] | rw [h2])
  go_ret
  exact ⟨zAG HF.out.symm,HB0.out⟩
 have h3':¬ (4:Int)<(ls.length:Int):=by omega
 have h3'':decide ((4:Int)<(ls.length:Int))=false:=decide_eq_false h3'
 by_cases h4:6<ss.length
 ·have h4':(6:Int)<(ss.length:Int):=by omega
  have HF:Hid (tok=false):=HT.out.symm.trans (zAP fun h=>by have:=(HTK.out.1 h).2.2.2.2.1;omega)
  go_wp2_with (go_at_call 40;refine (zAj _ _ _ _).mono ?_;rintro e w1 ⟨rfl,rfl⟩;first | rw [h1] | rw [h2])
  go_ret
  exact ⟨zAG HF.out.symm,HB0.out⟩
 have h4':¬ (6:Int)<(ss.length:Int):=by omega
 have hnx:=zAa h2
 have HT2:Hid (TOK ⟨tm,nx,ls,ss⟩ ↔ (LsOK nx ls∧SsOK ss)):=⟨fun h=>⟨(HTK.out.1 h).2.2.2.1,(HTK.out.1 h).2.2.2.2.2⟩,fun h=>HTK.out.2 ⟨h1,h2,by omega,h.1,by omega,h.2⟩⟩
 clear HTK
 go_wp2_with (go_at_call 40;refine (zAj _ _ _ _).mono ?_;rintro e w1 ⟨rfl,rfl⟩;first | rw [h1] | rw [h2])
 clear x0 x1 x2 x3 h3'' h4' h3'
 go_loopw [3] (fun i wr=>∃ k:Nat,k≤ls.length∧i=.int .i64 k∧Hid ((∀ (j:Nat) (y:Lk),j<k→ls[j]?=some y→LOne nx (pn ls j) y)∧Below wb.heap.size wb wr)) (fun i _=>ls.length - (intOf i).toNat)
 case atStart=>exact ⟨0,by omega,rfl,⟨fun j y hj=>by omega,Below.refl _ _⟩⟩
 case round =>
  rename World=>wk
  obtain ⟨k,hk,rfl,HK⟩:=hrel
  obtain ⟨⟨_,x1,x2,x3⟩,hr0,_,_⟩:=HX.out wk HK.out.2
  by_cases hlt:k<ls.length
  ·obtain ⟨x,hx⟩:=Tw.get_at hlt
   obtain ⟨b,off,rfl,hbl,u,c0,c1,c2,c3,c4,c5⟩:=RowG.at hr0 rfl hx
   obtain ⟨ua,uc,rfl⟩:=RowG.slice c5
   have HN:Hid (LOne nx (pn ls k) x ↔ Asks nx ls k x):=one_iff nx ls k x
   have HNO:Hid (¬ Asks nx ls k x→tok=false):=fun h=>HT.out.symm.trans (zAP fun hh=>h ((one_iff nx ls k x).1 ((HT2.out.1 hh).1 k x hx)))
   have HYS:Hid (Asks nx ls k x→∀ (j:Nat) (y:Lk),j<k+1→ls[j]?=some y→LOne nx (pn ls j) y):=fun h=>upto (P:=fun j y=>LOne nx (pn ls j) y) HK.out.1 hx ((one_iff nx ls k x).2 h)
   have HZ:Hid (x.n.size≤maxLen∧x.ws.length≤1048576):=by have:=HWZ.out x (mem_at hx);exact ⟨by unfold maxLen;omega,this.2⟩
   have HY:Hid (∀ W,Below (wk.alloc (.cells #[.string x.n,.int .i64 x.t,.int .i64 x.h,.int .i64 x.e,.slice ua x.ws.length uc] 95)).heap.size (wk.alloc (.cells #[.string x.n,.int .i64 x.t,.int .i64 x.h,.int .i64 x.e,.slice ua x.ws.length uc] 95)) W→(W.cell? ⟨wk.heap.size,0,none⟩=some (.string x.n)∧W.cell? ⟨wk.heap.size,1,none⟩=some (.int .i64 x.t)∧W.cell? ⟨wk.heap.size,2,none⟩=some (.int .i64 x.h)∧W.cell? ⟨wk.heap.size,3,none⟩=some (.int .i64 x.e)∧W.cell? ⟨wk.heap.size,4,none⟩=some (.slice ua x.ws.length uc))∧(W.cell? ⟨w.heap.size,1,none⟩=some (.int .i64 nx)∧W.cell? ⟨w.heap.size,2,none⟩=some (.slice (some ⟨b,off,none⟩) ls.length lc))∧RowW W (.slice ua x.ws.length uc) x.ws∧(∀ j y,ls[j]?=some y→W.cell? ⟨b,off+j * 5,none⟩=some (.string y.n))∧Below wb.heap.size wb W):=fun W hW=>by
    have h1:=(hW.block wk.heap.size (by simp)).trans (heap_alloc_new wk _)
    have hW2:Below wb.heap.size wb W:=HK.out.2.trans (((zAD wk _).mono HK.out.2.size).trans (hW.mono (Nat.le_trans HK.out.2.size (by simp))))
    obtain ⟨⟨_,q1,q2,_⟩,q3,_,_⟩:=HX.out W hW2
    refine ⟨⟨(zAA h1 0 rfl).1,(zAA h1 1 rfl).1,(zAA h1 2 rfl).1,(zAA h1 3 rfl).1,(zAA h1 4 rfl).1⟩,⟨q1,q2⟩,(c5.below (zAD _ _)).below hW,fun j y hj=>?_,hW2⟩
    obtain ⟨b',off',e,_,u',d0,_⟩:=RowG.at q3 rfl hj
    cases e
    exact d0
   have HKX:Hid (ls[k]?=some x):=hx
   clear hx c5 hr0
   go_upto_region 7 with fail
   clear c0 c1 c2 c3 c4 x1 x2 x3
   have HKN:Hid (Below wb.heap.size wb (wk.alloc (.cells #[.string x.n,.int .i64 x.t,.int .i64 x.h,.int .i64 x.e,.slice ua x.ws.length uc] 95))∧wk.heap.size+1≤(wk.alloc (.cells #[.string x.n,.int .i64 x.t,.int .i64 x.h,.int .i64 x.e,.slice ua x.ws.length uc] 95)).heap.size):=⟨(HY.out _ (Below.refl _ _)).2.2.2.2,by rw [zAN];exact Nat.le_refl _⟩
   generalize wk.alloc (.cells #[.string x.n,.int .i64 x.t,.int .i64 x.h,.int .i64 x.e,.slice ua x.ws.length uc] 95)=wc at HY HKN ⊢
   obtain ⟨X,hX,W,QI0,QO0⟩:=Qc.zAo wc
   have QI:Hid (∀ w',Below wc.heap.size wc w'→∃ x,w'=W x):=QI0
   have QO:Hid (∀ x,Below wc.heap.size wc (W x)):=QO0
   clear QI0 QO0
   have y0:=fun q=>(HY.out _ (QO.out q)).1.1
   have y1:=fun q=>(HY.out _ (QO.out q)).1.2.1
   have y2:=fun q=>(HY.out _ (QO.out q)).1.2.2.1
   have y3:=fun q=>(HY.out _ (QO.out q)).1.2.2.2.1
   have y4:=fun q=>(HY.out _ (QO.out q)).1.2.2.2.2
   have y5:=fun q=>(HY.out _ (QO.out q)).2.1.1
   have y6:=fun q=>(HY.out _ (QO.out q)).2.1.2
   have HBW:Hid (∀ q,Below w.heap.size w (W q)):=fun q=>HB0.out.trans ((HY.out _ (QO.out q)).2.2.2.2.mono HB0.out.size)
   by_cases hk0:k=0
   ·subst hk0
    cases t1:opB x.n with
    | false =>
      have HF:Hid (tok=false):=HNO.out fun h=>by have:=h.1;rw [t1] at this;cases this
      refine Qc.zAF (W:=W) (by kernel_rfl) (by kernel_rfl) (QI.out _ Qc.zAJ) ?_
      repeat (go_big_quiet_step (first | (go_at_call 41;refine (zAw _ _ HZ.out.1).mono ?_;rintro e w2 ⟨rfl,rfl⟩;rw [t1];exact ⟨rfl,_,rfl⟩) | (go_at_call 40;refine (zAj _ _ _ _).mono ?_;rintro e w2 ⟨rfl,rfl⟩;(first | rw [t1]);exact ⟨rfl,_,rfl⟩)))
      refine wpQuiet_nil ?_
      rintro _ ⟨xq,rfl⟩
      have G2:Hid (Below w.heap.size w (W xq)):=HBW.out xq
      clear y0 y1 y2 y3 y4 y5 y6
      generalize W xq=wq at G2 ⊢
      go_wp2_with fail
      go_ret
      exact ⟨zAG HF.out.symm,G2.out⟩
    | true =>
    have HRS:Hid (0<0→Op.bytesLess (pn ls 0).toList x.n.toList=true):=fun h=>absurd h (by omega)
    cases t2:inB x.t 0 (nx - 1) with
    | false =>
      have HF:Hid (tok=false):=HNO.out fun h=>by have:=h.2.2.1;rw [t2] at this;cases this
      refine Qc.zAF (W:=W) (by kernel_rfl) (by kernel_rfl) (QI.out _ Qc.zAJ) ?_
      repeat (go_big_quiet_step (first | (go_at_call 41;refine (zAw _ _ HZ.out.1).mono ?_;rintro e w2 ⟨rfl,rfl⟩;rw [t1];exact ⟨rfl,_,rfl⟩) | (go_at_call 40;refine (zAj _ _ _ _).mono ?_;rintro e w2 ⟨rfl,rfl⟩;(first | rw [t2]);exact ⟨rfl,_,rfl⟩)))
      refine wpQuiet_nil ?_
      rintro _ ⟨xq,rfl⟩
      have G2:Hid (Below w.heap.size w (W xq)):=HBW.out xq
      clear y0 y1 y2 y3 y4 y5 y6
      generalize W xq=wq at G2 ⊢
      go_wp2_with fail
      go_ret
      exact ⟨zAG HF.out.symm,G2.out⟩
    | true =>
    cases t3:inB x.h (-1) 255 with
    | false =>
      have HF:Hid (tok=false):=HNO.out fun h=>by have:=h.2.2.2.1;rw [t3] at this;cases this
      refine Qc.zAF (W:=W) (by kernel_rfl) (by kernel_rfl) (QI.out _ Qc.zAJ) ?_
      repeat (go_big_quiet_step (first | (go_at_call 41;refine (zAw _ _ HZ.out.1).mono ?_;rintro e w2 ⟨rfl,rfl⟩;rw [t1];exact ⟨rfl,_,rfl⟩) | (go_at_call 40;refine (zAj _ _ _ _).mono ?_;rintro e w2 ⟨rfl,rfl⟩;(first | rw [t2] | rw [t3]);exact ⟨rfl,_,rfl⟩)))
      refine wpQuiet_nil ?_
      rintro _ ⟨xq,rfl⟩
      have G2:Hid (Below w.heap.size w (W xq)):=HBW.out xq
      clear y0 y1 y2 y3 y4 y5 y6
      generalize W xq=wq at G2 ⊢
      go_wp2_with fail
      go_ret
      exact ⟨zAG HF.out.symm,G2.out⟩
    | true =>
    cases t4:inB x.e 0 2000000000 with
    | false =>
      have HF:Hid (tok=false):=HNO.out fun h=>by have:=h.2.2.2.2.1;rw [t4] at this;cases this
      refine Qc.zAF (W:=W) (by kernel_rfl) (by kernel_rfl) (QI.out _ Qc.zAJ) ?_
      repeat (go_big_quiet_step (first | (go_at_call 41;refine (zAw _ _ HZ.out.1).mono ?_;rintro e w2 ⟨rfl,rfl⟩;rw [t1];exact ⟨rfl,_,rfl⟩) | (go_at_call 40;refine (zAj _ _ _ _).mono ?_;rintro e w2 ⟨rfl,rfl⟩;(first | rw [t2] | rw [t3] | rw [t4]);exact ⟨rfl,_,rfl⟩)))
      refine wpQuiet_nil ?_
      rintro _ ⟨xq,rfl⟩
      have G2:Hid (Below w.heap.size w (W xq)):=HBW.out xq
      clear y0 y1 y2 y3 y4 y5 y6
      generalize W xq=wq at G2 ⊢
      go_wp2_with fail
      go_ret
      exact ⟨zAG HF.out.symm,G2.out⟩
    | true =>
    by_cases t5:x.ws.length≤4
    ·have t5':decide ((4:Int)<(x.ws.length:Int))=false:=decide_eq_false (by omega)
     refine Qc.zAF (W:=W) (by kernel_rfl) (by kernel_rfl) (QI.out _ Qc.zAJ) ?_
     repeat (go_big_quiet_step (first | (go_at_call 41;refine (zAw _ _ HZ.out.1).mono ?_;rintro e w2 ⟨rfl,rfl⟩;rw [t1];exact ⟨rfl,_,rfl⟩) | (go_at_call 40;refine (zAj _ _ _ _).mono ?_;rintro e w2 ⟨rfl,rfl⟩;(first | rw [t2] | rw [t3] | rw [t4]);exact ⟨rfl,_,rfl⟩)))
     refine wpQuiet_nil ?_
     rintro _ ⟨xq,rfl⟩
     have hb9:=(HY.out _ (QO.out xq)).1
     have HQ9:Hid (Below wc.heap.size wc (W xq)):=QO.out xq
     clear y0 y1 y2 y3 y4 y5 y6
     generalize W xq=wq at hb9 HQ9 ⊢
     obtain ⟨z0,z1,z2,z3,z4⟩:=hb9
     by_cases hneg:x.h<0
     ·have hneg':decide (x.h<0)=true:=decide_eq_true hneg
      by_cases he0:x.e=0
      ·have he0':(x.e != 0)=false:=by simpa using he0
       by_cases hn0:x.ws.length=0
       ·have hn0':((x.ws.length:Int) != 0)=false:=by simpa using hn0
        have HAS:Hid (Asks nx ls 0 x):=⟨t1,HRS.out,t2,t3,t4,t5,fun _=>⟨he0,hn0⟩,fun q y hy=>by rw [List.length_eq_zero_iff.1 hn0] at hy;simp at hy⟩
        have hn00:¬ (0:Int)<(x.ws.length:Int):=by omega
        go_wp2_with fail
        go_loopw [5] (fun i wi=>i=.int .i64 0∧Hid (Below wc.heap.size wc wi)) (fun i _=>x.ws.length - (intOf i).toNat)
        case atStart=>exact ⟨rfl,HQ9⟩
        case round =>
         rename World=>wi
         clear z0 z1 z2 z3 z4
         obtain ⟨rfl,HM⟩:=hrel
         obtain ⟨⟨_,_,_,_,z4⟩,_,_,_,hbx⟩:=HY.out wi HM.out
         have HBX:Hid (Below wb.heap.size wb wi):=hbx
         clear hbx
         go_wp2_with fail
         exact ⟨⟨0+1,by omega,by go_num,⟨HYS.out HAS.out,HBX.out⟩⟩,by simp [intOf];omega⟩
       ·have hn0':((x.ws.length:Int) != 0)=true:=by simpa using hn0
        have HF:Hid (tok=false):=HNO.out fun h=>hn0 (h.2.2.2.2.2.2.1 hneg).2
        have HBF:Hid (Below w.heap.size w wq):=HB0.out.trans ((HY.out _ HQ9.out).2.2.2.2.mono HB0.out.size)
        go_wp2_with fail
        go_ret
        exact ⟨zAG HF.out.symm,HBF.out⟩
      ·have he0':(x.e != 0)=true:=by simpa using he0
       have HF:Hid (tok=false):=HNO.out fun h=>he0 (h.2.2.2.2.2.2.1 hneg).1
       have HBF:Hid (Below w.heap.size w wq):=HB0.out.trans ((HY.out _ HQ9.out).2.2.2.2.mono HB0.out.size)
       go_wp2_with fail
       go_ret
       exact ⟨zAG HF.out.symm,HBF.out⟩
     ·have hneg':decide (x.h<0)=false:=decide_eq_false hneg
      have HAI:Hid (Asks nx ls 0 x ↔ WsOK x.h x.ws):=⟨fun h=>h.2.2.2.2.2.2.2,fun h=>⟨t1,HRS.out,t2,t3,t4,t5,fun hh=>absurd hh hneg,h⟩⟩
      clear hneg
      go_wp2_with fail
      clear z0 z1 z2 z3 z4 hneg'
      go_loopw [5] (fun i wi=>∃ m:Nat,m≤x.ws.length∧i=.int .i64 m∧Hid ((∀ (j:Nat) (y:Wt),j<m→x.ws[j]?=some y→WOne x.h x.ws j y)∧Below wc.heap.size wc wi)) (fun i _=>x.ws.length - (intOf i).toNat)
      case atStart=>exact ⟨0,by omega,rfl,⟨fun j y hj=>by omega,HQ9.out⟩⟩
      case round =>
       rename World=>wi
       clear HQ9
       obtain ⟨m,hm,rfl,HM⟩:=hrel
       obtain ⟨⟨_,_,z2,_,z4⟩,_,hrw,_,_⟩:=HY.out wi HM.out.2
       by_cases hlt2:m<x.ws.length
       ·obtain ⟨z,hz⟩:=Tw.get_at hlt2
        obtain ⟨b2,off2,rfl,hbl2,d0,d1⟩:=RowG.at hrw rfl hz
        have HW1:Hid (WOne x.h x.ws m z ↔ (inB z.c 0 255=true∧inB z.l 1 1000=true∧z.c ≠ x.h∧∀ (j:Nat) (y:Wt),j<m→x.ws[j]?=some y→y.c ≠ z.c)):=Iff.rfl
        have HWN:Hid (¬ WOne x.h x.ws m z→tok=false):=fun h=>HNO.out fun hh=>h ((HAI.out.1 hh) m z hz)
        have HWY:Hid (WOne x.h x.ws m z→∀ (j:Nat) (y:Wt),j<m+1→x.ws[j]?=some y→WOne x.h x.ws j y):=fun h=>upto (P:=fun j y=>WOne x.h x.ws j y) HM.out.1 hz h
        have HV:Hid (∀ W,Below (wi.alloc (.cells #[.int .i64 z.c,.int .i64 z.l] 98)).heap.size (wi.alloc (.cells #[.int .i64 z.c,.int .i64 z.l] 98)) W→(W.cell? ⟨wi.heap.size,0,none⟩=some (.int .i64 z.c)∧W.cell? ⟨wi.heap.size,1,none⟩=some (.int .i64 z.l))∧(W.cell? ⟨wk.heap.size,2,none⟩=some (.int .i64 x.h)∧W.cell? ⟨wk.heap.size,4,none⟩=some (.slice (some ⟨b2,off2,none⟩) x.ws.length uc))∧(∀ j y,x.ws[j]?=some y→W.cell? ⟨b2,off2+j * 2,none⟩=some (.int .i64 y.c))∧Below wc.heap.size wc W):=fun W hW=>by
         have h1:=(hW.block wi.heap.size (by simp)).trans (heap_alloc_new wi _)
         have hW2:Below wc.heap.size wc W:=HM.out.2.trans (((zAD wi _).mono HM.out.2.size).trans (hW.mono (Nat.le_trans HM.out.2.size (by simp))))
         obtain ⟨⟨_,_,q2,_,q4⟩,_,q5,_,_⟩:=HY.out W hW2
         refine ⟨⟨(zAA h1 0 rfl).1,(zAA h1 1 rfl).1⟩,⟨q2,q4⟩,fun j y hj=>?_,hW2⟩
         obtain ⟨b',off',e,_,d0,_⟩:=RowG.at q5 rfl hj
         cases e
         exact d0
        clear hz hrw
        go_upto_region 15 with fail
        clear d0 d1 z2 z4
        generalize wi.alloc (.cells #[.int .i64 z.c,.int .i64 z.l] 98)=wz at HV ⊢
        obtain ⟨⟨p0,p1⟩,⟨p2,p4⟩,_,hbz⟩:=HV.out wz (Below.refl _ _)
        have HBZ:Hid (Below w.heap.size w wz):=HB0.out.trans ((HY.out _ hbz).2.2.2.2.mono HB0.out.size)
        clear hbz
        cases g1:inB z.c 0 255 with
        | false =>
          have HF:Hid (tok=false):=HWN.out fun h=>by have:=(HW1.out.1 h).1;rw [g1] at this;cases this
          go_wp2_with (go_at_call 40;refine (zAj _ _ _ _).mono ?_;rintro e w1 ⟨rfl,rfl⟩;first | rw [g1])
          go_ret
          exact ⟨zAG HF.out.symm,HBZ.out⟩
        | true =>
        cases g2:inB z.l 1 1000 with
        | false =>
          have HF:Hid (tok=false):=HWN.out fun h=>by have:=(HW1.out.1 h).2.1;rw [g2] at this;cases this
          go_wp2_with (go_at_call 40;refine (zAj _ _ _ _).mono ?_;rintro e w1 ⟨rfl,rfl⟩;first | rw [g1] | rw [g2])
          go_ret
          exact ⟨zAG HF.out.symm,HBZ.out⟩
        | true =>
        by_cases g3:z.c=x.h
        ·have g3':(z.c == x.h)=true:=by simpa using g3
         have HF:Hid (tok=false):=HWN.out fun h=>(HW1.out.1 h).2.2.1 g3
         clear g3
         go_wp2_with (go_at_call 40;refine (zAj _ _ _ _).mono ?_;rintro e w1 ⟨rfl,rfl⟩;first | rw [g1] | rw [g2])
         go_ret
         exact ⟨zAG HF.out.symm,HBZ.out⟩
        ·have g3':(z.c == x.h)=false:=by simpa using g3
         have HW2:Hid (WOne x.h x.ws m z ↔ ∀ (j:Nat) (y:Wt),j<m→x.ws[j]?=some y→y.c ≠ z.c):=⟨fun h=>h.2.2.2,fun h=>⟨g1,g2,g3,h⟩⟩
         clear g3
         go_wp2_with (go_at_call 40;refine (zAj _ _ _ _).mono ?_;rintro e w1 ⟨rfl,rfl⟩;first | rw [g1] | rw [g2])
         clear p0 p1 p2 p4 g3'
         go_loopw [7] (fun i wj=>∃ q:Nat,q≤m∧i=.int .i64 q∧Hid ((∀ (j:Nat) (y:Wt),j<q→x.ws[j]?=some y→y.c ≠ z.c)∧Below wz.heap.size wz wj)) (fun i _=>m - (intOf i).toNat)
         case atStart=>exact ⟨0,by omega,rfl,⟨fun j y hj=>by omega,Below.refl _ _⟩⟩
         case round =>
          rename World=>wj
          obtain ⟨q,hq,rfl,HJ⟩:=hrel
          obtain ⟨⟨p0,_⟩,⟨_,p4⟩,pr,pb⟩:=HV.out wj HJ.out.2
          have HPB:Hid (Below wc.heap.size wc wj):=pb
          by_cases hlt3:q<m
          ·obtain ⟨v,hv⟩:=Tw.get_at (xs:=x.ws) (k:=q) (by omega)
           have p5:=pr q v hv
           have HVV:Hid (x.ws[q]?=some v):=hv
           have l1:(0:Int)≤(q:Int):=by omega
           have l2:(q:Int)<(x.ws.length:Int):=by omega
           have l3:(q:Int)<(m:Int):=by omega
           clear pr pb hv
           by_cases hsame:v.c=z.c
           ·have hs':(v.c == z.c)=true:=by simpa using hsame
            have HF:Hid (tok=false):=HWN.out fun h=>(HW2.out.1 h) q v hlt3 HVV.out hsame
            have HBF:Hid (Below w.heap.size w wj):=HB0.out.trans ((HY.out _ HPB.out).2.2.2.2.mono HB0.out.size)
            clear hsame
            go_wp2_with fail
            go_quiet (fail)
            go_wp2_with fail
            go_ret
            exact ⟨zAG HF.out.symm,bel_n HBF.out⟩
           ·have hs':(v.c == z.c)=false:=by simpa using hsame
            have HJJ:Hid (∀ (j:Nat) (y:Wt),j<q+1→x.ws[j]?=some y→y.c ≠ z.c):=(show ∀ (j:Nat) (y:Wt),j<q+1→x.ws[j]?=some y→y.c ≠ z.c from upto (P:=fun (_:Nat) (y:Wt)=>y.c ≠ z.c) HJ.out.1 HVV.out hsame)
            have HJB:Hid (Below wz.heap.size wz wj):=HJ.out.2
            clear hsame HJ
            go_wp2_with fail
            go_quiet (fail)
            go_wp2_with fail
            exact ⟨⟨q+1,by omega,by go_num,⟨HJJ.out,bel_n HJB.out⟩⟩,by simp [intOf];omega⟩
          ·obtain rfl:q=m:=by omega
           have HDN:Hid (WOne x.h x.ws q z):=HW2.out.2 HJ.out.1
           clear p0 p4 pr pb HJ
           go_wp2_with fail
           go_roundw
           case rel=>(repeat apply Exists.intro);exact ⟨⟨q+1,by omega,by go_num,⟨HWY.out HDN.out,HPB.out⟩⟩,rfl⟩
           case measure=>simp [intOf];omega
       ·obtain rfl:m=x.ws.length:=by omega
        have HAS:Hid (Asks nx ls 0 x):=HAI.out.2 fun j y hy=>HM.out.1 j y (lt_at hy) hy
        obtain ⟨_,_,_,_,hbx⟩:=HY.out wi HM.out.2
        have HBX:Hid (Below wb.heap.size wb wi):=hbx
        clear hbx hrw
        go_wp2_with fail
        exact ⟨⟨0+1,by omega,by go_num,⟨HYS.out HAS.out,HBX.out⟩⟩,by simp [intOf];omega⟩
    ·have t5':decide ((4:Int)<(x.ws.length:Int))=true:=decide_eq_true (by omega)
     have HF:Hid (tok=false):=HNO.out fun h=>t5 h.2.2.2.2.2.1
     refine Qc.zAF (W:=W) (by kernel_rfl) (by kernel_rfl) (QI.out _ Qc.zAJ) ?_
     repeat (go_big_quiet_step (first | (go_at_call 41;refine (zAw _ _ HZ.out.1).mono ?_;rintro e w2 ⟨rfl,rfl⟩;rw [t1];exact ⟨rfl,_,rfl⟩) | (go_at_call 40;refine (zAj _ _ _ _).mono ?_;rintro e w2 ⟨rfl,rfl⟩;(first | rw [t2] | rw [t3] | rw [t4]);exact ⟨rfl,_,rfl⟩)))
     refine wpQuiet_nil ?_
     rintro _ ⟨xq,rfl⟩
     have G2:Hid (Below w.heap.size w (W xq)):=HBW.out xq
     clear y0 y1 y2 y3 y4 y5 y6
     generalize W xq=wq at G2 ⊢
     go_wp2_with fail
     go_ret
     exact ⟨zAG HF.out.symm,G2.out⟩
   ·obtain ⟨j,rfl⟩ : ∃ j,k=j+1:=⟨k - 1,by omega⟩
    obtain ⟨p,hp⟩:=Tw.get_at (xs:=ls) (k:=j) (by omega)
    have HPN:Hid (pn ls (j+1)=p.n):=pn_succ hp
    have y7:=fun q=>(HY.out _ (QO.out q)).2.2.2.1 j p hp
    have r1:(0:Int)<(j:Int)+1:=by omega
    have r2:(j:Int)+1<(ls.length:Int):=by omega
    have r3:(j:Int)<(ls.length:Int):=by omega
    clear hp
    cases t1:opB x.n with
    | false =>
      have HF:Hid (tok=false):=HNO.out fun h=>by have:=h.1;rw [t1] at this;cases this
      refine Qc.zAF (W:=W) (by kernel_rfl) (by kernel_rfl) (QI.out _ Qc.zAJ) ?_
      repeat (go_big_quiet_step (first | (go_at_call 41;refine (zAw _ _ HZ.out.1).mono ?_;rintro e w2 ⟨rfl,rfl⟩;rw [t1];exact ⟨rfl,_,rfl⟩) | (go_at_call 40;refine (zAj _ _ _ _).mono ?_;rintro e w2 ⟨rfl,rfl⟩;(first | rw [t1]);exact ⟨rfl,_,rfl⟩)))
      refine wpQuiet_nil ?_
      rintro _ ⟨xq,rfl⟩
      have G2:Hid (Below w.heap.size w (W xq)):=HBW.out xq
      clear y0 y1 y2 y3 y4 y5 y6 y7
      generalize W xq=wq at G2 ⊢
      go_wp2_with fail
      go_ret
      exact ⟨zAG HF.out.symm,G2.out⟩
    | true =>
    cases t0:Op.bytesLess p.n.toList x.n.toList with
    | false =>
      have HF:Hid (tok=false):=HNO.out fun h=>by have:=h.2.1 (by omega);rw [HPN.out,t0] at this;cases this
      refine Qc.zAF (W:=W) (by kernel_rfl) (by kernel_rfl) (QI.out _ Qc.zAJ) ?_
      repeat (go_big_quiet_step (first | (go_at_call 41;refine (zAw _ _ HZ.out.1).mono ?_;rintro e w2 ⟨rfl,rfl⟩;rw [t1];exact ⟨rfl,_,rfl⟩) | (go_at_call 40;refine (zAj _ _ _ _).mono ?_;rintro e w2 ⟨rfl,rfl⟩;(first | rw [t1]);exact ⟨rfl,_,rfl⟩)))
      refine wpQuiet_nil ?_
      rintro _ ⟨xq,rfl⟩
      have G2:Hid (Below w.heap.size w (W xq)):=HBW.out xq
      clear y0 y1 y2 y3 y4 y5 y6 y7
      generalize W xq=wq at G2 ⊢
      go_wp2_with fail
      go_ret
      exact ⟨zAG HF.out.symm,G2.out⟩
    | true =>
    have HRS:Hid (0<j+1→Op.bytesLess (pn ls (j+1)).toList x.n.toList=true):=fun _=>by rw [HPN.out];exact t0
    cases t2:inB x.t 0 (nx - 1) with
    | false =>
      have HF:Hid (tok=false):=HNO.out fun h=>by have:=h.2.2.1;rw [t2] at this;cases this
      refine Qc.zAF (W:=W) (by kernel_rfl) (by kernel_rfl) (QI.out _ Qc.zAJ) ?_
      repeat (go_big_quiet_step (first | (go_at_call 41;refine (zAw _ _ HZ.out.1).mono ?_;rintro e w2 ⟨rfl,rfl⟩;rw [t1];exact ⟨rfl,_,rfl⟩) | (go_at_call 40;refine (zAj _ _ _ _).mono ?_;rintro e w2 ⟨rfl,rfl⟩;(first | rw [t2]);exact ⟨rfl,_,rfl⟩)))
      refine wpQuiet_nil ?_
      rintro _ ⟨xq,rfl⟩
      have G2:Hid (Below w.heap.size w (W xq)):=HBW.out xq
      clear y0 y1 y2 y3 y4 y5 y6 y7
      generalize W xq=wq at G2 ⊢
      go_wp2_with fail
      go_ret
      exact ⟨zAG HF.out.symm,G2.out⟩
    | true =>
    cases t3:inB x.h (-1) 255 with
    | false =>
      have HF:Hid (tok=false):=HNO.out fun h=>by have:=h.2.2.2.1;rw [t3] at this;cases this
      refine Qc.zAF (W:=W) (by kernel_rfl) (by kernel_rfl) (QI.out _ Qc.zAJ) ?_
      repeat (go_big_quiet_step (first | (go_at_call 41;refine (zAw _ _ HZ.out.1).mono ?_;rintro e w2 ⟨rfl,rfl⟩;rw [t1];exact ⟨rfl,_,rfl⟩) | (go_at_call 40;refine (zAj _ _ _ _).mono ?_;rintro e w2 ⟨rfl,rfl⟩;(first | rw [t2] | rw [t3]);exact ⟨rfl,_,rfl⟩)))
      refine wpQuiet_nil ?_
      rintro _ ⟨xq,rfl⟩
      have G2:Hid (Below w.heap.size w (W xq)):=HBW.out xq
      clear y0 y1 y2 y3 y4 y5 y6 y7
      generalize W xq=wq at G2 ⊢
      go_wp2_with fail
      go_ret
      exact ⟨zAG HF.out.symm,G2.out⟩
    | true =>
    cases t4:inB x.e 0 2000000000 with
    | false =>
      have HF:Hid (tok=false):=HNO.out fun h=>by have:=h.2.2.2.2.1;rw [t4] at this;cases this
      refine Qc.zAF (W:=W) (by kernel_rfl) (by kernel_rfl) (QI.out _ Qc.zAJ) ?_
      repeat (go_big_quiet_step (first | (go_at_call 41;refine (zAw _ _ HZ.out.1).mono ?_;rintro e w2 ⟨rfl,rfl⟩;rw [t1];exact ⟨rfl,_,rfl⟩) | (go_at_call 40;refine (zAj _ _ _ _).mono ?_;rintro e w2 ⟨rfl,rfl⟩;(first | rw [t2] | rw [t3] | rw [t4]);exact ⟨rfl,_,rfl⟩)))
      refine wpQuiet_nil ?_
      rintro _ ⟨xq,rfl⟩
      have G2:Hid (Below w.heap.size w (W xq)):=HBW.out xq
      clear y0 y1 y2 y3 y4 y5 y6 y7
      generalize W xq=wq at G2 ⊢
      go_wp2_with fail
      go_ret
      exact ⟨zAG HF.out.symm,G2.out⟩
    | true =>
    by_cases t5:x.ws.length≤4
    ·have t5':decide ((4:Int)<(x.ws.length:Int))=false:=decide_eq_false (by omega)
     refine Qc.zAF (W:=W) (by kernel_rfl) (by kernel_rfl) (QI.out _ Qc.zAJ) ?_
     repeat (go_big_quiet_step (first | (go_at_call 41;refine (zAw _ _ HZ.out.1).mono ?_;rintro e w2 ⟨rfl,rfl⟩;rw [t1];exact ⟨rfl,_,rfl⟩) | (go_at_call 40;refine (zAj _ _ _ _).mono ?_;rintro e w2 ⟨rfl,rfl⟩;(first | rw [t2] | rw [t3] | rw [t4]);exact ⟨rfl,_,rfl⟩)))
     refine wpQuiet_nil ?_
     rintro _ ⟨xq,rfl⟩
     have hb9:=(HY.out _ (QO.out xq)).1
     have HQ9:Hid (Below wc.heap.size wc (W xq)):=QO.out xq
     clear y0 y1 y2 y3 y4 y5 y6 y7
     generalize W xq=wq at hb9 HQ9 ⊢
     obtain ⟨z0,z1,z2,z3,z4⟩:=hb9
     by_cases hneg:x.h<0
     ·have hneg':decide (x.h<0)=true:=decide_eq_true hneg
      by_cases he0:x.e=0
      ·have he0':(x.e != 0)=false:=by simpa using he0
       by_cases hn0:x.ws.length=0
       ·have hn0':((x.ws.length:Int) != 0)=false:=by simpa using hn0
        have HAS:Hid (Asks nx ls (j+1) x):=⟨t1,HRS.out,t2,t3,t4,t5,fun _=>⟨he0,hn0⟩,fun q y hy=>by rw [List.length_eq_zero_iff.1 hn0] at hy;simp at hy⟩
        have hn00:¬ (0:Int)<(x.ws.length:Int):=by omega
        go_wp2_with fail
        go_loopw [5] (fun i wi=>i=.int .i64 0∧Hid (Below wc.heap.size wc wi)) (fun i _=>x.ws.length - (intOf i).toNat)
        case atStart=>exact ⟨rfl,HQ9⟩
        case round =>
         rename World=>wi
         clear z0 z1 z2 z3 z4
         obtain ⟨rfl,HM⟩:=hrel
         obtain ⟨⟨_,_,_,_,z4⟩,_,_,_,hbx⟩:=HY.out wi HM.out
         have HBX:Hid (Below wb.heap.size wb wi):=hbx
         clear hbx
         go_wp2_with fail
         exact ⟨⟨(j+1)+1,by omega,by go_num,⟨HYS.out HAS.out,HBX.out⟩⟩,by simp [intOf];omega⟩
       ·have hn0':((x.ws.length:Int) != 0)=true:=by simpa using hn0
        have HF:Hid (tok=false):=HNO.out fun h=>hn0 (h.2.2.2.2.2.2.1 hneg).2
        have HBF:Hid (Below w.heap.size w wq):=HB0.out.trans ((HY.out _ HQ9.out).2.2.2.2.mono HB0.out.size)
        go_wp2_with fail
        go_ret
        exact ⟨zAG HF.out.symm,HBF.out⟩
      ·have he0':(x.e != 0)=true:=by simpa using he0
       have HF:Hid (tok=false):=HNO.out fun h=>he0 (h.2.2.2.2.2.2.1 hneg).1
       have HBF:Hid (Below w.heap.size w wq):=HB0.out.trans ((HY.out _ HQ9.out).2.2.2.2.mono HB0.out.size)
       go_wp2_with fail
       go_ret
       exact ⟨zAG HF.out.symm,HBF.out⟩
     ·have hneg':decide (x.h<0)=false:=decide_eq_false hneg
      have HAI:Hid (Asks nx ls (j+1) x ↔ WsOK x.h x.ws):=⟨fun h=>h.2.2.2.2.2.2.2,fun h=>⟨t1,HRS.out,t2,t3,t4,t5,fun hh=>absurd hh hneg,h⟩⟩
      clear hneg
      go_wp2_with fail
      clear z0 z1 z2 z3 z4 hneg'
      go_loopw [5] (fun i wi=>∃ m:Nat,m≤x.ws.length∧i=.int .i64 m∧Hid ((∀ (j:Nat) (y:Wt),j<m→x.ws[j]?=some y→WOne x.h x.ws j y)∧Below wc.heap.size wc wi)) (fun i _=>x.ws.length - (intOf i).toNat)
      case atStart=>exact ⟨0,by omega,rfl,⟨fun j y hj=>by omega,HQ9.out⟩⟩
      case round =>
       rename World=>wi
       clear HQ9
       obtain ⟨m,hm,rfl,HM⟩:=hrel
       obtain ⟨⟨_,_,z2,_,z4⟩,_,hrw,_,_⟩:=HY.out wi HM.out.2
       by_cases hlt2:m<x.ws.length
       ·obtain ⟨z,hz⟩:=Tw.get_at hlt2
        obtain ⟨b2,off2,rfl,hbl2,d0,d1⟩:=RowG.at hrw rfl hz
        have HW1:Hid (WOne x.h x.ws m z ↔ (inB z.c 0 255=true∧inB z.l 1 1000=true∧z.c ≠ x.h∧∀ (j:Nat) (y:Wt),j<m→x.ws[j]?=some y→y.c ≠ z.c)):=Iff.rfl
        have HWN:Hid (¬ WOne x.h x.ws m z→tok=false):=fun h=>HNO.out fun hh=>h ((HAI.out.1 hh) m z hz)
        have HWY:Hid (WOne x.h x.ws m z→∀ (j:Nat) (y:Wt),j<m+1→x.ws[j]?=some y→WOne x.h x.ws j y):=fun h=>upto (P:=fun j y=>WOne x.h x.ws j y) HM.out.1 hz h
        have HV:Hid (∀ W,Below (wi.alloc (.cells #[.int .i64 z.c,.int .i64 z.l] 98)).heap.size (wi.alloc (.cells #[.int .i64 z.c,.int .i64 z.l] 98)) W→(W.cell? ⟨wi.heap.size,0,none⟩=some (.int .i64 z.c)∧W.cell? ⟨wi.heap.size,1,none⟩=some (.int .i64 z.l))∧(W.cell? ⟨wk.heap.size,2,none⟩=some (.int .i64 x.h)∧W.cell? ⟨wk.heap.size,4,none⟩=some (.slice (some ⟨b2,off2,none⟩) x.ws.length uc))∧(∀ j y,x.ws[j]?=some y→W.cell? ⟨b2,off2+j * 2,none⟩=some (.int .i64 y.c))∧Below wc.heap.size wc W):=fun W hW=>by
         have h1:=(hW.block wi.heap.size (by simp)).trans (heap_alloc_new wi _)
         have hW2:Below wc.heap.size wc W:=HM.out.2.trans (((zAD wi _).mono HM.out.2.size).trans (hW.mono (Nat.le_trans HM.out.2.size (by simp))))
         obtain ⟨⟨_,_,q2,_,q4⟩,_,q5,_,_⟩:=HY.out W hW2
         refine ⟨⟨(zAA h1 0 rfl).1,(zAA h1 1 rfl).1⟩,⟨q2,q4⟩,fun j y hj=>?_,hW2⟩
         obtain ⟨b',off',e,_,d0,_⟩:=RowG.at q5 rfl hj
         cases e
         exact d0
        clear hz hrw
        go_upto_region 15 with fail
        clear d0 d1 z2 z4
        generalize wi.alloc (.cells #[.int .i64 z.c,.int .i64 z.l] 98)=wz at HV ⊢
        obtain ⟨⟨p0,p1⟩,⟨p2,p4⟩,_,hbz⟩:=HV.out wz (Below.refl _ _)
        have HBZ:Hid (Below w.heap.size w wz):=HB0.out.trans ((HY.out _ hbz).2.2.2.2.mono HB0.out.size)
        clear hbz
        cases g1:inB z.c 0 255 with
        | false =>
          have HF:Hid (tok=false):=HWN.out fun h=>by have:=(HW1.out.1 h).1;rw [g1] at this;cases this
          go_wp2_with (go_at_call 40;refine (zAj _ _ _ _).mono ?_;rintro e w1 ⟨rfl,rfl⟩;first | rw [g1])
          go_ret
          exact ⟨zAG HF.out.symm,HBZ.out⟩
        | true =>
        cases g2:inB z.l 1 1000 with
        | false =>
          have HF:Hid (tok=false):=HWN.out fun h=>by have:=(HW1.out.1 h).2.1;rw [g2] at this;cases this
          go_wp2_with (go_at_call 40;refine (zAj _ _ _ _).mono ?_;rintro e w1 ⟨rfl,rfl⟩;first | rw [g1] | rw [g2])
          go_ret
          exact ⟨zAG HF.out.symm,HBZ.out⟩
        | true =>
        by_cases g3:z.c=x.h
        ·have g3':(z.c == x.h)=true:=by simpa using g3
         have HF:Hid (tok=false):=HWN.out fun h=>(HW1.out.1 h).2.2.1 g3
         clear g3
         go_wp2_with (go_at_call 40;refine (zAj _ _ _ _).mono ?_;rintro e w1 ⟨rfl,rfl⟩;first | rw [g1] | rw [g2])
         go_ret
         exact ⟨zAG HF.out.symm,HBZ.out⟩
        ·have g3':(z.c == x.h)=false:=by simpa using g3
         have HW2:Hid (WOne x.h x.ws m z ↔ ∀ (j:Nat) (y:Wt),j<m→x.ws[j]?=some y→y.c ≠ z.c):=⟨fun h=>h.2.2.2,fun h=>⟨g1,g2,g3,h⟩⟩
         clear g3
         go_wp2_with (go_at_call 40;refine (zAj _ _ _ _).mono ?_;rintro e w1 ⟨rfl,rfl⟩;first | rw [g1] | rw [g2])
         clear p0 p1 p2 p4 g3'
         go_loopw [7] (fun i wj=>∃ q:Nat,q≤m∧i=.int .i64 q∧Hid ((∀ (j:Nat) (y:Wt),j<q→x.ws[j]?=some y→y.c ≠ z.c)∧Below wz.heap.size wz wj)) (fun i _=>m - (intOf i).toNat)
         case atStart=>exact ⟨0,by omega,rfl,⟨fun j y hj=>by omega,Below.refl _ _⟩⟩
         case round =>
          rename World=>wj
          obtain ⟨q,hq,rfl,HJ⟩:=hrel
          obtain ⟨⟨p0,_⟩,⟨_,p4⟩,pr,pb⟩:=HV.out wj HJ.out.2
          have HPB:Hid (Below wc.heap.size wc wj):=pb
          by_cases hlt3:q<m
          ·obtain ⟨v,hv⟩:=Tw.get_at (xs:=x.ws) (k:=q) (by omega)
           have p5:=pr q v hv
           have HVV:Hid (x.ws[q]?=some v):=hv
           have l1:(0:Int)≤(q:Int):=by omega
           have l2:(q:Int)<(x.ws.length:Int):=by omega
           have l3:(q:Int)<(m:Int):=by omega
           clear pr pb hv
           by_cases hsame:v.c=z.c
           ·have hs':(v.c == z.c)=true:=by simpa using hsame
            have HF:Hid (tok=false):=HWN.out fun h=>(HW2.out.1 h) q v hlt3 HVV.out hsame
            have HBF:Hid (Below w.heap.size w wj):=HB0.out.trans ((HY.out _ HPB.out).2.2.2.2.mono HB0.out.size)
            clear hsame
            go_wp2_with fail
            go_quiet (fail)
            go_wp2_with fail
            go_ret
            exact ⟨zAG HF.out.symm,bel_n HBF.out⟩
           ·have hs':(v.c == z.c)=false:=by simpa using hsame
            have HJJ:Hid (∀ (j:Nat) (y:Wt),j<q+1→x.ws[j]?=some y→y.c ≠ z.c):=(show ∀ (j:Nat) (y:Wt),j<q+1→x.ws[j]?=some y→y.c ≠ z.c from upto (P:=fun (_:Nat) (y:Wt)=>y.c ≠ z.c) HJ.out.1 HVV.out hsame)
            have HJB:Hid (Below wz.heap.size wz wj):=HJ.out.2
            clear hsame HJ
            go_wp2_with fail
            go_quiet (fail)
            go_wp2_with fail
            exact ⟨⟨q+1,by omega,by go_num,⟨HJJ.out,bel_n HJB.out⟩⟩,by simp [intOf];omega⟩
          ·obtain rfl:q=m:=by omega
           have HDN:Hid (WOne x.h x.ws q z):=HW2.out.2 HJ.out.1
           clear p0 p4 pr pb HJ
           go_wp2_with fail
           go_roundw
           case rel=>(repeat apply Exists.intro);exact ⟨⟨q+1,by omega,by go_num,⟨HWY.out HDN.out,HPB.out⟩⟩,rfl⟩
           case measure=>simp [intOf];omega
       ·obtain rfl:m=x.ws.length:=by omega
        have HAS:Hid (Asks nx ls (j+1) x):=HAI.out.2 fun j y hy=>HM.out.1 j y (lt_at hy) hy
        obtain ⟨_,_,_,_,hbx⟩:=HY.out wi HM.out.2
        have HBX:Hid (Below wb.heap.size wb wi):=hbx
        clear hbx hrw
        go_wp2_with fail
        exact ⟨⟨(j+1)+1,by omega,by go_num,⟨HYS.out HAS.out,HBX.out⟩⟩,by simp [intOf];omega⟩
    ·have t5':decide ((4:Int)<(x.ws.length:Int))=true:=decide_eq_true (by omega)
     have HF:Hid (tok=false):=HNO.out fun h=>t5 h.2.2.2.2.2.1
     refine Qc.zAF (W:=W) (by kernel_rfl) (by kernel_rfl) (QI.out _ Qc.zAJ) ?_
     repeat (go_big_quiet_step (first | (go_at_call 41;refine (zAw _ _ HZ.out.1).mono ?_;rintro e w2 ⟨rfl,rfl⟩;rw [t1];exact ⟨rfl,_,rfl⟩) | (go_at_call 40;refine (zAj _ _ _ _).mono ?_;rintro e w2 ⟨rfl,rfl⟩;(first | rw [t2] | rw [t3] | rw [t4]);exact ⟨rfl,_,rfl⟩)))
     refine wpQuiet_nil ?_
     rintro _ ⟨xq,rfl⟩
     have G2:Hid (Below w.heap.size w (W xq)):=HBW.out xq
     clear y0 y1 y2 y3 y4 y5 y6 y7
     generalize W xq=wq at G2 ⊢
     go_wp2_with fail
     go_ret
     exact ⟨zAG HF.out.symm,G2.out⟩
  ·obtain rfl:k=ls.length:=by omega
   have HLS:Hid (LsOK nx ls):=fun j y hy=>HK.out.1 j y (lt_at hy) hy
   have HKB:Hid (Below wb.heap.size wb wk):=HK.out.2
   clear HK hr0
   go_wp2_with fail
   clear x1 x2 x3
   go_loopw [8] (fun i wi=>∃ k:Nat,k≤ss.length∧i=.int .i64 k∧Hid ((∀ (j:Nat) (y:Sn),j<k→ss[j]?=some y→SOne (pc ss j) y)∧Below wb.heap.size wb wi)) (fun i _=>ss.length - (intOf i).toNat)
   case atStart=>exact ⟨0,by omega,rfl,⟨fun j y hj=>by omega,HKB.out⟩⟩
   case round =>
    rename World=>wi
    clear HKB
    obtain ⟨k,hk,rfl,HK⟩:=hrel
    obtain ⟨⟨_,_,_,x3⟩,_,hr0,hbw⟩:=HX.out wi HK.out.2
    by_cases hlt:k<ss.length
    ·obtain ⟨x,hx⟩:=Tw.get_at hlt
     obtain ⟨b,off,rfl,hbl,c0,c1,c2,c3,c4,c5⟩:=RowG.at hr0 rfl hx
     have HNO:Hid (¬ SOne (pc ss k) x→tok=false):=fun h=>HT.out.symm.trans (zAP fun hh=>h ((HT2.out.1 hh).2 k x hx))
     have HYS:Hid (SOne (pc ss k) x→∀ (j:Nat) (y:Sn),j<k+1→ss[j]?=some y→SOne (pc ss j) y):=fun h=>upto (P:=fun j y=>SOne (pc ss j) y) HK.out.1 hx h
     have HY:Hid (∀ W,Below (wi.alloc (.cells #[.int .i64 x.c,.int .i64 x.s,.int .i64 x.k,.int .i64 x.t,.int .i64 x.h,.int .i64 x.e] 102)).heap.size (wi.alloc (.cells #[.int .i64 x.c,.int .i64 x.s,.int .i64 x.k,.int .i64 x.t,.int .i64 x.h,.int .i64 x.e] 102)) W→(W.cell? ⟨wi.heap.size,0,none⟩=some (.int .i64 x.c)∧W.cell? ⟨wi.heap.size,1,none⟩=some (.int .i64 x.s)∧W.cell? ⟨wi.heap.size,2,none⟩=some (.int .i64 x.k)∧W.cell? ⟨wi.heap.size,3,none⟩=some (.int .i64 x.t)∧W.cell? ⟨wi.heap.size,4,none⟩=some (.int .i64 x.h)∧W.cell? ⟨wi.heap.size,5,none⟩=some (.int .i64 x.e))∧W.cell? ⟨w.heap.size,3,none⟩=some (.slice (some ⟨b,off,none⟩) ss.length sc)∧(∀ j y,ss[j]?=some y→W.cell? ⟨b,off+j * 6,none⟩=some (.int .i64 y.c))∧Below wb.heap.size wb W):=fun W hW=>by
      have h1:=(hW.block wi.heap.size (by simp)).trans (heap_alloc_new wi _)
      have hW2:Below wb.heap.size wb W:=HK.out.2.trans (((zAD wi _).mono HK.out.2.size).trans (hW.mono (Nat.le_trans HK.out.2.size (by simp))))
      obtain ⟨⟨_,_,_,q3⟩,_,q4,_⟩:=HX.out W hW2
      refine ⟨⟨(zAA h1 0 rfl).1,(zAA h1 1 rfl).1,(zAA h1 2 rfl).1,(zAA h1 3 rfl).1,(zAA h1 4 rfl).1,(zAA h1 5 rfl).1⟩,q3,fun j y hj=>?_,hW2⟩
      obtain ⟨b',off',e,_,d0,_⟩:=RowG.at q4 rfl hj
      cases e
      exact d0
     have HKX:Hid ((∀ (j:Nat) (y:Sn),j<k→ss[j]?=some y→SOne (pc ss j) y)∧ss[k]?=some x):=⟨HK.out.1,hx⟩
     clear hx hr0 HK hbw
     go_upto_region 26 with fail
     clear c0 c1 c2 c3 c4 c5 x3
     generalize wi.alloc (.cells #[.int .i64 x.c,.int .i64 x.s,.int .i64 x.k,.int .i64 x.t,.int .i64 x.h,.int .i64 x.e] 102)=wc at HY ⊢
     obtain ⟨X,hX,W,QI0,QO0⟩:=Qc.zAo wc
     have QI:Hid (∀ w',Below wc.heap.size wc w'→∃ x,w'=W x):=QI0
     have QO:Hid (∀ x,Below wc.heap.size wc (W x)):=QO0
     clear QI0 QO0
     have y0:=fun q=>(HY.out _ (QO.out q)).1.1
     have y1:=fun q=>(HY.out _ (QO.out q)).1.2.1
     have y2:=fun q=>(HY.out _ (QO.out q)).1.2.2.1
     have y3:=fun q=>(HY.out _ (QO.out q)).1.2.2.2.1
     have y4:=fun q=>(HY.out _ (QO.out q)).1.2.2.2.2.1
     have y5:=fun q=>(HY.out _ (QO.out q)).1.2.2.2.2.2
     have y6:=fun q=>(HY.out _ (QO.out q)).2.1
     have HBW:Hid (∀ q,Below wb.heap.size wb (W q)∧Below w.heap.size w (W q)):=fun q=>⟨(HY.out _ (QO.out q)).2.2.2,HB0.out.trans ((HY.out _ (QO.out q)).2.2.2.mono HB0.out.size)⟩
     by_cases hk0:k=0
     ·subst hk0
      have HSI:Hid (SOne (pc ss 0) x ↔ (inB x.c 0 255=true∧inB x.s 1 65535=true∧zBi x.k x.t x.h x.e)):=Iff.rfl
      cases t1:inB x.c 0 255 with
      | false =>
        have HF:Hid (tok=false):=HNO.out fun h0=>by have h:=HSI.out.1 h0;have:=h.1;rw [t1] at this;cases this
        refine Qc.zAF (W:=W) (by kernel_rfl) (by kernel_rfl) (QI.out _ Qc.zAJ) ?_
        repeat (go_big_quiet_step (first | (go_at_call 42;refine (zAm _ _ _ _ _).mono ?_;rintro e w2 ⟨rfl,b2⟩;rw [t3];exact ⟨rfl,Qc.back QI.out QO.out b2⟩) | (go_at_call 40;refine (zAj _ _ _ _).mono ?_;rintro e w2 ⟨rfl,rfl⟩;(first | rw [t1]);exact ⟨rfl,_,rfl⟩)))
        refine wpQuiet_nil ?_
        rintro _ ⟨xq,rfl⟩
        have G2:Hid (Below wb.heap.size wb (W xq)∧Below w.heap.size w (W xq)):=HBW.out xq
        clear y0 y1 y2 y3 y4 y5 y6
        generalize W xq=wq at G2 ⊢
        go_wp2_with fail
        go_ret
        exact ⟨zAG HF.out.symm,G2.out.2⟩
      | true =>
      cases t2:inB x.s 1 65535 with
      | false =>
        have HF:Hid (tok=false):=HNO.out fun h0=>by have h:=HSI.out.1 h0;have:=h.2.1;rw [t2] at this;cases this
        refine Qc.zAF (W:=W) (by kernel_rfl) (by kernel_rfl) (QI.out _ Qc.zAJ) ?_
        repeat (go_big_quiet_step (first | (go_at_call 42;refine (zAm _ _ _ _ _).mono ?_;rintro e w2 ⟨rfl,b2⟩;rw [t3];exact ⟨rfl,Qc.back QI.out QO.out b2⟩) | (go_at_call 40;refine (zAj _ _ _ _).mono ?_;rintro e w2 ⟨rfl,rfl⟩;(first | rw [t1] | rw [t2]);exact ⟨rfl,_,rfl⟩)))
        refine wpQuiet_nil ?_
        rintro _ ⟨xq,rfl⟩
        have G2:Hid (Below wb.heap.size wb (W xq)∧Below w.heap.size w (W xq)):=HBW.out xq
        clear y0 y1 y2 y3 y4 y5 y6
        generalize W xq=wq at G2 ⊢
        go_wp2_with fail
        go_ret
        exact ⟨zAG HF.out.symm,G2.out.2⟩
      | true =>
      cases t3:bOf (zBi x.k x.t x.h x.e) with
      | false =>
        have HF:Hid (tok=false):=HNO.out fun h0=>by have h:=HSI.out.1 h0;rw [zAY (h.2.2)] at t3;cases t3
        refine Qc.zAF (W:=W) (by kernel_rfl) (by kernel_rfl) (QI.out _ Qc.zAJ) ?_
        repeat (go_big_quiet_step (first | (go_at_call 42;refine (zAm _ _ _ _ _).mono ?_;rintro e w2 ⟨rfl,b2⟩;rw [t3];exact ⟨rfl,Qc.back QI.out QO.out b2⟩) | (go_at_call 40;refine (zAj _ _ _ _).mono ?_;rintro e w2 ⟨rfl,rfl⟩;(first | rw [t1] | rw [t2]);exact ⟨rfl,_,rfl⟩)))
        refine wpQuiet_nil ?_
        rintro _ ⟨xq,rfl⟩
        have G2:Hid (Below wb.heap.size wb (W xq)∧Below w.heap.size w (W xq)):=HBW.out xq
        clear y0 y1 y2 y3 y4 y5 y6
        generalize W xq=wq at G2 ⊢
        go_wp2_with fail
        go_ret
        exact ⟨zAG HF.out.symm,G2.out.2⟩
      | true =>
      have HSO:Hid (SOne (pc ss 0) x):=HSI.out.2 ⟨t1,t2,(Classical.byContradiction fun hn=>by rw [zAP hn] at t3;cases t3)⟩
      refine Qc.zAF (W:=W) (by kernel_rfl) (by kernel_rfl) (QI.out _ Qc.zAJ) ?_
      repeat (go_big_quiet_step (first | (go_at_call 42;refine (zAm _ _ _ _ _).mono ?_;rintro e w2 ⟨rfl,b2⟩;rw [t3];exact ⟨rfl,Qc.back QI.out QO.out b2⟩) | (go_at_call 40;refine (zAj _ _ _ _).mono ?_;rintro e w2 ⟨rfl,rfl⟩;(first | rw [t1] | rw [t2]);exact ⟨rfl,_,rfl⟩)))
      refine wpQuiet_nil ?_
      rintro _ ⟨xq,rfl⟩
      have G2:Hid (Below wb.heap.size wb (W xq)∧Below w.heap.size w (W xq)):=HBW.out xq
      clear y0 y1 y2 y3 y4 y5 y6
      generalize W xq=wq at G2 ⊢
      go_wp2_with fail
      exact ⟨⟨0+1,by omega,by go_num,⟨HYS.out HSO.out,G2.out.1⟩⟩,by simp [intOf];omega⟩
     ·obtain ⟨j,rfl⟩ : ∃ j,k=j+1:=⟨k - 1,by omega⟩
      obtain ⟨p,hp⟩:=Tw.get_at (xs:=ss) (k:=j) (by omega)
      have HSI:Hid (SOne (pc ss (j+1)) x ↔ (inB x.c 0 255=true∧inB x.s 1 65535=true∧zBi x.k x.t x.h x.e∧p.c<x.c)):=seen_iff HKX.out.1 hp
      have y7:=fun q=>(HY.out _ (QO.out q)).2.2.1 j p hp
      have r1:(0:Int)<(j:Int)+1:=by omega
      have r2:(j:Int)+1<(ss.length:Int):=by omega
      have r3:(j:Int)<(ss.length:Int):=by omega
      clear hp
      cases t1:inB x.c 0 255 with
      | false =>
        have HF:Hid (tok=false):=HNO.out fun h0=>by have h:=HSI.out.1 h0;have:=h.1;rw [t1] at this;cases this
        refine Qc.zAF (W:=W) (by kernel_rfl) (by kernel_rfl) (QI.out _ Qc.zAJ) ?_
        repeat (go_big_quiet_step (first | (go_at_call 42;refine (zAm _ _ _ _ _).mono ?_;rintro e w2 ⟨rfl,b2⟩;rw [t3];exact ⟨rfl,Qc.back QI.out QO.out b2⟩) | (go_at_call 40;refine (zAj _ _ _ _).mono ?_;rintro e w2 ⟨rfl,rfl⟩;(first | rw [t1]);exact ⟨rfl,_,rfl⟩)))
        refine wpQuiet_nil ?_
        rintro _ ⟨xq,rfl⟩
        have G2:Hid (Below wb.heap.size wb (W xq)∧Below w.heap.size w (W xq)):=HBW.out xq
        clear y0 y1 y2 y3 y4 y5 y6 y7
        generalize W xq=wq at G2 ⊢
        go_wp2_with fail
        go_ret
        exact ⟨zAG HF.out.symm,G2.out.2⟩
      | true =>
      cases t2:inB x.s 1 65535 with
      | false =>
        have HF:Hid (tok=false):=HNO.out fun h0=>by have h:=HSI.out.1 h0;have:=h.2.1;rw [t2] at this;cases this
        refine Qc.zAF (W:=W) (by kernel_rfl) (by kernel_rfl) (QI.out _ Qc.zAJ) ?_
        repeat (go_big_quiet_step (first | (go_at_call 42;refine (zAm _ _ _ _ _).mono ?_;rintro e w2 ⟨rfl,b2⟩;rw [t3];exact ⟨rfl,Qc.back QI.out QO.out b2⟩) | (go_at_call 40;refine (zAj _ _ _ _).mono ?_;rintro e w2 ⟨rfl,rfl⟩;(first | rw [t1] | rw [t2]);exact ⟨rfl,_,rfl⟩)))
        refine wpQuiet_nil ?_
        rintro _ ⟨xq,rfl⟩
        have G2:Hid (Below wb.heap.size wb (W xq)∧Below w.heap.size w (W xq)):=HBW.out xq
        clear y0 y1 y2 y3 y4 y5 y6 y7
        generalize W xq=wq at G2 ⊢
        go_wp2_with fail
        go_ret
        exact ⟨zAG HF.out.symm,G2.out.2⟩
      | true =>
      cases t3:bOf (zBi x.k x.t x.h x.e) with
      | false =>
        have HF:Hid (tok=false):=HNO.out fun h0=>by have h:=HSI.out.1 h0;rw [zAY (h.2.2.1)] at t3;cases t3
        refine Qc.zAF (W:=W) (by kernel_rfl) (by kernel_rfl) (QI.out _ Qc.zAJ) ?_
        repeat (go_big_quiet_step (first | (go_at_call 42;refine (zAm _ _ _ _ _).mono ?_;rintro e w2 ⟨rfl,b2⟩;rw [t3];exact ⟨rfl,Qc.back QI.out QO.out b2⟩) | (go_at_call 40;refine (zAj _ _ _ _).mono ?_;rintro e w2 ⟨rfl,rfl⟩;(first | rw [t1] | rw [t2]);exact ⟨rfl,_,rfl⟩)))
        refine wpQuiet_nil ?_
        rintro _ ⟨xq,rfl⟩
        have G2:Hid (Below wb.heap.size wb (W xq)∧Below w.heap.size w (W xq)):=HBW.out xq
        clear y0 y1 y2 y3 y4 y5 y6 y7
        generalize W xq=wq at G2 ⊢
        go_wp2_with fail
        go_ret
        exact ⟨zAG HF.out.symm,G2.out.2⟩
      | true =>
      by_cases t4:x.c≤p.c
      ·have t4':decide (x.c≤p.c)=true:=decide_eq_true t4
       have HF:Hid (tok=false):=HNO.out fun h0=>by have h:=(HSI.out.1 h0).2.2.2;omega
       refine Qc.zAF (W:=W) (by kernel_rfl) (by kernel_rfl) (QI.out _ Qc.zAJ) ?_
       repeat (go_big_quiet_step (first | (go_at_call 42;refine (zAm _ _ _ _ _).mono ?_;rintro e w2 ⟨rfl,b2⟩;rw [t3];exact ⟨rfl,Qc.back QI.out QO.out b2⟩) | (go_at_call 40;refine (zAj _ _ _ _).mono ?_;rintro e w2 ⟨rfl,rfl⟩;(first | rw [t1] | rw [t2]);exact ⟨rfl,_,rfl⟩)))
       refine wpQuiet_nil ?_
       rintro _ ⟨xq,rfl⟩
       have G2:Hid (Below wb.heap.size wb (W xq)∧Below w.heap.size w (W xq)):=HBW.out xq
       clear y0 y1 y2 y3 y4 y5 y6 y7
       generalize W xq=wq at G2 ⊢
       go_wp2_with fail
       go_ret
       exact ⟨zAG HF.out.symm,G2.out.2⟩
      ·have t4':decide (x.c≤p.c)=false:=decide_eq_false t4
       have HSO:Hid (SOne (pc ss (j+1)) x):=HSI.out.2 ⟨t1,t2,(Classical.byContradiction fun hn=>by rw [zAP hn] at t3;cases t3),by omega⟩
       refine Qc.zAF (W:=W) (by kernel_rfl) (by kernel_rfl) (QI.out _ Qc.zAJ) ?_
       repeat (go_big_quiet_step (first | (go_at_call 42;refine (zAm _ _ _ _ _).mono ?_;rintro e w2 ⟨rfl,b2⟩;rw [t3];exact ⟨rfl,Qc.back QI.out QO.out b2⟩) | (go_at_call 40;refine (zAj _ _ _ _).mono ?_;rintro e w2 ⟨rfl,rfl⟩;(first | rw [t1] | rw [t2]);exact ⟨rfl,_,rfl⟩)))
       refine wpQuiet_nil ?_
       rintro _ ⟨xq,rfl⟩
       have G2:Hid (Below wb.heap.size wb (W xq)∧Below w.heap.size w (W xq)):=HBW.out xq
       clear y0 y1 y2 y3 y4 y5 y6 y7
       generalize W xq=wq at G2 ⊢
       go_wp2_with fail
       exact ⟨⟨(j+1)+1,by omega,by go_num,⟨HYS.out HSO.out,G2.out.1⟩⟩,by simp [intOf];omega⟩
    ·obtain rfl:k=ss.length:=by omega
     have HF:Hid (tok=true):=HT.out.symm.trans (zAY (HT2.out.2 ⟨HLS.out,fun j y hy=>HK.out.1 j y (lt_at hy) hy⟩))
     have HBF:Hid (Below w.heap.size w wi):=hbw
     clear hbw hr0
     go_wp2_with fail
     go_ret
     exact ⟨zAG HF.out.symm,HBF.out⟩
end Go.Proofs.YtakfniknkejgpaaGreatDoor.Tq
namespace Go.Proofs.YtakfniknkejgpaaGreatDoor.Ub
open Go.RowKit Sl By Ap Tx Tb Tw Rq Tp Tq Pu Pt Ps
set_option maxRecDepth 100000 in
set_option maxHeartbeats 1600000 in
theorem specTableBytes_any (tm nx:Int) (vl vs:Value) (ls:List Lk) (ss:List Sn) (w:World) (hl:RowL w vl ls) (hs:RowS w vs ss) (hw:∀ x ∈ ls,x.n.size≤1048576∧x.ws.length≤1048576) (hy1:ls.length≤1048576) (hy2:ss.length≤1048576) :
 Calls Tryz.prog 7 #[tabV tm nx vl vs] w fun e w'=>∃ v,e=.returned (.tuple #[v,.int .i64 (zBQ tm nx ls ss)])∧OwnB 5 w' w.heap.size v (tbOut tm nx ls ss)∧Below w.heap.size w w':=by
 obtain ⟨la,lc,rfl⟩:=RowG.slice hl
 obtain ⟨sa,sc,rfl⟩:=RowG.slice hs
 have HX:Hid (∀ W,Below (w.alloc (.cells #[.int .i64 tm,.int .i64 nx,.slice la ls.length lc,.slice sa ss.length sc] 26)).heap.size (w.alloc (.cells #[.int .i64 tm,.int .i64 nx,.slice la ls.length lc,.slice sa ss.length sc] 26)) W→(W.cell? ⟨w.heap.size,0,none⟩=some (.int .i64 tm)∧W.cell? ⟨w.heap.size,1,none⟩=some (.int .i64 nx)∧W.cell? ⟨w.heap.size,2,none⟩=some (.slice la ls.length lc)∧W.cell? ⟨w.heap.size,3,none⟩=some (.slice sa ss.length sc))∧RowL W (.slice la ls.length lc) ls∧RowS W (.slice sa ss.length sc) ss∧w.heap.size<W.heap.size∧Below w.heap.size w W):=fun W hW=>by
  have h1:=(hW.block w.heap.size (by simp)).trans (heap_alloc_new w _)
  exact ⟨⟨(zAA h1 0 rfl).1,(zAA h1 1 rfl).1,(zAA h1 2 rfl).1,(zAA h1 3 rfl).1⟩,(hl.below (zAD _ _)).below hW,(hs.below (zAD _ _)).below hW,(Array.getElem?_eq_some_iff.1 h1).1,(zAD w _).trans (hW.mono (by simp))⟩
 have HOK:Hid (∀ W,RowL W (.slice la ls.length lc) ls→RowS W (.slice sa ss.length sc) ss→Calls Tryz.prog 18 #[.agg #[.int .i64 tm,.int .i64 nx,.slice la ls.length lc,.slice sa ss.length sc]] W fun e w'=>e=.returned (.bool (bOf (TOK ⟨tm,nx,ls,ss⟩)))∧Below W.heap.size W w'):=fun W h1 h2=>specTableOK_any tm nx _ _ ls ss W h1 h2 hw hy1 hy2
 clear hl hs hw
 unfold tabV
 cases htk:bOf (TOK ⟨tm,nx,ls,ss⟩) with
 | false =>
   have HC:Hid (zBQ tm nx ls ss=1∧tbOut tm nx ls ss=[]):=⟨by unfold zBQ;rw [htk];rfl,by unfold tbOut;rw [htk];rfl⟩
   rw [htk] at HOK
   clear htk
   go_enter Tryz.func7,Tryz.ntmps7
   go_upto_region 1 with fail
   generalize w.alloc (.cells #[.int .i64 tm,.int .i64 nx,.slice la ls.length lc,.slice sa ss.length sc] 26)=wb at HX ⊢
   obtain ⟨⟨x0,x1,x2,x3⟩,r1,r2,_,rb⟩:=HX.out wb (Below.refl _ _)
   have HR:Hid (RowL wb (.slice la ls.length lc) ls∧RowS wb (.slice sa ss.length sc) ss∧Below w.heap.size w wb):=⟨r1,r2,rb⟩
   clear r1 r2 rb
   go_wp2_with fail
   refine (HOK.out _ HR.out.1 HR.out.2.1).mono ?_
   rintro e w1 ⟨rfl,b1⟩
   have HB1:Hid (Below w.heap.size w w1):=HR.out.2.2.trans (b1.mono HR.out.2.2.size)
   clear b1
   go_wp2_with fail
   go_ret2
   exact ⟨_,ret_tup HC.out.1.symm,by rw [HC.out.2];exact own_lit _ w1 _ [] 0 rfl HB1.out.size (by decide),HB1.out.trans ((zAD w1 _).mono HB1.out.size)⟩
 | true =>
   have HC:Hid (zBQ tm nx ls ss=0∧tbOut tm nx ls ss=zBO tm nx ls ss):=⟨by unfold zBQ;rw [htk];rfl,by unfold tbOut;rw [htk];rfl⟩
   have HBD:Hid (Bnd ls ss):=zCY (tok_true htk)
   rw [htk] at HOK
   clear htk
   go_enter Tryz.func7,Tryz.ntmps7
   go_upto_region 1 with fail
   generalize w.alloc (.cells #[.int .i64 tm,.int .i64 nx,.slice la ls.length lc,.slice sa ss.length sc] 26)=wb at HX ⊢
   obtain ⟨⟨x0,x1,x2,x3⟩,r1,r2,_,rb⟩:=HX.out wb (Below.refl _ _)
   have HR:Hid (RowL wb (.slice la ls.length lc) ls∧RowS wb (.slice sa ss.length sc) ss∧Below w.heap.size w wb):=⟨r1,r2,rb⟩
   clear r1 r2 rb
   go_wp2_with fail
   refine (HOK.out _ HR.out.1 HR.out.2.1).mono ?_
   rintro e w1 ⟨rfl,b1⟩
   have B1:Hid (Below wb.heap.size wb w1):=b1
   clear b1 x0 x1 x2 x3
   obtain ⟨⟨x0,x1,x2,x3⟩,r1,r2,_,rb⟩:=HX.out w1 B1.out
   have HR1:Hid (RowL w1 (.slice la ls.length lc) ls∧RowS w1 (.slice sa ss.length sc) ss∧Below w.heap.size w w1):=⟨r1,r2,rb⟩
   clear r1 r2 rb
   go_wp2_with fail
   refine (zBw tm nx _ _ ls ss w1 HR1.out.1 HR1.out.2.1 HBD.out).mono ?_
   rintro e w2 ⟨v2,rfl,o2,b2⟩
   have HO:Hid (OwnB 5 w2 w.heap.size v2 (zBO tm nx ls ss)∧Below w.heap.size w w2):=⟨own_le o2 HR1.out.2.2.size,HR1.out.2.2.trans (b2.mono HR1.out.2.2.size)⟩
   clear o2 b2 x0 x1 x2 x3
   go_wp2_with fail
   go_ret2
   exact ⟨_,ret_tup HC.out.1.symm,by rw [HC.out.2];exact HO.out.1,HO.out.2⟩
end Go.Proofs.YtakfniknkejgpaaGreatDoor.Ub
