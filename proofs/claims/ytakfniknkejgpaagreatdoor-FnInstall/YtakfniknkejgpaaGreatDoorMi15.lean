/- Texts put together: Hs, Pt, Pt2. -/
import Derived.Test.YtakfniknkejgpaaGreatDoorMi12
namespace Go.Proofs.YtakfniknkejgpaaGreatDoor.Hs
open Go.RowKit Sl Rg Gt
def stV (sq sz:Int) (rt:ByteArray) (vr:Value):Value:=.agg #[.int .i64 sq,.int .i64 sz,.string rt,vr]
end Go.Proofs.YtakfniknkejgpaaGreatDoor.Hs
namespace Go.Proofs.YtakfniknkejgpaaGreatDoor.Op
open Go.ChangeShapes Go.WideShapes Go.ChangeAt Go.RowKit Go.Deep Gt Hs
end Go.Proofs.YtakfniknkejgpaaGreatDoor.Op
namespace Go.Proofs.YtakfniknkejgpaaGreatDoor.Pt
open Go.RowKit Sl By Ap Tx Tb Tw Rq Tp Pu
def wtBs (x:Wt):List Int:=nums x.c 1 1 ++ nums x.l 2 2
def wsBs (ws:List Wt):List Int:=ws.flatMap wtBs
def lkBs (x:Lk):List Int:=nums (x.n.size:Int) 1 1 ++ (bys x.n ++ (nums x.t 3 3 ++ (nums (x.h+1) 2 2 ++ (nums x.e 4 4 ++ (nums (x.ws.length:Int) 1 1 ++ wsBs x.ws)))))
def snBs (x:Sn):List Int:=nums x.c 1 1 ++ (nums x.s 2 2 ++ (nums x.k 1 1 ++ (nums x.t 3 3 ++ (nums (x.h+1) 2 2 ++ nums x.e 4 4))))
def lsBs (ls:List Lk):List Int:=ls.flatMap lkBs
def ssBs (ss:List Sn):List Int:=ss.flatMap snBs
def zBO (tm nx:Int) (ls:List Lk) (ss:List Sn):List Int:=nums tm 4 4 ++ (nums nx 3 3 ++ (nums (ls.length:Int) 1 1 ++ (lsBs ls ++ (nums (ss.length:Int) 1 1 ++ ssBs ss))))
theorem take_bs {α:Type} (f:α→List Int) {xs:List α} {k:Nat} {x:α} (h:xs[k]?=some x):(xs.take (k+1)).flatMap f=(xs.take k).flatMap f ++ f x:=by
 rw [List.take_add_one,h,List.flatMap_append]
 simp
theorem wsBs_len (ws:List Wt):(wsBs ws).length=3 * ws.length:=by
 unfold wsBs
 induction ws with
 | nil=>rfl
 | cons a l ih=>rw [List.flatMap_cons,List.length_append,ih];unfold wtBs;rw [List.length_append,nums_length,nums_length,List.length_cons];omega
theorem lkBs_len (x:Lk):(lkBs x).length=11+x.n.size+3 * x.ws.length:=by unfold lkBs;simp only [List.length_append,nums_length,zAV,wsBs_len];omega
theorem snBs_len (x:Sn):(snBs x).length=13:=by unfold snBs;simp only [List.length_append,nums_length]
theorem zCI:∀ (ls:List Lk),(∀ x ∈ ls,x.n.size≤12∧x.ws.length≤4)→(lsBs ls).length≤35 * ls.length
 | [],_=>Nat.le_refl _
 | x :: l,h=>by
   have:=zCI l fun y hy=>h y (List.mem_cons_of_mem _ hy)
   have hx:=h x (List.mem_cons_self ..)
   unfold lsBs at this ⊢
   rw [List.flatMap_cons,List.length_append,lkBs_len,List.length_cons]
   omega
theorem zCA:∀ (ss:List Sn),(ssBs ss).length=13 * ss.length
 | []=>rfl
 | x :: l=>by
   have:=zCA l
   unfold ssBs at this ⊢
   rw [List.flatMap_cons,List.length_append,snBs_len,List.length_cons]
   omega
theorem zAU {xs ys:List Int} (h:∀ z ∈ xs,0≤z∧z≤255) (g:∀ z ∈ ys,0≤z∧z≤255):∀ z ∈ xs ++ ys,0≤z∧z≤255:=fun z hz=>by
 rcases List.mem_append.1 hz with hz | hz
 ·exact h z hz
 ·exact g z hz
theorem flat_range {α:Type} {f:α→List Int} (h:∀ x,∀ z ∈ f x,0≤z∧z≤255) (xs:List α):∀ z ∈ xs.flatMap f,0≤z∧z≤255:=fun z hz=>by
 obtain ⟨x,_,hx⟩:=List.mem_flatMap.1 hz
 exact h x z hx
theorem wsBs_range (ws:List Wt):∀ z ∈ wsBs ws,0≤z∧z≤255:=flat_range (fun _=>zAU (zAQ _ _ _) (zAQ _ _ _)) ws
theorem lkBs_range (x:Lk):∀ z ∈ lkBs x,0≤z∧z≤255:=zAU (zAQ _ _ _) (zAU (bys_range _) (zAU (zAQ _ _ _) (zAU (zAQ _ _ _) (zAU (zAQ _ _ _) (zAU (zAQ _ _ _) (wsBs_range _))))))
theorem snBs_range (x:Sn):∀ z ∈ snBs x,0≤z∧z≤255:=zAU (zAQ _ _ _) (zAU (zAQ _ _ _) (zAU (zAQ _ _ _) (zAU (zAQ _ _ _) (zAU (zAQ _ _ _) (zAQ _ _ _)))))
theorem tabBs_range (tm nx:Int) (ls:List Lk) (ss:List Sn):∀ z ∈ zBO tm nx ls ss,0≤z∧z≤255:=zAU (zAQ _ _ _) (zAU (zAQ _ _ _) (zAU (zAQ _ _ _) (zAU (flat_range lkBs_range ls) (zAU (zAQ _ _ _) (flat_range snBs_range ss)))))
def EWB (B:Nat) (w:World) (b o:Nat) (x:Wt):Prop:=b<B∧EW w b o x
def ESB (B:Nat) (w:World) (b o:Nat) (x:Sn):Prop:=b<B∧ES w b o x
def ELB (B:Nat) (w:World) (b o:Nat) (x:Lk):Prop:=b<B∧∃ u,w.cell? ⟨b,o,none⟩=some (.string x.n)∧w.cell? ⟨b,o+1,none⟩=some (.int .i64 x.t)∧w.cell? ⟨b,o+2,none⟩=some (.int .i64 x.h)∧w.cell? ⟨b,o+3,none⟩=some (.int .i64 x.e)∧w.cell? ⟨b,o+4,none⟩=some u∧RowG 2 (EWB B) w u x.ws
theorem RowG.map {α:Type} {c:Nat} {E E':World→Nat→Nat→α→Prop} {w w':World} {v:Value} {xs:List α} (h:RowG c E w v xs) (hs:w.heap.size≤w'.heap.size) (hE:∀ b o x,b<w.heap.size→E w b o x→E' w' b o x):RowG c E' w' v xs:=by
 obtain ⟨a,cap,rfl,h⟩:=h
 refine ⟨a,cap,rfl,?_⟩
 rcases h with h | ⟨b,off,rfl,hc,hlt,h⟩
 ·exact .inl h
 ·exact .inr ⟨b,off,rfl,hc,Nat.lt_of_lt_of_le hlt hs,fun i x hi=>hE _ _ _ hlt (h i x hi)⟩
def RowWB (B:Nat) (w:World) (v:Value) (xs:List Wt):Prop:=RowG 2 (EWB B) w v xs
def RowLB (B:Nat) (w:World) (v:Value) (xs:List Lk):Prop:=RowG 5 (ELB B) w v xs
def RowSB (B:Nat) (w:World) (v:Value) (xs:List Sn):Prop:=RowG 6 (ESB B) w v xs
theorem RowW.low {w:World} {v:Value} {xs:List Wt} (h:RowW w v xs):RowWB w.heap.size w v xs:=RowG.map h (Nat.le_refl _) fun _ _ _ hb he=>⟨hb,he⟩
theorem RowS.low {w:World} {v:Value} {xs:List Sn} (h:RowS w v xs):RowSB w.heap.size w v xs:=RowG.map h (Nat.le_refl _) fun _ _ _ hb he=>⟨hb,he⟩
theorem RowL.low {w:World} {v:Value} {xs:List Lk} (h:RowL w v xs):RowLB w.heap.size w v xs:=RowG.map h (Nat.le_refl _) fun _ _ _ hb ⟨u,h0,h1,h2,h3,h4,h5⟩=>⟨hb,u,h0,h1,h2,h3,h4,RowW.low h5⟩
theorem ewb {B:Nat} {w w':World} (hb:Below B w w') {b o:Nat} {x:Wt} (h:EWB B w b o x):EWB B w' b o x:=⟨h.1,(hb.cell (p:=⟨b,_,none⟩) h.1).trans h.2.1,(hb.cell (p:=⟨b,_,none⟩) h.1).trans h.2.2⟩
theorem RowWB.below {B:Nat} {w w':World} {v:Value} {xs:List Wt} (h:RowWB B w v xs) (hb:Below B w w'):RowWB B w' v xs:=RowG.map h hb.size fun _ _ _ _ h=>ewb hb h
theorem RowSB.below {B:Nat} {w w':World} {v:Value} {xs:List Sn} (h:RowSB B w v xs) (hb:Below B w w'):RowSB B w' v xs:=RowG.map h hb.size fun b _ _ _ ⟨hl,h0,h1,h2,h3,h4,h5⟩=>⟨hl,(hb.cell (p:=⟨b,_,none⟩) hl).trans h0,(hb.cell (p:=⟨b,_,none⟩) hl).trans h1,(hb.cell (p:=⟨b,_,none⟩) hl).trans h2,(hb.cell (p:=⟨b,_,none⟩) hl).trans h3,(hb.cell (p:=⟨b,_,none⟩) hl).trans h4,(hb.cell (p:=⟨b,_,none⟩) hl).trans h5⟩
theorem RowLB.below {B:Nat} {w w':World} {v:Value} {xs:List Lk} (h:RowLB B w v xs) (hb:Below B w w'):RowLB B w' v xs:=RowG.map h hb.size fun b _ _ _ ⟨hl,u,h0,h1,h2,h3,h4,h5⟩=>⟨hl,u,(hb.cell (p:=⟨b,_,none⟩) hl).trans h0,(hb.cell (p:=⟨b,_,none⟩) hl).trans h1,(hb.cell (p:=⟨b,_,none⟩) hl).trans h2,(hb.cell (p:=⟨b,_,none⟩) hl).trans h3,(hb.cell (p:=⟨b,_,none⟩) hl).trans h4,RowWB.below h5 hb⟩
theorem own_away {e:TypeId} {w:World} {B:Nat} {v:Value} {zs:List Int} (h:OwnB e w B v zs):some w.heap.size ≠ v.ownBlock:=by
 intro hn
 unfold OwnB at h
 have:=(h.lt _ hn.symm).2
 omega
theorem box_kept {w w1:World} {v v1:Value} {cs:Array Value} {t:TypeId} (h:Kp (w.alloc (.cells cs t)) w1 v v1) (hn:some w.heap.size ≠ v.ownBlock):w1.heap[w.heap.size]?=some (.cells cs t (0,0)) :=
 (h.block w.heap.size (by simp) hn).trans (heap_alloc_new w _)
set_option maxRecDepth 100000 in
set_option maxHeartbeats 1600000 in
theorem putSeen_any (v:Value) (zs:List Int) (x:Sn) (B:Nat) (w:World) (hown:OwnB 5 w B v zs) (hB:B≤w.heap.size) (hlen:zs.length≤100000) (hh : -1≤x.h∧x.h≤255) :
 Calls Tryz.prog 67 #[v,snV x] w fun e w'=>∃ v',e=.returned v'∧OwnB 5 w' B v' (zs ++ snBs x)∧Kp w w' v v':=by
 have ha:=own_away hown
 have HK:Hid (∀ w1 v1,Kp (w.alloc (.cells #[.int .i64 x.c,.int .i64 x.s,.int .i64 x.k,.int .i64 x.t,.int .i64 x.h,.int .i64 x.e] 102)) w1 v v1→(w1.cell? ⟨w.heap.size,0,none⟩=some (.int .i64 x.c)∧w1.cell? ⟨w.heap.size,1,none⟩=some (.int .i64 x.s)∧w1.cell? ⟨w.heap.size,2,none⟩=some (.int .i64 x.k)∧w1.cell? ⟨w.heap.size,3,none⟩=some (.int .i64 x.t)∧w1.cell? ⟨w.heap.size,4,none⟩=some (.int .i64 x.h)∧w1.cell? ⟨w.heap.size,5,none⟩=some (.int .i64 x.e))):=fun w1 v1 h=>by
  have h1:=box_kept h ha
  exact ⟨(zAA h1 0 rfl).1,(zAA h1 1 rfl).1,(zAA h1 2 rfl).1,(zAA h1 3 rfl).1,(zAA h1 4 rfl).1,(zAA h1 5 rfl).1⟩
 have K0:Hid (Kp w (w.alloc (.cells #[.int .i64 x.c,.int .i64 x.s,.int .i64 x.k,.int .i64 x.t,.int .i64 x.h,.int .i64 x.e] 102)) v v):=(Kp.refl _ _).alloc _
 have O0:Hid (OwnB 5 (w.alloc (.cells #[.int .i64 x.c,.int .i64 x.s,.int .i64 x.k,.int .i64 x.t,.int .i64 x.h,.int .i64 x.e] 102)) B v zs):=zAH hown _
 have KK0:Hid (Kp (w.alloc (.cells #[.int .i64 x.c,.int .i64 x.s,.int .i64 x.k,.int .i64 x.t,.int .i64 x.h,.int .i64 x.e] 102)) (w.alloc (.cells #[.int .i64 x.c,.int .i64 x.s,.int .i64 x.k,.int .i64 x.t,.int .i64 x.h,.int .i64 x.e] 102)) v v):=Kp.refl _ _
 have HBB:Hid (B≤(w.alloc (.cells #[.int .i64 x.c,.int .i64 x.s,.int .i64 x.k,.int .i64 x.t,.int .i64 x.h,.int .i64 x.e] 102)).heap.size):=Nat.le_trans hB (by simp)
 clear ha hown
 unfold snV
 go_enter Tryz.func67,Tryz.ntmps67
 go_upto_region 1 with fail
 generalize w.alloc (.cells #[.int .i64 x.c,.int .i64 x.s,.int .i64 x.k,.int .i64 x.t,.int .i64 x.h,.int .i64 x.e] 102)=wb at HK K0 O0 KK0 HBB ⊢
 obtain ⟨q0,q1,q2,q3,q4,q5⟩:=HK.out _ _ KK0.out
 go_wp2_with fail
 refine (zAW _ _ _ 1 B _ O0.out (Nat.le_trans HBB.out KK0.out.size) (by decide) (by first | omega | (simp only [List.length_append,nums_length];omega))).mono ?_
 rintro e w1 ⟨v1,rfl,o1,k1⟩
 have KK1:Hid (Kp wb w1 v v1):=KK0.out.trans k1
 have O1:Hid (OwnB 5 w1 B v1 _):=o1
 clear q0 q1 q2 q3 q4 q5 o1 k1
 obtain ⟨q0,q1,q2,q3,q4,q5⟩:=HK.out _ _ KK1.out
 go_wp2_with fail
 refine (zAW _ _ _ 2 B _ O1.out (Nat.le_trans HBB.out KK1.out.size) (by decide) (by first | omega | (simp only [List.length_append,nums_length];omega))).mono ?_
 rintro e w2 ⟨v2,rfl,o2,k2⟩
 have KK2:Hid (Kp wb w2 v v2):=KK1.out.trans k2
 have O2:Hid (OwnB 5 w2 B v2 _):=o2
 clear q0 q1 q2 q3 q4 q5 o2 k2
 obtain ⟨q0,q1,q2,q3,q4,q5⟩:=HK.out _ _ KK2.out
 go_wp2_with fail
 refine (zAW _ _ _ 1 B _ O2.out (Nat.le_trans HBB.out KK2.out.size) (by decide) (by first | omega | (simp only [List.length_append,nums_length];omega))).mono ?_
 rintro e w3 ⟨v3,rfl,o3,k3⟩
 have KK3:Hid (Kp wb w3 v v3):=KK2.out.trans k3
 have O3:Hid (OwnB 5 w3 B v3 _):=o3
 clear q0 q1 q2 q3 q4 q5 o3 k3
 obtain ⟨q0,q1,q2,q3,q4,q5⟩:=HK.out _ _ KK3.out
 go_wp2_with fail
 refine (zAW _ _ _ 3 B _ O3.out (Nat.le_trans HBB.out KK3.out.size) (by decide) (by first | omega | (simp only [List.length_append,nums_length];omega))).mono ?_
 rintro e w4 ⟨v4,rfl,o4,k4⟩
 have KK4:Hid (Kp wb w4 v v4):=KK3.out.trans k4
 have O4:Hid (OwnB 5 w4 B v4 _):=o4
 clear q0 q1 q2 q3 q4 q5 o4 k4
 obtain ⟨q0,q1,q2,q3,q4,q5⟩:=HK.out _ _ KK4.out
 go_wp2_with fail
 refine (zAW _ _ _ 2 B _ O4.out (Nat.le_trans HBB.out KK4.out.size) (by decide) (by first | omega | (simp only [List.length_append,nums_length];omega))).mono ?_
 rintro e w5 ⟨v5,rfl,o5,k5⟩
 have KK5:Hid (Kp wb w5 v v5):=KK4.out.trans k5
 have O5:Hid (OwnB 5 w5 B v5 _):=o5
 clear q0 q1 q2 q3 q4 q5 o5 k5
 obtain ⟨q0,q1,q2,q3,q4,q5⟩:=HK.out _ _ KK5.out
 go_wp2_with fail
 refine (zAW _ _ _ 4 B _ O5.out (Nat.le_trans HBB.out KK5.out.size) (by decide) (by first | omega | (simp only [List.length_append,nums_length];omega))).mono ?_
 rintro e w6 ⟨v6,rfl,o6,k6⟩
 have KK6:Hid (Kp wb w6 v v6):=KK5.out.trans k6
 have O6:Hid (OwnB 5 w6 B v6 _):=o6
 clear q0 q1 q2 q3 q4 q5 o6 k6
 go_wp2_with fail
 go_ret
 refine ⟨_,rfl,?_,K0.out.trans KK6.out⟩
 have o6:=O6.out
 unfold snBs
 simpa [List.append_assoc] using o6
set_option maxRecDepth 100000 in
set_option maxHeartbeats 1600000 in
theorem putLock_any (v:Value) (zs:List Int) (x:Lk) (u:Value) (B:Nat) (w:World) (hown:OwnB 5 w B v zs) (hB:B≤w.heap.size) (hlen:zs.length≤100000) (hh : -1≤x.h∧x.h≤255) (hn:x.n.size≤1000) (hws:x.ws.length≤1000) (hu:RowWB B w u x.ws) :
 Calls Tryz.prog 66 #[v,lkV x u] w fun e w'=>∃ v',e=.returned v'∧OwnB 5 w' B v' (zs ++ lkBs x)∧Kp w w' v v':=by
 obtain ⟨a,cap,rfl⟩:=RowG.slice hu
 have ha:=own_away hown
 have O0:Hid (OwnB 5 (w.alloc (.cells #[.string x.n,.int .i64 x.t,.int .i64 x.h,.int .i64 x.e,.slice a x.ws.length cap] 95)) B v zs):=zAH hown _
 have HBB:Hid (B≤(w.alloc (.cells #[.string x.n,.int .i64 x.t,.int .i64 x.h,.int .i64 x.e,.slice a x.ws.length cap] 95)).heap.size):=Nat.le_trans hB (by simp)
 have HU0:Hid (RowWB B (w.alloc (.cells #[.string x.n,.int .i64 x.t,.int .i64 x.h,.int .i64 x.e,.slice a x.ws.length cap] 95)) (.slice a x.ws.length cap) x.ws):=hu.below ((zAD w _).mono hB)
 have HK:Hid (∀ w1 v1,Kp (w.alloc (.cells #[.string x.n,.int .i64 x.t,.int .i64 x.h,.int .i64 x.e,.slice a x.ws.length cap] 95)) w1 v v1→(w1.cell? ⟨w.heap.size,0,none⟩=some (.string x.n)∧w1.cell? ⟨w.heap.size,1,none⟩=some (.int .i64 x.t)∧w1.cell? ⟨w.heap.size,2,none⟩=some (.int .i64 x.h)∧w1.cell? ⟨w.heap.size,3,none⟩=some (.int .i64 x.e)∧w1.cell? ⟨w.heap.size,4,none⟩=some (.slice a x.ws.length cap))∧RowWB B w1 (.slice a x.ws.length cap) x.ws):=fun w1 v1 h=>by
  have h1:=box_kept h ha
  exact ⟨⟨(zAA h1 0 rfl).1,(zAA h1 1 rfl).1,(zAA h1 2 rfl).1,(zAA h1 3 rfl).1,(zAA h1 4 rfl).1⟩,HU0.out.below (h.below O0.out HBB.out)⟩
 have K0:Hid (Kp w (w.alloc (.cells #[.string x.n,.int .i64 x.t,.int .i64 x.h,.int .i64 x.e,.slice a x.ws.length cap] 95)) v v):=(Kp.refl _ _).alloc _
 have KK0:Hid (Kp (w.alloc (.cells #[.string x.n,.int .i64 x.t,.int .i64 x.h,.int .i64 x.e,.slice a x.ws.length cap] 95)) (w.alloc (.cells #[.string x.n,.int .i64 x.t,.int .i64 x.h,.int .i64 x.e,.slice a x.ws.length cap] 95)) v v):=Kp.refl _ _
 clear ha hown hu HU0
 unfold lkV
 go_enter Tryz.func66,Tryz.ntmps66
 go_upto_region 1 with fail
 generalize w.alloc (.cells #[.string x.n,.int .i64 x.t,.int .i64 x.h,.int .i64 x.e,.slice a x.ws.length cap] 95)=wb at HK K0 O0 KK0 HBB ⊢
 obtain ⟨⟨q0,q1,q2,q3,q4⟩,_⟩:=HK.out _ _ KK0.out
 go_wp2_with fail
 refine (putText_any _ _ x.n 1 B _ O0.out (Nat.le_trans HBB.out KK0.out.size) (by decide) (by omega) (by omega)).mono ?_
 rintro e w1 ⟨v1,rfl,o1,k1⟩
 have KK1:Hid (Kp wb w1 v v1):=KK0.out.trans k1
 have O1:Hid (OwnB 5 w1 B v1 _):=o1
 clear q0 q1 q2 q3 q4 o1 k1
 obtain ⟨⟨q0,q1,q2,q3,q4⟩,_⟩:=HK.out _ _ KK1.out
 go_wp2_with fail
 refine (zAW _ _ _ 3 B _ O1.out (Nat.le_trans HBB.out KK1.out.size) (by decide) (by simp only [List.length_append,nums_length,zAV];omega)).mono ?_
 rintro e w2 ⟨v2,rfl,o2,k2⟩
 have KK2:Hid (Kp wb w2 v v2):=KK1.out.trans k2
 have O2:Hid (OwnB 5 w2 B v2 _):=o2
 clear q0 q1 q2 q3 q4 o2 k2
 obtain ⟨⟨q0,q1,q2,q3,q4⟩,_⟩:=HK.out _ _ KK2.out
 go_wp2_with fail
 refine (zAW _ _ _ 2 B _ O2.out (Nat.le_trans HBB.out KK2.out.size) (by decide) (by simp only [List.length_append,nums_length,zAV];omega)).mono ?_
 rintro e w3 ⟨v3,rfl,o3,k3⟩
 have KK3:Hid (Kp wb w3 v v3):=KK2.out.trans k3
 have O3:Hid (OwnB 5 w3 B v3 _):=o3
 clear q0 q1 q2 q3 q4 o3 k3
 obtain ⟨⟨q0,q1,q2,q3,q4⟩,_⟩:=HK.out _ _ KK3.out
 go_wp2_with fail
 refine (zAW _ _ _ 4 B _ O3.out (Nat.le_trans HBB.out KK3.out.size) (by decide) (by simp only [List.length_append,nums_length,zAV];omega)).mono ?_
 rintro e w4 ⟨v4,rfl,o4,k4⟩
 have KK4:Hid (Kp wb w4 v v4):=KK3.out.trans k4
 have O4:Hid (OwnB 5 w4 B v4 _):=o4
 clear q0 q1 q2 q3 q4 o4 k4
 obtain ⟨⟨q0,q1,q2,q3,q4⟩,_⟩:=HK.out _ _ KK4.out
 go_wp2_with fail
 refine (zAW _ _ _ 1 B _ O4.out (Nat.le_trans HBB.out KK4.out.size) (by decide) (by simp only [List.length_append,nums_length,zAV];omega)).mono ?_
 rintro e w5 ⟨v5,rfl,o5,k5⟩
 have KK5:Hid (Kp wb w5 v v5):=KK4.out.trans k5
 have O5:Hid (OwnB 5 w5 B v5 _):=o5
 clear q0 q1 q2 q3 q4 o5 k5
 obtain ⟨⟨q0,q1,q2,q3,q4⟩,_⟩:=HK.out _ _ KK5.out
 obtain ⟨ys,HYS⟩ : ∃ ys,Hid (zs ++ nums (x.n.size:Int) 1 1 ++ bys x.n ++ nums x.t 3 3 ++ nums (x.h+1) 2 2 ++ nums x.e 4 4 ++ nums (x.ws.length:Int) 1 1=ys):=⟨_,rfl⟩
 have HYL:Hid (ys.length≤102000):=by show _≤_;rw [← HYS.out];simp only [List.length_append,nums_length,zAV];omega
 have O5':Hid (OwnB 5 w5 B v5 ys):=by show OwnB _ _ _ _ _;rw [← HYS.out];exact O5.out
 clear O0 O1 O2 O3 O4 O5 KK0 KK1 KK2 KK3 KK4
 go_wp2_with fail
 clear q0 q1 q2 q3 q4
 go_loopw [0,32] (fun b i wr=>∃ k:Nat,k≤x.ws.length∧i=.int .i64 k∧Hid (OwnB 5 wr B b (ys ++ wsBs (x.ws.take k))∧Kp wb wr v b)) (fun _ i _=>x.ws.length - (intOf i).toNat)
 case atStart=>exact ⟨0,by omega,rfl,⟨by simpa [wsBs] using O5'.out,KK5.out⟩⟩
 case round =>
  clear O5' KK5
  obtain ⟨k,hk,rfl,HO⟩:=hrel
  by_cases hlt:k<x.ws.length
  ·obtain ⟨z,hz⟩:=Tw.get_at hlt
   obtain ⟨b,off,rfl,hbl,hbB,c0,c1⟩:=RowG.at (HK.out _ _ HO.out.2).2 rfl hz
   have HT:Hid (wsBs (x.ws.take (k+1))=wsBs (x.ws.take k) ++ wtBs z):=take_bs wtBs hz
   have HLN:Hid ((ys ++ wsBs (x.ws.take k)).length≤106000):=by show _≤_;rw [List.length_append,wsBs_len,List.length_take];have:=HYL.out;omega
   have hw2:=own_away HO.out.1
   have HZK:Hid (∀ w1 v1,Kp (wr.alloc (.cells #[.int .i64 z.c,.int .i64 z.l] 98)) w1 u0 v1→w1.cell? ⟨wr.heap.size,0,none⟩=some (.int .i64 z.c)∧w1.cell? ⟨wr.heap.size,1,none⟩=some (.int .i64 z.l)):=fun w1 v1 h=>by
    have h1:=box_kept h hw2
    exact ⟨(zAA h1 0 rfl).1,(zAA h1 1 rfl).1⟩
   have HO2:Hid (OwnB 5 (wr.alloc (.cells #[.int .i64 z.c,.int .i64 z.l] 98)) B u0 (ys ++ wsBs (x.ws.take k))∧Kp wb (wr.alloc (.cells #[.int .i64 z.c,.int .i64 z.l] 98)) v u0∧Kp (wr.alloc (.cells #[.int .i64 z.c,.int .i64 z.l] 98)) (wr.alloc (.cells #[.int .i64 z.c,.int .i64 z.l] 98)) u0 u0):=⟨zAH HO.out.1 _,HO.out.2.alloc _,Kp.refl _ _⟩
   clear hz hw2 HO
   go_upto_region 9 with fail
   clear c0 c1
   generalize wr.alloc (.cells #[.int .i64 z.c,.int .i64 z.l] 98)=wz at HZK HO2 ⊢
   obtain ⟨p0,p1⟩:=HZK.out _ _ HO2.out.2.2
   go_wp2_with fail
   refine (zAW _ _ _ 1 B _ HO2.out.1 (Nat.le_trans HBB.out HO2.out.2.1.size) (by decide) (by have:=HLN.out;omega)).mono ?_
   rintro e w6 ⟨v6,rfl,o6,k6⟩
   obtain ⟨p0',p1'⟩:=HZK.out _ _ k6
   have O6:Hid (OwnB 5 w6 B v6 _∧Kp wb w6 v v6):=⟨o6,HO2.out.2.1.trans k6⟩
   clear o6 k6 p0 p1
   go_wp2_with fail
   refine (zAW _ _ _ 2 B _ O6.out.1 (Nat.le_trans HBB.out O6.out.2.size) (by decide) (by have:=HLN.out;rw [List.length_append,nums_length];omega)).mono ?_
   rintro e w7 ⟨v7,rfl,o7,k7⟩
   have O7:Hid (OwnB 5 w7 B v7 (ys ++ wsBs (x.ws.take (k+1)))∧Kp wb w7 v v7):=⟨by rw [HT.out];unfold wtBs;simpa [List.append_assoc] using o7,O6.out.2.trans k7⟩
   clear o7 k7 p0' p1' O6 HO2
   go_wp2_with fail
   exact ⟨⟨k+1,by omega,by go_num,O7⟩,by simp [intOf];omega⟩
  ·obtain rfl:k=x.ws.length:=by omega
   have HE:Hid (ys ++ wsBs (x.ws.take x.ws.length)=zs ++ lkBs x):=by show _=_;rw [List.take_length,← HYS.out];unfold lkBs;simp [List.append_assoc]
   rw [HE.out] at HO
   go_wp2_with fail
   go_ret
   exact ⟨_,rfl,HO.out.1,K0.out.trans HO.out.2⟩
end Go.Proofs.YtakfniknkejgpaaGreatDoor.Pt
namespace Go.Proofs.YtakfniknkejgpaaGreatDoor.Pt
open Go.RowKit Sl By Ap Tx Tb Tw Rq Tp Pu
theorem ret_tup {v:Value} {a b:Int} (h:a=b):Ending.returned (.tuple #[v,.int .i64 a])=.returned (.tuple #[v,.int .i64 b]):=by rw [h]
noncomputable def tbOut (tm nx:Int) (ls:List Lk) (ss:List Sn):List Int:=if bOf (TOK ⟨tm,nx,ls,ss⟩) then zBO tm nx ls ss else []
noncomputable def zBQ (tm nx:Int) (ls:List Lk) (ss:List Sn):Int:=if bOf (TOK ⟨tm,nx,ls,ss⟩) then 0 else 1
def Bnd (ls:List Lk) (ss:List Sn):Prop:=ls.length≤4∧ss.length≤6∧(∀ x ∈ ls,x.n.size≤12∧x.ws.length≤4∧-1≤x.h∧x.h≤255)∧∀ x ∈ ss,-1≤x.h∧x.h≤255
theorem op_size {n:ByteArray} (h:opB n=true):n.size≤12:=by unfold opB at h;simp at h;exact h.1
theorem zCY {tm nx:Int} {ls:List Lk} {ss:List Sn} (h:TOK ⟨tm,nx,ls,ss⟩):Bnd ls ss:=by
 obtain ⟨_,_,h3,h4,h5,h6⟩:=h
 refine ⟨h3,h5,fun x hx=>?_,fun x hx=>?_⟩
 ·obtain ⟨i,hi,rfl⟩:=List.mem_iff_getElem.1 hx
  obtain ⟨_,g2,_,g4⟩:=h4 i _ (List.getElem?_eq_getElem hi)
  refine ⟨op_size g2,?_⟩
  rcases g4 with ⟨g,_,k⟩ | ⟨_,g,_,k,_⟩
  ·omega
  ·have:=zAa g;omega
 ·obtain ⟨i,hi,rfl⟩:=List.mem_iff_getElem.1 hx
  exact zAa (h6 i _ (List.getElem?_eq_getElem hi)).2.2.2.2.1
theorem tok_true {p:Prop} (h:bOf p=true):p:=Classical.byContradiction fun hn=>by rw [zAP hn] at h;cases h
theorem take_le {α:Type} {xs:List α} {p:α→Prop} (h:∀ x ∈ xs,p x) (k:Nat):∀ x ∈ xs.take k,p x:=fun x hx=>h x (List.mem_of_mem_take hx)
set_option maxRecDepth 100000 in
set_option maxHeartbeats 3200000 in
theorem implTableBytes_any (tm nx:Int) (vl vs:Value) (ls:List Lk) (ss:List Sn) (w:World) (hl:RowL w vl ls) (hs:RowS w vs ss) (hw:∀ x ∈ ls,x.n.size≤1048576∧x.ws.length≤1048576) (hy1:ls.length≤1048576) (hy2:ss.length≤1048576) :
 Calls Tryz.prog 34 #[tabV tm nx vl vs] w fun e w'=>∃ v,e=.returned (.tuple #[v,.int .i64 (zBQ tm nx ls ss)])∧OwnB 5 w' w.heap.size v (tbOut tm nx ls ss)∧Below w.heap.size w w':=by
 obtain ⟨la,lc,rfl⟩:=RowG.slice hl
 obtain ⟨sa,sc,rfl⟩:=RowG.slice hs
 have HX:Hid (∀ W,Below (w.alloc (.cells #[.int .i64 tm,.int .i64 nx,.slice la ls.length lc,.slice sa ss.length sc] 26)).heap.size (w.alloc (.cells #[.int .i64 tm,.int .i64 nx,.slice la ls.length lc,.slice sa ss.length sc] 26)) W→(W.cell? ⟨w.heap.size,0,none⟩=some (.int .i64 tm)∧W.cell? ⟨w.heap.size,1,none⟩=some (.int .i64 nx)∧W.cell? ⟨w.heap.size,2,none⟩=some (.slice la ls.length lc)∧W.cell? ⟨w.heap.size,3,none⟩=some (.slice sa ss.length sc))∧RowL W (.slice la ls.length lc) ls∧RowS W (.slice sa ss.length sc) ss∧w.heap.size<W.heap.size∧Below w.heap.size w W):=fun W hW=>by
  have h1:=(hW.block w.heap.size (by simp)).trans (heap_alloc_new w _)
  exact ⟨⟨(zAA h1 0 rfl).1,(zAA h1 1 rfl).1,(zAA h1 2 rfl).1,(zAA h1 3 rfl).1⟩,(hl.below (zAD _ _)).below hW,(hs.below (zAD _ _)).below hW,(Array.getElem?_eq_some_iff.1 h1).1,(zAD w _).trans (hW.mono (by simp))⟩
 have HOK:Hid (∀ W,Below w.heap.size w W→RowL W (.slice la ls.length lc) ls→RowS W (.slice sa ss.length sc) ss→Calls Tryz.prog 65 #[.agg #[.int .i64 tm,.int .i64 nx,.slice la ls.length lc,.slice sa ss.length sc]] W fun e w'=>e=.returned (.bool (bOf (TOK ⟨tm,nx,ls,ss⟩)))∧Below W.heap.size W w'):=fun W _ h1 h2=>zBo tm nx _ _ ls ss W h1 h2 hw hy1 hy2
 clear hl hs hw
 unfold tabV
 cases htk:bOf (TOK ⟨tm,nx,ls,ss⟩) with
 | false =>
   have HC:Hid (zBQ tm nx ls ss=1∧tbOut tm nx ls ss=[]):=⟨by unfold zBQ;rw [htk];rfl,by unfold tbOut;rw [htk];rfl⟩
   rw [htk] at HOK
   clear htk
   go_enter Tryz.func34,Tryz.ntmps34
   go_upto_region 1 with fail
   generalize w.alloc (.cells #[.int .i64 tm,.int .i64 nx,.slice la ls.length lc,.slice sa ss.length sc] 26)=wb at HX ⊢
   obtain ⟨⟨x0,x1,x2,x3⟩,r1,r2,_,rb⟩:=HX.out wb (Below.refl _ _)
   have HR:Hid (RowL wb (.slice la ls.length lc) ls∧RowS wb (.slice sa ss.length sc) ss∧Below w.heap.size w wb):=⟨r1,r2,rb⟩
   clear r1 r2 rb
   go_wp2_with fail
   refine (HOK.out _ HR.out.2.2 HR.out.1 HR.out.2.1).mono ?_
   rintro e w1 ⟨rfl,b1⟩
   have HB1:Hid (Below w.heap.size w w1):=HR.out.2.2.trans (b1.mono HR.out.2.2.size)
   clear b1
   go_wp2_with fail
   go_ret2
   exact ⟨_,ret_tup HC.out.1.symm,by rw [HC.out.2];exact own_nil _ _ _,HB1.out⟩
 | true =>
   have HC:Hid (zBQ tm nx ls ss=0∧tbOut tm nx ls ss=zBO tm nx ls ss):=⟨by unfold zBQ;rw [htk];rfl,by unfold tbOut;rw [htk];rfl⟩
   have HBD:Hid (Bnd ls ss):=zCY (tok_true htk)
   rw [htk] at HOK
   clear htk
   go_enter Tryz.func34,Tryz.ntmps34
   go_upto_region 1 with fail
   generalize w.alloc (.cells #[.int .i64 tm,.int .i64 nx,.slice la ls.length lc,.slice sa ss.length sc] 26)=wb at HX ⊢
   obtain ⟨⟨x0,x1,x2,x3⟩,r1,r2,_,rb⟩:=HX.out wb (Below.refl _ _)
   have HR:Hid (RowL wb (.slice la ls.length lc) ls∧RowS wb (.slice sa ss.length sc) ss∧Below w.heap.size w wb):=⟨r1,r2,rb⟩
   clear r1 r2 rb
   go_wp2_with fail
   refine (HOK.out _ HR.out.2.2 HR.out.1 HR.out.2.1).mono ?_
   rintro e w1 ⟨rfl,b1⟩
   have HX1:Hid (∀ W,Below w1.heap.size w1 W→(W.cell? ⟨w.heap.size,0,none⟩=some (.int .i64 tm)∧W.cell? ⟨w.heap.size,1,none⟩=some (.int .i64 nx)∧W.cell? ⟨w.heap.size,2,none⟩=some (.slice la ls.length lc)∧W.cell? ⟨w.heap.size,3,none⟩=some (.slice sa ss.length sc))∧RowLB w1.heap.size W (.slice la ls.length lc) ls∧RowSB w1.heap.size W (.slice sa ss.length sc) ss∧Below w.heap.size w W):=fun W hW=>by
    obtain ⟨k1,_,_,_,k5⟩:=HX.out W (b1.trans (hW.mono b1.size))
    obtain ⟨_,k2,k3,_,_⟩:=HX.out w1 b1
    exact ⟨k1,(RowL.low k2).below hW,(RowS.low k3).below hW,k5⟩
   have HS1:Hid (w.heap.size≤w1.heap.size):=(HR.out.2.2.trans (b1.mono HR.out.2.2.size)).size
   clear b1 HR HX x0 x1 x2 x3 HOK
   obtain ⟨⟨x0,x1,x2,x3⟩,_⟩:=HX1.out w1 (Below.refl _ _)
   go_wp2_with fail
   refine (zAW (.slice none 0 0) [] tm 4 w1.heap.size _ (own_nil _ _ _) (Nat.le_refl _) (by decide) (by simp)).mono ?_
   rintro e w2 ⟨v2,rfl,o2,k2⟩
   have B2:Hid (Below w1.heap.size w1 w2):=k2.nil
   have O2:Hid (OwnB 5 w2 w1.heap.size v2 (nums tm 4 4)):=(show OwnB 5 w2 w1.heap.size v2 (nums tm 4 4) from by simpa using o2)
   clear o2 k2 x0 x1 x2 x3
   obtain ⟨⟨x0,x1,x2,x3⟩,_⟩:=HX1.out w2 B2.out
   go_wp2_with fail
   refine (zAW _ _ nx 3 w1.heap.size _ O2.out B2.out.size (by decide) (by rw [nums_length];decide)).mono ?_
   rintro e w3 ⟨v3,rfl,o3,k3⟩
   have B3:Hid (Below w1.heap.size w1 w3):=B2.out.trans (k3.below O2.out B2.out.size)
   have O3:Hid (OwnB 5 w3 w1.heap.size v3 (nums tm 4 4 ++ nums nx 3 3)):=o3
   clear o3 k3 x0 x1 x2 x3 O2 B2
   obtain ⟨⟨x0,x1,x2,x3⟩,_⟩:=HX1.out w3 B3.out
   go_wp2_with fail
   refine (zAW _ _ _ 1 w1.heap.size _ O3.out B3.out.size (by decide) (by rw [List.length_append,nums_length,nums_length];decide)).mono ?_
   rintro e w4 ⟨v4,rfl,o4,k4⟩
   have B4:Hid (Below w1.heap.size w1 w4):=B3.out.trans (k4.below O3.out B3.out.size)
   obtain ⟨ys,HYS⟩ : ∃ ys,Hid (nums tm 4 4 ++ nums nx 3 3 ++ nums (ls.length:Int) 1 1=ys):=⟨_,rfl⟩
   have HYL:Hid (ys.length=8):=by show _=_;rw [← HYS.out];simp only [List.length_append,nums_length]
   have O4:Hid (OwnB 5 w4 w1.heap.size v4 ys):=by show OwnB _ _ _ _ _;rw [← HYS.out];exact o4
   clear o4 k4 x0 x1 x2 x3 O3 B3
   obtain ⟨⟨x0,x1,x2,x3⟩,_⟩:=HX1.out w4 B4.out
   go_wp2_with fail
   clear x0 x1 x2 x3
   go_loopw [4,27] (fun b i wr=>∃ k:Nat,k≤ls.length∧i=.int .i64 k∧Hid (OwnB 5 wr w1.heap.size b (ys ++ lsBs (ls.take k))∧Below w1.heap.size w1 wr)) (fun _ i _=>ls.length - (intOf i).toNat)
   case atStart=>exact ⟨0,by omega,rfl,⟨by simpa [lsBs] using O4.out,B4.out⟩⟩
   case round =>
    clear O4 B4
    obtain ⟨k,hk,rfl,HO⟩:=hrel
    by_cases hlt:k<ls.length
    ·obtain ⟨x,hx⟩:=Tw.get_at hlt
     obtain ⟨b,off,rfl,hbl,hbB,u,c0,c1,c2,c3,c4,c5⟩:=RowG.at (HX1.out _ HO.out.2).2.1 rfl hx
     obtain ⟨ua,uc,rfl⟩:=RowG.slice c5
     have HT:Hid (lsBs (ls.take (k+1))=lsBs (ls.take k) ++ lkBs x):=take_bs lkBs hx
     have HXB:Hid (x.n.size≤12∧x.ws.length≤4∧-1≤x.h∧x.h≤255):=HBD.out.2.2.1 x (mem_at hx)
     have HLN:Hid ((ys ++ lsBs (ls.take k)).length≤1000):=by
      show _≤_
      have h1:=zCI (ls.take k) (take_le (fun x hx=>⟨(HBD.out.2.2.1 x hx).1,(HBD.out.2.2.1 x hx).2.1⟩) k)
      have h2:=HBD.out.1
      rw [List.length_append,HYL.out]
      rw [List.length_take] at h1
      omega
     have HUB:Hid (RowWB w1.heap.size wr (.slice ua x.ws.length uc) x.ws):=c5
     have HBN:Hid (Below w1.heap.size w1 (wr.alloc (.cells #[.string x.n,.int .i64 x.t,.int .i64 x.h,.int .i64 x.e,.slice ua x.ws.length uc] 95))∧Below w1.heap.size wr (wr.alloc (.cells #[.string x.n,.int .i64 x.t,.int .i64 x.h,.int .i64 x.e,.slice ua x.ws.length uc] 95))):=⟨HO.out.2.trans ((zAD wr _).mono HO.out.2.size),(zAD wr _).mono HO.out.2.size⟩
     clear hx c5
     go_wp2_with fail
     refine (putLock_any _ _ x _ w1.heap.size _ (zAH HO.out.1 _) HBN.out.1.size (by have:=HLN.out;omega) HXB.out.2.2 (by have:=HXB.out.1;omega) (by have:=HXB.out.2.1;omega) (HUB.out.below HBN.out.2)).mono ?_
     rintro e w5 ⟨v5,rfl,o5,k5⟩
     have O5:Hid (OwnB 5 w5 w1.heap.size v5 (ys ++ lsBs (ls.take (k+1)))∧Below w1.heap.size w1 w5):=⟨by rw [HT.out,← List.append_assoc];exact o5,HBN.out.1.trans (k5.below (zAH HO.out.1 _) HBN.out.1.size)⟩
     clear o5 k5 c0 c1 c2 c3 c4
     go_wp2_with fail
     exact ⟨⟨k+1,by omega,by go_num,O5⟩,by simp [intOf];omega⟩
    ·obtain rfl:k=ls.length:=by omega
     rw [List.take_length] at HO
     obtain ⟨⟨x0,x1,x2,x3⟩,_⟩:=HX1.out wr HO.out.2
     have HLN:Hid ((ys ++ lsBs ls).length≤1000):=by
      show _≤_
      have h1:=zCI ls (fun x hx=>⟨(HBD.out.2.2.1 x hx).1,(HBD.out.2.2.1 x hx).2.1⟩)
      have h2:=HBD.out.1
      rw [List.length_append,HYL.out]
      omega
     go_wp2_with fail
     refine (zAW _ _ _ 1 w1.heap.size _ HO.out.1 HO.out.2.size (by decide) (by have:=HLN.out;omega)).mono ?_
     rintro e w6 ⟨v6,rfl,o6,k6⟩
     have B6:Hid (Below w1.heap.size w1 w6):=HO.out.2.trans (k6.below HO.out.1 HO.out.2.size)
     obtain ⟨zs,HZS⟩ : ∃ zs,Hid (ys ++ lsBs ls ++ nums (ss.length:Int) 1 1=zs):=⟨_,rfl⟩
     have HZL:Hid (zs.length≤1001):=by show _≤_;rw [← HZS.out,List.length_append,nums_length];have:=HLN.out;omega
     have O6:Hid (OwnB 5 w6 w1.heap.size v6 zs):=by show OwnB _ _ _ _ _;rw [← HZS.out];exact o6
     clear o6 k6 x0 x1 x2 x3 HO
     obtain ⟨⟨x0,x1,x2,x3⟩,_⟩:=HX1.out w6 B6.out
     go_wp2_with fail
     clear x0 x1 x2 x3
     go_loopw [4,43] (fun b i wr=>∃ k:Nat,k≤ss.length∧i=.int .i64 k∧Hid (OwnB 5 wr w1.heap.size b (zs ++ ssBs (ss.take k))∧Below w1.heap.size w1 wr)) (fun _ i _=>ss.length - (intOf i).toNat)
     case atStart=>exact ⟨0,by omega,rfl,⟨by simpa [ssBs] using O6.out,B6.out⟩⟩
     case round =>
      clear O6 B6
      obtain ⟨k,hk,rfl,HO⟩:=hrel
      by_cases hlt:k<ss.length
      ·obtain ⟨x,hx⟩:=Tw.get_at hlt
       obtain ⟨b,off,rfl,hbl,hbB,c0,c1,c2,c3,c4,c5⟩:=RowG.at (HX1.out _ HO.out.2).2.2.1 rfl hx
       have HT:Hid (ssBs (ss.take (k+1))=ssBs (ss.take k) ++ snBs x):=take_bs snBs hx
       have HXB:Hid (-1≤x.h∧x.h≤255):=HBD.out.2.2.2 x (mem_at hx)
       have HLN2:Hid ((zs ++ ssBs (ss.take k)).length≤2000):=by
        show _≤_
        have h2:=HBD.out.2.1
        have h3:=HZL.out
        rw [List.length_append,zCA,List.length_take]
        omega
       have HBN:Hid (Below w1.heap.size w1 (wr.alloc (.cells #[.int .i64 x.c,.int .i64 x.s,.int .i64 x.k,.int .i64 x.t,.int .i64 x.h,.int .i64 x.e] 102))):=HO.out.2.trans ((zAD wr _).mono HO.out.2.size)
       clear hx
       go_wp2_with fail
       refine (putSeen_any _ _ x w1.heap.size _ (zAH HO.out.1 _) HBN.out.size (by have:=HLN2.out;omega) HXB.out).mono ?_
       rintro e w7 ⟨v7,rfl,o7,k7⟩
       have O7:Hid (OwnB 5 w7 w1.heap.size v7 (zs ++ ssBs (ss.take (k+1)))∧Below w1.heap.size w1 w7):=⟨by rw [HT.out,← List.append_assoc];exact o7,HBN.out.trans (k7.below (zAH HO.out.1 _) HBN.out.size)⟩
       clear o7 k7 c0 c1 c2 c3 c4 c5
       go_wp2_with fail
       exact ⟨⟨k+1,by omega,by go_num,O7⟩,by simp [intOf];omega⟩
      ·obtain rfl:k=ss.length:=by omega
       rw [List.take_length] at HO
       have HE:Hid (zs ++ ssBs ss=zBO tm nx ls ss):=by show _=_;rw [← HZS.out,← HYS.out];unfold zBO;simp [List.append_assoc]
       have HFB:Hid (Below w.heap.size w wr):=(HX1.out wr HO.out.2).2.2.2
       go_wp2_with fail
       go_ret2
       exact ⟨_,ret_tup HC.out.1.symm,by rw [HC.out.2,← HE.out];exact own_le HO.out.1 HS1.out,HFB.out⟩
end Go.Proofs.YtakfniknkejgpaaGreatDoor.Pt
