/- Texts put together: Txs, Gq, Htb. -/
import Derived.Test.YtakfniknkejgpaaGreatDoorMi39
namespace Go.Proofs.YtakfniknkejgpaaGreatDoor.Ty
open Go.RowKit Sl By Ap Rq Rr
def tnth (ts:List ByteArray) (i:Nat):ByteArray:=ts.getD i ⟨#[]⟩
end Go.Proofs.YtakfniknkejgpaaGreatDoor.Ty
namespace Go.Proofs.YtakfniknkejgpaaGreatDoor.Gn
open Go.RowKit Sl By Ap Rq Rr Ty
def Src (B:Nat) (w:World) (p:Nat) (xs:List Int) (K:Nat):Prop :=
 ∃ (v:Value) (at_:Nat) (sd:Int),w.heap[p]?=some (.cells #[v,.int .i64 at_,.int .i64 sd] 74 (0,0))∧RowU B w v xs∧at_≤K∧0≤sd∧sd<2147483648
theorem Src.lt {B p K:Nat} {w:World} {xs:List Int} (h:Src B w p xs K):p<w.heap.size:=by
 obtain ⟨v,a,s,h1,_⟩:=h
 exact (Array.getElem?_eq_some_iff.1 h1).1
theorem Src.kept {B p K:Nat} {w w':World} {xs:List Int} (h:Src B w p xs K) (hp:w'.heap[p]?=w.heap[p]?) (hb:∀ k,k<B→w'.heap[k]?=w.heap[k]?):Src B w' p xs K:=by
 obtain ⟨v,a,s,h1,h2,h3⟩:=h
 exact ⟨v,a,s,hp.trans h1,h2.kept hb,h3⟩
theorem src_end {B p K at_:Nat} {w:World} {xs:List Int} {v:Value} {sd:Int} (h:w.heap[p]?=some (.cells #[v,.int .i64 ((at_:Int)+1),.int .i64 sd] 74 (0,0))) (hu:RowU B w v xs) (ha:at_≤K) (h0:0≤sd) (h1:sd<2147483648):Src B w p xs (K+1) :=
 ⟨v,at_+1,sd,by rw [show (((at_+1:Nat)):Int)=(at_:Int)+1 by omega];exact h,hu,by omega,h0,h1⟩
set_option maxRecDepth 100000 in
set_option maxHeartbeats 1600000 in
theorem byte_any (p B K:Nat) (xs:List Int) (w:World) (h:Src B w p xs K) (hB:B≤p) (hK:K≤1000000000) (_hx:xs.length≤1048600) :
 Calls Tryz.prog 87 #[.pointer (some ⟨p,0,none⟩)] w fun e w'=>∃ r:Int,e=.returned (.int .i64 r)∧0≤r∧r≤255∧Src B w' p xs (K+1)∧w.grownBy w' (some p):=by
 have hp:=h.lt
 obtain ⟨v,at_,sd,h1,hu,hat,hs0,hs1⟩:=h
 obtain ⟨c0,f0⟩:=zAA h1 0 (x:=v) rfl
 obtain ⟨c1,f1⟩:=zAA h1 1 (x:=.int .i64 at_) rfl
 obtain ⟨c2,f2⟩:=zAA h1 2 (x:=.int .i64 sd) rfl
 have HU:Hid (RowU B w v xs):=hu
 obtain ⟨a,cap,rfl,hcap,hc,hr⟩:=hu
 have H1:Hid (w.heap[p]?=some (.cells #[.slice a xs.length cap,.int .i64 at_,.int .i64 sd] 74 (0,0))):=h1
 have HR:Hid (∀ x ∈ xs,0≤x∧x≤255):=hr
 clear h1 hr
 by_cases hlt:at_<xs.length
 ·have hlt':(at_:Int)+1≤(xs.length:Int):=by omega
  rcases hc with hc | ⟨b,off,rfl,hb,hcell⟩
  ·exact absurd hlt (by rw [hc];simp)
  have hc1:=hcell at_ hlt
  have hne:b ≠ p:=by omega
  have hx1:=range_at HR.out at_
  clear hcell
  go_enter Tryz.func87,Tryz.ntmps87
  go_wp2_with fail
  go_quiet (fail)
  go_wp2_with fail
  have H2:((w.setCell ⟨p,1,none⟩ (.int .i64 ((at_:Int)+1))).drewN nq).heap[p]?=some (.cells #[.slice (some ⟨b,off,none⟩) xs.length cap,.int .i64 ((at_:Int)+1),.int .i64 sd] 74 (0,0)):=zAE H1.out 1 (.int .i64 ((at_:Int)+1))
  have G2:w.grownBy ((w.setCell ⟨p,1,none⟩ (.int .i64 ((at_:Int)+1))).drewN nq) (some p):=by
   have g:=zAs (w:=w) (p:=p) 1 (.int .i64 ((at_:Int)+1))
   exact ⟨g.os,g.tape,g.output,g.size,g.block⟩
  have X2:((w.setCell ⟨p,1,none⟩ (.int .i64 ((at_:Int)+1))).drewN nq).cell? ⟨b,off+at_,none⟩=some (.int .u8 (nth xs at_)):=(World.cell?_of_block (a:=⟨b,off+at_,none⟩) (zBX G2 hB hp b hb)).trans hc1
  generalize (w.setCell ⟨p,1,none⟩ (.int .i64 ((at_:Int)+1))).drewN nq=w2 at H2 G2 X2 ⊢
  clear c0 c1 c2 f0 f1 f2 hc1
  obtain ⟨c0,f0⟩:=zAA H2 0 (x:=.slice (some ⟨b,off,none⟩) xs.length cap) rfl
  obtain ⟨c1,f1⟩:=zAA H2 1 (x:=.int .i64 ((at_:Int)+1)) rfl
  obtain ⟨c2,f2⟩:=zAA H2 2 (x:=.int .i64 sd) rfl
  have HH2:Hid (w2.heap[p]?=some (.cells #[.slice (some ⟨b,off,none⟩) xs.length cap,.int .i64 ((at_:Int)+1),.int .i64 sd] 74 (0,0))):=H2
  clear H2
  refine Qt.region_quiet_tail 23 (by kernel_rfl) (by kernel_rfl) ?_
  simp only [List.take_succ_cons,List.take_zero,List.drop_succ_cons,List.drop_zero]
  repeat (go_big_quiet_step (fail))
  refine wpQuiet_nil ?_
  go_wp2_with fail
  go_quiet (fail)
  go_wp2_with fail
  go_ret
  refine ⟨nth xs at_,rfl,hx1.1,hx1.2,src_end (at_:=at_) (sd:=(sd * 31+nth xs at_+7) % 2147483648) ?_ (HU.out.kept ?_) hat (by omega) (by omega),?_⟩
  ·exact zAE HH2.out 2 (.int .i64 ((sd * 31+nth xs at_+7) % 2147483648))
  ·exact fun k hk=>(zAB (w:=w2) (b:=p) (by omega) 2 (.int .i64 ((sd * 31+nth xs at_+7) % 2147483648))).trans (zBX G2 hB hp k hk)
  ·have g:=zAk G2 (zAs (w:=w2) (p:=p) 2 (.int .i64 ((sd * 31+nth xs at_+7) % 2147483648)))
   exact ⟨g.os,g.tape,g.output,g.size,g.block⟩
 ·have hlt':¬ (at_:Int)+1≤(xs.length:Int):=by omega
  clear hc
  by_cases h3:3000<at_+1
  ·have h3':(3000:Int)<(at_:Int)+1:=by omega
   go_enter Tryz.func87,Tryz.ntmps87
   go_wp2_with fail
   go_quiet (fail)
   go_wp2_with fail
   go_ret
   refine ⟨0,rfl,by decide,by decide,src_end (at_:=at_) (sd:=sd) ?_ (HU.out.kept ?_) hat hs0 hs1,?_⟩
   ·exact zAE H1.out 1 (.int .i64 ((at_:Int)+1))
   ·exact fun k hk=>zAB (w:=w) (b:=p) (by omega) 1 (.int .i64 ((at_:Int)+1))
   ·have g:=zAs (w:=w) (p:=p) 1 (.int .i64 ((at_:Int)+1))
    exact ⟨g.os,g.tape,g.output,g.size,g.block⟩
  ·have h3':¬ (3000:Int)<(at_:Int)+1:=by omega
   go_enter Tryz.func87,Tryz.ntmps87
   go_wp2_with fail
   go_quiet (fail)
   go_wp2_with fail
   go_ret
   refine ⟨(sd * 1103515245+12345) % 2147483648 / 65536 % 256,rfl,by omega,by omega,src_end (at_:=at_) (sd:=(sd * 1103515245+12345) % 2147483648) ?_ (HU.out.kept ?_) hat (by omega) (by omega),?_⟩
   ·exact zAE (zAE H1.out 1 (.int .i64 ((at_:Int)+1))) 2 (.int .i64 ((sd * 1103515245+12345) % 2147483648))
   ·exact fun k hk=>(zAB (w:=w.setCell ⟨p,1,none⟩ (.int .i64 ((at_:Int)+1))) (b:=p) (by omega) 2 (.int .i64 ((sd * 1103515245+12345) % 2147483648))).trans (zAB (w:=w) (b:=p) (by omega) 1 (.int .i64 ((at_:Int)+1)))
   ·have g:=zAk (zAs (w:=w) (p:=p) 1 (.int .i64 ((at_:Int)+1))) (zAs (w:=w.setCell ⟨p,1,none⟩ (.int .i64 ((at_:Int)+1))) (p:=p) 2 (.int .i64 ((sd * 1103515245+12345) % 2147483648)))
    exact ⟨g.os,g.tape,g.output,g.size,g.block⟩
set_option maxHeartbeats 800000 in
theorem zBD (n p B K:Nat) (xs:List Int) (w:World) (h:Src B w p xs K) (hB:B≤p) (hK:K≤1000000000) (hx:xs.length≤1048600) (hn:0<n) (hn2:n≤256) :
 Calls Tryz.prog 56 #[.pointer (some ⟨p,0,none⟩),.int .i64 n] w fun e w'=>∃ r:Nat,e=.returned (.int .i64 r)∧r<n∧Src B w' p xs (K+1)∧w.grownBy w' (some p):=by
 by_cases h1:n≤1
 ·have h1':(n:Int)≤1:=by omega
  obtain ⟨v,a,s,q1,q2,q3,q4⟩:=h
  have HS:Hid (Src B w p xs (K+1)):=⟨v,a,s,q1,q2,by omega,q4⟩
  clear q1 q2 q3 q4
  go_enter Tryz.func56,Tryz.ntmps56
  go_wp2_with fail
  go_ret
  exact ⟨0,rfl,hn,HS.out,grown_refl _ _⟩
 ·have h1':¬ (n:Int)≤1:=by omega
  have h2':(n:Int)≤256:=by omega
  go_enter Tryz.func56,Tryz.ntmps56
  go_wp2_with fail
  refine (byte_any p B K xs _ h hB hK hx).mono ?_
  rintro e w1 ⟨r,rfl,r0,r1,s1,g1⟩
  obtain ⟨m,rfl⟩ : ∃ m:Nat,r=m:=⟨r.toNat,by omega⟩
  have hnz:¬ (n:Int)=0:=by omega
  have HSS:Hid (Src B w1 p xs (K+1)):=s1
  clear s1 h
  go_wp2_with fail
  go_ret
  exact ⟨m % n,rfl,Nat.mod_lt _ hn,HSS.out,g1⟩
theorem Src.alloc {B p K:Nat} {w:World} {xs:List Int} (h:Src B w p xs K) (hB:B≤p) (o:Obj):Src B (w.alloc o) p xs K :=
 h.kept (Below.heap_alloc w o p h.lt) (fun k hk=>Below.heap_alloc w o k (by have:=h.lt;omega))
set_option maxHeartbeats 800000 in
theorem pick_any (b n p B K:Nat) (A:Array Value) (ts:List ByteArray) (xs:List Int) (w:World) (h:Src B w p xs K) (hB:B≤p) (hK:K≤1000000000) (hx:xs.length≤1048600) (hn:0<n) (hn2:n≤256) (hb:w.heap[b]?=some (.cells A 9 (0,0))) (hbp:b ≠ p) (hA:∀ j,j<n→A[j]?=some (.string (tnth ts j))) :
 Calls Tryz.prog 88 #[.pointer (some ⟨p,0,none⟩),.slice (some ⟨b,0,none⟩) n n] w fun e w'=>∃ r:Nat,e=.returned (.string (tnth ts r))∧r<n∧Src B w' p xs (K+1)∧w.grownBy w' (some p):=by
 have h0:¬ (n:Int)=0:=by omega
 have h0':((n:Int) == 0)=false:=by simp;omega
 have HB:Hid (w.heap[b]?=some (.cells A 9 (0,0))):=hb
 have HA:Hid (∀ j,j<n→A[j]?=some (.string (tnth ts j))):=hA
 clear hb hA
 go_enter Tryz.func88,Tryz.ntmps88
 go_wp2_with fail
 refine (zBD n p B K xs _ h hB hK hx hn hn2).mono ?_
 rintro e w1 ⟨r,rfl,hr,s1,g1⟩
 have HS:Hid (Src B w1 p xs (K+1)):=s1
 have c1:=(zAA (zAv HB.out g1 hbp) r (HA.out r hr)).1
 have hr':(r:Int)<(n:Int):=by omega
 clear s1 h
 go_wp2_with fail
 go_ret
 exact ⟨r,rfl,hr,HS.out,g1⟩
set_option maxHeartbeats 400000 in
theorem source_any (v:Value) (xs:List Int) (w:World) (h:RowB w v xs) (hx:xs.length≤1048600) :
 Calls Tryz.prog 14 #[v] w fun e w'=>e=.returned (.pointer (some ⟨w.heap.size,0,none⟩))∧Src w.heap.size w' w.heap.size xs 0∧Below w.heap.size w w':=by
 have HU:Hid (RowU w.heap.size w v xs):=RowU.of h
 obtain ⟨a,cap,rfl,_,_⟩:=h
 go_enter Tryz.func14,Tryz.ntmps14
 go_wp2_with fail
 go_ret
 refine ⟨rfl,⟨_,0,(xs.length:Int) % 1000,zAK _ _ _,HU.out.kept (fun k hk=>Below.heap_alloc _ _ _ hk),Nat.le_refl _,by omega,by omega⟩,(Below.refl _ _).alloc (Nat.le_refl _) _⟩
end Go.Proofs.YtakfniknkejgpaaGreatDoor.Gn
namespace Go.Proofs.YtakfniknkejgpaaGreatDoor.Ea
open Go.RowKit Sl By Ap Tb Tw Wa Tp Da
open Lo (LkA uV clL OwnL zAI zAO)
open Rg (zAA zAE zAD)
theorem zAB {w:World} {b k:Nat} (hk:k ≠ b) (i:Nat) (x:Value):(w.setCell ⟨b,i,none⟩ x).heap[k]?=w.heap[k]?:=Below.heap_setCell w ⟨b,i,none⟩ x k hk
theorem zAK (w:World) (cs:Array Value) (t:TypeId):(w.alloc (.cells cs t)).heap[w.heap.size]?=some (.cells cs t (0,0)):=heap_alloc_new w _
def clRq (p:Da.Ask):List Value:=[.int .i64 p.cl,.int .i64 p.st,.int .i64 p.kd,.int .i64 p.le,.string p.nm]
theorem oneRq (p:Da.Ask):∀ u ∈ clRq p,u.oneCell'=true:=by
 intro u hu
 simp [clRq] at hu
 rcases hu with rfl | rfl | rfl | rfl | rfl
 all_goals rfl
theorem atRq:∀ (ms:List Da.Ask) (i:Nat) (x:Da.Ask) (j:Nat),ms[i]?=some x→j<5→(ms.flatMap clRq)[i * 5+j]?=(clRq x)[j]?
 | [],i,x,j,h,_=>by simp at h
 | y :: r,0,x,j,h,hj=>by
   simp at h;subst h
   rw [List.flatMap_cons,List.getElem?_append_left (by show _<5;omega)]
   simp
 | y :: r,i+1,x,j,h,hj=>by
   have h':r[i]?=some x:=by simpa using h
   rw [List.flatMap_cons,List.getElem?_append_right (by show 5≤_;omega)]
   rw [show (i+1) * 5+j - (clRq y).length=i * 5+j by show _ - 5=_;omega]
   exact atRq r i x j h' hj
def OwnRq (w:World) (B:Nat) (v:Value) (ms:List Da.Ask):Prop:=w.ownsRow B 123 5 v ms.length (ms.flatMap clRq)
theorem OwnRq.kept {w w':World} {B:Nat} {v:Value} {ms:List Da.Ask} (h:OwnRq w B v ms) (hk:∀ g,v.ownBlock=some g→w'.heap[g]?=w.heap[g]?):OwnRq w' B v ms:=by
 obtain ⟨hl,h⟩:=h
 refine ⟨hl,?_⟩
 rcases h with h | ⟨g,cap,cur,rfl,h1,hg,h2⟩
 ·exact .inl h
 ·exact .inr ⟨g,cap,cur,rfl,h1,(hk g rfl).trans hg,h2⟩
theorem OwnRq.lt {w:World} {B:Nat} {v:Value} {ms:List Da.Ask} (h:OwnRq w B v ms):∀ g,v.ownBlock=some g→B≤g∧g<w.heap.size:=World.ownsRow.lt h
theorem OwnRq.below {w w':World} {B:Nat} {v:Value} {ms:List Da.Ask} (h:OwnRq w B v ms) (hb:Below w.heap.size w w'):OwnRq w' B v ms:=h.kept fun g hg=>hb.block g (h.lt g hg).2
theorem OwnRq.alloc {w:World} {B:Nat} {v:Value} {ms:List Da.Ask} (h:OwnRq w B v ms) (o:Obj):OwnRq (w.alloc o) B v ms:=h.below ((Below.refl _ _).alloc (Nat.le_refl _) _)
theorem OwnRq.made (w:World) (B:Nat) (hB:B≤w.heap.size):OwnRq (w.alloc (.cells #[] 123)) B (.slice (some ⟨w.heap.size,0,none⟩) 0 0) []:=World.ownsRow_made w #[] 0 hB (by decide) rfl
theorem OwnRq.slice {w:World} {B:Nat} {v:Value} {ms:List Da.Ask} (h:OwnRq w B v ms):∃ a cap,v=.slice a ms.length cap:=by
 obtain ⟨_,h | ⟨g,cap,cur,he,_⟩⟩:=h
 ·exact ⟨none,0,by rw [h.1,h.2]⟩
 ·exact ⟨_,cap,he⟩
theorem infoRq:(Tryz.prog.info? 123).map (fun i=>(i.zero,i.size,i.bytes))=some (some (.agg #[.int .i64 0,.int .i64 0,.int .i64 0,.int .i64 0,.string ⟨#[]⟩]),5,48):=by kernel_rfl
theorem listRq {P:Program} {ops:Array Oper} {rest:List Oper} {o:Oper} {a:Act} {Q:Exit→Act→World→Prop} (hgd:o.guard=none) (s x:Operand) (t:TypeId)
 (ho:o.op=.call { callee:=.builtin .append,args:=#[s,x],argTypes:=#[t,t] }) (i:TypeInfo) (ht:P.underlying t=some (.slice 123)) (hi:P.info? 123=some i) (hz:i.zero=some (.agg #[.int .i64 0,.int .i64 0,.int .i64 0,.int .i64 0,.string ⟨#[]⟩]))
 (hsize:i.size=5) (hby:i.bytes=48) (B:Nat) (w0 W:World) (v:Value) (ms:List Da.Ask) (m:Da.Ask) (hs:a.eval s=v) (hown:OwnRq W B v ms) (hg0:Below B w0 W) (hB:B≤W.heap.size)
 (gx:Nat) (hx:a.eval x=.slice (some ⟨gx,0,none⟩) 1 1) (hgx:W.heap.size=gx) (hlen:ms.length≤1000000)
 (h:∀ v' w',OwnRq w' B v' (ms ++ [m])→Below B w0 w'→(∀ k,k<W.heap.size→some k ≠ v.ownBlock→w'.heap[k]?=W.heap[k]?∧some k ≠ v'.ownBlock)→wpList P ops Q rest (a.put o.dst v') w'):wpList P ops Q (o :: rest) a (W.alloc (.cells (clRq m).toArray 123)):=by
 subst hgx
 have hown':=hown.alloc (.cells (clRq m).toArray 123)
 refine wpList_append_own_at (P:=P) _ hgd s x t ho B 123 i _ 5 48 ht hi hz hsize hby rfl (by decide) v ms.length _ hs hown' ⟨W.heap.size,0,none⟩ 1 1 (clRq m) hx rfl ?_ (oneRq m) (by unfold maxLen;omega) (by omega) (by simp;omega) ?_
 ·intro j u hj
  have h2:(⟨W.heap.size,0,none⟩ : Addr).add j=⟨W.heap.size,j,none⟩:=by unfold Addr.add;split <;> simp_all
  rw [h2,Joins.cell_of_block (heap_alloc_new W _),← hj]
  simp
 ·intro v' w' h1 h2 h3 h4
  refine h v' w' (by unfold OwnRq;rw [List.flatMap_append,List.length_append];simpa using h1) ((hg0.alloc hB _).grown h2 (by simp;omega) (fun k hk=>(hown'.lt k hk).1)) (fun k hk hn=>⟨(h2.block k (by simp;omega) hn).trans (Below.heap_alloc W _ k hk),fun e=>?_⟩)
  rcases h4 with h4 | h4
  ·exact hn (e.trans h4)
  ·rw [h4] at e
   simp at e
   omega
theorem OwnRq.at {w:World} {B:Nat} {v:Value} {qs:List Da.Ask} (h:OwnRq w B v qs) {i:Nat} {q:Da.Ask} (hq:qs[i]?=some q):∃ b,v.ownBlock=some b∧(∃ c,v=.slice (some ⟨b,0,none⟩) qs.length c)∧b<w.heap.size∧∀ j z,(clRq q)[j]?=some z→w.cell? ⟨b,0+i * 5+j,none⟩=some z:=by
 have hi:=(List.getElem?_eq_some_iff.1 hq).1
 obtain ⟨hl,h | ⟨g,cap,cur,rfl,h1,hg,h2,h3,h4,htk⟩⟩:=h
 ·omega
 refine ⟨g,rfl,⟨cap,rfl⟩,(Array.getElem?_eq_some_iff.1 hg).1,fun j z hz=>?_⟩
 have hj:j<5:=(List.getElem?_eq_some_iff.1 hz).1
 have h5:=atRq qs i q j hq hj
 rw [hz,← htk,List.getElem?_take] at h5
 rw [if_pos (by have:(i+1) * 5≤qs.length * 5:=Nat.mul_le_mul_right 5 hi;omega),Array.getElem?_toList] at h5
 rw [Nat.zero_add,Joins.cell_of_block hg]
 exact h5
def OwnTi (w:World) (B:Nat) (v:Value) (xs:List Int):Prop:=w.ownsRow B 3 1 v xs.length (xs.map (Value.int .i64))
theorem OwnTi.kept {w w':World} {B:Nat} {v:Value} {ms:List Int} (h:OwnTi w B v ms) (hk:∀ g,v.ownBlock=some g→w'.heap[g]?=w.heap[g]?):OwnTi w' B v ms:=by
 obtain ⟨hl,h⟩:=h
 refine ⟨hl,?_⟩
 rcases h with h | ⟨g,cap,cur,rfl,h1,hg,h2⟩
 ·exact .inl h
 ·exact .inr ⟨g,cap,cur,rfl,h1,(hk g rfl).trans hg,h2⟩
theorem OwnTi.lt {w:World} {B:Nat} {v:Value} {ms:List Int} (h:OwnTi w B v ms):∀ g,v.ownBlock=some g→B≤g∧g<w.heap.size:=World.ownsRow.lt h
theorem OwnTi.alloc {w:World} {B:Nat} {v:Value} {ms:List Int} (h:OwnTi w B v ms) (o:Obj):OwnTi (w.alloc o) B v ms:=h.kept fun g hg=>((Below.refl _ _).alloc (Nat.le_refl _) _).block g (h.lt g hg).2
theorem OwnTi.made (w:World) (B:Nat) (hB:B≤w.heap.size):OwnTi (w.alloc (.cells #[] 3)) B (.slice (some ⟨w.heap.size,0,none⟩) 0 0) []:=World.ownsRow_made w #[] 0 hB (by decide) rfl
theorem OwnTi.slice {w:World} {B:Nat} {v:Value} {ms:List Int} (h:OwnTi w B v ms):∃ a cap,v=.slice a ms.length cap:=by
 obtain ⟨_,h | ⟨g,cap,cur,he,_⟩⟩:=h
 ·exact ⟨none,0,by rw [h.1,h.2]⟩
 ·exact ⟨_,cap,he⟩
theorem infoTi:(Tryz.prog.info? 3).map (fun i=>(i.zero,i.size,i.bytes))=some (some (.int .i64 0),1,8):=by kernel_rfl
theorem OwnTi.at {w:World} {B:Nat} {v:Value} {qs:List Int} (h:OwnTi w B v qs) {i:Nat} {q:Int} (hq:qs[i]?=some q):∃ b,v.ownBlock=some b∧(∃ c,v=.slice (some ⟨b,0,none⟩) qs.length c)∧b<w.heap.size∧w.cell? ⟨b,0+i,none⟩=some (.int .i64 q):=by
 have hi:=(List.getElem?_eq_some_iff.1 hq).1
 obtain ⟨hl,h | ⟨g,cap,cur,rfl,h1,hg,h2,h3,h4,htk⟩⟩:=h
 ·omega
 refine ⟨g,rfl,⟨cap,rfl⟩,(Array.getElem?_eq_some_iff.1 hg).1,?_⟩
 have h5:(qs.map (Value.int .i64))[i]?=some (.int .i64 q):=by rw [List.getElem?_map,hq];rfl
 rw [← htk,List.getElem?_take,if_pos (by omega),Array.getElem?_toList] at h5
 rw [Nat.zero_add,Joins.cell_of_block hg]
 exact h5
theorem listTi {P:Program} {ops:Array Oper} {rest:List Oper} {o:Oper} {a:Act} {Q:Exit→Act→World→Prop} (hgd:o.guard=none) (s x:Operand) (t:TypeId)
 (ho:o.op=.call { callee:=.builtin .append,args:=#[s,x],argTypes:=#[t,t] }) (i:TypeInfo) (ht:P.underlying t=some (.slice 3)) (hi:P.info? 3=some i) (hz:i.zero=some (.int .i64 0))
 (hsize:i.size=1) (hby:i.bytes=8) (B:Nat) (w0 W:World) (v:Value) (ms:List Int) (m:Int) (hs:a.eval s=v) (hown:OwnTi W B v ms) (hg0:Below B w0 W) (hB:B≤W.heap.size)
 (gx:Nat) (hx:a.eval x=.slice (some ⟨gx,0,none⟩) 1 1) (hgx:W.heap.size=gx) (hlen:ms.length≤1000000)
 (h:∀ v' w',OwnTi w' B v' (ms ++ [m])→Below B w0 w'→(∀ k,k<W.heap.size→some k ≠ v.ownBlock→w'.heap[k]?=W.heap[k]?∧some k ≠ v'.ownBlock)→wpList P ops Q rest (a.put o.dst v') w'):wpList P ops Q (o :: rest) a (W.alloc (.cells #[.int .i64 m] 3)):=by
 subst hgx
 have hown':=hown.alloc (.cells #[.int .i64 m] 3)
 refine wpList_append_own_at (P:=P) _ hgd s x t ho B 3 i _ 1 8 ht hi hz hsize hby rfl (by decide) v ms.length _ hs hown' ⟨W.heap.size,0,none⟩ 1 1 [.int .i64 m] hx rfl ?_ (by intro u hu;simp at hu;subst hu;rfl) (by unfold maxLen;omega) (by omega) (by simp;omega) ?_
 ·intro j u hj
  have h2:(⟨W.heap.size,0,none⟩ : Addr).add j=⟨W.heap.size,j,none⟩:=by unfold Addr.add;split <;> simp_all
  rw [h2,Joins.cell_of_block (heap_alloc_new W _),← hj]
  simp
 ·intro v' w' h1 h2 h3 h4
  refine h v' w' (by unfold OwnTi;rw [List.map_append,List.length_append];simpa using h1) ((hg0.alloc hB _).grown h2 (by simp;omega) (fun k hk=>(hown'.lt k hk).1)) (fun k hk hn=>⟨(h2.block k (by simp;omega) hn).trans (Below.heap_alloc W _ k hk),fun e=>?_⟩)
  rcases h4 with h4 | h4
  ·exact hn (e.trans h4)
  ·rw [h4] at e
   simp at e
   omega
structure RqI (B:Nat) (w wr:World) (p:Nat) (xs:List Int) (K g:Nat) (S:Array Value) (vq vt:Value) (qs:List Da.Ask) (ts:List Int):Prop where
 sr:Gn.Src B wr p xs K
 gr:w.grownBy wr (some p)
 hp:p<w.heap.size
 hB:B≤p
 oq:OwnRq wr w.heap.size vq qs
 ot:OwnTi wr w.heap.size vt ts
 sb:wr.heap[g]?=some (.cells S 3 (0,0))
 hg:w.heap.size≤g
 ne:some g ≠ vt.ownBlock
theorem zCZ {w:World} {B:Nat} {v:Value} {qs:List Da.Ask} (h:OwnRq w B v qs) {g:Nat} (hg:v.ownBlock=some g):∃ cs,w.heap[g]?=some (.cells cs 123 (0,0)):=by
 obtain ⟨_,h | ⟨g',cap,cur,rfl,_,hb,_,_,_,_⟩⟩:=h
 ·rw [h.1] at hg;cases hg
 ·cases hg;exact ⟨cur,hb⟩
theorem ownTi_block {w:World} {B:Nat} {v:Value} {qs:List Int} (h:OwnTi w B v qs) {g:Nat} (hg:v.ownBlock=some g):∃ cs,w.heap[g]?=some (.cells cs 3 (0,0)):=by
 obtain ⟨_,h | ⟨g',cap,cur,rfl,_,hb,_,_,_,_⟩⟩:=h
 ·rw [h.1] at hg;cases hg
 ·cases hg;exact ⟨cur,hb⟩
theorem RqI.lts {B:Nat} {w wr:World} {p:Nat} {xs:List Int} {K g:Nat} {S:Array Value} {vq vt:Value} {qs:List Da.Ask} {ts:List Int} (h:RqI B w wr p xs K g S vq vt qs ts) :
 p<wr.heap.size∧g<wr.heap.size∧(∀ b,vq.ownBlock=some b→w.heap.size≤b∧b<wr.heap.size)∧(∀ b,vt.ownBlock=some b→w.heap.size≤b∧b<wr.heap.size)∧w.heap.size≤wr.heap.size :=
 ⟨Nat.lt_of_lt_of_le h.hp h.gr.size,(Array.getElem?_eq_some_iff.1 h.sb).1,fun b hb=>h.oq.lt b hb,fun b hb=>h.ot.lt b hb,h.gr.size⟩
theorem grown_tr {a b c:World} {r:Option Nat} (h:a.grownBy b r) (k:b.grownBy c r):a.grownBy c r:=⟨k.os.trans h.os,k.tape.trans h.tape,k.output.trans h.output,Nat.le_trans h.size k.size,fun i hi hn=>(k.block i (Nat.lt_of_lt_of_le hi h.size) hn).trans (h.block i hi hn)⟩
theorem RqI.src {B:Nat} {w wr w':World} {p:Nat} {xs:List Int} {K K' g:Nat} {S:Array Value} {vq vt:Value} {qs:List Da.Ask} {ts:List Int} (h:RqI B w wr p xs K g S vq vt qs ts) (s:Gn.Src B w' p xs K') (k:wr.grownBy w' (some p)):RqI B w w' p xs K' g S vq vt qs ts:=by
 obtain ⟨l1,l2,l3,l4,l5⟩:=h.lts
 have hp:=h.hp
 have hg:=h.hg
 refine ⟨s,grown_tr h.gr k,h.hp,h.hB,h.oq.kept fun b hb=>k.block b (l3 b hb).2 (fun e=>?_),h.ot.kept fun b hb=>k.block b (l4 b hb).2 (fun e=>?_),(k.block g l2 (fun e=>?_)).trans h.sb,h.hg,h.ne⟩
 ·have:=(l3 b hb).1;cases e;omega
 ·have:=(l4 b hb).1;cases e;omega
 ·cases e;omega
theorem RqI.alloc {B:Nat} {w wr:World} {p:Nat} {xs:List Int} {K g:Nat} {S:Array Value} {vq vt:Value} {qs:List Da.Ask} {ts:List Int} (h:RqI B w wr p xs K g S vq vt qs ts) (o:Obj):RqI B w (wr.alloc o) p xs K g S vq vt qs ts :=
 h.src (h.sr.kept (Below.heap_alloc wr o p h.lts.1) (fun k hk=>Below.heap_alloc wr o k (by have:=h.hB;have:=h.lts.1;omega))) (World.grownBy_alloc wr o _)
theorem RqI.far {B:Nat} {w wr:World} {p:Nat} {xs:List Int} {K g:Nat} {S:Array Value} {vq vt:Value} {qs:List Da.Ask} {ts:List Int} (h:RqI B w wr p xs K g S vq vt qs ts) {x:Nat} (hp:p<x) (hg:g<x) (hq:∀ b,vq.ownBlock=some b→b<x) (ht:∀ b,vt.ownBlock=some b→b<x) (i:Nat) (u:Value):RqI B w (wr.setCell ⟨x,i,none⟩ u) p xs K g S vq vt qs ts:=by
 have hB:=h.hB
 have hgg:=h.hg
 refine ⟨h.sr.kept (zAB (by omega) i u) (fun k hk=>zAB (by omega) i u),⟨h.gr.os,h.gr.tape,h.gr.output,by simpa using h.gr.size,fun k hk hn=>(zAB (by omega) i u).trans (h.gr.block k hk hn)⟩,h.hp,h.hB,h.oq.kept fun b hb=>zAB (by have:=hq b hb;omega) i u,h.ot.kept fun b hb=>zAB (by have:=ht b hb;omega) i u,(zAB (by omega) i u).trans h.sb,h.hg,h.ne⟩
theorem RqI.stamp {B:Nat} {w wr:World} {p:Nat} {xs:List Int} {K g:Nat} {S:Array Value} {vq vt:Value} {qs:List Da.Ask} {ts:List Int} (h:RqI B w wr p xs K g S vq vt qs ts) (c:Nat) (u:Value):RqI B w (wr.setCell ⟨g,c,none⟩ u) p xs K g (S.setIfInBounds c u) vq vt qs ts:=by
 have hp:=h.hp
 have hB:=h.hB
 have hgg:=h.hg
 refine ⟨h.sr.kept (zAB (by omega) c _) (fun k hk=>zAB (by omega) c _),⟨h.gr.os,h.gr.tape,h.gr.output,by simpa using h.gr.size,fun k hk hn=>(zAB (by omega) c _).trans (h.gr.block k hk hn)⟩,h.hp,h.hB,h.oq.kept fun b hb=>?_,h.ot.kept fun b hb=>zAB (fun e=>h.ne (by rw [hb,e])) c _,zAE h.sb c u,h.hg,h.ne⟩
 obtain ⟨cs,hcs⟩:=zCZ h.oq hb
 exact zAB (zAO hcs h.sb (by decide)) c _
theorem RqI.addQ {B:Nat} {w wr w':World} {p:Nat} {xs:List Int} {K g:Nat} {S:Array Value} {vq vq' vt:Value} {qs qs':List Da.Ask} {ts:List Int} (h:RqI B w wr p xs K g S vq vt qs ts) (ho:OwnRq w' w.heap.size vq' qs') (hb:Below w.heap.size wr w') (hk:∀ k,k<wr.heap.size→some k ≠ vq.ownBlock→w'.heap[k]?=wr.heap[k]?):RqI B w w' p xs K g S vq' vt qs' ts:=by
 obtain ⟨l1,l2,l3,l4,l5⟩:=h.lts
 have hp:=h.hp
 have hB:=h.hB
 refine ⟨h.sr.kept (hb.block p hp) (fun k hk2=>hb.block k (by omega)),⟨hb.os.trans h.gr.os,hb.tape.trans h.gr.tape,hb.output.trans h.gr.output,Nat.le_trans h.gr.size hb.size,fun k hk2 hn=>(hb.block k hk2).trans (h.gr.block k hk2 hn)⟩,h.hp,h.hB,ho,h.ot.kept fun b hb2=>hk b (l4 b hb2).2 (fun e=>?_),(hk g l2 (fun e=>?_)).trans h.sb,h.hg,h.ne⟩
 ·obtain ⟨c1,h1⟩:=ownTi_block h.ot hb2
  obtain ⟨c2,h2⟩:=zCZ h.oq e.symm
  rw [h1] at h2;simp at h2
 ·obtain ⟨c2,h2⟩:=zCZ h.oq e.symm
  rw [h.sb] at h2;simp at h2
theorem RqI.addT {B:Nat} {w wr w':World} {p:Nat} {xs:List Int} {K g:Nat} {S:Array Value} {vq vt vt':Value} {qs:List Da.Ask} {ts ts':List Int} (h:RqI B w wr p xs K g S vq vt qs ts) (ho:OwnTi w' w.heap.size vt' ts') (hb:Below w.heap.size wr w') (hk:∀ k,k<wr.heap.size→some k ≠ vt.ownBlock→w'.heap[k]?=wr.heap[k]?∧some k ≠ vt'.ownBlock):RqI B w w' p xs K g S vq vt' qs ts':=by
 obtain ⟨l1,l2,l3,l4,l5⟩:=h.lts
 have hp:=h.hp
 have hB:=h.hB
 refine ⟨h.sr.kept (hb.block p hp) (fun k hk2=>hb.block k (by omega)),⟨hb.os.trans h.gr.os,hb.tape.trans h.gr.tape,hb.output.trans h.gr.output,Nat.le_trans h.gr.size hb.size,fun k hk2 hn=>(hb.block k hk2).trans (h.gr.block k hk2 hn)⟩,h.hp,h.hB,h.oq.kept fun b hb2=>(hk b (l3 b hb2).2 (fun e=>?_)).1,ho,(hk g l2 h.ne).1.trans h.sb,h.hg,(hk g l2 h.ne).2⟩
 obtain ⟨c1,h1⟩:=ownTi_block h.ot e.symm
 obtain ⟨c2,h2⟩:=zCZ h.oq hb2
 rw [h1] at h2;simp at h2
end Go.Proofs.YtakfniknkejgpaaGreatDoor.Ea
