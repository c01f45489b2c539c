/-
 A table that a quorum voted for is taken piece by piece as it was.
 Conditions: none beyond the given row's own;the package variable that it reads starts as the program's text lays it (the card ties it).
-/
import Derived.Test.YtakfniknkejgpaaGreatDoorMiA0
import Derived.Test.YtakfniknkejgpaaGreatDoorMi29
import Derived.Test.YtakfniknkejgpaaGreatDoorMi42
import Derived.Test.YtakfniknkejgpaaGreatDoorMi43
namespace Go.Proofs.YtakfniknkejgpaaGreatDoor.fnInstall
open Go.ChangeShapes Go.WideShapes Go.ChangeAt Go.RowKit
open Go.ChangeMaps (open_string shut_string)
open Hl (own laidOut rowed door_met)
open Ht (tV zBu tabB tabB_range tab_len InT InT.below same_ok zAK)
open Tp (TOK)
open Er
open Tb (Tab RowG.slice RowL RowS RowL.below RowS.below)
open Ea (TabOut tableOf_any)
open Sh (KTab KTab.below)
open Sl (RowB RowB.below)
open Tx (RowT RowT.below OwnS OwnS.row)
open Hii
open Lsh
open Ur (Mem Mem.rows)
open Xo (OwnV OwnV.kept OwnV.below OwnV.mono OwnV.row own_ne zBx)
open Rg (zAD zAE)
theorem ownS_slice {w:World} {B:Nat} {v:Value} {ts:List ByteArray} (h:OwnS w B v ts):∃ a cap,v=.slice a ts.length cap:=by
 obtain ⟨_,h | ⟨g,cap,cur,rfl,_⟩⟩:=h
 ·exact ⟨none,0,by rw [h.1,h.2]⟩
 ·exact ⟨_,cap,rfl⟩
theorem andThen {B:Nat} {W w1 w2:World} (h:Below B W w1) (hB:B≤W.heap.size) (h2:Below w1.heap.size w1 w2):Below B W w2:=h.trans (h2.mono (Nat.le_trans hB h.size))
theorem far {W:World} {p k:Nat} (h:k ≠ p) (a b c d:Value):((((W.setCell ⟨p,0,none⟩ a).setCell ⟨p,1,none⟩ b).setCell ⟨p,2,none⟩ c).setCell ⟨p,3,none⟩ d).heap[k]?=W.heap[k]? :=
 (Rg.zAB h 3 _).trans ((Rg.zAB h 2 _).trans ((Rg.zAB h 1 _).trans (Rg.zAB h 0 _)))
/-- A row of three votes of its own: where they lie;the first two. -/
theorem votes_at {W:World} {v:Value} {ms:List Gt.Vo} (h:OwnV W 0 v ms) (hl:ms.length=3):∃ vg vc,v=.slice (some ⟨vg,0,none⟩) 3 vc∧3≤vc:=by
 obtain ⟨_,⟨rfl,h0⟩ | ⟨g,cap,cur,rfl,_,_,hc,_⟩⟩:=h
 ·omega
 ·exact ⟨g,cap,by rw [hl],by omega⟩
theorem votes_mac {W:World} {vg vc:Nat} {x:Gt.Vo} {ms:List Gt.Vo} (h:OwnV W 0 (.slice (some ⟨vg,0,none⟩) 3 vc) (x :: ms)):W.cell? ⟨vg,1,none⟩=some (.string x.m):=by
 obtain ⟨a,cap,e,h | ⟨b,off,rfl,_,_,hc⟩⟩:=h.row
 ·cases h
 ·injection e with e1 e2 e3
  injection e1 with e1
  injection e1 with e1 e4
  subst e1
  have h2:=(hc 0 x rfl).2
  rw [← e4] at h2
  exact h2
theorem votes_two {W:World} {vg vc:Nat} {ms:List Gt.Vo} (h:OwnV W 0 (.slice (some ⟨vg,0,none⟩) 3 vc) ms) (hl:ms.length=3):Gt.Row W (.slice (some ⟨vg,0,none⟩) 2 vc) (ms.take 2):=by
 obtain ⟨a,cap,e,h | ⟨b,off,rfl,h1,h2,hc⟩⟩:=h.row
 ·rw [h] at hl;cases hl
 ·injection e with e1 e2 e3
  subst e3
  refine ⟨_,vc,by rw [List.length_take,hl];rfl,.inr ⟨b,off,e1,by rw [List.length_take];omega,h2,fun i x hi=>hc i x ?_⟩⟩
  rw [List.getElem?_take] at hi
  split at hi
  ·exact hi
  ·cases hi
set_option maxRecDepth 100000 in
set_option maxHeartbeats 12800000 in
/-- THE WALK. -/
theorem walk (v0:Value) (xs0:List Int) {w:World} (r0:RowB w v0 xs0) (v1:Value) (xs1:List Int) (r1:RowB w v1 xs1) (A:Nat→Addr) (hSe:Sen w A) (hK:KTab w) (hp:9<w.heap.size) :
 Calls Tryz.prog 3 #[v0,v1] w fun e w'=>e=.returned (.bool true)∧Below w.heap.size w w':=by
 have HKT:Hid (∀ W,Below w.heap.size w W→KTab W∧9<W.heap.size):=fun W hW=>⟨hK.below hW hp,Nat.lt_of_lt_of_le hp hW.size⟩
 have HSE:Hid (∀ W,Below w.heap.size w W→Sen W A):=fun W hW=>hSe.below hW
 have HR:Hid (∀ W,Below w.heap.size w W→RowB W v0 xs0∧RowB W v1 xs1):=fun W hW=>⟨r0.below hW,r1.below hW⟩
 obtain ⟨a0,cA,rfl,_,_⟩:=r0
 obtain ⟨a1,cB,rfl,_,_⟩:=r1
 clear hK hp hSe
 by_cases hbig:(1048576:Int)<(xs0.length:Int)
 ·go_enter Tryz.func3,Tryz.ntmps3
  go_wp2
  go_ret
  exact ⟨rfl,Below.refl _ _⟩
 by_cases hbig2:(1048576:Int)<(xs1.length:Int)
 ·go_enter Tryz.func3,Tryz.ntmps3
  go_wp2
  go_ret
  exact ⟨rfl,Below.refl _ _⟩
 have hx0:xs0.length≤1048600:=by omega
 have HX1:Hid (xs1.length≤1048576):=by show _≤_;omega
 go_enter Tryz.func3,Tryz.ntmps3
 go_wp2_with fail
 refine (tableOf_any _ xs0 _ (HR.out w (Below.refl _ _)).1 hx0).mono ?_
 rintro e w1 ⟨⟨T,u,u2,rfl,hT,hrw⟩,b1⟩
 have HI0:InT w1 u u2 T:=fun W hW=>hrw W (fun k _ hk=>hW.block k hk)
 obtain ⟨h1,h2⟩:=HI0 w1 (Below.refl _ _)
 obtain ⟨ua,uc,rfl⟩:=RowG.slice h1
 obtain ⟨sa,sc,rfl⟩:=RowG.slice h2
 have HTI:Hid (TOK T∧InT w1 (.slice ua T.ls.length uc) (.slice sa T.ss.length sc) T):=⟨hT,HI0⟩
 have B1:Hid (Below w.heap.size w w1):=b1
 clear h1 h2 hrw hT HI0 b1 hx0
 have n2:=zAD w1 (.cells #[.int .i64 T.tm,.int .i64 T.nx,.slice ua T.ls.length uc,.slice sa T.ss.length sc] 26)
 have HF0:Hid (∀ W,Below (w1.alloc (.cells #[.int .i64 T.tm,.int .i64 T.nx,.slice ua T.ls.length uc,.slice sa T.ss.length sc] 26)).heap.size (w1.alloc (.cells #[.int .i64 T.tm,.int .i64 T.nx,.slice ua T.ls.length uc,.slice sa T.ss.length sc] 26)) W→W.heap[w1.heap.size]?=some (.cells #[.int .i64 T.tm,.int .i64 T.nx,.slice ua T.ls.length uc,.slice sa T.ss.length sc] 26 (0,0))∧InT W (.slice ua T.ls.length uc) (.slice sa T.ss.length sc) T∧Below w.heap.size w W):=fun W hW=>⟨(hW.block _ (by simp)).trans (zAK _ _ _),HTI.out.2.below (n2.trans (hW.mono n2.size)),andThen (andThen B1.out (Nat.le_refl _) n2) (Nat.le_refl _) hW⟩
 have hTO:Hid (TOK T):=HTI.out.1
 clear n2 HTI B1
 go_upto_region 4 with fail
 generalize w1.alloc (.cells #[.int .i64 T.tm,.int .i64 T.nx,.slice ua T.ls.length uc,.slice sa T.ss.length sc] 26)=w2 at HF0 ⊢
 generalize w1.heap.size=x at HF0 ⊢
 have BF:Hid (Below w2.heap.size w2 (((((w2.alloc (.cells #[.int .i64 0,.int .i64 1,.int .i64 2] 3)).alloc (.cells #[.int .i64 0,.int .i64 1,.int .i64 3] 3)).alloc (.cells #[.int .i64 0,.int .i64 2,.int .i64 3] 3)).alloc (.cells #[.int .i64 1,.int .i64 2,.int .i64 3] 3)).alloc (.cells #[.slice (some ⟨w2.heap.size,0,none⟩) 3 3,.slice (some ⟨w2.heap.size+1,0,none⟩) 3 3,.slice (some ⟨w2.heap.size+1+1,0,none⟩) 3 3,.slice (some ⟨w2.heap.size+1+1+1,0,none⟩) 3 3] 28))∧(((((w2.alloc (.cells #[.int .i64 0,.int .i64 1,.int .i64 2] 3)).alloc (.cells #[.int .i64 0,.int .i64 1,.int .i64 3] 3)).alloc (.cells #[.int .i64 0,.int .i64 2,.int .i64 3] 3)).alloc (.cells #[.int .i64 1,.int .i64 2,.int .i64 3] 3)).alloc (.cells #[.slice (some ⟨w2.heap.size,0,none⟩) 3 3,.slice (some ⟨w2.heap.size+1,0,none⟩) 3 3,.slice (some ⟨w2.heap.size+1+1,0,none⟩) 3 3,.slice (some ⟨w2.heap.size+1+1+1,0,none⟩) 3 3] 28)).heap[w2.heap.size+1+1+1+1]?=some (.cells #[.slice (some ⟨w2.heap.size,0,none⟩) 3 3,.slice (some ⟨w2.heap.size+1,0,none⟩) 3 3,.slice (some ⟨w2.heap.size+1+1,0,none⟩) 3 3,.slice (some ⟨w2.heap.size+1+1+1,0,none⟩) 3 3] 28 (0,0))∧(((((w2.alloc (.cells #[.int .i64 0,.int .i64 1,.int .i64 2] 3)).alloc (.cells #[.int .i64 0,.int .i64 1,.int .i64 3] 3)).alloc (.cells #[.int .i64 0,.int .i64 2,.int .i64 3] 3)).alloc (.cells #[.int .i64 1,.int .i64 2,.int .i64 3] 3)).alloc (.cells #[.slice (some ⟨w2.heap.size,0,none⟩) 3 3,.slice (some ⟨w2.heap.size+1,0,none⟩) 3 3,.slice (some ⟨w2.heap.size+1+1,0,none⟩) 3 3,.slice (some ⟨w2.heap.size+1+1+1,0,none⟩) 3 3] 28)).heap[w2.heap.size]?=some (.cells #[.int .i64 0,.int .i64 1,.int .i64 2] 3 (0,0))∧(((((w2.alloc (.cells #[.int .i64 0,.int .i64 1,.int .i64 2] 3)).alloc (.cells #[.int .i64 0,.int .i64 1,.int .i64 3] 3)).alloc (.cells #[.int .i64 0,.int .i64 2,.int .i64 3] 3)).alloc (.cells #[.int .i64 1,.int .i64 2,.int .i64 3] 3)).alloc (.cells #[.slice (some ⟨w2.heap.size,0,none⟩) 3 3,.slice (some ⟨w2.heap.size+1,0,none⟩) 3 3,.slice (some ⟨w2.heap.size+1+1,0,none⟩) 3 3,.slice (some ⟨w2.heap.size+1+1+1,0,none⟩) 3 3] 28)).heap[w2.heap.size+1]?=some (.cells #[.int .i64 0,.int .i64 1,.int .i64 3] 3 (0,0))∧(((((w2.alloc (.cells #[.int .i64 0,.int .i64 1,.int .i64 2] 3)).alloc (.cells #[.int .i64 0,.int .i64 1,.int .i64 3] 3)).alloc (.cells #[.int .i64 0,.int .i64 2,.int .i64 3] 3)).alloc (.cells #[.int .i64 1,.int .i64 2,.int .i64 3] 3)).alloc (.cells #[.slice (some ⟨w2.heap.size,0,none⟩) 3 3,.slice (some ⟨w2.heap.size+1,0,none⟩) 3 3,.slice (some ⟨w2.heap.size+1+1,0,none⟩) 3 3,.slice (some ⟨w2.heap.size+1+1+1,0,none⟩) 3 3] 28)).heap[w2.heap.size+1+1]?=some (.cells #[.int .i64 0,.int .i64 2,.int .i64 3] 3 (0,0))∧(((((w2.alloc (.cells #[.int .i64 0,.int .i64 1,.int .i64 2] 3)).alloc (.cells #[.int .i64 0,.int .i64 1,.int .i64 3] 3)).alloc (.cells #[.int .i64 0,.int .i64 2,.int .i64 3] 3)).alloc (.cells #[.int .i64 1,.int .i64 2,.int .i64 3] 3)).alloc (.cells #[.slice (some ⟨w2.heap.size,0,none⟩) 3 3,.slice (some ⟨w2.heap.size+1,0,none⟩) 3 3,.slice (some ⟨w2.heap.size+1+1,0,none⟩) 3 3,.slice (some ⟨w2.heap.size+1+1+1,0,none⟩) 3 3] 28)).heap[w2.heap.size+1+1+1]?=some (.cells #[.int .i64 1,.int .i64 2,.int .i64 3] 3 (0,0))):=by
  have n1:=zAD w2 (.cells #[.int .i64 0,.int .i64 1,.int .i64 2] 3)
  have n2:=zAD (w2.alloc (.cells #[.int .i64 0,.int .i64 1,.int .i64 2] 3)) (.cells #[.int .i64 0,.int .i64 1,.int .i64 3] 3)
  have n3:=zAD ((w2.alloc (.cells #[.int .i64 0,.int .i64 1,.int .i64 2] 3)).alloc (.cells #[.int .i64 0,.int .i64 1,.int .i64 3] 3)) (.cells #[.int .i64 0,.int .i64 2,.int .i64 3] 3)
  have n4:=zAD (((w2.alloc (.cells #[.int .i64 0,.int .i64 1,.int .i64 2] 3)).alloc (.cells #[.int .i64 0,.int .i64 1,.int .i64 3] 3)).alloc (.cells #[.int .i64 0,.int .i64 2,.int .i64 3] 3)) (.cells #[.int .i64 1,.int .i64 2,.int .i64 3] 3)
  have n5:=zAD ((((w2.alloc (.cells #[.int .i64 0,.int .i64 1,.int .i64 2] 3)).alloc (.cells #[.int .i64 0,.int .i64 1,.int .i64 3] 3)).alloc (.cells #[.int .i64 0,.int .i64 2,.int .i64 3] 3)).alloc (.cells #[.int .i64 1,.int .i64 2,.int .i64 3] 3)) (.cells #[.slice (some ⟨w2.heap.size,0,none⟩) 3 3,.slice (some ⟨w2.heap.size+1,0,none⟩) 3 3,.slice (some ⟨w2.heap.size+1+1,0,none⟩) 3 3,.slice (some ⟨w2.heap.size+1+1+1,0,none⟩) 3 3] 28)
  have s1:(w2.alloc (.cells #[.int .i64 0,.int .i64 1,.int .i64 2] 3)).heap.size=w2.heap.size+1:=by simp
  have s2:((w2.alloc (.cells #[.int .i64 0,.int .i64 1,.int .i64 2] 3)).alloc (.cells #[.int .i64 0,.int .i64 1,.int .i64 3] 3)).heap.size=w2.heap.size+1+1:=by simp
  have s3:(((w2.alloc (.cells #[.int .i64 0,.int .i64 1,.int .i64 2] 3)).alloc (.cells #[.int .i64 0,.int .i64 1,.int .i64 3] 3)).alloc (.cells #[.int .i64 0,.int .i64 2,.int .i64 3] 3)).heap.size=w2.heap.size+1+1+1:=by simp
  have s4:((((w2.alloc (.cells #[.int .i64 0,.int .i64 1,.int .i64 2] 3)).alloc (.cells #[.int .i64 0,.int .i64 1,.int .i64 3] 3)).alloc (.cells #[.int .i64 0,.int .i64 2,.int .i64 3] 3)).alloc (.cells #[.int .i64 1,.int .i64 2,.int .i64 3] 3)).heap.size=w2.heap.size+1+1+1+1:=by simp
  refine ⟨n1.trans ((n2.trans ((n3.trans ((n4.trans (n5.mono n4.size)).mono n3.size)).mono n2.size)).mono n1.size),?_,?_,?_,?_,?_⟩
  ·rw [← s4];exact zAK _ _ _
  ·rw [n5.block _ (by omega),n4.block _ (by omega),n3.block _ (by omega),n2.block _ (by omega)];exact zAK _ _ _
  ·rw [n5.block _ (by omega),n4.block _ (by omega),n3.block _ (by omega),← s1];exact zAK _ _ _
  ·rw [n5.block _ (by omega),n4.block _ (by omega),← s2];exact zAK _ _ _
  ·rw [n5.block _ (by omega),← s3];exact zAK _ _ _
 have HAT:=La.atN_any _ xs1 0 4 (((((w2.alloc (.cells #[.int .i64 0,.int .i64 1,.int .i64 2] 3)).alloc (.cells #[.int .i64 0,.int .i64 1,.int .i64 3] 3)).alloc (.cells #[.int .i64 0,.int .i64 2,.int .i64 3] 3)).alloc (.cells #[.int .i64 1,.int .i64 2,.int .i64 3] 3)).alloc (.cells #[.slice (some ⟨w2.heap.size,0,none⟩) 3 3,.slice (some ⟨w2.heap.size+1,0,none⟩) 3 3,.slice (some ⟨w2.heap.size+1+1,0,none⟩) 3 3,.slice (some ⟨w2.heap.size+1+1+1,0,none⟩) 3 3] 28)) (HR.out _ (HF0.out _ BF.out.1).2.2).2 HX1.out (by omega) (by omega) (by omega)
 have hk:=La.atN_lt xs1 0 4 (by omega)
 generalize La.atN xs1 0 4=k at HAT hk
 go_wp2_with fail
 refine HAT.mono ?_
 rintro e w3 ⟨rfl,b3⟩
 have b23:=andThen BF.out.1 (Nat.le_refl _) b3
 obtain ⟨g,qa,qb,qc,hcell,hblk,q0,q1,q2,q3⟩ : ∃ (g:Nat) (qa qb qc:Int),w3.cell? ⟨w2.heap.size+1+1+1+1,k,none⟩=some (.slice (some ⟨g,0,none⟩) 3 3)∧w3.heap[g]?=some (.cells #[.int .i64 qa,.int .i64 qb,.int .i64 qc] 3 (0,0))∧0≤qa∧qa<qb∧qb<qc∧qc≤3:=by
  obtain ⟨_,f4,f0,f1,f2,f3⟩:=BF.out
  have e4:=(b3.block _ (Array.getElem?_eq_some_iff.1 f4).1).trans f4
  have hk4:k=0 ∨ k=1 ∨ k=2 ∨ k=3:=by omega
  rcases hk4 with rfl | rfl | rfl | rfl
  ·exact ⟨_,0,1,2,(Rg.zAA e4 0 rfl).1,(b3.block _ (Array.getElem?_eq_some_iff.1 f0).1).trans f0,by decide,by decide,by decide,by decide⟩
  ·exact ⟨_,0,1,3,(Rg.zAA e4 1 rfl).1,(b3.block _ (Array.getElem?_eq_some_iff.1 f1).1).trans f1,by decide,by decide,by decide,by decide⟩
  ·exact ⟨_,0,2,3,(Rg.zAA e4 2 rfl).1,(b3.block _ (Array.getElem?_eq_some_iff.1 f2).1).trans f2,by decide,by decide,by decide,by decide⟩
  ·exact ⟨_,1,2,3,(Rg.zAA e4 3 rfl).1,(b3.block _ (Array.getElem?_eq_some_iff.1 f3).1).trans f3,by decide,by decide,by decide,by decide⟩
 have hk0:(0:Int)≤(k:Int):=by omega
 have hk4:(k:Int)<4:=by omega
 have HF:Hid (∀ W,Below w3.heap.size w3 W→W.heap[x]?=some (.cells #[.int .i64 T.tm,.int .i64 T.nx,.slice ua T.ls.length uc,.slice sa T.ss.length sc] 26 (0,0))∧InT W (.slice ua T.ls.length uc) (.slice sa T.ss.length sc) T∧Below w.heap.size w W∧W.heap[g]?=some (.cells #[.int .i64 qa,.int .i64 qb,.int .i64 qc] 3 (0,0))):=fun W hW=>by
  obtain ⟨f1,f2,f3⟩:=HF0.out W (b23.trans (hW.mono b23.size))
  exact ⟨f1,f2,f3,(hW.block _ (Array.getElem?_eq_some_iff.1 hblk).1).trans hblk⟩
 have HQ:Hid (0≤qa∧qa<qb∧qb<qc∧qc≤3):=⟨q0,q1,q2,q3⟩
 clear BF HAT b3 b23 hblk q0 q1 q2 q3 HF0
 go_upto_region 5 with fail
 clear hcell hk hk0 hk4
 obtain ⟨sq,HSQ⟩ : ∃ sq:Int,Hid (((La.atN xs1 1 100:Nat):Int)=sq∧0≤sq∧sq≤65535):=⟨_,rfl,by omega,by have:=La.atN_lt xs1 1 100 (by omega);omega⟩
 have HAT:Hid (∀ W,Below w3.heap.size w3 W→Calls Tryz.prog 5 #[.slice a1 xs1.length cB,.int .i64 1,.int .i64 100] W fun e w'=>e=.returned (.int .i64 sq)∧Below W.heap.size W w'):=fun W hW=>by
  have h:=La.atN_any _ xs1 1 100 W (HR.out _ (HF.out W hW).2.2.1).2 HX1.out (by omega) (by omega) (by omega)
  rw [HSQ.out.1] at h
  exact h
 have HIS:=ins_ok hTO.out HSQ.out.2.1 HSQ.out.2.2 HQ.out.1 HQ.out.2.1 HQ.out.2.2.1 HQ.out.2.2.2
 have HI:Hid (Ins sq T qa qb qc):=HIS
 obtain ⟨sz,HSZ⟩ : ∃ sz:Int,Hid (((pcs T).length:Int)=sz):=⟨_,rfl⟩
 obtain ⟨rt,HRT⟩ : ∃ rt,Hid (rtO T=rt):=⟨_,rfl⟩
 have HMK:Hid (∀ W,Below w3.heap.size w3 W→Calls Tryz.prog 6 #[.int .i64 4,.int .i64 sq,.agg #[.int .i64 T.tm,.int .i64 T.nx,.slice ua T.ls.length uc,.slice sa T.ss.length sc],.slice (some ⟨g,0,none⟩) 3 3] W fun e w'=>∃ vg vc,e=.returned (.tuple #[.agg #[.int .i64 sq,.int .i64 sz,.string rt,.slice (some ⟨vg,0,none⟩) 3 vc],.int .i64 0])∧3≤vc∧OwnV w' 0 (.slice (some ⟨vg,0,none⟩) 3 vc) (vts sq T qa qb qc)∧Below W.heap.size W w'):=fun W hW=>by
  obtain ⟨f1,f2,f3,f4⟩:=HF.out W hW
  obtain ⟨hw,hy1,hy2⟩:=Ht.tok_hw hTO.out
  have hj:Xq.RowJ W (.slice (some ⟨g,0,none⟩) 3 3) [qa,qb,qc]:=⟨_,3,rfl,.inr ⟨g,0,rfl,by simp,(Array.getElem?_eq_some_iff.1 f4).1,fun i y hi=>by
   rw [Nat.zero_add]
   rcases i with _ | _ | _ | i
   ·cases hi;exact (Rg.zAA f4 0 rfl).1
   ·cases hi;exact (Rg.zAA f4 1 rfl).1
   ·cases hi;exact (Rg.zAA f4 2 rfl).1
   ·simp at hi⟩⟩
  have h:=zBx 4 sq T.tm T.nx _ _ T.ls T.ss _ [qa,qb,qc] W A (f2 W (Below.refl _ _)).1 (f2 W (Below.refl _ _)).2 hw hy1 hy2 hj (by simp) (HSE.out W f3) (HKT.out W f3).1 (HKT.out W f3).2
  obtain ⟨e1,e2,e3,e4,e5⟩:=HI.out.ms
  rw [e1,e2,e3,e4,e5,HSZ.out,HRT.out] at h
  refine h.mono ?_
  rintro e w' ⟨v,rfl,ov,hb⟩
  have ov0:=ov.mono (Nat.zero_le _)
  obtain ⟨vg,vc,rfl,hc⟩:=votes_at ov0 rfl
  exact ⟨vg,vc,rfl,hc,ov0,hb⟩
 clear HIS
 have HS5:Hid (∀ W,Below w3.heap.size w3 W→W.cell? ⟨x,0,none⟩=some (.int .i64 T.tm)∧W.cell? ⟨x,1,none⟩=some (.int .i64 T.nx)∧W.cell? ⟨x,2,none⟩=some (.slice ua T.ls.length uc)∧W.cell? ⟨x,3,none⟩=some (.slice sa T.ss.length sc)):=fun W hW=>by
  have h:=(HF.out W hW).1
  exact ⟨(Rg.zAA h 0 rfl).1,(Rg.zAA h 1 rfl).1,(Rg.zAA h 2 rfl).1,(Rg.zAA h 3 rfl).1⟩
 have hx3:x<w3.heap.size:=(Array.getElem?_eq_some_iff.1 (HF.out w3 (Below.refl _ _)).1).1
 refine wp_region_noPanic ?_
 refine zAq 10 (S:=fun W=>W.cell? ⟨x,0,none⟩=some (.int .i64 T.tm)∧W.cell? ⟨x,1,none⟩=some (.int .i64 T.nx)∧W.cell? ⟨x,2,none⟩=some (.slice ua T.ls.length uc)∧W.cell? ⟨x,3,none⟩=some (.slice sa T.ss.length sc)) (by kernel_rfl) (HS5.out _ (Below.refl w3.heap.size w3).drew) (fun hHeld=>?_)
 refine tz 0 ⟨some 42,.move (.tmp 1),22,"laws.go:838",#[],none⟩ ?_ ?_ hHeld ?_
 rotate_left
 ·rintro wz ⟨x0,x1,x2,x3⟩;go_simp;try (with_reducible rfl)
 simp only [Act.put,sA,sB,sC]
 refine tz 2 ⟨some 44,.load 26 (.tmp 5),26,"laws.go:838",#[],none⟩ ?_ ?_ hHeld ?_
 rotate_left
 ·rintro wz ⟨x0,x1,x2,x3⟩;go_simp;try (with_reducible rfl)
 simp only [Act.put,sA,sB,sC]
 refine tz 3 ⟨some 45,.move (.tmp 6),28,"laws.go:838",#[],none⟩ ?_ ?_ hHeld ?_
 rotate_left
 ·rintro wz ⟨x0,x1,x2,x3⟩;go_simp;try (with_reducible rfl)
 simp only [Act.put,sA,sB,sC]
 refine zAM (rs:=[1,8]) (by kernel_rfl) (by simp) ?_
 refine (ReadyZ.cons (o:=⟨some 43,.call { callee:=Callee.value (Operand.func 5),args:=#[Operand.tmp 42,Operand.const (Value.int IntKind.i64 1),Operand.const (Value.int IntKind.i64 100)],argTypes:=#[22,3,3] },3,"laws.go:838",#[⟨0,.data⟩],none⟩) rfl (fun K hK=>?_) (ReadyZ.cons (o:=⟨some 7,.alloc 33,0,"laws.go:838",#[],none⟩) rfl (fun K hK=>?_) ReadyZ.nil))
 focus
  go_simp
  go_at_call 5
  refine (HAT.out _ (Below.refl w3.heap.size w3).drew).mono ?_
  rintro e w5 ⟨rfl,b5⟩
  have c5:Below w3.heap.size w3 w5:=andThen (Below.refl w3.heap.size w3).drew (Nat.le_refl _) b5
  try go_simp
  refine hK.out _ _ ?_ (fun hHeld=>?_)
  ·exact HS5.out _ c5
  clear hK K
  (try simp only [Act.put,sA,sB,sC])
  refine zAM (rs:=[4,8]) (by kernel_rfl) (by simp) ?_
  refine (ReadyZ.cons (o:=⟨some 46,.call { callee:=Callee.value (Operand.func 6),args:=#[Operand.const (Value.int IntKind.i64 4),Operand.tmp 43,Operand.tmp 44,Operand.tmp 45],argTypes:=#[3,3,26,28] },34,"laws.go:838",#[⟨1,.data⟩,⟨2,.data⟩,⟨3,.data⟩,⟨1,.chain⟩],none⟩) rfl (fun K hK=>?_) (ReadyZ.cons (o:=⟨some 7,.alloc 33,0,"laws.go:838",#[],none⟩) rfl (fun K hK=>?_) ReadyZ.nil))
  focus
   go_simp
   go_at_call 6
   refine (HMK.out _ c5).mono ?_
   rintro e w6 ⟨vg,vc,rfl,hvc,ov,b6⟩
   have c6:Below w3.heap.size w3 w6:=andThen c5 (Nat.le_refl _) b6
   try go_simp
   refine hK.out _ _ ?_ (fun hHeld=>?_)
   ·exact HS5.out _ c6
   clear hK K
   (try simp only [Act.put,sA,sB,sC])
   refine tz 5 ⟨some 41,.move (.tmp 46),34,"laws.go:838",#[⟨4,.data⟩],none⟩ ?_ ?_ hHeld ?_
   rotate_left
   ·rintro wz ⟨x0,x1,x2,x3⟩;go_simp;try (with_reducible rfl)
   simp only [Act.put,sA,sB,sC]
   refine tz 6 ⟨some 47,.extract (.tmp 41) 0,33,"laws.go:838",#[⟨5,.data⟩],none⟩ ?_ ?_ hHeld ?_
   rotate_left
   ·rintro wz ⟨x0,x1,x2,x3⟩;go_simp;try (with_reducible rfl)
   simp only [Act.put,sA,sB,sC]
   refine tz 7 ⟨some 48,.extract (.tmp 41) 1,3,"laws.go:838",#[⟨5,.data⟩,⟨9,.gcOnly .lateStores⟩],none⟩ ?_ ?_ hHeld ?_
   rotate_left
   ·rintro wz ⟨x0,x1,x2,x3⟩;go_simp;try (with_reducible rfl)
   simp only [Act.put,sA,sB,sC]
   refine zAM (rs:=[8]) (by kernel_rfl) (by simp) ?_
   refine (ReadyZ.cons (o:=⟨some 7,.alloc 33,0,"laws.go:838",#[],none⟩) rfl (fun K hK=>?_) ReadyZ.nil)
   go_simp
   refine hK.out _ _ ?_ (fun hHeld=>?_)
   ·exact HS5.out _ (c6.alloc c6.size _)
   clear hK K
   (try simp only [Act.put,sA,sB,sC])
   have d8:Below w3.heap.size w3 (w6.alloc (.cells #[.int .i64 0,.int .i64 0,.string ⟨#[]⟩,.slice none 0 0] 33)):=c6.alloc c6.size _
   have hyl:w3.heap.size≤w6.heap.size:=c6.size
   replace ov:=ov.below (zAD _ (.cells #[.int .i64 0,.int .i64 0,.string ⟨#[]⟩,.slice none 0 0] 33))
   have hy:(w6.alloc (.cells #[.int .i64 0,.int .i64 0,.string ⟨#[]⟩,.slice none 0 0] 33)).heap[w6.heap.size]?=some (.cells #[.int .i64 0,.int .i64 0,.string ⟨#[]⟩,.slice none 0 0] 33 (0,0)):=(by rw [show (w6.heap.size:Nat)=w6.heap.size by simp];exact zAK _ _ _)
   have cc:Below w3.heap.size w3 (w6.alloc (.cells #[.int .i64 0,.int .i64 0,.string ⟨#[]⟩,.slice none 0 0] 33)):=d8
   obtain ⟨y,HY⟩ : ∃ y,Hid (w6.heap.size=y):=⟨_,rfl⟩
   replace hyl:=Nat.le_trans hyl (Nat.le_of_eq HY.out)
   rw [HY.out] at hy ⊢
   generalize hww:(w6.alloc (.cells #[.int .i64 0,.int .i64 0,.string ⟨#[]⟩,.slice none 0 0] 33))=ww at hy cc ov ⊢
   clear hww
  rotate_left
  focus
   go_simp
   refine hK.out _ _ ?_ (fun hHeld=>?_)
   ·exact HS5.out _ (c5.alloc c5.size _)
   clear hK K
   (try simp only [Act.put,sA,sB,sC])
   have d8:Below w3.heap.size w3 (w5.alloc (.cells #[.int .i64 0,.int .i64 0,.string ⟨#[]⟩,.slice none 0 0] 33)):=c5.alloc c5.size _
   have hyl:w3.heap.size≤w5.heap.size:=c5.size
   have hy:(w5.alloc (.cells #[.int .i64 0,.int .i64 0,.string ⟨#[]⟩,.slice none 0 0] 33)).heap[w5.heap.size]?=some (.cells #[.int .i64 0,.int .i64 0,.string ⟨#[]⟩,.slice none 0 0] 33 (0,0)):=(by rw [show (w5.heap.size:Nat)=w5.heap.size by simp];exact zAK _ _ _)
   refine zAM (rs:=[4]) (by kernel_rfl) (by simp) ?_
   refine (ReadyZ.cons (o:=⟨some 46,.call { callee:=Callee.value (Operand.func 6),args:=#[Operand.const (Value.int IntKind.i64 4),Operand.tmp 43,Operand.tmp 44,Operand.tmp 45],argTypes:=#[3,3,26,28] },34,"laws.go:838",#[⟨1,.data⟩,⟨2,.data⟩,⟨3,.data⟩,⟨1,.chain⟩],none⟩) rfl (fun K hK=>?_) ReadyZ.nil)
   go_simp
   go_at_call 6
   refine (HMK.out _ d8).mono ?_
   rintro e w6 ⟨vg,vc,rfl,hvc,ov,b6⟩
   have c6:Below w3.heap.size w3 w6:=andThen d8 (Nat.le_refl _) b6
   replace hy:=(b6.block _ (Array.getElem?_eq_some_iff.1 hy).1).trans hy
   try go_simp
   refine hK.out _ _ ?_ (fun hHeld=>?_)
   ·exact HS5.out _ c6
   clear hK K
   (try simp only [Act.put,sA,sB,sC])
   refine tz 5 ⟨some 41,.move (.tmp 46),34,"laws.go:838",#[⟨4,.data⟩],none⟩ ?_ ?_ hHeld ?_
   rotate_left
   ·rintro wz ⟨x0,x1,x2,x3⟩;go_simp;try (with_reducible rfl)
   simp only [Act.put,sA,sB,sC]
   refine tz 6 ⟨some 47,.extract (.tmp 41) 0,33,"laws.go:838",#[⟨5,.data⟩],none⟩ ?_ ?_ hHeld ?_
   rotate_left
   ·rintro wz ⟨x0,x1,x2,x3⟩;go_simp;try (with_reducible rfl)
   simp only [Act.put,sA,sB,sC]
   refine tz 7 ⟨some 48,.extract (.tmp 41) 1,3,"laws.go:838",#[⟨5,.data⟩,⟨9,.gcOnly .lateStores⟩],none⟩ ?_ ?_ hHeld ?_
   rotate_left
   ·rintro wz ⟨x0,x1,x2,x3⟩;go_simp;try (with_reducible rfl)
   simp only [Act.put,sA,sB,sC]
   have cc:Below w3.heap.size w3 w6:=c6
   obtain ⟨y,HY⟩ : ∃ y,Hid (w5.heap.size=y):=⟨_,rfl⟩
   replace hyl:=Nat.le_trans hyl (Nat.le_of_eq HY.out)
   rw [HY.out] at hy ⊢
   generalize hww:w6=ww at hy cc ov ⊢
   clear hww
  rotate_left
 rotate_left 2
 focus
  go_simp
  refine hK.out _ _ ?_ (fun hHeld=>?_)
  ·exact HS5.out _ ((Below.refl w3.heap.size w3).drew.alloc (Below.refl w3.heap.size w3).drew.size _)
  clear hK K
  (try simp only [Act.put,sA,sB,sC])
  have d8:Below w3.heap.size w3 (w3.drew.alloc (.cells #[.int .i64 0,.int .i64 0,.string ⟨#[]⟩,.slice none 0 0] 33)):=(Below.refl w3.heap.size w3).drew.alloc (Below.refl w3.heap.size w3).drew.size _
  have hyl:w3.heap.size≤w3.heap.size:=(Below.refl w3.heap.size w3).drew.size
  have hy:(w3.drew.alloc (.cells #[.int .i64 0,.int .i64 0,.string ⟨#[]⟩,.slice none 0 0] 33)).heap[w3.heap.size]?=some (.cells #[.int .i64 0,.int .i64 0,.string ⟨#[]⟩,.slice none 0 0] 33 (0,0)):=(by rw [show (w3.heap.size:Nat)=w3.drew.heap.size by simp];exact zAK _ _ _)
  refine zAM (rs:=[1]) (by kernel_rfl) (by simp) ?_
  refine (ReadyZ.cons (o:=⟨some 43,.call { callee:=Callee.value (Operand.func 5),args:=#[Operand.tmp 42,Operand.const (Value.int IntKind.i64 1),Operand.const (Value.int IntKind.i64 100)],argTypes:=#[22,3,3] },3,"laws.go:838",#[⟨0,.data⟩],none⟩) rfl (fun K hK=>?_) ReadyZ.nil)
  go_simp
  go_at_call 5
  refine (HAT.out _ d8).mono ?_
  rintro e w5 ⟨rfl,b5⟩
  have c5:Below w3.heap.size w3 w5:=andThen d8 (Nat.le_refl _) b5
  replace hy:=(b5.block _ (Array.getElem?_eq_some_iff.1 hy).1).trans hy
  try go_simp
  refine hK.out _ _ ?_ (fun hHeld=>?_)
  ·exact HS5.out _ c5
  clear hK K
  (try simp only [Act.put,sA,sB,sC])
  refine zAM (rs:=[4]) (by kernel_rfl) (by simp) ?_
  refine (ReadyZ.cons (o:=⟨some 46,.call { callee:=Callee.value (Operand.func 6),args:=#[Operand.const (Value.int IntKind.i64 4),Operand.tmp 43,Operand.tmp 44,Operand.tmp 45],argTypes:=#[3,3,26,28] },34,"laws.go:838",#[⟨1,.data⟩,⟨2,.data⟩,⟨3,.data⟩,⟨1,.chain⟩],none⟩) rfl (fun K hK=>?_) ReadyZ.nil)
  go_simp
  go_at_call 6
  refine (HMK.out _ c5).mono ?_
  rintro e w6 ⟨vg,vc,rfl,hvc,ov,b6⟩
  have c6:Below w3.heap.size w3 w6:=andThen c5 (Nat.le_refl _) b6
  replace hy:=(b6.block _ (Array.getElem?_eq_some_iff.1 hy).1).trans hy
  try go_simp
  refine hK.out _ _ ?_ (fun hHeld=>?_)
  ·exact HS5.out _ c6
  clear hK K
  (try simp only [Act.put,sA,sB,sC])
  refine tz 5 ⟨some 41,.move (.tmp 46),34,"laws.go:838",#[⟨4,.data⟩],none⟩ ?_ ?_ hHeld ?_
  rotate_left
  ·rintro wz ⟨x0,x1,x2,x3⟩;go_simp;try (with_reducible rfl)
  simp only [Act.put,sA,sB,sC]
  refine tz 6 ⟨some 47,.extract (.tmp 41) 0,33,"laws.go:838",#[⟨5,.data⟩],none⟩ ?_ ?_ hHeld ?_
  rotate_left
  ·rintro wz ⟨x0,x1,x2,x3⟩;go_simp;try (with_reducible rfl)
  simp only [Act.put,sA,sB,sC]
  refine tz 7 ⟨some 48,.extract (.tmp 41) 1,3,"laws.go:838",#[⟨5,.data⟩,⟨9,.gcOnly .lateStores⟩],none⟩ ?_ ?_ hHeld ?_
  rotate_left
  ·rintro wz ⟨x0,x1,x2,x3⟩;go_simp;try (with_reducible rfl)
  simp only [Act.put,sA,sB,sC]
  have cc:Below w3.heap.size w3 w6:=c6
  obtain ⟨y,HY⟩ : ∃ y,Hid (w3.heap.size=y):=⟨_,rfl⟩
  replace hyl:=Nat.le_trans hyl (Nat.le_of_eq HY.out)
  rw [HY.out] at hy ⊢
  generalize hww:w6=ww at hy cc ov ⊢
  clear hww
 rotate_left
 all_goals
  obtain ⟨z0,f0⟩:=Rg.zAA hy 0 (x:=.int .i64 0) rfl
  obtain ⟨z1,f1⟩:=Rg.zAA hy 1 (x:=.int .i64 0) rfl
  obtain ⟨z2,f2⟩:=Rg.zAA hy 2 (x:=.string ⟨#[]⟩) rfl
  obtain ⟨z3,f3⟩:=Rg.zAA hy 3 (x:=.slice none 0 0) rfl
  refine zAM (rs:=[9]) (by kernel_rfl) (by simp) ?_
  refine (ReadyZ.cons (o:=⟨none,.store 33 (.tmp 7) (.tmp 47),0,"laws.go:838",#[⟨8,.data⟩,⟨6,.data⟩,⟨4,.chain⟩,⟨0,.phase⟩,⟨1,.phase⟩,⟨2,.phase⟩,⟨3,.phase⟩,⟨4,.phase⟩,⟨5,.phase⟩,⟨6,.phase⟩,⟨7,.textOnly .lateStores⟩,⟨8,.phase⟩],none⟩) rfl (fun K hK=>?_) ReadyZ.nil)
  go_simp
  refine hK.out _ _ ?_ (fun hHeld=>?_)
  ·exact HS5.out _ (Below.setCell (Below.setCell (Below.setCell (Below.setCell cc (p:=⟨y,0,none⟩) hyl _) (p:=⟨y,1,none⟩) hyl _) (p:=⟨y,2,none⟩) hyl _) (p:=⟨y,3,none⟩) hyl _)
  clear hK K
  (try simp only [Act.put,sA,sB,sC])
  refine zAM (rs:=[10]) (by kernel_rfl) (by simp) ?_
  refine ReadyZ.last (o:=⟨some 8,.assign (.tmp 48),3,"laws.go:838",#[⟨7,.data⟩,⟨9,.chain⟩,⟨0,.phase⟩,⟨1,.phase⟩,⟨2,.phase⟩,⟨3,.phase⟩,⟨4,.phase⟩,⟨5,.phase⟩,⟨6,.phase⟩,⟨7,.phase⟩,⟨8,.phase⟩,⟨9,.phase⟩],none⟩) rfl (fun K hK=>?_)
  go_simp
  refine hK.out _ _ ?_
  clear hK K
  (try simp only [Act.put,sA,sB,sC])
  refine zBb (by kernel_rfl) ?_ _
  refine NoPanic.normal ?_
  have HB7:Hid (Below w3.heap.size w3 ((((ww.setCell ⟨y,0,none⟩ (.int .i64 sq)).setCell ⟨y,1,none⟩ (.int .i64 sz)).setCell ⟨y,2,none⟩ (.string rt)).setCell ⟨y,3,none⟩ (.slice (some ⟨vg,0,none⟩) 3 vc))∧((((ww.setCell ⟨y,0,none⟩ (.int .i64 sq)).setCell ⟨y,1,none⟩ (.int .i64 sz)).setCell ⟨y,2,none⟩ (.string rt)).setCell ⟨y,3,none⟩ (.slice (some ⟨vg,0,none⟩) 3 vc)).heap[y]?=some (.cells #[.int .i64 sq,.int .i64 sz,.string rt,.slice (some ⟨vg,0,none⟩) 3 vc] 33 (0,0))∧3≤vc∧OwnV ((((ww.setCell ⟨y,0,none⟩ (.int .i64 sq)).setCell ⟨y,1,none⟩ (.int .i64 sz)).setCell ⟨y,2,none⟩ (.string rt)).setCell ⟨y,3,none⟩ (.slice (some ⟨vg,0,none⟩) 3 vc)) 0 (.slice (some ⟨vg,0,none⟩) 3 vc) (vts sq T qa qb qc)):=⟨Below.setCell (Below.setCell (Below.setCell (Below.setCell cc (p:=⟨y,0,none⟩) hyl _) (p:=⟨y,1,none⟩) hyl _) (p:=⟨y,2,none⟩) hyl _) (p:=⟨y,3,none⟩) hyl _,by
   have:=zAE (zAE (zAE (zAE hy 0 (.int .i64 sq)) 1 (.int .i64 sz)) 2 (.string rt)) 3 (.slice (some ⟨vg,0,none⟩) 3 vc)
   simpa only [sA,sB,sC] using this,hvc,ov.kept fun q hq=>far (own_ne ov hy q hq) _ _ _ _⟩
  clear hHeld z0 z1 z2 z3 f0 f1 f2 f3 hy cc ov hyl hvc HAT HMK HS5
  generalize ((((ww.setCell ⟨y,0,none⟩ (.int .i64 sq)).setCell ⟨y,1,none⟩ (.int .i64 sz)).setCell ⟨y,2,none⟩ (.string rt)).setCell ⟨y,3,none⟩ (.slice (some ⟨vg,0,none⟩) 3 vc))=w7 at HB7 ⊢
  have HA:Hid (∀ W,Below w7.heap.size w7 W→W.heap[x]?=some (.cells #[.int .i64 T.tm,.int .i64 T.nx,.slice ua T.ls.length uc,.slice sa T.ss.length sc] 26 (0,0))∧InT W (.slice ua T.ls.length uc) (.slice sa T.ss.length sc) T∧Below w.heap.size w W∧W.heap[g]?=some (.cells #[.int .i64 qa,.int .i64 qb,.int .i64 qc] 3 (0,0))∧W.heap[y]?=some (.cells #[.int .i64 sq,.int .i64 sz,.string rt,.slice (some ⟨vg,0,none⟩) 3 vc] 33 (0,0))∧OwnV W 0 (.slice (some ⟨vg,0,none⟩) 3 vc) (vts sq T qa qb qc)):=fun W hW=>by
   obtain ⟨f1,f2,f3,f4⟩:=HF.out W (andThen HB7.out.1 (Nat.le_refl _) hW)
   exact ⟨f1,f2,f3,f4,(hW.block _ (Array.getElem?_eq_some_iff.1 HB7.out.2.1).1).trans HB7.out.2.1,HB7.out.2.2.2.below hW⟩
  have HVC:Hid (3≤vc):=HB7.out.2.2.1
  clear HB7 HF
  have HTB:Hid (∀ W,Below w7.heap.size w7 W→Calls Tryz.prog 7 #[.agg #[.int .i64 T.tm,.int .i64 T.nx,.slice ua T.ls.length uc,.slice sa T.ss.length sc]] W fun e w'=>∃ v,e=.returned (.tuple #[v,.int .i64 0])∧RowB w' v (tabB T)∧Below W.heap.size W w'):=fun W hW=>zBu hTO.out ((HA.out W hW).2.1 W (Below.refl _ _))
  have HCP:Hid (∀ W v,RowB W v (tabB T)→Calls Tryz.prog 8 #[v] W fun e w'=>∃ a c,e=.returned (.tuple #[.slice a (pcs T).length c,.int .i64 0])∧RowT w' (.slice a (pcs T).length c) (pcs T)∧Below W.heap.size W w'):=fun W v hv=>by
   refine (Pg.zAt v _ W hv (by have:=tab_len T hTO.out;omega)).mono ?_
   rintro e w' ⟨u,rfl,o,b⟩
   have hpc:Pg.cutL (tabB T)=pcs T:=rfl
   rw [hpc] at o
   obtain ⟨a,c,rfl⟩:=ownS_slice o
   exact ⟨a,c,by rw [HI.out.pc.2],o.row,b⟩
  have HPO:Hid (∀ W v,RowT W v (pcs T)→Below w7.heap.size w7 W→Calls Tryz.prog 9 #[v] W fun e w'=>∃ a n c,e=.returned (.tuple #[.slice a n c,.int .i64 0])∧RowT w' (.slice a n c) (Py.poL (pcs T))∧Below W.heap.size W w'):=fun W v hv hW=>by
   have hk:=HKT.out W (HA.out W hW).2.2.1
   refine (Py.implProofsOf_any v _ W hv (by have:=HI.out.ln;omega) hk.1 hk.2).mono ?_
   rintro e w' ⟨u,rfl,o,b⟩
   obtain ⟨a,c,rfl⟩:=ownS_slice o
   exact ⟨a,_,c,by rw [HI.out.pc.1],o.row,b⟩
  have HSO:Hid (∀ W,Below w7.heap.size w7 W→Calls Tryz.prog 10 #[.int .i64 4,.agg #[.int .i64 sq,.int .i64 sz,.string rt,.slice (some ⟨vg,0,none⟩) 3 vc]] W fun e w'=>e=.returned (.bool true)∧Below W.heap.size W w'):=fun W hW=>by
   obtain ⟨_,_,f3,_,_,f6⟩:=HA.out W hW
   have h:=Xs.zBK 4 sq sz rt _ (vts sq T qa qb qc) W f6.row (by simp [vts]) (HKT.out W f3).1 (HKT.out W f3).2
   have h2:=HI.out.st
   rw [HSZ.out,HRT.out] at h2
   rw [h2] at h
   exact h
  obtain ⟨M,HM⟩ : ∃ M,Hid ((Xo.vtOf sq (pcs T).length (rtO T) qa).m=M):=⟨_,rfl⟩
  have HVM:Hid (∀ W,Below w7.heap.size w7 W→Calls Tryz.prog 11 #[.int .i64 qa,.int .i64 sq,.int .i64 sz,.string rt] W fun e w'=>e=.returned (.tuple #[.string M,.int .i64 0])∧Below W.heap.size W w'):=fun W hW=>by
   obtain ⟨_,_,f3,_⟩:=HA.out W hW
   obtain ⟨v1,v2⟩:=HI.out.vm
   have h3:=HI.out.rt
   rw [HM.out] at v2
   rw [HSZ.out,HRT.out] at v1 v2
   rw [HRT.out] at h3
   have h:=Xv.implVoteMac_any qa sq sz rt W (by omega) (HKT.out W f3).1 (HKT.out W f3).2
   rw [v1,v2] at h
   exact h
  have HIT:Hid (∀ W up uq,RowT W up (pcs T)→RowT W uq (Py.poL (pcs T))→Below w7.heap.size w7 W→Calls Tryz.prog 12 #[.int .i64 4,.agg #[.int .i64 sq,.int .i64 sz,.string rt,.slice (some ⟨vg,0,none⟩) 3 vc],up,uq] W fun e w'=>∃ b d b2 d2,e=.returned (.tuple #[.agg #[.int .i64 T.tm,.int .i64 T.nx,.slice b T.ls.length d,.slice b2 T.ss.length d2],.int .i64 0])∧InT w' (.slice b T.ls.length d) (.slice b2 T.ss.length d2) T∧Below W.heap.size W w'):=fun W up uq h1 h2 hW=>by
   obtain ⟨_,_,f3,_,_,f6⟩:=HA.out W hW
   obtain ⟨k1,k2⟩:=HI.out.it
   rw [HSZ.out,HRT.out] at k1 k2
   have h:=Xl.zBf 4 sq sz rt _ (vts sq T qa qb qc) up uq _ _ W A f6.row (by simp [vts]) h1 (by have:=HI.out.ln;omega) h2 (by have:=HI.out.ln;have:=HI.out.po.1;omega) HI.out.po.2 (HSE.out W f3) (HKT.out W f3).1 (HKT.out W f3).2
   unfold Xl.ItP at h
   rw [k1,k2] at h
   refine h.mono ?_
   rintro e w' ⟨u2,u3,ms,rfl,⟨hm,me⟩,hb⟩
   obtain ⟨r1,r2⟩:=Mem.rows me
   rw [hm] at r1
   obtain ⟨b,d,rfl⟩:=RowG.slice r1
   obtain ⟨b2,d2,rfl⟩:=RowG.slice r2
   exact ⟨b,d,b2,d2,rfl,fun W' hW'=>⟨RowL.below r1 hW',RowS.below r2 hW'⟩,hb⟩
  have HNO:Hid (∀ W up uq,RowT W up (pcs T)→RowT W uq (Py.poL (pcs T))→Below w7.heap.size w7 W→Calls Tryz.prog 12 #[.int .i64 4,.agg #[.int .i64 sq,.int .i64 sz,.string rt,.slice (some ⟨vg,0,none⟩) 2 vc],up,uq] W fun e w'=>∃ z0 z1 b n d b2 m d2,e=.returned (.tuple #[.agg #[.int .i64 z0,.int .i64 z1,.slice b n d,.slice b2 m d2],.int .i64 12])∧Below W.heap.size W w'):=fun W up uq h1 h2 hW=>by
   obtain ⟨_,_,f3,_,_,f6⟩:=HA.out W hW
   have k1:=HI.out.no
   rw [HSZ.out,HRT.out] at k1
   have h:=Xl.zBf 4 sq sz rt _ ((vts sq T qa qb qc).take 2) up uq _ _ W A (votes_two f6 rfl) (by simp [vts]) h1 (by have:=HI.out.ln;omega) h2 (by have:=HI.out.ln;have:=HI.out.po.1;omega) HI.out.po.2 (HSE.out W f3) (HKT.out W f3).1 (HKT.out W f3).2
   unfold Xl.ItP at h
   rw [k1] at h
   refine h.mono ?_
   rintro e w' ⟨u2,u3,ms,rfl,⟨hm,me⟩,hb⟩
   obtain ⟨r1,r2⟩:=Mem.rows me
   obtain ⟨b,d,rfl⟩:=RowG.slice r1
   obtain ⟨b2,d2,rfl⟩:=RowG.slice r2
   exact ⟨_,_,b,_,d,b2,_,d2,rfl,hb⟩
  have HSM:Hid (∀ W b d b2 d2,Below w7.heap.size w7 W→InT W (.slice b T.ls.length d) (.slice b2 T.ss.length d2) T→Calls Tryz.prog 13 #[.agg #[.int .i64 T.tm,.int .i64 T.nx,.slice b T.ls.length d,.slice b2 T.ss.length d2],.agg #[.int .i64 T.tm,.int .i64 T.nx,.slice ua T.ls.length uc,.slice sa T.ss.length sc]] W fun e w'=>e=.returned (.bool true)∧Below W.heap.size W w'):=fun W b d b2 d2 hW h=>same_ok hTO.out b d b2 d2 ua uc sa sc W h (HA.out W hW).2.1
  have HMC:Hid (∀ W,Below w7.heap.size w7 W→W.cell? ⟨vg,1,none⟩=some (.string M)):=fun W hW=>by
   rw [← HM.out]
   exact votes_mac (HA.out W hW).2.2.2.2.2
  have HLE:Hid (w.heap.size≤w7.heap.size):=(HA.out w7 (Below.refl _ _)).2.2.1.size
  clear HKT HSE HX1 hTO HI HSQ HQ HSZ HRT HM
  have hx:=(HA.out w7 (Below.refl _ _)).1
  have t0:=(Rg.zAA hx 0 (x:=.int .i64 T.tm) rfl).1
  have t1:=(Rg.zAA hx 1 (x:=.int .i64 T.nx) rfl).1
  have t2:=(Rg.zAA hx 2 (x:=.slice ua T.ls.length uc) rfl).1
  have t3:=(Rg.zAA hx 3 (x:=.slice sa T.ss.length sc) rfl).1
  clear hx
  go_wp2_with fail
  refine (HTB.out _ (Below.refl _ _)).mono ?_
  rintro e w8 ⟨v8,rfl,r8,b8⟩
  have B8:Hid (Below w7.heap.size w7 w8∧RowB w8 v8 (tabB T)):=⟨b8,r8⟩
  clear b8 r8 t0 t1 t2 t3 HTB
  go_wp2_with fail
  refine (HCP.out _ _ B8.out.2).mono ?_
  rintro e w9 ⟨pa,pc,rfl,r9,b9⟩
  have B9:Hid (Below w7.heap.size w7 w9∧RowT w9 (.slice pa (pcs T).length pc) (pcs T)):=⟨andThen B8.out.1 (Nat.le_refl _) b9,r9⟩
  clear b9 r9 B8 HCP
  go_wp2_with fail
  refine (HPO.out _ _ B9.out.2 B9.out.1).mono ?_
  rintro e wa ⟨oa,on,oc,rfl,ra,ba⟩
  have Ba:Hid (Below w7.heap.size w7 wa∧RowT wa (.slice pa (pcs T).length pc) (pcs T)∧RowT wa (.slice oa on oc) (Py.poL (pcs T))):=⟨andThen B9.out.1 (Nat.le_refl _) ba,B9.out.2.below ba,ra⟩
  clear ba ra B9 HPO
  have hy:=(HA.out wa Ba.out.1).2.2.2.2.1
  have s0:=(Rg.zAA hy 0 (x:=.int .i64 sq) rfl).1
  have s1:=(Rg.zAA hy 1 (x:=.int .i64 sz) rfl).1
  have s2:=(Rg.zAA hy 2 (x:=.string rt) rfl).1
  have s3:=(Rg.zAA hy 3 (x:=.slice (some ⟨vg,0,none⟩) 3 vc) rfl).1
  clear hy
  go_wp2_with fail
  refine (HSO.out _ Ba.out.1).mono ?_
  rintro e wb ⟨rfl,bb⟩
  have Bb:Hid (Below w7.heap.size w7 wb∧RowT wb (.slice pa (pcs T).length pc) (pcs T)∧RowT wb (.slice oa on oc) (Py.poL (pcs T))):=⟨andThen Ba.out.1 (Nat.le_refl _) bb,Ba.out.2.1.below bb,Ba.out.2.2.below bb⟩
  clear s0 s1 s2 s3 bb Ba HSO
  have hy:=(HA.out wb Bb.out.1).2.2.2.2.1
  have s0:=(Rg.zAA hy 0 (x:=.int .i64 sq) rfl).1
  have s1:=(Rg.zAA hy 1 (x:=.int .i64 sz) rfl).1
  have s2:=(Rg.zAA hy 2 (x:=.string rt) rfl).1
  have s3:=(Rg.zAA hy 3 (x:=.slice (some ⟨vg,0,none⟩) 3 vc) rfl).1
  clear hy
  go_upto_region 11 with fail
  clear s0 s1 s2 s3
  have HS11:Hid (∀ W,Below wb.heap.size wb W→W.cell? ⟨g,0,none⟩=some (.int .i64 qa)∧W.cell? ⟨y,0,none⟩=some (.int .i64 sq)∧W.cell? ⟨y,1,none⟩=some (.int .i64 sz)∧W.cell? ⟨y,2,none⟩=some (.string rt)∧W.cell? ⟨y,3,none⟩=some (.slice (some ⟨vg,0,none⟩) 3 vc)):=fun W hW=>by
   obtain ⟨_,_,_,h4,h5,_⟩:=HA.out W (andThen Bb.out.1 (Nat.le_refl _) hW)
   exact ⟨(Rg.zAA h4 0 rfl).1,(Rg.zAA h5 0 rfl).1,(Rg.zAA h5 1 rfl).1,(Rg.zAA h5 2 rfl).1,(Rg.zAA h5 3 rfl).1⟩
  refine wp_region_noPanic ?_
  refine zAq 14 (S:=fun W=>W.cell? ⟨g,0,none⟩=some (.int .i64 qa)∧W.cell? ⟨y,0,none⟩=some (.int .i64 sq)∧W.cell? ⟨y,1,none⟩=some (.int .i64 sz)∧W.cell? ⟨y,2,none⟩=some (.string rt)∧W.cell? ⟨y,3,none⟩=some (.slice (some ⟨vg,0,none⟩) 3 vc)) (by kernel_rfl) (HS11.out _ (Below.refl wb.heap.size wb).drew) (fun hHeld=>?_)
  refine tz 0 ⟨some 86,.move (.tmp 6),28,"laws.go:845",#[],none⟩ ?_ ?_ hHeld ?_
  rotate_left
  ·rintro wz ⟨x0,y0,y1,y2,y3⟩;go_simp;try (with_reducible rfl)
  simp only [Act.put,sA,sB,sC]
  refine tz 1 ⟨some 87,.indexAddr 28 (.tmp 86) (Operand.const (Value.int IntKind.i64 0)),0,"laws.go:845",#[⟨0,.data⟩],none⟩ ?_ ?_ hHeld ?_
  rotate_left
  ·rintro wz ⟨x0,y0,y1,y2,y3⟩;go_simp;try (with_reducible rfl)
  simp only [Act.put,sA,sB,sC]
  refine tz 2 ⟨some 88,.load 3 (.tmp 87),3,"laws.go:845",#[⟨1,.data⟩],none⟩ ?_ ?_ hHeld ?_
  rotate_left
  ·rintro wz ⟨x0,y0,y1,y2,y3⟩;go_simp;try (with_reducible rfl)
  simp only [Act.put,sA,sB,sC]
  refine tz 3 ⟨some 89,.fieldAddr 33 (.tmp 7) 0,0,"laws.go:845",#[],none⟩ ?_ ?_ hHeld ?_
  rotate_left
  ·rintro wz ⟨x0,y0,y1,y2,y3⟩;go_simp;try (with_reducible rfl)
  simp only [Act.put,sA,sB,sC]
  refine tz 4 ⟨some 90,.load 3 (.tmp 89),3,"laws.go:845",#[⟨3,.data⟩],none⟩ ?_ ?_ hHeld ?_
  rotate_left
  ·rintro wz ⟨x0,y0,y1,y2,y3⟩;go_simp;try (with_reducible rfl)
  simp only [Act.put,sA,sB,sC]
  refine tz 5 ⟨some 91,.fieldAddr 33 (.tmp 7) 1,0,"laws.go:845",#[],none⟩ ?_ ?_ hHeld ?_
  rotate_left
  ·rintro wz ⟨x0,y0,y1,y2,y3⟩;go_simp;try (with_reducible rfl)
  simp only [Act.put,sA,sB,sC]
  refine tz 6 ⟨some 92,.load 3 (.tmp 91),3,"laws.go:845",#[⟨5,.data⟩],none⟩ ?_ ?_ hHeld ?_
  rotate_left
  ·rintro wz ⟨x0,y0,y1,y2,y3⟩;go_simp;try (with_reducible rfl)
  simp only [Act.put,sA,sB,sC]
  refine tz 7 ⟨some 93,.fieldAddr 33 (.tmp 7) 2,0,"laws.go:845",#[],none⟩ ?_ ?_ hHeld ?_
  rotate_left
  ·rintro wz ⟨x0,y0,y1,y2,y3⟩;go_simp;try (with_reducible rfl)
  simp only [Act.put,sA,sB,sC]
  refine tz 8 ⟨some 94,.load 9 (.tmp 93),9,"laws.go:845",#[⟨7,.data⟩],none⟩ ?_ ?_ hHeld ?_
  rotate_left
  ·rintro wz ⟨x0,y0,y1,y2,y3⟩;go_simp;try (with_reducible rfl)
  simp only [Act.put,sA,sB,sC]
  refine zAM (rs:=[9]) (by kernel_rfl) (by simp) ?_
  refine (ReadyZ.cons (o:=⟨some 95,.call { callee:=Callee.value (Operand.func 11),args:=#[Operand.tmp 88,Operand.tmp 90,Operand.tmp 92,Operand.tmp 94],argTypes:=#[3,3,3,9] },43,"laws.go:845",#[⟨2,.data⟩,⟨4,.data⟩,⟨6,.data⟩,⟨8,.data⟩],none⟩) rfl (fun K hK=>?_) ReadyZ.nil)
  go_simp
  go_at_call 11
  refine (HVM.out _ (andThen Bb.out.1 (Nat.le_refl _) (Below.refl wb.heap.size wb).drew)).mono ?_
  rintro e wc ⟨rfl,bc0⟩
  have bc:Below wb.heap.size wb wc:=andThen (Below.refl wb.heap.size wb).drew (Nat.le_refl _) bc0
  try go_simp
  refine hK.out _ _ ?_ (fun hHeld=>?_)
  ·exact HS11.out _ bc
  clear hK K
  (try simp only [Act.put,sA,sB,sC])
  refine tz 10 ⟨some 85,.move (.tmp 95),43,"laws.go:845",#[⟨9,.data⟩],none⟩ ?_ ?_ hHeld ?_
  rotate_left
  ·rintro wz ⟨x0,y0,y1,y2,y3⟩;go_simp;try (with_reducible rfl)
  simp only [Act.put,sA,sB,sC]
  refine tz 11 ⟨some 96,.extract (.tmp 85) 0,9,"laws.go:845",#[⟨10,.data⟩],none⟩ ?_ ?_ hHeld ?_
  rotate_left
  ·rintro wz ⟨x0,y0,y1,y2,y3⟩;go_simp;try (with_reducible rfl)
  simp only [Act.put,sA,sB,sC]
  refine tz 12 ⟨some 97,.extract (.tmp 85) 1,3,"laws.go:845",#[⟨10,.data⟩,⟨13,.gcOnly .lateStores⟩],none⟩ ?_ ?_ hHeld ?_
  rotate_left
  ·rintro wz ⟨x0,y0,y1,y2,y3⟩;go_simp;try (with_reducible rfl)
  simp only [Act.put,sA,sB,sC]
  refine zAM (rs:=[13]) (by kernel_rfl) (by simp) ?_
  refine (ReadyZ.cons (o:=⟨some 15,.assign (.tmp 96),9,"laws.go:845",#[⟨11,.data⟩,⟨9,.chain⟩,⟨0,.phase⟩,⟨1,.phase⟩,⟨2,.phase⟩,⟨3,.phase⟩,⟨4,.phase⟩,⟨5,.phase⟩,⟨6,.phase⟩,⟨7,.phase⟩,⟨8,.phase⟩,⟨9,.phase⟩,⟨10,.phase⟩,⟨11,.phase⟩,⟨12,.textOnly .lateStores⟩],none⟩) rfl (fun K hK=>?_) ReadyZ.nil)
  go_simp
  refine hK.out _ _ ?_ (fun hHeld=>?_)
  ·exact HS11.out _ bc
  clear hK K
  (try simp only [Act.put,sA,sB,sC])
  refine zAM (rs:=[14]) (by kernel_rfl) (by simp) ?_
  refine ReadyZ.last (o:=⟨some 16,.assign (.tmp 97),3,"laws.go:845",#[⟨12,.data⟩,⟨13,.chain⟩,⟨0,.phase⟩,⟨1,.phase⟩,⟨2,.phase⟩,⟨3,.phase⟩,⟨4,.phase⟩,⟨5,.phase⟩,⟨6,.phase⟩,⟨7,.phase⟩,⟨8,.phase⟩,⟨9,.phase⟩,⟨10,.phase⟩,⟨11,.phase⟩,⟨12,.phase⟩,⟨13,.phase⟩],none⟩) rfl (fun K hK=>?_)
  go_simp
  refine hK.out _ _ ?_
  clear hK K
  (try simp only [Act.put,sA,sB,sC])
  refine zBb (by kernel_rfl) ?_ _
  refine NoPanic.normal ?_
  have Bc:Hid (Below w7.heap.size w7 wc∧RowT wc (.slice pa (pcs T).length pc) (pcs T)∧RowT wc (.slice oa on oc) (Py.poL (pcs T))):=⟨andThen Bb.out.1 (Nat.le_refl _) bc,Bb.out.2.1.below bc,Bb.out.2.2.below bc⟩
  clear hHeld bc bc0 Bb HS11 HVM
  have hy:=(HA.out wc Bc.out.1).2.2.2.2.1
  have s0:=(Rg.zAA hy 0 (x:=.int .i64 sq) rfl).1
  have s1:=(Rg.zAA hy 1 (x:=.int .i64 sz) rfl).1
  have s2:=(Rg.zAA hy 2 (x:=.string rt) rfl).1
  have s3:=(Rg.zAA hy 3 (x:=.slice (some ⟨vg,0,none⟩) 3 vc) rfl).1
  clear hy
  go_wp2_with fail
  refine (HIT.out _ _ _ Bc.out.2.1 Bc.out.2.2 Bc.out.1).mono ?_
  rintro e wd ⟨b,d,b2,d2,rfl,i1,bd⟩
  have nd:=zAD wd (.cells #[.int .i64 T.tm,.int .i64 T.nx,.slice b T.ls.length d,.slice b2 T.ss.length d2] 26)
  have bde:=andThen bd (Nat.le_refl _) (nd.mono (Nat.le_refl _))
  have Be:Hid (Below w7.heap.size w7 (wd.alloc (.cells #[.int .i64 T.tm,.int .i64 T.nx,.slice b T.ls.length d,.slice b2 T.ss.length d2] 26))∧RowT (wd.alloc (.cells #[.int .i64 T.tm,.int .i64 T.nx,.slice b T.ls.length d,.slice b2 T.ss.length d2] 26)) (.slice pa (pcs T).length pc) (pcs T)∧RowT (wd.alloc (.cells #[.int .i64 T.tm,.int .i64 T.nx,.slice b T.ls.length d,.slice b2 T.ss.length d2] 26)) (.slice oa on oc) (Py.poL (pcs T))∧(wd.alloc (.cells #[.int .i64 T.tm,.int .i64 T.nx,.slice b T.ls.length d,.slice b2 T.ss.length d2] 26)).heap[wd.heap.size]?=some (.cells #[.int .i64 T.tm,.int .i64 T.nx,.slice b T.ls.length d,.slice b2 T.ss.length d2] 26 (0,0))∧InT (wd.alloc (.cells #[.int .i64 T.tm,.int .i64 T.nx,.slice b T.ls.length d,.slice b2 T.ss.length d2] 26)) (.slice b T.ls.length d) (.slice b2 T.ss.length d2) T):=⟨andThen Bc.out.1 (Nat.le_refl _) bde,Bc.out.2.1.below bde,Bc.out.2.2.below bde,zAK _ _ _,i1.below nd⟩
  clear nd bde bd i1 s0 s1 s2 s3 Bc HIT
  go_upto_region 13 with fail
  generalize wd.alloc (.cells #[.int .i64 T.tm,.int .i64 T.nx,.slice b T.ls.length d,.slice b2 T.ss.length d2] 26)=we at Be ⊢
  generalize wd.heap.size=zb at Be ⊢
  have hx:=(HA.out we Be.out.1).1
  have hy:=(HA.out we Be.out.1).2.2.2.2.1
  have t0:=(Rg.zAA hx 0 (x:=.int .i64 T.tm) rfl).1
  have t1:=(Rg.zAA hx 1 (x:=.int .i64 T.nx) rfl).1
  have t2:=(Rg.zAA hx 2 (x:=.slice ua T.ls.length uc) rfl).1
  have t3:=(Rg.zAA hx 3 (x:=.slice sa T.ss.length sc) rfl).1
  have s0:=(Rg.zAA hy 0 (x:=.int .i64 sq) rfl).1
  have s1:=(Rg.zAA hy 1 (x:=.int .i64 sz) rfl).1
  have s2:=(Rg.zAA hy 2 (x:=.string rt) rfl).1
  have s3:=(Rg.zAA hy 3 (x:=.slice (some ⟨vg,0,none⟩) 3 vc) rfl).1
  have r0:=(Rg.zAA Be.out.2.2.2.1 0 (x:=.int .i64 T.tm) rfl).1
  have r1:=(Rg.zAA Be.out.2.2.2.1 1 (x:=.int .i64 T.nx) rfl).1
  have r2:=(Rg.zAA Be.out.2.2.2.1 2 (x:=.slice b T.ls.length d) rfl).1
  have r3:=(Rg.zAA Be.out.2.2.2.1 3 (x:=.slice b2 T.ss.length d2) rfl).1
  have mc:=HMC.out we Be.out.1
  have hmm:(M.toList != M.toList)=false:=by simp
  clear hx hy
  go_wp2_with fail
  refine (HSM.out _ _ _ _ _ Be.out.1 Be.out.2.2.2.2).mono ?_
  rintro e wf ⟨rfl,bf⟩
  have Bf:Hid (Below w7.heap.size w7 wf∧RowT wf (.slice pa (pcs T).length pc) (pcs T)∧RowT wf (.slice oa on oc) (Py.poL (pcs T))):=⟨andThen Be.out.1 (Nat.le_refl _) bf,Be.out.2.1.below bf,Be.out.2.2.1.below bf⟩
  clear t0 t1 t2 t3 s0 s1 s2 s3 r0 r1 r2 r3 mc hmm bf Be HSM HMC
  have hy:=(HA.out wf Bf.out.1).2.2.2.2.1
  have s0:=(Rg.zAA hy 0 (x:=.int .i64 sq) rfl).1
  have s1:=(Rg.zAA hy 1 (x:=.int .i64 sz) rfl).1
  have s2:=(Rg.zAA hy 2 (x:=.string rt) rfl).1
  have s3:=(Rg.zAA hy 3 (x:=.slice (some ⟨vg,0,none⟩) 3 vc) rfl).1
  clear hy
  go_upto_region 16 with fail
  clear s0 s1 s2 s3
  have nf:=zAD wf (.cells #[.int .i64 sq,.int .i64 sz,.string rt,.slice (some ⟨vg,0,none⟩) 3 vc] 33)
  have hl:=zAK wf #[.int .i64 sq,.int .i64 sz,.string rt,.slice (some ⟨vg,0,none⟩) 3 vc] 33
  have Bg:Hid (Below wf.heap.size wf (wf.alloc (.cells #[.int .i64 sq,.int .i64 sz,.string rt,.slice (some ⟨vg,0,none⟩) 3 vc] 33))∧(wf.alloc (.cells #[.int .i64 sq,.int .i64 sz,.string rt,.slice (some ⟨vg,0,none⟩) 3 vc] 33)).heap[wf.heap.size]?=some (.cells #[.int .i64 sq,.int .i64 sz,.string rt,.slice (some ⟨vg,0,none⟩) 3 vc] 33 (0,0))):=⟨nf,hl⟩
  clear nf hl
  generalize wf.alloc (.cells #[.int .i64 sq,.int .i64 sz,.string rt,.slice (some ⟨vg,0,none⟩) 3 vc] 33)=wg at Bg ⊢
  obtain ⟨l,HL⟩ : ∃ l,Hid (wf.heap.size=l):=⟨_,rfl⟩
  rw [HL.out] at Bg ⊢
  have hy:=(HA.out wg (andThen Bf.out.1 (Nat.le_refl _) (by rw [HL.out];exact Bg.out.1))).2.2.2.2.1
  have s3:=(Rg.zAA hy 3 (x:=.slice (some ⟨vg,0,none⟩) 3 vc) rfl).1
  obtain ⟨l3,lf⟩:=Rg.zAA Bg.out.2 3 (x:=.slice (some ⟨vg,0,none⟩) 3 vc) rfl
  have hv2:(2:Int)≤(vc:Int):=by have:=HVC.out;omega
  have hv3:2≤vc:=by have:=HVC.out;omega
  clear hy
  go_upto_region 17 with fail
  have Bh:Hid (Below wf.heap.size wf (wg.setCell ⟨l,3,none⟩ (.slice (some ⟨vg,0,none⟩) 2 vc))∧(wg.setCell ⟨l,3,none⟩ (.slice (some ⟨vg,0,none⟩) 2 vc)).heap[l]?=some (.cells #[.int .i64 sq,.int .i64 sz,.string rt,.slice (some ⟨vg,0,none⟩) 2 vc] 33 (0,0))):=⟨by
   rw [HL.out]
   exact Below.setCell Bg.out.1 (p:=⟨l,3,none⟩) (Nat.le_refl _) _,by
   have:=zAE Bg.out.2 3 (.slice (some ⟨vg,0,none⟩) 2 vc)
   simpa only [sA,sB,sC] using this⟩
  clear s3 l3 lf hv2 hv3 Bg
  generalize wg.setCell ⟨l,3,none⟩ (.slice (some ⟨vg,0,none⟩) 2 vc)=wh at Bh ⊢
  have Bi:Hid (Below w7.heap.size w7 wh∧RowT wh (.slice pa (pcs T).length pc) (pcs T)∧RowT wh (.slice oa on oc) (Py.poL (pcs T))):=⟨andThen Bf.out.1 (Nat.le_refl _) Bh.out.1,Bf.out.2.1.below Bh.out.1,Bf.out.2.2.below Bh.out.1⟩
  have s0:=(Rg.zAA Bh.out.2 0 (x:=.int .i64 sq) rfl).1
  have s1:=(Rg.zAA Bh.out.2 1 (x:=.int .i64 sz) rfl).1
  have s2:=(Rg.zAA Bh.out.2 2 (x:=.string rt) rfl).1
  have s3:=(Rg.zAA Bh.out.2 3 (x:=.slice (some ⟨vg,0,none⟩) 2 vc) rfl).1
  clear Bh Bf
  go_wp2_with fail
  refine (HNO.out _ _ _ Bi.out.2.1 Bi.out.2.2 Bi.out.1).mono ?_
  rintro e wi ⟨z0,z1,p1,n1,d1,p3,n3,d3,rfl,bi⟩
  have Bj:Hid (Below w7.heap.size w7 wi):=andThen Bi.out.1 (Nat.le_refl _) bi
  clear s0 s1 s2 s3 bi Bi HNO
  go_upto_region 18 with fail
  have nj:=zAD wi (.cells #[.int .i64 z0,.int .i64 z1,.slice p1 n1 d1,.slice p3 n3 d3] 26)
  have Bk:Hid (Below w.heap.size w (wi.alloc (.cells #[.int .i64 z0,.int .i64 z1,.slice p1 n1 d1,.slice p3 n3 d3] 26))):=(HA.out _ (andThen Bj.out (Nat.le_refl _) nj)).2.2.1
  clear nj Bj
  generalize wi.alloc (.cells #[.int .i64 z0,.int .i64 z1,.slice p1 n1 d1,.slice p3 n3 d3] 26)=wk at Bk ⊢
  go_wp2_with fail
  go_ret
  exact ⟨rfl,Bk.out⟩
set_option maxRecDepth 100000 in
theorem lifted (os:Os) (started:os.Started) (H:Type) (enc:TypeId × Value→H) :
 ReturnsInHanded {} Tryz.checked os 3 .any (fun w args=>(Rows.fnInstallSpec.pre enc Tryz.prog Tryz.f3 [] false w args∧laidMetH Tryz.prog Rows.fnInstallRow.laid w)∧sizedMet enc Tryz.prog Tryz.f3 (OpenSpec.ofChange Rows.fnInstallSpec) false w args)
  (Rows.fnInstallSpec.post enc Tryz.prog Tryz.f3 false true false false):=by
 refine returnsInHanded_of_change_and (C:=Tryz.checked) (X:=fun w _=>laidMetH Tryz.prog Rows.fnInstallRow.laid w) (fun _ _ _ hh h=>h.of_heap hh) own started (by kernel_rfl) Tryz.func3
  (ChangeSpec.witness_shaped (enc:=enc) (C:=Tryz.checked) (os:=os) (X:=fun w _=>laidMetH Tryz.prog Rows.fnInstallRow.laid w) false (World.doorLaid Tryz.prog 400 os) #[.slice none 0 0,.slice none 0 0] 8 rfl (World.shaped_of_RefB (by kernel_rfl) (by kernel_rfl)) (by kernel_rfl) (by kernel_rfl) (by kernel_rfl) (door_met os _)) ?_
 intro W base args ds gs before hval0 hW _ _ hL _
 have hval:∀ (j:Nat) t v,Tryz.f3.params[j]?=some t→args[j]?=some v→Value.okWide Tryz.prog W .any base t v:=hval0
 have hW':=hW
 obtain ⟨p,q,hA0,hV0,rfl,hfz,hnd⟩:=hW
 have hA:DataW.TrodAll enc Tryz.prog W 0 (fun _=>true) true Tryz.f3.params.toList args.toList ds p:=hA0
 have hV:DataW.TrodVars enc Tryz.prog W (fun _=>true) ["loop.example/g00292/impl.errTooLong","loop.example/g00292/impl.errOutside","loop.example/g00292/impl.errNoQuorum","loop.example/g00292/impl.errNotRight","loop.example/g00292/impl.errNoTable","loop.example/g00292/impl.errNoProof","loop.example/g00292/impl.errOtherRoot","loop.example/g00292/impl.errNotSigned","loop.example/g00292/impl.roundWords"] gs q:=hV0
 rw [Tryz.params3] at hA hval
 obtain ⟨v0,vs0,d0,ds0,p0,q0,hargs,rfl,rfl,h0,r0⟩:=trodAll_cons hA
 obtain ⟨v1,vs1,d1,ds1,p1,q1,rfl,rfl,rfl,h1,r1⟩:=trodAll_cons r0
 obtain ⟨rfl,rfl,rfl⟩:=trodAll_nil r1
 obtain rfl:args=#[v0,v1]:=by cases args;simp_all
 obtain ⟨e1,gs1,qv1,rfl,hV1⟩:=Hl.tailV hV
 obtain ⟨e2,gs2,qv2,rfl,hV2⟩:=Hl.tailV hV1
 obtain ⟨e3,gs3,qv3,rfl,hV3⟩:=Hl.tailV hV2
 obtain ⟨e4,gs4,qv4,rfl,hV4⟩:=Hl.tailV hV3
 obtain ⟨e5,gs5,qv5,rfl,hV5⟩:=Hl.tailV hV4
 obtain ⟨e6,gs6,qv6,rfl,hV6⟩:=Hl.tailV hV5
 obtain ⟨e7,gs7,qv7,rfl,hV7⟩:=Hl.tailV hV6
 obtain ⟨e8,gs8,qv8,rfl,hV8⟩:=Hl.tailV hV7
 obtain ⟨_,_,_,_,dv,_,rfl,_⟩:=trodVars_one hV8
 have k00:=h0
 have lt0:∀ x ∈ p0,x.block<W.heap.size:=by obtain ⟨m,hm⟩:=k00;exact DataW.trod_lt m _ _ _ hm
 obtain ⟨xs0,w0⟩:=Op.open_bytes (hval 0 22 v0 rfl rfl) h0 (fun _=>rfl)
 have k10:=h1
 have lt1:∀ x ∈ p1,x.block<W.heap.size:=by obtain ⟨m,hm⟩:=k10;exact DataW.trod_lt m _ _ _ hm
 obtain ⟨xs1,w1⟩:=Op.open_bytes (hval 1 22 v1 rfl rfl) h1 (fun _=>rfl)
 clear hA0 hval0 hV0
 obtain ⟨hT,A,hSe,hVa⟩:=Hl.tab_of hL
 have hread:=Hl.readV enc hVa (sp:=fun _=>true) hV8
 obtain ⟨eg,eq⟩:=hV.unique hread
 refine (walk v0 xs0 w0 v1 xs1 w1 A hSe hT.1 hT.2).mono fun e W' ⟨he,bel⟩=>?_
 subst he
 exact ⟨_,rfl,_,_,_,[],_,q,hW',trodAll_mk1 (shut_bool Tryz.underlying4 _),(trodAll_cons_mk (Below.trod laidOut (by kernel_rfl) (of_decide_eq_true (by kernel_rfl)) k00 bel lt0) (trodAll_cons_mk (Below.trod laidOut (by kernel_rfl) (of_decide_eq_true (by kernel_rfl)) k10 bel lt1) trodAll_mk0)),(by rw [eg,eq];exact Hl.readV enc (hVa.below bel) (Below.trodVars laidOut bel rowed hV8)),bel.frame _,fun h=>by cases h⟩
theorem said:Rows.FnInstallSaid :=
 OpenClaim.holds_of_wide 3 Tryz.f3 rfl rfl rfl rfl rfl rfl rfl ⟨rfl,rfl,rfl,rfl,rfl⟩ rfl rfl rfl rfl rfl (by kernel_rfl) Tryz.func3 (by kernel_rfl)
  (of_decide_eq_true (by kernel_rfl)) (by unfold Func.isWrapper;first | (rw [if_pos (by decide +kernel)];kernel_rfl) | (rw [if_neg (by decide +kernel)];exact ⟨rfl,rfl⟩))
  (fun os started H enc _=>lifted os started H enc)
/-- No parameter wants a stand-in;the program's own looks are off. -/
theorem plain (f:FuncId) (fn:Func) (hf:Tryz.pinned.checked.prog.funcNamed "loop.example/g00292/laws.FnInstall"=some f) (hfn:Tryz.pinned.checked.prog.funcs[f]?=some fn) :
 true=Tryz.pinned.checked.prog.looks []∧∀ (j:Nat) t,fn.params[j]?=some t→Tryz.pinned.checked.prog.wantsStandIn t=false:=by
 obtain rfl:f=3:=Option.some.inj ((show Tryz.prog.funcNamed "loop.example/g00292/laws.FnInstall"=some 3 by kernel_rfl).symm.trans hf) |>.symm
 obtain rfl:fn=Tryz.f3:=(Option.some.inj (Tryz.func3.symm.trans hfn)).symm
 refine ⟨by kernel_rfl,fun j t ht=>?_⟩
 rw [Tryz.params3] at ht
 have hm:=Array.mem_of_getElem? ht
 have hl:t ∈ [22,22]:=by simpa using hm
 have hall:∀ x ∈ [22,22],Tryz.prog.wantsStandIn x=false:=by
  intro x hx
  simp only [List.mem_cons,List.not_mem_nil,or_false] at hx
  rcases hx with rfl | rfl <;> kernel_rfl
 exact hall t hl
end Go.Proofs.YtakfniknkejgpaaGreatDoor.fnInstall
namespace Go.Proofs.YtakfniknkejgpaaGreatDoor
/-- THE STATEMENT: the card. -/
theorem fnInstall_holds:Rows.FnInstallCardSaid :=
 Claim7.holds_tied_plain_at .later [] _ _ _ _ fnInstall.said (fun _ h=>by cases h) (by kernel_rfl) (fun _ h=>by cases h) fnInstall_row_tie rfl ⟨rfl,rfl⟩ (by kernel_rfl) rfl fnInstall.plain (by kernel_rfl)
end Go.Proofs.YtakfniknkejgpaaGreatDoor
