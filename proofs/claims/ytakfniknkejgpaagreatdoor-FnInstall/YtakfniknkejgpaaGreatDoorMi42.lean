/- Texts put together: Fg, Htc, Htd. -/
import Derived.Test.YtakfniknkejgpaaGreatDoorMiA0
import Derived.Test.YtakfniknkejgpaaGreatDoorMi41
namespace Go.Proofs.YtakfniknkejgpaaGreatDoor.Da
open Go.RowKit Tb Tw Tp Rq
theorem op_less {n:ByteArray} (h:opB n=true):less ⟨#[]⟩ n=true:=by
 have h1:1≤n.size:=by
  unfold opB at h
  rw [Bool.and_eq_true] at h
  have h2:=h.2
  unfold Nm.zBm at h2
  exact (of_decide_eq_true h2).1
 rw [← after_iff]
 have e:(⟨#[]⟩ : ByteArray).toList=[]:=by rw [Lib.toList_data]
 rw [e]
 cases hn:n.toList with
 | nil =>
   rw [Lib.toList_data] at hn
   have h2:n.data.toList.length=0:=by rw [hn];rfl
   rw [Array.length_toList] at h2
   have e2:n.size=n.data.size:=rfl
   omega
 | cons a r=>simp [Op.bytesLess]
end Go.Proofs.YtakfniknkejgpaaGreatDoor.Da
namespace Go.Proofs.YtakfniknkejgpaaGreatDoor.Gn
open Go.RowKit Sl By Ap Rq Rr Ty
set_option maxRecDepth 100000 in
set_option maxHeartbeats 1600000 in
theorem request3_any (p B K:Nat) (xs:List Int) (w:World) (h:Src B w p xs K) (hB:B≤p) (hK:K≤1000000) (hx:xs.length≤1048600) :
 Calls Tryz.prog 58 #[.pointer (some ⟨p,0,none⟩)] w fun e w'=>∃ (c:Nat) (st k l:Int) (n:ByteArray),e=.returned (.agg #[.int .i64 c,.int .i64 st,.int .i64 k,.int .i64 l,.string n])∧(reqB c st k l n=true∧c<3)∧Src B w' p xs (K+5)∧w.grownBy w' (some p):=by
 have hp:=h.lt
 have S0:Hid (Src B (w.alloc (.cells zreq 123)) p xs K):=h.alloc hB _
 have G0:Hid (w.grownBy (w.alloc (.cells zreq 123)) (some p)):=zBP (grown_refl _ _) _
 have A0:Hid ((w.alloc (.cells zreq 123)).heap[w.heap.size]?=some (.cells zreq 123 (0,0))):=zAK _ _ _
 clear h
 go_enter Tryz.func58,Tryz.ntmps58
 go_wp2_with fail
 refine (zBD 3 p B K xs _ S0.out hB (by omega) hx (by decide) (by decide)).mono ?_
 rintro e w1 ⟨c,rfl,hc,s1,g1⟩
 have S1:Hid (Src B w1 p xs (K+1)):=s1
 have G1:Hid (w.grownBy w1 (some p)):=zAk G0.out g1
 have A1:Hid (w1.heap[w.heap.size]?=some (.cells zreq 123 (0,0))):=zAv A0.out g1 (by omega)
 clear s1 g1 S0 G0 A0
 go_wp2_with fail
 refine (zBD 5 p B (K+1) xs _ S1.out hB (by omega) hx (by decide) (by decide)).mono ?_
 rintro e w2 ⟨st,rfl,hst,s2,g2⟩
 have S2:Hid (Src B w2 p xs (K+2)):=s2
 have G2:Hid (w.grownBy w2 (some p)):=zAk G1.out g2
 have A2:Hid (w2.heap[w.heap.size]?=some (.cells zreq 123 (0,0))):=zAv A1.out g2 (by omega)
 clear s2 g2 S1 G1 A1
 go_wp2_with fail
 refine (zBD 4 p B (K+2) xs _ S2.out hB (by omega) hx (by decide) (by decide)).mono ?_
 rintro e w3 ⟨k,rfl,hk,s3,g3⟩
 have S3:Hid (Src B (w3.alloc (.cells #[.string ⟨#[97]⟩,.string ⟨#[98]⟩,.string ⟨#[108,111,99,107]⟩] 9)) p xs (K+3)):=s3.alloc hB _
 have G3:Hid (w.grownBy (w3.alloc (.cells #[.string ⟨#[97]⟩,.string ⟨#[98]⟩,.string ⟨#[108,111,99,107]⟩] 9)) (some p)):=zBP (zAk G2.out g3) _
 have l3:w.heap.size<w3.heap.size:=(Array.getElem?_eq_some_iff.1 (zAv A2.out g3 (by omega))).1
 have A3:Hid ((w3.alloc (.cells #[.string ⟨#[97]⟩,.string ⟨#[98]⟩,.string ⟨#[108,111,99,107]⟩] 9)).heap[w.heap.size]?=some (.cells zreq 123 (0,0))):=(Below.heap_alloc _ _ _ l3).trans (zAv A2.out g3 (by omega))
 have hp3:=s3.lt
 clear s3 g3 S2 G2 A2
 go_wp2_with fail
 refine (pick_any w3.heap.size 3 p B (K+3) _ lk3 xs _ S3.out hB (by omega) hx (by decide) (by decide) (zAK _ _ _) (by omega) ?_).mono ?_
 ·intro j hj
  match j,hj with
  | 0,_=>rfl
  | 1,_=>rfl
  | 2,_=>rfl
 rintro e w4 ⟨r,rfl,hr,s4,g4⟩
 have S4:Hid (Src B w4 p xs (K+4)):=s4
 have G4:Hid (w.grownBy w4 (some p)):=zAk G3.out g4
 have A4:Hid (w4.heap[w.heap.size]?=some (.cells zreq 123 (0,0))):=zAv A3.out g4 (by omega)
 have HO:Hid (opB (tnth lk3 r)=true):=lk3_ok r hr
 have l4:w.heap.size<w4.heap.size:=(Array.getElem?_eq_some_iff.1 A4.out).1
 have hp4:=s4.lt
 clear s4 g4 S3 G3 A3 hp3 l3
 generalize tnth lk3 r=n at HO ⊢
 have A5:Hid ((w4.alloc (.cells #[.int .i64 c,.int .i64 (1+st),.int .i64 (1+k),.int .i64 0,.string n] 123)).heap[w.heap.size]?=some (.cells zreq 123 (0,0))):=(Below.heap_alloc _ _ _ l4).trans A4.out
 have B5:Hid ((w4.alloc (.cells #[.int .i64 c,.int .i64 (1+st),.int .i64 (1+k),.int .i64 0,.string n] 123)).heap[w4.heap.size]?=some (.cells #[.int .i64 c,.int .i64 (1+st),.int .i64 (1+k),.int .i64 0,.string n] 123 (0,0))):=zAK _ _ _
 have S5:Hid (Src B (w4.alloc (.cells #[.int .i64 c,.int .i64 (1+st),.int .i64 (1+k),.int .i64 0,.string n] 123)) p xs (K+4)):=S4.out.alloc hB _
 have G5:Hid (w.grownBy (w4.alloc (.cells #[.int .i64 c,.int .i64 (1+st),.int .i64 (1+k),.int .i64 0,.string n] 123)) (some p)):=zBP G4.out _
 go_upto_region 2 with fail
 generalize w4.alloc (.cells #[.int .i64 c,.int .i64 (1+st),.int .i64 (1+k),.int .i64 0,.string n] 123)=w5 at A5 B5 S5 G5 ⊢
 clear A4 S4 G4
 generalize w4.heap.size=x at B5 l4 hp4 ⊢
 have HC:Hid (inB c 0 255=true):=decide_eq_true ⟨by omega,by omega⟩
 have HT:Hid (inB (1+(st:Int)) 1 65535=true):=decide_eq_true ⟨by omega,by omega⟩
 obtain ⟨kd,hkd⟩ : ∃ kd:Int,(1:Int)+(k:Int)=kd:=⟨_,rfl⟩
 rw [hkd] at B5 ⊢
 have hkr:1≤kd∧kd≤4:=by omega
 clear hkd
 have x2:=(zAA B5.out 2 (x:=.int .i64 kd) rfl).1
 by_cases hle:kd=1 ∨ kd=3
 ·have HL:Hid (∀ l:Nat,l<30→leB kd (1+(l:Int))=true):=fun l hl=>decide_eq_true (.inl ⟨hle,by omega,by omega⟩)
  have hq:(kd == 1 || kd == 3)=true:=by rcases hle with h | h <;> simp [h]
  obtain ⟨x3,y3⟩:=zAA B5.out 3 (x:=.int .i64 0) rfl
  rcases hle with rfl | rfl
  ·clear hq
   go_wp2_with fail
   refine (zBD 30 p B (K+4) xs _ S5.out hB (by omega) hx (by decide) (by decide)).mono ?_
   rintro e w6 ⟨l,rfl,hl,s6,g6⟩
   have a6:=zAv A5.out g6 (by omega)
   have b6:=zAv B5.out g6 (by omega)
   obtain ⟨z3,t3⟩:=zAA b6 3 (x:=.int .i64 0) rfl
   have AZ:Hid ((w6.setCell ⟨x,3,none⟩ (.int .i64 (1+l))).heap[w.heap.size]?=some (.cells zreq 123 (0,0))):=(zAB (by omega) 3 _).trans a6
   have BZ:Hid ((w6.setCell ⟨x,3,none⟩ (.int .i64 (1+l))).heap[x]?=some (.cells #[.int .i64 c,.int .i64 (1+st),.int .i64 1,.int .i64 (1+l),.string n] 123 (0,0))):=zAE b6 3 _
   have SZ:Hid (Src B (w6.setCell ⟨x,3,none⟩ (.int .i64 (1+l))) p xs (K+5)):=Src.set s6 (by omega) (by omega) 3 _
   have GZ:Hid (w.grownBy (w6.setCell ⟨x,3,none⟩ (.int .i64 (1+l))) (some p)):=zAZ (zAk G5.out g6) (by omega) 3 _
   clear a6 b6 s6 g6 A5 B5 S5 G5 x2 x3 y3
   go_upto_region 4 with fail
   generalize w6.setCell ⟨x,3,none⟩ (.int .i64 (1+l))=wz at AZ BZ SZ GZ ⊢
   clear z3 t3
   obtain ⟨ca0,fa0⟩:=zAA AZ.out 0 (x:=.int .i64 0) rfl
   have cb0:=(zAA BZ.out 0 (x:=.int .i64 c) rfl).1
   obtain ⟨ca1,fa1⟩:=zAA AZ.out 1 (x:=.int .i64 0) rfl
   have cb1:=(zAA BZ.out 1 (x:=.int .i64 (1+st)) rfl).1
   obtain ⟨ca2,fa2⟩:=zAA AZ.out 2 (x:=.int .i64 0) rfl
   have cb2:=(zAA BZ.out 2 (x:=.int .i64 1) rfl).1
   obtain ⟨ca3,fa3⟩:=zAA AZ.out 3 (x:=.int .i64 0) rfl
   have cb3:=(zAA BZ.out 3 (x:=.int .i64 (1+l)) rfl).1
   obtain ⟨ca4,fa4⟩:=zAA AZ.out 4 (x:=.string ⟨#[]⟩) rfl
   have cb4:=(zAA BZ.out 4 (x:=.string n) rfl).1
   have AF:((((((wz.setCell ⟨w.heap.size,0,none⟩ (.int .i64 c)).setCell ⟨w.heap.size,1,none⟩ (.int .i64 (1+st))).setCell ⟨w.heap.size,2,none⟩ (.int .i64 1)).setCell ⟨w.heap.size,3,none⟩ (.int .i64 (1+l))).setCell ⟨w.heap.size,4,none⟩ (.string n))).heap[w.heap.size]?=some (.cells #[.int .i64 c,.int .i64 (1+st),.int .i64 1,.int .i64 (1+l),.string n] 123 (0,0)):=(zAE (zAE (zAE (zAE (zAE AZ.out 0 (.int .i64 c)) 1 (.int .i64 (1+st))) 2 (.int .i64 1)) 3 (.int .i64 (1+l))) 4 (.string n))
   have GF:Hid (w.grownBy (((((wz.setCell ⟨w.heap.size,0,none⟩ (.int .i64 c)).setCell ⟨w.heap.size,1,none⟩ (.int .i64 (1+st))).setCell ⟨w.heap.size,2,none⟩ (.int .i64 1)).setCell ⟨w.heap.size,3,none⟩ (.int .i64 (1+l))).setCell ⟨w.heap.size,4,none⟩ (.string n)) (some p)):=(zAZ (zAZ (zAZ (zAZ (zAZ GZ.out (Nat.le_refl _) 0 (.int .i64 c)) (Nat.le_refl _) 1 (.int .i64 (1+st))) (Nat.le_refl _) 2 (.int .i64 1)) (Nat.le_refl _) 3 (.int .i64 (1+l))) (Nat.le_refl _) 4 (.string n))
   have SF:Hid (Src B (((((wz.setCell ⟨w.heap.size,0,none⟩ (.int .i64 c)).setCell ⟨w.heap.size,1,none⟩ (.int .i64 (1+st))).setCell ⟨w.heap.size,2,none⟩ (.int .i64 1)).setCell ⟨w.heap.size,3,none⟩ (.int .i64 (1+l))).setCell ⟨w.heap.size,4,none⟩ (.string n)) p xs (K+5)):=(Src.set (Src.set (Src.set (Src.set (Src.set SZ.out (by omega) (by omega) 0 (.int .i64 c)) (by omega) (by omega) 1 (.int .i64 (1+st))) (by omega) (by omega) 2 (.int .i64 1)) (by omega) (by omega) 3 (.int .i64 (1+l))) (by omega) (by omega) 4 (.string n))
   go_wp2_with fail
   generalize (((((wz.setCell ⟨w.heap.size,0,none⟩ (.int .i64 c)).setCell ⟨w.heap.size,1,none⟩ (.int .i64 (1+st))).setCell ⟨w.heap.size,2,none⟩ (.int .i64 1)).setCell ⟨w.heap.size,3,none⟩ (.int .i64 (1+l))).setCell ⟨w.heap.size,4,none⟩ (.string n))=wf at AF GF SF ⊢
   have d0:=(zAA AF 0 (x:=.int .i64 c) rfl).1
   have d1:=(zAA AF 1 (x:=.int .i64 (1+st)) rfl).1
   have d2:=(zAA AF 2 (x:=.int .i64 1) rfl).1
   have d3:=(zAA AF 3 (x:=.int .i64 (1+l)) rfl).1
   have d4:=(zAA AF 4 (x:=.string n) rfl).1
   exact bodyPost_ret (v:=.agg #[.int .i64 c,.int .i64 (1+st),.int .i64 1,.int .i64 (1+l),.string n]) (by simp [results,Tryz.results58,go_sem,d0,d1,d2,d3,d4]) rfl ⟨_,_,_,_,_,rfl,⟨req_ok HC.out HT.out (HL.out l hl) HO.out,by omega⟩,SF.out,GF.out⟩
  ·clear hq
   go_wp2_with fail
   refine (zBD 30 p B (K+4) xs _ S5.out hB (by omega) hx (by decide) (by decide)).mono ?_
   rintro e w6 ⟨l,rfl,hl,s6,g6⟩
   have a6:=zAv A5.out g6 (by omega)
   have b6:=zAv B5.out g6 (by omega)
   obtain ⟨z3,t3⟩:=zAA b6 3 (x:=.int .i64 0) rfl
   have AZ:Hid ((w6.setCell ⟨x,3,none⟩ (.int .i64 (1+l))).heap[w.heap.size]?=some (.cells zreq 123 (0,0))):=(zAB (by omega) 3 _).trans a6
   have BZ:Hid ((w6.setCell ⟨x,3,none⟩ (.int .i64 (1+l))).heap[x]?=some (.cells #[.int .i64 c,.int .i64 (1+st),.int .i64 3,.int .i64 (1+l),.string n] 123 (0,0))):=zAE b6 3 _
   have SZ:Hid (Src B (w6.setCell ⟨x,3,none⟩ (.int .i64 (1+l))) p xs (K+5)):=Src.set s6 (by omega) (by omega) 3 _
   have GZ:Hid (w.grownBy (w6.setCell ⟨x,3,none⟩ (.int .i64 (1+l))) (some p)):=zAZ (zAk G5.out g6) (by omega) 3 _
   clear a6 b6 s6 g6 A5 B5 S5 G5 x2 x3 y3
   go_upto_region 4 with fail
   generalize w6.setCell ⟨x,3,none⟩ (.int .i64 (1+l))=wz at AZ BZ SZ GZ ⊢
   clear z3 t3
   obtain ⟨ca0,fa0⟩:=zAA AZ.out 0 (x:=.int .i64 0) rfl
   have cb0:=(zAA BZ.out 0 (x:=.int .i64 c) rfl).1
   obtain ⟨ca1,fa1⟩:=zAA AZ.out 1 (x:=.int .i64 0) rfl
   have cb1:=(zAA BZ.out 1 (x:=.int .i64 (1+st)) rfl).1
   obtain ⟨ca2,fa2⟩:=zAA AZ.out 2 (x:=.int .i64 0) rfl
   have cb2:=(zAA BZ.out 2 (x:=.int .i64 3) rfl).1
   obtain ⟨ca3,fa3⟩:=zAA AZ.out 3 (x:=.int .i64 0) rfl
   have cb3:=(zAA BZ.out 3 (x:=.int .i64 (1+l)) rfl).1
   obtain ⟨ca4,fa4⟩:=zAA AZ.out 4 (x:=.string ⟨#[]⟩) rfl
   have cb4:=(zAA BZ.out 4 (x:=.string n) rfl).1
   have AF:((((((wz.setCell ⟨w.heap.size,0,none⟩ (.int .i64 c)).setCell ⟨w.heap.size,1,none⟩ (.int .i64 (1+st))).setCell ⟨w.heap.size,2,none⟩ (.int .i64 3)).setCell ⟨w.heap.size,3,none⟩ (.int .i64 (1+l))).setCell ⟨w.heap.size,4,none⟩ (.string n))).heap[w.heap.size]?=some (.cells #[.int .i64 c,.int .i64 (1+st),.int .i64 3,.int .i64 (1+l),.string n] 123 (0,0)):=(zAE (zAE (zAE (zAE (zAE AZ.out 0 (.int .i64 c)) 1 (.int .i64 (1+st))) 2 (.int .i64 3)) 3 (.int .i64 (1+l))) 4 (.string n))
   have GF:Hid (w.grownBy (((((wz.setCell ⟨w.heap.size,0,none⟩ (.int .i64 c)).setCell ⟨w.heap.size,1,none⟩ (.int .i64 (1+st))).setCell ⟨w.heap.size,2,none⟩ (.int .i64 3)).setCell ⟨w.heap.size,3,none⟩ (.int .i64 (1+l))).setCell ⟨w.heap.size,4,none⟩ (.string n)) (some p)):=(zAZ (zAZ (zAZ (zAZ (zAZ GZ.out (Nat.le_refl _) 0 (.int .i64 c)) (Nat.le_refl _) 1 (.int .i64 (1+st))) (Nat.le_refl _) 2 (.int .i64 3)) (Nat.le_refl _) 3 (.int .i64 (1+l))) (Nat.le_refl _) 4 (.string n))
   have SF:Hid (Src B (((((wz.setCell ⟨w.heap.size,0,none⟩ (.int .i64 c)).setCell ⟨w.heap.size,1,none⟩ (.int .i64 (1+st))).setCell ⟨w.heap.size,2,none⟩ (.int .i64 3)).setCell ⟨w.heap.size,3,none⟩ (.int .i64 (1+l))).setCell ⟨w.heap.size,4,none⟩ (.string n)) p xs (K+5)):=(Src.set (Src.set (Src.set (Src.set (Src.set SZ.out (by omega) (by omega) 0 (.int .i64 c)) (by omega) (by omega) 1 (.int .i64 (1+st))) (by omega) (by omega) 2 (.int .i64 3)) (by omega) (by omega) 3 (.int .i64 (1+l))) (by omega) (by omega) 4 (.string n))
   go_wp2_with fail
   generalize (((((wz.setCell ⟨w.heap.size,0,none⟩ (.int .i64 c)).setCell ⟨w.heap.size,1,none⟩ (.int .i64 (1+st))).setCell ⟨w.heap.size,2,none⟩ (.int .i64 3)).setCell ⟨w.heap.size,3,none⟩ (.int .i64 (1+l))).setCell ⟨w.heap.size,4,none⟩ (.string n))=wf at AF GF SF ⊢
   have d0:=(zAA AF 0 (x:=.int .i64 c) rfl).1
   have d1:=(zAA AF 1 (x:=.int .i64 (1+st)) rfl).1
   have d2:=(zAA AF 2 (x:=.int .i64 3) rfl).1
   have d3:=(zAA AF 3 (x:=.int .i64 (1+l)) rfl).1
   have d4:=(zAA AF 4 (x:=.string n) rfl).1
   exact bodyPost_ret (v:=.agg #[.int .i64 c,.int .i64 (1+st),.int .i64 3,.int .i64 (1+l),.string n]) (by simp [results,Tryz.results58,go_sem,d0,d1,d2,d3,d4]) rfl ⟨_,_,_,_,_,rfl,⟨req_ok HC.out HT.out (HL.out l hl) HO.out,by omega⟩,SF.out,GF.out⟩
 ·have HL:Hid (leB kd 0=true):=decide_eq_true (.inr ⟨by omega,rfl⟩)
  have q1:(kd == 1)=false:=by simp;omega
  have q3:(kd == 3)=false:=by simp;omega
  have SZ:Hid (Src B w5 p xs (K+5)):=S5.out.le (by omega)
  clear hle S5
  go_upto_region 4 with fail
  obtain ⟨ca0,fa0⟩:=zAA A5.out 0 (x:=.int .i64 0) rfl
  have cb0:=(zAA B5.out 0 (x:=.int .i64 c) rfl).1
  obtain ⟨ca1,fa1⟩:=zAA A5.out 1 (x:=.int .i64 0) rfl
  have cb1:=(zAA B5.out 1 (x:=.int .i64 (1+st)) rfl).1
  obtain ⟨ca2,fa2⟩:=zAA A5.out 2 (x:=.int .i64 0) rfl
  have cb2:=(zAA B5.out 2 (x:=.int .i64 kd) rfl).1
  obtain ⟨ca3,fa3⟩:=zAA A5.out 3 (x:=.int .i64 0) rfl
  have cb3:=(zAA B5.out 3 (x:=.int .i64 0) rfl).1
  obtain ⟨ca4,fa4⟩:=zAA A5.out 4 (x:=.string ⟨#[]⟩) rfl
  have cb4:=(zAA B5.out 4 (x:=.string n) rfl).1
  have AF:((((((w5.setCell ⟨w.heap.size,0,none⟩ (.int .i64 c)).setCell ⟨w.heap.size,1,none⟩ (.int .i64 (1+st))).setCell ⟨w.heap.size,2,none⟩ (.int .i64 kd)).setCell ⟨w.heap.size,3,none⟩ (.int .i64 0)).setCell ⟨w.heap.size,4,none⟩ (.string n))).heap[w.heap.size]?=some (.cells #[.int .i64 c,.int .i64 (1+st),.int .i64 kd,.int .i64 0,.string n] 123 (0,0)):=(zAE (zAE (zAE (zAE (zAE A5.out 0 (.int .i64 c)) 1 (.int .i64 (1+st))) 2 (.int .i64 kd)) 3 (.int .i64 0)) 4 (.string n))
  have GF:Hid (w.grownBy (((((w5.setCell ⟨w.heap.size,0,none⟩ (.int .i64 c)).setCell ⟨w.heap.size,1,none⟩ (.int .i64 (1+st))).setCell ⟨w.heap.size,2,none⟩ (.int .i64 kd)).setCell ⟨w.heap.size,3,none⟩ (.int .i64 0)).setCell ⟨w.heap.size,4,none⟩ (.string n)) (some p)):=(zAZ (zAZ (zAZ (zAZ (zAZ G5.out (Nat.le_refl _) 0 (.int .i64 c)) (Nat.le_refl _) 1 (.int .i64 (1+st))) (Nat.le_refl _) 2 (.int .i64 kd)) (Nat.le_refl _) 3 (.int .i64 0)) (Nat.le_refl _) 4 (.string n))
  have SF:Hid (Src B (((((w5.setCell ⟨w.heap.size,0,none⟩ (.int .i64 c)).setCell ⟨w.heap.size,1,none⟩ (.int .i64 (1+st))).setCell ⟨w.heap.size,2,none⟩ (.int .i64 kd)).setCell ⟨w.heap.size,3,none⟩ (.int .i64 0)).setCell ⟨w.heap.size,4,none⟩ (.string n)) p xs (K+5)):=(Src.set (Src.set (Src.set (Src.set (Src.set SZ.out (by omega) (by omega) 0 (.int .i64 c)) (by omega) (by omega) 1 (.int .i64 (1+st))) (by omega) (by omega) 2 (.int .i64 kd)) (by omega) (by omega) 3 (.int .i64 0)) (by omega) (by omega) 4 (.string n))
  go_wp2_with fail
  generalize (((((w5.setCell ⟨w.heap.size,0,none⟩ (.int .i64 c)).setCell ⟨w.heap.size,1,none⟩ (.int .i64 (1+st))).setCell ⟨w.heap.size,2,none⟩ (.int .i64 kd)).setCell ⟨w.heap.size,3,none⟩ (.int .i64 0)).setCell ⟨w.heap.size,4,none⟩ (.string n))=wf at AF GF SF ⊢
  have d0:=(zAA AF 0 (x:=.int .i64 c) rfl).1
  have d1:=(zAA AF 1 (x:=.int .i64 (1+st)) rfl).1
  have d2:=(zAA AF 2 (x:=.int .i64 kd) rfl).1
  have d3:=(zAA AF 3 (x:=.int .i64 0) rfl).1
  have d4:=(zAA AF 4 (x:=.string n) rfl).1
  exact bodyPost_ret (v:=.agg #[.int .i64 c,.int .i64 (1+st),.int .i64 kd,.int .i64 0,.string n]) (by simp [results,Tryz.results58,go_sem,d0,d1,d2,d3,d4]) rfl ⟨_,_,_,_,_,rfl,⟨req_ok HC.out HT.out HL.out HO.out,by omega⟩,SF.out,GF.out⟩
set_option maxHeartbeats 800000 in
theorem size_any (p B K:Nat) (xs:List Int) (w:World) (h:Src B w p xs K) (hx:xs.length≤1048600) :
 Calls Tryz.prog 57 #[.pointer (some ⟨p,0,none⟩),.int .i64 24] w fun e w'=>∃ m:Nat,e=.returned (.int .i64 m)∧m≤24∧w=w':=by
 obtain ⟨v,a,s,q1,q2,q3,q4⟩:=h
 obtain ⟨a',cap,rfl,_⟩:=q2
 have c0:=(zAA q1 0 (x:=.slice a' xs.length cap) rfl).1
 have h12:¬ (12:Int)=0:=by decide
 clear q1 q3 q4
 go_enter Tryz.func57,Tryz.ntmps57
 go_wp2_with fail
 go_ret
 refine ⟨min (1+xs.length / 12) 24,?_,by omega,rfl⟩
 rw [show ((min (1+xs.length / 12) 24:Nat):Int)=min (1+(xs.length:Int) / 12) 24 by omega]
 rfl
end Go.Proofs.YtakfniknkejgpaaGreatDoor.Gn
namespace Go.Proofs.YtakfniknkejgpaaGreatDoor.Ea
open Go.RowKit Sl By Ap Tb Tw Wa Tp Da
open Rg (zAA zAE zAD)
def StS (S:Array Value) (j:Int):Prop:=S.size=3∧∀ i,i<3→∃ x:Int,S[i]?=some (.int .i64 x)∧0≤x∧x≤j
theorem StS.mono {S:Array Value} {j k:Int} (h:StS S j) (hk:j≤k):StS S k:=⟨h.1,fun i hi=>by obtain ⟨x,h1,h2,h3⟩:=h.2 i hi;exact ⟨x,h1,h2,by omega⟩⟩
theorem StS.set {S:Array Value} {j x:Int} (h:StS S j) (c:Nat) (h0:0≤x) (hx:x≤j):StS (S.setIfInBounds c (.int .i64 x)) j:=by
 refine ⟨by rw [Array.size_setIfInBounds];exact h.1,fun i hi=>?_⟩
 rw [Array.getElem?_setIfInBounds]
 by_cases e:c=i
 ·subst e
  rw [if_pos rfl,if_pos (by rw [h.1];exact hi)]
  exact ⟨x,rfl,h0,hx⟩
 ·rw [if_neg e];exact h.2 i hi
def AskP (q:Da.Ask):Prop:=AskOK q∧less ⟨#[]⟩ q.nm=true∧q.nm.size≤maxLen
def TimP (t:Int):Prop:=0≤t∧t≤1000000000
theorem ask_of {c st k l:Int} {n:ByteArray} (h:Rq.reqB c st k l n=true) (s:Int) (hs:1≤s∧s≤65535):AskP ⟨k,c,s,n,l⟩:=by
 unfold Rq.reqB at h
 simp only [Bool.and_eq_true] at h
 obtain ⟨h1,h2,h3,h4⟩:=h
 refine ⟨⟨h1,decide_eq_true hs,?_,h4⟩,op_less h4,?_⟩
 ·rcases of_decide_eq_true h3 with ⟨g1,g2,g3⟩ | ⟨g1,g2⟩
  ·exact .inl ⟨g1,decide_eq_true ⟨g2,g3⟩⟩
  ·exact .inr ⟨g1,g2⟩
 ·unfold Rq.opB at h4
  rw [Bool.and_eq_true] at h4
  have:=of_decide_eq_true h4.1
  show n.size≤maxLen
  unfold maxLen;omega
set_option maxRecDepth 100000 in
set_option maxHeartbeats 6400000 in
theorem requests_any (p B:Nat) (xs:List Int) (w:World) (h:Gn.Src B w p xs 0) (hB:B≤p) (hx:xs.length≤1048600) :
 Calls Tryz.prog 30 #[.pointer (some ⟨p,0,none⟩)] w fun e w'=>∃ (v0 v1:Value) (qs:List Da.Ask) (ts:List Int),e=.returned (.tuple #[v0,v1])∧(OwnRq w' w.heap.size v0 qs∧OwnTi w' w.heap.size v1 ts)∧(qs.length=ts.length∧qs.length≤27∧(∀ q ∈ qs,AskP q)∧∀ t ∈ ts,TimP t)∧w.grownBy w' (some p):=by
 have hp:=h.lt
 obtain ⟨iq,hiq,zq0,zq1,zq2⟩:=info_parts infoRq
 obtain ⟨it,hit,zt0,zt1,zt2⟩:=info_parts infoTi
 have S0:StS #[.int .i64 0,.int .i64 0,.int .i64 0] 0:=⟨rfl,fun i hi=>by
  match i,hi with
  | 0,_=>exact ⟨0,rfl,by omega,by omega⟩
  | 1,_=>exact ⟨0,rfl,by omega,by omega⟩
  | 2,_=>exact ⟨0,rfl,by omega,by omega⟩⟩
 have HI0:Hid (RqI B w (((w.alloc (.cells #[] 123)).alloc (.cells #[] 3)).alloc (.cells #[.int .i64 0,.int .i64 0,.int .i64 0] 3)) p xs 0 (w.heap.size+1+1) #[.int .i64 0,.int .i64 0,.int .i64 0] (.slice (some ⟨w.heap.size,0,none⟩) 0 0) (.slice (some ⟨w.heap.size+1,0,none⟩) 0 0) [] []):=by
  have s1:(w.alloc (.cells #[] 123)).heap.size=w.heap.size+1:=by simp
  have s2:((w.alloc (.cells #[] 123)).alloc (.cells #[] 3)).heap.size=w.heap.size+1+1:=by simp
  refine ⟨((h.alloc hB _).alloc hB _).alloc hB _,World.grownBy_alloc _ _ _ |> grown_tr (grown_tr (World.grownBy_alloc _ _ _) (World.grownBy_alloc _ _ _)),hp,hB,((OwnRq.made w w.heap.size (Nat.le_refl _)).alloc _).alloc _,?_,?_,by omega,by intro e;simp [Value.ownBlock] at e⟩
  ·have:=(OwnTi.made (w.alloc (.cells #[] 123)) w.heap.size (by simp)).alloc (.cells #[.int .i64 0,.int .i64 0,.int .i64 0] 3)
   rw [s1] at this
   exact this
  ·have:=zAK ((w.alloc (.cells #[] 123)).alloc (.cells #[] 3)) #[.int .i64 0,.int .i64 0,.int .i64 0] 3
   rw [s2] at this
   exact this
 have HST0:Hid (StS #[.int .i64 0,.int .i64 0,.int .i64 0] 0):=S0
 clear h S0
 go_enter Tryz.func30,Tryz.ntmps30
 go_upto_region 5 with fail
 generalize ((w.alloc (.cells #[] 123)).alloc (.cells #[] 3)).alloc (.cells #[.int .i64 0,.int .i64 0,.int .i64 0] 3)=w0 at HI0 ⊢
 generalize w.heap.size+1+1=g at HI0 ⊢
 generalize (#[.int .i64 0,.int .i64 0,.int .i64 0]:Array Value)=S0 at HI0 HST0
 go_wp2_with fail
 refine (Gn.size_any p B 0 xs _ HI0.out.sr hx).mono ?_
 rintro e w1 ⟨m,rfl,hm,rfl⟩
 have hm4:(m:Int)+4=((m+4:Nat):Int):=by omega
 have HNX:=Gn.zBD (m+4) p B 0 xs w0 HI0.out.sr hB (by omega) hx (by omega) (by omega)
 rw [← hm4] at HNX
 have hmi:(m:Int)≤24:=by omega
 clear hm4
 go_wp2_with fail
 refine HNX.mono ?_
 rintro e w1 ⟨n,rfl,hn,s1,g1⟩
 have HI1:Hid (RqI B w w1 p xs 1 g S0 (.slice (some ⟨w.heap.size,0,none⟩) 0 0) (.slice (some ⟨w.heap.size+1,0,none⟩) 0 0) [] []):=HI0.out.src s1 g1
 have hn27:n≤27:=by omega
 clear s1 g1 HI0 HNX hn hm hmi
 go_wp2_with fail
 go_loopw [4,5,7,8] (fun vq vt nw i wr=>∃ (k j:Nat) (now:Int) (S:Array Value) (qs:List Da.Ask) (ts:List Int),i=.int .i64 (k:Int)∧nw=.int .i64 now∧k+j=n∧Hid (RqI B w wr p xs (1+9 * j) g S vq vt qs ts∧StS S (j:Int))∧Hid ((qs.length=j∧ts.length=j)∧(∀ q ∈ qs,AskP q)∧(∀ t ∈ ts,TimP t))∧(0≤now∧now≤8 * (j:Int))) (fun _ _ _ i _=>(intOf i).toNat)
 case atStart=>exact ⟨n,0,0,S0,[],[],rfl,rfl,rfl,⟨HI1.out,HST0.out⟩,⟨⟨rfl,rfl⟩,(fun q hq=>by cases hq),(fun q hq=>by cases hq)⟩,by omega,by omega⟩
 case round =>
  clear HI1 HST0
  obtain ⟨k,j,now,S,qs,ts,rfl,rfl,hkj,HR,HL,hnow0,hnow1⟩:=hrel
  obtain ⟨aq,cq,rfl⟩:=OwnRq.slice HR.out.1.oq
  obtain ⟨at_,ct,rfl⟩:=OwnTi.slice HR.out.1.ot
  have hj27:(j:Int)≤27:=by omega
  by_cases hk:0<k
  ·have hk':(0:Int)<(k:Int):=by omega
   have HREQ:=Gn.request3_any p B (1+9 * j) xs wr HR.out.1.sr hB (by omega) hx
   go_wp2_with fail
   refine HREQ.mono ?_
   rintro e w2 ⟨c,st,kd,l,nm,rfl,⟨hrb,hc3⟩,s2,g2⟩
   clear HREQ
   have R2:=HR.out.1.src s2 g2
   have N2:=R2.lts
   have HX3:Hid ((w2.alloc (.cells #[.int .i64 (c:Int),.int .i64 st,.int .i64 kd,.int .i64 l,.string nm] 123)).heap[w2.heap.size]?=some (.cells #[.int .i64 (c:Int),.int .i64 st,.int .i64 kd,.int .i64 l,.string nm] 123 (0,0))):=zAK _ _ _
   have HR3:Hid (RqI B w (w2.alloc (.cells #[.int .i64 (c:Int),.int .i64 st,.int .i64 kd,.int .i64 l,.string nm] 123)) p xs (1+9 * j+5) g S (.slice aq qs.length cq) (.slice at_ ts.length ct) qs ts∧StS S (j:Int)):=⟨R2.alloc _,HR.out.2⟩
   have HRB:Hid (Rq.reqB (c:Int) st kd l nm=true):=hrb
   have HN2:Hid (p<w2.heap.size∧g<w2.heap.size∧(∀ b,(Value.slice aq qs.length cq).ownBlock=some b→b<w2.heap.size)∧(∀ b,(Value.slice at_ ts.length ct).ownBlock=some b→b<w2.heap.size)):=⟨N2.1,N2.2.1,fun b hb=>(N2.2.2.1 b hb).2,fun b hb=>(N2.2.2.2.1 b hb).2⟩
   clear hrb s2 g2 R2 N2 HR
   go_upto_region 9 with fail
   generalize w2.alloc (.cells #[.int .i64 (c:Int),.int .i64 st,.int .i64 kd,.int .i64 l,.string nm] 123)=w3 at HX3 HR3 ⊢
   generalize w2.heap.size=x at HX3 HN2 ⊢
   have HCH:=Gn.chance_any 6 p B (1+9 * j+5) xs w3 HR3.out.1.sr hB (by omega) hx (by decide) (by decide)
   go_wp2_with fail
   refine HCH.mono ?_
   rintro e w4 ⟨b,rfl,s4,g4⟩
   clear HCH
   have HX4:Hid (w4.heap[x]?=some (.cells #[.int .i64 (c:Int),.int .i64 st,.int .i64 kd,.int .i64 l,.string nm] 123 (0,0))):=(g4.block x (Array.getElem?_eq_some_iff.1 HX3.out).1 (fun e=>by have:=HN2.out.1;cases e;omega)).trans HX3.out
   have HR4:Hid (RqI B w w4 p xs (1+9 * j+6) g S (.slice aq qs.length cq) (.slice at_ ts.length ct) qs ts∧StS S (j:Int)):=⟨HR3.out.1.src s4 g4,HR3.out.2⟩
   clear s4 g4 HR3 HX3
   have hc0:(0:Int)≤(c:Int):=by omega
   have hc1:(c:Int)<3:=by omega
   cases b with
   | true =>
     have HX5:Hid (w4.heap[x]?=some (.cells #[.int .i64 (c:Int),.int .i64 st,.int .i64 kd,.int .i64 l,.string nm] 123 (0,0))):=HX4.out
     have HR5:Hid (RqI B w w4 p xs (1+9 * j+6) g S (.slice aq qs.length cq) (.slice at_ ts.length ct) qs ts∧StS S ((j:Int)+1)):=⟨HR4.out.1,StS.mono HR4.out.2 (by omega)⟩
     clear HX4 HR4
     go_upto_region 11 with fail
     generalize S=S5 at HR5
     generalize w4=w5 at HX5 HR5 ⊢
     obtain ⟨sv,hs1,hs2,hs3⟩:=HR5.out.2.2 c hc3
     have c5:=(zAA HR5.out.1.sb c (x:=.int .i64 sv) hs1).1
     have x0:=(zAA HX5.out 0 (x:=.int .i64 (c:Int)) rfl).1
     obtain ⟨x1,f1⟩:=zAA HX5.out 1 (x:=.int .i64 st) rfl
     have hl:=HN2.out
     have HX6:Hid ((w5.setCell ⟨x,1,none⟩ (.int .i64 (max 1 sv))).heap[x]?=some (.cells #[.int .i64 (c:Int),.int .i64 (max 1 sv),.int .i64 kd,.int .i64 l,.string nm] 123 (0,0))):=zAE HX5.out 1 _
     have HR6:Hid (RqI B w (w5.setCell ⟨x,1,none⟩ (.int .i64 (max 1 sv))) p xs (1+9 * j+6) g S5 (.slice aq qs.length cq) (.slice at_ ts.length ct) qs ts∧StS S5 ((j:Int)+1)):=⟨HR5.out.1.far hl.1 hl.2.1 hl.2.2.1 hl.2.2.2 1 _,HR5.out.2⟩
     have hmx:1≤max 1 sv∧max 1 sv≤65535:=by omega
     go_upto_region 12 with fail
     generalize w5.setCell ⟨x,1,none⟩ (.int .i64 (max 1 sv))=w6 at HX6 HR6 ⊢
     generalize max 1 sv=sm at HX6 hmx
     clear c5 x0 x1 f1 hs1 hs2 hs3 HX5 HR5 hl
     go_wp2_with fail
     refine (Gn.zBD 9 p B (1+9 * j+6) xs w6 HR6.out.1.sr hB (by omega) hx (by decide) (by decide)).mono ?_
     rintro e w7 ⟨r1,rfl,hr1,s7,g7⟩
     have HX7:Hid (w7.heap[x]?=some (.cells #[.int .i64 (c:Int),.int .i64 sm,.int .i64 kd,.int .i64 l,.string nm] 123 (0,0))):=(g7.block x (Array.getElem?_eq_some_iff.1 HX6.out).1 (fun e=>by have:=HN2.out.1;cases e;omega)).trans HX6.out
     have HR7:Hid (RqI B w w7 p xs (1+9 * j+7) g S5 (.slice aq qs.length cq) (.slice at_ ts.length ct) qs ts∧StS S5 ((j:Int)+1)):=⟨HR6.out.1.src s7 g7,HR6.out.2⟩
     have hr1':(r1:Int)≤8:=by omega
     clear s7 g7 HX6 HR6
     have y0:=(zAA HX7.out 0 (x:=.int .i64 (c:Int)) rfl).1
     have y1:=(zAA HX7.out 1 (x:=.int .i64 sm) rfl).1
     have y2:=(zAA HX7.out 2 (x:=.int .i64 kd) rfl).1
     have y3:=(zAA HX7.out 3 (x:=.int .i64 l) rfl).1
     have y4:=(zAA HX7.out 4 (x:=.string nm) rfl).1
     have hql:qs.length≤1000000:=by have:=HL.out.1.1;omega
     go_wp2_with (at_builtin;go_must (refine listRq (by rfl) _ _ 75 (by rfl) iq Tryz.underlying75 hiq zq0 zq1 zq2 w.heap.size w7 w7 _ qs ⟨kd,c,sm,nm,l⟩ (by rfl) HR7.out.1.oq (Below.refl _ _) HR7.out.1.gr.size _ (by rfl) rfl hql ?_;intro v8 w8 o8 b8 k8;have HR8:Hid (RqI B w w8 p xs (1+9 * j+7) g S5 v8 (.slice at_ ts.length ct) (qs ++ [⟨kd,c,sm,nm,l⟩]) ts∧StS S5 ((j:Int)+1)):=⟨HR7.out.1.addQ o8 b8 (fun k h1 h2=>(k8 k h1 h2).1),HR7.out.2⟩;clear o8 b8 k8 y0 y1 y2 y3 y4 HX7 HR7))
     refine (Gn.zBD 9 p B (1+9 * j+7) xs w8 HR8.out.1.sr hB (by omega) hx (by decide) (by decide)).mono ?_
     rintro e w9 ⟨r2,rfl,hr2,s9,g9⟩
     have HR9:Hid (RqI B w w9 p xs (1+9 * j+8) g S5 v8 (.slice at_ ts.length ct) (qs ++ [⟨kd,c,sm,nm,l⟩]) ts∧StS S5 ((j:Int)+1)):=⟨HR8.out.1.src s9 g9,HR8.out.2⟩
     clear s9 g9 HR8
     go_wp2_with fail
     refine (Gn.zBD 2 p B (1+9 * j+8) xs w9 HR9.out.1.sr hB (by omega) hx (by decide) (by decide)).mono ?_
     rintro e wa ⟨r3,rfl,hr3,sa,ga⟩
     have HRa:Hid (RqI B w wa p xs (1+9 * (j+1)) g S5 v8 (.slice at_ ts.length ct) (qs ++ [⟨kd,c,sm,nm,l⟩]) ts∧StS S5 ((j:Int)+1)):=⟨HR9.out.1.src sa ga,HR9.out.2⟩
     have hpr:0≤(r2:Int) * (r3:Int)∧(r2:Int) * (r3:Int)≤8:=by
      have:r3=0 ∨ r3=1:=by omega
      rcases this with rfl | rfl
      ·simp
      ·simp;omega
     have htm:TimP (max 0 (now+(r1:Int) - (r2:Int) * (r3:Int))):=⟨by omega,by omega⟩
     have htl:ts.length≤1000000:=by have:=HL.out.1.2;omega
     clear sa ga HR9
     go_wp2_with (at_builtin;go_must (refine listTi (by rfl) _ _ 28 (by rfl) it Tryz.underlying28 hit zt0 zt1 zt2 w.heap.size wa wa _ ts (max 0 (now+(r1:Int) - (r2:Int) * (r3:Int))) (by rfl) HRa.out.1.ot (Below.refl _ _) HRa.out.1.gr.size _ (by rfl) rfl htl ?_;intro vb wb ob bb kb;have HRb:Hid (RqI B w wb p xs (1+9 * (j+1)) g S5 v8 vb (qs ++ [⟨kd,c,sm,nm,l⟩]) (ts ++ [max 0 (now+(r1:Int) - (r2:Int) * (r3:Int))])∧StS S5 ((j:Int)+1)):=⟨HRa.out.1.addT ob bb kb,HRa.out.2⟩;clear ob bb kb HRa))
     go_roundw
     case rel =>
      refine ⟨k - 1,j+1,now+(r1:Int),S5,_,_,?_,rfl,by omega,⟨HRb.out.1,by have:=HRb.out.2;rw [show (((j+1:Nat)):Int)=(j:Int)+1 by omega];exact this⟩,⟨⟨by rw [List.length_append,HL.out.1.1];rfl,by rw [List.length_append,HL.out.1.2];rfl⟩,⟨fun q hq=>?_,fun q hq=>?_⟩⟩,by omega,by omega⟩
      ·congr 1;omega
      ·rcases List.mem_append.1 hq with hq | hq
       ·exact HL.out.2.1 q hq
       ·rw [List.mem_singleton.1 hq];exact ask_of HRB.out sm hmx
      ·rcases List.mem_append.1 hq with hq | hq
       ·exact HL.out.2.2 q hq
       ·rw [List.mem_singleton.1 hq];exact htm
     case measure=>simp [intOf];omega
   | false =>
     obtain ⟨s0,hq1,hq2,hq3⟩:=HR4.out.2.2 c hc3
     obtain ⟨c4,f4⟩:=zAA HR4.out.1.sb c (x:=.int .i64 s0) hq1
     have z0:=(zAA HX4.out 0 (x:=.int .i64 (c:Int)) rfl).1
     have HX5:Hid ((w4.setCell ⟨g,c,none⟩ (.int .i64 (s0+1))).heap[x]?=some (.cells #[.int .i64 (c:Int),.int .i64 st,.int .i64 kd,.int .i64 l,.string nm] 123 (0,0))):=(zAB (by have:=HN2.out.2.1;omega) c _).trans HX4.out
     have HR5:Hid (RqI B w (w4.setCell ⟨g,c,none⟩ (.int .i64 (s0+1))) p xs (1+9 * j+6) g (S.setIfInBounds c (.int .i64 (s0+1))) (.slice aq qs.length cq) (.slice at_ ts.length ct) qs ts∧StS (S.setIfInBounds c (.int .i64 (s0+1))) ((j:Int)+1)):=⟨HR4.out.1.stamp c _,StS.set (StS.mono HR4.out.2 (by omega)) c (by omega) (by omega)⟩
     go_upto_region 11 with fail
     generalize w4.setCell ⟨g,c,none⟩ (.int .i64 (s0+1))=w5 at HX5 HR5 ⊢
     generalize S.setIfInBounds c (.int .i64 (s0+1))=S5 at HR5
     clear c4 f4 z0 HX4 HR4 hq1 hq2 hq3
     obtain ⟨sv,hs1,hs2,hs3⟩:=HR5.out.2.2 c hc3
     have c5:=(zAA HR5.out.1.sb c (x:=.int .i64 sv) hs1).1
     have x0:=(zAA HX5.out 0 (x:=.int .i64 (c:Int)) rfl).1
     obtain ⟨x1,f1⟩:=zAA HX5.out 1 (x:=.int .i64 st) rfl
     have hl:=HN2.out
     have HX6:Hid ((w5.setCell ⟨x,1,none⟩ (.int .i64 (max 1 sv))).heap[x]?=some (.cells #[.int .i64 (c:Int),.int .i64 (max 1 sv),.int .i64 kd,.int .i64 l,.string nm] 123 (0,0))):=zAE HX5.out 1 _
     have HR6:Hid (RqI B w (w5.setCell ⟨x,1,none⟩ (.int .i64 (max 1 sv))) p xs (1+9 * j+6) g S5 (.slice aq qs.length cq) (.slice at_ ts.length ct) qs ts∧StS S5 ((j:Int)+1)):=⟨HR5.out.1.far hl.1 hl.2.1 hl.2.2.1 hl.2.2.2 1 _,HR5.out.2⟩
     have hmx:1≤max 1 sv∧max 1 sv≤65535:=by omega
     go_upto_region 12 with fail
     generalize w5.setCell ⟨x,1,none⟩ (.int .i64 (max 1 sv))=w6 at HX6 HR6 ⊢
     generalize max 1 sv=sm at HX6 hmx
     clear c5 x0 x1 f1 hs1 hs2 hs3 HX5 HR5 hl
     go_wp2_with fail
     refine (Gn.zBD 9 p B (1+9 * j+6) xs w6 HR6.out.1.sr hB (by omega) hx (by decide) (by decide)).mono ?_
     rintro e w7 ⟨r1,rfl,hr1,s7,g7⟩
     have HX7:Hid (w7.heap[x]?=some (.cells #[.int .i64 (c:Int),.int .i64 sm,.int .i64 kd,.int .i64 l,.string nm] 123 (0,0))):=(g7.block x (Array.getElem?_eq_some_iff.1 HX6.out).1 (fun e=>by have:=HN2.out.1;cases e;omega)).trans HX6.out
     have HR7:Hid (RqI B w w7 p xs (1+9 * j+7) g S5 (.slice aq qs.length cq) (.slice at_ ts.length ct) qs ts∧StS S5 ((j:Int)+1)):=⟨HR6.out.1.src s7 g7,HR6.out.2⟩
     have hr1':(r1:Int)≤8:=by omega
     clear s7 g7 HX6 HR6
     have y0:=(zAA HX7.out 0 (x:=.int .i64 (c:Int)) rfl).1
     have y1:=(zAA HX7.out 1 (x:=.int .i64 sm) rfl).1
     have y2:=(zAA HX7.out 2 (x:=.int .i64 kd) rfl).1
     have y3:=(zAA HX7.out 3 (x:=.int .i64 l) rfl).1
     have y4:=(zAA HX7.out 4 (x:=.string nm) rfl).1
     have hql:qs.length≤1000000:=by have:=HL.out.1.1;omega
     go_wp2_with (at_builtin;go_must (refine listRq (by rfl) _ _ 75 (by rfl) iq Tryz.underlying75 hiq zq0 zq1 zq2 w.heap.size w7 w7 _ qs ⟨kd,c,sm,nm,l⟩ (by rfl) HR7.out.1.oq (Below.refl _ _) HR7.out.1.gr.size _ (by rfl) rfl hql ?_;intro v8 w8 o8 b8 k8;have HR8:Hid (RqI B w w8 p xs (1+9 * j+7) g S5 v8 (.slice at_ ts.length ct) (qs ++ [⟨kd,c,sm,nm,l⟩]) ts∧StS S5 ((j:Int)+1)):=⟨HR7.out.1.addQ o8 b8 (fun k h1 h2=>(k8 k h1 h2).1),HR7.out.2⟩;clear o8 b8 k8 y0 y1 y2 y3 y4 HX7 HR7))
     refine (Gn.zBD 9 p B (1+9 * j+7) xs w8 HR8.out.1.sr hB (by omega) hx (by decide) (by decide)).mono ?_
     rintro e w9 ⟨r2,rfl,hr2,s9,g9⟩
     have HR9:Hid (RqI B w w9 p xs (1+9 * j+8) g S5 v8 (.slice at_ ts.length ct) (qs ++ [⟨kd,c,sm,nm,l⟩]) ts∧StS S5 ((j:Int)+1)):=⟨HR8.out.1.src s9 g9,HR8.out.2⟩
     clear s9 g9 HR8
     go_wp2_with fail
     refine (Gn.zBD 2 p B (1+9 * j+8) xs w9 HR9.out.1.sr hB (by omega) hx (by decide) (by decide)).mono ?_
     rintro e wa ⟨r3,rfl,hr3,sa,ga⟩
     have HRa:Hid (RqI B w wa p xs (1+9 * (j+1)) g S5 v8 (.slice at_ ts.length ct) (qs ++ [⟨kd,c,sm,nm,l⟩]) ts∧StS S5 ((j:Int)+1)):=⟨HR9.out.1.src sa ga,HR9.out.2⟩
     have hpr:0≤(r2:Int) * (r3:Int)∧(r2:Int) * (r3:Int)≤8:=by
      have:r3=0 ∨ r3=1:=by omega
      rcases this with rfl | rfl
      ·simp
      ·simp;omega
     have htm:TimP (max 0 (now+(r1:Int) - (r2:Int) * (r3:Int))):=⟨by omega,by omega⟩
     have htl:ts.length≤1000000:=by have:=HL.out.1.2;omega
     clear sa ga HR9
     go_wp2_with (at_builtin;go_must (refine listTi (by rfl) _ _ 28 (by rfl) it Tryz.underlying28 hit zt0 zt1 zt2 w.heap.size wa wa _ ts (max 0 (now+(r1:Int) - (r2:Int) * (r3:Int))) (by rfl) HRa.out.1.ot (Below.refl _ _) HRa.out.1.gr.size _ (by rfl) rfl htl ?_;intro vb wb ob bb kb;have HRb:Hid (RqI B w wb p xs (1+9 * (j+1)) g S5 v8 vb (qs ++ [⟨kd,c,sm,nm,l⟩]) (ts ++ [max 0 (now+(r1:Int) - (r2:Int) * (r3:Int))])∧StS S5 ((j:Int)+1)):=⟨HRa.out.1.addT ob bb kb,HRa.out.2⟩;clear ob bb kb HRa))
     go_roundw
     case rel =>
      refine ⟨k - 1,j+1,now+(r1:Int),S5,_,_,?_,rfl,by omega,⟨HRb.out.1,by have:=HRb.out.2;rw [show (((j+1:Nat)):Int)=(j:Int)+1 by omega];exact this⟩,⟨⟨by rw [List.length_append,HL.out.1.1];rfl,by rw [List.length_append,HL.out.1.2];rfl⟩,⟨fun q hq=>?_,fun q hq=>?_⟩⟩,by omega,by omega⟩
      ·congr 1;omega
      ·rcases List.mem_append.1 hq with hq | hq
       ·exact HL.out.2.1 q hq
       ·rw [List.mem_singleton.1 hq];exact ask_of HRB.out sm hmx
      ·rcases List.mem_append.1 hq with hq | hq
       ·exact HL.out.2.2 q hq
       ·rw [List.mem_singleton.1 hq];exact htm
     case measure=>simp [intOf];omega
  ·obtain rfl:k=0:=by omega
   have HF:Hid ((OwnRq wr w.heap.size (.slice aq qs.length cq) qs∧OwnTi wr w.heap.size (.slice at_ ts.length ct) ts)∧(qs.length=ts.length∧qs.length≤27∧(∀ q ∈ qs,AskP q)∧∀ t ∈ ts,TimP t)∧w.grownBy wr (some p)):=⟨⟨HR.out.1.oq,HR.out.1.ot⟩,⟨by rw [HL.out.1.1,HL.out.1.2],by have:=HL.out.1.1;omega,HL.out.2⟩,HR.out.1.gr⟩
   clear HR HL
   go_wp2_with fail
   go_ret2
   exact ⟨_,_,qs,ts,rfl,HF.out⟩
end Go.Proofs.YtakfniknkejgpaaGreatDoor.Ea
namespace Go.Proofs.YtakfniknkejgpaaGreatDoor.Ea
open Go.RowKit Sl By Ap Tb Tw Wa Tp Da
open Lo (LkA uV clL OwnL OwnL.row OwnL.slice zAI zAO Apart)
open Rg (zAA zAE zAD)
open Tb (RowG.slice)
open Rr (zAZ zBP zAk)
theorem rowQ_of {w:World} {B:Nat} {v:Value} {qs:List Da.Ask} {ts:List Int} (h:OwnRq w B v qs) (hl:qs.length=ts.length):RowQ w v (qs.zip ts):=by
 have h0:=h
 obtain ⟨a,cap,rfl⟩:=OwnRq.slice h
 refine ⟨a,cap,by rw [List.length_zip,hl,Nat.min_self],fun i p hp=>?_⟩
 obtain ⟨h1,h2⟩:=List.getElem?_zip_eq_some.1 hp
 obtain ⟨b,_,⟨c,e⟩,hb,hc⟩:=OwnRq.at h0 h1
 injection e with e _ _
 exact ⟨b,0,e,hb,hc 0 _ rfl,hc 1 _ rfl,hc 2 _ rfl,hc 3 _ rfl,hc 4 _ rfl⟩
theorem rowT_of {w:World} {B:Nat} {v:Value} {qs:List Da.Ask} {ts:List Int} (h:OwnTi w B v ts) (hl:qs.length=ts.length):RowT w v (qs.zip ts):=by
 have h0:=h
 obtain ⟨a,cap,rfl⟩:=OwnTi.slice h
 refine ⟨a,cap,by rw [List.length_zip,hl,Nat.min_self],fun i p hp=>?_⟩
 obtain ⟨h1,h2⟩:=List.getElem?_zip_eq_some.1 hp
 obtain ⟨b,_,⟨c,e⟩,hb,hc⟩:=OwnTi.at h0 h2
 injection e with e _ _
 exact ⟨b,0,e,hb,hc⟩
theorem zip_ok {qs:List Da.Ask} {ts:List Int} (h1:∀ q ∈ qs,AskP q) (h2:∀ t ∈ ts,TimP t):∀ p ∈ qs.zip ts,AskOK p.1∧less ⟨#[]⟩ p.1.nm=true∧0≤p.2∧p.2≤1000000000∧p.1.nm.size≤maxLen:=by
 intro p hp
 obtain ⟨g1,g2⟩:=List.of_mem_zip hp
 obtain ⟨a1,a2,a3⟩:=h1 _ g1
 obtain ⟨b1,b2⟩:=h2 _ g2
 exact ⟨a1,a2,b1,b2,a3⟩
theorem far4h {w:World} {b k:Nat} (h:k ≠ b) (x0 x1 x2 x3:Value):((((w.setCell ⟨b,0,none⟩ x0).setCell ⟨b,1,none⟩ x1).setCell ⟨b,2,none⟩ x2).setCell ⟨b,3,none⟩ x3).heap[k]?=w.heap[k]?:=(zAB h 3 x3).trans ((zAB h 2 x2).trans ((zAB h 1 x1).trans (zAB h 0 x0)))
theorem size4h (w:World) (b:Nat) (x0 x1 x2 x3:Value):((((w.setCell ⟨b,0,none⟩ x0).setCell ⟨b,1,none⟩ x1).setCell ⟨b,2,none⟩ x2).setCell ⟨b,3,none⟩ x3).heap.size=w.heap.size:=by simp
def TabOut (n:Nat) (w':World) (e:Ending):Prop:=∃ (T:Tab) (u v:Value),e=.returned (.agg #[.int .i64 T.tm,.int .i64 T.nx,u,v])∧TOK T∧∀ W:World,(∀ k,n≤k→k<w'.heap.size→W.heap[k]?=w'.heap[k]?)→RowL W u T.ls∧RowS W v T.ss
set_option maxRecDepth 100000 in
set_option maxHeartbeats 6400000 in
theorem table_any (p B:Nat) (xs:List Int) (w:World) (h:Gn.Src B w p xs 0) (hB:B≤p) (hx:xs.length≤1048600) :
 Calls Tryz.prog 15 #[.pointer (some ⟨p,0,none⟩)] w fun e w'=>TabOut w.heap.size w' e∧w.grownBy w' (some p):=by
 have hp:=h.lt
 have A0:Hid ((w.alloc (.cells #[.int .i64 0,.int .i64 0,.slice none 0 0,.slice none 0 0] 26)).heap[w.heap.size]?=some (.cells #[.int .i64 0,.int .i64 0,.slice none 0 0,.slice none 0 0] 26 (0,0))∧Gn.Src B (w.alloc (.cells #[.int .i64 0,.int .i64 0,.slice none 0 0,.slice none 0 0] 26)) p xs 0∧w.grownBy (w.alloc (.cells #[.int .i64 0,.int .i64 0,.slice none 0 0,.slice none 0 0] 26)) (some p)):=⟨zAK _ _ _,h.alloc hB _,World.grownBy_alloc _ _ _⟩
 clear h
 go_enter Tryz.func15,Tryz.ntmps15
 go_upto_region 1 with fail
 generalize w.alloc (.cells #[.int .i64 0,.int .i64 0,.slice none 0 0,.slice none 0 0] 26)=wz at A0 ⊢
 go_wp2_with fail
 refine (requests_any p B xs wz A0.out.2.1 hB hx).mono ?_
 rintro e w1 ⟨v0,v1,qs,ts,rfl,⟨o1,o2⟩,⟨hlen,h27,hqs,hts⟩,g1⟩
 have lz:=(Array.getElem?_eq_some_iff.1 A0.out.1).1
 have A1:Hid (w1.heap[w.heap.size]?=some (.cells #[.int .i64 0,.int .i64 0,.slice none 0 0,.slice none 0 0] 26 (0,0))∧w.grownBy w1 (some p)):=⟨(g1.block _ lz (fun e=>by cases e;omega)).trans A0.out.1,grown_tr A0.out.2.2 g1⟩
 have hzl:(qs.zip ts).length≤200:=by rw [List.length_zip];omega
 have HRUN:=specRun_ok (qs.zip ts) v0 v1 w1 (rowQ_of o1 hlen) (rowT_of o2 hlen) hzl (zip_ok hqs hts)
 have HTOK:Hid (TOK (Da.runT (qs.zip ts) (qs.zip ts).length)):=(runT_ok (fun q hq=>⟨(zip_ok hqs hts q hq).1,(zip_ok hqs hts q hq).2.1,(zip_ok hqs hts q hq).2.2.1,(zip_ok hqs hts q hq).2.2.2.1⟩) hzl _ (Nat.le_refl _)).1
 clear o1 o2 hlen h27 hqs hts g1 A0 lz hzl
 generalize Da.runT (qs.zip ts) (qs.zip ts).length=T at HRUN HTOK
 generalize Da.runA (qs.zip ts) (qs.zip ts).length=zs at HRUN
 generalize (qs.zip ts).length=nz at HRUN
 go_wp2_with fail
 refine HRUN.mono ?_
 rintro e w2 ⟨⟨ul,us,va,vc,ps,rfl,o3,o4,o5,e6,ap,oa⟩,b2⟩
 have HO:Hid (∀ W:World,(∀ k,w1.heap.size≤k→k<w2.heap.size→W.heap[k]?=w2.heap[k]?)→RowL W ul T.ls∧RowS W us T.ss):=fun W hW=>by
  have a1:=o3.kept (fun g hg=>hW g (o3.lt g hg).1 (o3.lt g hg).2)
  have r:=a1.row (fun p hp=>((o4 p hp).kept (fun g hg=>hW g ((o4 p hp).lt g hg).1 ((o4 p hp).lt g hg).2)).row)
  rw [e6] at r
  exact ⟨r,OwnS.row (o5.kept (fun g hg=>hW g (o5.lt g hg).1 (o5.lt g hg).2))⟩
 obtain ⟨la,lc,rfl⟩:=OwnL.slice o3
 obtain ⟨sa,sc,rfl⟩:=OwnS.slice o5
 have lz:=(Array.getElem?_eq_some_iff.1 A1.out.1).1
 generalize ps.length=nl at HO ⊢
 generalize T.ss.length=ns at HO ⊢
 have A2:Hid (((w2.alloc (.cells #[.int .i64 T.tm,.int .i64 T.nx,.slice la nl lc,.slice sa ns sc] 26)).heap[w.heap.size]?=some (.cells #[.int .i64 0,.int .i64 0,.slice none 0 0,.slice none 0 0] 26 (0,0))∧(w2.alloc (.cells #[.int .i64 T.tm,.int .i64 T.nx,.slice la nl lc,.slice sa ns sc] 26)).heap[w2.heap.size]?=some (.cells #[.int .i64 T.tm,.int .i64 T.nx,.slice la nl lc,.slice sa ns sc] 26 (0,0)))∧(w.heap.size<w1.heap.size∧(∀ k,k<w2.heap.size→(w2.alloc (.cells #[.int .i64 T.tm,.int .i64 T.nx,.slice la nl lc,.slice sa ns sc] 26)).heap[k]?=w2.heap[k]?)∧w2.heap.size≤(w2.alloc (.cells #[.int .i64 T.tm,.int .i64 T.nx,.slice la nl lc,.slice sa ns sc] 26)).heap.size)∧w.grownBy (w2.alloc (.cells #[.int .i64 T.tm,.int .i64 T.nx,.slice la nl lc,.slice sa ns sc] 26)) (some p)):=by
  have n2:=zAD w2 (.cells #[.int .i64 T.tm,.int .i64 T.nx,.slice la nl lc,.slice sa ns sc] 26)
  have l2:w.heap.size<w2.heap.size:=Nat.lt_of_lt_of_le lz b2.size
  refine ⟨⟨(n2.block _ l2).trans ((b2.block _ lz).trans A1.out.1),zAK _ _ _⟩,⟨lz,(fun k hk=>n2.block k hk),n2.size⟩,?_⟩
  have g2:=(b2.trans (n2.mono b2.size))
  exact grown_tr A1.out.2 ⟨g2.os,g2.tape,g2.output,g2.size,fun k hk _=>g2.block k hk⟩
 clear o3 o4 o5 e6 ap oa HRUN A1
 go_upto_region 3 with fail
 generalize w2.alloc (.cells #[.int .i64 T.tm,.int .i64 T.nx,.slice la nl lc,.slice sa ns sc] 26)=w3 at A2 ⊢
 generalize hxx:w2.heap.size=x at A2 HO ⊢
 clear hxx
 obtain ⟨z0,f0⟩:=zAA A2.out.1.1 0 (x:=(.int .i64 0)) rfl
 obtain ⟨z1,f1⟩:=zAA A2.out.1.1 1 (x:=(.int .i64 0)) rfl
 obtain ⟨z2,f2⟩:=zAA A2.out.1.1 2 (x:=(.slice none 0 0)) rfl
 obtain ⟨z3,f3⟩:=zAA A2.out.1.1 3 (x:=(.slice none 0 0)) rfl
 have x0:=(zAA A2.out.1.2 0 (x:=(.int .i64 T.tm)) rfl).1
 have x1:=(zAA A2.out.1.2 1 (x:=(.int .i64 T.nx)) rfl).1
 have x2:=(zAA A2.out.1.2 2 (x:=(.slice la nl lc)) rfl).1
 have x3:=(zAA A2.out.1.2 3 (x:=(.slice sa ns sc)) rfl).1
 have HF:Hid (((((w3.setCell ⟨w.heap.size,0,none⟩ (.int .i64 T.tm)).setCell ⟨w.heap.size,1,none⟩ (.int .i64 T.nx)).setCell ⟨w.heap.size,2,none⟩ (.slice la nl lc)).setCell ⟨w.heap.size,3,none⟩ (.slice sa ns sc)).heap[w.heap.size]?=some (.cells #[.int .i64 T.tm,.int .i64 T.nx,.slice la nl lc,.slice sa ns sc] 26 (0,0))∧(∀ W:World,(∀ k,w.heap.size≤k→k<((((w3.setCell ⟨w.heap.size,0,none⟩ (.int .i64 T.tm)).setCell ⟨w.heap.size,1,none⟩ (.int .i64 T.nx)).setCell ⟨w.heap.size,2,none⟩ (.slice la nl lc)).setCell ⟨w.heap.size,3,none⟩ (.slice sa ns sc)).heap.size→W.heap[k]?=((((w3.setCell ⟨w.heap.size,0,none⟩ (.int .i64 T.tm)).setCell ⟨w.heap.size,1,none⟩ (.int .i64 T.nx)).setCell ⟨w.heap.size,2,none⟩ (.slice la nl lc)).setCell ⟨w.heap.size,3,none⟩ (.slice sa ns sc)).heap[k]?)→RowL W (.slice la nl lc) T.ls∧RowS W (.slice sa ns sc) T.ss)∧w.grownBy ((((w3.setCell ⟨w.heap.size,0,none⟩ (.int .i64 T.tm)).setCell ⟨w.heap.size,1,none⟩ (.int .i64 T.nx)).setCell ⟨w.heap.size,2,none⟩ (.slice la nl lc)).setCell ⟨w.heap.size,3,none⟩ (.slice sa ns sc)) (some p)):=⟨by
  have:=zAE (zAE (zAE (zAE A2.out.1.1 0 (.int .i64 T.tm)) 1 (.int .i64 T.nx)) 2 (.slice la nl lc)) 3 (.slice sa ns sc)
  simpa only [sA,sB,sC] using this,fun W hW=>HO.out W (fun k h1 h2=>(hW k (by have:=A2.out.2.1.1;omega) (by rw [size4h];exact Nat.lt_of_lt_of_le h2 A2.out.2.1.2.2)).trans ((far4h (by have:=A2.out.2.1.1;omega) _ _ _ _).trans (A2.out.2.1.2.1 k h2))),(zAZ (zAZ (zAZ (zAZ A2.out.2.2 (Nat.le_refl _) 0 (.int .i64 T.tm)) (Nat.le_refl _) 1 (.int .i64 T.nx)) (Nat.le_refl _) 2 (.slice la nl lc)) (Nat.le_refl _) 3 (.slice sa ns sc))⟩
 go_wp2_with fail
 generalize ((((w3.setCell ⟨w.heap.size,0,none⟩ (.int .i64 T.tm)).setCell ⟨w.heap.size,1,none⟩ (.int .i64 T.nx)).setCell ⟨w.heap.size,2,none⟩ (.slice la nl lc)).setCell ⟨w.heap.size,3,none⟩ (.slice sa ns sc))=w4 at HF ⊢
 have d0:=(zAA HF.out.1 0 (x:=(.int .i64 T.tm)) rfl).1
 have d1:=(zAA HF.out.1 1 (x:=(.int .i64 T.nx)) rfl).1
 have d2:=(zAA HF.out.1 2 (x:=(.slice la nl lc)) rfl).1
 have d3:=(zAA HF.out.1 3 (x:=(.slice sa ns sc)) rfl).1
 exact bodyPost_ret (v:=.agg #[.int .i64 T.tm,.int .i64 T.nx,.slice la nl lc,.slice sa ns sc]) (by simp [results,Tryz.results15,go_sem,d0,d1,d2,d3]) rfl ⟨⟨T,_,_,rfl,HTOK.out,HF.out.2.1⟩,HF.out.2.2⟩
set_option maxRecDepth 100000 in
set_option maxHeartbeats 3200000 in
theorem tableOf_any (v:Value) (xs:List Int) (w:World) (h:RowB w v xs) (hx:xs.length≤1048600) :
 Calls Tryz.prog 4 #[v] w fun e w'=>TabOut (w.heap.size+1) w' e∧Below w.heap.size w w':=by
 have A0:Hid ((w.alloc (.cells #[.int .i64 0,.int .i64 0,.slice none 0 0,.slice none 0 0] 26)).heap[w.heap.size]?=some (.cells #[.int .i64 0,.int .i64 0,.slice none 0 0,.slice none 0 0] 26 (0,0))∧(w.alloc (.cells #[.int .i64 0,.int .i64 0,.slice none 0 0,.slice none 0 0] 26)).heap.size=w.heap.size+1∧Below w.heap.size w (w.alloc (.cells #[.int .i64 0,.int .i64 0,.slice none 0 0,.slice none 0 0] 26))):=⟨zAK _ _ _,by simp,zAD _ _⟩
 have HSR:=Gn.source_any v xs (w.alloc (.cells #[.int .i64 0,.int .i64 0,.slice none 0 0,.slice none 0 0] 26)) (h.below (zAD _ _)) hx
 clear h
 go_enter Tryz.func4,Tryz.ntmps4
 go_upto_region 1 with fail
 generalize w.alloc (.cells #[.int .i64 0,.int .i64 0,.slice none 0 0,.slice none 0 0] 26)=wz at A0 HSR ⊢
 rw [A0.out.2.1] at HSR
 go_wp2_with fail
 refine HSR.mono ?_
 rintro e w1 ⟨rfl,s1,b1⟩
 have A1:Hid (w1.heap[w.heap.size]?=some (.cells #[.int .i64 0,.int .i64 0,.slice none 0 0,.slice none 0 0] 26 (0,0))∧w.heap.size+1<w1.heap.size∧Below w.heap.size w w1):=⟨(b1.block _ (by omega)).trans A0.out.1,s1.lt,A0.out.2.2.trans (b1.mono (by omega))⟩
 have HT:=table_any (w.heap.size+1) (w.heap.size+1) xs w1 s1 (Nat.le_refl _) hx
 clear A0 HSR s1 b1
 go_wp2_with fail
 refine HT.mono ?_
 rintro e w2 ⟨⟨T,u,u2,rfl,hT,HRW⟩,g2⟩
 clear HT
 have hrw:=HRW w2 (fun k _ _=>rfl)
 obtain ⟨la,lc,rfl⟩:=RowG.slice hrw.1
 obtain ⟨sa,sc,rfl⟩:=RowG.slice hrw.2
 have HO:Hid ((∀ W:World,(∀ k,w1.heap.size≤k→k<w2.heap.size→W.heap[k]?=w2.heap[k]?)→RowL W (.slice la T.ls.length lc) T.ls∧RowS W (.slice sa T.ss.length sc) T.ss)∧TOK T):=⟨HRW,hT⟩
 have A2:Hid (w2.heap[w.heap.size]?=some (.cells #[.int .i64 0,.int .i64 0,.slice none 0 0,.slice none 0 0] 26 (0,0))∧w.heap.size+1<w1.heap.size∧w.heap.size+1<w2.heap.size∧Below w.heap.size w w2):=⟨(g2.block _ (by have:=A1.out.2.1;omega) (fun e=>by injection e with e;omega)).trans A1.out.1,A1.out.2.1,Nat.lt_of_lt_of_le A1.out.2.1 g2.size,A1.out.2.2.grown g2 (by have:=A1.out.2.1;omega) (fun k e=>by injection e with e;omega)⟩
 clear hrw HRW hT g2 A1
 generalize T.ls.length=nl at HO ⊢
 generalize T.ss.length=ns at HO ⊢
 obtain ⟨z0,f0⟩:=zAA A2.out.1 0 (x:=(.int .i64 0)) rfl
 obtain ⟨z1,f1⟩:=zAA A2.out.1 1 (x:=(.int .i64 0)) rfl
 obtain ⟨z2,f2⟩:=zAA A2.out.1 2 (x:=(.slice none 0 0)) rfl
 obtain ⟨z3,f3⟩:=zAA A2.out.1 3 (x:=(.slice none 0 0)) rfl
 have HF:Hid (((((w2.setCell ⟨w.heap.size,0,none⟩ (.int .i64 T.tm)).setCell ⟨w.heap.size,1,none⟩ (.int .i64 T.nx)).setCell ⟨w.heap.size,2,none⟩ (.slice la nl lc)).setCell ⟨w.heap.size,3,none⟩ (.slice sa ns sc)).heap[w.heap.size]?=some (.cells #[.int .i64 T.tm,.int .i64 T.nx,.slice la nl lc,.slice sa ns sc] 26 (0,0))∧(∀ W:World,(∀ k,w.heap.size+1≤k→k<((((w2.setCell ⟨w.heap.size,0,none⟩ (.int .i64 T.tm)).setCell ⟨w.heap.size,1,none⟩ (.int .i64 T.nx)).setCell ⟨w.heap.size,2,none⟩ (.slice la nl lc)).setCell ⟨w.heap.size,3,none⟩ (.slice sa ns sc)).heap.size→W.heap[k]?=((((w2.setCell ⟨w.heap.size,0,none⟩ (.int .i64 T.tm)).setCell ⟨w.heap.size,1,none⟩ (.int .i64 T.nx)).setCell ⟨w.heap.size,2,none⟩ (.slice la nl lc)).setCell ⟨w.heap.size,3,none⟩ (.slice sa ns sc)).heap[k]?)→RowL W (.slice la nl lc) T.ls∧RowS W (.slice sa ns sc) T.ss)∧Below w.heap.size w ((((w2.setCell ⟨w.heap.size,0,none⟩ (.int .i64 T.tm)).setCell ⟨w.heap.size,1,none⟩ (.int .i64 T.nx)).setCell ⟨w.heap.size,2,none⟩ (.slice la nl lc)).setCell ⟨w.heap.size,3,none⟩ (.slice sa ns sc))):=⟨by
  have:=zAE (zAE (zAE (zAE A2.out.1 0 (.int .i64 T.tm)) 1 (.int .i64 T.nx)) 2 (.slice la nl lc)) 3 (.slice sa ns sc)
  simpa only [sA,sB,sC] using this,fun W hW=>HO.out.1 W (fun k h1 h2=>(hW k (by have:=A2.out.2.1;omega) (by rw [size4h];exact h2)).trans (far4h (by have:=A2.out.2.1;omega) _ _ _ _)),Below.setCell (Below.setCell (Below.setCell (Below.setCell (A2.out.2.2.2) (p:=⟨w.heap.size,0,none⟩) (Nat.le_refl _) (.int .i64 T.tm)) (p:=⟨w.heap.size,1,none⟩) (Nat.le_refl _) (.int .i64 T.nx)) (p:=⟨w.heap.size,2,none⟩) (Nat.le_refl _) (.slice la nl lc)) (p:=⟨w.heap.size,3,none⟩) (Nat.le_refl _) (.slice sa ns sc)⟩
 go_wp2_with fail
 generalize ((((w2.setCell ⟨w.heap.size,0,none⟩ (.int .i64 T.tm)).setCell ⟨w.heap.size,1,none⟩ (.int .i64 T.nx)).setCell ⟨w.heap.size,2,none⟩ (.slice la nl lc)).setCell ⟨w.heap.size,3,none⟩ (.slice sa ns sc))=w4 at HF ⊢
 have d0:=(zAA HF.out.1 0 (x:=(.int .i64 T.tm)) rfl).1
 have d1:=(zAA HF.out.1 1 (x:=(.int .i64 T.nx)) rfl).1
 have d2:=(zAA HF.out.1 2 (x:=(.slice la nl lc)) rfl).1
 have d3:=(zAA HF.out.1 3 (x:=(.slice sa ns sc)) rfl).1
 exact bodyPost_ret (v:=.agg #[.int .i64 T.tm,.int .i64 T.nx,.slice la nl lc,.slice sa ns sc]) (by simp [results,Tryz.results4,go_sem,d0,d1,d2,d3]) rfl ⟨⟨T,_,_,rfl,HO.out.2,HF.out.2.1⟩,HF.out.2.2⟩
end Go.Proofs.YtakfniknkejgpaaGreatDoor.Ea
