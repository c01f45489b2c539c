/- Texts put together: Pv, Xf, Sv. -/
import Derived.Test.YtakfniknkejgpaaGreatDoorMi26
namespace Go.Proofs.YtakfniknkejgpaaGreatDoor.Py
open Go.RowKit Sl By Ap Tx Sh Ho Se Ka Pf Px
noncomputable def pvC (ts:List ByteArray) (i:Int):Int:=if pcC ts=0 then (if inP i 0 ((ts.length:Int) - 1)=true then 0 else 4) else pcC ts
noncomputable def pvL (ts:List ByteArray) (i:Int):List ByteArray:=if pvC ts i=0 then zAr 64 ts i.toNat else []
theorem pv_ok {ts:List ByteArray} {i:Int} (h:pcC ts=0) (hi:inP i 0 ((ts.length:Int) - 1)=true):pvC ts i=0∧pvL ts i=zAr 64 ts i.toNat:=by
 have e:pvC ts i=0:=by unfold pvC;rw [if_pos h,hi];rfl
 exact ⟨e,by unfold pvL;rw [if_pos e]⟩
end Go.Proofs.YtakfniknkejgpaaGreatDoor.Py
namespace Go.Proofs.YtakfniknkejgpaaGreatDoor.Py
open Go.RowKit Sl By Ap Tx Sh Ho Se Ka Pf Px
set_option maxRecDepth 100000 in
theorem join_none (a:Option Addr) (cap:Nat) (w:World) :
 Calls Tryz.prog 22 #[.slice a 0 cap,.string ⟨#[]⟩] w fun e w'=>e=.returned (.string ⟨#[]⟩)∧Below w.heap.size w w':=by
 go_enter Tryz.func22,Tryz.ntmps22
 go_wp2_with fail
 go_ret
 exact ⟨rfl,Below.refl _ _⟩
theorem join_all (v:Value) (ts:List ByteArray) (w:World) (h:RowT w v ts) (hl:ts.length≤1000000) (hs:(cat ts).length≤1000000000) :
 Calls Tryz.prog 22 #[v,.string ⟨#[]⟩] w fun e w'=>e=.returned (.string (catS ts))∧Below w.heap.size w w':=by
 by_cases hne:ts=[]
 ·subst hne
  obtain ⟨a,cap,rfl,_⟩:=h
  exact join_none a cap w
 ·exact join_any v ts w h hne hl hs
theorem zCR:∀ (f:Nat) (ts:List ByteArray) (k:Nat),k<ts.length→ts.length≤f→(∀ t ∈ ts,t.size≤32)→∀ t ∈ zAr f ts k,t.size=32
 | 0,ts,k,h1,h2,_=>by omega
 | f+1,ts,k,h1,h2,hs=>by
   by_cases h:ts.length=1
   ·rw [pathF_one h];simp
   ·obtain ⟨q1,q2,q3⟩:=half_lt (show 2≤ts.length by omega)
    by_cases hk:k<half ts.length
    ·rw [pathF_left h hk]
     intro t ht
     rcases List.mem_append.1 ht with ht | ht
     ·exact zCR f _ k (by rw [List.length_take];omega) (by rw [List.length_take];omega) (fun t ht=>hs t (List.mem_of_mem_take ht)) t ht
     ·simp at ht
      subst ht
      exact zAn f _ (by rw [List.length_drop];omega) (by rw [List.length_drop];omega) (fun t ht=>hs t (List.mem_of_mem_drop ht))
    ·rw [zCd h hk]
     intro t ht
     rcases List.mem_append.1 ht with ht | ht
     ·exact zCR f _ _ (by rw [List.length_drop];omega) (by rw [List.length_drop];omega) (fun t ht=>hs t (List.mem_of_mem_drop ht)) t ht
     ·simp at ht
      subst ht
      exact zAn f _ (by rw [List.length_take];omega) (by rw [List.length_take];omega) (fun t ht=>hs t (List.mem_of_mem_take ht))
def prT (ts:List ByteArray) (k:Nat):ByteArray:=catS (zAr 64 ts k)
def prTo (ts:List ByteArray) (k:Nat):List ByteArray:=(List.range k).map (prT ts)
noncomputable def poL (ts:List ByteArray):List ByteArray:=if pcC ts=0 then prTo ts ts.length else []
theorem prTo_succ (ts:List ByteArray) (k:Nat):prTo ts (k+1)=prTo ts k ++ [prT ts k]:=by unfold prTo;rw [List.range_succ,List.map_append];rfl
theorem prTo_length (ts:List ByteArray) (k:Nat):(prTo ts k).length=k:=by simp [prTo]
theorem path_cat {ts:List ByteArray} (h:PcP ts) {k:Nat} (hk:k<ts.length):(cat (zAr 64 ts k)).length≤2048:=by
 rw [cat_len (n:=32) _ (zCR 64 ts k hk h.1 h.small)]
 have:=zBE 64 ts k
 omega
set_option maxRecDepth 100000 in
set_option maxHeartbeats 1600000 in
theorem implProofsOf_any (v:Value) (ts:List ByteArray) (w:World) (h:RowT w v ts) (hl:ts.length≤1048576) (hK:KTab w) (hp:9<w.heap.size) :
 Calls Tryz.prog 9 #[v] w fun e w'=>∃ u,e=.returned (.tuple #[u,.int .i64 (pcC ts)])∧OwnS w' w.heap.size u (poL ts)∧Below w.heap.size w w':=by
 obtain ⟨i0,hi0,hz0,hz1,hz2⟩:=info_parts info9
 have HF:Hid (Calls Tryz.prog 21 #[v] w fun e w'=>e=.returned (.int .i64 (pcC ts))∧w=w'):=piecesFault_any v ts w h (by unfold maxLen;omega)
 have hrow:=h
 obtain ⟨a,cap,rfl,_⟩:=h
 by_cases h0:pcC ts=0
 ·have HP:=pcC_get h0
  have HE:Hid (pcC ts=0∧poL ts=prTo ts ts.length):=⟨h0,if_pos h0⟩
  have hl64:=HP.1
  have HH:Hid (∀ k W,k<ts.length→Below w.heap.size w W→Calls Tryz.prog 23 #[.slice a ts.length cap,.int .i64 k] W fun e w'=>∃ u,e=.returned u∧RowT w' u (zAr 64 ts k)∧Below W.heap.size W w'):=fun k W hk hW=>(zBp 64 ts k _ W (hrow.below hW) hk HP.1 (by decide) HP.small (hK.below hW hp) (Nat.lt_of_lt_of_le hp hW.size)).mono fun e w' ⟨u,h1,h2,h3⟩=>⟨u,h1,h2.row,h3⟩
  have HJ:Hid (∀ k u W,k<ts.length→RowT W u (zAr 64 ts k)→Calls Tryz.prog 22 #[u,.string ⟨#[]⟩] W fun e w'=>e=.returned (.string (prT ts k))∧Below W.heap.size W w'):=fun k u W hk hu=>join_all u _ W hu (by have:=zBE 64 ts k;omega) (by have:=path_cat HP hk;omega)
  rw [h0] at HF
  clear HP h0 hrow hK hp
  go_enter Tryz.func9,Tryz.ntmps9
  go_wp2_with fail
  refine HF.out.mono ?_
  rintro e w1 ⟨rfl,rfl⟩
  go_wp2_with fail
  go_loopw [5,14] (fun b i wr=>∃ k:Nat,k≤ts.length∧i=.int .i64 k∧Hid (OwnS wr w.heap.size b (prTo ts k)∧Below w.heap.size w wr)) (fun _ i _=>ts.length - (intOf i).toNat)
  case atStart=>exact ⟨0,by omega,rfl,⟨OwnS.nil _ _,Below.refl _ _⟩⟩
  case round =>
   obtain ⟨k,hk,rfl,HZ⟩:=hrel
   obtain ⟨v0,rfl⟩ : ∃ v0,v0=u5:=⟨_,rfl⟩
   by_cases hlt:k<ts.length
   ·have HS:Hid (prTo ts (k+1)=prTo ts k ++ [prT ts k]):=prTo_succ ts k
    have HLN:Hid ((prTo ts k).length≤1000000):=by show _≤_;rw [prTo_length];omega
    go_wp2_with fail
    refine (HH.out k wr hlt HZ.out.2).mono ?_
    rintro e w2 ⟨u,rfl,r2,b2⟩
    have R2:Hid (RowT w2 u (zAr 64 ts k)):=r2
    have B2:Hid (Below w.heap.size w w2∧OwnS w2 w.heap.size v0 (prTo ts k)):=⟨HZ.out.2.trans (b2.mono HZ.out.2.size),OwnS.below HZ.out.1 b2⟩
    clear r2 b2
    go_wp2_with fail
    refine (HJ.out k u w2 hlt R2.out).mono ?_
    rintro e w3 ⟨rfl,b3⟩
    have B3:Hid (Below w.heap.size w w3∧OwnS w3 w.heap.size v0 (prTo ts k)):=⟨B2.out.1.trans (b3.mono B2.out.1.size),OwnS.below B2.out.2 b3⟩
    clear b3 R2 B2
    generalize prT ts k=y at HS
    go_wp2_with (at_builtin;go_must (refine list_texts (by rfl) _ _ 38 (by rfl) i0 Tryz.underlying38 hi0 hz0 hz1 hz2 w.heap.size w w3 _ _ [y] _ 1 rfl rfl (by decide) (by rfl) B3.out.2 B3.out.1 B3.out.1.size (by rfl) HLN.out ?_;intro v5 w5 o5 b5 _ _))
    exact ⟨⟨k+1,by omega,by go_num,by rw [HS.out];exact ⟨o5,b5⟩⟩,by simp [intOf];omega⟩
   ·obtain rfl:k=ts.length:=by omega
    go_wp2_with fail
    go_ret2
    rw [HE.out.1,HE.out.2]
    exact ⟨_,rfl,HZ.out⟩
 ·have HE:Hid (poL ts=[]):=if_neg h0
  have hne:(pcC ts != 0)=true:=by simpa using h0
  generalize pcC ts=c at HF hne
  clear h0 hrow hK hp
  go_enter Tryz.func9,Tryz.ntmps9
  go_wp2_with fail
  refine HF.out.mono ?_
  rintro e w1 ⟨rfl,rfl⟩
  go_wp2_with fail
  go_ret2
  rw [HE.out]
  exact ⟨_,rfl,OwnS.nil _ _,Below.refl _ _⟩
end Go.Proofs.YtakfniknkejgpaaGreatDoor.Py
namespace Go.Proofs.YtakfniknkejgpaaGreatDoor.Sv
open Go.RowKit Sl By Ap Tx
theorem andThen {B:Nat} {W w1 w2:World} (h:Below B W w1) (hB:B≤W.heap.size) (h2:Below w1.heap.size w1 w2):Below B W w2:=h.trans (h2.mono (Nat.le_trans hB h.size))
end Go.Proofs.YtakfniknkejgpaaGreatDoor.Sv
