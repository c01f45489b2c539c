/- Texts put together: ShaH, Ho, Fz. -/
import Derived.Test.YtakfniknkejgpaaGreatDoorMi8
import Derived.Lib.SlBytesRow
import Derived.Lib.FrozenHead
namespace Go.Proofs.YtakfniknkejgpaaGreatDoor.Sh
open Go.RowKit Sl Me
def zeros32:Array Value:=Array.replicate 32 (.int .u8 0)
theorem zeroB (w:World):Sem.run Tryz.prog (zeroValue 209) w=.ok (.agg zeros32) w:=by kernel_rfl
def OutTo (r:R8) (k:Nat) (A:Array Value):Prop:=A.size=32∧∀ j,j<k→A[j]?=some (.int .u8 (byteOf (at8 r (j / 4)) (j % 4)))
theorem out_step {r:R8} {k:Nat} {A:Array Value} (h:OutTo r k A) (hk:k<32):OutTo r (k+1) (A.setIfInBounds k (.int .u8 (byteOf (at8 r (k / 4)) (k % 4)))):=by
 refine ⟨by rw [Array.size_setIfInBounds];exact h.1,fun j hj=>?_⟩
 rw [Array.getElem?_setIfInBounds]
 by_cases e:k=j
 ·subst e
  rw [if_pos rfl,if_pos (by rw [h.1];exact hk)]
 ·rw [if_neg e]
  exact h.2 j (by omega)
set_option maxRecDepth 100000 in
set_option maxHeartbeats 1600000 in
theorem wordsText_any (r:R8) (w:World) :
 Calls Tryz.prog 121 #[.agg (arr8 r)] w fun e w'=>e=.returned (.string (strOfNums (out r)))∧Below w.heap.size w w':=by
 have hz:∀ w,Sem.run Tryz.prog (zeroValue 209) w=.ok (.agg zeros32) w:=zeroB
 go_enter Tryz.func121,Tryz.ntmps121
 go_wp2_with fail
 clear hz
 go_loopw [5] (fun i wr=>∃ k:Nat,∃ A:Array Value,k≤32∧i=.int .i64 k∧Below w.heap.size w wr∧ArrAt wr w.heap.size 196 (arr8 r)∧ArrAt wr (w.heap.size+1) 209 A∧OutTo r k A) (fun i _=>32 - (intOf i).toNat)
 case atStart=>exact ⟨0,zeros32,by omega,rfl,((Below.refl _ _).alloc (Nat.le_refl _) _).alloc (by simp) _,(zBG w _ _).alloc _,by have:=zBG (w.alloc (.cells (arr8 r) 196)) 209 zeros32;simpa using this,⟨by unfold zeros32;simp,fun j hj=>absurd hj (by omega)⟩⟩
 case round =>
  obtain ⟨k,A,hk,rfl,hbel,hR,hA,hO⟩:=hrel
  by_cases hlt:k<32
  ·obtain ⟨x,hx⟩ : ∃ x,A[k]?=some x:=⟨_,Array.getElem?_eq_getElem (by rw [hO.1];omega)⟩
   have cx:wr.cell? ⟨w.heap.size+1,k,none⟩=some x:=(hA.cell _).trans hx
   have fx:=hA.frozen k
   have cr:wr.cell? ⟨w.heap.size,k / 4,none⟩=some (.int .u32 (nat (at8 r (k / 4)))):=(hR.cell _).trans (zAp r _ (by omega))
   have p0:(0:Int)≤(k:Int) / 4:=by omega
   have p1:(k:Int) / 4<8:=by omega
   have p2:(k:Int)<32:=by omega
   have hO2:=out_step hO hlt
   go_wp2_with fail
   exact ⟨⟨k+1,_,by omega,by go_num,hbel.setCell (p:=⟨w.heap.size+1,k,none⟩) (by simp) _,hR.setCell_other (a:=⟨w.heap.size+1,k,none⟩) (by simp) _,hA.setCell_same _ _,hO2⟩,by simp [intOf];omega⟩
  ·obtain rfl:k=32:=by omega
   have hcv:(convert 22 9 (.slice (some ⟨w.heap.size+1,0,none⟩) 32 32)).run Tryz.prog wr=.ok (.string (strOfNums (out r))) wr:=by
    refine run_convert_bytes_arg _ 22 5 Tryz.underlying22 Tryz.underlying5 (w.heap.size+1) 0 32 32 _ (outTo_length r 8) (fun i hi=>?_) 9 Tryz.underlying9
    rw [Nat.zero_add,hA.cell,hO.2 i hi]
    rw [outTo_at r 8 i hi]
   go_wp2_with fail
   go_ret
   exact ⟨rfl,hbel⟩
def zCO (xs:List Int):ByteArray:=if 65536<xs.length then ⟨#[]⟩ else strOfNums (sha xs)
theorem ret_str {a b:ByteArray} (h:a=b):Ending.returned (.string a)=.returned (.string b):=by rw [h]
theorem size1 (W:World):(Go.sizeOf 5).run Tryz.prog W=.ok 1 W:=by kernel_rfl
theorem slice64 (n b q:Nat) (h:64 * q+64≤n) (W:World) :
 (Instr.slice 22 (.slice (some ⟨b,0,none⟩) n n) (some (.int .i64 (64 * (q:Int)))) (some (.int .i64 (64 * (q:Int)+64))) none).run Tryz.prog W=.ok (.slice (some ⟨b,64 * q,none⟩) 64 (n - 64 * q)) W:=by
 have:=Lib.run_slice_window (P:=Tryz.prog) W 22 5 Tryz.underlying22 size1 b 0 n n (64 * q) (64 * q+64) (by omega) h
 rw [Nat.zero_add,show 64 * q+64 - 64 * q=64 by omega] at this
 rw [← this]
 rfl
theorem cut_row {w:World} {ps:List Int} {b off:Nat} (hb:b<w.heap.size) (hcell:∀ i,i<ps.length→w.cell? ⟨b,off+i,none⟩=some (.int .u8 (nth ps i))) (hr:∀ x ∈ ps,0≤x∧x≤255) (q:Nat) (hq:64 * q+64≤ps.length) (c:Nat) (hc:64≤c) :
 RowB w (.slice (some ⟨b,off+64 * q,none⟩) 64 c) (cut ps q)∧(cut ps q).length=64:=by
 have hl:(cut ps q).length=64:=by unfold cut;rw [List.length_take,List.length_drop];omega
 refine ⟨⟨_,c,by rw [hl],.inr ⟨b,off+64 * q,rfl,by rw [hl];exact hc,hb,fun i hi=>?_⟩,fun x hx=>?_⟩,hl⟩
 ·rw [hl] at hi
  rw [Nat.add_assoc,hcell (64 * q+i) (by omega)]
  unfold nth cut
  rw [List.getD_eq_getElem?_getD,List.getD_eq_getElem?_getD,List.getElem?_take_of_lt hi,List.getElem?_drop]
 ·unfold cut at hx
  exact hr x (List.mem_of_mem_drop (List.mem_of_mem_take hx))
theorem cells8 {w:World} {g:Nat} {T:TypeId} {r:R8} (h:ArrAt w g T (arr8 r)) :
 w.cell? ⟨g,0,none⟩=some (.int .u32 (nat r.a))∧w.cell? ⟨g,1,none⟩=some (.int .u32 (nat r.b))∧w.cell? ⟨g,2,none⟩=some (.int .u32 (nat r.c))∧w.cell? ⟨g,3,none⟩=some (.int .u32 (nat r.d))∧w.cell? ⟨g,4,none⟩=some (.int .u32 (nat r.e))∧w.cell? ⟨g,5,none⟩=some (.int .u32 (nat r.f))∧w.cell? ⟨g,6,none⟩=some (.int .u32 (nat r.g))∧w.cell? ⟨g,7,none⟩=some (.int .u32 (nat r.h)) :=
 ⟨h.cell 0,h.cell 1,h.cell 2,h.cell 3,h.cell 4,h.cell 5,h.cell 6,h.cell 7⟩
theorem store8 {w:World} {g:Nat} {T:TypeId} {r:R8} (h:ArrAt w g T (arr8 r)) (y:R8):Sem.run Tryz.prog (storeCells ⟨g,0,none⟩ (arr8 y).toList) w=.ok () (w.setRow g (arr8 y)):=by
 have:=run_storeCells_from (P:=Tryz.prog) g T (arr8 y).toList 0 (arr8 r) w h rfl (fun v hv=>(Array.all_eq_true_iff_forall_mem.1 (arr8_one y)) v (by simpa using hv))
 simpa using this
set_option maxRecDepth 100000 in
set_option maxHeartbeats 1600000 in
theorem implHash_any (v:Value) (xs:List Int) (w:World) (h:RowB w v xs) (hK:KTab w) (hp:9<w.heap.size) :
 Calls Tryz.prog 99 #[v] w fun e w'=>e=.returned (.string (zCO xs))∧Below w.heap.size w w':=by
 by_cases hb:65536<xs.length
 ·have HE:Hid (zCO xs=⟨#[]⟩):=if_pos hb
  have hb':(65536:Int)<(xs.length:Int):=by omega
  obtain ⟨a,cap,rfl,_,_⟩:=h
  go_enter Tryz.func99,Tryz.ntmps99
  go_wp2
  go_ret
  exact ⟨ret_str HE.out.symm,Below.refl _ _⟩
 have HE:Hid (zCO xs=strOfNums (out (blksTo (pad xs) ((xs.length+72) / 64)))):=if_neg hb
 have hb':(xs.length:Int)≤65536:=by omega
 have h':=h
 obtain ⟨a,cap,rfl,_,_⟩:=h
 have HR:Hid (RowB w (.slice a xs.length cap) xs):=h'
 have GK:Hid (KTab w):=hK
 clear h' hK
 have hz:∀ w,Sem.run Tryz.prog (zeroValue 196) w=.ok (.agg #[.int .u32 0,.int .u32 0,.int .u32 0,.int .u32 0,.int .u32 0,.int .u32 0,.int .u32 0,.int .u32 0]) w:=zero8
 go_enter Tryz.func99,Tryz.ntmps99
 go_wp2_with fail
 refine (padBlocks_any _ xs _ (HR.out.below ((Below.refl _ _).alloc (Nat.le_refl _) _)) (by omega)).mono ?_
 rintro e w1 ⟨PA,rfl,hPA,hPn,b1⟩
 clear hz
 have hW1:ArrAt w1 w.heap.size 196 (arr8 r0):=(zBG w 196 (arr8 r0)).below b1 (by simp)
 have hB1:Below w.heap.size w w1:=((Below.refl _ _).alloc (Nat.le_refl _) _).trans (b1.mono (by simp))
 have hPA1:ArrAt w1 (w.heap.size+1) 5 PA:=by have:=hPA;simpa using this
 have hsz:(w.alloc (.cells #[Value.int IntKind.u32 1779033703,Value.int IntKind.u32 3144134277,Value.int IntKind.u32 1013904242,Value.int IntKind.u32 2773480762,Value.int IntKind.u32 1359893119,Value.int IntKind.u32 2600822924,Value.int IntKind.u32 528734635,Value.int IntKind.u32 1541459225] 196)).heap.size=w.heap.size+1:=by simp
 rw [hsz]
 obtain ⟨Q,hQ⟩ : ∃ Q,Q=(xs.length+72) / 64:=⟨_,rfl⟩
 have HM:Hid ((pad xs).length=64 * Q):=by show (pad xs).length=64 * Q;rw [hQ];exact pad_blocks xs
 rw [← hQ] at HE
 have hQb:Q≤1026:=by omega
 have HN:Hid (∀ j,j<(pad xs).length→PA[j]?=some (.int .u8 (nth (pad xs) j))):=hPn
 have HPR:Hid (∀ x ∈ pad xs,0≤x∧x≤255):=pad_range (by obtain ⟨_,_,_,_,hr⟩:=HR.out;exact hr)
 clear hPA hPn b1 hsz hQ
 generalize pad xs=ps at HE HM HN HPR
 have hM0:(ps.length:Int)≤64 * (Q:Int):=by have:=HM.out;omega
 have hM1:64 * (Q:Int)≤(ps.length:Int):=by have:=HM.out;omega
 go_wp2_with fail
 go_loopw [5] (fun i wr=>∃ q:Nat,q≤Q∧i=.int .i64 (64 * (q:Int))∧Below w.heap.size w wr∧ArrAt wr w.heap.size 196 (arr8 (blksTo ps q))∧ArrAt wr (w.heap.size+1) 5 PA) (fun i _=>64 * Q - (intOf i).toNat)
 case atStart=>exact ⟨0,by omega,rfl,hB1,hW1,hPA1⟩
 case round =>
  clear hW1 hB1 hPA1
  obtain ⟨q,hq,rfl,hbel,hX,hA⟩:=hrel
  have HB:Hid (blksTo ps (q+1)=blk (blksTo ps q) (cut ps q)):=rfl
  by_cases hlt:q<Q
  ·have p0:(0:Int)≤64 * (q:Int):=by omega
   have p1:64 * (q:Int)+64≤(ps.length:Int):=by omega
   have p2:64 * (q:Int)≤64 * (q:Int)+64:=by omega
   generalize blksTo ps q=r at hX HB
   obtain ⟨c0,c1,c2,c3,c4,c5,c6,c7⟩:=cells8 hX
   have HCR:Hid (RowB wr (.slice (some ⟨w.heap.size+1,64 * q,none⟩) 64 (ps.length - 64 * q)) (cut ps q)∧(cut ps q).length=64):=by
    have:=cut_row (w:=wr) (ps:=ps) (b:=w.heap.size+1) (off:=0) hA.lt (fun i hi=>by rw [Nat.zero_add,hA.cell];exact HN.out i hi) HPR.out q (by omega) (ps.length - 64 * q) (by omega)
    rw [Nat.zero_add] at this
    exact this
   have hlw:w.heap.size<wr.heap.size:=hX.lt
   have hsl:=slice64 ps.length (w.heap.size+1) q (by omega)
   have hwr:IntKind.i64.wrap (64 * (q:Int)+64)=64 * (q:Int)+64:=by rw [IntKind.wrap_i64];omega
   go_wp2_with fail
   go_region_with (first
    | (go_at_call 120;go_must (refine (spreadBlock_any _ (cut ps q) _ (by exact HCR.out.1) HCR.out.2).mono ?_;rintro e w2 ⟨A2,rfl,hA2,b2⟩;have X2:ArrAt w2 w.heap.size 196 (arr8 r):=ArrAt.below (w:=wr.drew) hX b2 hlw;have P2:ArrAt w2 (w.heap.size+1) 5 PA:=ArrAt.below (w:=wr.drew) hA b2 hA.lt;have B2:Below w.heap.size w w2:=hbel.drew.trans (Below.mono b2 (Nat.le_of_lt hlw));have K2:Hid (KTab w2):=GK.out.below B2 hp;have HA2:Hid (zCJ (cut ps q) 64 A2):=hA2;clear hA2 b2;obtain ⟨d0,d1,d2,d3,d4,d5,d6,d7⟩:=cells8 X2))
    | (go_at_call 119;go_must (refine (mixBlock_any r A2 (cut ps q) _ HA2.out K2.out (Nat.lt_of_lt_of_le hp B2.size)).mono ?_;rintro e w3 ⟨rfl,b3⟩;have X3:ArrAt w3 w.heap.size 196 (arr8 r):=X2.below b3 X2.lt;have P3:ArrAt w3 (w.heap.size+1) 5 PA:=P2.below b3 P2.lt;have B3:Below w.heap.size w w3:=B2.trans (Below.mono b3 B2.size);clear b3;have st:=store8 X3 (blk r (cut ps q));have s8:=arr8_size (blk r (cut ps q)))))
   all_goals
    have X4:Hid (ArrAt (w3.setRow w.heap.size (arr8 (blk r (cut ps q)))) w.heap.size 196 (arr8 (blksTo ps (q+1)))):=by rw [HB.out];exact X3.setRow_same (arr8 (blk r (cut ps q)))
    have P4:=P3.setRow_other (g':=w.heap.size) (by omega) (arr8 (blk r (cut ps q)))
    have B4:=below_setRow B3 (Nat.le_refl _) (arr8 (blk r (cut ps q)))
    clear st s8 X3 P3 B3 X2 P2 B2 c0 c1 c2 c3 c4 c5 c6 c7 d0 d1 d2 d3 d4 d5 d6 d7 hsl hX hA hbel
    go_wp2
    go_roundw
    case rel=>exact ⟨q+1,by omega,by go_num,B4,X4.out,P4⟩
    case measure=>simp [intOf];omega
  ·obtain rfl:q=Q:=by omega
   clear HB
   generalize blksTo ps q=r at hX HE
   obtain ⟨c0,c1,c2,c3,c4,c5,c6,c7⟩:=cells8 hX
   go_wp2_with (go_at_call 121;refine (wordsText_any r _).mono ?_;rintro e w2 ⟨rfl,b2⟩)
   go_ret
   exact ⟨ret_str HE.out.symm,hbel.trans (b2.mono hbel.size)⟩
end Go.Proofs.YtakfniknkejgpaaGreatDoor.Sh
namespace Go.Proofs.YtakfniknkejgpaaGreatDoor.Ho
open Go.RowKit Sl By Ap Tx Sh
theorem bys_str (xs:List Int) (h:∀ x ∈ xs,0≤x∧x≤255):bys (strOfNums xs)=xs:=by
 unfold bys
 rw [strOfNums_data,List.map_map]
 apply List.ext_getElem?
 intro i
 rw [List.getElem?_map]
 cases hx:xs[i]? with
 | none=>rfl
 | some x =>
   have:=h x (List.mem_of_getElem? hx)
   simp only [Option.map_some,Function.comp_apply]
   congr 1
   rw [UInt8.toNat_ofNat_of_lt' (by unfold UInt8.size;omega)]
   omega
theorem bys_append (a b:ByteArray):bys (a ++ b)=bys a ++ bys b:=by
 unfold bys
 rw [← List.map_append]
 congr 1
def cat (ts:List ByteArray):List Int:=ts.flatMap bys
def catS (ts:List ByteArray):ByteArray:=⟨(ts.flatMap fun t=>t.data.toList).toArray⟩
theorem bys_catS (ts:List ByteArray):bys (catS ts)=cat ts:=by
 unfold bys catS cat
 induction ts with
 | nil=>rfl
 | cons t ts ih=>simp only [List.flatMap_cons,List.map_append] at ih ⊢;rw [ih];rfl
theorem catS_size (ts:List ByteArray):(catS ts).size=(cat ts).length:=by rw [← bys_catS,zAV]
theorem cat_len {n:Nat}:∀ (ts:List ByteArray),(∀ t ∈ ts,t.size=n)→(cat ts).length=n * ts.length
 | [],_=>by simp [cat]
 | t :: ts,h=>by
   have ih:=cat_len ts (fun x hx=>h x (List.mem_cons_of_mem _ hx))
   unfold cat at ih ⊢
   rw [List.flatMap_cons,List.length_append,ih,zAV,h t List.mem_cons_self,List.length_cons,Nat.mul_succ]
   omega
theorem join_nosep:∀ xs:List (List UInt8),Lib.join xs []=xs.flatten
 | []=>rfl
 | x :: r=>by rw [Lib.join_cons];unfold Lib.joinTail;simp
theorem join_any (v:Value) (ts:List ByteArray) (w:World) (h:RowT w v ts) (hne:ts ≠ []) (hl:ts.length≤1000000) (hs:(cat ts).length≤1000000000) :
 Calls Tryz.prog 22 #[v,.string ⟨#[]⟩] w fun e w'=>e=.returned (.string (catS ts))∧Below w.heap.size w w':=by
 obtain ⟨a,cap,rfl,h⟩:=h
 rcases h with h | ⟨b,off,rfl,hc,hb,hcell⟩
 ·exact absurd h hne
 have e:(Lib.join (ts.map (·.data.toList)) (⟨#[]⟩ : ByteArray).data.toList)=ts.flatMap fun t=>t.data.toList:=by
  rw [show (⟨#[]⟩ : ByteArray).data.toList=[] from rfl,join_nosep,List.flatMap_def]
 have hz:(ts.flatMap fun t=>t.data.toList).length≤1000000000:=by
  have h1:=catS_size ts
  have h2:(catS ts).size=(ts.flatMap fun t=>t.data.toList).length:=List.size_toArray
  omega
 have:=Sf.join_laid b off cap ts ⟨#[]⟩ w (fun j x hj=>by
  have hj':j<ts.length:=(List.getElem?_eq_some_iff.1 hj).1
  rw [hcell j hj']
  rw [tnth_at hj'] at hj
  rw [Option.some.inj hj]) hb (by omega) hc (by rw [e];omega)
 rw [e] at this
 exact this
theorem bytes_run (s:ByteArray) (w:World):∃ v' w',(convert 9 22 (.string s)).run Tryz.prog w=.ok v' w'∧RowB w' v' (bys s)∧Below w.heap.size w w':=by
 refine ⟨_,_,Lib.run_convert_string_bytes w 9 22 5 s (u:=.string) Tryz.underlying9 Tryz.underlying22 Tryz.underlying5,⟨_,_,by rw [zAV],.inr ⟨w.heap.size,0,rfl,by rw [zAV];exact grownCap_ge _ _ _ _,by rw [Lib.bytesWorld_size];omega,fun i hi=>?_⟩,bys_range s⟩,?_⟩
 ·rw [zAV] at hi
  rw [Nat.zero_add,Lib.bytesWorld_cell w 5 s i hi]
  unfold nth bys
  have hi':i<s.data.toList.length:=by simpa using hi
  rw [List.getD_eq_getElem?_getD,List.getD_eq_getElem?_getD,List.getElem?_map,List.getElem?_eq_getElem hi']
  rfl
 ·refine ⟨?_,?_,?_,by rw [Lib.bytesWorld_size];omega,fun k hk=>Lib.bytesWorld_at_old w _ s k hk⟩ <;> simp [Lib.bytesWorld,World.freeze,World.alloc,World.drew,-World.alloc_eq,-World.drew_eq]
set_option maxHeartbeats 400000 in
theorem hashOf_any (v:Value) (ts:List ByteArray) (w:World) (h:RowT w v ts) (hne:ts ≠ []) (hl:ts.length≤1000000) (hs:(cat ts).length≤1000000000) (hK:KTab w) (hp:9<w.heap.size) :
 Calls Tryz.prog 81 #[v] w fun e w'=>e=.returned (.string (zCO (cat ts)))∧Below w.heap.size w w':=by
 have HJ:=join_any v ts w h hne hl hs
 have GK:Hid (KTab w):=hK
 clear hK h hl hs hne
 go_enter Tryz.func81,Tryz.ntmps81
 go_wp2_with fail
 refine HJ.mono ?_
 rintro e w1 ⟨rfl,b1⟩
 obtain ⟨v2,w2,hcv,r2,b2⟩:=bytes_run (catS ts) w1
 have R2:Hid (RowB w2 v2 (bys (catS ts))):=r2
 have B2:Hid (Below w.heap.size w w2):=b1.trans (b2.mono b1.size)
 clear r2 b2 b1
 go_wp2_with fail
 refine (implHash_any v2 _ w2 R2.out (GK.out.below B2.out hp) (Nat.lt_of_lt_of_le hp B2.out.size)).mono ?_
 rintro e w3 ⟨rfl,b3⟩
 rw [bys_catS]
 go_wp2_with fail
 go_ret
 exact ⟨rfl,B2.out.trans (b3.mono B2.out.size)⟩
theorem hashOf_lit (W:World) (g n:Nat) (hg:W.heap.size=g) (cs:Array Value) (ts:List ByteArray) (hn:ts.length=n) (hcs:cs=(ts.map Value.string).toArray) (h0:0<n) (hl:n≤1000000) (hs:(cat ts).length≤1000000000) (hK:KTab W) (hp:9<W.heap.size) :
 Calls Tryz.prog 81 #[.slice (some ⟨g,0,none⟩) n n] (W.alloc (.cells cs 9)) fun e w'=>e=.returned (.string (zCO (cat ts)))∧Below W.heap.size W w':=by
 subst hg
 have b0:=zAD W (.cells cs 9)
 refine (hashOf_any _ ts _ (row_lit W 9 ts cs n hn hcs) (fun e=>by rw [e] at hn;simp at hn;omega) (by omega) hs (hK.below b0 hp) (Nat.lt_of_lt_of_le hp b0.size)).mono ?_
 rintro e w' ⟨rfl,b⟩
 exact ⟨rfl,b0.trans (b.mono b0.size)⟩
end Go.Proofs.YtakfniknkejgpaaGreatDoor.Ho
namespace Go.Proofs.YtakfniknkejgpaaGreatDoor.Fz
open Go.RowKit Sl By Ap Tx Ho
theorem nth8 {xs:List Int} {i:Nat} (h:i<xs.length):xs[i]?=some (nth xs i):=by
 unfold nth;rw [List.getD_eq_getElem?_getD,List.getElem?_eq_getElem h];rfl
theorem zAU {xs ys:List Int} (h:∀ x ∈ xs,0≤x∧x≤255) (g:∀ x ∈ ys,0≤x∧x≤255):∀ x ∈ xs ++ ys,0≤x∧x≤255:=by
 intro x hx
 rcases List.mem_append.1 hx with hx | hx
 ·exact h x hx
 ·exact g x hx
end Go.Proofs.YtakfniknkejgpaaGreatDoor.Fz
