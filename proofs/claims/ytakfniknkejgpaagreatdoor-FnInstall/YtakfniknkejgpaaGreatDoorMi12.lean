/- Texts put together: Mr, Rm, Xa. -/
import Derived.Test.YtakfniknkejgpaaGreatDoorMi10
import Derived.Test.YtakfniknkejgpaaGreatDoorMi11
import Derived.Deep.RegionHeldLaw
namespace Go.Proofs.YtakfniknkejgpaaGreatDoor.Mr
open Go.RowKit Sl By Ap Tx Sh Ho Fz Pu Fu
def bNK:ByteArray:=⟨#[110,111,100,101,32,107,101,121]⟩
def nsec (id:Nat):ByteArray:=zCO (bys bNK ++ [(id:Int)])
def mac (id:Nat) (xs:List Int):ByteArray:=(zCO (bys (nsec id) ++ xs)).extract 0 8
theorem hash_size (xs:List Int) (h:xs.length≤65536):(zCO xs).size=32:=by
 unfold zCO
 rw [if_neg (by omega),strOfNums_size]
 show (outTo _ 8).length=32
 rw [outTo_length]
theorem nsec_size (id:Nat):(nsec id).size=32:=by
 unfold nsec
 apply hash_size
 rw [List.length_append,zAV]
 have:bNK.size=8:=rfl
 simp only [List.length_cons,List.length_nil]
 omega
theorem nsec_len (id:Nat):(bys (nsec id)).length=32:=by rw [zAV,nsec_size]
theorem zAd (id:Nat) (h:id<256):∀ z ∈ [(id:Int)],0≤z∧z≤255:=by
 intro z hz
 simp at hz
 subst hz
 omega
theorem run_convert_ownF (w:World) (B:Nat) (v:Value) (zs:List Int) (h:OwnF w B v zs):(convert 22 9 v).run Tryz.prog w=.ok (.string (strOfNums zs)) w:=by
 rcases h with h | ⟨g,rfl,hg,hlt,hc⟩
 ·exact By.run_convert_own (P:=Tryz.prog) w B 22 5 9 Tryz.underlying22 Tryz.underlying5 Tryz.underlying9 v zs h
 ·exact run_convert_bytes_arg w 22 5 Tryz.underlying22 Tryz.underlying5 g 0 zs.length zs.length zs rfl (fun i hi=>by rw [Nat.zero_add];exact hc i hi) 9 Tryz.underlying9
theorem conv_one (id:Nat) (W:World):(convert 22 9 (.slice (some ⟨W.heap.size,0,none⟩) 1 1)).run Tryz.prog (W.alloc (.cells #[.int .u8 id] 5))=.ok (.string (strOfNums [(id:Int)])) (W.alloc (.cells #[.int .u8 id] 5)) :=
 By.run_convert_own (P:=Tryz.prog) _ W.heap.size 22 5 9 Tryz.underlying22 Tryz.underlying5 Tryz.underlying9 _ [(id:Int)] (own_lit 5 W W.heap.size [(id:Int)] 1 rfl (Nat.le_refl _) (by decide))
set_option maxRecDepth 100000 in
set_option maxHeartbeats 400000 in
theorem markOf_any (id:Nat) (s:ByteArray) (w:World) (hi:id<256) (hs:s.size≤60000) (hK:KTab w) (hp:9<w.heap.size) :
 Calls Tryz.prog 52 #[.int .i64 id,.string s] w fun e w'=>e=.returned (.string (mac id (bys s)))∧Below w.heap.size w w':=by
 have hcv:=conv_one id
 have w1:((id:Int) % 256)=id:=by omega
 have HE:Hid (zCO (cat [bNK,strOfNums [(id:Int)]])=nsec id):=by
  show _=_
  unfold cat nsec
  simp only [List.flatMap_cons,List.flatMap_nil,List.append_nil]
  rw [bys_str _ (zAd id hi)]
 have HL:Hid ((cat [bNK,strOfNums [(id:Int)]]).length≤1000000000):=by
  show _≤_
  unfold cat
  simp only [List.flatMap_cons,List.flatMap_nil,List.append_nil]
  rw [bys_str _ (zAd id hi),List.length_append,zAV]
  have:bNK.size=8:=rfl
  simp only [List.length_cons,List.length_nil]
  omega
 have HF:Hid (cat [nsec id,s]=bys (nsec id) ++ bys s):=by
  show _=_
  unfold cat
  simp only [List.flatMap_cons,List.flatMap_nil,List.append_nil]
 have HG:Hid ((bys (nsec id) ++ bys s).length≤60032):=by
  show _≤_
  rw [List.length_append,nsec_len,zAV];omega
 have HM:Hid ((zCO (bys (nsec id) ++ bys s)).extract 0 8=mac id (bys s)):=rfl
 have GK:Hid (KTab w):=hK
 clear hK
 generalize strOfNums [(id:Int)]=z at hcv HE HL
 go_enter Tryz.func52,Tryz.ntmps52
 go_wp2_with fail
 refine (hashOf_lit (w.alloc (.cells #[.int .u8 id] 5)) _ 2 (zAN _ _) _ [bNK,z] rfl rfl (by decide) (by decide) HL.out (GK.out.below (zAD _ _) hp) (by rw [zAN];omega)).mono ?_
 rintro e w2 ⟨rfl,b2⟩
 rw [HE.out]
 have B2:Hid (Below w.heap.size w w2):=(zAD w _).trans (b2.mono (by rw [zAN];omega))
 clear b2 hcv HE HL
 generalize nsec id=t at HF HG HM
 go_wp2_with fail
 refine (hashOf_lit w2 _ 2 rfl _ [t,s] rfl rfl (by decide) (by decide) (by rw [HF.out];have:=HG.out;omega) (GK.out.below B2.out hp) (Nat.lt_of_lt_of_le hp B2.out.size)).mono ?_
 rintro e w3 ⟨rfl,b3⟩
 rw [HF.out]
 have B3:Hid (Below w.heap.size w w3):=B2.out.trans (b3.mono B2.out.size)
 have hz:(zCO (bys t ++ bys s)).size=32:=hash_size _ (by have:=HG.out;omega)
 clear b3 HF HG
 generalize zCO (bys t ++ bys s)=q at HM hz
 have hz8:(8:Int)≤(q.size:Int):=by omega
 clear hz
 go_wp2_with fail
 go_ret
 exact ⟨Tx.ret_str HM.out,B3.out⟩
end Go.Proofs.YtakfniknkejgpaaGreatDoor.Mr
namespace Go.Proofs.YtakfniknkejgpaaGreatDoor.Rm
open Go.RowKit Sl By Ap Tx Sh Ho Mr
def inR (n a b:Int):Bool:=decide (a≤n) && decide (n≤b)
theorem zAG {a b:Bool} (h:a=b):Ending.returned (.bool a)=.returned (.bool b):=by rw [h]
theorem inR_nat {n a b:Int} (h:inR n a b=true):a≤n∧n≤b:=by unfold inR at h;simpa using h
theorem zAR (n a b:Int) (w:World):Calls Tryz.prog 33 #[.int .i64 n,.int .i64 a,.int .i64 b] w fun e w'=>e=.returned (.bool (inR n a b))∧w=w':=by
 by_cases h1:a≤n
 ·by_cases h2:n≤b
  ·have HE:Hid (inR n a b=true):=by show _=_;unfold inR;rw [decide_eq_true h1,decide_eq_true h2];rfl
   go_enter Tryz.func33,Tryz.ntmps33
   go_wp2
   go_ret
   exact ⟨zAG HE.out.symm,rfl⟩
  ·have HE:Hid (inR n a b=false):=by show _=_;unfold inR;rw [decide_eq_false h2,Bool.and_false]
   go_enter Tryz.func33,Tryz.ntmps33
   go_wp2
   go_ret
   exact ⟨zAG HE.out.symm,rfl⟩
 ·have HE:Hid (inR n a b=false):=by show _=_;unfold inR;rw [decide_eq_false h1,Bool.false_and]
  go_enter Tryz.func33,Tryz.ntmps33
  go_wp2
  go_ret
  exact ⟨zAG HE.out.symm,rfl⟩
theorem nodeOK_any (n:Int) (w:World):Calls Tryz.prog 28 #[.int .i64 n] w fun e w'=>e=.returned (.bool (inR n 0 6))∧w=w':=by
 go_enter Tryz.func28,Tryz.ntmps28
 go_wp2_with (go_at_call 33;refine (zAR n 0 6 _).mono ?_;rintro e w' ⟨rfl,rfl⟩)
 go_ret
 exact ⟨rfl,rfl⟩
theorem ret_sc {s t:ByteArray} {a b:Int} (h:s=t∧a=b):Ending.returned (.tuple #[.string s,.int .i64 a])=.returned (.tuple #[.string t,.int .i64 b]):=by rw [h.1,h.2]
end Go.Proofs.YtakfniknkejgpaaGreatDoor.Rm
namespace Go.Proofs.YtakfniknkejgpaaGreatDoor.Xv
open Go.RowKit Sl By Ap Tx Sh Ho Fz Pu Fu Mr Rm
def bCp:List Int:=[99,104,101,99,107,112,111,105,110,116]
def cpBs (sq sz:Int) (rt:ByteArray):List Int:=((bCp ++ nums sq 2 2) ++ nums sz 2 2) ++ bys rt
def vmk (id:Nat) (sq sz:Int) (rt:ByteArray):ByteArray:=mac id (cpBs sq sz rt)
def vok (sq sz:Int) (rt:ByteArray):Bool:=inR sq 0 65535 && (inR sz 1 64 && ((rt.size:Int) == 32))
theorem cp_head (sq sz:Int):∀ z ∈ (bCp ++ nums sq 2 2) ++ nums sz 2 2,0≤z∧z≤255:=zAU (zAU (by decide) (zAQ sq 2 2)) (zAQ sz 2 2)
theorem cp_hlen (sq sz:Int):((bCp ++ nums sq 2 2) ++ nums sz 2 2).length=14:=by rw [List.length_append,List.length_append,nums_length,nums_length];rfl
theorem vok_size {sq sz:Int} {rt:ByteArray} (h:vok sq sz rt=true):rt.size=32∧(1≤sz∧sz≤64)∧0≤sq∧sq≤65535:=by
 unfold vok at h
 rw [Bool.and_eq_true,Bool.and_eq_true] at h
 obtain ⟨h1,h2,h3⟩:=h
 have:=inR_nat h1
 have:=inR_nat h2
 simp at h3
 omega
theorem zCV (sq sz:Int) (rt:ByteArray) (vr:Value) (w:World) :
 Calls Tryz.prog 24 #[.agg #[.int .i64 sq,.int .i64 sz,.string rt,vr]] w fun e w'=>e=.returned (.bool (vok sq sz rt))∧Below w.heap.size w w':=by
 have HB:Hid (∀ o,Below w.heap.size w (w.alloc o)):=fun o=>zAD w o
 cases h1:inR sq 0 65535 with
 | false =>
   have HE:Hid (vok sq sz rt=false):=by show _=_;unfold vok;rw [h1];rfl
   go_enter Tryz.func24,Tryz.ntmps24
   go_wp2_with (first | (go_at_call 33;refine (zAR _ _ _ _).mono ?_;rintro e w1 ⟨rfl,rfl⟩;first | rw [h1] | rw [h2]))
   go_ret
   exact ⟨zAG HE.out.symm,HB.out _⟩
 | true =>
   cases h2:inR sz 1 64 with
   | false =>
     have HE:Hid (vok sq sz rt=false):=by show _=_;unfold vok;rw [h1,h2];rfl
     go_enter Tryz.func24,Tryz.ntmps24
     go_wp2_with (first | (go_at_call 33;refine (zAR _ _ _ _).mono ?_;rintro e w1 ⟨rfl,rfl⟩;first | rw [h1] | rw [h2]))
     go_ret
     exact ⟨zAG HE.out.symm,HB.out _⟩
   | true =>
     have HE:Hid (vok sq sz rt=((rt.size:Int) == 32)):=by show _=_;unfold vok;rw [h1,h2];rfl
     go_enter Tryz.func24,Tryz.ntmps24
     go_wp2_with (first | (go_at_call 33;refine (zAR _ _ _ _).mono ?_;rintro e w1 ⟨rfl,rfl⟩;first | rw [h1] | rw [h2]))
     go_ret
     exact ⟨zAG HE.out.symm,HB.out _⟩
theorem cp_mac (id:Nat) (sq sz:Int) (rt:ByteArray):mac id (bys (strOfNums ((bCp ++ nums sq 2 2) ++ nums sz 2 2) ++ rt))=vmk id sq sz rt:=by
 unfold vmk cpBs
 rw [bys_append,bys_str _ (cp_head sq sz)]
set_option maxRecDepth 100000 in
set_option maxHeartbeats 800000 in
theorem voteMark_any (id:Nat) (sq sz:Int) (rt:ByteArray) (vr:Value) (w:World) (hi:id<256) (hs:rt.size≤1000) (hK:KTab w) (hp:9<w.heap.size) :
 Calls Tryz.prog 27 #[.int .i64 id,.agg #[.int .i64 sq,.int .i64 sz,.string rt,vr]] w fun e w'=>e=.returned (.string (vmk id sq sz rt))∧Below w.heap.size w w':=by
 have HX:Hid (∀ W,Below (w.alloc (.cells #[.int .i64 sq,.int .i64 sz,.string rt,vr] 33)).heap.size (w.alloc (.cells #[.int .i64 sq,.int .i64 sz,.string rt,vr] 33)) W→(W.cell? ⟨w.heap.size,0,none⟩=some (.int .i64 sq)∧W.cell? ⟨w.heap.size,1,none⟩=some (.int .i64 sz)∧W.cell? ⟨w.heap.size,2,none⟩=some (.string rt))∧Below w.heap.size w W):=fun W hW=>by
  have h1:=(hW.block w.heap.size (by simp)).trans (heap_alloc_new w _)
  exact ⟨⟨(zAA h1 0 rfl).1,(zAA h1 1 rfl).1,(zAA h1 2 rfl).1⟩,(zAD w _).trans (hW.mono (by simp))⟩
 have HSZ:Hid (w.heap.size<(w.alloc (.cells #[.int .i64 sq,.int .i64 sz,.string rt,vr] 33)).heap.size):=by show _<_;simp
 have HE:=cp_mac id sq sz rt
 have HZ:(strOfNums ((bCp ++ nums sq 2 2) ++ nums sz 2 2)).size=14:=by rw [strOfNums_size,cp_hlen]
 have GK:Hid (KTab w∧9<w.heap.size):=⟨hK,hp⟩
 clear hK hp
 go_enter Tryz.func27,Tryz.ntmps27
 go_upto_region 1 with fail
 generalize w.alloc (.cells #[.int .i64 sq,.int .i64 sz,.string rt,vr] 33)=wb at HX HSZ ⊢
 have HO:Hid (OwnF (wb.alloc (.cells #[.int .u8 99,.int .u8 104,.int .u8 101,.int .u8 99,.int .u8 107,.int .u8 112,.int .u8 111,.int .u8 105,.int .u8 110,.int .u8 116] 5 (10,11))) wb.heap.size (.slice (some ⟨wb.heap.size,0,none⟩) 10 10) bCp):=full_lit wb bCp 10 rfl _ rfl _
 have hk0:=Lib.run_convert_bytes_const (P:=Tryz.prog) wb 22 5 #[.int .u8 99,.int .u8 104,.int .u8 101,.int .u8 99,.int .u8 107,.int .u8 112,.int .u8 111,.int .u8 105,.int .u8 110,.int .u8 116] 10 10 Tryz.underlying22 Tryz.underlying5
 have HB:Hid (Below wb.heap.size wb (wb.alloc (.cells #[.int .u8 99,.int .u8 104,.int .u8 101,.int .u8 99,.int .u8 107,.int .u8 112,.int .u8 111,.int .u8 105,.int .u8 110,.int .u8 116] 5 (10,11)))):=zAD _ _
 obtain ⟨⟨c0,c1,c2⟩,_⟩:=HX.out _ HB.out
 obtain ⟨⟨d0,d1,d2⟩,_⟩:=HX.out _ (Below.refl _ _)
 go_wp2_with fail
 clear hk0
 refine (putNumberF_any _ bCp sq 2 wb.heap.size _ HO.out HB.out.size (by decide) (by decide)).mono ?_
 rintro e w2 ⟨v2,rfl,o2,k2⟩
 have B2:Hid (Below wb.heap.size wb w2):=HB.out.trans k2
 have O2:Hid (OwnF w2 wb.heap.size v2 (bCp ++ nums sq 2 2)):=o2
 clear o2 k2 HO HB c0 c1 c2 d0 d1 d2
 obtain ⟨⟨c0,c1,c2⟩,_⟩:=HX.out _ B2.out
 go_wp2_with fail
 refine (putNumberF_any _ _ sz 2 wb.heap.size _ O2.out B2.out.size (by decide) (by rw [List.length_append,nums_length];decide)).mono ?_
 rintro e w3 ⟨v3,rfl,o3,k3⟩
 have hcv:=run_convert_ownF w3 wb.heap.size v3 _ o3
 have B3:Hid (Below wb.heap.size wb w3):=B2.out.trans k3
 clear o3 k3 O2 B2 c0 c1 c2
 obtain ⟨⟨c0,c1,c2⟩,g3⟩:=HX.out _ B3.out
 have G3:Hid (Below w.heap.size w w3):=g3
 clear g3 c0 c1
 generalize strOfNums ((bCp ++ nums sq 2 2) ++ nums sz 2 2)=z at hcv HE HZ
 have hA:¬ 9223372036854775807<z.size+rt.size:=by omega
 have HZ2:Hid (z.size=14∧rt.size≤1000):=⟨HZ,hs⟩
 have HEE:Hid (mac id (bys (z ++ rt))=vmk id sq sz rt):=HE
 clear HE HZ hs
 go_wp2_with fail
 refine (markOf_any id (z ++ rt) w3 hi (by rw [ByteArray.size_append];have:=HZ2.out;omega) (GK.out.1.below G3.out GK.out.2) (Nat.lt_of_lt_of_le GK.out.2 G3.out.size)).mono ?_
 rintro e w4 ⟨rfl,b4⟩
 rw [HEE.out]
 go_wp2_with fail
 go_ret
 exact ⟨rfl,G3.out.trans (b4.mono G3.out.size)⟩
end Go.Proofs.YtakfniknkejgpaaGreatDoor.Xv
