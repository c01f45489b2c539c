/- Texts put together: Pq8, Pr9, Xp. -/
import Derived.Test.YtakfniknkejgpaaGreatDoorMi20
namespace Go.Proofs.YtakfniknkejgpaaGreatDoor.Pw
open Go.RowKit Sl By Ap Tx Sh Ho Se Ka Pf Px Py
theorem upF_size:∀ (f:Nat) (h:ByteArray) (k n:Nat) (ps:List ByteArray),k<n→n≤f→h.size=32→(∀ p ∈ ps,p.size=32)→ps.length=szP f k n→(upF f h k n ps).size=32
 | 0,h,k,n,ps,h1,h2,_,_,_=>by omega
 | f+1,h,k,n,ps,h1,h2,hh,hs,hz=>by
   by_cases hone:n=1
   ·rw [upF_one hone];exact hh
   ·obtain ⟨q1,q2,_⟩:=half_lt (show 2≤n by omega)
    by_cases hk:k<half n
    ·rw [szP_left hone hk] at hz
     rw [upF_left hone hk]
     have a1:=upF_size f h k (half n) (ps.take (ps.length - 1)) hk (by omega) hh (fun p hp=>hs p (List.mem_of_mem_take hp)) (by rw [List.length_take];omega)
     have a2:=hs _ (zBr (show ps.length - 1<ps.length by omega))
     exact node_size _ _ (by omega) (by omega)
    ·rw [zCU hone hk] at hz
     rw [upF_right hone hk]
     have a1:=upF_size f h (k - half n) (n - half n) (ps.take (ps.length - 1)) (by omega) (by omega) hh (fun p hp=>hs p (List.mem_of_mem_take hp)) (by rw [List.length_take];omega)
     have a2:=hs _ (zBr (show ps.length - 1<ps.length by omega))
     exact node_size _ _ (by omega) (by omega)
set_option maxRecDepth 100000 in
set_option maxHeartbeats 3200000 in
theorem zCF:∀ (f:Nat) (h:ByteArray) (k n:Nat) (ps:List ByteArray) (v:Value) (w:World),RowT w v ps→k<n→n≤f→f≤64→h.size=32→(∀ p ∈ ps,p.size=32)→ps.length=szP f k n→KTab w→9<w.heap.size →
 Calls Tryz.prog 102 #[.string h,.int .i64 k,.int .i64 n,v] w fun e w'=>e=.returned (.string (upF f h k n ps))∧Below w.heap.size w w'
 | 0,h,k,n,ps,v,w,_,h1,h2,_,_,_,_,_,_=>by omega
 | f+1,h,k,n,ps,v,w,hr,h1,h2,hf,hh,hs,hz,hK,hp=>by
   have HR:Hid (RowT w v ps):=hr
   obtain ⟨a,cap,rfl,hrow⟩:=hr
   by_cases hone:n=1
   ·have HE:Hid (upF (f+1) h k n ps=h):=upF_one hone
    rw [HE.out]
    subst hone
    clear HE h2 hf hh hs hz hK hp HR hrow
    go_enter Tryz.func102,Tryz.ntmps102
    go_wp2_with fail
    go_ret
    exact ⟨rfl,Below.refl _ _⟩
   ·obtain ⟨q1,q2,q3⟩:=half_lt (show 2≤n by omega)
    have HF:Hid (Calls Tryz.prog 47 #[.int .i64 n] w fun e w'=>e=.returned (.int .i64 (half n))∧w=w'):=forkOf_any n w (by omega) (by omega)
    have hn1:((n:Int) == 1)=false:=by rw [beq_eq_false_iff_ne];omega
    have hpos:1≤ps.length:=by
     by_cases hk:k<half n
     ·rw [szP_left hone hk] at hz;omega
     ·rw [zCU hone hk] at hz;omega
    have hcap:=rowT_cap HR.out hpos
    have hle:ps.length≤64:=by have:=szP_le (f+1) k n;omega
    have a2:=hs _ (zBr (show ps.length - 1<ps.length by omega))
    rcases hrow with hrow | ⟨b,off,rfl,hc,hb,hcell⟩
    ·rw [hrow] at hpos;exact absurd hpos (by simp)
    have hcl:=hcell (ps.length - 1) (by omega)
    have G0:Hid (Below w.heap.size w w.drew):=(Below.refl _ _).drew
    by_cases hk:k<half n
    ·have HE:Hid (upF (f+1) h k n ps=node (upF f h k (half n) (ps.take (ps.length - 1))) (tnth ps (ps.length - 1))):=upF_left hone hk
     have hz2:(ps.take (ps.length - 1)).length=szP f k (half n):=by rw [szP_left hone hk] at hz;rw [List.length_take];omega
     have HU:Hid (∀ W,Below w.heap.size w W→Calls Tryz.prog 102 #[.string h,.int .i64 k,.int .i64 (half n),.slice (some ⟨b,off,none⟩) (ps.length - 1) cap] W fun e w'=>e=.returned (.string (upF f h k (half n) (ps.take (ps.length - 1))))∧Below w.heap.size w w'):=fun W hW =>
      (zCF f h k (half n) (ps.take (ps.length - 1)) _ W ((rowT_take HR.out (by omega)).below hW) hk (by omega) (by omega) hh (fun p hp=>hs p (List.mem_of_mem_take hp)) hz2 (hK.below hW hp) (Nat.lt_of_lt_of_le hp hW.size)).mono fun e w' ⟨h1,h2⟩=>⟨h1,hW.trans (h2.mono hW.size)⟩
     have a1:=upF_size f h k (half n) (ps.take (ps.length - 1)) hk (by omega) hh (fun p hp=>hs p (List.mem_of_mem_take hp)) hz2
     obtain ⟨q,hq⟩ : ∃ q,ps.length=q+1:=⟨ps.length - 1,by omega⟩
     rw [show ps.length - 1=q by omega] at HE HU a1 a2 hcl
     rw [hq] at hc hle hcap ⊢
     have HCL:Hid (∀ W,Below w.heap.size w W→W.cell? ⟨b,off+q,none⟩=some (.string (tnth ps q))):=fun W hW=>(hW.cell (p:=⟨b,off+q,none⟩) hb).trans hcl
     generalize tnth ps q=l at HE HCL hcl a2
     generalize upF f h k (half n) (ps.take q)=r at HE HU a1
     have HN:Hid (∀ W,Below w.heap.size w W→Calls Tryz.prog 75 #[.string r,.string l] W fun e w'=>e=.returned (.string (node r l))∧Below w.heap.size w w'):=fun W hW =>
      (nodeOf_any r l W (by omega) (by omega) (hK.below hW hp) (Nat.lt_of_lt_of_le hp hW.size)).mono fun e w' ⟨h1,h2⟩=>⟨h1,hW.trans (h2.mono hW.size)⟩
     rw [HE.out]
     have cd:w.drew.cell? ⟨b,off+q,none⟩=some (.string l):=HCL.out _ G0.out
     clear HE hz hz2 hs hh hK HR hcell a1 a2 hq hone hpos hf h2
     generalize half n=m at q1 q2 q3 HF HU hk
     have p0:(k:Int)<(m:Int):=by omega
     have p1:(q:Int)≤(cap:Int):=by omega
     have p2:(q:Int)+1≤(cap:Int):=by omega
     have p3:(q:Int)<64:=by omega
     have p5:(q:Int)<(q:Int)+1:=by omega
     go_enter Tryz.func102,Tryz.ntmps102
     go_wp2_with (first | (go_at_call 47;refine HF.out.mono ?_;rintro e w1 ⟨rfl,rfl⟩) | fail)
     go_region_law (first
      | (go_simp;go_at_call 75;refine (HN.out _ g3).mono ?_;rintro e w4 ⟨rfl,g4⟩;try go_simp)
      | (go_simp;go_at_call 102;refine (HU.out _ G0.out).mono ?_;rintro e w3 ⟨rfl,g3⟩;have c3:=HCL.out _ g3;try go_simp))
     all_goals
      go_wp2_with fail
      go_ret
      exact ⟨rfl,g4⟩
    ·have HE:Hid (upF (f+1) h k n ps=node (tnth ps (ps.length - 1)) (upF f h (k - half n) (n - half n) (ps.take (ps.length - 1)))):=upF_right hone hk
     have hz2:(ps.take (ps.length - 1)).length=szP f (k - half n) (n - half n):=by rw [zCU hone hk] at hz;rw [List.length_take];omega
     have HU:Hid (∀ W,Below w.heap.size w W→Calls Tryz.prog 102 #[.string h,.int .i64 ((k:Int) - (half n:Int)),.int .i64 ((n:Int) - (half n:Int)),.slice (some ⟨b,off,none⟩) (ps.length - 1) cap] W fun e w'=>e=.returned (.string (upF f h (k - half n) (n - half n) (ps.take (ps.length - 1))))∧Below w.heap.size w w'):=fun W hW=>by
      have:=(zCF f h (k - half n) (n - half n) (ps.take (ps.length - 1)) _ W ((rowT_take HR.out (by omega)).below hW) (by omega) (by omega) (by omega) hh (fun p hp=>hs p (List.mem_of_mem_take hp)) hz2 (hK.below hW hp) (Nat.lt_of_lt_of_le hp hW.size)).mono (R':=fun e w'=>e=.returned (.string (upF f h (k - half n) (n - half n) (ps.take (ps.length - 1))))∧Below w.heap.size w w') fun e w' ⟨h1,h2⟩=>⟨h1,hW.trans (h2.mono hW.size)⟩
      rwa [show ((k - half n:Nat):Int)=(k:Int) - (half n:Int) by omega,show ((n - half n:Nat):Int)=(n:Int) - (half n:Int) by omega] at this
     have a1:=upF_size f h (k - half n) (n - half n) (ps.take (ps.length - 1)) (by omega) (by omega) hh (fun p hp=>hs p (List.mem_of_mem_take hp)) hz2
     obtain ⟨q,hq⟩ : ∃ q,ps.length=q+1:=⟨ps.length - 1,by omega⟩
     rw [show ps.length - 1=q by omega] at HE HU a1 a2 hcl
     rw [hq] at hc hle hcap ⊢
     have HCL:Hid (∀ W,Below w.heap.size w W→W.cell? ⟨b,off+q,none⟩=some (.string (tnth ps q))):=fun W hW=>(hW.cell (p:=⟨b,off+q,none⟩) hb).trans hcl
     generalize tnth ps q=l at HE HCL hcl a2
     generalize upF f h (k - half n) (n - half n) (ps.take q)=r at HE HU a1
     have HN:Hid (∀ W,Below w.heap.size w W→Calls Tryz.prog 75 #[.string l,.string r] W fun e w'=>e=.returned (.string (node l r))∧Below w.heap.size w w'):=fun W hW =>
      (nodeOf_any l r W (by omega) (by omega) (hK.below hW hp) (Nat.lt_of_lt_of_le hp hW.size)).mono fun e w' ⟨h1,h2⟩=>⟨h1,hW.trans (h2.mono hW.size)⟩
     rw [HE.out]
     have cd:w.drew.cell? ⟨b,off+q,none⟩=some (.string l):=HCL.out _ G0.out
     clear HE hz hz2 hs hh hK HR hcell a1 a2 hq hone hpos
     generalize half n=m at q1 q2 q3 HF HU hk
     have p0:¬ (k:Int)<(m:Int):=by omega
     have p1:(q:Int)≤(cap:Int):=by omega
     have p2:(q:Int)+1≤(cap:Int):=by omega
     have p3:(q:Int)<64:=by omega
     have p5:(q:Int)<(q:Int)+1:=by omega
     have u1:IntKind.i64.wrap ((k:Int) - (m:Int))=(k:Int) - (m:Int):=by rw [IntKind.wrap_i64];omega
     have u2:IntKind.i64.wrap ((n:Int) - (m:Int))=(n:Int) - (m:Int):=by rw [IntKind.wrap_i64];omega
     clear h2 hf
     go_enter Tryz.func102,Tryz.ntmps102
     go_wp2_with (first | (go_at_call 47;refine HF.out.mono ?_;rintro e w1 ⟨rfl,rfl⟩) | fail)
     go_region_law (first
      | (go_simp;go_at_call 75;refine (HN.out _ g3).mono ?_;rintro e w4 ⟨rfl,g4⟩;try go_simp)
      | (go_simp;go_at_call 102;refine (HU.out _ G0.out).mono ?_;rintro e w3 ⟨rfl,g3⟩;have c3:=HCL.out _ g3;try go_simp))
     all_goals
      go_wp2_with fail
      go_ret
      exact ⟨rfl,g4⟩
end Go.Proofs.YtakfniknkejgpaaGreatDoor.Pw
namespace Go.Proofs.YtakfniknkejgpaaGreatDoor.Pw
open Go.RowKit Sl By Ap Tx Sh Ho Se Ka Pf Px Py
theorem toList_ne {a b:ByteArray} (h:a ≠ b):(a.toList == b.toList)=false:=by
 rw [beq_eq_false_iff_ne]
 intro e
 apply h
 rw [Lib.toList_data,Lib.toList_data] at e
 exact ByteArray.ext (Array.toList_inj.1 e)
theorem toList_eq {a b:ByteArray} (h:a=b):(a.toList == b.toList)=true:=by rw [h];simp
theorem inP_get {n a b:Int} (h:inP n a b=true):a≤n∧n≤b:=by
 unfold inP at h
 rw [Bool.and_eq_true,decide_eq_true_eq,decide_eq_true_eq] at h
 exact h
def haP (ts:List ByteArray):Bool:=ts.all (fun t=>decide (t.size=32))
theorem ha_yes {ts:List ByteArray} (h:∀ j,j<ts.length→(tnth ts j).size=32):haP ts=true:=by
 unfold haP
 rw [List.all_eq_true]
 intro t ht
 obtain ⟨i,hi,rfl⟩:=List.getElem_of_mem ht
 have:=h i hi
 rw [decide_eq_true_eq]
 have e:tnth ts i=ts[i]:=by unfold tnth;rw [List.getD_eq_getElem?_getD,List.getElem?_eq_getElem hi];rfl
 rw [← e];exact this
theorem ha_bad {ts:List ByteArray} {k:Nat} (hk:k<ts.length) (h:(tnth ts k).size ≠ 32):haP ts=false:=by
 unfold haP
 rw [List.all_eq_false]
 exact ⟨tnth ts k,zBr hk,by simpa using h⟩
theorem ha_get {ts:List ByteArray} (h:haP ts=true):∀ t ∈ ts,t.size=32:=by
 unfold haP at h
 rw [List.all_eq_true] at h
 exact fun t ht=>of_decide_eq_true (h t ht)
set_option maxRecDepth 100000 in
set_option maxHeartbeats 400000 in
theorem allHashes_any (v:Value) (ts:List ByteArray) (w:World) (h:RowT w v ts) (hl:ts.length≤1048576) :
 Calls Tryz.prog 100 #[v] w fun e w'=>e=.returned (.bool (haP ts))∧w=w':=by
 obtain ⟨a,cap,rfl,h⟩:=h
 go_enter Tryz.func100,Tryz.ntmps100
 go_wp2_with fail
 go_loop [7] (fun i=>∃ k:Nat,k≤ts.length∧i=.int .i64 k∧Hid (∀ j,j<k→(tnth ts j).size=32)) (fun i=>ts.length - (intOf i).toNat)
 case atStart=>exact ⟨0,by omega,rfl,fun j hj=>absurd hj (by omega)⟩
 case round =>
  obtain ⟨k,hk,rfl,HI⟩:=hrel
  by_cases hlt:k<ts.length
  ·rcases h with h | ⟨b,off,rfl,hc,hb,hcell⟩
   ·exact absurd hlt (by rw [h];simp)
   have c1:=hcell k hlt
   have hp1:(k:Int)<(ts.length:Int):=by omega
   by_cases h32:(tnth ts k).size=32
   ·have HJ:Hid (∀ j,j<k+1→(tnth ts j).size=32):=fun j hj=>by
     by_cases e:j=k
     ·subst e;exact h32
     ·exact HI.out j (by omega)
    have h32':(((tnth ts k).size:Int) != 32)=false:=by simp;omega
    clear hcell h32
    generalize tnth ts k=t at c1 h32'
    go_wp2_with fail
    go_round
    case rel=>exact ⟨k+1,by omega,by go_num,HJ⟩
    case measure=>simp [intOf];omega
   ·have HE:Hid (haP ts=false):=ha_bad hlt h32
    have h32':(((tnth ts k).size:Int) != 32)=true:=by simp;omega
    clear hcell h32
    generalize tnth ts k=t at c1 h32'
    go_wp2_with fail
    go_ret
    exact ⟨retB HE.out.symm,rfl⟩
  ·obtain rfl:k=ts.length:=by omega
   have HE:Hid (haP ts=true):=ha_yes HI.out
   go_wp2_with fail
   go_ret
   exact ⟨retB HE.out.symm,rfl⟩
open Classical in
noncomputable def ckC (root piece:ByteArray) (i n:Int) (ps:List ByteArray):Int :=
 if 65536<root.size ∨ 65536<piece.size ∨ 4096<ps.length then 2
 else if root.size ≠ 32 ∨ haP ps=false ∨ 32<piece.size then 1
 else if inP n 1 64=true∧inP i 0 (n - 1)=true then
  (if ps.length=szP 64 i.toNat n.toNat then (if upF 64 (leaf piece) i.toNat n.toNat ps=root then 0 else 11) else 10)
 else 4
section
variable {root piece:ByteArray} {i n:Int} {ps:List ByteArray}
theorem ck_long (h:65536<root.size ∨ 65536<piece.size ∨ 4096<ps.length):ckC root piece i n ps=2:=if_pos h
theorem ck_bad (h0:¬ (65536<root.size ∨ 65536<piece.size ∨ 4096<ps.length)) (h:root.size ≠ 32 ∨ haP ps=false ∨ 32<piece.size):ckC root piece i n ps=1:=by unfold ckC;rw [if_neg h0,if_pos h]
theorem ck_range (h0:¬ (65536<root.size ∨ 65536<piece.size ∨ 4096<ps.length)) (h1:¬ (root.size ≠ 32 ∨ haP ps=false ∨ 32<piece.size)) (h:¬ (inP n 1 64=true∧inP i 0 (n - 1)=true)):ckC root piece i n ps=4:=by unfold ckC;rw [if_neg h0,if_neg h1,if_neg h]
theorem ck_proof (h0:¬ (65536<root.size ∨ 65536<piece.size ∨ 4096<ps.length)) (h1:¬ (root.size ≠ 32 ∨ haP ps=false ∨ 32<piece.size)) (h2:inP n 1 64=true∧inP i 0 (n - 1)=true) (h:ps.length ≠ szP 64 i.toNat n.toNat):ckC root piece i n ps=10:=by unfold ckC;rw [if_neg h0,if_neg h1,if_pos h2,if_neg h]
theorem ck_root (h0:¬ (65536<root.size ∨ 65536<piece.size ∨ 4096<ps.length)) (h1:¬ (root.size ≠ 32 ∨ haP ps=false ∨ 32<piece.size)) (h2:inP n 1 64=true∧inP i 0 (n - 1)=true) (h3:ps.length=szP 64 i.toNat n.toNat) (h:upF 64 (leaf piece) i.toNat n.toNat ps ≠ root):ckC root piece i n ps=11:=by unfold ckC;rw [if_neg h0,if_neg h1,if_pos h2,if_pos h3,if_neg h]
theorem ck_ok (h0:¬ (65536<root.size ∨ 65536<piece.size ∨ 4096<ps.length)) (h1:¬ (root.size ≠ 32 ∨ haP ps=false ∨ 32<piece.size)) (h2:inP n 1 64=true∧inP i 0 (n - 1)=true) (h3:ps.length=szP 64 i.toNat n.toNat) (h:upF 64 (leaf piece) i.toNat n.toNat ps=root):ckC root piece i n ps=0:=by unfold ckC;rw [if_neg h0,if_neg h1,if_pos h2,if_pos h3,if_pos h]
end
set_option maxRecDepth 100000 in
set_option maxHeartbeats 3200000 in
theorem zBV (root piece:ByteArray) (i n:Int) (v:Value) (ps:List ByteArray) (w:World) (h:RowT w v ps) (hl:ps.length≤1048576) (hK:KTab w) (hp:9<w.heap.size) :
 Calls Tryz.prog 83 #[.string root,.string piece,.int .i64 i,.int .i64 n,v] w fun e w'=>e=.returned (.int .i64 (ckC root piece i n ps))∧Below w.heap.size w w':=by
 have HA:Hid (Calls Tryz.prog 100 #[v] w fun e w'=>e=.returned (.bool (haP ps))∧w=w'):=allHashes_any v ps w h hl
 have hrow:=h
 obtain ⟨a,cap,rfl,_⟩:=h
 by_cases c1:65536<root.size
 ·have HE:Hid (ckC root piece i n ps=2):=ck_long (.inl c1)
  have c1':(65536:Int)<(root.size:Int):=by omega
  clear hrow hK HA
  go_enter Tryz.func83,Tryz.ntmps83
  go_wp2_with fail
  go_ret
  exact ⟨retI HE.out.symm,Below.refl _ _⟩
 have c1':¬ (65536:Int)<(root.size:Int):=by omega
 by_cases c2:65536<piece.size
 ·have HE:Hid (ckC root piece i n ps=2):=ck_long (.inr (.inl c2))
  have c2':(65536:Int)<(piece.size:Int):=by omega
  clear hrow hK HA
  go_enter Tryz.func83,Tryz.ntmps83
  go_wp2_with fail
  go_ret
  exact ⟨retI HE.out.symm,Below.refl _ _⟩
 have c2':¬ (65536:Int)<(piece.size:Int):=by omega
 by_cases c3:4096<ps.length
 ·have HE:Hid (ckC root piece i n ps=2):=ck_long (.inr (.inr c3))
  have c3':(4096:Int)<(ps.length:Int):=by omega
  clear hrow hK HA
  go_enter Tryz.func83,Tryz.ntmps83
  go_wp2_with fail
  go_ret
  exact ⟨retI HE.out.symm,Below.refl _ _⟩
 have c3':¬ (4096:Int)<(ps.length:Int):=by omega
 have h0:¬ (65536<root.size ∨ 65536<piece.size ∨ 4096<ps.length):=by omega
 by_cases d1:root.size=32
 case neg =>
  have HE:Hid (ckC root piece i n ps=1):=ck_bad h0 (.inl d1)
  have d1':((root.size:Int) != 32)=true:=by simp;omega
  clear hrow hK HA h0 c1 c2 c3 d1
  go_enter Tryz.func83,Tryz.ntmps83
  go_wp2_with fail
  go_ret
  exact ⟨retI HE.out.symm,Below.refl _ _⟩
 have d1':((root.size:Int) != 32)=false:=by simp;omega
 cases d2:haP ps
 case false =>
  have HE:Hid (ckC root piece i n ps=1):=ck_bad h0 (.inr (.inl d2))
  rw [d2] at HA
  clear hrow hK h0 c1 c2 c3 d1 d2
  go_enter Tryz.func83,Tryz.ntmps83
  go_wp2_with (first | (go_at_call 100;refine HA.out.mono ?_;rintro e w1 ⟨rfl,rfl⟩) | fail)
  go_ret
  exact ⟨retI HE.out.symm,Below.refl _ _⟩
 rw [d2] at HA
 by_cases d3:32<piece.size
 ·have HE:Hid (ckC root piece i n ps=1):=ck_bad h0 (.inr (.inr d3))
  have d3':(32:Int)<(piece.size:Int):=by omega
  clear hrow hK h0 c1 c2 c3 d1 d2
  go_enter Tryz.func83,Tryz.ntmps83
  go_wp2_with (first | (go_at_call 100;refine HA.out.mono ?_;rintro e w1 ⟨rfl,rfl⟩) | fail)
  go_ret
  exact ⟨retI HE.out.symm,Below.refl _ _⟩
 have d3':¬ (32:Int)<(piece.size:Int):=by omega
 have h1:¬ (root.size ≠ 32 ∨ haP ps=false ∨ 32<piece.size):=by
  rintro (h | h | h)
  ·exact h d1
  ·rw [d2] at h;cases h
  ·exact d3 h
 have HI1:Hid (∀ W,Calls Tryz.prog 33 #[.int .i64 n,.int .i64 1,.int .i64 64] W fun e w'=>e=.returned (.bool (inP n 1 64))∧W=w'):=fun W=>zAR _ _ _ W
 cases e1:inP n 1 64
 case false =>
  have HE:Hid (ckC root piece i n ps=4):=ck_range h0 h1 (by rw [e1];rintro ⟨h,_⟩;cases h)
  rw [e1] at HI1
  clear hrow hK h0 h1 c1 c2 c3 d1 d2 d3 e1
  go_enter Tryz.func83,Tryz.ntmps83
  go_wp2_with (first | (go_at_call 100;refine HA.out.mono ?_;rintro e w1 ⟨rfl,rfl⟩) | (go_at_call 33;refine (HI1.out _).mono ?_;rintro e w1 ⟨rfl,rfl⟩) | fail)
  go_ret
  exact ⟨retI HE.out.symm,Below.refl _ _⟩
 rw [e1] at HI1
 obtain ⟨n1,n2⟩:=inP_get e1
 have hwr:IntKind.i64.wrap (n - 1)=n - 1:=by rw [IntKind.wrap_i64];omega
 have hwr2:wrap64 (n - 1)=n - 1:=by unfold wrap64;omega
 have HI2:Hid (∀ W,Calls Tryz.prog 33 #[.int .i64 i,.int .i64 0,.int .i64 (n - 1)] W fun e w'=>e=.returned (.bool (inP i 0 (n - 1)))∧W=w'):=fun W=>zAR _ _ _ W
 cases e2:inP i 0 (n - 1)
 case false =>
  have HE:Hid (ckC root piece i n ps=4):=ck_range h0 h1 (by rw [e2];rintro ⟨_,h⟩;cases h)
  rw [e2] at HI2
  clear hrow hK h0 h1 c1 c2 c3 d1 d2 d3 e1 e2
  go_enter Tryz.func83,Tryz.ntmps83
  go_wp2_with (first | (go_at_call 100;refine HA.out.mono ?_;rintro e w1 ⟨rfl,rfl⟩) | (go_at_call 33;(with_reducible refine (HI1.out _).mono ?_);rintro e w1 ⟨rfl,rfl⟩) | (go_at_call 33;(with_reducible refine (HI2.out _).mono ?_);rintro e w1 ⟨rfl,rfl⟩) | fail)
  go_ret
  exact ⟨retI HE.out.symm,Below.refl _ _⟩
 rw [e2] at HI2
 obtain ⟨i1,i2⟩:=inP_get e2
 obtain ⟨k,rfl⟩ : ∃ k:Nat,i=(k:Int):=⟨i.toNat,by omega⟩
 obtain ⟨m,rfl⟩ : ∃ m:Nat,n=(m:Int):=⟨n.toNat,by omega⟩
 have HZP:Hid (∀ W,Calls Tryz.prog 101 #[.int .i64 k,.int .i64 m] W fun e w'=>e=.returned (.int .i64 (szP 64 k m))∧W=w'):=fun W=>zCe 64 k m W (by omega) (by omega) (by decide)
 have hall:=ha_get d2
 by_cases f1:ps.length=szP 64 k m
 case neg =>
  have HE:Hid (ckC root piece k m ps=10):=ck_proof h0 h1 ⟨e1,e2⟩ f1
  have f1':((ps.length:Int) != (szP 64 k m:Int))=true:=by rw [bne_iff_ne];omega
  generalize szP 64 k m=z at HZP f1'
  clear hrow hK h0 h1 c1 c2 c3 d1 d2 d3 e1 e2 hall f1
  go_enter Tryz.func83,Tryz.ntmps83
  go_wp2_with (first | (go_at_call 100;refine HA.out.mono ?_;rintro e w1 ⟨rfl,rfl⟩) | (go_at_call 33;(with_reducible refine (HI1.out _).mono ?_);rintro e w1 ⟨rfl,rfl⟩) | (go_at_call 33;(with_reducible refine (HI2.out _).mono ?_);rintro e w1 ⟨rfl,rfl⟩) | (go_at_call 101;refine (HZP.out _).mono ?_;rintro e w1 ⟨rfl,rfl⟩) | fail)
  go_ret
  exact ⟨retI HE.out.symm,Below.refl _ _⟩
 have f1':((ps.length:Int) != (szP 64 k m:Int))=false:=by rw [bne_eq_false_iff_eq];omega
 have HPR:Hid (Calls Tryz.prog 74 #[.string piece] w fun e w'=>e=.returned (.string (leaf piece))∧Below w.heap.size w w'):=pieceRoot_any piece w (by omega) hK hp
 have HUP:Hid (∀ W,Below w.heap.size w W→Calls Tryz.prog 102 #[.string (leaf piece),.int .i64 k,.int .i64 m,.slice a ps.length cap] W fun e w'=>e=.returned (.string (upF 64 (leaf piece) k m ps))∧Below W.heap.size W w'):=fun W hW =>
  zCF 64 (leaf piece) k m ps _ W (hrow.below hW) (by omega) (by omega) (by decide) (leaf_size _ (by omega)) hall f1 (hK.below hW hp) (Nat.lt_of_lt_of_le hp hW.size)
 have HCK:Hid (ckC root piece k m ps=if (upF 64 (leaf piece) k m ps).toList == root.toList then 0 else 11):=by
  show _=_
  by_cases hq:upF 64 (leaf piece) k m ps=root
  ·rw [ck_ok h0 h1 ⟨e1,e2⟩ f1 hq,toList_eq hq];rfl
  ·rw [ck_root h0 h1 ⟨e1,e2⟩ f1 hq,toList_ne hq];rfl
 generalize upF 64 (leaf piece) k m ps=x at HUP HCK
 generalize szP 64 k m=z at HZP f1' f1
 generalize leaf piece=lf at HPR HUP
 clear hrow hK h0 h1 c1 c2 c3 d1 d2 d3 e1 e2 hall f1
 go_enter Tryz.func83,Tryz.ntmps83
 go_wp2_with (first | (go_at_call 100;refine HA.out.mono ?_;rintro e w1 ⟨rfl,rfl⟩) | (go_at_call 33;(with_reducible refine (HI1.out _).mono ?_);rintro e w1 ⟨rfl,rfl⟩) | (go_at_call 33;(with_reducible refine (HI2.out _).mono ?_);rintro e w1 ⟨rfl,rfl⟩) | (go_at_call 101;refine (HZP.out _).mono ?_;rintro e w1 ⟨rfl,rfl⟩) | fail)
 refine HPR.out.mono ?_
 rintro e w2 ⟨rfl,b2⟩
 go_wp2_with fail
 refine (HUP.out w2 b2).mono ?_
 rintro e w3 ⟨rfl,b3⟩
 have B3:=b2.trans (b3.mono b2.size)
 clear b2 b3
 cases hq:x.toList == root.toList
 case false =>
  rw [hq] at HCK
  go_wp2_with fail
  go_ret
  exact ⟨retI HCK.out.symm,B3⟩
 case true =>
  rw [hq] at HCK
  go_wp2_with fail
  go_ret
  exact ⟨retI HCK.out.symm,B3⟩
end Go.Proofs.YtakfniknkejgpaaGreatDoor.Pw
namespace Go.Proofs.YtakfniknkejgpaaGreatDoor.Xp
open Go.RowKit Sl By Ap Tx Sh Ho Pf Er
def hsh (s:ByteArray) (k:Nat):ByteArray:=s.extract (32 * k) (32 * k+32)
def hsTo (s:ByteArray) (k:Nat):List ByteArray:=(List.range k).map (hsh s)
def chk (s:ByteArray):List ByteArray:=hsTo s (s.size / 32)
theorem hsTo_succ (s:ByteArray) (k:Nat):hsTo s (k+1)=hsTo s k ++ [hsh s k]:=by unfold hsTo;rw [List.range_succ,List.map_append];rfl
theorem hsTo_len (s:ByteArray) (k:Nat):(hsTo s k).length=k:=by simp [hsTo]
theorem ext_two (s:ByteArray) (a b c d:Nat):(s.extract a b).extract c d=s.extract (a+c) (min (a+d) b):=ByteArray.extract_extract ..
theorem tail_size (s:ByteArray) (k:Nat) (h:32 * k≤s.size):(s.extract (32 * k) s.size).size=s.size - 32 * k:=by rw [ByteArray.size_extract];omega
theorem empty_of {p:ByteArray} (h:p.size=0):p=⟨#[]⟩:=by
 cases p with
 | mk d =>
   congr
   exact Array.eq_empty_of_size_eq_zero h
def strSz:Value→Nat
 | .string s=>s.size
 | _=>0
theorem nil_list:(⟨#[]⟩ : ByteArray).toList=[]:=by rw [Lib.toList_data]
theorem list_none {p:ByteArray} (h:p.size=0):(p.toList == [])=true:=by rw [empty_of h,nil_list];rfl
theorem list_some {p:ByteArray} (h:p.size ≠ 0):(p.toList == [])=false:=by
 rw [beq_eq_false_iff_ne]
 intro e
 apply h
 have:=congrArg List.length e
 rw [Lib.toList_data] at this
 simpa using this
def tPt:ByteArray:=⟨#[116,101,120,116,32,111,102,32,97,32,112,114,111,111,102]⟩
def tPr:ByteArray:=⟨#[112,114,111,111,102]⟩
set_option maxRecDepth 100000 in
set_option maxHeartbeats 1600000 in
theorem hashesIn_bad (s:ByteArray) {w:World} {A:Nat→Addr} (hs:s.size≤1048576) (hS:Sen w A) (h:¬ (s.size % 32=0∧s.size≤640)) :
 Calls Tryz.prog 82 #[.string s] w fun e w'=>e=.returned (.tuple #[.slice none 0 0,fnd tPt (sen (A 3))])∧Below w.heap.size w w':=by
 have g3:=hS.g3
 have HB:Hid (∀ n,Below w.heap.size w (w.drewN n)):=fun n=>(Below.refl _ _).trans ⟨rfl,rfl,rfl,Nat.le_refl _,fun _ _=>rfl⟩
 unfold fnd sen tPt
 unfold sen at g3
 clear hS
 by_cases h1:s.size % 32=0
 ·have h2:(640:Int)<(s.size:Int):=by have:¬ s.size≤640:=fun hh=>h ⟨h1,hh⟩;omega
  have h1':((s.size:Int) % 32 == 0)=true:=by have:(s.size:Int) % 32=0:=by omega
                                             simp [this]
  have h1n:((s.size:Int) % 32 != 0)=false:=by rw [bne,h1'];rfl
  clear h h1
  go_enter Tryz.func82,Tryz.ntmps82
  go_wp2_with fail
  go_quiet (fail)
  go_wp2_with fail
  go_ret2
  exact ⟨rfl,HB.out _⟩
 ·have h1t:¬ (s.size:Int) % 32=0:=by omega
  have h1n:((s.size:Int) % 32 != 0)=true:=by simpa using h1t
  clear h h1
  go_enter Tryz.func82,Tryz.ntmps82
  go_wp2_with fail
  go_quiet (fail)
  go_wp2_with fail
  go_ret2
  exact ⟨rfl,HB.out _⟩
set_option maxRecDepth 100000 in
set_option maxHeartbeats 1600000 in
theorem hashesIn_ok (s:ByteArray) (w:World) (h1:s.size % 32=0) (h2:s.size≤640) :
 Calls Tryz.prog 82 #[.string s] w fun e w'=>∃ v,e=.returned (.tuple #[v,.nilIface])∧OwnS w' w.heap.size v (chk s)∧Below w.heap.size w w':=by
 obtain ⟨i0,hi0,hz0,hz1,hz2⟩:=info_parts info9
 have h2':¬ (640:Int)<(s.size:Int):=by omega
 have h1t:(s.size:Int) % 32=0:=by omega
 have h1n:((s.size:Int) % 32 != 0)=false:=by rw [h1t];rfl
 clear h1t
 obtain ⟨N,HN⟩ : ∃ N,Hid (s.size=32 * N):=⟨s.size / 32,by show _=_;omega⟩
 have HCH:Hid (chk s=hsTo s N):=by show _=_;unfold chk;congr 1;have:=HN.out;omega
 have hN20:N≤20:=by have:=HN.out;omega
 clear h1
 go_enter Tryz.func82,Tryz.ntmps82
 go_wp2_with fail
 go_loopw [0,4] (fun p b wr=>∃ (k:Nat) (t:ByteArray),k≤N∧p=.string t∧Hid (t=s.extract (32 * k) s.size)∧Hid (OwnS wr w.heap.size b (hsTo s k)∧Below w.heap.size w wr)) (fun p _ _=>strSz p)
 case atStart=>exact ⟨0,s,by omega,rfl,(by show _=_;simp),⟨OwnS.nil _ _,Below.refl _ _⟩⟩
 case round =>
  obtain ⟨k,t,hk,rfl,HT,HZ⟩:=hrel
  obtain ⟨v0,rfl⟩ : ∃ v0,v0=u4:=⟨_,rfl⟩
  have HTS:Hid (t.size=s.size - 32 * k):=by show _=_;rw [HT.out];exact tail_size s k (by have:=HN.out;omega)
  by_cases hlt:k<N
  ·have h32:(32:Int)≤(t.size:Int):=by have:=HTS.out;have:=HN.out;omega
   have q3:(t.toList == [])=false:=list_some (by omega)
   have q4:(t.toList != [])=true:=by rw [bne,q3];rfl
   have HE1:Hid (t.extract 0 32=hsh s k):=by
    show _=_
    rw [HT.out,ext_two]
    unfold hsh
    congr 1
    have:=HN.out
    omega
   have HE2:Hid (t.extract 32 t.size=s.extract (32 * (k+1)) s.size):=by
    show _=_
    rw [HTS.out,HT.out,ext_two]
    congr 1
    have:=HN.out
    omega
   have HSZ:Hid ((t.extract 32 t.size).size<t.size):=by show _<_;rw [ByteArray.size_extract];omega
   have HLN:Hid ((hsTo s k).length≤1000000):=by show _≤_;rw [hsTo_len];omega
   have HSU:Hid (hsTo s (k+1)=hsTo s k ++ [t.extract 0 32]):=by show _=_;rw [hsTo_succ,HE1.out]
   clear HE1
   go_wp2_with (at_builtin;go_must (refine list_texts (by rfl) _ _ 38 (by rfl) i0 Tryz.underlying38 hi0 hz0 hz1 hz2 w.heap.size w wr _ _ [t.extract 0 32] _ 1 rfl rfl (by decide) (by rfl) HZ.out.1 HZ.out.2 HZ.out.2.size (by rfl) HLN.out ?_;intro v5 w5 o5 b5 _ _))
   exact ⟨⟨k+1,_,by omega,rfl,HE2,by rw [HSU.out];exact ⟨o5,b5⟩⟩,HSZ.out⟩
  ·obtain rfl:k=N:=by omega
   have q3:(t.toList == [])=true:=list_none (by have:=HTS.out;have:=HN.out;omega)
   have q4:(t.toList != [])=false:=by rw [bne,q3];rfl
   go_wp2_with fail
   go_ret2
   rw [HCH.out]
   exact ⟨_,rfl,HZ.out⟩
def okT (s:ByteArray):Bool:=decide (s.size % 32=0∧s.size≤640)
set_option maxRecDepth 100000 in
set_option maxHeartbeats 1600000 in
theorem itoa_small (k:Nat) (hk:k<64) (w:World):Calls Tryz.prog 54 #[.int .i64 k] w fun e w'=>∃ s,e=.returned (.string s)∧s.size≤2∧w=w':=by
 have hk1:(k:Int)<100:=by omega
 have hk0:(0:Int)≤(k:Int):=by omega
 have HS:Hid (Calls Tryz.prog 122 #[.int .i64 k] w fun e w'=>∃ s,e=.returned (.string s)∧s.size≤2∧w=w'):=by
  show Calls _ _ _ _ _
  by_cases h10:(k:Int)<10
  ·have q1:(k:Int)+1≤36:=by omega
   go_enter Tryz.func122,Tryz.ntmps122
   go_wp2_with fail
   go_ret
   exact ⟨_,rfl,by rw [ByteArray.size_extract];omega,rfl⟩
  ·have q1:(k:Int) * 2+2≤200:=by omega
   go_enter Tryz.func122,Tryz.ntmps122
   go_wp2_with fail
   go_ret
   exact ⟨_,rfl,by rw [ByteArray.size_extract];omega,rfl⟩
 have HF:Hid (Calls Tryz.prog 103 #[.int .i64 k,.int .i64 10] w fun e w'=>∃ s,e=.returned (.string s)∧s.size≤2∧w=w'):=by
  show Calls _ _ _ _ _
  go_enter Tryz.func103,Tryz.ntmps103
  go_wp2_with fail
  refine HS.out.mono ?_
  rintro e w1 ⟨s,rfl,hs,rfl⟩
  go_wp2_with fail
  go_ret
  exact ⟨_,rfl,hs,rfl⟩
 have HI:Hid (Calls Tryz.prog 84 #[.int .i64 k] w fun e w'=>∃ s,e=.returned (.string s)∧s.size≤2∧w=w'):=by
  show Calls _ _ _ _ _
  go_enter Tryz.func84,Tryz.ntmps84
  go_wp2_with fail
  refine HF.out.mono ?_
  rintro e w1 ⟨s,rfl,hs,rfl⟩
  go_wp2_with fail
  go_ret
  exact ⟨_,rfl,hs,rfl⟩
 go_enter Tryz.func54,Tryz.ntmps54
 go_wp2_with fail
 refine HI.out.mono ?_
 rintro e w1 ⟨s,rfl,hs,rfl⟩
 go_wp2_with fail
 go_ret
 exact ⟨_,rfl,hs,rfl⟩
end Go.Proofs.YtakfniknkejgpaaGreatDoor.Xp
