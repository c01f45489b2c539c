/- Texts put together: Xo, Shelf, ShaP. -/
import Derived.Test.YtakfniknkejgpaaGreatDoorMi7
import Derived.Shelf.Strings.OnBuilder
import Derived.Test.YtakfniknkejgpaaGreatDoorMi2
import Derived.Laws.CopyOwn
namespace Go.Proofs.YtakfniknkejgpaaGreatDoor.Xo
open Go.RowKit Sl Rg
open Gt (Vo)
open Ap (addr_add zBq)
def clV (p:Vo):List Value:=[.int .i64 p.f,.string p.m]
theorem oneV (p:Vo):∀ u ∈ clV p,u.oneCell'=true:=by
 intro u hu
 simp [clV] at hu
 rcases hu with rfl | rfl
 all_goals rfl
theorem atV:∀ (ms:List Vo) (i:Nat) (x:Vo) (j:Nat),ms[i]?=some x→j<2→(ms.flatMap clV)[i * 2+j]?=(clV x)[j]?
 | [],i,x,j,h,_=>by simp at h
 | y :: r,0,x,j,h,hj=>by
   simp at h;subst h
   rw [List.flatMap_cons,List.getElem?_append_left (by show _<2;omega)]
   simp
 | y :: r,i+1,x,j,h,hj=>by
   have h':r[i]?=some x:=by simpa using h
   rw [List.flatMap_cons,List.getElem?_append_right (by show 2≤_;omega)]
   rw [show (i+1) * 2+j - (clV y).length=i * 2+j by show _ - 2=_;omega]
   exact atV r i x j h' hj
def OwnV (w:World) (B:Nat) (v:Value) (ms:List Vo):Prop:=w.ownsRow B 48 2 v ms.length (ms.flatMap clV)
theorem OwnV.kept {w w':World} {B:Nat} {v:Value} {ms:List Vo} (h:OwnV w B v ms) (hk:∀ g,v.ownBlock=some g→w'.heap[g]?=w.heap[g]?):OwnV w' B v ms:=by
 obtain ⟨hl,h⟩:=h
 refine ⟨hl,?_⟩
 rcases h with h | ⟨g,cap,cur,rfl,h1,hg,h2⟩
 ·exact .inl h
 ·exact .inr ⟨g,cap,cur,rfl,h1,(hk g rfl).trans hg,h2⟩
theorem OwnV.lt {w:World} {B:Nat} {v:Value} {ms:List Vo} (h:OwnV w B v ms):∀ g,v.ownBlock=some g→B≤g∧g<w.heap.size:=World.ownsRow.lt h
theorem OwnV.below {w w':World} {B:Nat} {v:Value} {ms:List Vo} (h:OwnV w B v ms) (hb:Below w.heap.size w w'):OwnV w' B v ms:=h.kept fun g hg=>hb.block g (h.lt g hg).2
theorem OwnV.nil (w:World) (B:Nat):OwnV w B (.slice none 0 0) []:=World.ownsRow_nil _ _ _ _
theorem OwnV.slice {w:World} {B:Nat} {v:Value} {ms:List Vo} (h:OwnV w B v ms):∃ a cap,v=.slice a ms.length cap:=by
 obtain ⟨_,h | ⟨g,cap,cur,he,_⟩⟩:=h
 ·exact ⟨none,0,by rw [h.1,h.2]⟩
 ·exact ⟨_,cap,he⟩
theorem OwnV.mono {w:World} {B B':Nat} {v:Value} {ms:List Vo} (h:OwnV w B v ms) (hb:B'≤B):OwnV w B' v ms:=by
 obtain ⟨hl,h⟩:=h
 refine ⟨hl,?_⟩
 rcases h with h | ⟨g,cap,cur,rfl,h1,hg,h2⟩
 ·exact .inl h
 ·exact .inr ⟨g,cap,cur,rfl,Nat.le_trans hb h1,hg,h2⟩
theorem OwnV.row {w:World} {B:Nat} {v:Value} {ms:List Vo} (h:OwnV w B v ms):Gt.Row w v ms:=by
 obtain ⟨hl,h⟩:=h
 rcases h with ⟨rfl,h0⟩ | ⟨g,cap,cur,rfl,hB,hg,hc,_,hs,htk⟩
 ·exact ⟨none,0,by rw [h0],.inl (List.length_eq_zero_iff.1 h0)⟩
 ·refine ⟨_,cap,rfl,.inr ⟨g,0,rfl,hc,(Array.getElem?_eq_some_iff.1 hg).1,fun i x hi=>?_⟩⟩
  have hil:=(List.getElem?_eq_some_iff.1 hi).1
  have key:∀ j u,j<2→(clV x)[j]?=some u→w.cell? ⟨g,0+i * 2+j,none⟩=some u:=fun j u hj hu=>by
   rw [Nat.zero_add,Joins.cell_of_block hg,← Array.getElem?_toList]
   have h1:=atV ms i x j hi hj
   rw [← htk,List.getElem?_take,if_pos (by omega)] at h1
   rw [h1,hu]
  exact ⟨key 0 _ (by decide) rfl,key 1 _ (by decide) rfl⟩
theorem infoV:(Tryz.prog.info? 48).map (fun i=>(i.zero,i.size,i.bytes))=some (some (.agg #[.int .i64 0,.string ⟨#[]⟩]),2,24):=by kernel_rfl
structure Vb (sq sz:Int) (rt:ByteArray) (w W:World) (x y B:Nat) (v:Value) (ms:List Vo):Prop where
 hx:W.heap[x]?=some (.cells #[.int .i64 sq,.int .i64 sz,.string rt,v] 33 (0,0))
 hy:W.heap[y]?=some (.cells #[.int .i64 0,.int .i64 0,.string ⟨#[]⟩,.slice none 0 0] 33 (0,0))
 own:OwnV W B v ms
 gr:Below w.heap.size w W
 lt:w.heap.size≤x∧w.heap.size≤y∧x ≠ y∧x<W.heap.size∧y<W.heap.size∧w.heap.size≤B∧B≤W.heap.size
structure Vd (sq sz:Int) (rt:ByteArray) (w W:World) (x y B:Nat) (v v':Value) (ms:List Vo):Prop where
 hx:W.heap[x]?=some (.cells #[.int .i64 sq,.int .i64 sz,.string rt,v] 33 (0,0))
 hy:W.heap[y]?=some (.cells #[.int .i64 0,.int .i64 0,.string ⟨#[]⟩,.slice none 0 0] 33 (0,0))
 own:OwnV W B v' ms
 gr:Below w.heap.size w W
 lt:w.heap.size≤x∧w.heap.size≤y∧x ≠ y∧x<W.heap.size∧y<W.heap.size∧w.heap.size≤B∧B≤W.heap.size
theorem own_ne {W:World} {B x:Nat} {v:Value} {ms:List Vo} {c:Array Value} {fz:Nat × Nat} (h:OwnV W B v ms) (hx:W.heap[x]?=some (.cells c 33 fz)):∀ g,v.ownBlock=some g→g ≠ x:=by
 intro g hg e
 subst e
 obtain ⟨hl,h⟩:=h
 rcases h with ⟨rfl,_⟩ | ⟨g',cap,cur,rfl,h1,hb,h2⟩
 ·simp [Value.ownBlock] at hg
 ·simp [Value.ownBlock] at hg
  subst hg
  rw [hx] at hb
  have:=Option.some.inj hb
  injection this with _ ht _
  exact absurd ht (by decide)
section
variable {sq sz:Int} {rt:ByteArray} {w W:World} {x y B:Nat} {v v':Value} {ms:List Vo}
theorem Vb.below (h:Vb sq sz rt w W x y B v ms) {W':World} (hb:Below W.heap.size W W'):Vb sq sz rt w W' x y B v ms :=
 ⟨(hb.block x (by have:=h.lt;omega)).trans h.hx,(hb.block y (by have:=h.lt;omega)).trans h.hy,h.own.below hb,h.gr.trans (hb.mono h.gr.size),by have:=h.lt;have:=hb.size;omega⟩
theorem Vb.drew (h:Vb sq sz rt w W x y B v ms):Vb sq sz rt w W.drew x y B v ms:=h.below (Below.refl _ _).drew
theorem Vb.alloc (h:Vb sq sz rt w W x y B v ms) (o:Obj):Vb sq sz rt w (W.alloc o) x y B v ms:=h.below ((Below.refl _ _).alloc (Nat.le_refl _) o)
theorem Vb.cells (h:Vb sq sz rt w W x y B v ms):W.cell? ⟨x,0,none⟩=some (.int .i64 sq)∧W.cell? ⟨x,1,none⟩=some (.int .i64 sz)∧W.cell? ⟨x,2,none⟩=some (.string rt)∧W.cell? ⟨x,3,none⟩=some v :=
 ⟨(zAA h.hx 0 rfl).1,(zAA h.hx 1 rfl).1,(zAA h.hx 2 rfl).1,(zAA h.hx 3 rfl).1⟩
theorem Vd.cells (h:Vd sq sz rt w W x y B v v' ms):W.cell? ⟨x,3,none⟩=some v∧W.frozen? ⟨x,3,none⟩=false:=zAA h.hx 3 rfl
theorem Vd.set (h:Vd sq sz rt w W x y B v v' ms):Vb sq sz rt w (W.setCell ⟨x,3,none⟩ v') x y B v' ms:=by
 have hl:=h.lt
 refine ⟨zAE h.hx 3 v',(zAB (by omega) 3 v').trans h.hy,h.own.kept (fun g hg=>zAB (own_ne h.own h.hx g hg) 3 v'),h.gr.setCell (p:=⟨x,3,none⟩) (by show _≤x;omega) v',by simpa using h.lt⟩
end
theorem step_vb {P:Program} {ops:Array Oper} {o:Oper} {a:Act} {K:Act→World→Prop} {Q:Exit→Act→World→Prop} {E:Prop} {i:TypeInfo} (hgd:o.guard=none) (s z:Operand) (t:TypeId) (ho:o.op=.call { callee:=.builtin .append,args:=#[s,z],argTypes:=#[t,t] }) (ht:P.underlying t=some (.slice 48)) (hi:P.info? 48=some i) (hz:i.zero=some (.agg #[.int .i64 0,.string ⟨#[]⟩]))
 (hsize:i.size=2) (hby:i.bytes=24) (sq sz:Int) (rt:ByteArray) (W w:World) (x y B:Nat) (v:Value) (ms:List Vo) (m:Vo) (hs:a.eval s=v) (gx:Nat) (hx:a.eval z=.slice (some ⟨gx,0,none⟩) 1 1) (hbx:W.heap[gx]?=some (.cells #[.int .i64 m.f,.string m.m] 48 (0,0)))
 (htb:Vb sq sz rt w W x y B v ms) (hlen:ms.length≤1000000)
 (h:∀ v' w',Vd sq sz rt w w' x y B v v' (ms ++ [m])→K (a.put o.dst v') w'):if Region.wanted o (yielded ops a.tmps)=true then Oper.wp P o a W K Q else E:=by
 have hw:Region.wanted o (yielded ops a.tmps)=true:=by simp [Region.wanted,hgd]
 rw [if_pos hw]
 have hlt:=htb.lt
 obtain ⟨v',w',hr,h2,h3,_,h5⟩:=run_append_own_at (P:=P) W B t o.type 48 i _ 2 24 ht hi hz hsize hby rfl (by decide) v ms.length _ htb.own ⟨gx,0,none⟩ 1 1 (clV m) rfl (by
  intro j u hj
  have e2:(⟨gx,0,none⟩ : Addr).add j=⟨gx,j,none⟩:=by unfold Addr.add;split <;> simp_all
  rw [e2,Joins.cell_of_block hbx,← hj]
  simp [clV]) (oneV m) (by unfold maxLen;omega) (by omega) (by omega)
 have farx:w'.heap[x]?=W.heap[x]?:=h3.block x (by omega) (fun e=>own_ne htb.own htb.hx x e.symm rfl)
 have fary:w'.heap[y]?=W.heap[y]?:=h3.block y (by omega) (fun e=>own_ne htb.own htb.hy y e.symm rfl)
 refine zBq ho hs hx hr (h v' w' ⟨farx.trans htb.hx,fary.trans htb.hy,by unfold OwnV;rw [List.flatMap_append,List.length_append];simpa using h2,htb.gr.grown h3 (by omega) (fun k hk=>by have:=(htb.own.lt k hk).1;omega),by have:=h3.size;omega⟩)
end Go.Proofs.YtakfniknkejgpaaGreatDoor.Xo
namespace Go.Proofs.YtakfniknkejgpaaGreatDoor.Sf
open Go.Shelf Go.RowKit
def lays156_ren:Go.Shelf.Ren:=⟨fun | 156=>22 | 165=>44 | 166=>45 | 169=>46 | 240=>71 | 241=>72 | 276=>95 | 277=>96 | n=>n,fun | 31=>38 | 9=>9 | 3=>3 | 4=>4 | 0=>0 | 20=>20 | 72=>107 | 76=>109 | 70=>105 | 37=>22 | 75=>55 | 127=>140 | 164=>171 | 5=>5 | 80=>111 | n=>n,fun | n=>n⟩
theorem lays156:Go.Proofs.Lays.n156 Tryz.prog lays156_ren:={
 mixed:=by kernel_rfl
 f156:=Tryz.func22.trans (congrArg some (by kernel_rfl))
 f165:=Tryz.func44.trans (congrArg some (by kernel_rfl))
 f166:=Tryz.func45.trans (congrArg some (by kernel_rfl))
 f169:=Tryz.func46.trans (congrArg some (by kernel_rfl))
 f240:=Tryz.func71.trans (congrArg some (by kernel_rfl))
 f241:=Tryz.func72.trans (congrArg some (by kernel_rfl))
 f276:=Tryz.func95.trans (congrArg some (by kernel_rfl))
 f277:=Tryz.func96.trans (congrArg some (by kernel_rfl))
 t0:=Tryz.underlying0
 a0:=Tryz.isAgg0
 z0:=Tryz.sizeOf0
 v0:=Tryz.zeroValue0
 t3:=Tryz.underlying3
 a3:=Tryz.isAgg3
 z3:=Tryz.sizeOf3
 v3:=Tryz.zeroValue3
 t4:=Tryz.underlying4
 a4:=Tryz.isAgg4
 z4:=Tryz.sizeOf4
 v4:=Tryz.zeroValue4
 t9:=Tryz.underlying9
 a9:=Tryz.isAgg9
 z9:=Tryz.sizeOf9
 v9:=Tryz.zeroValue9
 t20:=Tryz.underlying20
 a20:=Tryz.isAgg20
 z20:=Tryz.sizeOf20
 v20:=Tryz.zeroValue20
 t31:=Tryz.underlying38
 a31:=Tryz.isAgg38
 z31:=Tryz.sizeOf38
 v31:=Tryz.zeroValue38
 t37:=Tryz.underlying22
 a37:=Tryz.isAgg22
 z37:=Tryz.sizeOf22
 v37:=Tryz.zeroValue22
 t70:=Tryz.underlying105
 a70:=Tryz.isAgg105
 z70:=Tryz.sizeOf105
 v70:=Tryz.zeroValue105
 t72:=Tryz.underlying107
 a72:=Tryz.isAgg107
 z72:=Tryz.sizeOf107
 v72:=Tryz.zeroValue107
 t75:=Tryz.underlying55
 a75:=Tryz.isAgg55
 z75:=Tryz.sizeOf55
 v75:=Tryz.zeroValue55
 t76:=Tryz.underlying109
 a76:=Tryz.isAgg109
 z76:=Tryz.sizeOf109
 v76:=Tryz.zeroValue109
 t127:=Tryz.underlying140
 a127:=Tryz.isAgg140
 z127:=Tryz.sizeOf140
 v127:=Tryz.zeroValue140
 t164:=Tryz.underlying171
 a164:=Tryz.isAgg171
 z164:=Tryz.sizeOf171
 v164:=Tryz.zeroValue171 }
theorem extra156:Builder.Extra Tryz.prog lays156_ren:={
 sizeBuilder:=by kernel_rfl
 liesBuilder:=by kernel_rfl
 t5:=Tryz.underlying5
 a5:=Tryz.isAgg5
 z5:=Tryz.sizeOf5
 v5:=Tryz.zeroValue5
 infoByte:=by kernel_rfl
 cellsByte:=by kernel_rfl
 sizeByte:=by kernel_rfl
 neB5:=by decide }
theorem join_laid (bk o c:Nat) (xs:List ByteArray) (sep:ByteArray) (w:World) (hcells:∀ (j:Nat) x,xs[j]?=some x→w.cell? ⟨bk,o+j,none⟩=some (.string x)) (hbk:bk<w.heap.size) (hN:xs.length≤140737488355328) (hcap:xs.length≤c) (hlen:(Lib.join (xs.map (·.data.toList)) sep.data.toList).length≤140737488355328) :
 Calls Tryz.prog 22 #[.slice (some ⟨bk,o,none⟩) xs.length c,.string sep] w fun e w'=>e=.returned (.string ⟨(Lib.join (xs.map (·.data.toList)) sep.data.toList).toArray⟩)∧Below w.heap.size w w':=Any.strings_Join lays156 extra156 bk o c xs sep w hcells hbk hN hcap hlen
end Go.Proofs.YtakfniknkejgpaaGreatDoor.Sf
namespace Go.Proofs.YtakfniknkejgpaaGreatDoor.Sh
open Go.RowKit Sl Me
theorem nth_lt {xs ys:List Int} {j:Nat} (h:j<xs.length):nth (xs ++ ys) j=nth xs j:=by
 unfold nth;rw [List.getD_eq_getElem?_getD,List.getElem?_append_left h,List.getD_eq_getElem?_getD]
theorem nth_ge {xs ys:List Int} {j:Nat} (h:xs.length≤j):nth (xs ++ ys) j=nth ys (j - xs.length):=by
 unfold nth;rw [List.getD_eq_getElem?_getD,List.getElem?_append_right h,List.getD_eq_getElem?_getD]
theorem nth_repl (n j:Nat):nth (List.replicate n 0) j=0:=by
 unfold nth;rw [List.getD_eq_getElem?_getD,List.getElem?_replicate];split <;> rfl
theorem pad_low (xs:List Int) (j:Nat) (h:j<xs.length):nth (pad xs) j=nth xs j:=by
 unfold pad;rw [List.append_assoc,List.append_assoc,nth_lt h]
theorem pad_mid (xs:List Int):nth (pad xs) xs.length=128:=by
 unfold pad;rw [List.append_assoc,List.append_assoc,nth_ge (Nat.le_refl _),Nat.sub_self];rfl
theorem pad_zero (xs:List Int) (j:Nat) (h:xs.length<j) (h2:j<xs.length+1+zBl xs.length):nth (pad xs) j=0:=by
 unfold pad
 rw [List.append_assoc,nth_ge (by simp;omega),nth_lt (by simp;omega),nth_repl]
theorem pad_tail (xs:List Int) (k:Nat) (h:k<8):nth (pad xs) (xs.length+1+zBl xs.length+k)=zBM xs.length k:=by
 unfold pad
 rw [nth_ge (by simp;omega)]
 have e:xs.length+1+zBl xs.length+k - (xs ++ [128] ++ List.replicate (zBl xs.length) 0).length=k:=by simp;omega
 rw [e]
 match k,h with
 | 0,_=>rfl
 | 1,_=>rfl
 | 2,_=>rfl
 | 3,_=>rfl
 | 4,_=>rfl
 | 5,_=>rfl
 | 6,_=>rfl
 | 7,_=>rfl
theorem pad_range {xs:List Int} (hr:∀ x ∈ xs,0≤x∧x≤255):∀ x ∈ pad xs,0≤x∧x≤255:=by
 have hl:∀ m,0≤zBM xs.length m∧zBM xs.length m≤255:=fun m=>by unfold zBM;omega
 intro x hx
 unfold pad lenBytes at hx
 simp only [List.mem_append,List.mem_replicate,List.mem_cons,List.not_mem_nil,or_false] at hx
 rcases hx with ((h | h) | h) | h
 ·exact hr x h
 ·omega
 ·omega
 ·rcases h with h | h | h | h | h | h | h | h <;> (rw [h];exact hl _)
def Padded (xs:List Int) (M k:Nat) (A:Array Value):Prop:=A.size=M∧∀ j,j<M→(j<M - 8 ∨ M - k≤j)→A[j]?=some (.int .u8 (nth (pad xs) j))
theorem padded_step {xs:List Int} {M k:Nat} {A:Array Value} (h:Padded xs M k A) (hM:M=xs.length+9+zBl xs.length) (hk:k<8) (z:Int) (hz:z=zBM xs.length (7 - k)):Padded xs M (k+1) (A.setIfInBounds (M - 1 - k) (.int .u8 z)):=by
 refine ⟨by rw [Array.size_setIfInBounds];exact h.1,fun j hj hc=>?_⟩
 rw [Array.getElem?_setIfInBounds]
 by_cases e:M - 1 - k=j
 ·rw [if_pos e,if_pos (by rw [h.1];omega),hz,← pad_tail xs (7 - k) (by omega)]
  have e2:xs.length+1+zBl xs.length+(7 - k)=j:=by omega
  rw [e2]
 ·rw [if_neg e]
  exact h.2 j hj (by omega)
theorem copied_at (cur:List Value) (xs:List Int) (M:Nat) (hz:∀ j,j<M→cur[j]?=some (.int .u8 0)) (j:Nat) (hj:j<M) :
 (splice cur 0 (xs.map (Value.int .u8)))[j]?=some (.int .u8 (if j<xs.length then nth xs j else 0)):=by
 unfold splice
 rw [List.take_zero,List.nil_append]
 by_cases h:j<xs.length
 ·rw [if_pos h,List.getElem?_append_left (by simpa using h),List.getElem?_map,List.getElem?_eq_getElem h]
  unfold nth
  rw [List.getD_eq_getElem?_getD,List.getElem?_eq_getElem h]
  rfl
 ·rw [if_neg h,List.getElem?_append_right (by simpa using h),List.getElem?_drop,List.length_map,show 0+xs.length+(j - xs.length)=j by omega]
  exact hz j hj
theorem padded_zero {xs:List Int} {M:Nat} {A:Array Value} (hM:M=xs.length+9+zBl xs.length) (hs:A.size=M) (h:∀ j,j<M→A[j]?=some (.int .u8 (if j<xs.length then nth xs j else 0))):Padded xs M 0 (A.setIfInBounds xs.length (.int .u8 128)):=by
 refine ⟨by rw [Array.size_setIfInBounds];exact hs,fun j hj hc=>?_⟩
 rw [Array.getElem?_setIfInBounds]
 by_cases e:xs.length=j
 ·rw [if_pos e,if_pos (by omega),← e,pad_mid]
 ·rw [if_neg e,h j hj]
  by_cases g:j<xs.length
  ·rw [if_pos g,pad_low xs j g]
  ·rw [if_neg g,pad_zero xs j (by omega) (by omega)]
theorem addr_add (b off j:Nat):(⟨b,off,none⟩ : Addr).add j=⟨b,off+j,none⟩:=by unfold Addr.add;split <;> simp_all
theorem len_eq (n k:Nat) (h:k<8):(n:Int) * 8 / 2 ^ (8 * k) % 256=zBM n (7 - k):=by
 unfold zBM
 rw [show 7 - (7 - k)=k by omega,Nat.mul_comm 8 n,Int.natCast_emod,Int.natCast_ediv,Int.natCast_mul,Int.natCast_pow]
 rfl
theorem ret_slice {x:Option Addr} {m n:Nat} (h:m=n):Ending.returned (.slice x m m)=.returned (.slice x n n):=by rw [h]
theorem infoB:(Tryz.prog.info? 5).map (·.size)=some 1:=by kernel_rfl
set_option maxRecDepth 100000 in
set_option maxHeartbeats 1600000 in
theorem padBlocks_any (v:Value) (xs:List Int) (w:World) (h:RowB w v xs) (hl:xs.length≤65536) :
 Calls Tryz.prog 118 #[v] w fun e w'=>∃ A,e=.returned (.slice (some ⟨w.heap.size,0,none⟩) (pad xs).length (pad xs).length)∧ArrAt w' w.heap.size 5 A∧(∀ j,j<(pad xs).length→A[j]?=some (.int .u8 (nth (pad xs) j)))∧Below w.heap.size w w':=by
 obtain ⟨a,cap,rfl,h,_⟩:=h
 obtain ⟨i0,hi,hz0,hz1,hz2⟩:=info_parts info5
 have hl':(xs.length:Int)≤65536:=by omega
 have hpl:=pad_length xs
 obtain ⟨M,hM⟩ : ∃ M,M=(pad xs).length:=⟨_,rfl⟩
 have hMb:=pad_blocks xs
 have hME:((xs.length:Int)+1+8+64 - 1) / 64 * 64=(M:Int):=by omega
 have hmk:=run_make (P:=Tryz.prog) w 22 5 i0 (.int .u8 0) Tryz.underlying22 hi hz0 .i64 .i64 (M:Int) (M:Int) (by omega) (by omega) (by rw [hz2];omega) (by omega)
 have hA0:(madeCells (Value.int .u8 0).cells ((M:Int).toNat * i0.size)).toList.length=M∧∀ j,j<M→(madeCells (Value.int .u8 0).cells ((M:Int).toNat * i0.size)).toList[j]?=some (.int .u8 0):=by
  rw [hz1]
  refine ⟨by simp [madeCells,Value.cells],fun j hj=>by simp [madeCells,Value.cells,hj,Nat.mod_one]⟩
 have hto:madeCells (Value.int .u8 0).cells ((M:Int).toNat * i0.size)=(madeCells (Value.int .u8 0).cells ((M:Int).toNat * i0.size)).toList.toArray:=by simp
 rw [hto] at hmk
 generalize (madeCells (Value.int .u8 0).cells ((M:Int).toNat * i0.size)).toList=cur at hmk hA0
 rw [Int.toNat_natCast] at hmk
 have HM:Hid (M=xs.length+9+zBl xs.length):=by show M=_;omega
 have HP:Hid (M=(pad xs).length):=hM
 have q0:(xs.length:Int)+9≤(M:Int):=by omega
 have q1:(M:Int)≤65608:=by omega
 have q2:(xs.length:Int)<(M:Int):=by omega
 have hn:(xs.map (Value.int .u8)).length=Nat.min xs.length M:=by rw [List.length_map];exact (Nat.min_eq_left (by omega)).symm
 have hpos:0<(xs.map (Value.int .u8)).length→(some ⟨w.heap.size,0,none⟩ : Option Addr)=some ⟨w.heap.size,0,none⟩∧∃ ad,a=some ad∧∀ j v,(xs.map (Value.int .u8))[j]?=some v→(w.alloc (.cells cur.toArray 5)).cell? (ad.add j)=some v:=by
  intro hp
  rcases h with h | ⟨b,off,rfl,hc,hb,hcell⟩
  ·rw [h] at hp;exact absurd hp (by simp)
  ·refine ⟨rfl,_,rfl,fun j v hv=>?_⟩
   have hj:j<xs.length:=by have:=(List.getElem?_eq_some_iff.1 hv).1;simpa using this
   rw [addr_add,World.cell?_alloc_past _ _ _ hb,hcell j hj,← hv,List.getElem?_map,List.getElem?_eq_getElem hj]
   unfold nth
   rw [List.getD_eq_getElem?_getD,List.getElem?_eq_getElem hj]
   rfl
 have hfit:0+(xs.map (Value.int .u8)).length≤cur.length:=by rw [List.length_map];omega
 have h1:∀ v ∈ xs.map (Value.int .u8),v.oneCell'=true:=by intro v hv;obtain ⟨z,_,rfl⟩:=List.mem_map.1 hv;rfl
 have hA1:(splice cur 0 (xs.map (Value.int .u8))).toArray.size=M∧∀ j,j<M→(splice cur 0 (xs.map (Value.int .u8))).toArray[j]?=some (.int .u8 (if j<xs.length then nth xs j else 0)):=by
  refine ⟨?_,fun j hj=>?_⟩
  ·have:=length_splice cur 0 (xs.map (Value.int .u8)) hfit;simp only [List.size_toArray];omega
  ·simp only [List.getElem?_toArray];exact copied_at cur xs M hA0.2 j hj
 have hP0:=padded_zero HM.out hA1.1 hA1.2
 have hb0:Below w.heap.size w (w.alloc (.cells cur.toArray 5)):=(Below.refl _ _).alloc (Nat.le_refl _) _
 have hex:∃ x,(splice cur 0 (xs.map (Value.int .u8))).toArray[xs.length]?=some x:=⟨_,hA1.2 xs.length (by omega)⟩
 have GN:Hid _:=hn
 have GP:Hid _:=hpos
 have GF:Hid _:=hfit
 have G1:Hid _:=h1
 have GB:Hid _:=hb0
 obtain ⟨L,hL⟩ : ∃ L,L=(splice cur 0 (xs.map (Value.int .u8))).toArray:=⟨_,rfl⟩
 rw [← hL] at hP0 hex
 have GL:Hid (L=(splice cur 0 (xs.map (Value.int .u8))).toArray):=hL
 have HE:Hid (∃ x,L[xs.length]?=some x):=hex
 have HP0:Hid (Padded xs M 0 (L.setIfInBounds xs.length (.int .u8 128))):=hP0
 clear hn hpos hfit h1 hb0 hL hex hP0 hA1 hA0 h hpl hMb hM hto
 go_enter Tryz.func118,Tryz.ntmps118
 go_wp2_with (refine wpList_copy_splice (by rfl) _ _ 22 22 (by rfl) 5 Tryz.underlying22 infoB _ _ _ _ _ _ (by rfl) (by rfl) w.heap.size 0 cur 5 (zBG w _ _) _ GN.out (fun hp=>⟨rfl,(GP.out hp).2⟩) GF.out G1.out w.heap.size w GB.out (Nat.le_refl _) ?_;intro w1 hC hb1;have hA:ArrAt w1 w.heap.size 5 L:=(by rw [GL.out];exact hC);obtain ⟨y,hy⟩:=HE.out;have cn:w1.cell? ⟨w.heap.size,xs.length,none⟩=some y:=(hA.cell _).trans hy;have fn:=hA.frozen xs.length)
 clear GN GP GF G1 GB hmk hC
 go_loopw [30] (fun i wr=>∃ k:Nat,∃ A:Array Value,k≤8∧i=.int .i64 k∧Below w.heap.size w wr∧ArrAt wr w.heap.size 5 A∧Padded xs M k A) (fun i _=>8 - (intOf i).toNat)
 case atStart=>exact ⟨0,_,by omega,rfl,hb1.setCell (p:=⟨w.heap.size,xs.length,none⟩) (Nat.le_refl _) _,hA.setCell_same _ _,HP0.out⟩
 case round =>
  clear hA cn fn hy hb1
  obtain ⟨k,A,hk,rfl,hbel,hA,hP⟩:=hrel
  by_cases hlt:k<8
  ·obtain ⟨x,hx⟩ : ∃ x,A[M - 1 - k]?=some x:=⟨_,Array.getElem?_eq_getElem (by rw [hP.1];omega)⟩
   have cx:wr.cell? ⟨w.heap.size,M - 1 - k,none⟩=some x:=(hA.cell _).trans hx
   have fx:=hA.frozen (M - 1 - k)
   have p0:(0:Int)≤(M:Int) - 1 - (k:Int):=by omega
   have p1:(M:Int) - 1 - (k:Int)<(M:Int):=by omega
   have p2:(0:Int)≤8 * (k:Int):=by omega
   have hP2:=padded_step hP HM.out hlt ((xs.length:Int) * 8 / 2 ^ (8 * k) % 256) (len_eq xs.length k hlt)
   go_wp2_with fail
   exact ⟨⟨k+1,_,by omega,by go_num,hbel.setCell (p:=⟨w.heap.size,M - 1 - k,none⟩) (Nat.le_refl _) _,hA.setCell_same _ _,hP2⟩,by simp [intOf];omega⟩
  ·obtain rfl:k=8:=by omega
   have hfin:Hid (∀ j,j<(pad xs).length→A[j]?=some (.int .u8 (nth (pad xs) j))):=fun j hj=>hP.2 j (by rw [HP.out];exact hj) (by omega)
   go_wp2_with fail
   go_ret
   exact ⟨A,ret_slice HP.out,hA,hfin.out,hbel⟩
end Go.Proofs.YtakfniknkejgpaaGreatDoor.Sh
