/- Texts put together: Js, Jt, Ju. -/
import Derived.Test.YticokpbelgpfmaaGreatMa17
namespace Go.Proofs.YticokpbelgpfmaaGreat.Js
open Go.RowKit By Ap Tb Tw Mw Wa Bk Tp Da Ja Jb Jc
open Lo (LkA uV clL OwnL zAG zAK Apart zAP)
open Tx (zAA zAC zAE zAJ zAD)
open Jr
def delX (cur:Array Value) (o k n:Nat):Array Value:=(cur.toList.take (o+k * 2) ++ (cur.toList.drop (o+(k+1) * 2)).take ((n - (k+1)) * 2) ++ cur.toList.drop (o+k * 2+(n - (k+1)) * 2)).toArray
theorem step_run {P:Program} {ops:Array Oper} {o:Oper} {a:Act} {K:Act→World→Prop} {Q:Exit→Act→World→Prop} {E:Prop} (hgd:o.guard=none) (s z:Operand) (t:TypeId) (ho:o.op=.call { callee:=.builtin .append,args:=#[s,z],argTypes:=#[t,t] })
 (W w':World) (v u v':Value) (hs:a.eval s=v) (hx:a.eval z=u) (hr:(Builtin.append_ #[t,t] o.type #[v,u]).run P W=.ok v' w') (h:K (a.put o.dst v') w'):if Region.wanted o (yielded ops a.tmps)=true then Oper.wp P o a W K Q else E:=by
 have hw:Region.wanted o (yielded ops a.tmps)=true:=by simp [Region.wanted,hgd]
 rw [if_pos hw]
 exact wp_app ho hs hx hr h
theorem del_run {P:Program} (t ty:TypeId) (i:TypeInfo) (ht:P.underlying t=some (.slice 153)) (hi:P.info? 153=some i) (hsize:i.size=2) (W:World) (g o uc c q k:Nat) (cur:Array Value) (zs:List Wt) (hg:W.heap[g]?=some (.cells cur 153 (0,0))) (hle:zs.length≤uc) (hfit:o+uc * 2≤cur.size) (htk:(cur.toList.drop o).take (zs.length * 2)=zs.flatMap clW) (hk:k<zs.length) (hq:zs.length=k+1 ∨ q=o+(k+1) * 2) :
 (Builtin.append_ #[t,t] ty #[.slice (some ⟨g,o,none⟩) k uc,.slice (some ⟨g,q,none⟩) (zs.length - (k+1)) c]).run P W=.ok (.slice (some ⟨g,o,none⟩) (zs.eraseIdx k).length uc) (W.setRow g (delX cur o k zs.length)):=by
 have hcl:cur.toList.length=cur.size:=Array.length_toList
 have hln:((cur.toList.drop (o+(k+1) * 2)).take ((zs.length - (k+1)) * 2)).length=(zs.length - (k+1)) * 2:=by
  rw [List.length_take,List.length_drop,hcl]
  omega
 have hr:=run_append_roomO (P:=P) W t ty 153 i ht hi g o k uc cur hg ⟨g,q,none⟩ (zs.length - (k+1)) c ((cur.toList.drop (o+(k+1) * 2)).take ((zs.length - (k+1)) * 2)) (by rw [hln,hsize]) (fun j u hj=>by
  have hjl:=(List.getElem?_eq_some_iff.1 hj).1
  rw [hln] at hjl
  rw [Addr.add_lit,Joins.cell_of_block hg,← Array.getElem?_toList]
  rw [List.getElem?_take,if_pos hjl,List.getElem?_drop] at hj
  rcases hq with hq | hq
  ·omega
  ·rw [hq];exact hj) (fun u hu=>by
  have hu1:=List.mem_of_mem_take hu
  obtain ⟨j,hj⟩:=List.mem_iff_getElem?.1 hu
  have hjl:=(List.getElem?_eq_some_iff.1 hj).1
  rw [hln] at hjl
  rw [List.getElem?_take,if_pos hjl,List.getElem?_drop] at hj
  have h2:((cur.toList.drop o).take (zs.length * 2))[(k+1) * 2+j]?=some u:=by
   rw [List.getElem?_take,if_pos (by omega),List.getElem?_drop,← hj]
   congr 1
   omega
  rw [htk] at h2
  exact memW zs u (List.mem_of_getElem? h2)) (by omega) (by rw [hln,hsize];omega)
 rw [hsize,hln] at hr
 rw [hr,List.length_eraseIdx,if_pos hk]
 unfold delX
 rw [show k+(zs.length - (k+1))=zs.length - 1 by omega]
theorem flat_take (zs:List Wt) (k:Nat) (hk:k≤zs.length):(zs.flatMap clW).take (k * 2)=(zs.take k).flatMap clW:=by
 have h:zs.flatMap clW=(zs.take k).flatMap clW ++ (zs.drop k).flatMap clW:=by rw [← List.flatMap_append,List.take_append_drop]
 rw [h,List.take_left' (by rw [lenW,List.length_take];omega)]
theorem flat_drop (zs:List Wt) (k:Nat) (hk:k≤zs.length):(zs.flatMap clW).drop (k * 2)=(zs.drop k).flatMap clW:=by
 have h:zs.flatMap clW=(zs.take k).flatMap clW ++ (zs.drop k).flatMap clW:=by rw [← List.flatMap_append,List.take_append_drop]
 rw [h,List.drop_left' (by rw [lenW,List.length_take];omega)]
theorem delX_size {cur:Array Value} {o k n uc:Nat} (hk:k<n) (hle:n≤uc) (hfit:o+uc * 2≤cur.size):(delX cur o k n).size=cur.size:=by
 have hcl:cur.toList.length=cur.size:=Array.length_toList
 unfold delX
 simp only [List.size_toArray,List.length_append,List.length_take,List.length_drop,hcl]
 omega
theorem delX_row {cur:Array Value} {o k uc:Nat} {zs:List Wt} (hk:k<zs.length) (hle:zs.length≤uc) (hfit:o+uc * 2≤cur.size) (htk:(cur.toList.drop o).take (zs.length * 2)=zs.flatMap clW):((delX cur o k zs.length).toList.drop o).take ((zs.length - 1) * 2)=(zs.eraseIdx k).flatMap clW:=by
 have hcl:cur.toList.length=cur.size:=Array.length_toList
 have e1:(cur.toList.take (o+k * 2)).drop o=(zs.take k).flatMap clW:=by
  rw [List.drop_take,show o+k * 2 - o=k * 2 by omega,← flat_take zs k (by omega),← htk,List.take_take,Nat.min_eq_left (by omega)]
 have e2:(cur.toList.drop (o+(k+1) * 2)).take ((zs.length - (k+1)) * 2)=(zs.drop (k+1)).flatMap clW:=by
  rw [← flat_drop zs (k+1) (by omega),← htk,List.drop_take,List.drop_drop]
  congr 1
  omega
 have hA:o≤(cur.toList.take (o+k * 2)).length:=by rw [List.length_take,hcl];omega
 unfold delX
 simp only
 rw [e2,List.drop_append_of_le_length (by rw [List.length_append];omega),List.drop_append_of_le_length hA,e1,List.take_left' (by rw [List.length_append,lenW,lenW,List.length_take,List.length_drop];omega),List.eraseIdx_eq_take_drop_succ,List.flatMap_append]
def clrX (cur:Array Value) (q:Nat):Array Value:=(cur.toList.take q ++ [Value.int .i64 0,Value.int .i64 0] ++ cur.toList.drop (q+2)).toArray
theorem clrX_size {cur:Array Value} {q:Nat} (hq:q+2≤cur.size):(clrX cur q).size=cur.size:=by
 have hcl:cur.toList.length=cur.size:=Array.length_toList
 unfold clrX
 simp only [List.size_toArray,List.length_append,List.length_take,List.length_drop,hcl,List.length_cons,List.length_nil]
 omega
theorem clrX_row {cur:Array Value} {o q m:Nat} (hq:q+2≤cur.size) (hm:o+m≤q):((clrX cur q).toList.drop o).take m=(cur.toList.drop o).take m:=by
 have hcl:cur.toList.length=cur.size:=Array.length_toList
 unfold clrX
 simp only
 have hA:(cur.toList.take q).length=q:=by rw [List.length_take,hcl];omega
 rw [List.drop_append_of_le_length (by rw [List.length_append];omega),List.drop_append_of_le_length (by omega),List.append_assoc,List.take_append_of_le_length (by rw [List.length_drop];omega),List.drop_take,List.take_take,Nat.min_eq_left (by omega)]
theorem clr_run {P:Program} (t ty:TypeId) (ht:P.underlying t=some (.slice 153)) (hv:∀ w,(zeroValue 153).run P w=.ok (.agg #[.int .i64 0,.int .i64 0]) w) (W:World) (g q m c:Nat) (cur:Array Value) (hg:W.heap[g]?=some (.cells cur 153 (0,0))) (hm:m=1) (hq:q+2≤cur.size) :
 (Builtin.clear_ #[t] ty #[.slice (some ⟨g,q,none⟩) m c]).run P W=.ok (.tuple #[]) (W.setRow g (clrX cur q)):=by
 subst hm
 have hst:=run_storeCells_at P g q 153 [Value.int .i64 0,Value.int .i64 0] 0 cur W hg (by simpa using hq) (by intro v hv';simp at hv';rw [hv'];rfl)
 have hzc:(Builtin.zeroCells (Value.agg #[.int .i64 0,.int .i64 0]).cells 1).toList=[Value.int .i64 0,Value.int .i64 0]:=by kernel_rfl
 simp only [Nat.add_zero] at hst
 simp [Builtin.clear_,run_underlying ht,hv,hzc,hst,clrX]
theorem zeroW (W:World):(zeroValue 153).run Tryz.prog W=.ok (.agg #[.int .i64 0,.int .i64 0]) W:=Tryz.zeroValue153 W
set_option maxRecDepth 100000 in
set_option maxHeartbeats 1600000 in
theorem delete_any (B:Nat) (ua:Option Addr) (uc:Nat) (zs:List Wt) (w:World) (ho:OwnO w B (.slice ua zs.length uc) zs) (k:Nat) (hk:k<zs.length) (hl:zs.length≤1000) :
 Calls Tryz.prog 148 #[.slice ua zs.length uc,.int .i64 (k:Int),.int .i64 ((k:Int)+1)] w fun e w'=>e=.returned (.slice ua (zs.eraseIdx k).length uc)∧OwnO w' B (.slice ua (zs.eraseIdx k).length uc) (zs.eraseIdx k)∧w.grownBy w' (Value.ownBlock (.slice ua zs.length uc)):=by
 obtain ⟨_,h0⟩ | ⟨g,o,cap,cur,he,hBg,hg,hle,hcm,hfit,htk⟩:=ho
 ·rw [h0] at hk;simp at hk
 obtain ⟨he1,_,he2⟩ : ua=some ⟨g,o,none⟩∧True∧uc=cap:=by injection he with a b c;exact ⟨a,trivial,c⟩
 subst he1 he2
 have hn:(k:Int)<(zs.length:Int):=by omega
 have hne:¬ ((k:Int)=(k:Int)+1):=by omega
 obtain ⟨i0,hi0,hz0,hz1,hz2⟩:=info_parts infoW
 have HDR:Hid (∀ (W:World) (c q:Nat),W.heap[g]?=some (.cells cur 153 (0,0))→(zs.length=k+1 ∨ q=o+(k+1) * 2)→(Builtin.append_ #[43,43] 43 #[.slice (some ⟨g,o,none⟩) k uc,.slice (some ⟨g,q,none⟩) (zs.length - (k+1)) c]).run Tryz.prog W=.ok (.slice (some ⟨g,o,none⟩) (zs.eraseIdx k).length uc) (W.setRow g (delX cur o k zs.length))):=fun W c q hW hq=>del_run _ _ i0 Tryz.underlying43 hi0 hz1 W g o uc c q k cur zs hW hle hfit htk hk hq
 have HG:Hid (w.heap[g]?=some (.cells cur 153 (0,0))):=hg
 have HTK:Hid ((cur.toList.drop o).take (zs.length * 2)=zs.flatMap clW∧o+uc * 2≤cur.size):=⟨htk,hfit⟩
 have hel:(zs.eraseIdx k).length=zs.length - 1:=by rw [List.length_eraseIdx,if_pos hk]
 have hlc:zs.length≤uc:=hle
 have hk1:(k:Int)≤(k:Int)+1:=by omega
 have hk4:(0:Int)≤(k:Int)+1:=by omega
 have hk2:k≤uc:=by omega
 have hk3:(k:Int)+1≤(zs.length:Int):=by omega
 clear hg htk hfit hle
 go_enter Tryz.func148,Tryz.ntmps148
 go_upto_region 5 with fail
 by_cases hq:uc=k+1
 ·subst hq
  go_region_held_law (fun _=>True) (exact trivial) (first | (refine step_run (by rfl) _ _ 43 (by rfl) _ _ _ _ _ (by rfl) (by rfl) (HDR.out _ _ _ (by first | exact HG.out | exact HG.out) (.inl (by omega))) ?_))
  all_goals
   have HNK:Hid (zs.length=k+1):=by show _=_;omega
   have hq6:o+k * 2+2≤cur.size:=by have:=HTK.out.2;omega
   have HCL:Hid (∀ (W:World) (m c:Nat),W.heap[g]?=some (.cells cur 153 (0,0))→m=1→(Builtin.clear_ #[43] 0 #[.slice (some ⟨g,o+k * 2,none⟩) m c]).run Tryz.prog W=.ok (.tuple #[]) (W.setRow g (clrX cur (o+k * 2)))):=fun W m c hW hm=>clr_run _ _ Tryz.underlying43 zeroW W g (o+k * 2) m c cur hW hm hq6
   have hcl:=HCL.out w.drew (zs.length - k) 1 HG.out (by omega)
   go_wp2_with fail
   go_ret
   have hnk:=HNK.out
   refine ⟨by rw [hel,hnk,Nat.add_sub_cancel];rfl,.inr ⟨g,o,k+1,clrX cur (o+k * 2),rfl,hBg,setRow_heap w.drew g cur _ _ _ HG.out,by omega,hcm,by rw [clrX_size hq6];exact HTK.out.2,?_⟩,⟨rfl,rfl,rfl,by simp,fun j hj hne=>setRow_other w.drew g j _ (fun e=>hne (by rw [e];rfl))⟩⟩
   rw [clrX_row hq6 (by rw [hel];omega),hel,show zs.length - 1=k by omega]
   have e1:(cur.toList.drop o).take (k * 2)=(zs.take k).flatMap clW:=by rw [← flat_take zs k (by omega),← HTK.out.1,List.take_take,Nat.min_eq_left (by omega)]
   rw [e1,List.eraseIdx_eq_take_drop_succ,List.drop_of_length_le (by omega),List.append_nil]
 ·go_region_held_law (fun _=>True) (exact trivial) (first | (refine step_run (by rfl) _ _ 43 (by rfl) _ _ _ _ _ (by rfl) (by rfl) (HDR.out _ _ _ (by first | exact HG.out | exact HG.out) (.inr (by omega))) ?_;try go_simp))
  all_goals
   have hdr:=delX_row (cur:=cur) (o:=o) (uc:=uc) hk hlc HTK.out.2 HTK.out.1
   have hds:=delX_size (cur:=cur) (o:=o) (uc:=uc) hk hlc HTK.out.2
   have HD:Hid ((w.drew.setRow g (delX cur o k zs.length)).heap[g]?=some (.cells (delX cur o k zs.length) 153 (0,0))∧w.grownBy (w.drew.setRow g (delX cur o k zs.length)) (some g)):=⟨setRow_heap w.drew g cur _ _ _ HG.out,⟨rfl,rfl,rfl,by simp,fun j hj hne=>setRow_other w.drew g j _ (fun e=>hne (by rw [e]))⟩⟩
   have hz1:1≤zs.length:=by omega
   generalize delX cur o k zs.length=D at HD hdr hds ⊢
   have HDD:Hid ((D.toList.drop o).take ((zs.length - 1) * 2)=(zs.eraseIdx k).flatMap clW∧o+uc * 2≤D.size):=⟨hdr,by rw [hds];exact HTK.out.2⟩
   clear hdr hds HG HTK HDR
   generalize w.drew.setRow g D=w6 at HD ⊢
   have hq6:o+(zs.length - 1) * 2+2≤D.size:=by have:=HDD.out.2;omega
   have HCL:Hid (∀ (m c:Nat),m=1→(Builtin.clear_ #[43] 0 #[.slice (some ⟨g,o+(zs.length - 1) * 2,none⟩) m c]).run Tryz.prog w6=.ok (.tuple #[]) (w6.setRow g (clrX D (o+(zs.length - 1) * 2)))):=fun m c hm=>clr_run _ _ Tryz.underlying43 zeroW w6 g (o+(zs.length - 1) * 2) m c D HD.out.1 hm hq6
   have hcl:=HCL.out (zs.length - (zs.length - 1)) (uc - (zs.length - 1)) (by omega)
   have hnu:¬ (uc=zs.length - 1):=by omega
   have hn1:zs.length - 1≤zs.length:=by omega
   have hni:((zs.length - 1:Nat):Int)≤(zs.length:Int):=by omega
   go_wp2_with fail
   go_ret
   refine ⟨by rw [hel];rfl,.inr ⟨g,o,uc,clrX D (o+(zs.length - 1) * 2),rfl,hBg,setRow_heap w6 g D _ _ _ HD.out.1,by rw [hel];omega,hcm,by rw [clrX_size hq6];exact HDD.out.2,?_⟩,⟨HD.out.2.os,HD.out.2.tape,HD.out.2.output,by simpa using HD.out.2.size,fun j hj hne=>(setRow_other w6 g j _ (fun e=>hne (by rw [e];rfl))).trans (HD.out.2.block j hj (fun e=>hne (by rw [e];rfl)))⟩⟩
   rw [clrX_row hq6 (by rw [hel];omega),hel]
   exact HDD.out.1
end Go.Proofs.YticokpbelgpfmaaGreat.Js
namespace Go.Proofs.YticokpbelgpfmaaGreat.Jt
open Go.RowKit By Ap Tb Tw Mw Wa Bk Tp Da Ja Jb Jc
open Lo (LkA uV clL OwnL zAG zAK Apart zAP zAX)
open Tx (zAA zAC zAE zAJ zAD)
open Je Jd Jr Js
open Ea (wIx)
def rqA (r:Da.Ask):Value:=.agg #[.int .i64 r.cl,.int .i64 r.st,.int .i64 r.kd,.int .i64 r.le,.string r.nm]
structure AcP (w w':World) (B p bL bS:Nat) (tm nx:Int) (v v':Value) (ws:List Wt):Prop where
 hp:w'.heap[p]?=some (.cells #[.int .i64 tm,.int .i64 nx,.map (some bL),.map (some bS)] 109 (0,0))
 os:w'.os=w.os
 tape:w'.tape=w.tape
 output:w'.output=w.output
 size:w.heap.size≤w'.heap.size
 bz:∀ b,b<w.heap.size→b ≠ p→some b ≠ v.ownBlock→w'.heap[b]?=w.heap[b]?
 ow:OwnO w' B v' ws
 nb:Nb w v v'
section
variable {w0 w:World} {B p bL bS:Nat} {T:Tab} {ps:List LkA}
theorem cf5 {W:World} {q r j:Nat} {x a b c d e:Value} (h:q ≠ r) (hc:W.cell? ⟨q,j,none⟩=some x):(((((W.setCell ⟨r,0,none⟩ a).setCell ⟨r,1,none⟩ b).setCell ⟨r,2,none⟩ c).setCell ⟨r,3,none⟩ d).setCell ⟨r,4,none⟩ e).cell? ⟨q,j,none⟩=some x:=cf h (cf h (cf h (cf h (cf h hc))))
theorem bel3 (w:World) (a b c:Obj):Below w.heap.size w (((w.alloc a).alloc b).alloc c):=(bel2 w a b).alloc (by rw [Bk.zAL,Bk.zAL];omega) c
set_option maxRecDepth 100000 in
set_option maxHeartbeats 3200000 in
theorem renew_any (h:BK w0 w B p bL bS T ps) (x:Lk) (ua:Option Addr) (uc:Nat) (hw:OwnO w B (.slice ua x.ws.length uc) x.ws) (r:Da.Ask) (hkd:r.kd=3) (hle:0≤r.le∧r.le≤1000) (ht0:0≤T.tm) (ht1:T.tm≤1000000000) (_hn0:1≤T.nx) (_hn1:T.nx≤999999) (hcap:x.ws.length≤4) :
 Calls Tryz.prog 123 #[.pointer (some ⟨p,0,none⟩),lkV x (.slice ua x.ws.length uc),rqA r] w fun e w'=>∃ ua' uc',e=.returned (.tuple #[lkV (acL T.tm T.nx r x) (.slice ua' (acL T.tm T.nx r x).ws.length uc'),.int .i64 (acK r x)])∧AcP w w' B p bL bS T.tm (acN T.nx r x) (.slice ua x.ws.length uc) (.slice ua' (acL T.tm T.nx r x).ws.length uc') (acL T.tm T.nx r x).ws:=by
 obtain ⟨xn,xt,xh,xe,ws⟩:=x
 dsimp only at hw hcap ⊢
 have HH:Hid (BK w0 w B p bL bS T ps):=h
 have HO:Hid (OwnO w B (.slice ua ws.length uc) ws):=hw
 have HPL:Hid (p<w.heap.size∧B≤w.heap.size):=⟨h.plt,h.size⟩
 have HB:Hid (Below w.heap.size w (((w.alloc (.cells #[.string xn,.int .i64 xt,.int .i64 xh,.int .i64 xe,.slice ua ws.length uc] 45)).alloc (.cells #[.int .i64 r.cl,.int .i64 r.st,.int .i64 r.kd,.int .i64 r.le,.string r.nm] 42)).alloc (.cells #[.string ⟨#[]⟩,.int .i64 0,.int .i64 0,.int .i64 0,.slice none 0 0] 45))∧(((w.alloc (.cells #[.string xn,.int .i64 xt,.int .i64 xh,.int .i64 xe,.slice ua ws.length uc] 45)).alloc (.cells #[.int .i64 r.cl,.int .i64 r.st,.int .i64 r.kd,.int .i64 r.le,.string r.nm] 42)).alloc (.cells #[.string ⟨#[]⟩,.int .i64 0,.int .i64 0,.int .i64 0,.slice none 0 0] 45)).heap[w.heap.size]?=some (.cells #[.string xn,.int .i64 xt,.int .i64 xh,.int .i64 xe,.slice ua ws.length uc] 45 (0,0))∧(((w.alloc (.cells #[.string xn,.int .i64 xt,.int .i64 xh,.int .i64 xe,.slice ua ws.length uc] 45)).alloc (.cells #[.int .i64 r.cl,.int .i64 r.st,.int .i64 r.kd,.int .i64 r.le,.string r.nm] 42)).alloc (.cells #[.string ⟨#[]⟩,.int .i64 0,.int .i64 0,.int .i64 0,.slice none 0 0] 45)).heap[w.heap.size+1]?=some (.cells #[.int .i64 r.cl,.int .i64 r.st,.int .i64 r.kd,.int .i64 r.le,.string r.nm] 42 (0,0))∧(((w.alloc (.cells #[.string xn,.int .i64 xt,.int .i64 xh,.int .i64 xe,.slice ua ws.length uc] 45)).alloc (.cells #[.int .i64 r.cl,.int .i64 r.st,.int .i64 r.kd,.int .i64 r.le,.string r.nm] 42)).alloc (.cells #[.string ⟨#[]⟩,.int .i64 0,.int .i64 0,.int .i64 0,.slice none 0 0] 45)).heap[w.heap.size+1+1]?=some (.cells #[.string ⟨#[]⟩,.int .i64 0,.int .i64 0,.int .i64 0,.slice none 0 0] 45 (0,0))):=⟨bel3 _ _ _ _,(zAX w _ _ _).1,(zAX w _ _ _).2.1,(zAX w _ _ _).2.2⟩
 have HAC:Hid (∀ W,Below w.heap.size w W→AcP w W B p bL bS T.tm T.nx (.slice ua ws.length uc) (.slice ua ws.length uc) ws):=fun W hW=>⟨(HH.out.up hW).hp,hW.os,hW.tape,hW.output,hW.size,fun b hb _ _=>hW.block b hb,HO.out.below hW,.inl rfl⟩
 have HKI:Hid (r.kd=3):=hkd
 clear h hw hkd
 unfold lkV rqA
 go_enter Tryz.func123,Tryz.ntmps123
 go_upto_region 1 with fail
 obtain ⟨w1,hw1⟩ : ∃ w1,(((w.alloc (.cells #[.string xn,.int .i64 xt,.int .i64 xh,.int .i64 xe,.slice ua ws.length uc] 45)).alloc (.cells #[.int .i64 r.cl,.int .i64 r.st,.int .i64 r.kd,.int .i64 r.le,.string r.nm] 42)).alloc (.cells #[.string ⟨#[]⟩,.int .i64 0,.int .i64 0,.int .i64 0,.slice none 0 0] 45))=w1:=⟨_,rfl⟩
 rw [hw1] at HB ⊢
 clear hw1
 obtain ⟨l0,m0⟩:=zAA HB.out.2.1 0 (x:=.string xn) rfl
 obtain ⟨l1,m1⟩:=zAA HB.out.2.1 1 (x:=.int .i64 xt) rfl
 obtain ⟨l2,m2⟩:=zAA HB.out.2.1 2 (x:=.int .i64 xh) rfl
 obtain ⟨l3,m3⟩:=zAA HB.out.2.1 3 (x:=.int .i64 xe) rfl
 obtain ⟨l4,m4⟩:=zAA HB.out.2.1 4 (x:=.slice ua ws.length uc) rfl
 have q0:=(zAA HB.out.2.2.1 0 (x:=.int .i64 r.cl) rfl).1
 have q1:=(zAA HB.out.2.2.1 1 (x:=.int .i64 r.st) rfl).1
 have q2:=(zAA HB.out.2.2.1 2 (x:=.int .i64 r.kd) rfl).1
 have q3:=(zAA HB.out.2.2.1 3 (x:=.int .i64 r.le) rfl).1
 have q4:=(zAA HB.out.2.2.1 4 (x:=.string r.nm) rfl).1
 obtain ⟨r0,s0⟩:=zAA HB.out.2.2.2 0 (x:=.string ⟨#[]⟩) rfl
 obtain ⟨r1,s1⟩:=zAA HB.out.2.2.2 1 (x:=.int .i64 0) rfl
 obtain ⟨r2,s2⟩:=zAA HB.out.2.2.2 2 (x:=.int .i64 0) rfl
 obtain ⟨r3,s3⟩:=zAA HB.out.2.2.2 3 (x:=.int .i64 0) rfl
 obtain ⟨r4,s4⟩:=zAA HB.out.2.2.2 4 (x:=.slice none 0 0) rfl
 have p0:=(zAA (HH.out.up HB.out.1).hp 0 (x:=.int .i64 T.tm) rfl).1
 by_cases c1:xh=r.cl
 ·have hb1:(xh != r.cl)=false:=by simp [c1]
  have HST:Hid (acL T.tm T.nx r ⟨xn,xt,xh,xe,ws⟩=⟨xn,xt,xh,T.tm+r.le,ws⟩∧acN T.nx r ⟨xn,xt,xh,xe,ws⟩=T.nx∧acK r ⟨xn,xt,xh,xe,ws⟩=1):=by refine ⟨?_,?_,?_⟩ <;> simp [acL,acN,acK,HKI.out,c1]
  clear c1
  have HCC:Hid (xh=r.cl):=by have:=hb1;simp at this;exact this
  go_upto_region 3 with fail
  have hwr:IntKind.i64.wrap (T.tm+r.le)=T.tm+r.le:=by rw [IntKind.wrap_i64];omega
  have HC:Hid ((w1.setCell ⟨w.heap.size,3,none⟩ (.int .i64 (T.tm+r.le))).drew.heap[w.heap.size]?=some (.cells #[.string xn,.int .i64 xt,.int .i64 xh,.int .i64 (T.tm+r.le),.slice ua ws.length uc] 45 (0,0))∧(w1.setCell ⟨w.heap.size,3,none⟩ (.int .i64 (T.tm+r.le))).drew.heap[w.heap.size+1+1]?=some (.cells #[.string ⟨#[]⟩,.int .i64 0,.int .i64 0,.int .i64 0,.slice none 0 0] 45 (0,0))∧Below w.heap.size w (w1.setCell ⟨w.heap.size,3,none⟩ (.int .i64 (T.tm+r.le))).drew):=⟨zAC HB.out.2.1 3 _,(zAE (by omega) 3 _).trans HB.out.2.2.2,(Below.setCell HB.out.1 (p:=⟨w.heap.size,3,none⟩) (Nat.le_refl _) _).drew⟩
  have HPN:Hid (p ≠ w.heap.size∧w.heap.size+1 ≠ w.heap.size):=⟨by have:=HPL.out;omega,by omega⟩
  go_region_held_law (fun W=>W.cell? ⟨p,0,none⟩=some (.int .i64 T.tm)∧W.cell? ⟨w.heap.size+1,3,none⟩=some (.int .i64 r.le)) (first | exact ⟨p0,q3⟩ | exact ⟨cf HPN.out.1 p0,cf HPN.out.2 q3⟩) (fail)
  all_goals
   go_upto_region 4 with fail
   try rw [hwr]
   clear l0 m0 l1 m1 l2 m2 l3 m3 l4 m4 r0 s0 r1 s1 r2 s2 r3 s3 r4 s4 q0 q1 q2 q3 q4 p0
   generalize (w1.setCell ⟨w.heap.size,3,none⟩ (.int .i64 (T.tm+r.le))).drew=w2 at HC ⊢
   have l0:=(zAA HC.out.1 0 (x:=.string xn) rfl).1
   have l1:=(zAA HC.out.1 1 (x:=.int .i64 xt) rfl).1
   have l2:=(zAA HC.out.1 2 (x:=.int .i64 xh) rfl).1
   have l3:=(zAA HC.out.1 3 (x:=.int .i64 (T.tm+r.le)) rfl).1
   have l4:=(zAA HC.out.1 4 (x:=.slice ua ws.length uc) rfl).1
   obtain ⟨r0,s0⟩:=zAA HC.out.2.1 0 (x:=.string ⟨#[]⟩) rfl
   obtain ⟨r1,s1⟩:=zAA HC.out.2.1 1 (x:=.int .i64 0) rfl
   obtain ⟨r2,s2⟩:=zAA HC.out.2.1 2 (x:=.int .i64 0) rfl
   obtain ⟨r3,s3⟩:=zAA HC.out.2.1 3 (x:=.int .i64 0) rfl
   obtain ⟨r4,s4⟩:=zAA HC.out.2.1 4 (x:=.slice none 0 0) rfl
   have HF:Hid ((((((w2.setCell ⟨w.heap.size+1+1,0,none⟩ (.string xn)).setCell ⟨w.heap.size+1+1,1,none⟩ (.int .i64 xt)).setCell ⟨w.heap.size+1+1,2,none⟩ (.int .i64 xh)).setCell ⟨w.heap.size+1+1,3,none⟩ (.int .i64 (T.tm+r.le))).setCell ⟨w.heap.size+1+1,4,none⟩ (.slice ua ws.length uc)).heap[w.heap.size+1+1]?=some (.cells #[.string xn,.int .i64 xt,.int .i64 xh,.int .i64 (T.tm+r.le),.slice ua ws.length uc] 45 (0,0))∧AcP w (((((w2.setCell ⟨w.heap.size+1+1,0,none⟩ (.string xn)).setCell ⟨w.heap.size+1+1,1,none⟩ (.int .i64 xt)).setCell ⟨w.heap.size+1+1,2,none⟩ (.int .i64 xh)).setCell ⟨w.heap.size+1+1,3,none⟩ (.int .i64 (T.tm+r.le))).setCell ⟨w.heap.size+1+1,4,none⟩ (.slice ua ws.length uc)) B p bL bS T.tm T.nx (.slice ua ws.length uc) (.slice ua ws.length uc) ws):=by
    obtain ⟨hr,ha⟩:=(⟨HC.out.2.1,HAC.out _ HC.out.2.2⟩ : w2.heap[w.heap.size+1+1]?=some (.cells #[.string ⟨#[]⟩,.int .i64 0,.int .i64 0,.int .i64 0,.slice none 0 0] 45 (0,0))∧AcP w w2 B p bL bS T.tm T.nx (.slice ua ws.length uc) (.slice ua ws.length uc) ws)
    have hpl:=HPL.out.1
    refine ⟨set5 hr _ _ _ _ _,⟨(far5 (by omega) _ _ _ _ _).trans ha.hp,ha.os,ha.tape,ha.output,by simpa using ha.size,fun b hb hn hv=>(far5 (by omega) _ _ _ _ _).trans (ha.bz b hb hn hv),ha.ow.kept fun g hg=>far5 (fun e=>?_) _ _ _ _ _,ha.nb⟩⟩
    rw [e] at hg
    exact ha.ow.kind hr (fun cs=>by intro e;cases e) hg
   go_wp2_with fail
   generalize (((((w2.setCell ⟨w.heap.size+1+1,0,none⟩ (.string xn)).setCell ⟨w.heap.size+1+1,1,none⟩ (.int .i64 xt)).setCell ⟨w.heap.size+1+1,2,none⟩ (.int .i64 xh)).setCell ⟨w.heap.size+1+1,3,none⟩ (.int .i64 (T.tm+r.le))).setCell ⟨w.heap.size+1+1,4,none⟩ (.slice ua ws.length uc))=wf at HF ⊢
   have d0:=(zAA HF.out.1 0 (x:=.string xn) rfl).1
   have d1:=(zAA HF.out.1 1 (x:=.int .i64 xt) rfl).1
   have d2:=(zAA HF.out.1 2 (x:=.int .i64 xh) rfl).1
   have d3:=(zAA HF.out.1 3 (x:=.int .i64 (T.tm+r.le)) rfl).1
   have d4:=(zAA HF.out.1 4 (x:=.slice ua ws.length uc) rfl).1
   exact bodyPost_ret (v:=.tuple #[.agg #[.string xn,.int .i64 xt,.int .i64 xh,.int .i64 (T.tm+r.le),.slice ua ws.length uc],.int .i64 1]) (by simp [results,Tryz.results123,go_sem,d0,d1,d2,d3,d4]) rfl ⟨_,_,(by rw [HST.out.1,HST.out.2.2];try rfl),by rw [HST.out.1,HST.out.2.1];exact HF.out.2⟩
 ·have hb1:(xh != r.cl)=true:=by simp [c1]
  have HST:Hid (acL T.tm T.nx r ⟨xn,xt,xh,xe,ws⟩=⟨xn,xt,xh,xe,ws⟩∧acN T.nx r ⟨xn,xt,xh,xe,ws⟩=T.nx∧acK r ⟨xn,xt,xh,xe,ws⟩=stK ⟨xn,xt,xh,xe,ws⟩):=by refine ⟨?_,?_,?_⟩ <;> simp [acL,acN,acK,HKI.out,c1]
  have HLR:Hid (w.heap.size ≠ w.heap.size+1+1):=by show _ ≠ _;omega
  clear c1
  go_upto_region 2 with fail
  clear l0 m0 l1 m1 l2 m2 l3 m3 l4 m4 r0 s0 r1 s1 r2 s2 r3 s3 r4 s4 q0 q1 q2 q3 q4 p0
  have HX:Hid (∀ W,Below w1.heap.size w1 W→W.heap[w.heap.size]?=some (.cells #[.string xn,.int .i64 xt,.int .i64 xh,.int .i64 xe,.slice ua ws.length uc] 45 (0,0))∧W.heap[w.heap.size+1+1]?=some (.cells #[.string ⟨#[]⟩,.int .i64 0,.int .i64 0,.int .i64 0,.slice none 0 0] 45 (0,0))∧Below w.heap.size w W):=fun W hW=>⟨(hW.block _ (Array.getElem?_eq_some_iff.1 (⟨HB.out.2.1,HB.out.2.2.2,HB.out.1⟩ : w1.heap[w.heap.size]?=some (.cells #[.string xn,.int .i64 xt,.int .i64 xh,.int .i64 xe,.slice ua ws.length uc] 45 (0,0))∧w1.heap[w.heap.size+1+1]?=some (.cells #[.string ⟨#[]⟩,.int .i64 0,.int .i64 0,.int .i64 0,.slice none 0 0] 45 (0,0))∧Below w.heap.size w w1).1).1).trans (⟨HB.out.2.1,HB.out.2.2.2,HB.out.1⟩ : w1.heap[w.heap.size]?=some (.cells #[.string xn,.int .i64 xt,.int .i64 xh,.int .i64 xe,.slice ua ws.length uc] 45 (0,0))∧w1.heap[w.heap.size+1+1]?=some (.cells #[.string ⟨#[]⟩,.int .i64 0,.int .i64 0,.int .i64 0,.slice none 0 0] 45 (0,0))∧Below w.heap.size w w1).1,(hW.block _ (Array.getElem?_eq_some_iff.1 (⟨HB.out.2.1,HB.out.2.2.2,HB.out.1⟩ : w1.heap[w.heap.size]?=some (.cells #[.string xn,.int .i64 xt,.int .i64 xh,.int .i64 xe,.slice ua ws.length uc] 45 (0,0))∧w1.heap[w.heap.size+1+1]?=some (.cells #[.string ⟨#[]⟩,.int .i64 0,.int .i64 0,.int .i64 0,.slice none 0 0] 45 (0,0))∧Below w.heap.size w w1).2.1).1).trans (⟨HB.out.2.1,HB.out.2.2.2,HB.out.1⟩ : w1.heap[w.heap.size]?=some (.cells #[.string xn,.int .i64 xt,.int .i64 xh,.int .i64 xe,.slice ua ws.length uc] 45 (0,0))∧w1.heap[w.heap.size+1+1]?=some (.cells #[.string ⟨#[]⟩,.int .i64 0,.int .i64 0,.int .i64 0,.slice none 0 0] 45 (0,0))∧Below w.heap.size w w1).2.1,(⟨HB.out.2.1,HB.out.2.2.2,HB.out.1⟩ : w1.heap[w.heap.size]?=some (.cells #[.string xn,.int .i64 xt,.int .i64 xh,.int .i64 xe,.slice ua ws.length uc] 45 (0,0))∧w1.heap[w.heap.size+1+1]?=some (.cells #[.string ⟨#[]⟩,.int .i64 0,.int .i64 0,.int .i64 0,.slice none 0 0] 45 (0,0))∧Below w.heap.size w w1).2.2.trans (hW.mono (⟨HB.out.2.1,HB.out.2.2.2,HB.out.1⟩ : w1.heap[w.heap.size]?=some (.cells #[.string xn,.int .i64 xt,.int .i64 xh,.int .i64 xe,.slice ua ws.length uc] 45 (0,0))∧w1.heap[w.heap.size+1+1]?=some (.cells #[.string ⟨#[]⟩,.int .i64 0,.int .i64 0,.int .i64 0,.slice none 0 0] 45 (0,0))∧Below w.heap.size w w1).2.2.size)⟩
  have HCL:Hid (∀ W,Below w1.heap.size w1 W→W.cell? ⟨w.heap.size,0,none⟩=some (.string xn)∧W.cell? ⟨w.heap.size,1,none⟩=some (.int .i64 xt)∧W.cell? ⟨w.heap.size,2,none⟩=some (.int .i64 xh)∧W.cell? ⟨w.heap.size,3,none⟩=some (.int .i64 xe)∧W.cell? ⟨w.heap.size,4,none⟩=some (.slice ua ws.length uc)):=fun W hW=>by
   have hx:=(HX.out W hW).1
   exact ⟨(zAA hx 0 rfl).1,(zAA hx 1 rfl).1,(zAA hx 2 rfl).1,(zAA hx 3 rfl).1,(zAA hx 4 rfl).1⟩
  have HSD:Hid (∀ W,Below w1.heap.size w1 W→Calls Tryz.prog 120 #[.agg #[.string xn,.int .i64 xt,.int .i64 xh,.int .i64 xe,.slice ua ws.length uc]] W fun e w'=>e=.returned (.int .i64 (stK ⟨xn,xt,xh,xe,ws⟩))∧(w'.cell? ⟨w.heap.size,0,none⟩=some (.string xn)∧w'.cell? ⟨w.heap.size,1,none⟩=some (.int .i64 xt)∧w'.cell? ⟨w.heap.size,2,none⟩=some (.int .i64 xh)∧w'.cell? ⟨w.heap.size,3,none⟩=some (.int .i64 xe)∧w'.cell? ⟨w.heap.size,4,none⟩=some (.slice ua ws.length uc))∧((w'.cell? ⟨w.heap.size+1+1,0,none⟩=some (.string ⟨#[]⟩)∧w'.frozen? ⟨w.heap.size+1+1,0,none⟩=false)∧(w'.cell? ⟨w.heap.size+1+1,1,none⟩=some (.int .i64 0)∧w'.frozen? ⟨w.heap.size+1+1,1,none⟩=false)∧(w'.cell? ⟨w.heap.size+1+1,2,none⟩=some (.int .i64 0)∧w'.frozen? ⟨w.heap.size+1+1,2,none⟩=false)∧(w'.cell? ⟨w.heap.size+1+1,3,none⟩=some (.int .i64 0)∧w'.frozen? ⟨w.heap.size+1+1,3,none⟩=false)∧(w'.cell? ⟨w.heap.size+1+1,4,none⟩=some (.slice none 0 0)∧w'.frozen? ⟨w.heap.size+1+1,4,none⟩=false))∧Hid (w'.heap[w.heap.size+1+1]?=some (.cells #[.string ⟨#[]⟩,.int .i64 0,.int .i64 0,.int .i64 0,.slice none 0 0] 45 (0,0))∧Below w.heap.size w w')):=fun W hW=>by
   refine (zAh ⟨xn,xt,xh,xe,ws⟩ ua ws.length uc W).mono ?_
   rintro e w' ⟨rfl,hb⟩
   have hb2:=hW.trans (hb.mono hW.size)
   have hx:=HX.out w' hb2
   exact ⟨rfl,HCL.out w' hb2,⟨zAA hx.2.1 0 rfl,zAA hx.2.1 1 rfl,zAA hx.2.1 2 rfl,zAA hx.2.1 3 rfl,zAA hx.2.1 4 rfl⟩,hx.2.1,hx.2.2⟩
  have C1:=HCL.out w1 (Below.refl _ _)
  go_region_held_law (fun W=>W.cell? ⟨w.heap.size,0,none⟩=some (.string xn)∧W.cell? ⟨w.heap.size,1,none⟩=some (.int .i64 xt)∧W.cell? ⟨w.heap.size,2,none⟩=some (.int .i64 xh)∧W.cell? ⟨w.heap.size,3,none⟩=some (.int .i64 xe)∧W.cell? ⟨w.heap.size,4,none⟩=some (.slice ua ws.length uc)) (first | with_reducible exact C1 | with_reducible exact HCL.out _ Qc.zAI | with_reducible exact C2 | exact ⟨cf5 HLR.out C2.1,cf5 HLR.out C2.2.1,cf5 HLR.out C2.2.2.1,cf5 HLR.out C2.2.2.2.1,cf5 HLR.out C2.2.2.2.2⟩) ((go_at_call 120;refine (HSD.out _ (by first | exact Below.refl _ _ | exact Qc.zAI)).mono ?_;rintro e wz ⟨rfl,C2,⟨⟨r0,s0⟩,⟨r1,s1⟩,⟨r2,s2⟩,⟨r3,s3⟩,⟨r4,s4⟩⟩,HZ⟩))
  all_goals
   clear C1 C2
   have HF:Hid ((((((wz.setCell ⟨w.heap.size+1+1,0,none⟩ (.string xn)).setCell ⟨w.heap.size+1+1,1,none⟩ (.int .i64 xt)).setCell ⟨w.heap.size+1+1,2,none⟩ (.int .i64 xh)).setCell ⟨w.heap.size+1+1,3,none⟩ (.int .i64 xe)).setCell ⟨w.heap.size+1+1,4,none⟩ (.slice ua ws.length uc)).heap[w.heap.size+1+1]?=some (.cells #[.string xn,.int .i64 xt,.int .i64 xh,.int .i64 xe,.slice ua ws.length uc] 45 (0,0))∧AcP w (((((wz.setCell ⟨w.heap.size+1+1,0,none⟩ (.string xn)).setCell ⟨w.heap.size+1+1,1,none⟩ (.int .i64 xt)).setCell ⟨w.heap.size+1+1,2,none⟩ (.int .i64 xh)).setCell ⟨w.heap.size+1+1,3,none⟩ (.int .i64 xe)).setCell ⟨w.heap.size+1+1,4,none⟩ (.slice ua ws.length uc)) B p bL bS T.tm T.nx (.slice ua ws.length uc) (.slice ua ws.length uc) ws):=by
    obtain ⟨hr,ha⟩:=(⟨HZ.out.1,HAC.out _ HZ.out.2⟩ : wz.heap[w.heap.size+1+1]?=some (.cells #[.string ⟨#[]⟩,.int .i64 0,.int .i64 0,.int .i64 0,.slice none 0 0] 45 (0,0))∧AcP w wz B p bL bS T.tm T.nx (.slice ua ws.length uc) (.slice ua ws.length uc) ws)
    have hpl:=HPL.out.1
    refine ⟨set5 hr _ _ _ _ _,⟨(far5 (by omega) _ _ _ _ _).trans ha.hp,ha.os,ha.tape,ha.output,by simpa using ha.size,fun b hb hn hv=>(far5 (by omega) _ _ _ _ _).trans (ha.bz b hb hn hv),ha.ow.kept fun g hg=>far5 (fun e=>?_) _ _ _ _ _,ha.nb⟩⟩
    rw [e] at hg
    exact ha.ow.kind hr (fun cs=>by intro e;cases e) hg
   go_wp2_with fail
   generalize (((((wz.setCell ⟨w.heap.size+1+1,0,none⟩ (.string xn)).setCell ⟨w.heap.size+1+1,1,none⟩ (.int .i64 xt)).setCell ⟨w.heap.size+1+1,2,none⟩ (.int .i64 xh)).setCell ⟨w.heap.size+1+1,3,none⟩ (.int .i64 xe)).setCell ⟨w.heap.size+1+1,4,none⟩ (.slice ua ws.length uc))=wf at HF ⊢
   have d0:=(zAA HF.out.1 0 (x:=.string xn) rfl).1
   have d1:=(zAA HF.out.1 1 (x:=.int .i64 xt) rfl).1
   have d2:=(zAA HF.out.1 2 (x:=.int .i64 xh) rfl).1
   have d3:=(zAA HF.out.1 3 (x:=.int .i64 xe) rfl).1
   have d4:=(zAA HF.out.1 4 (x:=.slice ua ws.length uc) rfl).1
   exact bodyPost_ret (v:=.tuple #[.agg #[.string xn,.int .i64 xt,.int .i64 xh,.int .i64 xe,.slice ua ws.length uc],.int .i64 (stK ⟨xn,xt,xh,xe,ws⟩)]) (by simp [results,Tryz.results123,go_sem,d0,d1,d2,d3,d4]) rfl ⟨_,_,(by rw [HST.out.1,HST.out.2.2];try rfl),by rw [HST.out.1,HST.out.2.1];exact HF.out.2⟩
end
end Go.Proofs.YticokpbelgpfmaaGreat.Jt
namespace Go.Proofs.YticokpbelgpfmaaGreat.Ju
open Go.RowKit By Ap Tb Tw Mw Wa Bk Tp Da Ja Jb Jc
open Lo (LkA uV clL OwnL zAG zAK Apart zAP zAX)
open Tx (zAA zAC zAE zAJ zAD)
open Je Jd Jr Js Jt
open Ea (wIx)
section
variable {w0 w:World} {B p bL bS:Nat} {T:Tab} {ps:List LkA}
theorem list_appO {P:Program} {ops:Array Oper} {rest:List Oper} {o:Oper} {a:Act} {Q:Exit→Act→World→Prop} (hgd:o.guard=none) (s x:Operand) (t:TypeId)
 (ho:o.op=.call { callee:=.builtin .append,args:=#[s,x],argTypes:=#[t,t] }) (i:TypeInfo) (ht:P.underlying t=some (.slice 153)) (hi:P.info? 153=some i) (hz:i.zero=some (.agg #[.int .i64 0,.int .i64 0]))
 (hsize:i.size=2) (hby:i.bytes=16) (B:Nat) (W:World) (v:Value) (zs:List Wt) (hs:a.eval s=v) (hown:OwnO W B v zs) (hB:B≤W.heap.size) (gx:Nat) (hx:a.eval x=.slice (some ⟨gx,0,none⟩) 1 1) (y:Wt) (hgx:W.heap[gx]?=some (.cells #[.int .i64 y.c,.int .i64 y.l] 153 (0,0))) (hlen:zs.length≤1000)
 (h:∀ v' w',OwnO w' B v' (zs ++ [y])→W.grownBy w' v.ownBlock→Nb W v v'→wpList P ops Q rest (a.put o.dst v') w'):wpList P ops Q (o :: rest) a W:=by
 obtain ⟨v',w',hr,h1,h2,h3⟩:=run_appO (P:=P) t o.type i ht hi hz hsize hby B W v zs hown hB ⟨gx,0,none⟩ 1 y (fun j u hj=>by
  rw [Addr.add_lit,Nat.zero_add,Joins.cell_of_block hgx]
  simpa [clW] using hj) hlen
 refine wpList_plain hgd fun K hK=>?_
 unfold Oper.wp execOp
 simp only [ho,resolve,invoke,builtin,Sem.run_bind,Sem.run_pure,Result.andThen_ok,List.map_toArray,List.map_cons,List.map_nil,hs,hx,hr]
 exact hK _ _ (h v' w' h1 h2 h3)
theorem acp_bx {w1 w2:World} {T':Tab} {v:Value} {ws:List Wt} (h:BK w0 w B p bL bS T ps) (ho:OwnO w B v ws) (hb:Below w.heap.size w w1) (h2:BK w0 w2 B p bL bS T' ps) (hx:Bx p w1 w2):AcP w w2 B p bL bS T'.tm T'.nx v v ws :=
 ⟨h2.hp,h2.bel.os.trans h.bel.os.symm,h2.bel.tape.trans h.bel.tape.symm,h2.bel.output.trans h.bel.output.symm,Nat.le_trans hb.size hx.size,fun b hlt hn _=>(hx.block b (Nat.lt_of_lt_of_le hlt hb.size) hn).trans (hb.block b hlt),(ho.below hb).kept fun g hg=>hx.block g (by have:=((ho.below hb).lt g hg).2;exact this) (fun e=>by
   have hp1:=(h.up hb).hp
   exact (ho.below hb).kind hp1 (fun cs=>by intro e;cases e) (by rw [hg,e])),.inl rfl⟩
theorem zBZ {w1 w2 w4:World} {y:Nat} {cs:Array Value} {e:TypeId} {v:Value} {ws:List Wt} (hy:w1.heap[y]?=some (.cells cs e (0,0))) (hb:Below w1.heap.size w1 w2) (hg:w2.grownBy w4 v.ownBlock) (ho:OwnO w B v ws) (h0:Below w.heap.size w w1) (hne:e ≠ 153:=by decide):w4.heap[y]?=some (.cells cs e (0,0)):=by
 have hlt:=(Array.getElem?_eq_some_iff.1 hy).1
 refine (hg.block y (Nat.lt_of_lt_of_le hlt hb.size) (fun e2=>?_)).trans ((hb.block y hlt).trans hy)
 exact (ho.below h0).kind hy (fun cs'=>by intro e3;injection e3 with _ e4;exact hne e4) e2.symm
theorem acp_app {w1 w2 w4:World} {v v':Value} {ws ws':List Wt} (h:BK w0 w B p bL bS T ps) (ho:OwnO w B v ws) (h0:Below w.heap.size w w1) (hb:Below w1.heap.size w1 w2) (h4:OwnO w4 B v' ws') (hg:w2.grownBy w4 v.ownBlock) (hn:Nb w2 v v'):AcP w w4 B p bL bS T.tm T.nx v v' ws':=by
 have hb2:=h0.trans (hb.mono h0.size)
 refine ⟨zBZ (h.up h0).hp hb hg ho h0,hg.os.trans hb2.os,hg.tape.trans hb2.tape,hg.output.trans hb2.output,Nat.le_trans hb2.size hg.size,fun b hlt _ hne=>(hg.block b (Nat.lt_of_lt_of_le hlt hb2.size) hne).trans (hb2.block b hlt),h4,hn.imp id fun h g hg=>Nat.le_trans hb2.size (h g hg)⟩
theorem acp_set {w4:World} {nx:Int} {v v':Value} {ws':List Wt} {y:Nat} {cs:Array Value} (h:AcP w w4 B p bL bS T.tm nx v v' ws') (hy:w4.heap[y]?=some (.cells cs 45 (0,0))) (i:Nat) (x:Value) (hyw:w.heap.size≤y∧p ≠ y):AcP w (w4.setCell ⟨y,i,none⟩ x) B p bL bS T.tm nx v v' ws' :=
 ⟨(zAE hyw.2 i x).trans h.hp,h.os,h.tape,h.output,by simpa using h.size,fun b hlt hn hv=>(zAE (by omega) i x).trans (h.bz b hlt hn hv),h.ow.kept fun g hg=>zAE (fun e=>h.ow.kind hy (fun cs=>by intro e;cases e) (by rw [hg,e])) i x,h.nb⟩
theorem wix_true {ws:List Wt} {c:Int} (h:wtB ws c=true):wIx ws c=((ws.findIdx fun w=>w.c == c:Nat):Int):=by unfold wIx;rw [if_pos h]
theorem wix_false {ws:List Wt} {c:Int} (h:¬ wtB ws c=true):wIx ws c = -1:=by unfold wIx;rw [if_neg h]
set_option maxRecDepth 100000 in
set_option maxHeartbeats 3200000 in
theorem acquire_any (h:BK w0 w B p bL bS T ps) (x:Lk) (ua:Option Addr) (uc:Nat) (hw:OwnO w B (.slice ua x.ws.length uc) x.ws) (r:Da.Ask) (hkd:r.kd=1) (hle:0≤r.le∧r.le≤1000) (ht0:0≤T.tm) (ht1:T.tm≤1000000000) (hn0:1≤T.nx) (hn1:T.nx≤999999) (hcap:x.ws.length≤4) :
 Calls Tryz.prog 121 #[.pointer (some ⟨p,0,none⟩),lkV x (.slice ua x.ws.length uc),rqA r] w fun e w'=>∃ ua' uc',e=.returned (.tuple #[lkV (acL T.tm T.nx r x) (.slice ua' (acL T.tm T.nx r x).ws.length uc'),.int .i64 (acK r x)])∧AcP w w' B p bL bS T.tm (acN T.nx r x) (.slice ua x.ws.length uc) (.slice ua' (acL T.tm T.nx r x).ws.length uc') (acL T.tm T.nx r x).ws:=by
 obtain ⟨xn,xt,xh,xe,ws⟩:=x
 dsimp only at hw hcap ⊢
 have HH:Hid (BK w0 w B p bL bS T ps):=h
 have HO:Hid (OwnO w B (.slice ua ws.length uc) ws):=hw
 have HPL:Hid (p<w.heap.size∧B≤w.heap.size):=⟨h.plt,h.size⟩
 have HB:Hid (Below w.heap.size w (((w.alloc (.cells #[.string xn,.int .i64 xt,.int .i64 xh,.int .i64 xe,.slice ua ws.length uc] 45)).alloc (.cells #[.int .i64 r.cl,.int .i64 r.st,.int .i64 r.kd,.int .i64 r.le,.string r.nm] 42)).alloc (.cells #[.string ⟨#[]⟩,.int .i64 0,.int .i64 0,.int .i64 0,.slice none 0 0] 45))∧(((w.alloc (.cells #[.string xn,.int .i64 xt,.int .i64 xh,.int .i64 xe,.slice ua ws.length uc] 45)).alloc (.cells #[.int .i64 r.cl,.int .i64 r.st,.int .i64 r.kd,.int .i64 r.le,.string r.nm] 42)).alloc (.cells #[.string ⟨#[]⟩,.int .i64 0,.int .i64 0,.int .i64 0,.slice none 0 0] 45)).heap[w.heap.size]?=some (.cells #[.string xn,.int .i64 xt,.int .i64 xh,.int .i64 xe,.slice ua ws.length uc] 45 (0,0))∧(((w.alloc (.cells #[.string xn,.int .i64 xt,.int .i64 xh,.int .i64 xe,.slice ua ws.length uc] 45)).alloc (.cells #[.int .i64 r.cl,.int .i64 r.st,.int .i64 r.kd,.int .i64 r.le,.string r.nm] 42)).alloc (.cells #[.string ⟨#[]⟩,.int .i64 0,.int .i64 0,.int .i64 0,.slice none 0 0] 45)).heap[w.heap.size+1]?=some (.cells #[.int .i64 r.cl,.int .i64 r.st,.int .i64 r.kd,.int .i64 r.le,.string r.nm] 42 (0,0))∧(((w.alloc (.cells #[.string xn,.int .i64 xt,.int .i64 xh,.int .i64 xe,.slice ua ws.length uc] 45)).alloc (.cells #[.int .i64 r.cl,.int .i64 r.st,.int .i64 r.kd,.int .i64 r.le,.string r.nm] 42)).alloc (.cells #[.string ⟨#[]⟩,.int .i64 0,.int .i64 0,.int .i64 0,.slice none 0 0] 45)).heap[w.heap.size+1+1]?=some (.cells #[.string ⟨#[]⟩,.int .i64 0,.int .i64 0,.int .i64 0,.slice none 0 0] 45 (0,0))):=⟨bel3 _ _ _ _,(zAX w _ _ _).1,(zAX w _ _ _).2.1,(zAX w _ _ _).2.2⟩
 have HAC:Hid (∀ W,Below w.heap.size w W→AcP w W B p bL bS T.tm T.nx (.slice ua ws.length uc) (.slice ua ws.length uc) ws):=fun W hW=>⟨(HH.out.up hW).hp,hW.os,hW.tape,hW.output,hW.size,fun b hb _ _=>hW.block b hb,HO.out.below hW,.inl rfl⟩
 have HKI:Hid (r.kd=1):=hkd
 clear h hw hkd
 unfold lkV rqA
 go_enter Tryz.func121,Tryz.ntmps121
 go_upto_region 1 with fail
 obtain ⟨w1,hw1⟩ : ∃ w1,(((w.alloc (.cells #[.string xn,.int .i64 xt,.int .i64 xh,.int .i64 xe,.slice ua ws.length uc] 45)).alloc (.cells #[.int .i64 r.cl,.int .i64 r.st,.int .i64 r.kd,.int .i64 r.le,.string r.nm] 42)).alloc (.cells #[.string ⟨#[]⟩,.int .i64 0,.int .i64 0,.int .i64 0,.slice none 0 0] 45))=w1:=⟨_,rfl⟩
 rw [hw1] at HB ⊢
 clear hw1
 obtain ⟨l0,m0⟩:=zAA HB.out.2.1 0 (x:=.string xn) rfl
 obtain ⟨l1,m1⟩:=zAA HB.out.2.1 1 (x:=.int .i64 xt) rfl
 obtain ⟨l2,m2⟩:=zAA HB.out.2.1 2 (x:=.int .i64 xh) rfl
 obtain ⟨l3,m3⟩:=zAA HB.out.2.1 3 (x:=.int .i64 xe) rfl
 obtain ⟨l4,m4⟩:=zAA HB.out.2.1 4 (x:=.slice ua ws.length uc) rfl
 have q0:=(zAA HB.out.2.2.1 0 (x:=.int .i64 r.cl) rfl).1
 have q1:=(zAA HB.out.2.2.1 1 (x:=.int .i64 r.st) rfl).1
 have q2:=(zAA HB.out.2.2.1 2 (x:=.int .i64 r.kd) rfl).1
 have q3:=(zAA HB.out.2.2.1 3 (x:=.int .i64 r.le) rfl).1
 have q4:=(zAA HB.out.2.2.1 4 (x:=.string r.nm) rfl).1
 obtain ⟨r0,s0⟩:=zAA HB.out.2.2.2 0 (x:=.string ⟨#[]⟩) rfl
 obtain ⟨r1,s1⟩:=zAA HB.out.2.2.2 1 (x:=.int .i64 0) rfl
 obtain ⟨r2,s2⟩:=zAA HB.out.2.2.2 2 (x:=.int .i64 0) rfl
 obtain ⟨r3,s3⟩:=zAA HB.out.2.2.2 3 (x:=.int .i64 0) rfl
 obtain ⟨r4,s4⟩:=zAA HB.out.2.2.2 4 (x:=.slice none 0 0) rfl
 have HX:Hid (∀ W,Below w1.heap.size w1 W→(W.heap[w.heap.size]?=some (.cells #[.string xn,.int .i64 xt,.int .i64 xh,.int .i64 xe,.slice ua ws.length uc] 45 (0,0))∧W.heap[w.heap.size+1]?=some (.cells #[.int .i64 r.cl,.int .i64 r.st,.int .i64 r.kd,.int .i64 r.le,.string r.nm] 42 (0,0))∧W.heap[w.heap.size+1+1]?=some (.cells #[.string ⟨#[]⟩,.int .i64 0,.int .i64 0,.int .i64 0,.slice none 0 0] 45 (0,0)))∧Below w.heap.size w W):=fun W hW=>⟨⟨(hW.block _ (Array.getElem?_eq_some_iff.1 HB.out.2.1).1).trans HB.out.2.1,(hW.block _ (Array.getElem?_eq_some_iff.1 HB.out.2.2.1).1).trans HB.out.2.2.1,(hW.block _ (Array.getElem?_eq_some_iff.1 HB.out.2.2.2).1).trans HB.out.2.2.2⟩,HB.out.1.trans (hW.mono HB.out.1.size)⟩
 have HWA:Hid (Calls Tryz.prog 147 #[.slice ua ws.length uc,.int .i64 r.cl] w1 fun e w'=>e=.returned (.int .i64 (wIx ws r.cl))∧Below w1.heap.size w1 w'):=waits_ix _ ws r.cl w1 (HO.out.below HB.out.1).row (by omega)
 by_cases c1:xh=r.cl
 ·have hb1:(xh == r.cl)=true:=by simp [c1]
  have HST:Hid (acL T.tm T.nx r ⟨xn,xt,xh,xe,ws⟩=⟨xn,xt,xh,xe,ws⟩∧acN T.nx r ⟨xn,xt,xh,xe,ws⟩=T.nx∧acK r ⟨xn,xt,xh,xe,ws⟩=8):=by refine ⟨?_,?_,?_⟩ <;> simp [acL,acN,acK,HKI.out,c1]
  clear c1
  have HF:Hid ((((((w1.setCell ⟨w.heap.size+1+1,0,none⟩ (.string xn)).setCell ⟨w.heap.size+1+1,1,none⟩ (.int .i64 xt)).setCell ⟨w.heap.size+1+1,2,none⟩ (.int .i64 xh)).setCell ⟨w.heap.size+1+1,3,none⟩ (.int .i64 xe)).setCell ⟨w.heap.size+1+1,4,none⟩ (.slice ua ws.length uc)).heap[w.heap.size+1+1]?=some (.cells #[.string xn,.int .i64 xt,.int .i64 xh,.int .i64 xe,.slice ua ws.length uc] 45 (0,0))∧AcP w (((((w1.setCell ⟨w.heap.size+1+1,0,none⟩ (.string xn)).setCell ⟨w.heap.size+1+1,1,none⟩ (.int .i64 xt)).setCell ⟨w.heap.size+1+1,2,none⟩ (.int .i64 xh)).setCell ⟨w.heap.size+1+1,3,none⟩ (.int .i64 xe)).setCell ⟨w.heap.size+1+1,4,none⟩ (.slice ua ws.length uc)) B p bL bS T.tm T.nx (.slice ua ws.length uc) (.slice ua ws.length uc) ws):=by
   obtain ⟨hr,ha⟩:=(⟨HB.out.2.2.2,HAC.out _ HB.out.1⟩ : w1.heap[w.heap.size+1+1]?=some (.cells #[.string ⟨#[]⟩,.int .i64 0,.int .i64 0,.int .i64 0,.slice none 0 0] 45 (0,0))∧AcP w w1 B p bL bS T.tm T.nx (.slice ua ws.length uc) (.slice ua ws.length uc) ws)
   have hpl:=HPL.out.1
   refine ⟨set5 hr _ _ _ _ _,⟨(far5 (by omega) _ _ _ _ _).trans ha.hp,ha.os,ha.tape,ha.output,by simpa using ha.size,fun b hb hn hv=>(far5 (by omega) _ _ _ _ _).trans (ha.bz b hb hn hv),ha.ow.kept fun g hg=>far5 (fun e=>?_) _ _ _ _ _,ha.nb⟩⟩
   rw [e] at hg
   exact ha.ow.kind hr (fun cs=>by intro e;cases e) hg
  go_wp2_with fail
  generalize (((((w1.setCell ⟨w.heap.size+1+1,0,none⟩ (.string xn)).setCell ⟨w.heap.size+1+1,1,none⟩ (.int .i64 xt)).setCell ⟨w.heap.size+1+1,2,none⟩ (.int .i64 xh)).setCell ⟨w.heap.size+1+1,3,none⟩ (.int .i64 xe)).setCell ⟨w.heap.size+1+1,4,none⟩ (.slice ua ws.length uc))=wf at HF ⊢
  have d0:=(zAA HF.out.1 0 (x:=.string xn) rfl).1
  have d1:=(zAA HF.out.1 1 (x:=.int .i64 xt) rfl).1
  have d2:=(zAA HF.out.1 2 (x:=.int .i64 xh) rfl).1
  have d3:=(zAA HF.out.1 3 (x:=.int .i64 xe) rfl).1
  have d4:=(zAA HF.out.1 4 (x:=.slice ua ws.length uc) rfl).1
  exact bodyPost_ret (v:=.tuple #[.agg #[.string xn,.int .i64 xt,.int .i64 xh,.int .i64 xe,.slice ua ws.length uc],.int .i64 8]) (by simp [results,Tryz.results121,go_sem,d0,d1,d2,d3,d4]) rfl ⟨_,_,(by rw [HST.out.1,HST.out.2.2];try rfl),by rw [HST.out.1,HST.out.2.1];exact HF.out.2⟩
 ·have hb1:(xh == r.cl)=false:=by simp [c1]
  by_cases c2:wtB ws r.cl=true
  ·obtain ⟨ix,hwx⟩ : ∃ ix:Nat,wIx ws r.cl=(ix:Int):=⟨_,wix_true c2⟩
   have hix:(0:Int)≤(ix:Int):=by omega
   have HST:Hid (acL T.tm T.nx r ⟨xn,xt,xh,xe,ws⟩=⟨xn,xt,xh,xe,ws⟩∧acN T.nx r ⟨xn,xt,xh,xe,ws⟩=T.nx∧acK r ⟨xn,xt,xh,xe,ws⟩=8):=by refine ⟨?_,?_,?_⟩ <;> simp [acL,acN,acK,HKI.out,c1,c2]
   clear c1 c2
   go_upto_region 2 with (go_at_call 147;go_must (refine HWA.out.mono ?_;rintro e w2 ⟨rfl,b2⟩;have H2:Hid ((w2.heap[w.heap.size]?=some (.cells #[.string xn,.int .i64 xt,.int .i64 xh,.int .i64 xe,.slice ua ws.length uc] 45 (0,0))∧w2.heap[w.heap.size+1]?=some (.cells #[.int .i64 r.cl,.int .i64 r.st,.int .i64 r.kd,.int .i64 r.le,.string r.nm] 42 (0,0))∧w2.heap[w.heap.size+1+1]?=some (.cells #[.string ⟨#[]⟩,.int .i64 0,.int .i64 0,.int .i64 0,.slice none 0 0] 45 (0,0)))∧Below w.heap.size w w2):=HX.out w2 b2;clear b2 l0 m0 l1 m1 l2 m2 l3 m3 l4 m4 r0 s0 r1 s1 r2 s2 r3 s3 r4 s4 q0 q1 q2 q3 q4;obtain ⟨l0,m0⟩:=zAA H2.out.1.1 0 (x:=.string xn) rfl;obtain ⟨l1,m1⟩:=zAA H2.out.1.1 1 (x:=.int .i64 xt) rfl;obtain ⟨l2,m2⟩:=zAA H2.out.1.1 2 (x:=.int .i64 xh) rfl;obtain ⟨l3,m3⟩:=zAA H2.out.1.1 3 (x:=.int .i64 xe) rfl;obtain ⟨l4,m4⟩:=zAA H2.out.1.1 4 (x:=.slice ua ws.length uc) rfl;have q0:=(zAA H2.out.1.2.1 0 (x:=.int .i64 r.cl) rfl).1;have q1:=(zAA H2.out.1.2.1 1 (x:=.int .i64 r.st) rfl).1;have q2:=(zAA H2.out.1.2.1 2 (x:=.int .i64 r.kd) rfl).1;have q3:=(zAA H2.out.1.2.1 3 (x:=.int .i64 r.le) rfl).1;have q4:=(zAA H2.out.1.2.1 4 (x:=.string r.nm) rfl).1;obtain ⟨r0,s0⟩:=zAA H2.out.1.2.2 0 (x:=.string ⟨#[]⟩) rfl;obtain ⟨r1,s1⟩:=zAA H2.out.1.2.2 1 (x:=.int .i64 0) rfl;obtain ⟨r2,s2⟩:=zAA H2.out.1.2.2 2 (x:=.int .i64 0) rfl;obtain ⟨r3,s3⟩:=zAA H2.out.1.2.2 3 (x:=.int .i64 0) rfl;obtain ⟨r4,s4⟩:=zAA H2.out.1.2.2 4 (x:=.slice none 0 0) rfl;rw [hwx]))
   have HF:Hid ((((((w2.setCell ⟨w.heap.size+1+1,0,none⟩ (.string xn)).setCell ⟨w.heap.size+1+1,1,none⟩ (.int .i64 xt)).setCell ⟨w.heap.size+1+1,2,none⟩ (.int .i64 xh)).setCell ⟨w.heap.size+1+1,3,none⟩ (.int .i64 xe)).setCell ⟨w.heap.size+1+1,4,none⟩ (.slice ua ws.length uc)).heap[w.heap.size+1+1]?=some (.cells #[.string xn,.int .i64 xt,.int .i64 xh,.int .i64 xe,.slice ua ws.length uc] 45 (0,0))∧AcP w (((((w2.setCell ⟨w.heap.size+1+1,0,none⟩ (.string xn)).setCell ⟨w.heap.size+1+1,1,none⟩ (.int .i64 xt)).setCell ⟨w.heap.size+1+1,2,none⟩ (.int .i64 xh)).setCell ⟨w.heap.size+1+1,3,none⟩ (.int .i64 xe)).setCell ⟨w.heap.size+1+1,4,none⟩ (.slice ua ws.length uc)) B p bL bS T.tm T.nx (.slice ua ws.length uc) (.slice ua ws.length uc) ws):=by
    obtain ⟨hr,ha⟩:=(⟨H2.out.1.2.2,HAC.out _ H2.out.2⟩ : w2.heap[w.heap.size+1+1]?=some (.cells #[.string ⟨#[]⟩,.int .i64 0,.int .i64 0,.int .i64 0,.slice none 0 0] 45 (0,0))∧AcP w w2 B p bL bS T.tm T.nx (.slice ua ws.length uc) (.slice ua ws.length uc) ws)
    have hpl:=HPL.out.1
    refine ⟨set5 hr _ _ _ _ _,⟨(far5 (by omega) _ _ _ _ _).trans ha.hp,ha.os,ha.tape,ha.output,by simpa using ha.size,fun b hb hn hv=>(far5 (by omega) _ _ _ _ _).trans (ha.bz b hb hn hv),ha.ow.kept fun g hg=>far5 (fun e=>?_) _ _ _ _ _,ha.nb⟩⟩
    rw [e] at hg
    exact ha.ow.kind hr (fun cs=>by intro e;cases e) hg
   go_wp2_with fail
   generalize (((((w2.setCell ⟨w.heap.size+1+1,0,none⟩ (.string xn)).setCell ⟨w.heap.size+1+1,1,none⟩ (.int .i64 xt)).setCell ⟨w.heap.size+1+1,2,none⟩ (.int .i64 xh)).setCell ⟨w.heap.size+1+1,3,none⟩ (.int .i64 xe)).setCell ⟨w.heap.size+1+1,4,none⟩ (.slice ua ws.length uc))=wf at HF ⊢
   have d0:=(zAA HF.out.1 0 (x:=.string xn) rfl).1
   have d1:=(zAA HF.out.1 1 (x:=.int .i64 xt) rfl).1
   have d2:=(zAA HF.out.1 2 (x:=.int .i64 xh) rfl).1
   have d3:=(zAA HF.out.1 3 (x:=.int .i64 xe) rfl).1
   have d4:=(zAA HF.out.1 4 (x:=.slice ua ws.length uc) rfl).1
   exact bodyPost_ret (v:=.tuple #[.agg #[.string xn,.int .i64 xt,.int .i64 xh,.int .i64 xe,.slice ua ws.length uc],.int .i64 8]) (by simp [results,Tryz.results121,go_sem,d0,d1,d2,d3,d4]) rfl ⟨_,_,(by rw [HST.out.1,HST.out.2.2];try rfl),by rw [HST.out.1,HST.out.2.1];exact HF.out.2⟩
  ·have hwx:wIx ws r.cl = -1:=wix_false c2
   by_cases c3:xh = -1
   ·have hb3:(xh == -1)=true:=by simp [c3]
    have c4:¬ ((-1:Int)=r.cl):=by rw [← c3];exact c1
    have HST:Hid (acL T.tm T.nx r ⟨xn,xt,xh,xe,ws⟩=⟨xn,T.nx,r.cl,T.tm+r.le,ws⟩∧acN T.nx r ⟨xn,xt,xh,xe,ws⟩=T.nx+1∧acK r ⟨xn,xt,xh,xe,ws⟩=1):=by refine ⟨?_,?_,?_⟩ <;> simp [acL,acN,acK,grL,HKI.out,c4,c2,c3]
    have HC3:Hid (xh = -1):=c3
    clear c1 c2 c3 c4
    go_upto_region 4 with (go_at_call 147;go_must (refine HWA.out.mono ?_;rintro e w2 ⟨rfl,b2⟩;have H2:Hid ((w2.heap[w.heap.size]?=some (.cells #[.string xn,.int .i64 xt,.int .i64 xh,.int .i64 xe,.slice ua ws.length uc] 45 (0,0))∧w2.heap[w.heap.size+1]?=some (.cells #[.int .i64 r.cl,.int .i64 r.st,.int .i64 r.kd,.int .i64 r.le,.string r.nm] 42 (0,0))∧w2.heap[w.heap.size+1+1]?=some (.cells #[.string ⟨#[]⟩,.int .i64 0,.int .i64 0,.int .i64 0,.slice none 0 0] 45 (0,0)))∧Below w.heap.size w w2):=HX.out w2 b2;clear b2 l0 m0 l1 m1 l2 m2 l3 m3 l4 m4 r0 s0 r1 s1 r2 s2 r3 s3 r4 s4 q0 q1 q2 q3 q4;obtain ⟨l0,m0⟩:=zAA H2.out.1.1 0 (x:=.string xn) rfl;obtain ⟨l1,m1⟩:=zAA H2.out.1.1 1 (x:=.int .i64 xt) rfl;obtain ⟨l2,m2⟩:=zAA H2.out.1.1 2 (x:=.int .i64 xh) rfl;obtain ⟨l3,m3⟩:=zAA H2.out.1.1 3 (x:=.int .i64 xe) rfl;obtain ⟨l4,m4⟩:=zAA H2.out.1.1 4 (x:=.slice ua ws.length uc) rfl;have q0:=(zAA H2.out.1.2.1 0 (x:=.int .i64 r.cl) rfl).1;have q1:=(zAA H2.out.1.2.1 1 (x:=.int .i64 r.st) rfl).1;have q2:=(zAA H2.out.1.2.1 2 (x:=.int .i64 r.kd) rfl).1;have q3:=(zAA H2.out.1.2.1 3 (x:=.int .i64 r.le) rfl).1;have q4:=(zAA H2.out.1.2.1 4 (x:=.string r.nm) rfl).1;obtain ⟨r0,s0⟩:=zAA H2.out.1.2.2 0 (x:=.string ⟨#[]⟩) rfl;obtain ⟨r1,s1⟩:=zAA H2.out.1.2.2 1 (x:=.int .i64 0) rfl;obtain ⟨r2,s2⟩:=zAA H2.out.1.2.2 2 (x:=.int .i64 0) rfl;obtain ⟨r3,s3⟩:=zAA H2.out.1.2.2 3 (x:=.int .i64 0) rfl;obtain ⟨r4,s4⟩:=zAA H2.out.1.2.2 4 (x:=.slice none 0 0) rfl;rw [hwx]))
    have HGR:Calls Tryz.prog 139 #[.pointer (some ⟨p,0,none⟩),.agg #[.string xn,.int .i64 xt,.int .i64 xh,.int .i64 xe,.slice ua ws.length uc],.int .i64 r.cl,.int .i64 r.le] w2 fun e w'=>e=.returned (.agg #[.string xn,.int .i64 T.nx,.int .i64 r.cl,.int .i64 (T.tm+r.le),.slice ua ws.length uc])∧BK w0 w' B p bL bS { T with nx:=T.nx+1 } ps∧Bx p w2 w':=grant_any (HH.out.up H2.out.2) ⟨xn,xt,xh,xe,ws⟩ ua ws.length uc r.cl r.le ht0 ht1 hn0 hn1 hle.1 hle.2
    go_wp2_with (go_at_call 139;go_must (refine HGR.mono ?_;rintro e w3 ⟨rfl,b3,x3⟩;have H3:Hid (w3.heap[w.heap.size+1+1]?=some (.cells #[.string ⟨#[]⟩,.int .i64 0,.int .i64 0,.int .i64 0,.slice none 0 0] 45 (0,0))∧AcP w w3 B p bL bS T.tm (T.nx+1) (.slice ua ws.length uc) (.slice ua ws.length uc) ws):=⟨(x3.block _ (Array.getElem?_eq_some_iff.1 H2.out.1.2.2).1 (by have:=HPL.out;omega)).trans H2.out.1.2.2,acp_bx HH.out HO.out H2.out.2 b3 x3⟩;clear b3 x3;clear r0 s0 r1 s1 r2 s2 r3 s3 r4 s4;obtain ⟨r0,s0⟩:=zAA H3.out.1 0 (x:=.string ⟨#[]⟩) rfl;obtain ⟨r1,s1⟩:=zAA H3.out.1 1 (x:=.int .i64 0) rfl;obtain ⟨r2,s2⟩:=zAA H3.out.1 2 (x:=.int .i64 0) rfl;obtain ⟨r3,s3⟩:=zAA H3.out.1 3 (x:=.int .i64 0) rfl;obtain ⟨r4,s4⟩:=zAA H3.out.1 4 (x:=.slice none 0 0) rfl))
    have HF:Hid ((((((w3.setCell ⟨w.heap.size+1+1,0,none⟩ (.string xn)).setCell ⟨w.heap.size+1+1,1,none⟩ (.int .i64 T.nx)).setCell ⟨w.heap.size+1+1,2,none⟩ (.int .i64 r.cl)).setCell ⟨w.heap.size+1+1,3,none⟩ (.int .i64 (T.tm+r.le))).setCell ⟨w.heap.size+1+1,4,none⟩ (.slice ua ws.length uc)).heap[w.heap.size+1+1]?=some (.cells #[.string xn,.int .i64 T.nx,.int .i64 r.cl,.int .i64 (T.tm+r.le),.slice ua ws.length uc] 45 (0,0))∧AcP w (((((w3.setCell ⟨w.heap.size+1+1,0,none⟩ (.string xn)).setCell ⟨w.heap.size+1+1,1,none⟩ (.int .i64 T.nx)).setCell ⟨w.heap.size+1+1,2,none⟩ (.int .i64 r.cl)).setCell ⟨w.heap.size+1+1,3,none⟩ (.int .i64 (T.tm+r.le))).setCell ⟨w.heap.size+1+1,4,none⟩ (.slice ua ws.length uc)) B p bL bS T.tm (T.nx+1) (.slice ua ws.length uc) (.slice ua ws.length uc) ws):=by
     obtain ⟨hr,ha⟩:=H3.out
     have hpl:=HPL.out.1
     refine ⟨set5 hr _ _ _ _ _,⟨(far5 (by omega) _ _ _ _ _).trans ha.hp,ha.os,ha.tape,ha.output,by simpa using ha.size,fun b hb hn hv=>(far5 (by omega) _ _ _ _ _).trans (ha.bz b hb hn hv),ha.ow.kept fun g hg=>far5 (fun e=>?_) _ _ _ _ _,ha.nb⟩⟩
     rw [e] at hg
     exact ha.ow.kind hr (fun cs=>by intro e;cases e) hg
    go_wp2_with fail
    generalize (((((w3.setCell ⟨w.heap.size+1+1,0,none⟩ (.string xn)).setCell ⟨w.heap.size+1+1,1,none⟩ (.int .i64 T.nx)).setCell ⟨w.heap.size+1+1,2,none⟩ (.int .i64 r.cl)).setCell ⟨w.heap.size+1+1,3,none⟩ (.int .i64 (T.tm+r.le))).setCell ⟨w.heap.size+1+1,4,none⟩ (.slice ua ws.length uc))=wf at HF ⊢
    have d0:=(zAA HF.out.1 0 (x:=.string xn) rfl).1
    have d1:=(zAA HF.out.1 1 (x:=.int .i64 T.nx) rfl).1
    have d2:=(zAA HF.out.1 2 (x:=.int .i64 r.cl) rfl).1
    have d3:=(zAA HF.out.1 3 (x:=.int .i64 (T.tm+r.le)) rfl).1
    have d4:=(zAA HF.out.1 4 (x:=.slice ua ws.length uc) rfl).1
    exact bodyPost_ret (v:=.tuple #[.agg #[.string xn,.int .i64 T.nx,.int .i64 r.cl,.int .i64 (T.tm+r.le),.slice ua ws.length uc],.int .i64 1]) (by simp [results,Tryz.results121,go_sem,d0,d1,d2,d3,d4]) rfl ⟨_,_,(by rw [HST.out.1,HST.out.2.2];try rfl),by rw [HST.out.1,HST.out.2.1];exact HF.out.2⟩
   ·have hb3:(xh == -1)=false:=by simp [c3]
    by_cases c4:4≤ws.length
    ·have hb4:(4:Int)≤(ws.length:Int):=by omega
     have HST:Hid (acL T.tm T.nx r ⟨xn,xt,xh,xe,ws⟩=⟨xn,xt,xh,xe,ws⟩∧acN T.nx r ⟨xn,xt,xh,xe,ws⟩=T.nx∧acK r ⟨xn,xt,xh,xe,ws⟩=6):=by refine ⟨?_,?_,?_⟩ <;> simp [acL,acN,acK,HKI.out,c1,c2,c3,c4]
     clear c1 c2 c3 c4
     go_upto_region 5 with (go_at_call 147;go_must (refine HWA.out.mono ?_;rintro e w2 ⟨rfl,b2⟩;have H2:Hid ((w2.heap[w.heap.size]?=some (.cells #[.string xn,.int .i64 xt,.int .i64 xh,.int .i64 xe,.slice ua ws.length uc] 45 (0,0))∧w2.heap[w.heap.size+1]?=some (.cells #[.int .i64 r.cl,.int .i64 r.st,.int .i64 r.kd,.int .i64 r.le,.string r.nm] 42 (0,0))∧w2.heap[w.heap.size+1+1]?=some (.cells #[.string ⟨#[]⟩,.int .i64 0,.int .i64 0,.int .i64 0,.slice none 0 0] 45 (0,0)))∧Below w.heap.size w w2):=HX.out w2 b2;clear b2 l0 m0 l1 m1 l2 m2 l3 m3 l4 m4 r0 s0 r1 s1 r2 s2 r3 s3 r4 s4 q0 q1 q2 q3 q4;obtain ⟨l0,m0⟩:=zAA H2.out.1.1 0 (x:=.string xn) rfl;obtain ⟨l1,m1⟩:=zAA H2.out.1.1 1 (x:=.int .i64 xt) rfl;obtain ⟨l2,m2⟩:=zAA H2.out.1.1 2 (x:=.int .i64 xh) rfl;obtain ⟨l3,m3⟩:=zAA H2.out.1.1 3 (x:=.int .i64 xe) rfl;obtain ⟨l4,m4⟩:=zAA H2.out.1.1 4 (x:=.slice ua ws.length uc) rfl;have q0:=(zAA H2.out.1.2.1 0 (x:=.int .i64 r.cl) rfl).1;have q1:=(zAA H2.out.1.2.1 1 (x:=.int .i64 r.st) rfl).1;have q2:=(zAA H2.out.1.2.1 2 (x:=.int .i64 r.kd) rfl).1;have q3:=(zAA H2.out.1.2.1 3 (x:=.int .i64 r.le) rfl).1;have q4:=(zAA H2.out.1.2.1 4 (x:=.string r.nm) rfl).1;obtain ⟨r0,s0⟩:=zAA H2.out.1.2.2 0 (x:=.string ⟨#[]⟩) rfl;obtain ⟨r1,s1⟩:=zAA H2.out.1.2.2 1 (x:=.int .i64 0) rfl;obtain ⟨r2,s2⟩:=zAA H2.out.1.2.2 2 (x:=.int .i64 0) rfl;obtain ⟨r3,s3⟩:=zAA H2.out.1.2.2 3 (x:=.int .i64 0) rfl;obtain ⟨r4,s4⟩:=zAA H2.out.1.2.2 4 (x:=.slice none 0 0) rfl;rw [hwx]))
     have HF:Hid ((((((w2.setCell ⟨w.heap.size+1+1,0,none⟩ (.string xn)).setCell ⟨w.heap.size+1+1,1,none⟩ (.int .i64 xt)).setCell ⟨w.heap.size+1+1,2,none⟩ (.int .i64 xh)).setCell ⟨w.heap.size+1+1,3,none⟩ (.int .i64 xe)).setCell ⟨w.heap.size+1+1,4,none⟩ (.slice ua ws.length uc)).heap[w.heap.size+1+1]?=some (.cells #[.string xn,.int .i64 xt,.int .i64 xh,.int .i64 xe,.slice ua ws.length uc] 45 (0,0))∧AcP w (((((w2.setCell ⟨w.heap.size+1+1,0,none⟩ (.string xn)).setCell ⟨w.heap.size+1+1,1,none⟩ (.int .i64 xt)).setCell ⟨w.heap.size+1+1,2,none⟩ (.int .i64 xh)).setCell ⟨w.heap.size+1+1,3,none⟩ (.int .i64 xe)).setCell ⟨w.heap.size+1+1,4,none⟩ (.slice ua ws.length uc)) B p bL bS T.tm T.nx (.slice ua ws.length uc) (.slice ua ws.length uc) ws):=by
      obtain ⟨hr,ha⟩:=(⟨H2.out.1.2.2,HAC.out _ H2.out.2⟩ : w2.heap[w.heap.size+1+1]?=some (.cells #[.string ⟨#[]⟩,.int .i64 0,.int .i64 0,.int .i64 0,.slice none 0 0] 45 (0,0))∧AcP w w2 B p bL bS T.tm T.nx (.slice ua ws.length uc) (.slice ua ws.length uc) ws)
      have hpl:=HPL.out.1
      refine ⟨set5 hr _ _ _ _ _,⟨(far5 (by omega) _ _ _ _ _).trans ha.hp,ha.os,ha.tape,ha.output,by simpa using ha.size,fun b hb hn hv=>(far5 (by omega) _ _ _ _ _).trans (ha.bz b hb hn hv),ha.ow.kept fun g hg=>far5 (fun e=>?_) _ _ _ _ _,ha.nb⟩⟩
      rw [e] at hg
      exact ha.ow.kind hr (fun cs=>by intro e;cases e) hg
     go_wp2_with fail
     generalize (((((w2.setCell ⟨w.heap.size+1+1,0,none⟩ (.string xn)).setCell ⟨w.heap.size+1+1,1,none⟩ (.int .i64 xt)).setCell ⟨w.heap.size+1+1,2,none⟩ (.int .i64 xh)).setCell ⟨w.heap.size+1+1,3,none⟩ (.int .i64 xe)).setCell ⟨w.heap.size+1+1,4,none⟩ (.slice ua ws.length uc))=wf at HF ⊢
     have d0:=(zAA HF.out.1 0 (x:=.string xn) rfl).1
     have d1:=(zAA HF.out.1 1 (x:=.int .i64 xt) rfl).1
     have d2:=(zAA HF.out.1 2 (x:=.int .i64 xh) rfl).1
     have d3:=(zAA HF.out.1 3 (x:=.int .i64 xe) rfl).1
     have d4:=(zAA HF.out.1 4 (x:=.slice ua ws.length uc) rfl).1
     exact bodyPost_ret (v:=.tuple #[.agg #[.string xn,.int .i64 xt,.int .i64 xh,.int .i64 xe,.slice ua ws.length uc],.int .i64 6]) (by simp [results,Tryz.results121,go_sem,d0,d1,d2,d3,d4]) rfl ⟨_,_,(by rw [HST.out.1,HST.out.2.2];try rfl),by rw [HST.out.1,HST.out.2.1];exact HF.out.2⟩
    ·have hb4:¬ (4:Int)≤(ws.length:Int):=by omega
     have hb5:(ws.length:Int)<4:=by omega
     have HST:Hid (acL T.tm T.nx r ⟨xn,xt,xh,xe,ws⟩=⟨xn,xt,xh,xe,ws ++ [⟨r.cl,r.le⟩]⟩∧acN T.nx r ⟨xn,xt,xh,xe,ws⟩=T.nx∧acK r ⟨xn,xt,xh,xe,ws⟩=2):=by refine ⟨?_,?_,?_⟩ <;> simp [acL,acN,acK,HKI.out,c1,c2,c3,c4]
     clear c1 c2 c3 c4
     obtain ⟨i0,hi0,hz0,hz1,hz2⟩:=info_parts infoW
     go_upto_region 7 with (go_at_call 147;go_must (refine HWA.out.mono ?_;rintro e w2 ⟨rfl,b2⟩;have H2:Hid ((w2.heap[w.heap.size]?=some (.cells #[.string xn,.int .i64 xt,.int .i64 xh,.int .i64 xe,.slice ua ws.length uc] 45 (0,0))∧w2.heap[w.heap.size+1]?=some (.cells #[.int .i64 r.cl,.int .i64 r.st,.int .i64 r.kd,.int .i64 r.le,.string r.nm] 42 (0,0))∧w2.heap[w.heap.size+1+1]?=some (.cells #[.string ⟨#[]⟩,.int .i64 0,.int .i64 0,.int .i64 0,.slice none 0 0] 45 (0,0)))∧Below w.heap.size w w2):=HX.out w2 b2;clear b2 l0 m0 l1 m1 l2 m2 l3 m3 l4 m4 r0 s0 r1 s1 r2 s2 r3 s3 r4 s4 q0 q1 q2 q3 q4;obtain ⟨l0,m0⟩:=zAA H2.out.1.1 0 (x:=.string xn) rfl;obtain ⟨l1,m1⟩:=zAA H2.out.1.1 1 (x:=.int .i64 xt) rfl;obtain ⟨l2,m2⟩:=zAA H2.out.1.1 2 (x:=.int .i64 xh) rfl;obtain ⟨l3,m3⟩:=zAA H2.out.1.1 3 (x:=.int .i64 xe) rfl;obtain ⟨l4,m4⟩:=zAA H2.out.1.1 4 (x:=.slice ua ws.length uc) rfl;have q0:=(zAA H2.out.1.2.1 0 (x:=.int .i64 r.cl) rfl).1;have q1:=(zAA H2.out.1.2.1 1 (x:=.int .i64 r.st) rfl).1;have q2:=(zAA H2.out.1.2.1 2 (x:=.int .i64 r.kd) rfl).1;have q3:=(zAA H2.out.1.2.1 3 (x:=.int .i64 r.le) rfl).1;have q4:=(zAA H2.out.1.2.1 4 (x:=.string r.nm) rfl).1;obtain ⟨r0,s0⟩:=zAA H2.out.1.2.2 0 (x:=.string ⟨#[]⟩) rfl;obtain ⟨r1,s1⟩:=zAA H2.out.1.2.2 1 (x:=.int .i64 0) rfl;obtain ⟨r2,s2⟩:=zAA H2.out.1.2.2 2 (x:=.int .i64 0) rfl;obtain ⟨r3,s3⟩:=zAA H2.out.1.2.2 3 (x:=.int .i64 0) rfl;obtain ⟨r4,s4⟩:=zAA H2.out.1.2.2 4 (x:=.slice none 0 0) rfl;rw [hwx]))
     have HAW:Hid ((w2.alloc (.cells #[.int .i64 r.cl,.int .i64 r.le] 153)).heap[w2.heap.size]?=some (.cells #[.int .i64 r.cl,.int .i64 r.le] 153 (0,0))∧OwnO (w2.alloc (.cells #[.int .i64 r.cl,.int .i64 r.le] 153)) B (.slice ua ws.length uc) ws∧B≤(w2.alloc (.cells #[.int .i64 r.cl,.int .i64 r.le] 153)).heap.size∧Below w2.heap.size w2 (w2.alloc (.cells #[.int .i64 r.cl,.int .i64 r.le] 153))):=⟨zAJ _ _ _,(HO.out.below H2.out.2).below (zAD _ _),Nat.le_trans HPL.out.2 (Nat.le_trans H2.out.2.size (zAD w2 _).size),zAD _ _⟩
     go_upto_region 8 with (at_builtin;go_must (refine list_appO (by rfl) _ _ 43 (by rfl) i0 Tryz.underlying43 hi0 hz0 hz1 hz2 B _ (.slice ua ws.length uc) ws (by rfl) HAW.out.2.1 HAW.out.2.2.1 w2.heap.size (by rfl) ⟨r.cl,r.le⟩ HAW.out.1 (by omega) ?_;intro v4 w4 o4 g4 n4;obtain ⟨a4,c4,e4⟩:=o4.slice;subst e4;have H4:Hid (OwnO w4 B (.slice a4 (ws ++ [(⟨r.cl,r.le⟩ : Wt)]).length c4) (ws ++ [⟨r.cl,r.le⟩])∧(w2.alloc (.cells #[.int .i64 r.cl,.int .i64 r.le] 153)).grownBy w4 (Value.ownBlock (.slice ua ws.length uc))∧Nb (w2.alloc (.cells #[.int .i64 r.cl,.int .i64 r.le] 153)) (.slice ua ws.length uc) (Value.slice a4 (ws ++ [(⟨r.cl,r.le⟩ : Wt)]).length c4)):=⟨o4,g4,n4⟩;clear o4 g4 n4;rw [show (ws ++ [(⟨r.cl,r.le⟩ : Wt)]).length=ws.length+1 from by simp] at H4 ⊢;obtain ⟨l4,m4⟩:=zAA (zBZ H2.out.1.1 HAW.out.2.2.2 H4.out.2.1 HO.out H2.out.2) 4 (x:=.slice ua ws.length uc) rfl))
     have H5:Hid ((w4.setCell ⟨w.heap.size,4,none⟩ (.slice a4 (ws.length+1) c4)).heap[w.heap.size]?=some (.cells #[.string xn,.int .i64 xt,.int .i64 xh,.int .i64 xe,.slice a4 (ws.length+1) c4] 45 (0,0))∧(w4.setCell ⟨w.heap.size,4,none⟩ (.slice a4 (ws.length+1) c4)).heap[w.heap.size+1+1]?=some (.cells #[.string ⟨#[]⟩,.int .i64 0,.int .i64 0,.int .i64 0,.slice none 0 0] 45 (0,0))∧AcP w (w4.setCell ⟨w.heap.size,4,none⟩ (.slice a4 (ws.length+1) c4)) B p bL bS T.tm T.nx (.slice ua ws.length uc) (.slice a4 (ws.length+1) c4) (ws ++ [⟨r.cl,r.le⟩])):=by
      have k1:=zBZ H2.out.1.1 HAW.out.2.2.2 H4.out.2.1 HO.out H2.out.2
      have k2:=zBZ H2.out.1.2.2 HAW.out.2.2.2 H4.out.2.1 HO.out H2.out.2
      exact ⟨zAC k1 4 _,(zAE (by omega) 4 _).trans k2,acp_set (acp_app HH.out HO.out H2.out.2 HAW.out.2.2.2 H4.out.1 H4.out.2.1 H4.out.2.2) k1 4 _ (by have:=HPL.out;omega)⟩
     clear l0 m0 l1 m1 l2 m2 l3 m3 l4 m4 r0 s0 r1 s1 r2 s2 r3 s3 r4 s4 H4 HAW
     generalize (w4.setCell ⟨w.heap.size,4,none⟩ (.slice a4 (ws.length+1) c4))=w5 at H5 ⊢
     have l0:=(zAA H5.out.1 0 (x:=.string xn) rfl).1
     have l1:=(zAA H5.out.1 1 (x:=.int .i64 xt) rfl).1
     have l2:=(zAA H5.out.1 2 (x:=.int .i64 xh) rfl).1
     have l3:=(zAA H5.out.1 3 (x:=.int .i64 xe) rfl).1
     have l4:=(zAA H5.out.1 4 (x:=.slice a4 (ws.length+1) c4) rfl).1
     obtain ⟨r0,s0⟩:=zAA H5.out.2.1 0 (x:=.string ⟨#[]⟩) rfl
     obtain ⟨r1,s1⟩:=zAA H5.out.2.1 1 (x:=.int .i64 0) rfl
     obtain ⟨r2,s2⟩:=zAA H5.out.2.1 2 (x:=.int .i64 0) rfl
     obtain ⟨r3,s3⟩:=zAA H5.out.2.1 3 (x:=.int .i64 0) rfl
     obtain ⟨r4,s4⟩:=zAA H5.out.2.1 4 (x:=.slice none 0 0) rfl
     have HF:Hid ((((((w5.setCell ⟨w.heap.size+1+1,0,none⟩ (.string xn)).setCell ⟨w.heap.size+1+1,1,none⟩ (.int .i64 xt)).setCell ⟨w.heap.size+1+1,2,none⟩ (.int .i64 xh)).setCell ⟨w.heap.size+1+1,3,none⟩ (.int .i64 xe)).setCell ⟨w.heap.size+1+1,4,none⟩ (.slice a4 (ws.length+1) c4)).heap[w.heap.size+1+1]?=some (.cells #[.string xn,.int .i64 xt,.int .i64 xh,.int .i64 xe,.slice a4 (ws.length+1) c4] 45 (0,0))∧AcP w (((((w5.setCell ⟨w.heap.size+1+1,0,none⟩ (.string xn)).setCell ⟨w.heap.size+1+1,1,none⟩ (.int .i64 xt)).setCell ⟨w.heap.size+1+1,2,none⟩ (.int .i64 xh)).setCell ⟨w.heap.size+1+1,3,none⟩ (.int .i64 xe)).setCell ⟨w.heap.size+1+1,4,none⟩ (.slice a4 (ws.length+1) c4)) B p bL bS T.tm T.nx (.slice ua ws.length uc) (.slice a4 (ws.length+1) c4) (ws ++ [⟨r.cl,r.le⟩])):=by
      obtain ⟨hr,ha⟩:=H5.out.2
      have hpl:=HPL.out.1
      refine ⟨set5 hr _ _ _ _ _,⟨(far5 (by omega) _ _ _ _ _).trans ha.hp,ha.os,ha.tape,ha.output,by simpa using ha.size,fun b hb hn hv=>(far5 (by omega) _ _ _ _ _).trans (ha.bz b hb hn hv),ha.ow.kept fun g hg=>far5 (fun e=>?_) _ _ _ _ _,ha.nb⟩⟩
      rw [e] at hg
      exact ha.ow.kind hr (fun cs=>by intro e;cases e) hg
     go_wp2_with fail
     generalize (((((w5.setCell ⟨w.heap.size+1+1,0,none⟩ (.string xn)).setCell ⟨w.heap.size+1+1,1,none⟩ (.int .i64 xt)).setCell ⟨w.heap.size+1+1,2,none⟩ (.int .i64 xh)).setCell ⟨w.heap.size+1+1,3,none⟩ (.int .i64 xe)).setCell ⟨w.heap.size+1+1,4,none⟩ (.slice a4 (ws.length+1) c4))=wf at HF ⊢
     have d0:=(zAA HF.out.1 0 (x:=.string xn) rfl).1
     have d1:=(zAA HF.out.1 1 (x:=.int .i64 xt) rfl).1
     have d2:=(zAA HF.out.1 2 (x:=.int .i64 xh) rfl).1
     have d3:=(zAA HF.out.1 3 (x:=.int .i64 xe) rfl).1
     have d4:=(zAA HF.out.1 4 (x:=.slice a4 (ws.length+1) c4) rfl).1
     exact bodyPost_ret (v:=.tuple #[.agg #[.string xn,.int .i64 xt,.int .i64 xh,.int .i64 xe,.slice a4 (ws.length+1) c4],.int .i64 2]) (by simp [results,Tryz.results121,go_sem,d0,d1,d2,d3,d4]) rfl ⟨a4,c4,(by rw [HST.out.1,HST.out.2.2];simp),by rw [HST.out.1,HST.out.2.1];simpa using HF.out.2⟩
end
end Go.Proofs.YticokpbelgpfmaaGreat.Ju
