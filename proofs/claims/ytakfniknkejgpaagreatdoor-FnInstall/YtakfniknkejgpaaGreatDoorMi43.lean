/- Texts put together: La, SlRow, Ob. -/
import Derived.Test.YtakfniknkejgpaaGreatDoorMi1
import Derived.OpenShut
namespace Go.Proofs.YtakfniknkejgpaaGreatDoor.La
open Go.RowKit Sl
def atN (xs:List Int) (i n:Nat):Nat:=if n≤1 then 0 else if xs.length=0 then i * 7 % n else ((nth xs (i % xs.length)).toNat * 31+(nth xs ((i+1) % xs.length)).toNat+i / xs.length) % n
theorem atN_lt (xs:List Int) (i n:Nat) (h:0<n):atN xs i n<n:=by
 unfold atN
 by_cases h1:n≤1
 ·rw [if_pos h1];exact h
 ·rw [if_neg h1]
  split
  ·exact Nat.mod_lt _ h
  ·exact Nat.mod_lt _ h
theorem ret_n {a b:Nat} (h:a=b):Ending.returned (.int .i64 (a:Int))=.returned (.int .i64 (b:Int)):=by rw [h]
set_option maxRecDepth 100000 in
set_option maxHeartbeats 800000 in
theorem atN_any (v:Value) (xs:List Int) (i n:Nat) (w:World) (h:RowB w v xs) (hx:xs.length≤1048576) (hi:i≤1000) (hn:0<n) (hn2:n≤1000000) :
 Calls Tryz.prog 5 #[v,.int .i64 i,.int .i64 n] w fun e w'=>e=.returned (.int .i64 (atN xs i n:Nat))∧Below w.heap.size w w':=by
 obtain ⟨a,cap,rfl,h,hr⟩:=h
 by_cases hone:n=1
 ·subst hone
  go_enter Tryz.func5,Tryz.ntmps5
  go_wp2_with fail
  go_ret
  exact ⟨rfl,Below.refl _ _⟩
 have h1:¬ (n:Int)≤1:=by omega
 have h1z:¬ (n:Int)=0:=by omega
 by_cases h0:xs=[]
 ·subst h0
  go_enter Tryz.func5,Tryz.ntmps5
  go_wp2_with fail
  go_ret
  exact ⟨ret_n (by unfold atN;rw [if_neg (by omega)];simp),Below.refl _ _⟩
 ·rcases h with h | ⟨b,off,rfl,hc,hb,hcell⟩
  ·exact absurd h h0
  have hpos:0<xs.length:=by cases xs with | nil=>exact absurd rfl h0 | cons x l=>simp
  have e0:((xs.length:Int) == 0)=false:=by simp;omega
  have e1:¬ (xs.length:Int)=0:=by omega
  have j1:i % xs.length<xs.length:=Nat.mod_lt _ hpos
  have j2:(i+1) % xs.length<xs.length:=Nat.mod_lt _ hpos
  have c1:=hcell _ j1
  have c2:=hcell _ j2
  have r1:=range_at hr (i % xs.length)
  have r2:=range_at hr ((i+1) % xs.length)
  have k1:(i:Int) % (xs.length:Int)=((i % xs.length:Nat):Int):=by omega
  have k2:((i:Int)+1) % (xs.length:Int)=(((i+1) % xs.length:Nat):Int):=by rw [Int.natCast_emod,Int.natCast_add];rfl
  have k3:(i:Int) / (xs.length:Int)=((i / xs.length:Nat):Int):=by rw [Int.natCast_ediv]
  have k4:i / xs.length≤i:=Nat.div_le_self _ _
  have q1:((i % xs.length:Nat):Int)<(xs.length:Int):=by omega
  have q2:(((i+1) % xs.length:Nat):Int)<(xs.length:Int):=by omega
  obtain ⟨y1,hy1⟩ : ∃ y1:Nat,nth xs (i % xs.length)=y1:=⟨(nth xs (i % xs.length)).toNat,by omega⟩
  obtain ⟨y2,hy2⟩ : ∃ y2:Nat,nth xs ((i+1) % xs.length)=y2:=⟨(nth xs ((i+1) % xs.length)).toNat,by omega⟩
  rw [hy1] at c1 r1
  rw [hy2] at c2 r2
  have z1:(y1:Int)≤255:=r1.2
  have z2:(y2:Int)≤255:=r2.2
  have z3:((i / xs.length:Nat):Int)≤1000:=by omega
  have HE:Hid ((y1 * 31+y2+i / xs.length) % n=atN xs i n):=by show _=_;unfold atN;rw [if_neg (by omega),if_neg (by omega),hy1,hy2];rfl
  clear hcell hr h0 hy1 hy2 r1 r2 j1 j2
  generalize i % xs.length=p at c1 k1 q1
  generalize (i+1) % xs.length=q at c2 k2 q2
  generalize i / xs.length=d at k3 k4 z3 HE
  go_enter Tryz.func5,Tryz.ntmps5
  go_wp2_with fail
  go_quiet (fail)
  go_wp2_with fail
  go_ret
  exact ⟨ret_n HE.out,⟨rfl,rfl,rfl,Nat.le_refl _,fun _ _=>rfl⟩⟩
end Go.Proofs.YtakfniknkejgpaaGreatDoor.La
namespace Go.Proofs.YtakfniknkejgpaaGreatDoor.Sl
open Go.RowKit
def IsRow (k:IntKind) (w:World) (a:Option Addr) (len cap:Nat) (zs:List Int):Prop :=
 (a=none∧len=0∧cap=0∧zs=[]) ∨
 ∃ x,a=some x∧len≤cap∧cap≤maxLen∧zs.length=cap∧(∀ i,i<zs.length→w.cell? (x.add i)=some (.int k (zs.getD i 0)))∧∀ n ∈ zs,(Lit.int k n).wf=true
theorem rowB_of {w:World} {a:Option Addr} {len cap:Nat} {zs:List Int} (h:IsRow .u8 w a len cap zs):∃ xs:List Int,xs.length=len∧RowB w (.slice a len cap) xs:=by
 rcases h with ⟨rfl,rfl,rfl,rfl⟩ | ⟨x,rfl,hl,_,hz,hcell,hwz⟩
 ·exact ⟨[],rfl,none,0,rfl,.inl rfl,fun x hx=>by cases hx⟩
 ·have hlen:(zs.take len).length=len:=by rw [List.length_take];omega
  refine ⟨zs.take len,hlen,some x,cap,by rw [hlen],?_,?_⟩
  ·by_cases h0:len=0
   ·exact .inl (by rw [h0];rfl)
   ·obtain ⟨b,off,spot⟩:=x
    have hc:=hcell 0 (by omega)
    have hspot:spot=none:=by simpa [Addr.add] using World.cell?_spot hc
    subst hspot
    have hc0:w.cell? ⟨b,off,none⟩=some (.int .u8 (zs.getD 0 0)):=by simpa [Addr.add] using hc
    refine .inr ⟨b,off,rfl,by omega,World.block_lt_of_cell? w _ hc0,fun i hi=>?_⟩
    have h1:=hcell i (by omega)
    have h2:(⟨b,off,none⟩ : Addr).add i=⟨b,off+i,none⟩:=by unfold Addr.add;split <;> simp_all
    rw [h2] at h1
    rw [h1]
    unfold nth
    rw [List.getD_eq_getElem?_getD,List.getD_eq_getElem?_getD,List.getElem?_take_of_lt (by omega)]
  ·intro n hn
   have:=hwz n (List.mem_of_mem_take hn)
   simpa [Lit.wf,IntKind.min,IntKind.max,IntKind.signed,IntKind.bits] using this
end Go.Proofs.YtakfniknkejgpaaGreatDoor.Sl
namespace Go.Proofs.YtakfniknkejgpaaGreatDoor.Op
open Go.ChangeShapes Go.WideShapes Go.ChangeAt Go.RowKit
set_option maxRecDepth 100000 in
theorem open_bytes {H:Type} {enc:TypeId × Value→H} {w:World} {base:Nat} {spare:Nat→Bool} {r:Reach} {b0:Nat} {v:Value} {d:DataW H} {p:List MemPlace}
 (hv:Value.okWide Tryz.prog w r b0 22 v) (h:DataW.Trod enc Tryz.prog w base spare true 22 v d p) (hs:∀ b,spare b=true) :
 ∃ xs:List Int,Sl.RowB w v xs:=by
 obtain ⟨a0,len0,cap0,rfl⟩:=okWide_slice Tryz.underlying22 hv
 obtain ⟨fuel,hf⟩:=h
 have hsp:spare=fun _=>true:=funext hs
 subst hsp
 have:∃ zs,Sl.IsRow .u8 w a0 len0 cap0 zs:=by
  rcases open_ints Tryz.underlying22 Tryz.underlying5 (by kernel_rfl) hf with ⟨hcs,_⟩ | ⟨x,l,c,zs,hcs,_,hl,hm,hz,_,hcell,hwz⟩
  ·simp [Value.cells] at hcs
   obtain ⟨rfl,rfl,rfl⟩:=hcs
   exact ⟨[],.inl ⟨rfl,rfl,rfl,rfl⟩⟩
  ·simp [Value.cells] at hcs
   obtain ⟨rfl,rfl,rfl⟩:=hcs
   exact ⟨zs,.inr ⟨_,rfl,hl,hm,by simpa using hz,hcell,hwz⟩⟩
 obtain ⟨zs,hz⟩:=this
 obtain ⟨xs,_,hx⟩:=Sl.rowB_of hz
 exact ⟨xs,hx⟩
end Go.Proofs.YtakfniknkejgpaaGreatDoor.Op
