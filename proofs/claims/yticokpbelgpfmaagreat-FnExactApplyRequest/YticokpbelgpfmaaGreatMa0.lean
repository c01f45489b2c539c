/- Texts put together: By, Ap, Tz. -/
import Derived.WalkKit
import Derived.ProofKit
import Derived.Laws.BytesArg
import Derived.Deep.AppendLies
import Derived.Test.YticokpbelgpfmaaGreatRows
import Derived.WalkSpells
import Derived.Laws.NewBlocks
import Derived.Laws.MakeOwn
import Derived.Deep.QuietTactic
import Derived.BigQuiet
import Derived.Lib.AppendStr
import Derived.Deep.Upon
import Derived.Laws.OwnMore
import Derived.Maps.AppendAt
import Derived.Lib.SmallJoins
import Derived.Lib.ConvBytes
namespace Go.Proofs.YticokpbelgpfmaaGreat.By
open Go.RowKit
def OwnB (e:TypeId) (w:World) (B:Nat) (v:Value) (zs:List Int):Prop:=w.ownsRow B e 1 v zs.length (zs.map (Value.int .u8))
theorem run_convert_own {P:Program} (w:World) (base:Nat) (src e dst:TypeId) (hs:P.underlying src=some (.slice e)) (he:P.underlying e=some (.int .u8)) (hd:P.underlying dst=some .string)
 (v:Value) (zs:List Int) (h:OwnB e w base v zs):(convert src dst v).run P w=.ok (.string (strOfNums zs)) w:=by
 obtain ⟨hl,h⟩:=h
 obtain ⟨n,hn⟩ : ∃ n,zs.length=n:=⟨_,rfl⟩
 rw [hn] at h
 rcases h with ⟨rfl,h0⟩ | ⟨g,cap,cur,rfl,_,hg,_,_,hcs,htk⟩
 ·obtain rfl:zs=[]:=List.length_eq_zero_iff.1 (by omega)
  rw [run_convert_bytes_nil w src e hs he 0 0 dst hd]
  rfl
 ·refine run_convert_bytes_arg w src e hs he g 0 n cap zs hn (fun i hi=>?_) dst hd
  have h1:(cur.toList.take (n * 1))[i]?=some (.int .u8 (zs.getD i 0)):=by
   rw [htk,List.getElem?_map,List.getElem?_eq_getElem (by omega)]
   simp [List.getD,List.getElem?_eq_getElem (show i<zs.length by omega)]
  have h2:cur[i]?=some (.int .u8 (zs.getD i 0)):=by
   rw [List.getElem?_take] at h1
   split at h1
   ·simpa using h1
   ·cases h1
  simp [World.cell?,hg,h2]
end Go.Proofs.YticokpbelgpfmaaGreat.By
namespace Go.Proofs.YticokpbelgpfmaaGreat.Ap
open Go.RowKit By
theorem addr_add (b off j:Nat):(⟨b,off,none⟩ : Addr).add j=⟨b,off+j,none⟩:=by unfold Addr.add;split <;> simp_all
theorem own_lit (e:TypeId) (w:World) (B:Nat) (zs:List Int) (n:Nat) (hn:zs.length=n) (hb:B≤w.heap.size) (hm:n≤1048576):OwnB e (w.alloc (.cells (zs.map (Value.int .u8)).toArray e)) B (.slice (some ⟨w.heap.size,0,none⟩) n n) zs:=by
 subst hn
 have:=World.ownsRow_lit (base:=B) (e:=e) (size:=1) w (zs.map (Value.int .u8)).toArray zs.length hb (by unfold maxLen;omega) (by simp)
 unfold OwnB
 simpa using this
theorem own_one (e:TypeId) (w:World) (B:Nat) (z:Int) (hb:B≤w.heap.size):OwnB e (w.alloc (.cells #[.int .u8 z] e)) B (.slice (some ⟨w.heap.size,0,none⟩) 1 1) [z]:=own_lit e w B [z] 1 rfl hb (by decide)
section
variable {P:Program} {e:TypeId} {i:TypeInfo}
theorem wp_app {o:Oper} {a:Act} {K:Act→World→Prop} {Q:Exit→Act→World→Prop} {W:World} {s x:Operand} {t tx:TypeId} {v u v':Value} {w':World}
 (ho:o.op=.call { callee:=.builtin .append,args:=#[s,x],argTypes:=#[t,tx] }) (hs:a.eval s=v) (hx:a.eval x=u) (hr:(Builtin.append_ #[t,tx] o.type #[v,u]).run P W=.ok v' w') (h:K (a.put o.dst v') w'):Oper.wp P o a W K Q:=by
 unfold Oper.wp execOp
 simp only [ho,resolve,invoke,builtin,Sem.run_bind,Sem.run_pure,Result.andThen_ok,List.map_toArray,List.map_cons,List.map_nil,hs,hx,hr]
 exact h
variable {ops:Array Oper} {rest:List Oper} {o:Oper} {a:Act} {K:Act→World→Prop} {Q:Exit→Act→World→Prop} {E:Prop}
end
theorem ordB {w0 w1:World} {B:Nat} (hB:B=w0.heap.size) (b1:Below w0.drew.heap.size w0.drew w1):Below B w0 w1∧B≤w1.heap.size:=by
 subst hB
 have h0:Below w0.heap.size w0 w0.drew:=(Below.refl _ _).drew
 have h1:Below w0.heap.size w0 w1:=h0.trans b1
 exact ⟨h1,h1.size⟩
end Go.Proofs.YticokpbelgpfmaaGreat.Ap
namespace Go.Proofs.YticokpbelgpfmaaGreat.Tx
open Go.RowKit By Ap
theorem zAL (w:World) (o:Obj):(w.alloc o).heap.size=w.heap.size+1:=by simp
theorem zAA {w:World} {b:Nat} {cs:Array Value} {t:TypeId} (h:w.heap[b]?=some (.cells cs t (0,0))) (i:Nat) {x:Value} (hx:cs[i]?=some x):w.cell? ⟨b,i,none⟩=some x∧w.frozen? ⟨b,i,none⟩=false:=by
 refine ⟨(Joins.cell_of_block h i).trans hx,?_⟩
 simp [World.frozen?,h]
theorem zAC {w:World} {b:Nat} {cs:Array Value} {t:TypeId} (h:w.heap[b]?=some (.cells cs t (0,0))) (i:Nat) (x:Value):(w.setCell ⟨b,i,none⟩ x).heap[b]?=some (.cells (cs.setIfInBounds i x) t (0,0)):=Joins.block_setCell (i:=i) h x
theorem zAE {w:World} {b k:Nat} (hk:k ≠ b) (i:Nat) (x:Value):(w.setCell ⟨b,i,none⟩ x).heap[k]?=w.heap[k]?:=Below.heap_setCell w ⟨b,i,none⟩ x k hk
theorem zAJ (w:World) (cs:Array Value) (t:TypeId):(w.alloc (.cells cs t)).heap[w.heap.size]?=some (.cells cs t (0,0)):=heap_alloc_new w _
theorem zAD (w:World) (o:Obj):Below w.heap.size w (w.alloc o):=(Below.refl _ _).alloc (Nat.le_refl _) _
end Go.Proofs.YticokpbelgpfmaaGreat.Tx
