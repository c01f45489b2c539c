/- Texts put together: Tw, Tw2, Tw3. -/
import Derived.Test.YtakfniknkejgpaaGreatDoorMi4
import Derived.Laws.ResultCell
import Derived.Deep.CutRange
import Derived.Deep.DeepCutAuto
namespace Go.Proofs.YtakfniknkejgpaaGreatDoor.Tw
open Go.RowKit Sl Ap Tx Tb
def lkV (x:Lk) (u:Value):Value:=.agg #[.string x.n,.int .i64 x.t,.int .i64 x.h,.int .i64 x.e,u]
def snV (x:Sn):Value:=.agg #[.int .i64 x.c,.int .i64 x.s,.int .i64 x.k,.int .i64 x.t,.int .i64 x.h,.int .i64 x.e]
def wtV (x:Wt):Value:=.agg #[.int .i64 x.c,.int .i64 x.l]
theorem get_at {α:Type} {xs:List α} {k:Nat} (h:k<xs.length):∃ x,xs[k]?=some x:=⟨_,List.getElem?_eq_getElem h⟩
theorem lt_at {α:Type} {xs:List α} {k:Nat} {x:α} (h:xs[k]?=some x):k<xs.length:=(List.getElem?_eq_some_iff.1 h).1
theorem mem_at {α:Type} {xs:List α} {k:Nat} {x:α} (h:xs[k]?=some x):x ∈ xs:=List.mem_of_getElem? h
end Go.Proofs.YtakfniknkejgpaaGreatDoor.Tw
namespace Go.Proofs.YtakfniknkejgpaaGreatDoor.Tw
open Go.RowKit Sl Ap Tx Tb
theorem three {w w1:World} {o0 o1 o2:Obj} (b:Below (((w.alloc o0).alloc o1).alloc o2).heap.size (((w.alloc o0).alloc o1).alloc o2) w1) :
 w1.heap[w.heap.size]?=some o0∧w1.heap[w.heap.size+1]?=some o1∧w1.heap[w.heap.size+1+1]?=some o2∧w.heap.size+1+1+1≤w1.heap.size∧Below w.heap.size w w1:=by
 have e1:(w.alloc o0).heap.size=w.heap.size+1:=zAN _ _
 have e2:((w.alloc o0).alloc o1).heap.size=w.heap.size+1+1:=by rw [zAN,e1]
 have e3:(((w.alloc o0).alloc o1).alloc o2).heap.size=w.heap.size+1+1+1:=by rw [zAN,e2]
 have b1:Below w.heap.size w (((w.alloc o0).alloc o1).alloc o2):=(((Below.refl _ _).alloc (Nat.le_refl _) _).alloc (by rw [e1];omega) _).alloc (by rw [e2];omega) _
 have s:=b.size
 rw [e3] at b s
 refine ⟨?_,?_,?_,s,b1.trans (b.mono (by omega))⟩
 ·rw [b.block _ (by omega),Below.heap_alloc _ _ _ (by omega),Below.heap_alloc _ _ _ (by omega)];exact heap_alloc_new w _
 ·rw [b.block _ (by omega),Below.heap_alloc _ _ _ (by omega),← e1];exact heap_alloc_new _ _
 ·rw [b.block _ (by omega),← e2];exact heap_alloc_new _ _
end Go.Proofs.YtakfniknkejgpaaGreatDoor.Tw
namespace Go.Proofs.YtakfniknkejgpaaGreatDoor.Tw
open Go.RowKit Sl Ap Tx Tb
def EWA (B:Nat) (w:World) (b o:Nat) (x:Wt):Prop:=B≤b∧EW w b o x
def ESA (B:Nat) (w:World) (b o:Nat) (x:Sn):Prop:=B≤b∧ES w b o x
def ELA (B:Nat) (w:World) (b o:Nat) (x:Lk):Prop:=B≤b∧∃ u,w.cell? ⟨b,o,none⟩=some (.string x.n)∧w.cell? ⟨b,o+1,none⟩=some (.int .i64 x.t)∧w.cell? ⟨b,o+2,none⟩=some (.int .i64 x.h)∧w.cell? ⟨b,o+3,none⟩=some (.int .i64 x.e)∧w.cell? ⟨b,o+4,none⟩=some u∧RowG 2 (EWA B) w u x.ws
def RowLA (B:Nat) (w:World) (v:Value) (xs:List Lk):Prop:=RowG 5 (ELA B) w v xs
def RowSA (B:Nat) (w:World) (v:Value) (xs:List Sn):Prop:=RowG 6 (ESA B) w v xs
def Abv (B:Nat) (w w':World):Prop:=w.heap.size≤w'.heap.size∧∀ k,B≤k→k<w.heap.size→w'.heap[k]?=w.heap[k]?
theorem Abv.cell {B:Nat} {w w':World} (h:Abv B w w') {b o:Nat} (hB:B≤b) {v:Value} (hc:w.cell? ⟨b,o,none⟩=some v):w'.cell? ⟨b,o,none⟩=some v :=
 (World.cell?_of_block (w:=w) (h.2 b hB (World.block_lt_of_cell? w _ hc))).trans hc
theorem RowG.keep {α:Type} {c B:Nat} {E E':World→Nat→Nat→α→Prop} {w w':World} {v:Value} {xs:List α} (h:RowG c E w v xs) (ha:Abv B w w') (hE:∀ b o x,b<w.heap.size→E w b o x→E' w' b o x):RowG c E' w' v xs:=by
 obtain ⟨a,cap,rfl,h⟩:=h
 refine ⟨a,cap,rfl,?_⟩
 rcases h with h | ⟨b,off,rfl,hc,hlt,h⟩
 ·exact .inl h
 ·exact .inr ⟨b,off,rfl,hc,Nat.lt_of_lt_of_le hlt ha.1,fun i x hi=>hE _ _ _ hlt (h i x hi)⟩
theorem ewa_keep {B:Nat} {w w':World} (ha:Abv B w w') {b o:Nat} {x:Wt} (h:EWA B w b o x):EWA B w' b o x:=⟨h.1,ha.cell h.1 h.2.1,ha.cell h.1 h.2.2⟩
theorem RowLA.keep {B:Nat} {w w':World} {v:Value} {xs:List Lk} (h:RowLA B w v xs) (ha:Abv B w w'):RowLA B w' v xs :=
 RowG.keep h ha fun _ _ _ _ ⟨hB,u,h0,h1,h2,h3,h4,h5⟩=>⟨hB,u,ha.cell hB h0,ha.cell hB h1,ha.cell hB h2,ha.cell hB h3,ha.cell hB h4,RowG.keep h5 ha fun _ _ _ _ h=>ewa_keep ha h⟩
theorem RowSA.keep {B:Nat} {w w':World} {v:Value} {xs:List Sn} (h:RowSA B w v xs) (ha:Abv B w w'):RowSA B w' v xs :=
 RowG.keep h ha fun _ _ _ _ ⟨hB,h0,h1,h2,h3,h4,h5⟩=>⟨hB,ha.cell hB h0,ha.cell hB h1,ha.cell hB h2,ha.cell hB h3,ha.cell hB h4,ha.cell hB h5⟩
end Go.Proofs.YtakfniknkejgpaaGreatDoor.Tw
