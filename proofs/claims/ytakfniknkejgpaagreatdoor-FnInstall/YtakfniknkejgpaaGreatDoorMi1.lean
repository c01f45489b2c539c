/- Texts put together: Sl, Mem, ShaW. -/
import Derived.Test.YtakfniknkejgpaaGreatDoorMi0
import Derived.Laws.NewBlocks
import Derived.Laws.MakeOwn
import Derived.Deep.QuietTactic
import Derived.BigQuiet
import Derived.Deep.Draws
import Derived.Laws.Tables
import Derived.BigRegion
namespace Go.Proofs.YtakfniknkejgpaaGreatDoor.Sl
open Go.RowKit
def nth (xs:List Int) (i:Nat):Int:=xs.getD i 0
def RowB (w:World) (v:Value) (xs:List Int):Prop :=
 ∃ a cap,v=.slice a xs.length cap∧(xs=[] ∨ ∃ b off,a=some ⟨b,off,none⟩∧xs.length≤cap∧b<w.heap.size∧∀ i,i<xs.length→w.cell? ⟨b,off+i,none⟩=some (.int .u8 (nth xs i)))∧∀ x ∈ xs,0≤x∧x≤255
theorem RowB.below {w w':World} {v:Value} {xs:List Int} (h:RowB w v xs) (hb:Below w.heap.size w w'):RowB w' v xs:=by
 obtain ⟨a,cap,rfl,h,hr⟩:=h
 refine ⟨a,cap,rfl,?_,hr⟩
 rcases h with h | ⟨b,off,rfl,hc,hlt,h⟩
 ·exact .inl h
 ·exact .inr ⟨b,off,rfl,hc,Nat.lt_of_lt_of_le hlt hb.size,fun i hi=>(hb.cell (p:=⟨b,off+i,none⟩) hlt).trans (h i hi)⟩
theorem range_at {xs:List Int} (h:∀ x ∈ xs,0≤x∧x≤255) (k:Nat):0≤nth xs k∧nth xs k≤255:=by
 unfold nth
 rw [List.getD_eq_getElem?_getD]
 cases e:xs[k]? with
 | none=>simp
 | some x=>simpa using h x (List.mem_of_getElem? e)
theorem info5:(Tryz.prog.info? 5).map (fun i=>(i.zero,i.size,i.bytes))=some (some (.int .u8 0),1,1):=by kernel_rfl
end Go.Proofs.YtakfniknkejgpaaGreatDoor.Sl
namespace Go.Proofs.YtakfniknkejgpaaGreatDoor.Me
open Go.RowKit
def ArrAt (w:World) (g:Nat) (T:TypeId) (A:Array Value):Prop:=w.heap[g]?=some (.cells A T (0,0))
theorem ArrAt.lt {w:World} {g:Nat} {T:TypeId} {A:Array Value} (h:ArrAt w g T A):g<w.heap.size:=(Array.getElem?_eq_some_iff.1 h).1
theorem ArrAt.cell {w:World} {g:Nat} {T:TypeId} {A:Array Value} (h:ArrAt w g T A) (j:Nat):w.cell? ⟨g,j,none⟩=A[j]?:=by
 unfold ArrAt at h;simp [World.cell?,h]
theorem ArrAt.frozen {w:World} {g:Nat} {T:TypeId} {A:Array Value} (h:ArrAt w g T A) (j:Nat):w.frozen? ⟨g,j,none⟩=false:=by
 unfold ArrAt at h;simp [World.frozen?,h]
theorem ArrAt.drew {w:World} {g:Nat} {T:TypeId} {A:Array Value} (h:ArrAt w g T A):ArrAt w.drew g T A:=h
theorem ArrAt.drewN {w:World} {g:Nat} {T:TypeId} {A:Array Value} (h:ArrAt w g T A) (n:Nat):ArrAt (w.drewN n) g T A:=h
theorem ArrAt.alloc {w:World} {g:Nat} {T:TypeId} {A:Array Value} (h:ArrAt w g T A) (o:Obj):ArrAt (w.alloc o) g T A:=by
 unfold ArrAt at h ⊢;exact (heap_alloc_old w o (ArrAt.lt h)).trans h
theorem zBG (w:World) (T:TypeId) (A:Array Value):ArrAt (w.alloc (.cells A T)) w.heap.size T A:=heap_alloc_new w _
theorem ArrAt.below {w w':World} {B g:Nat} {T:TypeId} {A:Array Value} (h:ArrAt w g T A) (hb:Below B w w') (hg:g<B):ArrAt w' g T A:=(hb.block g hg).trans h
theorem ArrAt.setCell_other {w:World} {g:Nat} {T:TypeId} {A:Array Value} (h:ArrAt w g T A) {a:Addr} (hne:g ≠ a.block) (v:Value):ArrAt (w.setCell a v) g T A:=(Below.heap_setCell w a v g hne).trans h
theorem ArrAt.setCell_same {w:World} {g:Nat} {T:TypeId} {A:Array Value} (h:ArrAt w g T A) (j:Nat) (v:Value):ArrAt (w.setCell ⟨g,j,none⟩ v) g T (A.setIfInBounds j v):=by
 have hl:=ArrAt.lt h
 unfold ArrAt at h ⊢
 have h':w.heap[g]=.cells A T (0,0):=(Array.getElem?_eq_some_iff.1 h).2
 simp [World.setCell,hl,Array.getElem_modify,h']
theorem ArrAt.setRow_same {w:World} {g:Nat} {T:TypeId} {A:Array Value} (h:ArrAt w g T A) (C:Array Value):ArrAt (w.setRow g C) g T C:=setRow_heap w g A C T (0,0) h
theorem ArrAt.setRow_other {w:World} {g g':Nat} {T:TypeId} {A:Array Value} (h:ArrAt w g T A) (hne:g ≠ g') (C:Array Value):ArrAt (w.setRow g' C) g T A:=(Go.setRow_other w g' g C hne).trans h
theorem below_setRow {w w':World} {B g:Nat} (hb:Below B w w') (hg:B≤g) (C:Array Value):Below B w (w'.setRow g C) :=
 hb.trans ⟨rfl,rfl,rfl,by simp,fun k hk=>Go.setRow_other w' g k C (by omega)⟩
theorem below_drewN {w w':World} {B:Nat} (hb:Below B w w') (n:Nat):Below B w (w'.drewN n):=hb.trans ⟨rfl,rfl,rfl,Nat.le_refl _,fun _ _=>rfl⟩
end Go.Proofs.YtakfniknkejgpaaGreatDoor.Me
namespace Go.Proofs.YtakfniknkejgpaaGreatDoor.Sh
open Go.RowKit Sl Me
theorem nth_nat {xs:List Int} (hr:∀ x ∈ xs,0≤x∧x≤255) (i:Nat):nth xs i=nat (wb xs i) :=
 wb_eq xs i (range_at hr i).1 (range_at hr i).2
def zeros:Array Value:=Array.replicate 64 (.int .u32 0)
theorem zeros_size:zeros.size=64:=by unfold zeros;simp
theorem zeroW (w:World):Sem.run Tryz.prog (zeroValue 199) w=.ok (.agg zeros) w:=by kernel_rfl
def zCJ (xs:List Int) (k:Nat) (A:Array Value):Prop:=A.size=64∧∀ j,j<k→A[j]?=some (.int .u32 (nat (wt xs j)))
theorem words_step {xs:List Int} {k:Nat} {A:Array Value} (h:zCJ xs k A) (hk:k<64):zCJ xs (k+1) (A.setIfInBounds k (.int .u32 (nat (wt xs k)))):=by
 refine ⟨by rw [Array.size_setIfInBounds];exact h.1,fun j hj=>?_⟩
 rw [Array.getElem?_setIfInBounds]
 by_cases e:k=j
 ·subst e
  rw [if_pos rfl,if_pos (by rw [h.1];exact hk)]
 ·rw [if_neg e]
  exact h.2 j (by omega)
theorem words_get {xs:List Int} {k:Nat} {A:Array Value} (h:zCJ xs k A) (hk:k<64):∃ x,A[k]?=some x:=⟨_,Array.getElem?_eq_getElem (by rw [h.1];exact hk)⟩
theorem infoW:(Tryz.prog.info? 199).map (·.size)=some 64:=by kernel_rfl
theorem words_one {xs:List Int} {A:Array Value} (h:zCJ xs 64 A):A.all (·.oneCell')=true:=by
 rw [Array.all_eq_true]
 intro i hi
 have h2:=h.2 i (by rw [← h.1];exact hi)
 rw [Array.getElem?_eq_getElem hi] at h2
 rw [Option.some.inj h2]
 rfl
set_option maxRecDepth 100000 in
set_option maxHeartbeats 1600000 in
theorem spreadBlock_any (v:Value) (xs:List Int) (w:World) (h:RowB w v xs) (hl:xs.length=64) :
 Calls Tryz.prog 120 #[v] w fun e w'=>∃ A,e=.returned (.agg A)∧zCJ xs 64 A∧Below w.heap.size w w':=by
 obtain ⟨a,cap,rfl,h,hr⟩:=h
 rcases h with h | ⟨b,off,rfl,hc,hb,hcell⟩
 ·rw [h] at hl;exact absurd hl (by decide)
 have hz:=zeroW w
 have hz2:=zeroW (w.alloc (.cells zeros 199))
 have hl0:(xs.length:Int)≤64:=by omega
 have hl1:(64:Int)≤(xs.length:Int):=by omega
 have HL:Hid (xs.length=64):=hl
 clear hl
 go_enter Tryz.func120,Tryz.ntmps120
 go_wp2_with fail
 clear hz hz2
 go_loopw [8] (fun i wr=>∃ k:Nat,∃ A:Array Value,k≤16∧i=.int .i64 k∧Below w.heap.size w wr∧ArrAt wr (w.heap.size+1) 199 A∧zCJ xs k A∧ArrAt wr w.heap.size 199 zeros) (fun i _=>16 - (intOf i).toNat)
 case atStart=>exact ⟨0,zeros,by omega,rfl,((Below.refl _ _).alloc (Nat.le_refl _) _).alloc (by simp) _,by have:=zBG (w.alloc (.cells zeros 199)) 199 zeros;simpa using this,⟨zeros_size,fun j hj=>absurd hj (by omega)⟩,(zBG w _ _).alloc _⟩
 case round =>
  obtain ⟨k,A,hk,rfl,hbel,hA,hW,hZ⟩:=hrel
  by_cases hlt:k<16
  ·obtain ⟨x,hx⟩:=words_get hW (show k<64 by omega)
   have c0:wr.cell? ⟨b,off+(4 * k),none⟩=some (.int .u8 (nat (wb xs (4 * k)))):=by rw [hbel.cell (p:=⟨b,off+(4 * k),none⟩) hb,hcell _ (by have:=HL.out;omega),nth_nat hr]
   have c1:wr.cell? ⟨b,off+(4 * k+1),none⟩=some (.int .u8 (nat (wb xs (4 * k+1)))):=by rw [hbel.cell (p:=⟨b,off+(4 * k+1),none⟩) hb,hcell _ (by have:=HL.out;omega),nth_nat hr]
   have c2:wr.cell? ⟨b,off+(4 * k+2),none⟩=some (.int .u8 (nat (wb xs (4 * k+2)))):=by rw [hbel.cell (p:=⟨b,off+(4 * k+2),none⟩) hb,hcell _ (by have:=HL.out;omega),nth_nat hr]
   have c3:wr.cell? ⟨b,off+(4 * k+3),none⟩=some (.int .u8 (nat (wb xs (4 * k+3)))):=by rw [hbel.cell (p:=⟨b,off+(4 * k+3),none⟩) hb,hcell _ (by have:=HL.out;omega),nth_nat hr]
   have hcA:wr.cell? ⟨w.heap.size+1,k,none⟩=some x:=(hA.cell k).trans hx
   have hfA:=hA.frozen k
   have q0:(0:Int)≤(k:Int):=by omega
   have q1:(k:Int)<16:=by omega
   have hwr:=nat_wrap
   have hor:=nat_or
   have hs24:∀ y:UInt32,nat y * (16777216:Int) % (4294967296:Int)=nat (y <<< 24):=fun y=>nat_shl y 24 (by decide)
   have hs16:∀ y:UInt32,nat y * (65536:Int) % (4294967296:Int)=nat (y <<< 16):=fun y=>nat_shl y 16 (by decide)
   have hs8:∀ y:UInt32,nat y * (256:Int) % (4294967296:Int)=nat (y <<< 8):=fun y=>nat_shl y 8 (by decide)
   clear hcell
   have hA2:=(hA.setCell_same k (.int .u32 (nat (be xs k)))).drew
   have hZ2:=(hZ.setCell_other (a:=⟨w.heap.size+1,k,none⟩) (by simp) (.int .u32 (nat (be xs k)))).drew
   have hW2:=words_step hW (show k<64 by omega)
   rw [wt_low xs k hlt] at hW2
   have hb2:=(hbel.setCell (p:=⟨w.heap.size+1,k,none⟩) (by simp) (.int .u32 (nat (be xs k)))).drew
   go_wp2_with fail
   go_region
   clear hwr hor hs24 hs16 hs8
   go_wp2
   go_roundw
   case rel=>exact ⟨k+1,_,by omega,by go_num,hb2,hA2,hW2,hZ2⟩
   case measure=>simp [intOf];omega
  ·obtain rfl:k=16:=by omega
   clear hcell
   go_wp2_with fail
   go_loopw [5] (fun i wr=>∃ k:Nat,∃ A:Array Value,16≤k∧k≤64∧i=.int .i64 k∧Below w.heap.size w wr∧ArrAt wr (w.heap.size+1) 199 A∧zCJ xs k A∧ArrAt wr w.heap.size 199 zeros) (fun i _=>64 - (intOf i).toNat)
   case atStart=>exact ⟨16,A,by omega,by omega,rfl,hbel,hA,hW,hZ⟩
   case round =>
    clear hbel hA hW hZ
    obtain ⟨k,A,hk16,hk,rfl,hbel,hA,hW,hZ⟩:=hrel
    by_cases hlt:k<64
    ·obtain ⟨x,hx⟩:=words_get hW hlt
     have c15:wr.cell? ⟨w.heap.size+1,k - 15,none⟩=some (.int .u32 (nat (wt xs (k - 15)))):=(hA.cell _).trans (hW.2 _ (by omega))
     have q0:(16:Int)≤(k:Int):=by omega
     have q1:(k:Int)<64:=by omega
     have hxr:=nat_xor
     have hs3:∀ y:UInt32,nat y / (8:Int)=nat (y >>> 3):=fun y=>nat_shr y 3 (by decide)
     have hs10:∀ y:UInt32,nat y / (1024:Int)=nat (y >>> 10):=fun y=>nat_shr y 10 (by decide)
     go_wp2_with fail
     go_quiet ((go_at_call 134;exact Calls.quiet_of_same (zBh _ _ _ (by decide) (by decide))))
     have hbq:Below w.heap.size w (wr.drewN nq):=hbel.trans ⟨rfl,rfl,rfl,Nat.le_refl _,fun _ _=>rfl⟩
     have hAq:=hA.drewN nq
     have hZq:=hZ.drewN nq
     clear c15 hbel hA hZ
     generalize wr.drewN nq=wq at hbq hAq hZq ⊢
     have c2:wq.cell? ⟨w.heap.size+1,k - 2,none⟩=some (.int .u32 (nat (wt xs (k - 2)))):=(hAq.cell _).trans (hW.2 _ (by omega))
     go_wp2_with fail
     go_quiet ((go_at_call 134;exact Calls.quiet_of_same (zBh _ _ _ (by decide) (by decide))))
     have hbp:Below w.heap.size w (wq.drewN nq):=hbq.trans ⟨rfl,rfl,rfl,Nat.le_refl _,fun _ _=>rfl⟩
     have hAp:=hAq.drewN nq
     have hZp:=hZq.drewN nq
     clear c2 hbq hAq hZq hxr hs3 hs10
     generalize wq.drewN nq=wp at hbp hAp hZp ⊢
     have c16:wp.cell? ⟨w.heap.size+1,k - 16,none⟩=some (.int .u32 (nat (wt xs (k - 16)))):=(hAp.cell _).trans (hW.2 _ (by omega))
     have c7:wp.cell? ⟨w.heap.size+1,k - 7,none⟩=some (.int .u32 (nat (wt xs (k - 7)))):=(hAp.cell _).trans (hW.2 _ (by omega))
     have hcA:wp.cell? ⟨w.heap.size+1,k,none⟩=some x:=(hAp.cell k).trans hx
     have hfA:=hAp.frozen k
     have had:=nat_add
     have HX:Hid (wt xs k=wt xs (k - 16)+s0 (wt xs (k - 15))+wt xs (k - 7)+s1 (wt xs (k - 2))):=wt_high xs k (by omega)
     have hA2:=(hAp.setCell_same k (.int .u32 (nat (wt xs (k - 16)+s0 (wt xs (k - 15))+wt xs (k - 7)+s1 (wt xs (k - 2)))))).drew
     have hZ2:=(hZp.setCell_other (a:=⟨w.heap.size+1,k,none⟩) (by simp) (.int .u32 (nat (wt xs (k - 16)+s0 (wt xs (k - 15))+wt xs (k - 7)+s1 (wt xs (k - 2)))))).drew
     have hb2:=(hbp.setCell (p:=⟨w.heap.size+1,k,none⟩) (by simp) (.int .u32 (nat (wt xs (k - 16)+s0 (wt xs (k - 15))+wt xs (k - 7)+s1 (wt xs (k - 2)))))).drew
     have hW2:=words_step hW hlt
     rw [HX.out] at hW2
     go_wp2_with fail
     go_region
     clear had
     go_wp2
     go_roundw
     case rel=>exact ⟨k+1,_,by omega,by omega,by go_num,hb2,hA2,hW2,hZ2⟩
     case measure=>simp [intOf];omega
    ·obtain rfl:k=64:=by omega
     have hi:(Tryz.prog.info? 199).map (·.size)=some A.size:=by rw [hW.1];exact infoW
     have h1:=words_one hW
     have hi':Hid _:=hi
     go_wp2_with (first | (refine wpList_load_row (by rfl) 199 _ (by rfl) (w.heap.size+1) (by rfl) 199 A (0,0) _ hA Tryz.underlying199 rfl hi'.out ?_) | (refine wpList_store_row (by rfl) 199 _ _ (by rfl) w.heap.size A (by rfl) (by rfl) 199 zeros hZ hi'.out (by rw [hW.1,zeros_size]) h1 ?_))
     exact bodyPost_ret (v:=.agg A) (results_cell_row Tryz.results120 _ _ w.heap.size 199 A (0,0) _ (by rfl) (hZ.setRow_same A) Tryz.underlying199 rfl hi'.out) (by rfl) ⟨A,rfl,hW,below_setRow hbel (Nat.le_refl _) A⟩
end Go.Proofs.YtakfniknkejgpaaGreatDoor.Sh
