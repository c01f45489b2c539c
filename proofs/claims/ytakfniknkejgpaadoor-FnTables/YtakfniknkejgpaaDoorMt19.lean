/- Texts put together: Qt, ShaB, ShaA. -/
import Derived.Test.YtakfniknkejgpaaDoorRows
import Derived.StillTail
import Derived.BigQuiet
import Derived.Test.YtakfniknkejgpaaDoorMt18
import Derived.Deep.AppendLies
import Derived.Deep.RegionHeld3
import Derived.Deep.Upon
import Derived.Maps.AppendAt
/- A region that draws its order, whose first operations only read and whose last ones stand behind all of them: one walk. -/
namespace Go.Proofs.YtakfniknkejgpaaDoor.Qt
open Go.RowKit

theorem still_of_quiet {P : Program} {ops : Array Oper} {w : World} {Q : Act → Prop} : ∀ (l : List Oper) (a : Act), wpQuiet P ops (fun w' => w' = w) Q l a → wpStill P ops w Q l a := by
 intro l
 induction l with
 | nil => intro a h; exact h
 | cons o rest ih =>
   intro a h
   unfold wpQuiet at h
   unfold wpStill
   by_cases hw : Region.wanted o (yielded ops a.tmps) = true
   ·rw [if_pos hw] at h ⊢
    obtain ⟨v, hv, hn⟩ := h
    have h1 := hv w rfl
    have h2 := ih _ hn
    unfold Oper.still
    unfold Oper.quietAt at h1
    generalize (execOp a.eval o).run P w = r at h1
    cases r with
    | ok n w' =>
      cases n <;> simp only [Oper.quietUpon, Oper.stillUpon] at h1 ⊢
      case value u => obtain ⟨e1, e2⟩ := h1; rw [e2]; exact ⟨e1, h2⟩
      case skip => obtain ⟨e1, e2⟩ := h1; rw [← e2]; exact ⟨e1, h2⟩
      case enter f args => exact ⟨h1.1, v, h1.2, h2⟩
    | halt x w' => simp only [Oper.quietUpon] at h1
   ·rw [if_neg hw] at h ⊢
    exact ih _ h

theorem region_quiet_tail {P : Program} {id : Nat} {Q : Exit → Act → World → Prop} {a : Act} {w : World} {l : List Oper} (n : Nat) (hm : P.follows .mixedOrders = true) (hB : Region.lexTailB .any l.toArray n = true)
 (h : wpQuiet P l.toArray (fun w' => w' = w.drew) (fun a' => wpList P l.toArray Q (l.drop n) a' w.drew) (l.take n) a) : (Code.region id l.toArray true).wp P Q a w :=
 wp_region_still_tail n hm hB (still_of_quiet _ _ h)
end Go.Proofs.YtakfniknkejgpaaDoor.Qt

/- The specification's l01Block: a block taken into the state. -/
namespace Go.Proofs.YtakfniknkejgpaaDoor.Sh
open Go.RowKit Go.Proofs.YtakfniknkejgpaaDoor.Sl Go.Proofs.YtakfniknkejgpaaDoor.Me

theorem mk64 (w : World) : Sem.run Tryd.prog (Instr.makeSlice 104 (.int .i64 64) (.int .i64 64)) w = .ok (.slice (some ⟨w.heap.size, 0, none⟩) 64 64) (w.alloc (.cells zeros 103)) := by kernel_rfl
def Row8 (w : World) (g : Nat) (r : R8) : Prop := ∀ j, j < 8 → w.cell? ⟨g, j, none⟩ = some (.int .u32 (nat (at8 r j)))

theorem infoU : (Tryd.prog.info? 103).map (fun i => (i.zero, i.size, i.bytes)) = some (some (.int .u32 0), 1, 4) := by kernel_rfl
theorem own_row8 {w : World} {B e g cap : Nat} {r : R8} (h : w.ownsRow B e 1 (.slice (some ⟨g, 0, none⟩) (0 + 8) cap) (0 + 8) ([] ++ (arr8 r).toList)) : Row8 w g r ∧ B ≤ g ∧ 8 ≤ cap := by
 rcases h.2 with ⟨h0, _⟩ | ⟨g', cap', cur, e1, hb, hg, hn, _, _, htk⟩
 ·cases h0
 ·cases e1
  refine ⟨fun j hj => ?_, hb, hn⟩
  have h1 : (cur.toList.take ((0 + 8) * 1))[j]? = some (.int .u32 (nat (at8 r j))) := by
   rw [htk, List.nil_append, Array.getElem?_toList]; exact arr8_at r j hj
  rw [List.getElem?_take_of_lt (by omega), Array.getElem?_toList] at h1
  simp [World.cell?, hg, h1]
theorem keep1 {w : World} {g k j : Nat} {u v : Value} (h : w.cell? ⟨g, j, none⟩ = some u) (hne : ¬ k = j) : (w.setCell ⟨g, k, none⟩ v).drew.cell? ⟨g, j, none⟩ = some u := by
 show (w.setCell ⟨g, k, none⟩ v).cell? ⟨g, j, none⟩ = some u
 exact (World.cell?_setCell_other w ⟨g, k, none⟩ ⟨g, j, none⟩ v (by intro e; exact hne (congrArg Addr.off e))).trans h
theorem keep2 {w : World} {g k i j : Nat} {u u' v : Value} (h : w.cell? ⟨g, i, none⟩ = some u) (h' : w.cell? ⟨g, j, none⟩ = some u') (hi : ¬ k = i) (hj : ¬ k = j) :
 (w.setCell ⟨g, k, none⟩ v).drew.cell? ⟨g, i, none⟩ = some u ∧ (w.setCell ⟨g, k, none⟩ v).drew.cell? ⟨g, j, none⟩ = some u' := ⟨keep1 h hi, keep1 h' hj⟩

theorem t_eq (x : R8) (k w : UInt32) : (nat (x.h + (rotr x.e 6 ^^^ rotr x.e 11 ^^^ rotr x.e 25) + (x.e &&& x.f ^^^ ~~~x.e &&& x.g) + k) + nat w) % 4294967296 = nat (tOf x k w) := nat_add _ _
theorem u_eq (x : R8) : (nat (rotr x.a 2 ^^^ rotr x.a 13 ^^^ rotr x.a 22) + nat (x.a &&& x.b ^^^ x.a &&& x.c ^^^ x.b &&& x.c)) % 4294967296 = nat (uOf x) := nat_add _ _
theorem wt_highx (xs : List Int) (k : Nat) (h : ¬ k < 16) : wt xs k = wt xs (k - 16) + (rotr (wt xs (k - 15)) 7 ^^^ rotr (wt xs (k - 15)) 18 ^^^ wt xs (k - 15) >>> 3) + wt xs (k - 7) + (rotr (wt xs (k - 2)) 17 ^^^ rotr (wt xs (k - 2)) 19 ^^^ wt xs (k - 2) >>> 10) := wt_high xs k h
theorem row8_new {w w' : World} {r : R8} (h : ArrAt w' w.heap.size 103 (arr8 r)) : Row8 w' w.heap.size r := fun j hj => (h.cell j).trans (arr8_at r j hj)
theorem row8_set {w : World} {g gv : Nat} {r : R8} (h : Row8 w gv r) (hne : gv ≠ g) (j : Nat) (v : Value) : Row8 (w.setCell ⟨g, j, none⟩ v).drew gv r := fun i hi =>
 (World.cell?_setCell_other w ⟨g, j, none⟩ ⟨gv, i, none⟩ v (by intro e; exact hne (congrArg Addr.block e).symm)).trans (h i hi)
theorem grown_start {w w' : World} (h : Below w.heap.size w w') (g : Nat) : w.grownBy w' (some g) := ⟨h.os, h.tape, h.output, h.size, fun i hi _ => h.block i hi⟩
theorem grown_set {w w' : World} {g : Nat} (h : w.grownBy w' (some g)) (j : Nat) (v : Value) : w.grownBy (w'.setCell ⟨g, j, none⟩ v).drew (some g) :=
 h.trans ⟨rfl, rfl, rfl, by simp, fun k _ hk => Below.heap_setCell w' ⟨g, j, none⟩ v k (fun e => hk (by rw [e]))⟩

set_option maxRecDepth 100000 in
set_option maxHeartbeats 1600000 in
theorem l01Block_any (r : R8) (xs : List Int) (vb : Value) (gh gk : Nat) (KA : Array Value) (w : World) (hX : ArrAt w gh 103 (arr8 r)) (hK : ArrAt w gk 103 KA) (hKA : ∀ i, i < 64 → KA[i]? = some (.int .u32 (nat (kt i))))
 (h : RowB w vb xs) (hl : xs.length = 64) :
 Calls Tryd.prog 65 #[.slice (some ⟨gh, 0, none⟩) 8 8, vb, .slice (some ⟨gk, 0, none⟩) 64 64] w fun e w' => e = .returned (.tuple #[]) ∧ ArrAt w' gh 103 (arr8 (blk r xs)) ∧ w.grownBy w' (some gh) := by
 obtain ⟨a, cap, rfl, h, hr⟩ := h
 rcases h with h | ⟨b, off, rfl, hc, hb, hcell⟩
 ·rw [h] at hl; exact absurd hl (by decide)
 have hl0 : (xs.length : Int) ≤ 64 := by omega
 have hl1 : (64 : Int) ≤ (xs.length : Int) := by omega
 have HL : Hid (xs.length = 64) := hl
 have GX : Hid (ArrAt w gh 103 (arr8 r)) := hX
 have GK : Hid (ArrAt w gk 103 KA) := hK
 have GA : Hid (∀ i, i < 64 → KA[i]? = some (.int .u32 (nat (kt i)))) := hKA
 have hghlt := hX.lt
 have hgklt := hK.lt
 have hmk := mk64 w
 clear hl hX hK hKA
 go_enter Tryd.func65, Tryd.ntmps65
 go_wp2_with fail
 clear hmk
 go_loopw [7] (fun i wr => ∃ k : Nat, ∃ A : Array Value, k ≤ 16 ∧ i = .int .i64 k ∧ Below w.heap.size w wr ∧ ArrAt wr w.heap.size 103 A ∧ WordsTo xs k A) (fun i _ => 16 - (intOf i).toNat)
 case atStart => exact ⟨0, zeros, by omega, rfl, (Below.refl _ _).alloc (Nat.le_refl _) _, arrAt_new w _ _, ⟨zeros_size, fun j hj => absurd hj (by omega)⟩⟩
 case round =>
  obtain ⟨k, A, hk, rfl, hbel, hA, hW⟩ := hrel
  by_cases hlt : k < 16
  ·obtain ⟨x, hx⟩ := words_get hW (show k < 64 by omega)
   have c0 : wr.cell? ⟨b, off + (4 * k), none⟩ = some (.int .u8 (nat (wb xs (4 * k)))) := by rw [hbel.cell (p := ⟨b, off + (4 * k), none⟩) hb, hcell _ (by have := HL.out; omega), nth_nat hr]
   have c1 : wr.cell? ⟨b, off + (4 * k + 1), none⟩ = some (.int .u8 (nat (wb xs (4 * k + 1)))) := by rw [hbel.cell (p := ⟨b, off + (4 * k + 1), none⟩) hb, hcell _ (by have := HL.out; omega), nth_nat hr]
   have c2 : wr.cell? ⟨b, off + (4 * k + 2), none⟩ = some (.int .u8 (nat (wb xs (4 * k + 2)))) := by rw [hbel.cell (p := ⟨b, off + (4 * k + 2), none⟩) hb, hcell _ (by have := HL.out; omega), nth_nat hr]
   have c3 : wr.cell? ⟨b, off + (4 * k + 3), none⟩ = some (.int .u8 (nat (wb xs (4 * k + 3)))) := by rw [hbel.cell (p := ⟨b, off + (4 * k + 3), none⟩) hb, hcell _ (by have := HL.out; omega), nth_nat hr]
   have hcA : wr.cell? ⟨w.heap.size, k, none⟩ = some x := (hA.cell k).trans hx
   have hfA := hA.frozen k
   have q0 : (0 : Int) ≤ (k : Int) := by omega
   have q1 : (k : Int) < 16 := by omega
   have hwr := nat_wrap
   have hor := nat_or
   have hs24 : ∀ y : UInt32, nat y * (16777216 : Int) % (4294967296 : Int) = nat (y <<< 24) := fun y => nat_shl y 24 (by decide)
   have hs16 : ∀ y : UInt32, nat y * (65536 : Int) % (4294967296 : Int) = nat (y <<< 16) := fun y => nat_shl y 16 (by decide)
   have hs8 : ∀ y : UInt32, nat y * (256 : Int) % (4294967296 : Int) = nat (y <<< 8) := fun y => nat_shl y 8 (by decide)
   clear hcell
   have hA2 := (hA.setCell_same k (.int .u32 (nat (be xs k)))).drew
   have hW2 := words_step hW (show k < 64 by omega)
   rw [wt_low xs k hlt] at hW2
   have hb2 := (hbel.setCell (p := ⟨w.heap.size, k, none⟩) (Nat.le_refl _) (.int .u32 (nat (be xs k)))).drew
   go_wp2_with fail
   go_region
   clear hwr hor hs24 hs16 hs8
   go_wp2
   go_roundw
   case rel => exact ⟨k + 1, _, by omega, by go_num, hb2, hA2, hW2⟩
   case measure => simp [intOf]; omega
  ·obtain rfl : k = 16 := by omega
   clear hcell
   go_wp2_with fail
   go_loopw [8] (fun i wr => ∃ k : Nat, ∃ A : Array Value, 16 ≤ k ∧ k ≤ 64 ∧ i = .int .i64 k ∧ Below w.heap.size w wr ∧ ArrAt wr w.heap.size 103 A ∧ WordsTo xs k A) (fun i _ => 64 - (intOf i).toNat)
   case atStart => exact ⟨16, A, by omega, by omega, rfl, hbel, hA, hW⟩
   case round =>
    clear hbel hA hW
    obtain ⟨k, A, hk16, hk, rfl, hbel, hA, hW⟩ := hrel
    by_cases hlt : k < 64
    ·obtain ⟨x, hx⟩ := words_get hW hlt
     have c15 : wr.cell? ⟨w.heap.size, k - 15, none⟩ = some (.int .u32 (nat (wt xs (k - 15)))) := (hA.cell _).trans (hW.2 _ (by omega))
     have c2 : wr.cell? ⟨w.heap.size, k - 2, none⟩ = some (.int .u32 (nat (wt xs (k - 2)))) := (hA.cell _).trans (hW.2 _ (by omega))
     have c16 : wr.cell? ⟨w.heap.size, k - 16, none⟩ = some (.int .u32 (nat (wt xs (k - 16)))) := (hA.cell _).trans (hW.2 _ (by omega))
     have c7 : wr.cell? ⟨w.heap.size, k - 7, none⟩ = some (.int .u32 (nat (wt xs (k - 7)))) := (hA.cell _).trans (hW.2 _ (by omega))
     have hcA : wr.cell? ⟨w.heap.size, k, none⟩ = some x := (hA.cell k).trans hx
     have hfA := hA.frozen k
     have q0 : (16 : Int) ≤ (k : Int) := by omega
     have q1 : (k : Int) < 64 := by omega
     have q2 : (0 : Int) ≤ (k : Int) - 16 := by omega
     have q3 : (k : Int) - 16 < 64 := by omega
     have q4 : (0 : Int) ≤ (k : Int) - 7 := by omega
     have q5 : (k : Int) - 7 < 64 := by omega
     have q6 : (7 : Int) ≤ (k : Int) := by omega
     have q7 : IntKind.i64.wrap ((k : Int) - 16) = (k : Int) - 16 := by rw [IntKind.wrap_i64]; omega
     have q8 : IntKind.i64.wrap ((k : Int) - 7) = (k : Int) - 7 := by rw [IntKind.wrap_i64]; omega
     have q9 : ((k : Int) - 16).toNat = k - 16 := by omega
     have q10 : ((k : Int) - 7).toNat = k - 7 := by omega
     have n1 : ¬ k - 16 = k := by omega
     have n2 : ¬ k = k - 16 := by omega
     have n3 : ¬ k - 7 = k := by omega
     have n4 : ¬ k = k - 7 := by omega
     have had : ∀ x y : UInt32, IntKind.u32.wrap (nat x + nat y) = nat (x + y) := fun x y => by rw [IntKind.wrap_u32, nat_add]
     have hxr := nat_xor
     have hs3 : ∀ y : UInt32, nat y / (8 : Int) = nat (y >>> 3) := fun y => nat_shr y 3 (by decide)
     have hs10 : ∀ y : UInt32, nat y / (1024 : Int) = nat (y >>> 10) := fun y => nat_shr y 10 (by decide)
     go_wp2_with fail
     go_region_held3 (fun w' => w'.cell? ⟨w.heap.size, k - 16, none⟩ = some (.int .u32 (nat (wt xs (k - 16)))) ∧ w'.cell? ⟨w.heap.size, k - 7, none⟩ = some (.int .u32 (nat (wt xs (k - 7))))) (first | exact keep2 c16 c7 n2 n4 | go_keep)
      (first | (go_at_call 93; refine (l01Turn_any _ _ _ (by decide) (by decide)).mono ?_; rintro e w' ⟨rfl, rfl⟩))
     all_goals
      have hA2 := (hA.setCell_same k (.int .u32 (nat (wt xs (k - 16) + (rotr (wt xs (k - 15)) 7 ^^^ rotr (wt xs (k - 15)) 18 ^^^ wt xs (k - 15) >>> 3) + wt xs (k - 7) + (rotr (wt xs (k - 2)) 17 ^^^ rotr (wt xs (k - 2)) 19 ^^^ wt xs (k - 2) >>> 10))))).drew
      have hb2 := (hbel.setCell (p := ⟨w.heap.size, k, none⟩) (Nat.le_refl _) (.int .u32 (nat (wt xs (k - 16) + (rotr (wt xs (k - 15)) 7 ^^^ rotr (wt xs (k - 15)) 18 ^^^ wt xs (k - 15) >>> 3) + wt xs (k - 7) + (rotr (wt xs (k - 2)) 17 ^^^ rotr (wt xs (k - 2)) 19 ^^^ wt xs (k - 2) >>> 10))))).drew
      have hW2 := words_step hW hlt
      rw [wt_highx xs k (by omega)] at hW2
      clear had hxr hs3 hs10 q7 q8 q9 q10
      go_wp2
      refine ⟨?_, ?measure⟩
      (repeat apply Exists.intro)
      refine ⟨?rel, rfl⟩
      case rel => exact ⟨k + 1, _, by omega, by omega, by go_num, hb2, hA2, hW2⟩
      case measure => simp [intOf]; omega
    ·obtain rfl : k = 64 := by omega
     obtain ⟨i0, hi, hz0, hz1, hz2⟩ := info_parts infoU
     have hXr := GX.out.below hbel hghlt
     have hnews := World.news_of_block (cs := arr8 r) (t := 103) (fr := (0, 0)) (hXr.alloc (.cells #[] 103))
     have hone : ∀ u ∈ (arr8 r).toList, u.oneCell' = true := fun v hv => (Array.all_eq_true_iff_forall_mem.1 (arr8_one r)) v (by simpa using hv)
     have hown := World.ownsRow_made (base := w.heap.size) (e := 103) (size := 1) wr #[] 0 hbel.size (by simp [maxLen]) rfl
     have HN : Hid _ := hnews
     have H1 : Hid _ := hone
     have HO : Hid _ := hown
     have GW : Hid (WordsTo xs 64 A) := hW
     have hsz := hbel.size
     clear hnews hone hown hW
     go_wp2_with (at_builtin; go_must (refine wpList_append_lies _ (by rfl) _ _ 104 (by rfl) w.heap.size 103 i0 (.int .u32 0) 1 4 Tryd.underlying104 hi hz0 hz1 hz2 rfl (by decide) (.slice (some ⟨wr.heap.size, 0, none⟩) 0 0) 0 [] (by rfl) HO.out ⟨gh, 0, none⟩ 8 8 (arr8 r).toList (by rfl) (by rfl) HN.out H1.out (by decide) (by simp [maxLen]) (by decide) (by simp; omega) (wr.heap.size + 1) (by simp) ?_; intro gv cap w1 hown1 hgrow hat hlt1))
     obtain ⟨hR8, hgv, hcap⟩ := own_row8 hown1
     have hb1 : Below w.heap.size w w1 := (hbel.alloc hsz _).grown hgrow (by simp; omega) (fun k hk => by simp [Value.ownBlock] at hk; omega)
     have hA1 : ArrAt w1 w.heap.size 103 A := by
      have h0 := hA.alloc (.cells #[] 103)
      exact (hgrow.block w.heap.size h0.lt (by simp [Value.ownBlock]; have := hA.lt; omega)).trans h0
     clear hown1 hgrow hat hlt1 hA hbel HN H1 HO hXr
     go_loopw [11, 12] (fun v i wr => ∃ k gv cap : Nat, k ≤ 64 ∧ i = .int .i64 k ∧ v = .slice (some ⟨gv, 0, none⟩) 8 cap ∧ 8 ≤ cap ∧ w.heap.size ≤ gv ∧ Below w.heap.size w wr ∧ ArrAt wr w.heap.size 103 A ∧ Row8 wr gv (rndTo kt (wt xs) r k)) (fun _ i _ => 64 - (intOf i).toNat)
     case atStart => exact ⟨0, gv, cap, by omega, rfl, rfl, hcap, hgv, hb1, hA1, hR8⟩
     case round =>
      clear hR8 hgv hcap hb1 hA1
      obtain ⟨k, gv, cap, hk, rfl, rfl, hcap, hgv, hbel, hA, hR⟩ := hrel
      by_cases hlt : k < 64
      ·have HS : Hid (rndTo kt (wt xs) r (k + 1) = rnd (rndTo kt (wt xs) r k) (kt k) (wt xs k)) := rfl
       generalize rndTo kt (wt xs) r k = x at hR HS
       have ck : wr.cell? ⟨gk, k, none⟩ = some (.int .u32 (nat (kt k))) := ((GK.out.below hbel hgklt).cell k).trans (GA.out k hlt)
       have cw : wr.cell? ⟨w.heap.size, k, none⟩ = some (.int .u32 (nat (wt xs k))) := (hA.cell k).trans (GW.out.2 k hlt)
       have c0 := hR 0 (by decide)
       have c4 := hR 4 (by decide)
       have c5 := hR 5 (by decide)
       have c6 := hR 6 (by decide)
       have c7 := hR 7 (by decide)
       simp only [at8] at c0 c4 c5 c6 c7
       have q0 : (0 : Int) ≤ (k : Int) := by omega
       have q1 : (k : Int) < 64 := by omega
       have had := nat_add
       have han := nat_and
       have hxr := nat_xor
       have hno : ∀ y : UInt32, bits .xor .u32 (if IntKind.u32.signed = true then -1 else IntKind.u32.max) (nat y) = nat (~~~y) := nat_not
       go_wp2_with fail
       go_quiet ((go_at_call 93; exact Calls.quiet_of_same (l01Turn_any _ _ _ (by decide) (by decide))))
       have hbq := below_drewN hbel nq
       have hAq := hA.drewN nq
       have hRq : Row8 (wr.drewN nq) gv x := hR
       clear ck cw c0 c4 c5 c6 c7 hbel hA hR
       generalize wr.drewN nq = wq at hbq hAq hRq ⊢
       have c1 := hRq 1 (by decide)
       have c2 := hRq 2 (by decide)
       simp only [at8] at c1 c2
       go_wp2_with fail
       go_quiet ((go_at_call 93; exact Calls.quiet_of_same (l01Turn_any _ _ _ (by decide) (by decide))))
       have hbp := below_drewN hbq nq
       have hAp := hAq.drewN nq
       have hRp : Row8 (wq.drewN nq) gv x := hRq
       clear c1 c2 hbq hAq hRq
       generalize wq.drewN nq = wp at hbp hAp hRp ⊢
       have c0 := hRp 0 (by decide)
       have c1 := hRp 1 (by decide)
       have c2 := hRp 2 (by decide)
       have c3 := hRp 3 (by decide)
       have c4 := hRp 4 (by decide)
       have c5 := hRp 5 (by decide)
       have c6 := hRp 6 (by decide)
       simp only [at8] at c0 c1 c2 c3 c4 c5 c6
       clear han hxr hno
       go_wp2_with fail
       have HT : Hid (rndTo kt (wt xs) r (k + 1) = ⟨tOf x (kt k) (wt xs k) + uOf x, x.a, x.b, x.c, x.d + tOf x (kt k) (wt xs k), x.e, x.f, x.g⟩) := HS
       rw [t_eq x (kt k) (wt xs k), u_eq x]
       generalize tOf x (kt k) (wt xs k) = t at HT ⊢
       generalize uOf x = u at HT ⊢
       clear HS
       refine Qt.region_quiet_tail 26 (by kernel_rfl) (by kernel_rfl) ?_
       simp only [List.take_succ_cons, List.take_zero, List.drop_succ_cons, List.drop_zero]
       repeat (go_big_quiet_step (fail))
       refine wpQuiet_nil ?_
       go_wp2_with fail
       have e1 := (hbp.alloc (Nat.le_trans (Nat.le_refl _) hbp.size) (.cells (arr8 ⟨t + u, x.a, x.b, x.c, x.d + t, x.e, x.f, x.g⟩) 103)).drew
       have e2 := (hAp.alloc (.cells (arr8 ⟨t + u, x.a, x.b, x.c, x.d + t, x.e, x.f, x.g⟩) 103)).drew
       have e3 := row8_new (arrAt_new wp 103 (arr8 ⟨t + u, x.a, x.b, x.c, x.d + t, x.e, x.f, x.g⟩)).drew
       rw [show arr8 ⟨t + u, x.a, x.b, x.c, x.d + t, x.e, x.f, x.g⟩ = #[.int .u32 (nat (t + u)), .int .u32 (nat x.a), .int .u32 (nat x.b), .int .u32 (nat x.c), .int .u32 (nat (x.d + t)), .int .u32 (nat x.e), .int .u32 (nat x.f), .int .u32 (nat x.g)] from rfl] at e1 e2 e3
       rw [← HT.out] at e3
       have e4 := hbp.size
       clear had c0 c1 c2 c3 c4 c5 c6 hRp
       go_wp2
       exact ⟨⟨k + 1, wp.heap.size, 8, by omega, by go_num, rfl, by omega, e4, e1, e2, e3⟩, by simp [intOf]; omega⟩
      ·obtain rfl : k = 64 := by omega
       have HB : Hid (blk r xs = addR r (rndTo kt (wt xs) r 64)) := rfl
       have hX1 := GX.out.below hbel hghlt
       have hg1 := grown_start hbel gh
       have hne : gv ≠ gh := by omega
       clear hbel hA
       generalize rndTo kt (wt xs) r 64 = y at hR HB
       go_wp2_with fail
       go_loopw [17] (fun i wr => ∃ k : Nat, ∃ W : Array Value, k ≤ 8 ∧ i = .int .i64 k ∧ w.grownBy wr (some gh) ∧ ArrAt wr gh 103 W ∧ Row8 wr gv y ∧ SumTo r y k W) (fun i _ => 8 - (intOf i).toNat)
       case atStart => exact ⟨0, arr8 r, by omega, rfl, hg1, hX1, hR, sum_zero _ _⟩
       case round =>
        clear hg1 hX1 hR
        obtain ⟨k, W, hk, rfl, hgr, hX, hR, hS⟩ := hrel
        by_cases hlt : k < 8
        ·have cx : wr.cell? ⟨gh, k, none⟩ = some (.int .u32 (nat (at8 r k))) := (hX.cell k).trans (by rw [hS.2 k hlt, if_neg (by omega)])
         have cr : wr.cell? ⟨gv, k, none⟩ = some (.int .u32 (nat (at8 y k))) := hR k hlt
         have fx := hX.frozen k
         have had := nat_add
         have q0 : (0 : Int) ≤ (k : Int) := by omega
         have q1 : (k : Int) < 8 := by omega
         have e1 := grown_set hgr k (.int .u32 (nat (at8 r k + at8 y k)))
         have e2 := (hX.setCell_same k (.int .u32 (nat (at8 r k + at8 y k)))).drew
         have e3 := row8_set hR hne k (.int .u32 (nat (at8 r k + at8 y k)))
         have e5 := sum_step hS hlt
         go_wp2_with fail
         go_region
         clear had
         go_wp2
         exact ⟨⟨k + 1, _, by omega, by go_num, e1, e2, e3, e5⟩, by simp [intOf]; omega⟩
        ·obtain rfl : k = 8 := by omega
         have hWe := sum_all hS
         subst hWe
         rw [← HB.out] at hX
         clear hS
         go_wp2_with fail
         go_end0
         exact ⟨rfl, hX, hgr⟩
end Go.Proofs.YtakfniknkejgpaaDoor.Sh

/- Words for the specification's l01Hash: what it appends, and what it reads again. -/
namespace Go.Proofs.YtakfniknkejgpaaDoor.Sh
open Go.RowKit Go.Proofs.YtakfniknkejgpaaDoor.Sl Go.Proofs.YtakfniknkejgpaaDoor.Me

theorem wpList_append_rowB {P : Program} {ops : Array Oper} {rest : List Oper} {o : Oper} {a : Act} {Q : Exit → Act → World → Prop} (hgd : o.guard = none) (s x : Operand) (t : TypeId)
 (ho : o.op = .call { callee := .builtin .append, args := #[s, x], argTypes := #[t, t] }) (e : TypeId) (i : TypeInfo) (ht : P.underlying t = some (.slice e)) (hi : P.info? e = some i) (hz : i.zero = some (.int .u8 0))
 (hsize : i.size = 1) (hby : i.bytes = 1) (B : Nat) (w0 W : World) (v u : Value) (zs xs : List Int) (hs : a.eval s = v) (hown : By.OwnB e W B v zs) (hbel : Below B w0 W) (hB : B ≤ W.heap.size)
 (hx : a.eval x = u) (hu : RowB W u xs) (hlen : zs.length + xs.length ≤ 140737488355328)
 (h : ∀ v' w', By.OwnB e w' B v' (zs ++ xs) → Below B w0 w' → B ≤ w'.heap.size → wpList P ops Q rest (a.put o.dst v') w') : wpList P ops Q (o :: rest) a W := by
 obtain ⟨ad, cap, rfl, hc, _⟩ := hu
 have hown2 := hown
 unfold By.OwnB at hown2
 cases ad with
 | none =>
   obtain rfl : xs = [] := by
    rcases hc with h | ⟨_, _, h, _⟩
    ·exact h
    ·cases h
   have hr : (Builtin.append_ #[t, t] o.type #[v, .slice none 0 cap]).run P W = .ok v W := by
    rcases hown2.2 with ⟨rfl, _⟩ | ⟨g, c, cur, rfl, _, _, hn, _⟩
    ·exact run_append_nothing W t t o.type e i ht hi none 0 0 (Nat.le_refl _) _ (Src.ofNil W ht cap)
    ·exact run_append_nothing W t t o.type e i ht hi _ _ _ hn _ (Src.ofNil W ht cap)
   refine wpList_plain hgd fun K hK => ?_
   unfold Oper.wp execOp
   simp only [ho, resolve, invoke, builtin, Sem.run_bind, Sem.run_pure, Result.andThen_ok, List.map_toArray, List.map_cons, List.map_nil, hs, hx, List.length_nil, hr]
   exact hK _ _ (h v W (by simpa using hown) hbel hB)
 | some ad =>
   refine wpList_append_own _ hgd s x t ho B e i (.int .u8 0) 1 1 ht hi hz hsize hby rfl (by decide) v zs.length _ hs hown2 ad xs.length cap (xs.map (Value.int .u8)) hx (by simp) ?_ ?_ ?_ ?_ hB ?_
   ·intro j y hy
    rcases hc with rfl | ⟨b, off, e1, _, hb, hcell⟩
    ·simp at hy
    ·cases e1
     have hj : j < xs.length := by have := (List.getElem?_eq_some_iff.1 hy).1; simpa using this
     rw [addr_add, hcell j hj, ← hy, List.getElem?_map, List.getElem?_eq_getElem hj]
     unfold nth
     rw [List.getD_eq_getElem?_getD, List.getElem?_eq_getElem hj]
     rfl
   ·intro y hy
    obtain ⟨z, _, rfl⟩ := List.mem_map.1 hy
    rfl
   ·unfold maxLen; omega
   ·omega
   ·intro v' w' h1 h2 _
    refine h v' w' (by unfold By.OwnB; simpa using h1) (hbel.grown h2 hB (fun k hk => (hown2.lt k hk).1)) ?_
    have := h2.size
    omega

theorem step_append_four {P : Program} {ops : Array Oper} {o : Oper} {a : Act} {K : Act → World → Prop} {Q : Exit → Act → World → Prop} {E : Prop} (hgd : o.guard = none) (s x : Operand) (t : TypeId)
 (ho : o.op = .call { callee := .builtin .append, args := #[s, x], argTypes := #[t, t] }) (e : TypeId) (i : TypeInfo) (ht : P.underlying t = some (.slice e)) (hi : P.info? e = some i) (hz : i.zero = some (.int .u8 0))
 (hsize : i.size = 1) (hby : i.bytes = 1) (B : Nat) (w0 W : World) (v : Value) (zs : List Int) (z0 z1 z2 z3 : Int) (hs : a.eval s = v) (hown : By.OwnB e W B v zs) (hbel : Below B w0 W) (hB : B ≤ W.heap.size)
 (hx : a.eval x = .slice (some ⟨W.heap.size, 0, none⟩) 4 4) (hlen : zs.length + 4 ≤ 140737488355328)
 (h : ∀ v' w', By.OwnB e w' B v' (zs ++ [z0, z1, z2, z3]) → Below B w0 w' → B ≤ w'.heap.size → K (a.put o.dst v') w') :
 if Region.wanted o (yielded ops a.tmps) = true then Oper.wp P o a (W.alloc (.cells #[.int .u8 z0, .int .u8 z1, .int .u8 z2, .int .u8 z3] e)).drew K Q else E := by
 refine step_append_lies _ hgd s x t ho B e i (.int .u8 0) 1 1 ht hi hz hsize hby rfl (by decide) v zs.length _ hs ((hown.alloc _).drew) ⟨W.heap.size, 0, none⟩ 4 4 [.int .u8 z0, .int .u8 z1, .int .u8 z2, .int .u8 z3] hx rfl ?_ ?_ (by omega) ?_ ?_ ?_ (W.heap.size + 1) (by simp) ?_
 ·exact World.news_of_block (cs := #[.int .u8 z0, .int .u8 z1, .int .u8 z2, .int .u8 z3]) (t := e) (fr := (0, 0)) (heap_alloc_new W _)
 ·simp [Value.oneCell']
 ·unfold maxLen; omega
 ·omega
 ·simp; omega
 ·intro g cap w' h1 h2 _ _
  refine h _ w' (by unfold By.OwnB; simpa using h1) (By.below_own _ hown hbel hB ⟨h2.os, h2.tape, h2.output, h2.size, h2.block⟩) ?_
  have := h2.size
  simp at this
  omega

theorem own_open {e : TypeId} {w : World} {B n : Nat} {v : Value} {zs : List Int} (h : By.OwnB e w B v zs) (hn : zs.length = n) :
 ∃ ad cap, v = .slice ad n cap ∧ (0 < n → ∃ g, ad = some ⟨g, 0, none⟩ ∧ B ≤ g ∧ g < w.heap.size ∧ n ≤ cap ∧ ∀ i, i < n → w.cell? ⟨g, i, none⟩ = some (.int .u8 (nth zs i))) := by
 unfold By.OwnB at h
 rw [hn] at h
 rcases h.2 with ⟨rfl, h0⟩ | ⟨g, cap, cur, rfl, hb, hg, hnc, _, _, htk⟩
 ·exact ⟨none, 0, by rw [h0], fun h => by omega⟩
 ·refine ⟨_, cap, rfl, fun _ => ⟨g, rfl, hb, (Array.getElem?_eq_some_iff.1 hg).1, hnc, fun i hi => ?_⟩⟩
  have h1 : (cur.toList.take (n * 1))[i]? = some (.int .u8 (nth zs i)) := by
   rw [htk, List.getElem?_map, List.getElem?_eq_getElem (by omega)]
   unfold nth
   rw [List.getD_eq_getElem?_getD, List.getElem?_eq_getElem (show i < zs.length by omega)]
   rfl
  rw [List.getElem?_take_of_lt (by omega), Array.getElem?_toList] at h1
  simp [World.cell?, hg, h1]

def midTo (xs : List Int) (k : Nat) : List Int := xs ++ [128] ++ List.replicate k 0
theorem midTo_length (xs : List Int) (k : Nat) : (midTo xs k).length = xs.length + 1 + k := by unfold midTo; simp; omega
theorem midTo_succ (xs : List Int) (k : Nat) : midTo xs (k + 1) = midTo xs k ++ [0] := by
 unfold midTo; rw [List.replicate_succ', ← List.append_assoc]
theorem midTo_zero (xs : List Int) : midTo xs 0 = xs ++ [128] := by unfold midTo; simp
def lenTo (n k : Nat) : List Int := (lenBytes n).take k
theorem lenTo_length (n k : Nat) (h : k ≤ 8) : (lenTo n k).length = k := by
 unfold lenTo lenBytes; rw [List.length_take]; simp; omega
theorem lenTo_succ (n k : Nat) (h : k < 8) : lenTo n (k + 1) = lenTo n k ++ [lenByte n k] := by
 match k, h with
 | 0, _ => rfl
 | 1, _ => rfl
 | 2, _ => rfl
 | 3, _ => rfl
 | 4, _ => rfl
 | 5, _ => rfl
 | 6, _ => rfl
 | 7, _ => rfl
def padTo (xs : List Int) (k : Nat) : List Int := midTo xs (zerosOf xs.length) ++ lenTo xs.length k
theorem padTo_succ (xs : List Int) (k : Nat) (h : k < 8) : padTo xs (k + 1) = padTo xs k ++ [lenByte xs.length k] := by
 unfold padTo; rw [lenTo_succ _ _ h, List.append_assoc]
theorem padTo_length (xs : List Int) (k : Nat) (h : k ≤ 8) : (padTo xs k).length = xs.length + 1 + zerosOf xs.length + k := by
 unfold padTo; rw [List.length_append, midTo_length, lenTo_length _ _ h]
theorem padTo_zero (xs : List Int) : padTo xs 0 = midTo xs (zerosOf xs.length) := by unfold padTo lenTo; simp
def lenV : Value → Nat
 | .slice _ n _ => n
 | _ => 0
theorem mid_done {n k : Nat} (h : (n + 1 + k) % 64 = 56) (hk : k ≤ zerosOf n) : k = zerosOf n := by unfold zerosOf at *; omega
theorem mid_end (n : Nat) : (n + 1 + zerosOf n) % 64 = 56 := by unfold zerosOf; omega

theorem slice64c (n c b q : Nat) (h : 64 * q + 64 ≤ n) (hc : n ≤ c) (W : World) :
 (Instr.slice 22 (.slice (some ⟨b, 0, none⟩) n c) (some (.int .i64 (64 * (q : Int)))) (some (.int .i64 (64 * (q : Int) + 64))) none).run Tryd.prog W = .ok (.slice (some ⟨b, 64 * q, none⟩) 64 (c - 64 * q)) W := by
 have := Lib.run_slice_window (P := Tryd.prog) W 22 5 Tryd.underlying22 size1 b 0 n c (64 * q) (64 * q + 64) (by omega) (by omega)
 rw [Nat.zero_add, show 64 * q + 64 - 64 * q = 64 by omega] at this
 rw [← this]
 rfl
theorem ArrAt.grown {w w' : World} {g : Nat} {T : TypeId} {A : Array Value} {row : Option Nat} (h : ArrAt w g T A) (hg : w.grownBy w' row) (hne : some g ≠ row) : ArrAt w' g T A := (hg.block g (ArrAt.lt h) hne).trans h
theorem len_byte (n k : Nat) (h : k < 8) : 8 * (n : Int) / 2 ^ (8 * (7 - k)) % 256 = lenByte n k := by
 have := len_eq n (7 - k) (by omega)
 rw [Int.mul_comm, this, show 7 - (7 - k) = k by omega]
end Go.Proofs.YtakfniknkejgpaaDoor.Sh
