/- impl.spreadBlock: the 64 words of a block. -/
import Derived.Test.YtiflfcpoajijaaaDoorShaT
import Derived.Test.YtiflfcpoajijaaaDoorSl
import Derived.Test.YtiflfcpoajijaaaDoorMem
import Derived.BigRegion
import Derived.Deep.QuietTactic
import Derived.BigQuiet
namespace Go.Proofs.YtiflfcpoajijaaaDoor.Sh
open Go.RowKit Go.Proofs.YtiflfcpoajijaaaDoor.Sl Go.Proofs.YtiflfcpoajijaaaDoor.Me

theorem nth_nat {xs : List Int} (hr : ∀ x ∈ xs, 0 ≤ x ∧ x ≤ 255) (i : Nat) : nth xs i = nat (wb xs i) :=
  wb_eq xs i (range_at hr i).1 (range_at hr i).2
def zeros : Array Value := Array.replicate 64 (.int .u32 0)
theorem zeros_size : zeros.size = 64 := by unfold zeros; simp
theorem zeroW (w : World) : Sem.run Tryd.prog (zeroValue 89) w = .ok (.agg zeros) w := by kernel_rfl
/-- The first k words are laid. -/
def WordsTo (xs : List Int) (k : Nat) (A : Array Value) : Prop := A.size = 64 ∧ ∀ j, j < k → A[j]? = some (.int .u32 (nat (wt xs j)))
theorem words_step {xs : List Int} {k : Nat} {A : Array Value} (h : WordsTo xs k A) (hk : k < 64) : WordsTo xs (k + 1) (A.setIfInBounds k (.int .u32 (nat (wt xs k)))) := by
  refine ⟨by rw [Array.size_setIfInBounds]; exact h.1, fun j hj => ?_⟩
  rw [Array.getElem?_setIfInBounds]
  by_cases e : k = j
  · subst e
    rw [if_pos rfl, if_pos (by rw [h.1]; exact hk)]
  · rw [if_neg e]
    exact h.2 j (by omega)
theorem words_get {xs : List Int} {k : Nat} {A : Array Value} (h : WordsTo xs k A) (hk : k < 64) : ∃ x, A[k]? = some x := ⟨_, Array.getElem?_eq_getElem (by rw [h.1]; exact hk)⟩

theorem infoW : (Tryd.prog.info? 89).map (·.size) = some 64 := by kernel_rfl
theorem words_one {xs : List Int} {A : Array Value} (h : WordsTo xs 64 A) : A.all (·.oneCell') = true := by
  rw [Array.all_eq_true]
  intro i hi
  have h2 := h.2 i (by rw [← h.1]; exact hi)
  rw [Array.getElem?_eq_getElem hi] at h2
  rw [Option.some.inj h2]
  rfl

set_option maxRecDepth 100000 in
set_option maxHeartbeats 1600000 in
theorem spreadBlock_any (v : Value) (xs : List Int) (w : World) (h : RowB w v xs) (hl : xs.length = 64) :
    Calls Tryd.prog 38 #[v] w fun e w' => ∃ A, e = .returned (.agg A) ∧ WordsTo xs 64 A ∧ Below w.heap.size w w' := by
  obtain ⟨a, cap, rfl, h, hr⟩ := h
  rcases h with h | ⟨b, off, rfl, hc, hb, hcell⟩
  · rw [h] at hl; exact absurd hl (by decide)
  have hz := zeroW w
  have hz2 := zeroW (w.alloc (.cells zeros 89))
  have hl0 : (xs.length : Int) ≤ 64 := by omega
  have hl1 : (64 : Int) ≤ (xs.length : Int) := by omega
  have HL : Hid (xs.length = 64) := hl
  clear hl
  go_enter Tryd.func38, Tryd.ntmps38
  go_wp2_with fail
  clear hz hz2
  go_loopw [8] (fun i wr => ∃ k : Nat, ∃ A : Array Value, k ≤ 16 ∧ i = .int .i64 k ∧ Below w.heap.size w wr ∧ ArrAt wr (w.heap.size + 1) 89 A ∧ WordsTo xs k A ∧ ArrAt wr w.heap.size 89 zeros) (fun i _ => 16 - (intOf i).toNat)
  case atStart => exact ⟨0, zeros, by omega, rfl, ((Below.refl _ _).alloc (Nat.le_refl _) _).alloc (by simp) _, by have := arrAt_new (w.alloc (.cells zeros 89)) 89 zeros; simpa using this, ⟨zeros_size, fun j hj => absurd hj (by omega)⟩, (arrAt_new w _ _).alloc _⟩
  case round =>
    obtain ⟨k, A, hk, rfl, hbel, hA, hW, hZ⟩ := hrel
    by_cases hlt : k < 16
    · obtain ⟨x, hx⟩ := words_get hW (show k < 64 by omega)
      have c0 : wr.cell? ⟨b, off + (4 * k), none⟩ = some (.int .u8 (nat (wb xs (4 * k)))) := by rw [hbel.cell (p := ⟨b, off + (4 * k), none⟩) hb, hcell _ (by have := HL.out; omega), nth_nat hr]
      have c1 : wr.cell? ⟨b, off + (4 * k + 1), none⟩ = some (.int .u8 (nat (wb xs (4 * k + 1)))) := by rw [hbel.cell (p := ⟨b, off + (4 * k + 1), none⟩) hb, hcell _ (by have := HL.out; omega), nth_nat hr]
      have c2 : wr.cell? ⟨b, off + (4 * k + 2), none⟩ = some (.int .u8 (nat (wb xs (4 * k + 2)))) := by rw [hbel.cell (p := ⟨b, off + (4 * k + 2), none⟩) hb, hcell _ (by have := HL.out; omega), nth_nat hr]
      have c3 : wr.cell? ⟨b, off + (4 * k + 3), none⟩ = some (.int .u8 (nat (wb xs (4 * k + 3)))) := by rw [hbel.cell (p := ⟨b, off + (4 * k + 3), none⟩) hb, hcell _ (by have := HL.out; omega), nth_nat hr]
      have hcA : wr.cell? ⟨w.heap.size + 1, k, none⟩ = some x := (hA.cell k).trans hx
      have hfA := hA.frozen k
      have q0 : (0 : Int) ≤ (k : Int) := by omega
      have q1 : (k : Int) < 16 := by omega
      have hwr := nat_wrap
      have hor := nat_or
      have hs24 : ∀ y : UInt32, nat y * (16777216 : Int) % (4294967296 : Int) = nat (y <<< 24) := fun y => nat_shl y 24 (by decide)
      have hs16 : ∀ y : UInt32, nat y * (65536 : Int) % (4294967296 : Int) = nat (y <<< 16) := fun y => nat_shl y 16 (by decide)
      have hs8 : ∀ y : UInt32, nat y * (256 : Int) % (4294967296 : Int) = nat (y <<< 8) := fun y => nat_shl y 8 (by decide)
      clear hcell
      have hA2 := (hA.setCell_same k (.int .u32 (nat (be xs k)))).drew
      have hZ2 := (hZ.setCell_other (a := ⟨w.heap.size + 1, k, none⟩) (by simp) (.int .u32 (nat (be xs k)))).drew
      have hW2 := words_step hW (show k < 64 by omega)
      rw [wt_low xs k hlt] at hW2
      have hb2 := (hbel.setCell (p := ⟨w.heap.size + 1, k, none⟩) (by simp) (.int .u32 (nat (be xs k)))).drew
      go_wp2_with fail
      go_region
      clear hwr hor hs24 hs16 hs8
      go_wp2
      go_roundw
      case rel => exact ⟨k + 1, _, by omega, by go_num, hb2, hA2, hW2, hZ2⟩
      case measure => simp [intOf]; omega
    · obtain rfl : k = 16 := by omega
      clear hcell
      go_wp2_with fail
      go_loopw [5] (fun i wr => ∃ k : Nat, ∃ A : Array Value, 16 ≤ k ∧ k ≤ 64 ∧ i = .int .i64 k ∧ Below w.heap.size w wr ∧ ArrAt wr (w.heap.size + 1) 89 A ∧ WordsTo xs k A ∧ ArrAt wr w.heap.size 89 zeros) (fun i _ => 64 - (intOf i).toNat)
      case atStart => exact ⟨16, A, by omega, by omega, rfl, hbel, hA, hW, hZ⟩
      case round =>
        clear hbel hA hW hZ
        obtain ⟨k, A, hk16, hk, rfl, hbel, hA, hW, hZ⟩ := hrel
        by_cases hlt : k < 64
        · obtain ⟨x, hx⟩ := words_get hW hlt
          have c15 : wr.cell? ⟨w.heap.size + 1, k - 15, none⟩ = some (.int .u32 (nat (wt xs (k - 15)))) := (hA.cell _).trans (hW.2 _ (by omega))
          have q0 : (16 : Int) ≤ (k : Int) := by omega
          have q1 : (k : Int) < 64 := by omega
          have hxr := nat_xor
          have hs3 : ∀ y : UInt32, nat y / (8 : Int) = nat (y >>> 3) := fun y => nat_shr y 3 (by decide)
          have hs10 : ∀ y : UInt32, nat y / (1024 : Int) = nat (y >>> 10) := fun y => nat_shr y 10 (by decide)
          go_wp2_with fail
          go_quiet ((go_at_call 45; exact Calls.quiet_of_same (turnRight_any _ _ _ (by decide) (by decide))))
          have hbq : Below w.heap.size w (wr.drewN nq) := hbel.trans ⟨rfl, rfl, rfl, Nat.le_refl _, fun _ _ => rfl⟩
          have hAq := hA.drewN nq
          have hZq := hZ.drewN nq
          clear c15 hbel hA hZ
          generalize wr.drewN nq = wq at hbq hAq hZq ⊢
          have c2 : wq.cell? ⟨w.heap.size + 1, k - 2, none⟩ = some (.int .u32 (nat (wt xs (k - 2)))) := (hAq.cell _).trans (hW.2 _ (by omega))
          go_wp2_with fail
          go_quiet ((go_at_call 45; exact Calls.quiet_of_same (turnRight_any _ _ _ (by decide) (by decide))))
          have hbp : Below w.heap.size w (wq.drewN nq) := hbq.trans ⟨rfl, rfl, rfl, Nat.le_refl _, fun _ _ => rfl⟩
          have hAp := hAq.drewN nq
          have hZp := hZq.drewN nq
          clear c2 hbq hAq hZq hxr hs3 hs10
          generalize wq.drewN nq = wp at hbp hAp hZp ⊢
          have c16 : wp.cell? ⟨w.heap.size + 1, k - 16, none⟩ = some (.int .u32 (nat (wt xs (k - 16)))) := (hAp.cell _).trans (hW.2 _ (by omega))
          have c7 : wp.cell? ⟨w.heap.size + 1, k - 7, none⟩ = some (.int .u32 (nat (wt xs (k - 7)))) := (hAp.cell _).trans (hW.2 _ (by omega))
          have hcA : wp.cell? ⟨w.heap.size + 1, k, none⟩ = some x := (hAp.cell k).trans hx
          have hfA := hAp.frozen k
          have had := nat_add
          have HX : Hid (wt xs k = wt xs (k - 16) + s0 (wt xs (k - 15)) + wt xs (k - 7) + s1 (wt xs (k - 2))) := wt_high xs k (by omega)
          have hA2 := (hAp.setCell_same k (.int .u32 (nat (wt xs (k - 16) + s0 (wt xs (k - 15)) + wt xs (k - 7) + s1 (wt xs (k - 2)))))).drew
          have hZ2 := (hZp.setCell_other (a := ⟨w.heap.size + 1, k, none⟩) (by simp) (.int .u32 (nat (wt xs (k - 16) + s0 (wt xs (k - 15)) + wt xs (k - 7) + s1 (wt xs (k - 2)))))).drew
          have hb2 := (hbp.setCell (p := ⟨w.heap.size + 1, k, none⟩) (by simp) (.int .u32 (nat (wt xs (k - 16) + s0 (wt xs (k - 15)) + wt xs (k - 7) + s1 (wt xs (k - 2)))))).drew
          have hW2 := words_step hW hlt
          rw [HX.out] at hW2
          go_wp2_with fail
          go_region
          clear had
          go_wp2
          go_roundw
          case rel => exact ⟨k + 1, _, by omega, by omega, by go_num, hb2, hA2, hW2, hZ2⟩
          case measure => simp [intOf]; omega
        · obtain rfl : k = 64 := by omega
          have hi : (Tryd.prog.info? 89).map (·.size) = some A.size := by rw [hW.1]; exact infoW
          have h1 := words_one hW
          have hi' : Hid _ := hi
          go_wp2_with (first | (refine wpList_load_row (by rfl) 89 _ (by rfl) (w.heap.size + 1) (by rfl) 89 A (0, 0) _ hA Tryd.underlying89 rfl hi'.out ?_) | (refine wpList_store_row (by rfl) 89 _ _ (by rfl) w.heap.size A (by rfl) (by rfl) 89 zeros hZ hi'.out (by rw [hW.1, zeros_size]) h1 ?_))
          exact bodyPost_ret (v := .agg A) (results_cell_row Tryd.results38 _ _ w.heap.size 89 A (0, 0) _ (by rfl) (hZ.setRow_same A) Tryd.underlying89 rfl hi'.out) (by rfl) ⟨A, rfl, hW, below_setRow hbel (Nat.le_refl _) A⟩
end Go.Proofs.YtiflfcpoajijaaaDoor.Sh
