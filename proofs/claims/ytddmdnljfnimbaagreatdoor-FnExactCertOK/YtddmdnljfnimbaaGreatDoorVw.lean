/- Votes: sets of nodes, a message's vote. -/
import Derived.Test.YtddmdnljfnimbaaGreatDoorVt
import Derived.Lib.Strings
import Derived.Lib.Slices
import Derived.Lib.Small
import Derived.Lib.Walk
import Derived.Laws.StructEq
namespace Go.Proofs.YtddmdnljfnimbaaGreatDoor.Vt
open Go.RowKit Go.Proofs.YtddmdnljfnimbaaGreatDoor.Gm Go.Proofs.YtddmdnljfnimbaaGreatDoor.Si Go.Proofs.YtddmdnljfnimbaaGreatDoor.Tm Go.Proofs.YtddmdnljfnimbaaGreatDoor.Ms Go.Proofs.YtddmdnljfnimbaaGreatDoor.Sh
open Go.Proofs.YtddmdnljfnimbaaGreatDoor.Qm (qOut)
open Go.Proofs.YtddmdnljfnimbaaGreatDoor.Rg (blk_cell bel_new)

theorem ret_b {a b : Bool} (h : a = b) : Ending.returned (.bool a) = .returned (.bool b) := by rw [h]
theorem ret_v {a b : Value} (h : a = b) : Ending.returned a = .returned b := by rw [h]
theorem ones_int (x : Int) (w : World) (h0 : 0 ≤ x) (h1 : x ≤ 255) : Calls Tryz.prog 67 #[.int .u8 x] w fun e w' => e = .returned (.int .i64 (Lib.onesCount x.toNat)) ∧ w' = w := by
  have e : wrap64 (Lib.pop8 x) = (Lib.onesCount x.toNat : Int) := by unfold wrap64; exact Lib.pop8_int x h0 h1
  rw [← e]
  clear e
  go_enter Tryz.func67, Tryz.ntmps67
  go_wp2
  go_ret
  exact ⟨rfl, rfl⟩
theorem ones_any (h : Nat) (w : World) (hh : h < 128) : Calls Tryz.prog 67 #[.int .u8 h] w fun e w' => e = .returned (.int .i64 (Lib.onesCount h)) ∧ w = w' :=
  (ones_int h w (by omega) (by omega)).mono fun e w' he => ⟨by rw [he.1, Int.toNat_natCast], he.2.symm⟩
theorem shr_lt : ∀ h : Fin 128, ∀ i : Fin 7, ((h.val / 2 ^ i.val == 0) = decide (h.val < 2 ^ i.val)) := by decide +kernel
set_option maxRecDepth 100000 in
theorem allBelow_any (h i : Nat) (w : World) (hh : h < 128) (hi : i < 7) : Calls Tryz.prog 50 #[.int .u8 h, .int .i64 i] w fun e w' => e = .returned (.bool (decide (h < 2 ^ i))) ∧ w = w' := by
  have hk : ∀ i : Nat, i < 7 → i = 0 ∨ i = 1 ∨ i = 2 ∨ i = 3 ∨ i = 4 ∨ i = 5 ∨ i = 6 := fun i h => by omega
  have hs := shr_lt ⟨h, hh⟩ ⟨i, hi⟩
  simp only at hs
  rw [← hs]
  clear hs
  rcases hk i hi with rfl | rfl | rfl | rfl | rfl | rfl | rfl
  all_goals
    go_enter Tryz.func50, Tryz.ntmps50
    go_wp2_with fail
    go_ret
    refine ⟨ret_b ?_, rfl⟩
    rw [Bool.eq_iff_iff, beq_iff_eq, beq_iff_eq]
    simp only [Nat.reducePow]
    omega
theorem with_or : ∀ h : Fin 128, ∀ i : Fin 7, bits .or .u8 (h.val : Int) ((2 ^ i.val : Nat) : Int) = ((h.val ||| 2 ^ i.val : Nat) : Int) := by decide +kernel
set_option maxRecDepth 100000 in
theorem with_any (h i : Nat) (w : World) (hh : h < 128) (hi : i < 7) : Calls Tryz.prog 51 #[.int .u8 h, .int .i64 i] w fun e w' => e = .returned (.int .u8 ((h ||| 2 ^ i : Nat) : Int)) ∧ w = w' := by
  have hk : ∀ i : Nat, i < 7 → i = 0 ∨ i = 1 ∨ i = 2 ∨ i = 3 ∨ i = 4 ∨ i = 5 ∨ i = 6 := fun i h => by omega
  rcases hk i hi with rfl | rfl | rfl | rfl | rfl | rfl | rfl
  all_goals
    go_enter Tryz.func51, Tryz.ntmps51
    go_wp2_with fail
    go_ret
    refine ⟨ret_v ?_, rfl⟩
    exact congrArg (Value.int .u8) (with_or ⟨h, hh⟩ ⟨_, hi⟩)
theorem isQuorum_any (h : Nat) (n : Int) (w : World) (hh : h < 128) : Calls Tryz.prog 52 #[.int .u8 h, .int .i64 n] w fun e w' => e = .returned (.bool (decide (fCode n = 0) && decide ((Lib.onesCount h : Int) = qOut n))) ∧ w = w' := by
  have HO := ones_any h w hh
  have HQ := Qm.implQuorumOf_any n w
  by_cases hf : fCode n = 0
  · rw [hf] at HQ ⊢
    generalize (Lib.onesCount h : Int) = oc at HO ⊢
    generalize qOut n = q at HQ ⊢
    go_enter Tryz.func52, Tryz.ntmps52
    go_wp2_with fail
    refine HQ.mono ?_
    rintro e w1 ⟨rfl, rfl⟩
    go_wp2_with fail
    refine HO.mono ?_
    rintro e w1 ⟨rfl, rfl⟩
    go_wp2_with fail
    go_ret
    exact ⟨ret_b (by rw [Bool.eq_iff_iff, beq_iff_eq, Bool.and_eq_true, decide_eq_true_eq, decide_eq_true_eq]; simp), rfl⟩
  · have hf' : (fCode n == 0) = false := by simp [hf]
    rw [decide_eq_false hf]
    generalize fCode n = fc at HQ hf hf'
    generalize qOut n = q at HQ
    go_enter Tryz.func52, Tryz.ntmps52
    go_wp2_with fail
    refine HQ.mono ?_
    rintro e w1 ⟨rfl, rfl⟩
    go_wp2_with fail
    go_ret
    exact ⟨ret_b (by simp), rfl⟩
theorem voterP_any (x : Mg) (w : World) : Calls Tryz.prog 156 #[.agg #[.int .i64 x.fr, .int .i64 x.vw, .int .i64 x.sq, .string x.dg]] w fun e w' => e = .returned (.int .i64 x.fr) ∧ Below w.heap.size w w' := by
  have HB : Hid (∀ o, Below w.heap.size w (w.alloc o)) := fun o => bel_new w o
  go_enter Tryz.func156, Tryz.ntmps156
  go_wp2_with fail
  go_ret
  exact ⟨rfl, HB.out _⟩
theorem voterC_any (x : Mg) (w : World) : Calls Tryz.prog 157 #[.agg #[.int .i64 x.fr, .int .i64 x.vw, .string x.bd]] w fun e w' => e = .returned (.int .i64 x.fr) ∧ Below w.heap.size w w' := by
  have HB : Hid (∀ o, Below w.heap.size w (w.alloc o)) := fun o => bel_new w o
  go_enter Tryz.func157, Tryz.ntmps157
  go_wp2_with fail
  go_ret
  exact ⟨rfl, HB.out _⟩
set_option maxRecDepth 100000 in
set_option maxHeartbeats 800000 in
theorem voteOf_any (n : Int) (x : Mg) (w : World) (hK : KTab w) (hp : 0 < w.heap.size) :
    Calls Tryz.prog 36 #[.int .i64 n, .agg #[.int .i64 x.kd, .int .i64 x.vw, .int .i64 x.sq, .int .i64 x.fr, .string x.dg, .string x.bd, .string x.mc]] w fun e w' => e = .returned (votV n x) ∧ Below w.heap.size w w' := by
  have HX : Hid (∀ W, Below (w.alloc (.cells #[.int .i64 x.kd, .int .i64 x.vw, .int .i64 x.sq, .int .i64 x.fr, .string x.dg, .string x.bd, .string x.mc] 39)).heap.size (w.alloc (.cells #[.int .i64 x.kd, .int .i64 x.vw, .int .i64 x.sq, .int .i64 x.fr, .string x.dg, .string x.bd, .string x.mc] 39)) W → (W.cell? ⟨w.heap.size, 0, none⟩ = some (.int .i64 x.kd) ∧ W.cell? ⟨w.heap.size, 1, none⟩ = some (.int .i64 x.vw) ∧ W.cell? ⟨w.heap.size, 2, none⟩ = some (.int .i64 x.sq) ∧ W.cell? ⟨w.heap.size, 3, none⟩ = some (.int .i64 x.fr) ∧ W.cell? ⟨w.heap.size, 4, none⟩ = some (.string x.dg) ∧ W.cell? ⟨w.heap.size, 5, none⟩ = some (.string x.bd)) ∧ Below w.heap.size w W) := fun W hW => by
    have h1 := (hW.block w.heap.size (by simp)).trans (heap_alloc_new w _)
    exact ⟨⟨(blk_cell h1 0 rfl).1, (blk_cell h1 1 rfl).1, (blk_cell h1 2 rfl).1, (blk_cell h1 3 rfl).1, (blk_cell h1 4 rfl).1, (blk_cell h1 5 rfl).1⟩, (bel_new w _).trans (hW.mono (by simp))⟩
  have HMS : Hid (Calls Tryz.prog 60 #[.int .i64 n, .agg #[.int .i64 x.kd, .int .i64 x.vw, .int .i64 x.sq, .int .i64 x.fr, .string x.dg, .string x.bd, .string x.mc]] (w.alloc (.cells #[.int .i64 x.kd, .int .i64 x.vw, .int .i64 x.sq, .int .i64 x.fr, .string x.dg, .string x.bd, .string x.mc] 39)) fun e w' => e = .returned (.bool (sg n x)) ∧ Below (w.alloc (.cells #[.int .i64 x.kd, .int .i64 x.vw, .int .i64 x.sq, .int .i64 x.fr, .string x.dg, .string x.bd, .string x.mc] 39)).heap.size (w.alloc (.cells #[.int .i64 x.kd, .int .i64 x.vw, .int .i64 x.sq, .int .i64 x.fr, .string x.dg, .string x.bd, .string x.mc] 39)) w') := implMessageSigned_any n x.kd x.vw x.sq x.fr x.dg x.bd x.mc _ (hK.below (bel_new w _) hp) (Nat.lt_of_lt_of_le hp (bel_new w _).size)
  have HE : Hid (votV n x = if sg n x then (if x.kd = 2 then prV x else if x.kd = 4 then chV x else .nilIface) else .nilIface) := rfl
  clear hK hp
  generalize votV n x = out at HE ⊢
  cases hs : sg n x with
  | false =>
    rw [hs] at HMS
    have HO : Hid (out = .nilIface) := by show _ = _; rw [HE.out, hs]; rfl
    clear HE hs
    go_enter Tryz.func36, Tryz.ntmps36
    go_wp2_with fail
    refine HMS.out.mono ?_
    rintro e w1 ⟨rfl, b1⟩
    have G : Hid (Below w.heap.size w w1) := (HX.out _ b1).2
    clear b1 HX
    go_wp2_with fail
    go_ret
    exact ⟨ret_v HO.out.symm, G.out⟩
  | true =>
    rw [hs] at HMS
    rw [hs, if_pos rfl] at HE
    clear hs
    by_cases h2 : x.kd = 2
    · have HO : Hid (out = .iface 94 (.agg #[.int .i64 x.fr, .int .i64 x.vw, .int .i64 x.sq, .string x.dg])) := by show _ = _; rw [HE.out, if_pos h2]; rfl
      clear HE
      have h2' : (x.kd == 2) = true := by simp [h2]
      clear h2
      go_enter Tryz.func36, Tryz.ntmps36
      go_wp2_with fail
      refine HMS.out.mono ?_
      rintro e w1 ⟨rfl, b1⟩
      obtain ⟨⟨c0, c1, c2, c3, c4, c5⟩, g⟩ := HX.out _ b1
      have G : Hid (Below w.heap.size w w1) := g
      clear b1 HX g
      go_wp2_with fail
      go_ret
      exact ⟨ret_v HO.out.symm, G.out⟩
    · rw [if_neg h2] at HE
      have h2' : (x.kd == 2) = false := by simp [h2]
      by_cases h4 : x.kd = 4
      · have HO : Hid (out = .iface 102 (.agg #[.int .i64 x.fr, .int .i64 x.vw, .string x.bd])) := by show _ = _; rw [HE.out, if_pos h4]; rfl
        clear HE
        have h4' : (x.kd == 4) = true := by simp [h4]
        clear h4 h2
        go_enter Tryz.func36, Tryz.ntmps36
        go_wp2_with fail
        refine HMS.out.mono ?_
        rintro e w1 ⟨rfl, b1⟩
        obtain ⟨⟨c0, c1, c2, c3, c4, c5⟩, g⟩ := HX.out _ b1
        have G : Hid (Below w.heap.size w w1) := g
        clear b1 HX g
        go_wp2_with fail
        go_ret
        exact ⟨ret_v HO.out.symm, G.out⟩
      · rw [if_neg h4] at HE
        have h4' : (x.kd == 4) = false := by simp [h4]
        clear h4 h2
        go_enter Tryz.func36, Tryz.ntmps36
        go_wp2_with fail
        refine HMS.out.mono ?_
        rintro e w1 ⟨rfl, b1⟩
        obtain ⟨⟨c0, c1, c2, c3, c4, c5⟩, g⟩ := HX.out _ b1
        have G : Hid (Below w.heap.size w w1) := g
        clear b1 HX g
        go_wp2_with fail
        go_ret
        exact ⟨ret_v HE.out.symm, G.out⟩
end Go.Proofs.YtddmdnljfnimbaaGreatDoor.Vt
