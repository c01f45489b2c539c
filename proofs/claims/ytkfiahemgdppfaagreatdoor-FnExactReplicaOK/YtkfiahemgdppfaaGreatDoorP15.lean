/- Texts put together: Vw, Vq, Rw. -/
import Derived.Test.YtkfiahemgdppfaaGreatDoorP14
import Derived.Lib.Strings
import Derived.Lib.Slices
import Derived.Lib.Small
import Derived.Lib.Walk
import Derived.Laws.StructEq
import Derived.Maps.AppendAt
import Derived.Test.YtkfiahemgdppfaaGreatDoorP6
import Derived.Deep.Slices
import Derived.Deep.Fields23
import Derived.OpenShut
import Derived.Deep.RegionLaw
import Derived.BigRegion
/- Votes: sets of nodes, a message's vote. -/
namespace Go.Proofs.YtkfiahemgdppfaaGreatDoor.Vt
open Go.RowKit Go.Proofs.YtkfiahemgdppfaaGreatDoor.Gm Go.Proofs.YtkfiahemgdppfaaGreatDoor.Si Go.Proofs.YtkfiahemgdppfaaGreatDoor.Tm Go.Proofs.YtkfiahemgdppfaaGreatDoor.Ms Go.Proofs.YtkfiahemgdppfaaGreatDoor.Sh
open Go.Proofs.YtkfiahemgdppfaaGreatDoor.Qm (qOut)
open Go.Proofs.YtkfiahemgdppfaaGreatDoor.Rg (blk_cell bel_new)

theorem ret_b {a b : Bool} (h : a = b) : Ending.returned (.bool a) = .returned (.bool b) := by rw [h]
theorem ret_v {a b : Value} (h : a = b) : Ending.returned a = .returned b := by rw [h]
theorem ones_int (x : Int) (w : World) (h0 : 0 ≤ x) (h1 : x ≤ 255) : Calls Tryz.prog 113 #[.int .u8 x] w fun e w' => e = .returned (.int .i64 (Lib.onesCount x.toNat)) ∧ w' = w := by
  have e : wrap64 (Lib.pop8 x) = (Lib.onesCount x.toNat : Int) := by unfold wrap64; exact Lib.pop8_int x h0 h1
  rw [← e]
  clear e
  go_enter Tryz.func113, Tryz.ntmps113
  go_wp2
  go_ret
  exact ⟨rfl, rfl⟩
theorem ones_any (h : Nat) (w : World) (hh : h < 128) : Calls Tryz.prog 113 #[.int .u8 h] w fun e w' => e = .returned (.int .i64 (Lib.onesCount h)) ∧ w = w' :=
  (ones_int h w (by omega) (by omega)).mono fun e w' he => ⟨by rw [he.1, Int.toNat_natCast], he.2.symm⟩
theorem shr_lt : ∀ h : Fin 128, ∀ i : Fin 7, ((h.val / 2 ^ i.val == 0) = decide (h.val < 2 ^ i.val)) := by decide +kernel
set_option maxRecDepth 100000 in
theorem allBelow_any (h i : Nat) (w : World) (hh : h < 128) (hi : i < 7) : Calls Tryz.prog 87 #[.int .u8 h, .int .i64 i] w fun e w' => e = .returned (.bool (decide (h < 2 ^ i))) ∧ w = w' := by
  have hk : ∀ i : Nat, i < 7 → i = 0 ∨ i = 1 ∨ i = 2 ∨ i = 3 ∨ i = 4 ∨ i = 5 ∨ i = 6 := fun i h => by omega
  have hs := shr_lt ⟨h, hh⟩ ⟨i, hi⟩
  simp only at hs
  rw [← hs]
  clear hs
  rcases hk i hi with rfl | rfl | rfl | rfl | rfl | rfl | rfl
  all_goals
    go_enter Tryz.func87, Tryz.ntmps87
    go_wp2_with fail
    go_ret
    refine ⟨ret_b ?_, rfl⟩
    rw [Bool.eq_iff_iff, beq_iff_eq, beq_iff_eq]
    simp only [Nat.reducePow]
    omega
theorem with_or : ∀ h : Fin 128, ∀ i : Fin 7, bits .or .u8 (h.val : Int) ((2 ^ i.val : Nat) : Int) = ((h.val ||| 2 ^ i.val : Nat) : Int) := by decide +kernel
set_option maxRecDepth 100000 in
theorem with_any (h i : Nat) (w : World) (hh : h < 128) (hi : i < 7) : Calls Tryz.prog 88 #[.int .u8 h, .int .i64 i] w fun e w' => e = .returned (.int .u8 ((h ||| 2 ^ i : Nat) : Int)) ∧ w = w' := by
  have hk : ∀ i : Nat, i < 7 → i = 0 ∨ i = 1 ∨ i = 2 ∨ i = 3 ∨ i = 4 ∨ i = 5 ∨ i = 6 := fun i h => by omega
  rcases hk i hi with rfl | rfl | rfl | rfl | rfl | rfl | rfl
  all_goals
    go_enter Tryz.func88, Tryz.ntmps88
    go_wp2_with fail
    go_ret
    refine ⟨ret_v ?_, rfl⟩
    exact congrArg (Value.int .u8) (with_or ⟨h, hh⟩ ⟨_, hi⟩)
theorem isQuorum_any (h : Nat) (n : Int) (w : World) (hh : h < 128) : Calls Tryz.prog 89 #[.int .u8 h, .int .i64 n] w fun e w' => e = .returned (.bool (decide (fCode n = 0) && decide ((Lib.onesCount h : Int) = qOut n))) ∧ w = w' := by
  have HO := ones_any h w hh
  have HQ := Qm.implQuorumOf_any n w
  by_cases hf : fCode n = 0
  · rw [hf] at HQ ⊢
    generalize (Lib.onesCount h : Int) = oc at HO ⊢
    generalize qOut n = q at HQ ⊢
    go_enter Tryz.func89, Tryz.ntmps89
    go_wp2_with fail
    refine HQ.mono ?_
    rintro e w1 ⟨rfl, rfl⟩
    go_wp2_with fail
    refine HO.mono ?_
    rintro e w1 ⟨rfl, rfl⟩
    go_wp2_with fail
    go_ret
    exact ⟨ret_b (by rw [Bool.eq_iff_iff, beq_iff_eq, Bool.and_eq_true, decide_eq_true_eq, decide_eq_true_eq]; simp), rfl⟩
  · have hf' : (fCode n == 0) = false := by simp [hf]
    rw [decide_eq_false hf]
    generalize fCode n = fc at HQ hf hf'
    generalize qOut n = q at HQ
    go_enter Tryz.func89, Tryz.ntmps89
    go_wp2_with fail
    refine HQ.mono ?_
    rintro e w1 ⟨rfl, rfl⟩
    go_wp2_with fail
    go_ret
    exact ⟨ret_b (by simp), rfl⟩
theorem voterP_any (x : Mg) (w : World) : Calls Tryz.prog 190 #[.agg #[.int .i64 x.fr, .int .i64 x.vw, .int .i64 x.sq, .string x.dg]] w fun e w' => e = .returned (.int .i64 x.fr) ∧ Below w.heap.size w w' := by
  have HB : Hid (∀ o, Below w.heap.size w (w.alloc o)) := fun o => bel_new w o
  go_enter Tryz.func190, Tryz.ntmps190
  go_wp2_with fail
  go_ret
  exact ⟨rfl, HB.out _⟩
theorem voterC_any (x : Mg) (w : World) : Calls Tryz.prog 189 #[.agg #[.int .i64 x.fr, .int .i64 x.vw, .string x.bd]] w fun e w' => e = .returned (.int .i64 x.fr) ∧ Below w.heap.size w w' := by
  have HB : Hid (∀ o, Below w.heap.size w (w.alloc o)) := fun o => bel_new w o
  go_enter Tryz.func189, Tryz.ntmps189
  go_wp2_with fail
  go_ret
  exact ⟨rfl, HB.out _⟩
set_option maxRecDepth 100000 in
set_option maxHeartbeats 800000 in
theorem voteOf_any (n : Int) (x : Mg) (w : World) (hK : KTab w) (hp : 0 < w.heap.size) :
    Calls Tryz.prog 28 #[.int .i64 n, .agg #[.int .i64 x.kd, .int .i64 x.vw, .int .i64 x.sq, .int .i64 x.fr, .string x.dg, .string x.bd, .string x.mc]] w fun e w' => e = .returned (votV n x) ∧ Below w.heap.size w w' := by
  have HX : Hid (∀ W, Below (w.alloc (.cells #[.int .i64 x.kd, .int .i64 x.vw, .int .i64 x.sq, .int .i64 x.fr, .string x.dg, .string x.bd, .string x.mc] 26)).heap.size (w.alloc (.cells #[.int .i64 x.kd, .int .i64 x.vw, .int .i64 x.sq, .int .i64 x.fr, .string x.dg, .string x.bd, .string x.mc] 26)) W → (W.cell? ⟨w.heap.size, 0, none⟩ = some (.int .i64 x.kd) ∧ W.cell? ⟨w.heap.size, 1, none⟩ = some (.int .i64 x.vw) ∧ W.cell? ⟨w.heap.size, 2, none⟩ = some (.int .i64 x.sq) ∧ W.cell? ⟨w.heap.size, 3, none⟩ = some (.int .i64 x.fr) ∧ W.cell? ⟨w.heap.size, 4, none⟩ = some (.string x.dg) ∧ W.cell? ⟨w.heap.size, 5, none⟩ = some (.string x.bd)) ∧ Below w.heap.size w W) := fun W hW => by
    have h1 := (hW.block w.heap.size (by simp)).trans (heap_alloc_new w _)
    exact ⟨⟨(blk_cell h1 0 rfl).1, (blk_cell h1 1 rfl).1, (blk_cell h1 2 rfl).1, (blk_cell h1 3 rfl).1, (blk_cell h1 4 rfl).1, (blk_cell h1 5 rfl).1⟩, (bel_new w _).trans (hW.mono (by simp))⟩
  have HMS : Hid (Calls Tryz.prog 60 #[.int .i64 n, .agg #[.int .i64 x.kd, .int .i64 x.vw, .int .i64 x.sq, .int .i64 x.fr, .string x.dg, .string x.bd, .string x.mc]] (w.alloc (.cells #[.int .i64 x.kd, .int .i64 x.vw, .int .i64 x.sq, .int .i64 x.fr, .string x.dg, .string x.bd, .string x.mc] 26)) fun e w' => e = .returned (.bool (sg n x)) ∧ Below (w.alloc (.cells #[.int .i64 x.kd, .int .i64 x.vw, .int .i64 x.sq, .int .i64 x.fr, .string x.dg, .string x.bd, .string x.mc] 26)).heap.size (w.alloc (.cells #[.int .i64 x.kd, .int .i64 x.vw, .int .i64 x.sq, .int .i64 x.fr, .string x.dg, .string x.bd, .string x.mc] 26)) w') := implMessageSigned_any n x.kd x.vw x.sq x.fr x.dg x.bd x.mc _ (hK.below (bel_new w _) hp) (Nat.lt_of_lt_of_le hp (bel_new w _).size)
  have HE : Hid (votV n x = if sg n x then (if x.kd = 2 then prV x else if x.kd = 4 then chV x else .nilIface) else .nilIface) := rfl
  clear hK hp
  generalize votV n x = out at HE ⊢
  cases hs : sg n x with
  | false =>
    rw [hs] at HMS
    have HO : Hid (out = .nilIface) := by show _ = _; rw [HE.out, hs]; rfl
    clear HE hs
    go_enter Tryz.func28, Tryz.ntmps28
    go_wp2_with fail
    refine HMS.out.mono ?_
    rintro e w1 ⟨rfl, b1⟩
    have G : Hid (Below w.heap.size w w1) := (HX.out _ b1).2
    clear b1 HX
    go_wp2_with fail
    go_ret
    exact ⟨ret_v HO.out.symm, G.out⟩
  | true =>
    rw [hs] at HMS
    rw [hs, if_pos rfl] at HE
    clear hs
    by_cases h2 : x.kd = 2
    · have HO : Hid (out = .iface 108 (.agg #[.int .i64 x.fr, .int .i64 x.vw, .int .i64 x.sq, .string x.dg])) := by show _ = _; rw [HE.out, if_pos h2]; rfl
      clear HE
      have h2' : (x.kd == 2) = true := by simp [h2]
      clear h2
      go_enter Tryz.func28, Tryz.ntmps28
      go_wp2_with fail
      refine HMS.out.mono ?_
      rintro e w1 ⟨rfl, b1⟩
      obtain ⟨⟨c0, c1, c2, c3, c4, c5⟩, g⟩ := HX.out _ b1
      have G : Hid (Below w.heap.size w w1) := g
      clear b1 HX g
      go_wp2_with fail
      go_ret
      exact ⟨ret_v HO.out.symm, G.out⟩
    · rw [if_neg h2] at HE
      have h2' : (x.kd == 2) = false := by simp [h2]
      by_cases h4 : x.kd = 4
      · have HO : Hid (out = .iface 102 (.agg #[.int .i64 x.fr, .int .i64 x.vw, .string x.bd])) := by show _ = _; rw [HE.out, if_pos h4]; rfl
        clear HE
        have h4' : (x.kd == 4) = true := by simp [h4]
        clear h4 h2
        go_enter Tryz.func28, Tryz.ntmps28
        go_wp2_with fail
        refine HMS.out.mono ?_
        rintro e w1 ⟨rfl, b1⟩
        obtain ⟨⟨c0, c1, c2, c3, c4, c5⟩, g⟩ := HX.out _ b1
        have G : Hid (Below w.heap.size w w1) := g
        clear b1 HX g
        go_wp2_with fail
        go_ret
        exact ⟨ret_v HO.out.symm, G.out⟩
      · rw [if_neg h4] at HE
        have h4' : (x.kd == 4) = false := by simp [h4]
        clear h4 h2
        go_enter Tryz.func28, Tryz.ntmps28
        go_wp2_with fail
        refine HMS.out.mono ?_
        rintro e w1 ⟨rfl, b1⟩
        obtain ⟨⟨c0, c1, c2, c3, c4, c5⟩, g⟩ := HX.out _ b1
        have G : Hid (Below w.heap.size w w1) := g
        clear b1 HX g
        go_wp2_with fail
        go_ret
        exact ⟨ret_v HE.out.symm, G.out⟩
end Go.Proofs.YtkfiahemgdppfaaGreatDoor.Vt

/- A quorum of votes: the program's walk. -/
namespace Go.Proofs.YtkfiahemgdppfaaGreatDoor.Vt
open Go.RowKit Go.Proofs.YtkfiahemgdppfaaGreatDoor.Gm Go.Proofs.YtkfiahemgdppfaaGreatDoor.Si Go.Proofs.YtkfiahemgdppfaaGreatDoor.Tm Go.Proofs.YtkfiahemgdppfaaGreatDoor.Ms Go.Proofs.YtkfiahemgdppfaaGreatDoor.Sh
open Go.Proofs.YtkfiahemgdppfaaGreatDoor.Qm (qOut)
open Go.Proofs.YtkfiahemgdppfaaGreatDoor.Rg (RowG RowG.slice RowG.at lt_at mem_at blk_cell bel_new)

theorem ret_vb {v : Value} {a b : Bool} (h : a = b) : Ending.returned (.tuple #[v, .bool a]) = .returned (.tuple #[v, .bool b]) := by rw [h]
/-- One vote more. -/
theorem list_v {P : Program} {ops : Array Oper} {rest : List Oper} {o : Oper} {a : Act} {Q : Exit → Act → World → Prop} (hgd : o.guard = none) (s x : Operand) (t : TypeId)
    (ho : o.op = .call { callee := .builtin .append, args := #[s, x], argTypes := #[t, t] }) (i : TypeInfo) (ht : P.underlying t = some (.slice 67)) (hi : P.info? 67 = some i) (hz : i.zero = some .nilIface)
    (hsize : i.size = 1) (hby : i.bytes = 16) (B : Nat) (w0 W : World) (v : Value) (ts : List Value) (z : Value) (hzc : z.oneCell' = true) (hs : a.eval s = v) (hown : OwnV W B v ts) (hg0 : Below B w0 W) (hB : B ≤ W.heap.size)
    (hx : a.eval x = .slice (some ⟨W.heap.size, 0, none⟩) 1 1) (hlen : ts.length ≤ 1048576)
    (h : ∀ v' w', OwnV w' B v' (ts ++ [z]) → Below B w0 w' → wpList P ops Q rest (a.put o.dst v') w') : wpList P ops Q (o :: rest) a (W.alloc (.cells #[z] 67)) := by
  have hown' : OwnV (W.alloc (.cells #[z] 67)) B v ts := hown.below (bel_new _ _)
  refine wpList_append_own_at (P := P) _ hgd s x t ho B 67 i .nilIface 1 16 ht hi hz hsize hby rfl (by decide) v ts.length _ hs hown' ⟨W.heap.size, 0, none⟩ 1 1 [z] hx (by simp) (cell_one_new _ _ _) ?_ (by unfold maxLen; omega) (by omega) (by simp; omega) ?_
  · intro c hc
    simp at hc
    subst hc
    exact hzc
  · intro v' w' h1 h2 h3 h4
    exact h v' w' (by unfold OwnV; simpa using h1) ((hg0.alloc hB _).grown h2 (by simp; omega) (fun k hk => (hown'.lt k hk).1))
set_option maxRecDepth 100000 in
set_option maxHeartbeats 1600000 in
theorem quorumVotes_any (n : Int) (v : Value) (ms : List Mg) (w : World) (h : Row w v ms) (hl : ms.length ≤ 1048576) (hK : KTab w) (hp : 0 < w.heap.size) :
    Calls Tryz.prog 56 #[.int .i64 n, v] w fun e w' => ∃ u, e = .returned (.tuple #[u, .bool (qvB n ms)]) ∧ (qvB n ms = true → OwnV w' w.heap.size u (vts n ms)) ∧ Below w.heap.size w w' := by
  obtain ⟨i0, hi0, hz0, hz1, hz2⟩ := info_parts info_v
  have HR : Hid (Row w v ms) := h
  obtain ⟨a, cap, rfl⟩ := RowG.slice h
  have GK : Hid (KTab w ∧ 0 < w.heap.size) := ⟨hK, hp⟩
  clear h hK hp
  go_enter Tryz.func56, Tryz.ntmps56
  go_wp2_with fail
  go_loopw [6, 7, 13] (fun hd b i wr => ∃ k : Nat, k ≤ ms.length ∧ hd = .int .u8 (msk ms k : Int) ∧ i = .int .i64 k ∧ Hid (GoodTo n ms k ∧ OwnV wr w.heap.size b (vts n (ms.take k)) ∧ Below w.heap.size w wr)) (fun _ _ i _ => ms.length - (intOf i).toNat)
  case atStart => exact ⟨0, by omega, rfl, rfl, ⟨GoodTo.zero n ms, OwnV.nil _ _, Below.refl _ _⟩⟩
  case round =>
    obtain ⟨k, hk, rfl, rfl, HZ⟩ := hrel
    obtain ⟨v0, rfl⟩ : ∃ v0, v0 = u7 := ⟨_, rfl⟩
    have hmk : msk ms k < 128 := (good_msk HZ.out.1 hk).1
    by_cases hlt : k < ms.length
    · obtain ⟨x, hx⟩ := Rg.get_at hlt
      obtain ⟨b, off, rfl, hbl, c0, c1, c2, c3, c4, c5, c6⟩ := RowG.at (HR.out.below HZ.out.2.2) rfl hx
      have HBW : Hid (∀ o, Below wr.heap.size wr (wr.alloc o)) := fun o => bel_new wr o
      have HVO : Hid (Calls Tryz.prog 28 #[.int .i64 n, .agg #[.int .i64 x.kd, .int .i64 x.vw, .int .i64 x.sq, .int .i64 x.fr, .string x.dg, .string x.bd, .string x.mc]] (wr.alloc (.cells #[.int .i64 x.kd, .int .i64 x.vw, .int .i64 x.sq, .int .i64 x.fr, .string x.dg, .string x.bd, .string x.mc] 26)) fun e w' => e = .returned (votV n x) ∧ Below (wr.alloc (.cells #[.int .i64 x.kd, .int .i64 x.vw, .int .i64 x.sq, .int .i64 x.fr, .string x.dg, .string x.bd, .string x.mc] 26)).heap.size (wr.alloc (.cells #[.int .i64 x.kd, .int .i64 x.vw, .int .i64 x.sq, .int .i64 x.fr, .string x.dg, .string x.bd, .string x.mc] 26)) w') := by
        have b := HZ.out.2.2.alloc HZ.out.2.2.size (.cells #[.int .i64 x.kd, .int .i64 x.vw, .int .i64 x.sq, .int .i64 x.fr, .string x.dg, .string x.bd, .string x.mc] 26)
        exact voteOf_any n x _ (GK.out.1.below b GK.out.2) (Nat.lt_of_lt_of_le GK.out.2 b.size)
      have HLN : Hid ((vts n (ms.take k)).length ≤ 1048576) := by show _ ≤ _; unfold vts; rw [List.length_map, List.length_take]; omega
      cases hv : isV n x with
      | false =>
        have HF : Hid (qvB n ms = false) := qv_not hx (fun hh => by rw [hv] at hh; cases hh.1)
        have HN : Hid (votV n x = .nilIface) := by
          show _ = _
          unfold isV at hv
          unfold votV
          cases hs : sg n x with
          | false => rfl
          | true =>
            rw [hs, Bool.true_and, Bool.or_eq_false_iff, beq_eq_false_iff_ne, beq_eq_false_iff_ne] at hv
            rw [if_pos rfl, if_neg hv.1, if_neg hv.2]
        rw [HN.out] at HVO
        clear hv hx HLN HN
        go_wp2_with fail
        refine HVO.out.mono ?_
        rintro e w2 ⟨rfl, b2⟩
        have B2 : Hid (Below w.heap.size w w2) := HZ.out.2.2.trans (((HBW.out _).trans (b2.mono (HBW.out _).size)).mono HZ.out.2.2.size)
        clear b2
        go_wp2_with fail
        go_ret2
        exact ⟨_, ret_vb HF.out.symm, fun hh => absurd (HF.out.symm.trans hh) (by decide), B2.out⟩
      | true =>
        obtain ⟨_, i, hfi, hi7⟩ := isV_from hv
        have HAB : Hid (∀ W, Calls Tryz.prog 87 #[.int .u8 (msk ms k : Int), .int .i64 (i : Int)] W fun e w' => e = .returned (.bool (decide (msk ms k < 2 ^ i))) ∧ W = w') := fun W => allBelow_any _ _ W hmk hi7
        have HWI : Hid (∀ W, Calls Tryz.prog 88 #[.int .u8 (msk ms k : Int), .int .i64 (i : Int)] W fun e w' => e = .returned (.int .u8 ((msk ms k ||| 2 ^ i : Nat) : Int)) ∧ W = w') := fun W => with_any _ _ W hmk hi7
        have hv' := hv
        unfold isV at hv'
        rw [Bool.and_eq_true, Bool.or_eq_true, beq_iff_eq, beq_iff_eq] at hv'
        obtain ⟨hs, hkd⟩ := hv'
        by_cases h2 : x.kd = 2
        · have HVQ : votV n x = .iface 108 (.agg #[.int .i64 x.fr, .int .i64 x.vw, .int .i64 x.sq, .string x.dg]) := by unfold votV; rw [if_pos hs, if_pos h2]; rfl
          clear hs hkd h2
          have HV : Hid (votV n x = .iface 108 (.agg #[.int .i64 x.fr, .int .i64 x.vw, .int .i64 x.sq, .string x.dg])) := HVQ
          rw [HV.out] at HVO
          have HVT : Hid (∀ W, Calls Tryz.prog 190 #[.agg #[.int .i64 x.fr, .int .i64 x.vw, .int .i64 x.sq, .string x.dg]] W fun e w' => e = .returned (.int .i64 (i : Int)) ∧ Below W.heap.size W w') := fun W => by have := voterP_any x W; rw [hfi] at this ⊢; exact this
          rw [hfi] at HVO HVT
          clear HVQ
          by_cases hlt2 : msk ms k < 2 ^ i
          · have hd2 : decide (msk ms k < 2 ^ i) = true := decide_eq_true hlt2
            have HG2 : Hid (GoodTo n ms (k + 1)) := HZ.out.1.succ hx hv (by unfold frn; rw [hfi, Int.toNat_natCast]; exact hlt2)
            have HMS : Hid (msk ms (k + 1) = msk ms k ||| 2 ^ i) := by show _ = _; rw [msk_step hx]; unfold frn; rw [hfi, Int.toNat_natCast]
            have HST : Hid (vts n (ms.take (k + 1)) = vts n (ms.take k) ++ [.iface 108 (.agg #[.int .i64 (i : Int), .int .i64 x.vw, .int .i64 x.sq, .string x.dg])]) := by show _ = _; rw [vts_step hx, HV.out]; rw [hfi]
            rw [hd2] at HAB
            clear hlt2 hd2 hx HV
            generalize msk ms k = h at HAB HWI HMS
            go_wp2_with fail
            refine HVO.out.mono ?_
            rintro e w2 ⟨rfl, b2⟩
            have B2 : Hid (Below wr.heap.size wr w2) := (HBW.out _).trans (b2.mono (HBW.out _).size)
            clear b2
            go_wp2_with fail
            refine (HVT.out _).mono ?_
            rintro e w3 ⟨rfl, b3⟩
            have B3 : Hid (Below wr.heap.size wr w3) := B2.out.trans (b3.mono B2.out.size)
            clear b3
            go_wp2_with fail
            refine (HAB.out _).mono ?_
            rintro e w4 ⟨rfl, rfl⟩
            go_wp2_with fail
            refine (HVT.out _).mono ?_
            rintro e w5 ⟨rfl, b5⟩
            have B5 : Hid (Below wr.heap.size wr w5) := B3.out.trans (b5.mono B3.out.size)
            clear b5
            go_wp2_with fail
            refine (HWI.out _).mono ?_
            rintro e w6 ⟨rfl, rfl⟩
            have O5 : Hid (OwnV w5 w.heap.size v0 (vts n (ms.take k)) ∧ Below w.heap.size w w5) := ⟨OwnV.below HZ.out.2.1 B5.out, HZ.out.2.2.trans (B5.out.mono HZ.out.2.2.size)⟩
            clear HZ
            go_wp2_with (at_builtin; go_must (refine list_v (by rfl) _ _ 94 (by rfl) i0 Tryz.underlying94 hi0 hz0 hz1 hz2 w.heap.size w w5 _ _ (.iface 108 (.agg #[.int .i64 (i : Int), .int .i64 x.vw, .int .i64 x.sq, .string x.dg])) (by rfl) (by rfl) O5.out.1 O5.out.2 O5.out.2.size (by rfl) HLN.out ?_; intro v7 w7 o7 b7))
            exact ⟨⟨k + 1, by omega, by rw [HMS.out], by go_num, ⟨HG2.out, by rw [HST.out]; exact o7, b7⟩⟩, by simp [intOf]; omega⟩
          · have hd2 : decide (msk ms k < 2 ^ i) = false := decide_eq_false hlt2
            have HF : Hid (qvB n ms = false) := qv_not hx (fun hh => hlt2 (by have := hh.2; unfold frn at this; rw [hfi, Int.toNat_natCast] at this; exact this))
            rw [hd2] at HAB
            clear hlt2 hd2 hx HV
            generalize msk ms k = h at HAB HWI
            go_wp2_with fail
            refine HVO.out.mono ?_
            rintro e w2 ⟨rfl, b2⟩
            have B2 : Hid (Below wr.heap.size wr w2) := (HBW.out _).trans (b2.mono (HBW.out _).size)
            clear b2
            go_wp2_with fail
            refine (HVT.out _).mono ?_
            rintro e w3 ⟨rfl, b3⟩
            have B3 : Hid (Below wr.heap.size wr w3) := B2.out.trans (b3.mono B2.out.size)
            clear b3
            go_wp2_with fail
            refine (HAB.out _).mono ?_
            rintro e w4 ⟨rfl, rfl⟩
            have B4 : Hid (Below w.heap.size w w3) := HZ.out.2.2.trans (B3.out.mono HZ.out.2.2.size)
            go_wp2_with fail
            go_ret2
            exact ⟨_, ret_vb HF.out.symm, fun hh => absurd (HF.out.symm.trans hh) (by decide), B4.out⟩
        · have h4 : x.kd = 4 := hkd.resolve_left h2
          have HVQ : votV n x = .iface 102 (.agg #[.int .i64 x.fr, .int .i64 x.vw, .string x.bd]) := by unfold votV; rw [if_pos hs, if_neg h2, if_pos h4]; rfl
          clear hs hkd h2 h4
          have HV : Hid (votV n x = .iface 102 (.agg #[.int .i64 x.fr, .int .i64 x.vw, .string x.bd])) := HVQ
          rw [HV.out] at HVO
          have HVT : Hid (∀ W, Calls Tryz.prog 189 #[.agg #[.int .i64 x.fr, .int .i64 x.vw, .string x.bd]] W fun e w' => e = .returned (.int .i64 (i : Int)) ∧ Below W.heap.size W w') := fun W => by have := voterC_any x W; rw [hfi] at this ⊢; exact this
          rw [hfi] at HVO HVT
          clear HVQ
          by_cases hlt2 : msk ms k < 2 ^ i
          · have hd2 : decide (msk ms k < 2 ^ i) = true := decide_eq_true hlt2
            have HG2 : Hid (GoodTo n ms (k + 1)) := HZ.out.1.succ hx hv (by unfold frn; rw [hfi, Int.toNat_natCast]; exact hlt2)
            have HMS : Hid (msk ms (k + 1) = msk ms k ||| 2 ^ i) := by show _ = _; rw [msk_step hx]; unfold frn; rw [hfi, Int.toNat_natCast]
            have HST : Hid (vts n (ms.take (k + 1)) = vts n (ms.take k) ++ [.iface 102 (.agg #[.int .i64 (i : Int), .int .i64 x.vw, .string x.bd])]) := by show _ = _; rw [vts_step hx, HV.out]; rw [hfi]
            rw [hd2] at HAB
            clear hlt2 hd2 hx HV
            generalize msk ms k = h at HAB HWI HMS
            go_wp2_with fail
            refine HVO.out.mono ?_
            rintro e w2 ⟨rfl, b2⟩
            have B2 : Hid (Below wr.heap.size wr w2) := (HBW.out _).trans (b2.mono (HBW.out _).size)
            clear b2
            go_wp2_with fail
            refine (HVT.out _).mono ?_
            rintro e w3 ⟨rfl, b3⟩
            have B3 : Hid (Below wr.heap.size wr w3) := B2.out.trans (b3.mono B2.out.size)
            clear b3
            go_wp2_with fail
            refine (HAB.out _).mono ?_
            rintro e w4 ⟨rfl, rfl⟩
            go_wp2_with fail
            refine (HVT.out _).mono ?_
            rintro e w5 ⟨rfl, b5⟩
            have B5 : Hid (Below wr.heap.size wr w5) := B3.out.trans (b5.mono B3.out.size)
            clear b5
            go_wp2_with fail
            refine (HWI.out _).mono ?_
            rintro e w6 ⟨rfl, rfl⟩
            have O5 : Hid (OwnV w5 w.heap.size v0 (vts n (ms.take k)) ∧ Below w.heap.size w w5) := ⟨OwnV.below HZ.out.2.1 B5.out, HZ.out.2.2.trans (B5.out.mono HZ.out.2.2.size)⟩
            clear HZ
            go_wp2_with (at_builtin; go_must (refine list_v (by rfl) _ _ 94 (by rfl) i0 Tryz.underlying94 hi0 hz0 hz1 hz2 w.heap.size w w5 _ _ (.iface 102 (.agg #[.int .i64 (i : Int), .int .i64 x.vw, .string x.bd])) (by rfl) (by rfl) O5.out.1 O5.out.2 O5.out.2.size (by rfl) HLN.out ?_; intro v7 w7 o7 b7))
            exact ⟨⟨k + 1, by omega, by rw [HMS.out], by go_num, ⟨HG2.out, by rw [HST.out]; exact o7, b7⟩⟩, by simp [intOf]; omega⟩
          · have hd2 : decide (msk ms k < 2 ^ i) = false := decide_eq_false hlt2
            have HF : Hid (qvB n ms = false) := qv_not hx (fun hh => hlt2 (by have := hh.2; unfold frn at this; rw [hfi, Int.toNat_natCast] at this; exact this))
            rw [hd2] at HAB
            clear hlt2 hd2 hx HV
            generalize msk ms k = h at HAB HWI
            go_wp2_with fail
            refine HVO.out.mono ?_
            rintro e w2 ⟨rfl, b2⟩
            have B2 : Hid (Below wr.heap.size wr w2) := (HBW.out _).trans (b2.mono (HBW.out _).size)
            clear b2
            go_wp2_with fail
            refine (HVT.out _).mono ?_
            rintro e w3 ⟨rfl, b3⟩
            have B3 : Hid (Below wr.heap.size wr w3) := B2.out.trans (b3.mono B2.out.size)
            clear b3
            go_wp2_with fail
            refine (HAB.out _).mono ?_
            rintro e w4 ⟨rfl, rfl⟩
            have B4 : Hid (Below w.heap.size w w3) := HZ.out.2.2.trans (B3.out.mono HZ.out.2.2.size)
            go_wp2_with fail
            go_ret2
            exact ⟨_, ret_vb HF.out.symm, fun hh => absurd (HF.out.symm.trans hh) (by decide), B4.out⟩
    · obtain rfl : k = ms.length := by omega
      have HIQ : Hid (∀ W, Calls Tryz.prog 89 #[.int .u8 (msk ms ms.length : Int), .int .i64 n] W fun e w' => e = .returned (.bool (qvB n ms)) ∧ W = w') := fun W => by rw [qv_end HZ.out.1]; exact isQuorum_any _ n W hmk
      have HO : Hid (OwnV wr w.heap.size v0 (vts n ms)) := by have := HZ.out.2.1; rw [List.take_length] at this; exact this
      obtain ⟨q, HQ⟩ : ∃ q, Hid (qvB n ms = q) := ⟨_, rfl⟩
      rw [HQ.out] at HIQ
      go_wp2_with fail
      refine (HIQ.out _).mono ?_
      rintro e w2 ⟨rfl, rfl⟩
      go_wp2_with fail
      go_ret2
      exact ⟨_, ret_vb HQ.out.symm, fun _ => HO.out, HZ.out.2.2⟩
end Go.Proofs.YtkfiahemgdppfaaGreatDoor.Vt

/- Readings in a slice: read, measured, copied, compared. -/
namespace Go.Proofs.YtkfiahemgdppfaaGreatDoor.Rw
open Go.RowKit Go.Proofs.YtkfiahemgdppfaaGreatDoor.Sl Go.Proofs.YtkfiahemgdppfaaGreatDoor.Ap Go.Proofs.YtkfiahemgdppfaaGreatDoor.Tx

/-- A reading. -/
structure Rd where
  f : Int
  x : Int
  m : ByteArray
instance : Inhabited Rd := ⟨⟨0, 0, ⟨#[]⟩⟩⟩
def rn (rs : List Rd) (i : Nat) : Rd := rs.getD i ⟨0, 0, ⟨#[]⟩⟩
theorem rn_at {rs : List Rd} {i : Nat} (h : i < rs.length) : rs[i]? = some (rn rs i) := by
  unfold rn; rw [List.getD_eq_getElem?_getD, List.getElem?_eq_getElem h]; rfl
theorem rn_mem {rs : List Rd} {i : Nat} (h : i < rs.length) : rn rs i ∈ rs := List.mem_of_getElem? (rn_at h)
/-- The cells from off on in block b are those of the readings rs. -/
def CellsR (w : World) (b off : Nat) (rs : List Rd) : Prop :=
  ∀ i, i < rs.length → w.cell? ⟨b, off + i * 3, none⟩ = some (.int .i64 (rn rs i).f) ∧ w.cell? ⟨b, off + i * 3 + 1, none⟩ = some (.int .i64 (rn rs i).x) ∧ w.cell? ⟨b, off + i * 3 + 2, none⟩ = some (.string (rn rs i).m)
/-- The slice v holds the readings rs. -/
def RowR (w : World) (v : Value) (rs : List Rd) : Prop :=
  ∃ a cap, v = .slice a rs.length cap ∧ (rs = [] ∨ ∃ b off, a = some ⟨b, off, none⟩ ∧ rs.length ≤ cap ∧ b < w.heap.size ∧ CellsR w b off rs)
theorem CellsR.below {w w' : World} {b off : Nat} {rs : List Rd} (h : CellsR w b off rs) (hb : Below w.heap.size w w') (hlt : b < w.heap.size) : CellsR w' b off rs := fun i hi => by
  obtain ⟨h1, h2, h3⟩ := h i hi
  exact ⟨(hb.cell (p := ⟨b, _, none⟩) hlt).trans h1, (hb.cell (p := ⟨b, _, none⟩) hlt).trans h2, (hb.cell (p := ⟨b, _, none⟩) hlt).trans h3⟩
theorem RowR.below {w w' : World} {v : Value} {rs : List Rd} (h : RowR w v rs) (hb : Below w.heap.size w w') : RowR w' v rs := by
  obtain ⟨a, cap, rfl, h⟩ := h
  refine ⟨a, cap, rfl, ?_⟩
  rcases h with h | ⟨b, off, rfl, hc, hlt, h⟩
  · exact .inl h
  · exact .inr ⟨b, off, rfl, hc, Nat.lt_of_lt_of_le hlt hb.size, h.below hb hlt⟩
theorem ret_i {a b : Int} (h : a = b) : Ending.returned (.int .i64 a) = .returned (.int .i64 b) := by rw [h]
def SzOk (r : Int) (l s : Nat) : Prop := r = -1 ∨ ∃ q : Nat, r = q ∧ q ≤ l ∧ s ≤ l
theorem info3r : (Tryz.prog.info? 157).map (fun i => (i.zero, i.size, i.bytes)) = some (some (.agg #[.int .i64 0, .int .i64 0, .string ⟨#[]⟩]), 3, 32) := by kernel_rfl
/-- The copy: the cells of its first k readings are written. -/
def Cop (rs : List Rd) (k : Nat) (A : Array Value) : Prop := A.size = rs.length * 3 ∧ ∀ j, j < k → A[j * 3]? = some (.int .i64 (rn rs j).f) ∧ A[j * 3 + 1]? = some (.int .i64 (rn rs j).x) ∧ A[j * 3 + 2]? = some (.string (rn rs j).m)
theorem cop_step {rs : List Rd} {k : Nat} {A : Array Value} (h : Cop rs k A) (hk : k < rs.length) :
    Cop rs (k + 1) (((A.setIfInBounds (k * 3) (.int .i64 (rn rs k).f)).setIfInBounds (k * 3 + 1) (.int .i64 (rn rs k).x)).setIfInBounds (k * 3 + 2) (.string (rn rs k).m)) := by
  refine ⟨by simpa using h.1, fun j hj => ?_⟩
  have hs := h.1
  simp only [Array.getElem?_setIfInBounds, Array.size_setIfInBounds]
  by_cases e : j = k
  · subst e
    refine ⟨?_, ?_, ?_⟩
    · rw [if_neg (by omega), if_neg (by omega), if_pos rfl, if_pos (by omega)]
    · rw [if_neg (by omega), if_pos rfl, if_pos (by omega)]
    · rw [if_pos rfl, if_pos (by omega)]
  · obtain ⟨h1, h2, h3⟩ := h.2 j (by omega)
    refine ⟨?_, ?_, ?_⟩
    · rw [if_neg (by omega), if_neg (by omega), if_neg (by omega)]; exact h1
    · rw [if_neg (by omega), if_neg (by omega), if_neg (by omega)]; exact h2
    · rw [if_neg (by omega), if_neg (by omega), if_neg (by omega)]; exact h3
end Go.Proofs.YtkfiahemgdppfaaGreatDoor.Rw
namespace Go.Proofs.YtkfiahemgdppfaaGreatDoor.Op
open Go.ChangeShapes Go.WideShapes Go.ChangeAt Go.RowKit Go.Deep
end Go.Proofs.YtkfiahemgdppfaaGreatDoor.Op
