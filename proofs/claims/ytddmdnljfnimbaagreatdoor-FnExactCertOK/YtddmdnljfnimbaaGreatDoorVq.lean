/- A quorum of votes: the program's walk. -/
import Derived.Test.YtddmdnljfnimbaaGreatDoorVw
import Derived.Maps.AppendAt
namespace Go.Proofs.YtddmdnljfnimbaaGreatDoor.Vt
open Go.RowKit Go.Proofs.YtddmdnljfnimbaaGreatDoor.Gm Go.Proofs.YtddmdnljfnimbaaGreatDoor.Si Go.Proofs.YtddmdnljfnimbaaGreatDoor.Tm Go.Proofs.YtddmdnljfnimbaaGreatDoor.Ms Go.Proofs.YtddmdnljfnimbaaGreatDoor.Sh
open Go.Proofs.YtddmdnljfnimbaaGreatDoor.Qm (qOut)
open Go.Proofs.YtddmdnljfnimbaaGreatDoor.Rg (RowG RowG.slice RowG.at lt_at mem_at blk_cell bel_new)

theorem ret_vb {v : Value} {a b : Bool} (h : a = b) : Ending.returned (.tuple #[v, .bool a]) = .returned (.tuple #[v, .bool b]) := by rw [h]
/-- One vote more. -/
theorem list_v {P : Program} {ops : Array Oper} {rest : List Oper} {o : Oper} {a : Act} {Q : Exit → Act → World → Prop} (hgd : o.guard = none) (s x : Operand) (t : TypeId)
    (ho : o.op = .call { callee := .builtin .append, args := #[s, x], argTypes := #[t, t] }) (i : TypeInfo) (ht : P.underlying t = some (.slice 69)) (hi : P.info? 69 = some i) (hz : i.zero = some .nilIface)
    (hsize : i.size = 1) (hby : i.bytes = 16) (B : Nat) (w0 W : World) (v : Value) (ts : List Value) (z : Value) (hzc : z.oneCell' = true) (hs : a.eval s = v) (hown : OwnV W B v ts) (hg0 : Below B w0 W) (hB : B ≤ W.heap.size)
    (hx : a.eval x = .slice (some ⟨W.heap.size, 0, none⟩) 1 1) (hlen : ts.length ≤ 1048576)
    (h : ∀ v' w', OwnV w' B v' (ts ++ [z]) → Below B w0 w' → wpList P ops Q rest (a.put o.dst v') w') : wpList P ops Q (o :: rest) a (W.alloc (.cells #[z] 69)) := by
  have hown' : OwnV (W.alloc (.cells #[z] 69)) B v ts := hown.below (bel_new _ _)
  refine wpList_append_own_at (P := P) _ hgd s x t ho B 69 i .nilIface 1 16 ht hi hz hsize hby rfl (by decide) v ts.length _ hs hown' ⟨W.heap.size, 0, none⟩ 1 1 [z] hx (by simp) (cell_one_new _ _ _) ?_ (by unfold maxLen; omega) (by omega) (by simp; omega) ?_
  · intro c hc
    simp at hc
    subst hc
    exact hzc
  · intro v' w' h1 h2 h3 h4
    exact h v' w' (by unfold OwnV; simpa using h1) ((hg0.alloc hB _).grown h2 (by simp; omega) (fun k hk => (hown'.lt k hk).1))
set_option maxRecDepth 100000 in
set_option maxHeartbeats 1600000 in
theorem quorumVotes_any (n : Int) (v : Value) (ms : List Mg) (w : World) (h : Row w v ms) (hl : ms.length ≤ 1048576) (hK : KTab w) (hp : 0 < w.heap.size) :
    Calls Tryz.prog 29 #[.int .i64 n, v] w fun e w' => ∃ u, e = .returned (.tuple #[u, .bool (qvB n ms)]) ∧ (qvB n ms = true → OwnV w' w.heap.size u (vts n ms)) ∧ Below w.heap.size w w' := by
  obtain ⟨i0, hi0, hz0, hz1, hz2⟩ := info_parts info_v
  have HR : Hid (Row w v ms) := h
  obtain ⟨a, cap, rfl⟩ := RowG.slice h
  have GK : Hid (KTab w ∧ 0 < w.heap.size) := ⟨hK, hp⟩
  clear h hK hp
  go_enter Tryz.func29, Tryz.ntmps29
  go_wp2_with fail
  go_loopw [6, 7, 13] (fun hd b i wr => ∃ k : Nat, k ≤ ms.length ∧ hd = .int .u8 (msk ms k : Int) ∧ i = .int .i64 k ∧ Hid (GoodTo n ms k ∧ OwnV wr w.heap.size b (vts n (ms.take k)) ∧ Below w.heap.size w wr)) (fun _ _ i _ => ms.length - (intOf i).toNat)
  case atStart => exact ⟨0, by omega, rfl, rfl, ⟨GoodTo.zero n ms, OwnV.nil _ _, Below.refl _ _⟩⟩
  case round =>
    obtain ⟨k, hk, rfl, rfl, HZ⟩ := hrel
    obtain ⟨v0, rfl⟩ : ∃ v0, v0 = u7 := ⟨_, rfl⟩
    have hmk : msk ms k < 128 := (good_msk HZ.out.1 hk).1
    by_cases hlt : k < ms.length
    · obtain ⟨x, hx⟩ := Rg.get_at hlt
      obtain ⟨b, off, rfl, hbl, c0, c1, c2, c3, c4, c5, c6⟩ := RowG.at (HR.out.below HZ.out.2.2) rfl hx
      have HBW : Hid (∀ o, Below wr.heap.size wr (wr.alloc o)) := fun o => bel_new wr o
      have HVO : Hid (Calls Tryz.prog 36 #[.int .i64 n, .agg #[.int .i64 x.kd, .int .i64 x.vw, .int .i64 x.sq, .int .i64 x.fr, .string x.dg, .string x.bd, .string x.mc]] (wr.alloc (.cells #[.int .i64 x.kd, .int .i64 x.vw, .int .i64 x.sq, .int .i64 x.fr, .string x.dg, .string x.bd, .string x.mc] 39)) fun e w' => e = .returned (votV n x) ∧ Below (wr.alloc (.cells #[.int .i64 x.kd, .int .i64 x.vw, .int .i64 x.sq, .int .i64 x.fr, .string x.dg, .string x.bd, .string x.mc] 39)).heap.size (wr.alloc (.cells #[.int .i64 x.kd, .int .i64 x.vw, .int .i64 x.sq, .int .i64 x.fr, .string x.dg, .string x.bd, .string x.mc] 39)) w') := by
        have b := HZ.out.2.2.alloc HZ.out.2.2.size (.cells #[.int .i64 x.kd, .int .i64 x.vw, .int .i64 x.sq, .int .i64 x.fr, .string x.dg, .string x.bd, .string x.mc] 39)
        exact voteOf_any n x _ (GK.out.1.below b GK.out.2) (Nat.lt_of_lt_of_le GK.out.2 b.size)
      have HLN : Hid ((vts n (ms.take k)).length ≤ 1048576) := by show _ ≤ _; unfold vts; rw [List.length_map, List.length_take]; omega
      cases hv : isV n x with
      | false =>
        have HF : Hid (qvB n ms = false) := qv_not hx (fun hh => by rw [hv] at hh; cases hh.1)
        have HN : Hid (votV n x = .nilIface) := by
          show _ = _
          unfold isV at hv
          unfold votV
          cases hs : sg n x with
          | false => rfl
          | true =>
            rw [hs, Bool.true_and, Bool.or_eq_false_iff, beq_eq_false_iff_ne, beq_eq_false_iff_ne] at hv
            rw [if_pos rfl, if_neg hv.1, if_neg hv.2]
        rw [HN.out] at HVO
        clear hv hx HLN HN
        go_wp2_with fail
        refine HVO.out.mono ?_
        rintro e w2 ⟨rfl, b2⟩
        have B2 : Hid (Below w.heap.size w w2) := HZ.out.2.2.trans (((HBW.out _).trans (b2.mono (HBW.out _).size)).mono HZ.out.2.2.size)
        clear b2
        go_wp2_with fail
        go_ret2
        exact ⟨_, ret_vb HF.out.symm, fun hh => absurd (HF.out.symm.trans hh) (by decide), B2.out⟩
      | true =>
        obtain ⟨_, i, hfi, hi7⟩ := isV_from hv
        have HAB : Hid (∀ W, Calls Tryz.prog 50 #[.int .u8 (msk ms k : Int), .int .i64 (i : Int)] W fun e w' => e = .returned (.bool (decide (msk ms k < 2 ^ i))) ∧ W = w') := fun W => allBelow_any _ _ W hmk hi7
        have HWI : Hid (∀ W, Calls Tryz.prog 51 #[.int .u8 (msk ms k : Int), .int .i64 (i : Int)] W fun e w' => e = .returned (.int .u8 ((msk ms k ||| 2 ^ i : Nat) : Int)) ∧ W = w') := fun W => with_any _ _ W hmk hi7
        have hv' := hv
        unfold isV at hv'
        rw [Bool.and_eq_true, Bool.or_eq_true, beq_iff_eq, beq_iff_eq] at hv'
        obtain ⟨hs, hkd⟩ := hv'
        by_cases h2 : x.kd = 2
        · have HVQ : votV n x = .iface 94 (.agg #[.int .i64 x.fr, .int .i64 x.vw, .int .i64 x.sq, .string x.dg]) := by unfold votV; rw [if_pos hs, if_pos h2]; rfl
          clear hs hkd h2
          have HV : Hid (votV n x = .iface 94 (.agg #[.int .i64 x.fr, .int .i64 x.vw, .int .i64 x.sq, .string x.dg])) := HVQ
          rw [HV.out] at HVO
          have HVT : Hid (∀ W, Calls Tryz.prog 156 #[.agg #[.int .i64 x.fr, .int .i64 x.vw, .int .i64 x.sq, .string x.dg]] W fun e w' => e = .returned (.int .i64 (i : Int)) ∧ Below W.heap.size W w') := fun W => by have := voterP_any x W; rw [hfi] at this ⊢; exact this
          rw [hfi] at HVO HVT
          clear HVQ
          by_cases hlt2 : msk ms k < 2 ^ i
          · have hd2 : decide (msk ms k < 2 ^ i) = true := decide_eq_true hlt2
            have HG2 : Hid (GoodTo n ms (k + 1)) := HZ.out.1.succ hx hv (by unfold frn; rw [hfi, Int.toNat_natCast]; exact hlt2)
            have HMS : Hid (msk ms (k + 1) = msk ms k ||| 2 ^ i) := by show _ = _; rw [msk_step hx]; unfold frn; rw [hfi, Int.toNat_natCast]
            have HST : Hid (vts n (ms.take (k + 1)) = vts n (ms.take k) ++ [.iface 94 (.agg #[.int .i64 (i : Int), .int .i64 x.vw, .int .i64 x.sq, .string x.dg])]) := by show _ = _; rw [vts_step hx, HV.out]; rw [hfi]
            rw [hd2] at HAB
            clear hlt2 hd2 hx HV
            generalize msk ms k = h at HAB HWI HMS
            go_wp2_with fail
            refine HVO.out.mono ?_
            rintro e w2 ⟨rfl, b2⟩
            have B2 : Hid (Below wr.heap.size wr w2) := (HBW.out _).trans (b2.mono (HBW.out _).size)
            clear b2
            go_wp2_with fail
            refine (HVT.out _).mono ?_
            rintro e w3 ⟨rfl, b3⟩
            have B3 : Hid (Below wr.heap.size wr w3) := B2.out.trans (b3.mono B2.out.size)
            clear b3
            go_wp2_with fail
            refine (HAB.out _).mono ?_
            rintro e w4 ⟨rfl, rfl⟩
            go_wp2_with fail
            refine (HVT.out _).mono ?_
            rintro e w5 ⟨rfl, b5⟩
            have B5 : Hid (Below wr.heap.size wr w5) := B3.out.trans (b5.mono B3.out.size)
            clear b5
            go_wp2_with fail
            refine (HWI.out _).mono ?_
            rintro e w6 ⟨rfl, rfl⟩
            have O5 : Hid (OwnV w5 w.heap.size v0 (vts n (ms.take k)) ∧ Below w.heap.size w w5) := ⟨OwnV.below HZ.out.2.1 B5.out, HZ.out.2.2.trans (B5.out.mono HZ.out.2.2.size)⟩
            clear HZ
            go_wp2_with (at_builtin; go_must (refine list_v (by rfl) _ _ 55 (by rfl) i0 Tryz.underlying55 hi0 hz0 hz1 hz2 w.heap.size w w5 _ _ (.iface 94 (.agg #[.int .i64 (i : Int), .int .i64 x.vw, .int .i64 x.sq, .string x.dg])) (by rfl) (by rfl) O5.out.1 O5.out.2 O5.out.2.size (by rfl) HLN.out ?_; intro v7 w7 o7 b7))
            exact ⟨⟨k + 1, by omega, by rw [HMS.out], by go_num, ⟨HG2.out, by rw [HST.out]; exact o7, b7⟩⟩, by simp [intOf]; omega⟩
          · have hd2 : decide (msk ms k < 2 ^ i) = false := decide_eq_false hlt2
            have HF : Hid (qvB n ms = false) := qv_not hx (fun hh => hlt2 (by have := hh.2; unfold frn at this; rw [hfi, Int.toNat_natCast] at this; exact this))
            rw [hd2] at HAB
            clear hlt2 hd2 hx HV
            generalize msk ms k = h at HAB HWI
            go_wp2_with fail
            refine HVO.out.mono ?_
            rintro e w2 ⟨rfl, b2⟩
            have B2 : Hid (Below wr.heap.size wr w2) := (HBW.out _).trans (b2.mono (HBW.out _).size)
            clear b2
            go_wp2_with fail
            refine (HVT.out _).mono ?_
            rintro e w3 ⟨rfl, b3⟩
            have B3 : Hid (Below wr.heap.size wr w3) := B2.out.trans (b3.mono B2.out.size)
            clear b3
            go_wp2_with fail
            refine (HAB.out _).mono ?_
            rintro e w4 ⟨rfl, rfl⟩
            have B4 : Hid (Below w.heap.size w w3) := HZ.out.2.2.trans (B3.out.mono HZ.out.2.2.size)
            go_wp2_with fail
            go_ret2
            exact ⟨_, ret_vb HF.out.symm, fun hh => absurd (HF.out.symm.trans hh) (by decide), B4.out⟩
        · have h4 : x.kd = 4 := hkd.resolve_left h2
          have HVQ : votV n x = .iface 102 (.agg #[.int .i64 x.fr, .int .i64 x.vw, .string x.bd]) := by unfold votV; rw [if_pos hs, if_neg h2, if_pos h4]; rfl
          clear hs hkd h2 h4
          have HV : Hid (votV n x = .iface 102 (.agg #[.int .i64 x.fr, .int .i64 x.vw, .string x.bd])) := HVQ
          rw [HV.out] at HVO
          have HVT : Hid (∀ W, Calls Tryz.prog 157 #[.agg #[.int .i64 x.fr, .int .i64 x.vw, .string x.bd]] W fun e w' => e = .returned (.int .i64 (i : Int)) ∧ Below W.heap.size W w') := fun W => by have := voterC_any x W; rw [hfi] at this ⊢; exact this
          rw [hfi] at HVO HVT
          clear HVQ
          by_cases hlt2 : msk ms k < 2 ^ i
          · have hd2 : decide (msk ms k < 2 ^ i) = true := decide_eq_true hlt2
            have HG2 : Hid (GoodTo n ms (k + 1)) := HZ.out.1.succ hx hv (by unfold frn; rw [hfi, Int.toNat_natCast]; exact hlt2)
            have HMS : Hid (msk ms (k + 1) = msk ms k ||| 2 ^ i) := by show _ = _; rw [msk_step hx]; unfold frn; rw [hfi, Int.toNat_natCast]
            have HST : Hid (vts n (ms.take (k + 1)) = vts n (ms.take k) ++ [.iface 102 (.agg #[.int .i64 (i : Int), .int .i64 x.vw, .string x.bd])]) := by show _ = _; rw [vts_step hx, HV.out]; rw [hfi]
            rw [hd2] at HAB
            clear hlt2 hd2 hx HV
            generalize msk ms k = h at HAB HWI HMS
            go_wp2_with fail
            refine HVO.out.mono ?_
            rintro e w2 ⟨rfl, b2⟩
            have B2 : Hid (Below wr.heap.size wr w2) := (HBW.out _).trans (b2.mono (HBW.out _).size)
            clear b2
            go_wp2_with fail
            refine (HVT.out _).mono ?_
            rintro e w3 ⟨rfl, b3⟩
            have B3 : Hid (Below wr.heap.size wr w3) := B2.out.trans (b3.mono B2.out.size)
            clear b3
            go_wp2_with fail
            refine (HAB.out _).mono ?_
            rintro e w4 ⟨rfl, rfl⟩
            go_wp2_with fail
            refine (HVT.out _).mono ?_
            rintro e w5 ⟨rfl, b5⟩
            have B5 : Hid (Below wr.heap.size wr w5) := B3.out.trans (b5.mono B3.out.size)
            clear b5
            go_wp2_with fail
            refine (HWI.out _).mono ?_
            rintro e w6 ⟨rfl, rfl⟩
            have O5 : Hid (OwnV w5 w.heap.size v0 (vts n (ms.take k)) ∧ Below w.heap.size w w5) := ⟨OwnV.below HZ.out.2.1 B5.out, HZ.out.2.2.trans (B5.out.mono HZ.out.2.2.size)⟩
            clear HZ
            go_wp2_with (at_builtin; go_must (refine list_v (by rfl) _ _ 55 (by rfl) i0 Tryz.underlying55 hi0 hz0 hz1 hz2 w.heap.size w w5 _ _ (.iface 102 (.agg #[.int .i64 (i : Int), .int .i64 x.vw, .string x.bd])) (by rfl) (by rfl) O5.out.1 O5.out.2 O5.out.2.size (by rfl) HLN.out ?_; intro v7 w7 o7 b7))
            exact ⟨⟨k + 1, by omega, by rw [HMS.out], by go_num, ⟨HG2.out, by rw [HST.out]; exact o7, b7⟩⟩, by simp [intOf]; omega⟩
          · have hd2 : decide (msk ms k < 2 ^ i) = false := decide_eq_false hlt2
            have HF : Hid (qvB n ms = false) := qv_not hx (fun hh => hlt2 (by have := hh.2; unfold frn at this; rw [hfi, Int.toNat_natCast] at this; exact this))
            rw [hd2] at HAB
            clear hlt2 hd2 hx HV
            generalize msk ms k = h at HAB HWI
            go_wp2_with fail
            refine HVO.out.mono ?_
            rintro e w2 ⟨rfl, b2⟩
            have B2 : Hid (Below wr.heap.size wr w2) := (HBW.out _).trans (b2.mono (HBW.out _).size)
            clear b2
            go_wp2_with fail
            refine (HVT.out _).mono ?_
            rintro e w3 ⟨rfl, b3⟩
            have B3 : Hid (Below wr.heap.size wr w3) := B2.out.trans (b3.mono B2.out.size)
            clear b3
            go_wp2_with fail
            refine (HAB.out _).mono ?_
            rintro e w4 ⟨rfl, rfl⟩
            have B4 : Hid (Below w.heap.size w w3) := HZ.out.2.2.trans (B3.out.mono HZ.out.2.2.size)
            go_wp2_with fail
            go_ret2
            exact ⟨_, ret_vb HF.out.symm, fun hh => absurd (HF.out.symm.trans hh) (by decide), B4.out⟩
    · obtain rfl : k = ms.length := by omega
      have HIQ : Hid (∀ W, Calls Tryz.prog 52 #[.int .u8 (msk ms ms.length : Int), .int .i64 n] W fun e w' => e = .returned (.bool (qvB n ms)) ∧ W = w') := fun W => by rw [qv_end HZ.out.1]; exact isQuorum_any _ n W hmk
      have HO : Hid (OwnV wr w.heap.size v0 (vts n ms)) := by have := HZ.out.2.1; rw [List.take_length] at this; exact this
      obtain ⟨q, HQ⟩ : ∃ q, Hid (qvB n ms = q) := ⟨_, rfl⟩
      rw [HQ.out] at HIQ
      go_wp2_with fail
      refine (HIQ.out _).mono ?_
      rintro e w2 ⟨rfl, rfl⟩
      go_wp2_with fail
      go_ret2
      exact ⟨_, ret_vb HQ.out.symm, fun _ => HO.out, HZ.out.2.2⟩
end Go.Proofs.YtddmdnljfnimbaaGreatDoor.Vt
