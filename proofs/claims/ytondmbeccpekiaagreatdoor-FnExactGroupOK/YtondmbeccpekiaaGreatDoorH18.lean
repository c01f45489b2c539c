/- Texts put together: Vq, Rw, Rm. -/
import Derived.Test.YtondmbeccpekiaaGreatDoorH17
import Derived.Maps.AppendAt
import Derived.Test.YtondmbeccpekiaaGreatDoorH9
import Derived.Deep.Slices
import Derived.Deep.Fields23
import Derived.OpenShut
import Derived.Deep.RegionLaw
import Derived.BigRegion
import Derived.Test.YtondmbeccpekiaaGreatDoorH15
/- A quorum of votes: the program's walk. -/
namespace Go.Proofs.YtondmbeccpekiaaGreatDoor.Vt
open Go.RowKit Go.Proofs.YtondmbeccpekiaaGreatDoor.Gm Go.Proofs.YtondmbeccpekiaaGreatDoor.Si Go.Proofs.YtondmbeccpekiaaGreatDoor.Tm Go.Proofs.YtondmbeccpekiaaGreatDoor.Ms Go.Proofs.YtondmbeccpekiaaGreatDoor.Sh
open Go.Proofs.YtondmbeccpekiaaGreatDoor.Qm (qOut)
open Go.Proofs.YtondmbeccpekiaaGreatDoor.Rg (RowG RowG.slice RowG.at lt_at mem_at blk_cell bel_new)

theorem ret_vb {v : Value} {a b : Bool} (h : a = b) : Ending.returned (.tuple #[v, .bool a]) = .returned (.tuple #[v, .bool b]) := by rw [h]
theorem list_v {P : Program} {ops : Array Oper} {rest : List Oper} {o : Oper} {a : Act} {Q : Exit → Act → World → Prop} (hgd : o.guard = none) (s x : Operand) (t : TypeId)
    (ho : o.op = .call { callee := .builtin .append, args := #[s, x], argTypes := #[t, t] }) (i : TypeInfo) (ht : P.underlying t = some (.slice 199)) (hi : P.info? 199 = some i) (hz : i.zero = some .nilIface)
    (hsize : i.size = 1) (hby : i.bytes = 16) (B : Nat) (w0 W : World) (v : Value) (ts : List Value) (z : Value) (hzc : z.oneCell' = true) (hs : a.eval s = v) (hown : OwnV W B v ts) (hg0 : Below B w0 W) (hB : B ≤ W.heap.size)
    (hx : a.eval x = .slice (some ⟨W.heap.size, 0, none⟩) 1 1) (hlen : ts.length ≤ 1048576)
    (h : ∀ v' w', OwnV w' B v' (ts ++ [z]) → Below B w0 w' → wpList P ops Q rest (a.put o.dst v') w') : wpList P ops Q (o :: rest) a (W.alloc (.cells #[z] 199)) := by
  have hown' : OwnV (W.alloc (.cells #[z] 199)) B v ts := hown.below (bel_new _ _)
  refine wpList_append_own_at (P := P) _ hgd s x t ho B 199 i .nilIface 1 16 ht hi hz hsize hby rfl (by decide) v ts.length _ hs hown' ⟨W.heap.size, 0, none⟩ 1 1 [z] hx (by simp) (cell_one_new _ _ _) ?_ (by unfold maxLen; omega) (by omega) (by simp; omega) ?_
  · intro c hc
    simp at hc
    subst hc
    exact hzc
  · intro v' w' h1 h2 h3 h4
    exact h v' w' (by unfold OwnV; simpa using h1) ((hg0.alloc hB _).grown h2 (by simp; omega) (fun k hk => (hown'.lt k hk).1))
set_option maxRecDepth 100000 in
set_option maxHeartbeats 1600000 in
theorem quorumVotes_any (n : Int) (v : Value) (ms : List Mg) (w : World) (h : Row w v ms) (hl : ms.length ≤ 1048576) (hK : KTab w) (hp : 0 < w.heap.size) :
    Calls Tryz.prog 145 #[.int .i64 n, v] w fun e w' => ∃ u, e = .returned (.tuple #[u, .bool (qvB n ms)]) ∧ (qvB n ms = true → OwnV w' w.heap.size u (vts n ms)) ∧ Below w.heap.size w w' := by
  obtain ⟨i0, hi0, hz0, hz1, hz2⟩ := info_parts info_v
  have HR : Hid (Row w v ms) := h
  obtain ⟨a, cap, rfl⟩ := RowG.slice h
  have GK : Hid (KTab w ∧ 0 < w.heap.size) := ⟨hK, hp⟩
  clear h hK hp
  go_enter Tryz.func145, Tryz.ntmps145
  go_wp2_with fail
  go_loopw [6, 7, 13] (fun hd b i wr => ∃ k : Nat, k ≤ ms.length ∧ hd = .int .u8 (msk ms k : Int) ∧ i = .int .i64 k ∧ Hid (GoodTo n ms k ∧ OwnV wr w.heap.size b (vts n (ms.take k)) ∧ Below w.heap.size w wr)) (fun _ _ i _ => ms.length - (intOf i).toNat)
  case atStart => exact ⟨0, by omega, rfl, rfl, ⟨GoodTo.zero n ms, OwnV.nil _ _, Below.refl _ _⟩⟩
  case round =>
    obtain ⟨k, hk, rfl, rfl, HZ⟩ := hrel
    obtain ⟨v0, rfl⟩ : ∃ v0, v0 = u7 := ⟨_, rfl⟩
    have hmk : msk ms k < 128 := (good_msk HZ.out.1 hk).1
    by_cases hlt : k < ms.length
    · obtain ⟨x, hx⟩ := Rg.get_at hlt
      obtain ⟨b, off, rfl, hbl, c0, c1, c2, c3, c4, c5, c6⟩ := RowG.at (HR.out.below HZ.out.2.2) rfl hx
      have HBW : Hid (∀ o, Below wr.heap.size wr (wr.alloc o)) := fun o => bel_new wr o
      have HVO : Hid (Calls Tryz.prog 149 #[.int .i64 n, .agg #[.int .i64 x.kd, .int .i64 x.vw, .int .i64 x.sq, .int .i64 x.fr, .string x.dg, .string x.bd, .string x.mc]] (wr.alloc (.cells #[.int .i64 x.kd, .int .i64 x.vw, .int .i64 x.sq, .int .i64 x.fr, .string x.dg, .string x.bd, .string x.mc] 59)) fun e w' => e = .returned (votV n x) ∧ Below (wr.alloc (.cells #[.int .i64 x.kd, .int .i64 x.vw, .int .i64 x.sq, .int .i64 x.fr, .string x.dg, .string x.bd, .string x.mc] 59)).heap.size (wr.alloc (.cells #[.int .i64 x.kd, .int .i64 x.vw, .int .i64 x.sq, .int .i64 x.fr, .string x.dg, .string x.bd, .string x.mc] 59)) w') := by
        have b := HZ.out.2.2.alloc HZ.out.2.2.size (.cells #[.int .i64 x.kd, .int .i64 x.vw, .int .i64 x.sq, .int .i64 x.fr, .string x.dg, .string x.bd, .string x.mc] 59)
        exact voteOf_any n x _ (GK.out.1.below b GK.out.2) (Nat.lt_of_lt_of_le GK.out.2 b.size)
      have HLN : Hid ((vts n (ms.take k)).length ≤ 1048576) := by show _ ≤ _; unfold vts; rw [List.length_map, List.length_take]; omega
      cases hv : isV n x with
      | false =>
        have HF : Hid (qvB n ms = false) := qv_not hx (fun hh => by rw [hv] at hh; cases hh.1)
        have HN : Hid (votV n x = .nilIface) := by
          show _ = _
          unfold isV at hv
          unfold votV
          cases hs : sg n x with
          | false => rfl
          | true =>
            rw [hs, Bool.true_and, Bool.or_eq_false_iff, beq_eq_false_iff_ne, beq_eq_false_iff_ne] at hv
            rw [if_pos rfl, if_neg hv.1, if_neg hv.2]
        rw [HN.out] at HVO
        clear hv hx HLN HN
        go_wp2_with fail
        refine HVO.out.mono ?_
        rintro e w2 ⟨rfl, b2⟩
        have B2 : Hid (Below w.heap.size w w2) := HZ.out.2.2.trans (((HBW.out _).trans (b2.mono (HBW.out _).size)).mono HZ.out.2.2.size)
        clear b2
        go_wp2_with fail
        go_ret2
        exact ⟨_, ret_vb HF.out.symm, fun hh => absurd (HF.out.symm.trans hh) (by decide), B2.out⟩
      | true =>
        obtain ⟨_, i, hfi, hi7⟩ := isV_from hv
        have HAB : Hid (∀ W, Calls Tryz.prog 150 #[.int .u8 (msk ms k : Int), .int .i64 (i : Int)] W fun e w' => e = .returned (.bool (decide (msk ms k < 2 ^ i))) ∧ W = w') := fun W => allBelow_any _ _ W hmk hi7
        have HWI : Hid (∀ W, Calls Tryz.prog 151 #[.int .u8 (msk ms k : Int), .int .i64 (i : Int)] W fun e w' => e = .returned (.int .u8 ((msk ms k ||| 2 ^ i : Nat) : Int)) ∧ W = w') := fun W => with_any _ _ W hmk hi7
        have hv' := hv
        unfold isV at hv'
        rw [Bool.and_eq_true, Bool.or_eq_true, beq_iff_eq, beq_iff_eq] at hv'
        obtain ⟨hs, hkd⟩ := hv'
        by_cases h2 : x.kd = 2
        · have HVQ : votV n x = .iface 226 (.agg #[.int .i64 x.fr, .int .i64 x.vw, .int .i64 x.sq, .string x.dg]) := by unfold votV; rw [if_pos hs, if_pos h2]; rfl
          clear hs hkd h2
          have HV : Hid (votV n x = .iface 226 (.agg #[.int .i64 x.fr, .int .i64 x.vw, .int .i64 x.sq, .string x.dg])) := HVQ
          rw [HV.out] at HVO
          have HVT : Hid (∀ W, Calls Tryz.prog 221 #[.agg #[.int .i64 x.fr, .int .i64 x.vw, .int .i64 x.sq, .string x.dg]] W fun e w' => e = .returned (.int .i64 (i : Int)) ∧ Below W.heap.size W w') := fun W => by have := voterP_any x W; rw [hfi] at this ⊢; exact this
          rw [hfi] at HVO HVT
          clear HVQ
          by_cases hlt2 : msk ms k < 2 ^ i
          · have hd2 : decide (msk ms k < 2 ^ i) = true := decide_eq_true hlt2
            have HG2 : Hid (GoodTo n ms (k + 1)) := HZ.out.1.succ hx hv (by unfold frn; rw [hfi, Int.toNat_natCast]; exact hlt2)
            have HMS : Hid (msk ms (k + 1) = msk ms k ||| 2 ^ i) := by show _ = _; rw [msk_step hx]; unfold frn; rw [hfi, Int.toNat_natCast]
            have HST : Hid (vts n (ms.take (k + 1)) = vts n (ms.take k) ++ [.iface 226 (.agg #[.int .i64 (i : Int), .int .i64 x.vw, .int .i64 x.sq, .string x.dg])]) := by show _ = _; rw [vts_step hx, HV.out]; rw [hfi]
            rw [hd2] at HAB
            clear hlt2 hd2 hx HV
            generalize msk ms k = h at HAB HWI HMS
            go_wp2_with fail
            refine HVO.out.mono ?_
            rintro e w2 ⟨rfl, b2⟩
            have B2 : Hid (Below wr.heap.size wr w2) := (HBW.out _).trans (b2.mono (HBW.out _).size)
            clear b2
            go_wp2_with fail
            refine (HVT.out _).mono ?_
            rintro e w3 ⟨rfl, b3⟩
            have B3 : Hid (Below wr.heap.size wr w3) := B2.out.trans (b3.mono B2.out.size)
            clear b3
            go_wp2_with fail
            refine (HAB.out _).mono ?_
            rintro e w4 ⟨rfl, rfl⟩
            go_wp2_with fail
            refine (HVT.out _).mono ?_
            rintro e w5 ⟨rfl, b5⟩
            have B5 : Hid (Below wr.heap.size wr w5) := B3.out.trans (b5.mono B3.out.size)
            clear b5
            go_wp2_with fail
            refine (HWI.out _).mono ?_
            rintro e w6 ⟨rfl, rfl⟩
            have O5 : Hid (OwnV w5 w.heap.size v0 (vts n (ms.take k)) ∧ Below w.heap.size w w5) := ⟨OwnV.below HZ.out.2.1 B5.out, HZ.out.2.2.trans (B5.out.mono HZ.out.2.2.size)⟩
            clear HZ
            go_wp2_with (at_builtin; go_must (refine list_v (by rfl) _ _ 191 (by rfl) i0 Tryz.underlying191 hi0 hz0 hz1 hz2 w.heap.size w w5 _ _ (.iface 226 (.agg #[.int .i64 (i : Int), .int .i64 x.vw, .int .i64 x.sq, .string x.dg])) (by rfl) (by rfl) O5.out.1 O5.out.2 O5.out.2.size (by rfl) HLN.out ?_; intro v7 w7 o7 b7))
            exact ⟨⟨k + 1, by omega, by rw [HMS.out], by go_num, ⟨HG2.out, by rw [HST.out]; exact o7, b7⟩⟩, by simp [intOf]; omega⟩
          · have hd2 : decide (msk ms k < 2 ^ i) = false := decide_eq_false hlt2
            have HF : Hid (qvB n ms = false) := qv_not hx (fun hh => hlt2 (by have := hh.2; unfold frn at this; rw [hfi, Int.toNat_natCast] at this; exact this))
            rw [hd2] at HAB
            clear hlt2 hd2 hx HV
            generalize msk ms k = h at HAB HWI
            go_wp2_with fail
            refine HVO.out.mono ?_
            rintro e w2 ⟨rfl, b2⟩
            have B2 : Hid (Below wr.heap.size wr w2) := (HBW.out _).trans (b2.mono (HBW.out _).size)
            clear b2
            go_wp2_with fail
            refine (HVT.out _).mono ?_
            rintro e w3 ⟨rfl, b3⟩
            have B3 : Hid (Below wr.heap.size wr w3) := B2.out.trans (b3.mono B2.out.size)
            clear b3
            go_wp2_with fail
            refine (HAB.out _).mono ?_
            rintro e w4 ⟨rfl, rfl⟩
            have B4 : Hid (Below w.heap.size w w3) := HZ.out.2.2.trans (B3.out.mono HZ.out.2.2.size)
            go_wp2_with fail
            go_ret2
            exact ⟨_, ret_vb HF.out.symm, fun hh => absurd (HF.out.symm.trans hh) (by decide), B4.out⟩
        · have h4 : x.kd = 4 := hkd.resolve_left h2
          have HVQ : votV n x = .iface 229 (.agg #[.int .i64 x.fr, .int .i64 x.vw, .string x.bd]) := by unfold votV; rw [if_pos hs, if_neg h2, if_pos h4]; rfl
          clear hs hkd h2 h4
          have HV : Hid (votV n x = .iface 229 (.agg #[.int .i64 x.fr, .int .i64 x.vw, .string x.bd])) := HVQ
          rw [HV.out] at HVO
          have HVT : Hid (∀ W, Calls Tryz.prog 222 #[.agg #[.int .i64 x.fr, .int .i64 x.vw, .string x.bd]] W fun e w' => e = .returned (.int .i64 (i : Int)) ∧ Below W.heap.size W w') := fun W => by have := voterC_any x W; rw [hfi] at this ⊢; exact this
          rw [hfi] at HVO HVT
          clear HVQ
          by_cases hlt2 : msk ms k < 2 ^ i
          · have hd2 : decide (msk ms k < 2 ^ i) = true := decide_eq_true hlt2
            have HG2 : Hid (GoodTo n ms (k + 1)) := HZ.out.1.succ hx hv (by unfold frn; rw [hfi, Int.toNat_natCast]; exact hlt2)
            have HMS : Hid (msk ms (k + 1) = msk ms k ||| 2 ^ i) := by show _ = _; rw [msk_step hx]; unfold frn; rw [hfi, Int.toNat_natCast]
            have HST : Hid (vts n (ms.take (k + 1)) = vts n (ms.take k) ++ [.iface 229 (.agg #[.int .i64 (i : Int), .int .i64 x.vw, .string x.bd])]) := by show _ = _; rw [vts_step hx, HV.out]; rw [hfi]
            rw [hd2] at HAB
            clear hlt2 hd2 hx HV
            generalize msk ms k = h at HAB HWI HMS
            go_wp2_with fail
            refine HVO.out.mono ?_
            rintro e w2 ⟨rfl, b2⟩
            have B2 : Hid (Below wr.heap.size wr w2) := (HBW.out _).trans (b2.mono (HBW.out _).size)
            clear b2
            go_wp2_with fail
            refine (HVT.out _).mono ?_
            rintro e w3 ⟨rfl, b3⟩
            have B3 : Hid (Below wr.heap.size wr w3) := B2.out.trans (b3.mono B2.out.size)
            clear b3
            go_wp2_with fail
            refine (HAB.out _).mono ?_
            rintro e w4 ⟨rfl, rfl⟩
            go_wp2_with fail
            refine (HVT.out _).mono ?_
            rintro e w5 ⟨rfl, b5⟩
            have B5 : Hid (Below wr.heap.size wr w5) := B3.out.trans (b5.mono B3.out.size)
            clear b5
            go_wp2_with fail
            refine (HWI.out _).mono ?_
            rintro e w6 ⟨rfl, rfl⟩
            have O5 : Hid (OwnV w5 w.heap.size v0 (vts n (ms.take k)) ∧ Below w.heap.size w w5) := ⟨OwnV.below HZ.out.2.1 B5.out, HZ.out.2.2.trans (B5.out.mono HZ.out.2.2.size)⟩
            clear HZ
            go_wp2_with (at_builtin; go_must (refine list_v (by rfl) _ _ 191 (by rfl) i0 Tryz.underlying191 hi0 hz0 hz1 hz2 w.heap.size w w5 _ _ (.iface 229 (.agg #[.int .i64 (i : Int), .int .i64 x.vw, .string x.bd])) (by rfl) (by rfl) O5.out.1 O5.out.2 O5.out.2.size (by rfl) HLN.out ?_; intro v7 w7 o7 b7))
            exact ⟨⟨k + 1, by omega, by rw [HMS.out], by go_num, ⟨HG2.out, by rw [HST.out]; exact o7, b7⟩⟩, by simp [intOf]; omega⟩
          · have hd2 : decide (msk ms k < 2 ^ i) = false := decide_eq_false hlt2
            have HF : Hid (qvB n ms = false) := qv_not hx (fun hh => hlt2 (by have := hh.2; unfold frn at this; rw [hfi, Int.toNat_natCast] at this; exact this))
            rw [hd2] at HAB
            clear hlt2 hd2 hx HV
            generalize msk ms k = h at HAB HWI
            go_wp2_with fail
            refine HVO.out.mono ?_
            rintro e w2 ⟨rfl, b2⟩
            have B2 : Hid (Below wr.heap.size wr w2) := (HBW.out _).trans (b2.mono (HBW.out _).size)
            clear b2
            go_wp2_with fail
            refine (HVT.out _).mono ?_
            rintro e w3 ⟨rfl, b3⟩
            have B3 : Hid (Below wr.heap.size wr w3) := B2.out.trans (b3.mono B2.out.size)
            clear b3
            go_wp2_with fail
            refine (HAB.out _).mono ?_
            rintro e w4 ⟨rfl, rfl⟩
            have B4 : Hid (Below w.heap.size w w3) := HZ.out.2.2.trans (B3.out.mono HZ.out.2.2.size)
            go_wp2_with fail
            go_ret2
            exact ⟨_, ret_vb HF.out.symm, fun hh => absurd (HF.out.symm.trans hh) (by decide), B4.out⟩
    · obtain rfl : k = ms.length := by omega
      have HIQ : Hid (∀ W, Calls Tryz.prog 166 #[.int .u8 (msk ms ms.length : Int), .int .i64 n] W fun e w' => e = .returned (.bool (qvB n ms)) ∧ W = w') := fun W => by rw [qv_end HZ.out.1]; exact isQuorum_any _ n W hmk
      have HO : Hid (OwnV wr w.heap.size v0 (vts n ms)) := by have := HZ.out.2.1; rw [List.take_length] at this; exact this
      obtain ⟨q, HQ⟩ : ∃ q, Hid (qvB n ms = q) := ⟨_, rfl⟩
      rw [HQ.out] at HIQ
      go_wp2_with fail
      refine (HIQ.out _).mono ?_
      rintro e w2 ⟨rfl, rfl⟩
      go_wp2_with fail
      go_ret2
      exact ⟨_, ret_vb HQ.out.symm, fun _ => HO.out, HZ.out.2.2⟩
end Go.Proofs.YtondmbeccpekiaaGreatDoor.Vt

/- Readings in a slice: read, measured, copied, compared. -/
namespace Go.Proofs.YtondmbeccpekiaaGreatDoor.Rw
open Go.RowKit Go.Proofs.YtondmbeccpekiaaGreatDoor.Sl Go.Proofs.YtondmbeccpekiaaGreatDoor.Ap Go.Proofs.YtondmbeccpekiaaGreatDoor.Tx

structure Rd where
  f : Int
  x : Int
  m : ByteArray
instance : Inhabited Rd := ⟨⟨0, 0, ⟨#[]⟩⟩⟩
def rn (rs : List Rd) (i : Nat) : Rd := rs.getD i ⟨0, 0, ⟨#[]⟩⟩
theorem rn_at {rs : List Rd} {i : Nat} (h : i < rs.length) : rs[i]? = some (rn rs i) := by
  unfold rn; rw [List.getD_eq_getElem?_getD, List.getElem?_eq_getElem h]; rfl
def CellsR (w : World) (b off : Nat) (rs : List Rd) : Prop :=
  ∀ i, i < rs.length → w.cell? ⟨b, off + i * 3, none⟩ = some (.int .i64 (rn rs i).f) ∧ w.cell? ⟨b, off + i * 3 + 1, none⟩ = some (.int .i64 (rn rs i).x) ∧ w.cell? ⟨b, off + i * 3 + 2, none⟩ = some (.string (rn rs i).m)
def RowR (w : World) (v : Value) (rs : List Rd) : Prop :=
  ∃ a cap, v = .slice a rs.length cap ∧ (rs = [] ∨ ∃ b off, a = some ⟨b, off, none⟩ ∧ rs.length ≤ cap ∧ b < w.heap.size ∧ CellsR w b off rs)
theorem CellsR.below {w w' : World} {b off : Nat} {rs : List Rd} (h : CellsR w b off rs) (hb : Below w.heap.size w w') (hlt : b < w.heap.size) : CellsR w' b off rs := fun i hi => by
  obtain ⟨h1, h2, h3⟩ := h i hi
  exact ⟨(hb.cell (p := ⟨b, _, none⟩) hlt).trans h1, (hb.cell (p := ⟨b, _, none⟩) hlt).trans h2, (hb.cell (p := ⟨b, _, none⟩) hlt).trans h3⟩
theorem RowR.below {w w' : World} {v : Value} {rs : List Rd} (h : RowR w v rs) (hb : Below w.heap.size w w') : RowR w' v rs := by
  obtain ⟨a, cap, rfl, h⟩ := h
  refine ⟨a, cap, rfl, ?_⟩
  rcases h with h | ⟨b, off, rfl, hc, hlt, h⟩
  · exact .inl h
  · exact .inr ⟨b, off, rfl, hc, Nat.lt_of_lt_of_le hlt hb.size, h.below hb hlt⟩
def Cop (rs : List Rd) (k : Nat) (A : Array Value) : Prop := A.size = rs.length * 3 ∧ ∀ j, j < k → A[j * 3]? = some (.int .i64 (rn rs j).f) ∧ A[j * 3 + 1]? = some (.int .i64 (rn rs j).x) ∧ A[j * 3 + 2]? = some (.string (rn rs j).m)
end Go.Proofs.YtondmbeccpekiaaGreatDoor.Rw
namespace Go.Proofs.YtondmbeccpekiaaGreatDoor.Op
open Go.ChangeShapes Go.WideShapes Go.ChangeAt Go.RowKit Go.Deep
end Go.Proofs.YtondmbeccpekiaaGreatDoor.Op

/- ReadingMac, of the program and of the specification. -/
namespace Go.Proofs.YtondmbeccpekiaaGreatDoor.Rm
open Go.RowKit Go.Proofs.YtondmbeccpekiaaGreatDoor.Sl Go.Proofs.YtondmbeccpekiaaGreatDoor.By Go.Proofs.YtondmbeccpekiaaGreatDoor.Ap Go.Proofs.YtondmbeccpekiaaGreatDoor.Tx Go.Proofs.YtondmbeccpekiaaGreatDoor.Sh Go.Proofs.YtondmbeccpekiaaGreatDoor.Ho Go.Proofs.YtondmbeccpekiaaGreatDoor.Mr

def inR (n a b : Int) : Bool := decide (a ≤ n) && decide (n ≤ b)
theorem ret_bool {a b : Bool} (h : a = b) : Ending.returned (.bool a) = .returned (.bool b) := by rw [h]
theorem inR_nat {n a b : Int} (h : inR n a b = true) : a ≤ n ∧ n ≤ b := by unfold inR at h; simpa using h
theorem within_any (n a b : Int) (w : World) : Calls Tryz.prog 73 #[.int .i64 n, .int .i64 a, .int .i64 b] w fun e w' => e = .returned (.bool (inR n a b)) ∧ w = w' := by
  by_cases h1 : a ≤ n
  · by_cases h2 : n ≤ b
    · have HE : Hid (inR n a b = true) := by show _ = _; unfold inR; rw [decide_eq_true h1, decide_eq_true h2]; rfl
      go_enter Tryz.func73, Tryz.ntmps73
      go_wp2
      go_ret
      exact ⟨ret_bool HE.out.symm, rfl⟩
    · have HE : Hid (inR n a b = false) := by show _ = _; unfold inR; rw [decide_eq_false h2, Bool.and_false]
      go_enter Tryz.func73, Tryz.ntmps73
      go_wp2
      go_ret
      exact ⟨ret_bool HE.out.symm, rfl⟩
  · have HE : Hid (inR n a b = false) := by show _ = _; unfold inR; rw [decide_eq_false h1, Bool.false_and]
    go_enter Tryz.func73, Tryz.ntmps73
    go_wp2
    go_ret
    exact ⟨ret_bool HE.out.symm, rfl⟩
theorem l01In_any (n a b : Int) (w : World) : Calls Tryz.prog 29 #[.int .i64 n, .int .i64 a, .int .i64 b] w fun e w' => e = .returned (.bool (inR n a b)) ∧ w = w' := by
  by_cases h1 : a ≤ n
  · by_cases h2 : n ≤ b
    · have HE : Hid (inR n a b = true) := by show _ = _; unfold inR; rw [decide_eq_true h1, decide_eq_true h2]; rfl
      go_enter Tryz.func29, Tryz.ntmps29
      go_wp2
      go_ret
      exact ⟨ret_bool HE.out.symm, rfl⟩
    · have HE : Hid (inR n a b = false) := by show _ = _; unfold inR; rw [decide_eq_false h2, Bool.and_false]
      go_enter Tryz.func29, Tryz.ntmps29
      go_wp2
      go_ret
      exact ⟨ret_bool HE.out.symm, rfl⟩
  · have HE : Hid (inR n a b = false) := by show _ = _; unfold inR; rw [decide_eq_false h1, Bool.false_and]
    go_enter Tryz.func29, Tryz.ntmps29
    go_wp2
    go_ret
    exact ⟨ret_bool HE.out.symm, rfl⟩
theorem nodeOK_any (n : Int) (w : World) : Calls Tryz.prog 102 #[.int .i64 n] w fun e w' => e = .returned (.bool (inR n 0 6)) ∧ w = w' := by
  go_enter Tryz.func102, Tryz.ntmps102
  go_wp2_with (go_at_call 73; refine (within_any n 0 6 _).mono ?_; rintro e w' ⟨rfl, rfl⟩)
  go_ret
  exact ⟨rfl, rfl⟩
theorem ret_sc {s t : ByteArray} {a b : Int} (h : s = t ∧ a = b) : Ending.returned (.tuple #[.string s, .int .i64 a]) = .returned (.tuple #[.string t, .int .i64 b]) := by rw [h.1, h.2]
def okM (f x : Int) : Bool := inR f 0 6 && inR x 0 1000000000
def rmOut (f x : Int) : ByteArray := if okM f x then rmk f.toNat x else ⟨#[]⟩
end Go.Proofs.YtondmbeccpekiaaGreatDoor.Rm
