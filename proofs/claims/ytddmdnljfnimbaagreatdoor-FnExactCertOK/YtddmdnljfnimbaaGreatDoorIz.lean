/- Insertion as the values come: impl.insertSorted. -/
import Derived.Test.YtddmdnljfnimbaaGreatDoorAi
import Derived.Test.YtddmdnljfnimbaaGreatDoorQt
import Derived.BigQuiet
import Derived.Deep.RegionLaw
import Derived.BigRegion
namespace Go.Proofs.YtddmdnljfnimbaaGreatDoor.Iz
open Go.RowKit Go.Proofs.YtddmdnljfnimbaaGreatDoor.Sl Go.Proofs.YtddmdnljfnimbaaGreatDoor.Is Go.Proofs.YtddmdnljfnimbaaGreatDoor.So

theorem swap2 {w : World} {g cap k : Nat} {ys : List Int} (h : BlkI w g cap ys) (hk : k + 1 < ys.length) :
    BlkI ((w.setCell ⟨g, k, none⟩ (.int .i64 (nth ys (k + 1)))).setCell ⟨g, k + 1, none⟩ (.int .i64 (nth ys k))) g cap (sw k ys) := by
  obtain ⟨cur, h1, h2, h3, h4, h5⟩ := h
  refine ⟨(cur.setIfInBounds k (.int .i64 (nth ys (k + 1)))).setIfInBounds (k + 1) (.int .i64 (nth ys k)), Joins.block_setCell (i := k + 1) (Joins.block_setCell (i := k) h1 _) _, by simpa using h2, by rw [sw_length]; exact h3, h4, fun i hi => ?_⟩
  rw [sw_length] at hi
  rw [Array.getElem?_setIfInBounds, sw_nth k ys i hk]
  by_cases e : k + 1 = i
  · rw [if_pos e, if_pos (by simp; omega), if_neg (by omega), if_pos e.symm]
  · rw [if_neg e, Array.getElem?_setIfInBounds]
    by_cases e2 : k = i
    · rw [if_pos e2, if_pos (by omega), if_pos e2.symm]
    · rw [if_neg e2, if_neg (fun x => e2 x.symm), if_neg (fun x => e x.symm)]
      exact h5 i hi
theorem val_eq {k : IntKind} {a b : Int} (h : a = b) : Value.int k a = .int k b := by rw [h]
set_option maxRecDepth 100000 in
set_option maxHeartbeats 1600000 in
theorem insertSorted_any (v : Value) (ys : List Int) (x : Int) (B : Nat) (w : World) (h : OwnI w B v ys) (hs : Asc ys.length ys) (hB : B ≤ w.heap.size) (hl : ys.length ≤ 1000) :
    Calls Tryz.prog 72 #[v, .int .i64 x] w fun e w' => ∃ v' zs, e = .returned v' ∧ OwnI w' B v' zs ∧ zs.Perm (ys ++ [x]) ∧ Asc zs.length zs ∧ v' ≠ .slice none 0 0 ∧ Below B w w' := by
  obtain ⟨i0, hi0, hz0, hz1, hz2⟩ := info_parts info3
  have HO : Hid (OwnI w B v ys ∧ Asc ys.length ys) := ⟨h, hs⟩
  clear h hs
  go_enter Tryz.func72, Tryz.ntmps72
  go_wp2_with (at_builtin; go_must (refine list_int1 (by rfl) _ _ 106 (by rfl) i0 Tryz.underlying106 hi0 hz0 hz1 hz2 B w w _ ys x (by rfl) HO.out.1 (Below.refl _ _) hB (by rfl) (by omega) ?_; intro v1 w1 o1 b1 hne))
  obtain ⟨g, cp, rfl⟩ := OwnI.some o1 hne
  obtain ⟨k1, _, hBg⟩ := BlkI.of o1
  have HL : Hid ((ys ++ [x]).length = ys.length + 1) := by show _ = _; simp
  have HA : Hid (Ins ys.length (ys.length + 1) (ys ++ [x])) := by
    intro p q h1 h2 h3
    have := HO.out.2 p q h1 (by omega)
    unfold nth at this ⊢
    rw [List.getD_eq_getElem?_getD, List.getD_eq_getElem?_getD, List.getElem?_append_left (by omega), List.getElem?_append_left (by omega)]
    rwa [List.getD_eq_getElem?_getD, List.getD_eq_getElem?_getD] at this
  have HK1 : Hid (BlkI w1 g cp (ys ++ [x]) ∧ Below B w w1) := ⟨k1, b1⟩
  clear o1 k1 b1 hne HO
  obtain ⟨n, HN⟩ : ∃ n, Hid (n = ys.length + 1) := ⟨_, rfl⟩
  have hn : n ≤ 1001 ∧ 0 < n := by rw [HN.out]; omega
  rw [show ys.length = n - 1 by rw [HN.out]; omega, Nat.sub_add_cancel hn.2] at HA
  rw [← HN.out] at HL
  rw [HL.out]
  obtain ⟨zs, HZ⟩ : ∃ zs, Hid (ys ++ [x] = zs) := ⟨_, rfl⟩
  rw [HZ.out] at HL HA HK1
  clear hl
  go_wp2_with fail
  go_loopw [5] (fun i wr => ∃ (k : Nat) (us : List Int), k < n ∧ i = .int .i64 k ∧ Hid (BlkI wr g cp us ∧ us.Perm zs ∧ Ins k n us ∧ Below B w wr)) (fun i _ => (intOf i).toNat)
  case atStart => exact ⟨n - 1, zs, by omega, val_eq (by omega), ⟨HK1.out.1, .refl _, HA.out, HK1.out.2⟩⟩
  case round =>
    clear HK1 HA
    obtain ⟨k, us, hk, rfl, HY⟩ := hrel
    have HU : Hid (us.length = n) := by show _ = _; rw [HY.out.2.1.length_eq, HL.out]
    by_cases hk0 : k = 0
    · subst hk0
      go_wp2_with fail
      go_quiet (fail)
      go_wp2_with fail
      go_ret
      refine ⟨_, us, rfl, ?_, by rw [HZ.out]; exact HY.out.2.1, by rw [HU.out]; exact HY.out.2.2.1.done (.inl rfl), by simp, below_n HY.out.2.2.2⟩
      have := BlkI.own (B := B) (HY.out.1.kept (w' := wr.drewN nq) rfl) hBg
      rwa [HU.out] at this
    · obtain ⟨j, rfl⟩ : ∃ j, k = j + 1 := ⟨k - 1, by omega⟩
      have c0 := (HY.out.1.cell (i := j) (by have := HU.out; omega)).1
      have c1 := (HY.out.1.cell (i := j + 1) (by have := HU.out; omega)).1
      have f0 := (HY.out.1.cell (i := j) (by have := HU.out; omega)).2
      have f1 := (HY.out.1.cell (i := j + 1) (by have := HU.out; omega)).2
      have q1 : (0 : Int) < (j : Int) + 1 := by omega
      have q2 : (j : Int) + 1 < (n : Int) := by omega
      have q3 : (j : Int) < (n : Int) := by omega
      have q4 : (0 : Int) ≤ (j : Int) + 1 := by omega
      have q5 : (0 : Int) ≤ (j : Int) := by omega
      have q6 : IntKind.i64.wrap (j : Int) = j := by rw [IntKind.wrap_i64]; omega
      by_cases hgt : nth us (j + 1) < nth us j
      · go_wp2_with fail
        go_quiet (fail)
        go_wp2_with fail
        have HY2 : Hid (BlkI (wr.drewN nq) g cp us ∧ Below B w (wr.drewN nq)) := ⟨HY.out.1.kept rfl, below_n HY.out.2.2.2⟩
        have d0 : (wr.drewN nq).cell? ⟨g, j, none⟩ = some (.int .i64 (nth us j)) := c0
        have d1 : (wr.drewN nq).cell? ⟨g, j + 1, none⟩ = some (.int .i64 (nth us (j + 1))) := c1
        have g0 : (wr.drewN nq).frozen? ⟨g, j, none⟩ = false := f0
        have g1 : (wr.drewN nq).frozen? ⟨g, j + 1, none⟩ = false := f1
        generalize wr.drewN nq = wd at HY2 d0 d1 g0 g1 ⊢
        clear c0 c1 f0 f1
        go_region_law (fail)
        all_goals
          go_wp2_with fail
          exact ⟨⟨j, sw j us, by omega, rfl, ⟨(swap2 HY2.out.1 (by have := HU.out; omega)).kept rfl, (sw_perm j us).trans HY.out.2.1, HY.out.2.2.1.step (by omega) (by have := HU.out; omega) hgt, (below_set2 HY2.out.2 hBg _ _).drew⟩⟩, by simp [intOf]⟩
      · go_wp2_with fail
        go_quiet (fail)
        go_wp2_with fail
        go_ret
        refine ⟨_, us, rfl, ?_, by rw [HZ.out]; exact HY.out.2.1, by rw [HU.out]; exact HY.out.2.2.1.done (.inr (by simpa using hgt)), by simp, below_n HY.out.2.2.2⟩
        have := BlkI.own (B := B) (HY.out.1.kept (w' := wr.drewN nq) rfl) hBg
        rwa [HU.out] at this
end Go.Proofs.YtddmdnljfnimbaaGreatDoor.Iz
