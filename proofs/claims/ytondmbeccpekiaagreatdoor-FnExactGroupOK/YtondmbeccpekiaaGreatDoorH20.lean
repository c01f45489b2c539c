/- Texts put together: Ai, Iz, Md. -/
import Derived.Test.YtondmbeccpekiaaGreatDoorH19
import Derived.Test.YtondmbeccpekiaaGreatDoorH13
import Derived.BigQuiet
import Derived.Deep.RegionLaw
import Derived.BigRegion
/- One integer more in a list of the call's own. -/
namespace Go.Proofs.YtondmbeccpekiaaGreatDoor.So
open Go.RowKit Go.Proofs.YtondmbeccpekiaaGreatDoor.Sl Go.Proofs.YtondmbeccpekiaaGreatDoor.Is

theorem list_int1 {P : Program} {ops : Array Oper} {rest : List Oper} {o : Oper} {a : Act} {Q : Exit → Act → World → Prop} (hgd : o.guard = none) (s x : Operand) (t : TypeId)
    (ho : o.op = .call { callee := .builtin .append, args := #[s, x], argTypes := #[t, t] }) (i : TypeInfo) (ht : P.underlying t = some (.slice 3)) (hi : P.info? 3 = some i) (hz : i.zero = some (.int .i64 0))
    (hsize : i.size = 1) (hby : i.bytes = 8) (B : Nat) (w0 W : World) (v : Value) (zs : List Int) (z : Int) (hs : a.eval s = v) (hown : OwnI W B v zs) (hg0 : Below B w0 W) (hB : B ≤ W.heap.size)
    (hx : a.eval x = .slice (some ⟨W.heap.size, 0, none⟩) 1 1) (hlen : zs.length + 1 ≤ 1000000)
    (h : ∀ v' w', OwnI w' B v' (zs ++ [z]) → Below B w0 w' → v' ≠ .slice none 0 0 → wpList P ops Q rest (a.put o.dst v') w') : wpList P ops Q (o :: rest) a (W.alloc (.cells #[.int .i64 z] 3)) := by
  refine list_ints hgd s x t ho i ht hi hz hsize hby B w0 _ v zs [z] W.heap.size 0 1 1 rfl hs ?_ (hg0.alloc hB _) (by simp; omega) hx ?_ (by simpa using hlen) ?_
  · unfold OwnI at hown ⊢; exact hown.alloc _
  · intro j hj
    obtain rfl : j = 0 := by simpa using hj
    rw [Joins.cell_of_block (heap_alloc_new W _)]
    rfl
  · intro v' w' h1 h2 _ _ h4
    exact h v' w' h1 h2 (fun e => by have := (h4.1 e).2; omega)
theorem OwnI.below {w w' : World} {B : Nat} {v : Value} {ts : List Int} (h : OwnI w B v ts) (hb : Below w.heap.size w w') : OwnI w' B v ts := by
  obtain ⟨hl, h⟩ := h
  refine ⟨hl, ?_⟩
  rcases h with h | ⟨g, cap, cur, hv, hB, hgb, h⟩
  · exact .inl h
  · exact .inr ⟨g, cap, cur, hv, hB, (hb.block g (Array.getElem?_eq_some_iff.1 hgb).1).trans hgb, h⟩
end Go.Proofs.YtondmbeccpekiaaGreatDoor.So

/- Insertion as the values come: impl.insertSorted. -/
namespace Go.Proofs.YtondmbeccpekiaaGreatDoor.Iz
open Go.RowKit Go.Proofs.YtondmbeccpekiaaGreatDoor.Sl Go.Proofs.YtondmbeccpekiaaGreatDoor.Is Go.Proofs.YtondmbeccpekiaaGreatDoor.So

theorem swap2 {w : World} {g cap k : Nat} {ys : List Int} (h : BlkI w g cap ys) (hk : k + 1 < ys.length) :
    BlkI ((w.setCell ⟨g, k, none⟩ (.int .i64 (nth ys (k + 1)))).setCell ⟨g, k + 1, none⟩ (.int .i64 (nth ys k))) g cap (sw k ys) := by
  obtain ⟨cur, h1, h2, h3, h4, h5⟩ := h
  refine ⟨(cur.setIfInBounds k (.int .i64 (nth ys (k + 1)))).setIfInBounds (k + 1) (.int .i64 (nth ys k)), Joins.block_setCell (i := k + 1) (Joins.block_setCell (i := k) h1 _) _, by simpa using h2, by rw [sw_length]; exact h3, h4, fun i hi => ?_⟩
  rw [sw_length] at hi
  rw [Array.getElem?_setIfInBounds, sw_nth k ys i hk]
  by_cases e : k + 1 = i
  · rw [if_pos e, if_pos (by simp; omega), if_neg (by omega), if_pos e.symm]
  · rw [if_neg e, Array.getElem?_setIfInBounds]
    by_cases e2 : k = i
    · rw [if_pos e2, if_pos (by omega), if_pos e2.symm]
    · rw [if_neg e2, if_neg (fun x => e2 x.symm), if_neg (fun x => e x.symm)]
      exact h5 i hi
theorem val_eq {k : IntKind} {a b : Int} (h : a = b) : Value.int k a = .int k b := by rw [h]
set_option maxRecDepth 100000 in
set_option maxHeartbeats 1600000 in
theorem insertSorted_any (v : Value) (ys : List Int) (x : Int) (B : Nat) (w : World) (h : OwnI w B v ys) (hs : Asc ys.length ys) (hB : B ≤ w.heap.size) (hl : ys.length ≤ 1000) :
    Calls Tryz.prog 164 #[v, .int .i64 x] w fun e w' => ∃ v' zs, e = .returned v' ∧ OwnI w' B v' zs ∧ zs.Perm (ys ++ [x]) ∧ Asc zs.length zs ∧ v' ≠ .slice none 0 0 ∧ Below B w w' := by
  obtain ⟨i0, hi0, hz0, hz1, hz2⟩ := info_parts info3
  have HO : Hid (OwnI w B v ys ∧ Asc ys.length ys) := ⟨h, hs⟩
  clear h hs
  go_enter Tryz.func164, Tryz.ntmps164
  go_wp2_with (at_builtin; go_must (refine list_int1 (by rfl) _ _ 22 (by rfl) i0 Tryz.underlying22 hi0 hz0 hz1 hz2 B w w _ ys x (by rfl) HO.out.1 (Below.refl _ _) hB (by rfl) (by omega) ?_; intro v1 w1 o1 b1 hne))
  obtain ⟨g, cp, rfl⟩ := OwnI.some o1 hne
  obtain ⟨k1, _, hBg⟩ := BlkI.of o1
  have HL : Hid ((ys ++ [x]).length = ys.length + 1) := by show _ = _; simp
  have HA : Hid (Ins ys.length (ys.length + 1) (ys ++ [x])) := by
    intro p q h1 h2 h3
    have := HO.out.2 p q h1 (by omega)
    unfold nth at this ⊢
    rw [List.getD_eq_getElem?_getD, List.getD_eq_getElem?_getD, List.getElem?_append_left (by omega), List.getElem?_append_left (by omega)]
    rwa [List.getD_eq_getElem?_getD, List.getD_eq_getElem?_getD] at this
  have HK1 : Hid (BlkI w1 g cp (ys ++ [x]) ∧ Below B w w1) := ⟨k1, b1⟩
  clear o1 k1 b1 hne HO
  obtain ⟨n, HN⟩ : ∃ n, Hid (n = ys.length + 1) := ⟨_, rfl⟩
  have hn : n ≤ 1001 ∧ 0 < n := by rw [HN.out]; omega
  rw [show ys.length = n - 1 by rw [HN.out]; omega, Nat.sub_add_cancel hn.2] at HA
  rw [← HN.out] at HL
  rw [HL.out]
  obtain ⟨zs, HZ⟩ : ∃ zs, Hid (ys ++ [x] = zs) := ⟨_, rfl⟩
  rw [HZ.out] at HL HA HK1
  clear hl
  go_wp2_with fail
  go_loopw [5] (fun i wr => ∃ (k : Nat) (us : List Int), k < n ∧ i = .int .i64 k ∧ Hid (BlkI wr g cp us ∧ us.Perm zs ∧ Ins k n us ∧ Below B w wr)) (fun i _ => (intOf i).toNat)
  case atStart => exact ⟨n - 1, zs, by omega, val_eq (by omega), ⟨HK1.out.1, .refl _, HA.out, HK1.out.2⟩⟩
  case round =>
    clear HK1 HA
    obtain ⟨k, us, hk, rfl, HY⟩ := hrel
    have HU : Hid (us.length = n) := by show _ = _; rw [HY.out.2.1.length_eq, HL.out]
    by_cases hk0 : k = 0
    · subst hk0
      go_wp2_with fail
      go_quiet (fail)
      go_wp2_with fail
      go_ret
      refine ⟨_, us, rfl, ?_, by rw [HZ.out]; exact HY.out.2.1, by rw [HU.out]; exact HY.out.2.2.1.done (.inl rfl), by simp, below_n HY.out.2.2.2⟩
      have := BlkI.own (B := B) (HY.out.1.kept (w' := wr.drewN nq) rfl) hBg
      rwa [HU.out] at this
    · obtain ⟨j, rfl⟩ : ∃ j, k = j + 1 := ⟨k - 1, by omega⟩
      have c0 := (HY.out.1.cell (i := j) (by have := HU.out; omega)).1
      have c1 := (HY.out.1.cell (i := j + 1) (by have := HU.out; omega)).1
      have f0 := (HY.out.1.cell (i := j) (by have := HU.out; omega)).2
      have f1 := (HY.out.1.cell (i := j + 1) (by have := HU.out; omega)).2
      have q1 : (0 : Int) < (j : Int) + 1 := by omega
      have q2 : (j : Int) + 1 < (n : Int) := by omega
      have q3 : (j : Int) < (n : Int) := by omega
      have q4 : (0 : Int) ≤ (j : Int) + 1 := by omega
      have q5 : (0 : Int) ≤ (j : Int) := by omega
      have q6 : IntKind.i64.wrap (j : Int) = j := by rw [IntKind.wrap_i64]; omega
      by_cases hgt : nth us (j + 1) < nth us j
      · go_wp2_with fail
        go_quiet (fail)
        go_wp2_with fail
        have HY2 : Hid (BlkI (wr.drewN nq) g cp us ∧ Below B w (wr.drewN nq)) := ⟨HY.out.1.kept rfl, below_n HY.out.2.2.2⟩
        have d0 : (wr.drewN nq).cell? ⟨g, j, none⟩ = some (.int .i64 (nth us j)) := c0
        have d1 : (wr.drewN nq).cell? ⟨g, j + 1, none⟩ = some (.int .i64 (nth us (j + 1))) := c1
        have g0 : (wr.drewN nq).frozen? ⟨g, j, none⟩ = false := f0
        have g1 : (wr.drewN nq).frozen? ⟨g, j + 1, none⟩ = false := f1
        generalize wr.drewN nq = wd at HY2 d0 d1 g0 g1 ⊢
        clear c0 c1 f0 f1
        go_region_law (fail)
        all_goals
          go_wp2_with fail
          exact ⟨⟨j, sw j us, by omega, rfl, ⟨(swap2 HY2.out.1 (by have := HU.out; omega)).kept rfl, (sw_perm j us).trans HY.out.2.1, HY.out.2.2.1.step (by omega) (by have := HU.out; omega) hgt, (below_set2 HY2.out.2 hBg _ _).drew⟩⟩, by simp [intOf]⟩
      · go_wp2_with fail
        go_quiet (fail)
        go_wp2_with fail
        go_ret
        refine ⟨_, us, rfl, ?_, by rw [HZ.out]; exact HY.out.2.1, by rw [HU.out]; exact HY.out.2.2.1.done (.inr (by simpa using hgt)), by simp, below_n HY.out.2.2.2⟩
        have := BlkI.own (B := B) (HY.out.1.kept (w' := wr.drewN nq) rfl) hBg
        rwa [HU.out] at this
end Go.Proofs.YtondmbeccpekiaaGreatDoor.Iz

/- MedianOf of the specification. -/
namespace Go.Proofs.YtondmbeccpekiaaGreatDoor.Md
open Go.RowKit Go.Proofs.YtondmbeccpekiaaGreatDoor.Sl Go.Proofs.YtondmbeccpekiaaGreatDoor.Is Go.Proofs.YtondmbeccpekiaaGreatDoor.So

def ms (xs : List Int) : List Int := xs.mergeSort fun x y => decide (x ≤ y)
theorem ms_perm (xs : List Int) : (ms xs).Perm xs := List.mergeSort_perm _ _
theorem ms_pair (xs : List Int) : (ms xs).Pairwise (· ≤ ·) := by
  have := List.pairwise_mergeSort (le := fun (x y : Int) => decide (x ≤ y)) (fun a b c h1 h2 => by simp at h1 h2 ⊢; omega) (fun a b => by simp; omega) xs
  exact this.imp (fun h => by simpa using h)
theorem ms_of {xs ys : List Int} (h : ys.Perm xs) (ha : Asc ys.length ys) : ys = ms xs := asc_same (asc_pair ha) (ms_pair xs) (h.trans (ms_perm xs).symm)
theorem ret_ii {a b c d : Int} (h : a = c ∧ b = d) : Ending.returned (.tuple #[.int .i64 a, .int .i64 b]) = .returned (.tuple #[.int .i64 c, .int .i64 d]) := by rw [h.1, h.2]
end Go.Proofs.YtondmbeccpekiaaGreatDoor.Md
