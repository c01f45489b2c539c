/- Nodes that rise: the program's walk. -/
import Derived.Test.YtnebohdlndiejaaDoorXb
import Derived.Maps.AppendAt
namespace Go.Proofs.YtnebohdlndiejaaDoor.Xq
open Go.RowKit Go.Proofs.YtnebohdlndiejaaDoor.Tm Go.Proofs.YtnebohdlndiejaaDoor.Sl Go.Proofs.YtnebohdlndiejaaDoor.Is
open Go.Proofs.YtnebohdlndiejaaDoor.Qm (qOut inB)
open Go.Proofs.YtnebohdlndiejaaDoor.Rg (RowG RowG.slice RowG.at lt_at mem_at blk_cell bel_new)

/-- The slice v holds the integers xs. -/
def RowJ (w : World) (v : Value) (xs : List Int) : Prop :=
  ∃ a cap, v = .slice a xs.length cap ∧ (xs = [] ∨ ∃ b off, a = some ⟨b, off, none⟩ ∧ xs.length ≤ cap ∧ b < w.heap.size ∧ ∀ i x, xs[i]? = some x → w.cell? ⟨b, off + i, none⟩ = some (.int .i64 x))
theorem RowJ.below {w w' : World} {v : Value} {xs : List Int} (h : RowJ w v xs) (hb : Below w.heap.size w w') : RowJ w' v xs := by
  obtain ⟨a, cap, rfl, h⟩ := h
  refine ⟨a, cap, rfl, ?_⟩
  rcases h with h | ⟨b, off, rfl, hc, hlt, h⟩
  · exact .inl h
  · exact .inr ⟨b, off, rfl, hc, Nat.lt_of_lt_of_le hlt hb.size, fun i x hi => (hb.cell (p := ⟨b, off + i, none⟩) hlt).trans (h i x hi)⟩
theorem RowJ.of_row {w : World} {v : Value} {xs : List Int} (h : RowI w v xs) : RowJ w v xs := by
  obtain ⟨a, cap, rfl, h, _⟩ := h
  refine ⟨a, cap, rfl, ?_⟩
  rcases h with h | ⟨b, off, rfl, hc, hlt, h⟩
  · exact .inl h
  · refine .inr ⟨b, off, rfl, hc, hlt, fun i x hi => ?_⟩
    have hl := lt_at hi
    have := h i hl
    rw [nth_at hl] at hi
    cases hi
    exact this
theorem RowJ.of_own {w : World} {B : Nat} {v : Value} {xs : List Int} (h : OwnI w B v xs) : RowJ w v xs := by
  obtain ⟨hl, h⟩ := h
  rcases h with ⟨rfl, h0⟩ | ⟨g, cap, cur, rfl, hB, hg, hc, _, hs, htk⟩
  · exact ⟨none, 0, by rw [h0], .inl (List.length_eq_zero_iff.1 h0)⟩
  · refine ⟨_, cap, rfl, .inr ⟨g, 0, rfl, hc, (Array.getElem?_eq_some_iff.1 hg).1, fun i x hi => ?_⟩⟩
    have h1 : (cur.toList.take (xs.length * 1))[i]? = some (.int .i64 x) := by
      rw [htk, List.getElem?_map, hi]; rfl
    rw [List.getElem?_take] at h1
    split at h1
    · simp only [World.cell?, hg, Nat.zero_add]
      simpa using h1
    · cases h1
theorem RowJ.at {w : World} {a : Option Addr} {l cap : Nat} {xs : List Int} {i : Nat} {x : Int} (h : RowJ w (.slice a l cap) xs) (hi : xs[i]? = some x) : ∃ b off, a = some ⟨b, off, none⟩ ∧ b < w.heap.size ∧ w.cell? ⟨b, off + i, none⟩ = some (.int .i64 x) := by
  obtain ⟨a', cap', e, h⟩ := h
  cases e
  rcases h with rfl | ⟨b, off, rfl, _, hlt, h⟩
  · simp at hi
  · exact ⟨b, off, rfl, hlt, h i x hi⟩
theorem ret_ub {a b : Int} {c d : Bool} (h : a = b ∧ c = d) : Ending.returned (.tuple #[.int .u8 a, .bool c]) = .returned (.tuple #[.int .u8 b, .bool d]) := by rw [h.1, h.2]
/-- What risingNodes answers. -/
noncomputable def rnB (n : Int) (ms : List Int) : Bool := bOf (GoodTo n ms ms.length)
noncomputable def rnM (n : Int) (ms : List Int) : Nat := if rnB n ms then msk ms ms.length else 0
theorem rn_not {n : Int} {ms : List Int} {k : Nat} {x : Int} (hx : ms[k]? = some x) (h : ¬ (isV n x = true ∧ msk ms k < 2 ^ frn x)) : rnM n ms = 0 ∧ rnB n ms = false := by
  have e : rnB n ms = false := bOf_false (fun hg => h (hg k x (Rg.lt_at hx) hx))
  exact ⟨by unfold rnM; rw [e]; rfl, e⟩
theorem rn_end {n : Int} {ms : List Int} (h : GoodTo n ms ms.length) : rnM n ms = msk ms ms.length ∧ rnB n ms = true := by
  have e : rnB n ms = true := bOf_true h
  exact ⟨by unfold rnM; rw [e]; rfl, e⟩
theorem rn_iff {n : Int} {ms : List Int} : rnB n ms = true ↔ (∀ x ∈ ms, isV n x = true) ∧ Rise ms ms.length := by
  unfold rnB
  rw [bOf_iff, good_all (Nat.le_refl _)]
  constructor
  · rintro ⟨a1, a2⟩
    refine ⟨fun x hx => ?_, a2⟩
    obtain ⟨j, hj, e⟩ := List.getElem_of_mem hx
    exact a1 j x hj (by rw [List.getElem?_eq_getElem hj, e])
  · rintro ⟨h3, h4⟩
    exact ⟨fun j x hj hx => h3 x (List.mem_of_getElem? hx), h4⟩
theorem rnM_lt {n : Int} {ms : List Int} : rnM n ms < 128 := by
  unfold rnM
  split
  · rename_i h; exact (good_msk (bOf_iff.1 h) (Nat.le_refl _)).1
  · decide
theorem qv_rn {n : Int} {ms : List Int} : qvB n ms = (rnB n ms && (decide (fCode n = 0) && decide ((Lib.onesCount (rnM n ms) : Int) = qOut n))) := by
  cases h : rnB n ms with
  | false =>
    have hb : bOf (GoodTo n ms ms.length) = false := h
    unfold qvB
    rw [hb, Bool.false_and, Bool.false_and]
  | true =>
    have hb : bOf (GoodTo n ms ms.length) = true := h
    have hm : rnM n ms = msk ms ms.length := by unfold rnM; rw [h]; rfl
    unfold qvB
    rw [hb, hm]
set_option maxRecDepth 100000 in
set_option maxHeartbeats 1600000 in
theorem risingNodes_any (n : Int) (v : Value) (fs : List Int) (w : World) (h : RowJ w v fs) (hl : fs.length ≤ 1048600) :
    Calls Tryd.prog 25 #[.int .i64 n, v] w fun e w' => e = .returned (.tuple #[.int .u8 (rnM n fs : Int), .bool (rnB n fs)]) ∧ w = w' := by
  have HR : Hid (RowJ w v fs) := h
  obtain ⟨a, cap, rfl, _⟩ := h
  go_enter Tryd.func25, Tryd.ntmps25
  go_wp2_with fail
  go_loopw [6, 11] (fun hd i wr => ∃ k : Nat, k ≤ fs.length ∧ hd = .int .u8 (msk fs k : Int) ∧ i = .int .i64 k ∧ Hid (GoodTo n fs k) ∧ wr = w) (fun _ i _ => fs.length - (intOf i).toNat)
  case atStart => exact ⟨0, by omega, rfl, rfl, GoodTo.zero n fs, rfl⟩
  case round =>
    obtain ⟨k, hk, rfl, rfl, HZ, rfl⟩ := hrel
    have hmk : msk fs k < 128 := (good_msk HZ.out hk).1
    by_cases hlt : k < fs.length
    · obtain ⟨x, hx⟩ := Rg.get_at hlt
      obtain ⟨b, off, rfl, hbl, c0⟩ := HR.out.at hx
      have HNO := isNode_any x n wr
      cases hv : isV n x with
      | false =>
        have HF : Hid (rnM n fs = 0 ∧ rnB n fs = false) := rn_not hx (fun hh => by rw [hv] at hh; cases hh.1)
        have hv' : okN x n = false := hv
        rw [hv'] at HNO
        clear hv hv' hx hmk
        go_wp2_with (go_at_call 32; refine HNO.mono ?_; rintro e w1 ⟨rfl, rfl⟩)
        go_ret2
        exact ⟨ret_ub ⟨by rw [HF.out.1]; rfl, HF.out.2.symm⟩, rfl⟩
      | true =>
        obtain ⟨e1, e2⟩ := isV_frn hv
        have hv' : okN x n = true := hv
        rw [hv'] at HNO
        obtain ⟨j, HJ⟩ : ∃ j, Hid (frn x = j) := ⟨_, rfl⟩
        rw [HJ.out] at e1 e2
        have HAB := allBelow_any (msk fs k) j wr hmk e2
        have HWI := with_any (msk fs k) j wr hmk e2
        by_cases hb : msk fs k < 2 ^ j
        · have HS : Hid (msk fs (k + 1) = (msk fs k ||| 2 ^ j)) := by show _ = _; rw [msk_step hx, HJ.out]
          have HG : Hid (GoodTo n fs (k + 1)) := HZ.out.succ hx hv (by rw [HJ.out]; exact hb)
          rw [decide_eq_true hb] at HAB
          obtain ⟨q, HQ⟩ : ∃ q, Hid ((msk fs k ||| 2 ^ j) = q) := ⟨_, rfl⟩
          rw [HQ.out] at HWI HS
          subst e1
          clear hb hv hv' hx HJ HQ hmk
          generalize msk fs k = mm at HAB HWI ⊢
          go_wp2_with (first | (go_at_call 32; refine HNO.mono ?_; rintro e w1 ⟨rfl, rfl⟩) | (go_at_call 33; refine HAB.mono ?_; rintro e w1 ⟨rfl, rfl⟩) | (go_at_call 34; refine HWI.mono ?_; rintro e w1 ⟨rfl, rfl⟩))
          exact ⟨⟨k + 1, by omega, by rw [HS.out], by go_num, HG, trivial⟩, by simp [intOf]; omega⟩
        · have HF : Hid (rnM n fs = 0 ∧ rnB n fs = false) := rn_not hx (fun hh => hb (by have := hh.2; rwa [HJ.out] at this))
          rw [decide_eq_false hb] at HAB
          subst e1
          clear hb hv hv' hx HJ HWI hmk
          generalize msk fs k = mm at HAB ⊢
          go_wp2_with (first | (go_at_call 32; refine HNO.mono ?_; rintro e w1 ⟨rfl, rfl⟩) | (go_at_call 33; refine HAB.mono ?_; rintro e w1 ⟨rfl, rfl⟩))
          go_ret2
          exact ⟨ret_ub ⟨by rw [HF.out.1]; rfl, HF.out.2.symm⟩, rfl⟩
    · obtain rfl : k = fs.length := by omega
      have HF : Hid (rnM n fs = msk fs fs.length ∧ rnB n fs = true) := rn_end HZ.out
      clear hmk
      go_wp2_with fail
      go_ret2
      exact ⟨ret_ub ⟨by rw [HF.out.1], HF.out.2.symm⟩, rfl⟩
end Go.Proofs.YtnebohdlndiejaaDoor.Xq
