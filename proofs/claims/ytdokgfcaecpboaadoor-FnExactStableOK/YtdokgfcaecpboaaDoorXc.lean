/- The voters of votes; a quorum of nodes that rise: the program's walks. -/
import Derived.Test.YtdokgfcaecpboaaDoorXb
import Derived.Test.YtdokgfcaecpboaaDoorGt
import Derived.Maps.AppendAt
namespace Go.Proofs.YtdokgfcaecpboaaDoor.Xq
open Go.RowKit Go.Proofs.YtdokgfcaecpboaaDoor.Tm Go.Proofs.YtdokgfcaecpboaaDoor.Sl Go.Proofs.YtdokgfcaecpboaaDoor.Is
open Go.Proofs.YtdokgfcaecpboaaDoor.Qm (qOut inB)
open Go.Proofs.YtdokgfcaecpboaaDoor.Rg (RowG RowG.slice RowG.at lt_at mem_at blk_cell bel_new)
open Go.Proofs.YtdokgfcaecpboaaDoor.Gt (Vo E1)

/-- The slice v holds the integers xs. -/
def RowJ (w : World) (v : Value) (xs : List Int) : Prop :=
  ∃ a cap, v = .slice a xs.length cap ∧ (xs = [] ∨ ∃ b off, a = some ⟨b, off, none⟩ ∧ xs.length ≤ cap ∧ b < w.heap.size ∧ ∀ i x, xs[i]? = some x → w.cell? ⟨b, off + i, none⟩ = some (.int .i64 x))
theorem RowJ.below {w w' : World} {v : Value} {xs : List Int} (h : RowJ w v xs) (hb : Below w.heap.size w w') : RowJ w' v xs := by
  obtain ⟨a, cap, rfl, h⟩ := h
  refine ⟨a, cap, rfl, ?_⟩
  rcases h with h | ⟨b, off, rfl, hc, hlt, h⟩
  · exact .inl h
  · exact .inr ⟨b, off, rfl, hc, Nat.lt_of_lt_of_le hlt hb.size, fun i x hi => (hb.cell (p := ⟨b, off + i, none⟩) hlt).trans (h i x hi)⟩
theorem RowJ.of_row {w : World} {v : Value} {xs : List Int} (h : RowI w v xs) : RowJ w v xs := by
  obtain ⟨a, cap, rfl, h, _⟩ := h
  refine ⟨a, cap, rfl, ?_⟩
  rcases h with h | ⟨b, off, rfl, hc, hlt, h⟩
  · exact .inl h
  · refine .inr ⟨b, off, rfl, hc, hlt, fun i x hi => ?_⟩
    have hl := lt_at hi
    have := h i hl
    rw [nth_at hl] at hi
    cases hi
    exact this
theorem RowJ.of_own {w : World} {B : Nat} {v : Value} {xs : List Int} (h : OwnI w B v xs) : RowJ w v xs := by
  obtain ⟨hl, h⟩ := h
  rcases h with ⟨rfl, h0⟩ | ⟨g, cap, cur, rfl, hB, hg, hc, _, hs, htk⟩
  · exact ⟨none, 0, by rw [h0], .inl (List.length_eq_zero_iff.1 h0)⟩
  · refine ⟨_, cap, rfl, .inr ⟨g, 0, rfl, hc, (Array.getElem?_eq_some_iff.1 hg).1, fun i x hi => ?_⟩⟩
    have h1 : (cur.toList.take (xs.length * 1))[i]? = some (.int .i64 x) := by
      rw [htk, List.getElem?_map, hi]; rfl
    rw [List.getElem?_take] at h1
    split at h1
    · simp only [World.cell?, hg, Nat.zero_add]
      simpa using h1
    · cases h1
theorem RowJ.at {w : World} {a : Option Addr} {l cap : Nat} {xs : List Int} {i : Nat} {x : Int} (h : RowJ w (.slice a l cap) xs) (hi : xs[i]? = some x) : ∃ b off, a = some ⟨b, off, none⟩ ∧ b < w.heap.size ∧ w.cell? ⟨b, off + i, none⟩ = some (.int .i64 x) := by
  obtain ⟨a', cap', e, h⟩ := h
  cases e
  rcases h with rfl | ⟨b, off, rfl, _, hlt, h⟩
  · simp at hi
  · exact ⟨b, off, rfl, hlt, h i x hi⟩
set_option maxRecDepth 100000 in
set_option maxHeartbeats 1600000 in
theorem risingQuorum_any (n : Int) (v : Value) (fs : List Int) (w : World) (h : RowJ w v fs) (hl : fs.length ≤ 1048600) :
    Calls Tryd.prog 30 #[.int .i64 n, v] w fun e w' => e = .returned (.bool (qvB n fs)) ∧ w = w' := by
  have HR : Hid (RowJ w v fs) := h
  obtain ⟨a, cap, rfl, _⟩ := h
  go_enter Tryd.func30, Tryd.ntmps30
  go_wp2_with fail
  go_loopw [5, 10] (fun hd i wr => ∃ k : Nat, k ≤ fs.length ∧ hd = .int .u8 (msk fs k : Int) ∧ i = .int .i64 k ∧ Hid (GoodTo n fs k) ∧ wr = w) (fun _ i _ => fs.length - (intOf i).toNat)
  case atStart => exact ⟨0, by omega, rfl, rfl, GoodTo.zero n fs, rfl⟩
  case round =>
    obtain ⟨k, hk, rfl, rfl, HZ, rfl⟩ := hrel
    have hmk : msk fs k < 128 := (good_msk HZ.out hk).1
    by_cases hlt : k < fs.length
    · obtain ⟨x, hx⟩ := Rg.get_at hlt
      obtain ⟨b, off, rfl, hbl, c0⟩ := HR.out.at hx
      have HNO := isNode_any x n wr
      cases hv : isV n x with
      | false =>
        have HF : Hid (qvB n fs = false) := qv_not hx (fun hh => by rw [hv] at hh; cases hh.1)
        have hv' : okN x n = false := hv
        rw [hv'] at HNO
        clear hv hv' hx hmk
        go_wp2_with (go_at_call 47; refine HNO.mono ?_; rintro e w1 ⟨rfl, rfl⟩)
        go_ret
        exact ⟨ret_b HF.out.symm, rfl⟩
      | true =>
        obtain ⟨e1, e2⟩ := isV_frn hv
        have hv' : okN x n = true := hv
        rw [hv'] at HNO
        obtain ⟨j, HJ⟩ : ∃ j, Hid (frn x = j) := ⟨_, rfl⟩
        rw [HJ.out] at e1 e2
        have HAB := allBelow_any (msk fs k) j wr hmk e2
        have HWI := with_any (msk fs k) j wr hmk e2
        by_cases hb : msk fs k < 2 ^ j
        · have HS : Hid (msk fs (k + 1) = (msk fs k ||| 2 ^ j)) := by show _ = _; rw [msk_step hx, HJ.out]
          have HG : Hid (GoodTo n fs (k + 1)) := HZ.out.succ hx hv (by rw [HJ.out]; exact hb)
          rw [decide_eq_true hb] at HAB
          obtain ⟨q, HQ⟩ : ∃ q, Hid ((msk fs k ||| 2 ^ j) = q) := ⟨_, rfl⟩
          rw [HQ.out] at HWI HS
          subst e1
          clear hb hv hv' hx HJ HQ hmk
          generalize msk fs k = mm at HAB HWI ⊢
          go_wp2_with (first | (go_at_call 47; refine HNO.mono ?_; rintro e w1 ⟨rfl, rfl⟩) | (go_at_call 48; refine HAB.mono ?_; rintro e w1 ⟨rfl, rfl⟩) | (go_at_call 49; refine HWI.mono ?_; rintro e w1 ⟨rfl, rfl⟩))
          exact ⟨⟨k + 1, by omega, by rw [HS.out], by go_num, HG, trivial⟩, by simp [intOf]; omega⟩
        · have HF : Hid (qvB n fs = false) := qv_not hx (fun hh => hb (by have := hh.2; rwa [HJ.out] at this))
          rw [decide_eq_false hb] at HAB
          subst e1
          clear hb hv hv' hx HJ HWI hmk
          generalize msk fs k = mm at HAB ⊢
          go_wp2_with (first | (go_at_call 47; refine HNO.mono ?_; rintro e w1 ⟨rfl, rfl⟩) | (go_at_call 48; refine HAB.mono ?_; rintro e w1 ⟨rfl, rfl⟩))
          go_ret
          exact ⟨ret_b HF.out.symm, rfl⟩
    · obtain rfl : k = fs.length := by omega
      have HF : Hid (qvB n fs = (decide (fCode n = 0) && decide ((Lib.onesCount (msk fs fs.length) : Int) = qOut n))) := qv_end HZ.out
      have HI := isQuorum_any (msk fs fs.length) n wr hmk
      rw [← HF.out] at HI
      clear HF hmk
      generalize msk fs fs.length = mm at HI ⊢
      go_wp2_with (go_at_call 50; refine HI.mono ?_; rintro e w1 ⟨rfl, rfl⟩)
      go_ret
      exact ⟨rfl, rfl⟩
theorem own_nil (w : World) (B : Nat) : OwnI w B (.slice none 0 0) [] := World.ownsRow_nil _ _ _ _
theorem own_below {w w' : World} {B : Nat} {v : Value} {xs : List Int} (h : OwnI w B v xs) (hb : Below w.heap.size w w') : OwnI w' B v xs := by
  have hk : ∀ g, v.ownBlock = some g → w'.heap[g]? = w.heap[g]? := fun g hg => hb.block g (World.ownsRow.lt h g hg).2
  obtain ⟨hl, h⟩ := h
  refine ⟨hl, ?_⟩
  rcases h with h | ⟨g, cap, cur, rfl, hB, hg, hc, hm, hs, htk⟩
  · exact .inl h
  · exact .inr ⟨g, cap, cur, rfl, hB, (hk g rfl).trans hg, hc, hm, hs, htk⟩
/-- One integer more. -/
theorem list_i {P : Program} {ops : Array Oper} {rest : List Oper} {o : Oper} {a : Act} {Q : Exit → Act → World → Prop} (hgd : o.guard = none) (s x : Operand) (t : TypeId)
    (ho : o.op = .call { callee := .builtin .append, args := #[s, x], argTypes := #[t, t] }) (i : TypeInfo) (ht : P.underlying t = some (.slice 3)) (hi : P.info? 3 = some i) (hz : i.zero = some (.int .i64 0))
    (hsize : i.size = 1) (hby : i.bytes = 8) (B : Nat) (w0 W : World) (v : Value) (ts : List Int) (z : Int) (hs : a.eval s = v) (hown : OwnI W B v ts) (hg0 : Below B w0 W) (hB : B ≤ W.heap.size)
    (hx : a.eval x = .slice (some ⟨W.heap.size, 0, none⟩) 1 1) (hlen : ts.length ≤ 1048600)
    (h : ∀ v' w', OwnI w' B v' (ts ++ [z]) → Below B w0 w' → wpList P ops Q rest (a.put o.dst v') w') : wpList P ops Q (o :: rest) a (W.alloc (.cells #[.int .i64 z] 3)) := by
  have hown' : OwnI (W.alloc (.cells #[.int .i64 z] 3)) B v ts := own_below hown (bel_new _ _)
  refine wpList_append_own_at (P := P) _ hgd s x t ho B 3 i (.int .i64 0) 1 8 ht hi hz hsize hby rfl (by decide) v ts.length _ hs hown' ⟨W.heap.size, 0, none⟩ 1 1 [.int .i64 z] hx (by simp) (cell_one_new _ _ _) ?_ (by unfold maxLen; omega) (by omega) (by simp; omega) ?_
  · intro c hc
    simp at hc
    subst hc
    rfl
  · intro v' w' h1 h2 h3 h4
    exact h v' w' (by unfold OwnI; simpa using h1) ((hg0.alloc hB _).grown h2 (by simp; omega) (fun k hk => (World.ownsRow.lt hown' k hk).1))
/-- Who voted. -/
def vfs (vs : List Vo) : List Int := vs.map (·.f)
theorem vfs_length (vs : List Vo) : (vfs vs).length = vs.length := by simp [vfs]
theorem vfs_step {vs : List Vo} {k : Nat} {x : Vo} (h : vs[k]? = some x) : vfs (vs.take (k + 1)) = vfs (vs.take k) ++ [x.f] := by
  unfold vfs
  rw [List.take_add_one, h]
  simp
set_option maxRecDepth 100000 in
set_option maxHeartbeats 1600000 in
theorem votersOf_any (v : Value) (vs : List Vo) (w : World) (h : Gt.Row w v vs) (hl : vs.length ≤ 1048576) :
    Calls Tryd.prog 31 #[v] w fun e w' => ∃ u, e = .returned u ∧ OwnI w' w.heap.size u (vfs vs) ∧ Below w.heap.size w w' := by
  obtain ⟨i0, hi0, hz0, hz1, hz2⟩ := info_parts info3
  have HR : Hid (Gt.Row w v vs) := h
  obtain ⟨a, cap, rfl⟩ := RowG.slice h
  clear h
  go_enter Tryd.func31, Tryd.ntmps31
  go_wp2_with fail
  go_loopw [3, 8] (fun b i wr => ∃ k : Nat, k ≤ vs.length ∧ i = .int .i64 k ∧ Hid (OwnI wr w.heap.size b (vfs (vs.take k)) ∧ Below w.heap.size w wr)) (fun _ i _ => vs.length - (intOf i).toNat)
  case atStart => exact ⟨0, by omega, rfl, ⟨own_nil _ _, Below.refl _ _⟩⟩
  case round =>
    obtain ⟨k, hk, rfl, HZ⟩ := hrel
    obtain ⟨v0, rfl⟩ : ∃ v0, v0 = u3 := ⟨_, rfl⟩
    by_cases hlt : k < vs.length
    · obtain ⟨x, hx⟩ := Rg.get_at hlt
      obtain ⟨b, off, rfl, hbl, c0, c1⟩ := RowG.at (HR.out.below HZ.out.2) rfl hx
      have HS : Hid (vfs (vs.take (k + 1)) = vfs (vs.take k) ++ [x.f]) := vfs_step hx
      have HLN : Hid ((vfs (vs.take k)).length ≤ 1048600) := by show _ ≤ _; rw [vfs_length, List.length_take]; omega
      have HG : Hid (∀ o, OwnI (wr.alloc o) w.heap.size v0 (vfs (vs.take k)) ∧ Below w.heap.size w (wr.alloc o)) := fun o => ⟨own_below HZ.out.1 (bel_new _ _), HZ.out.2.alloc HZ.out.2.size o⟩
      clear hx
      go_wp2_with (at_builtin; go_must (refine list_i (by rfl) _ _ 52 (by rfl) i0 Tryd.underlying52 hi0 hz0 hz1 hz2 w.heap.size w _ _ (vfs (vs.take k)) x.f (by rfl) (HG.out _).1 (HG.out _).2 (HG.out _).2.size (by rw [Rg.size_new]; rfl) HLN.out ?_; intro v1 w1 o1 b1))
      exact ⟨⟨k + 1, by omega, by go_num, by rw [HS.out]; exact ⟨o1, b1⟩⟩, by simp [intOf]; omega⟩
    · obtain rfl : k = vs.length := by omega
      go_wp2_with fail
      go_ret
      refine ⟨_, rfl, ?_, HZ.out.2⟩
      have := HZ.out.1
      rwa [List.take_length] at this
end Go.Proofs.YtdokgfcaecpboaaDoor.Xq
