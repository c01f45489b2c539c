/- The voters of votes; a quorum of nodes that rise: the program's walks. -/
import Derived.Test.YtnebohdlndiejaaDoorXcr
import Derived.Test.YtnebohdlndiejaaDoorGt
import Derived.Maps.AppendAt
namespace Go.Proofs.YtnebohdlndiejaaDoor.Xq
open Go.RowKit Go.Proofs.YtnebohdlndiejaaDoor.Tm Go.Proofs.YtnebohdlndiejaaDoor.Sl Go.Proofs.YtnebohdlndiejaaDoor.Is
open Go.Proofs.YtnebohdlndiejaaDoor.Qm (qOut inB)
open Go.Proofs.YtnebohdlndiejaaDoor.Rg (RowG RowG.slice RowG.at lt_at mem_at blk_cell bel_new)
open Go.Proofs.YtnebohdlndiejaaDoor.Gt (Vo E1)

set_option maxRecDepth 100000 in
set_option maxHeartbeats 1600000 in
theorem risingQuorum_any (n : Int) (v : Value) (fs : List Int) (w : World) (h : RowJ w v fs) (hl : fs.length ≤ 1048600) :
    Calls Tryd.prog 14 #[.int .i64 n, v] w fun e w' => e = .returned (.bool (qvB n fs)) ∧ w = w' := by
  have HN := risingNodes_any n v fs w h hl
  have HQ := isQuorum_any (rnM n fs) n w rnM_lt
  have HF : Hid (qvB n fs = (rnB n fs && (decide (fCode n = 0) && decide ((Lib.onesCount (rnM n fs) : Int) = qOut n)))) := qv_rn
  rw [HF.out]
  clear HF h
  generalize (decide (fCode n = 0) && decide ((Lib.onesCount (rnM n fs) : Int) = qOut n)) = q at HQ ⊢
  generalize rnM n fs = mm at HN HQ
  generalize rnB n fs = b at HN ⊢
  cases b with
  | false =>
    go_enter Tryd.func14, Tryd.ntmps14
    go_wp2_with (go_at_call 25; refine HN.mono ?_; rintro e w1 ⟨rfl, rfl⟩)
    go_ret
    exact ⟨rfl, rfl⟩
  | true =>
    go_enter Tryd.func14, Tryd.ntmps14
    go_wp2_with (first | (go_at_call 25; refine HN.mono ?_; rintro e w1 ⟨rfl, rfl⟩) | (go_at_call 26; refine HQ.mono ?_; rintro e w1 ⟨rfl, rfl⟩))
    go_ret
    exact ⟨rfl, rfl⟩
theorem own_nil (w : World) (B : Nat) : OwnI w B (.slice none 0 0) [] := World.ownsRow_nil _ _ _ _
theorem own_below {w w' : World} {B : Nat} {v : Value} {xs : List Int} (h : OwnI w B v xs) (hb : Below w.heap.size w w') : OwnI w' B v xs := by
  have hk : ∀ g, v.ownBlock = some g → w'.heap[g]? = w.heap[g]? := fun g hg => hb.block g (World.ownsRow.lt h g hg).2
  obtain ⟨hl, h⟩ := h
  refine ⟨hl, ?_⟩
  rcases h with h | ⟨g, cap, cur, rfl, hB, hg, hc, hm, hs, htk⟩
  · exact .inl h
  · exact .inr ⟨g, cap, cur, rfl, hB, (hk g rfl).trans hg, hc, hm, hs, htk⟩
/-- One integer more. -/
theorem list_i {P : Program} {ops : Array Oper} {rest : List Oper} {o : Oper} {a : Act} {Q : Exit → Act → World → Prop} (hgd : o.guard = none) (s x : Operand) (t : TypeId)
    (ho : o.op = .call { callee := .builtin .append, args := #[s, x], argTypes := #[t, t] }) (i : TypeInfo) (ht : P.underlying t = some (.slice 3)) (hi : P.info? 3 = some i) (hz : i.zero = some (.int .i64 0))
    (hsize : i.size = 1) (hby : i.bytes = 8) (B : Nat) (w0 W : World) (v : Value) (ts : List Int) (z : Int) (hs : a.eval s = v) (hown : OwnI W B v ts) (hg0 : Below B w0 W) (hB : B ≤ W.heap.size)
    (hx : a.eval x = .slice (some ⟨W.heap.size, 0, none⟩) 1 1) (hlen : ts.length ≤ 1048600)
    (h : ∀ v' w', OwnI w' B v' (ts ++ [z]) → Below B w0 w' → wpList P ops Q rest (a.put o.dst v') w') : wpList P ops Q (o :: rest) a (W.alloc (.cells #[.int .i64 z] 3)) := by
  have hown' : OwnI (W.alloc (.cells #[.int .i64 z] 3)) B v ts := own_below hown (bel_new _ _)
  refine wpList_append_own_at (P := P) _ hgd s x t ho B 3 i (.int .i64 0) 1 8 ht hi hz hsize hby rfl (by decide) v ts.length _ hs hown' ⟨W.heap.size, 0, none⟩ 1 1 [.int .i64 z] hx (by simp) (cell_one_new _ _ _) ?_ (by unfold maxLen; omega) (by omega) (by simp; omega) ?_
  · intro c hc
    simp at hc
    subst hc
    rfl
  · intro v' w' h1 h2 h3 h4
    exact h v' w' (by unfold OwnI; simpa using h1) ((hg0.alloc hB _).grown h2 (by simp; omega) (fun k hk => (World.ownsRow.lt hown' k hk).1))
/-- Who voted. -/
def vfs (vs : List Vo) : List Int := vs.map (·.f)
theorem vfs_length (vs : List Vo) : (vfs vs).length = vs.length := by simp [vfs]
theorem vfs_step {vs : List Vo} {k : Nat} {x : Vo} (h : vs[k]? = some x) : vfs (vs.take (k + 1)) = vfs (vs.take k) ++ [x.f] := by
  unfold vfs
  rw [List.take_add_one, h]
  simp
set_option maxRecDepth 100000 in
set_option maxHeartbeats 1600000 in
theorem votersOf_any (v : Value) (vs : List Vo) (w : World) (h : Gt.Row w v vs) (hl : vs.length ≤ 1048576) :
    Calls Tryd.prog 15 #[v] w fun e w' => ∃ u, e = .returned u ∧ OwnI w' w.heap.size u (vfs vs) ∧ Below w.heap.size w w' := by
  obtain ⟨i0, hi0, hz0, hz1, hz2⟩ := info_parts info3
  have HR : Hid (Gt.Row w v vs) := h
  obtain ⟨a, cap, rfl⟩ := RowG.slice h
  clear h
  go_enter Tryd.func15, Tryd.ntmps15
  go_wp2_with fail
  go_loopw [3, 8] (fun b i wr => ∃ k : Nat, k ≤ vs.length ∧ i = .int .i64 k ∧ Hid (OwnI wr w.heap.size b (vfs (vs.take k)) ∧ Below w.heap.size w wr)) (fun _ i _ => vs.length - (intOf i).toNat)
  case atStart => exact ⟨0, by omega, rfl, ⟨own_nil _ _, Below.refl _ _⟩⟩
  case round =>
    obtain ⟨k, hk, rfl, HZ⟩ := hrel
    obtain ⟨v0, rfl⟩ : ∃ v0, v0 = u3 := ⟨_, rfl⟩
    by_cases hlt : k < vs.length
    · obtain ⟨x, hx⟩ := Rg.get_at hlt
      obtain ⟨b, off, rfl, hbl, c0, c1⟩ := RowG.at (HR.out.below HZ.out.2) rfl hx
      have HS : Hid (vfs (vs.take (k + 1)) = vfs (vs.take k) ++ [x.f]) := vfs_step hx
      have HLN : Hid ((vfs (vs.take k)).length ≤ 1048600) := by show _ ≤ _; rw [vfs_length, List.length_take]; omega
      have HG : Hid (∀ o, OwnI (wr.alloc o) w.heap.size v0 (vfs (vs.take k)) ∧ Below w.heap.size w (wr.alloc o)) := fun o => ⟨own_below HZ.out.1 (bel_new _ _), HZ.out.2.alloc HZ.out.2.size o⟩
      clear hx
      go_wp2_with (at_builtin; go_must (refine list_i (by rfl) _ _ 38 (by rfl) i0 Tryd.underlying38 hi0 hz0 hz1 hz2 w.heap.size w _ _ (vfs (vs.take k)) x.f (by rfl) (HG.out _).1 (HG.out _).2 (HG.out _).2.size (by rw [Rg.size_new]; rfl) HLN.out ?_; intro v1 w1 o1 b1))
      exact ⟨⟨k + 1, by omega, by go_num, by rw [HS.out]; exact ⟨o1, b1⟩⟩, by simp [intOf]; omega⟩
    · obtain rfl : k = vs.length := by omega
      go_wp2_with fail
      go_ret
      refine ⟨_, rfl, ?_, HZ.out.2⟩
      have := HZ.out.1
      rwa [List.take_length] at this
end Go.Proofs.YtnebohdlndiejaaDoor.Xq
