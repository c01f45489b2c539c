/- A line's act, of the program: the closure; what it throws is caught. -/
import Derived.Test.YtlhokhccjejcoaaRlq
namespace Go.Proofs.Ytlhokhccjejcoaa.Rl16
open Go.RowKit Go.Lib Go.Proofs.Ytlhokhccjejcoaa.Ap Go.Proofs.Ytlhokhccjejcoaa.Tx
open Go.Proofs.Ytlhokhccjejcoaa.Gr12 (nV nB l00Number_any numberIn_any)
open Go.Proofs.Ytlhokhccjejcoaa.Stw

set_option maxRecDepth 100000 in
set_option maxHeartbeats 1600000 in
theorem line_any (t : ByteArray) (p q : Nat) (w : World) (ht : t.size ≤ 70000) (hp : w.cell? ⟨p, 0, none⟩ = some (.string t)) (hq : w.heap[q]? = some (.cells #[.int .i64 0, .int .i64 0, .int .i64 0, .int .i64 0, .int .i64 0, .int .i64 0, .string ⟨#[]⟩, .int .i64 0, .int .i64 0, .int .i64 0, .int .i64 0, .int .i64 0, .int .i64 0, .int .i64 0, .string ⟨#[]⟩, .int .i64 0, .int .i64 0, .int .i64 0, .int .i64 0, .string ⟨#[]⟩, .string ⟨#[]⟩, .string ⟨#[]⟩, .int .i64 0, .int .i64 0, .int .i64 0, .int .i64 0] 31 (0, 0))) :
    Calls Try.prog 10 #[.pointer (some ⟨p, 0, none⟩), .pointer (some ⟨q, 0, none⟩)] w fun e w' =>
      ((∃ kd cl op le nm gk gn, rlA (words t) = some (waC kd cl op le nm gk gn) ∧ e = .returned (.tuple #[]) ∧ w'.heap[q]? = some (.cells (waC kd cl op le nm gk gn) 31 (0, 0)) ∧ (∀ k, k ≠ q → k < w.heap.size → w'.heap[k]? = w.heap[k]?) ∧ ∀ {B : Nat} {w0 : World}, Below B w0 w → B ≤ q → B ≤ w.heap.size → Below B w0 w') ∨
       (rlA (words t) = none ∧ PanB e ∧ Below w.heap.size w w')) := by
  have HS := sentenceIn_any t w ht
  have HQ : Hid (w.heap[q]? = some (.cells #[.int .i64 0, .int .i64 0, .int .i64 0, .int .i64 0, .int .i64 0, .int .i64 0, .string ⟨#[]⟩, .int .i64 0, .int .i64 0, .int .i64 0, .int .i64 0, .int .i64 0, .int .i64 0, .int .i64 0, .string ⟨#[]⟩, .int .i64 0, .int .i64 0, .int .i64 0, .int .i64 0, .string ⟨#[]⟩, .string ⟨#[]⟩, .string ⟨#[]⟩, .int .i64 0, .int .i64 0, .int .i64 0, .int .i64 0] 31 (0, 0))) := hq
  have HW : Hid (∀ s ∈ snt (words t), s.size ≤ 70000) := fun s hs => by
    have : s ∈ words t := by
      unfold snt at hs
      split at hs
      · cases hs
      · exact hs
    have := words_size this
    omega
  have HE : Hid (rlA (snt (words t)) = rlA (words t)) := rl_snt _
  clear hq ht
  go_enter Try.func10, Try.ntmps10
  go_wp2_with fail
  refine HS.mono ?_
  rintro e w1 ⟨v, rfl, hr, b1⟩
  have HO := order_any v (snt (words t)) w1 hr HW.out
  clear hr HS hp
  go_wp2_with fail
  refine HO.mono ?_
  rintro e w2 ⟨he, b2⟩
  have B2 : Hid (Below w.heap.size w w2) := b1.trans (b2.mono b1.size)
  clear b1 b2 HO
  rcases he with ⟨kd, cl, op, le, nm, gk, gn, hS, rfl⟩ | ⟨hN, ⟨pv, rfl, hbd⟩ | ⟨z, rfl⟩⟩
  · have HS : Hid (rlA (words t) = some (waC kd cl op le nm gk gn)) := HE.out.symm.trans hS
    have ht := ta_act (waC kd cl op le nm gk gn) w2
    have HZ : Hid (w2.heap[q]? = some (.cells #[.int .i64 0, .int .i64 0, .int .i64 0, .int .i64 0, .int .i64 0, .int .i64 0, .string ⟨#[]⟩, .int .i64 0, .int .i64 0, .int .i64 0, .int .i64 0, .int .i64 0, .int .i64 0, .int .i64 0, .string ⟨#[]⟩, .int .i64 0, .int .i64 0, .int .i64 0, .int .i64 0, .string ⟨#[]⟩, .string ⟨#[]⟩, .string ⟨#[]⟩, .int .i64 0, .int .i64 0, .int .i64 0, .int .i64 0] 31 (0, 0))) := (B2.out.block _ (Array.getElem?_eq_some_iff.1 HQ.out).1).trans HQ.out
    clear hS
    go_wp2_with (first | (refine wpList_box rfl 31 (.tmp 1) (.tmp 5) rfl (q) _ (waC kd cl op le nm gk gn) 31 ?_ ?_ HZ.out ?_ ?_ ?_ ?_; go_must ((iterate 3 (first | rfl | kernel_rfl)); (iterate 2 (first | kernel_rfl | rfl)); intro wA Ab Af Ag; simp only [Act.put])))
    exact ⟨rfl, _, results_none Try.results10 _ _ _, .inl ⟨kd, cl, op, le, nm, gk, gn, HS.out, rfl, Ab, fun k hk hlt => (Af k hk).trans (B2.out.block k hlt), fun hb hB hB2 => Ag (hb.trans (B2.out.mono hB2)) hB⟩⟩
  · have HN : Hid (rlA (words t) = none) := HE.out.symm.trans hN
    clear hN
    go_wp2_with fail
    exact ⟨rfl, .inr ⟨HN.out, ⟨pv, rfl, hbd⟩, B2.out⟩⟩
  · have HN : Hid (rlA (words t) = none) := HE.out.symm.trans hN
    obtain ⟨cs, ty, ht⟩ := ta_bad2 z w2
    clear hN
    go_wp2_with fail
    exact ⟨rfl, .inr ⟨HN.out, panB2 _, B2.out.trans ((bel_new w2 _).mono B2.out.size)⟩⟩
end Go.Proofs.Ytlhokhccjejcoaa.Rl16
