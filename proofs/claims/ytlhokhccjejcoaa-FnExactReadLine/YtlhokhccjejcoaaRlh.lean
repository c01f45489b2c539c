/- The act of a line's words, of the specification, whole; ReadLine of the specification. -/
import Derived.Test.YtlhokhccjejcoaaRlg
namespace Go.Proofs.Ytlhokhccjejcoaa.Rl16
open Go.RowKit Go.Lib Go.Proofs.Ytlhokhccjejcoaa.Ap Go.Proofs.Ytlhokhccjejcoaa.Tx
open Go.Proofs.Ytlhokhccjejcoaa.Gr12 (nV nB l00Number_any numberIn_any)
open Go.Proofs.Ytlhokhccjejcoaa.Stw

theorem l16Read_any (v : Value) : ∀ (ts : List ByteArray) (w : World), RowT w v ts → ts ≠ [] → (∀ s ∈ ts, s.size ≤ 70000) → Calls Try.prog 8 #[v] w fun e w' => RdP ts e ∧ Below w.heap.size w w'
  | [], _, _, h, _ => absurd rfl h
  | [a], w, h, hne, _ => by
    refine (l16_none v a [a] w h hne rfl (by simp) (by simp) (by simp)).mono ?_
    rintro e w' ⟨rfl, b⟩
    exact ⟨rdP (kd := 0) rfl (fun U hU => by cases hU), b⟩
  | [a, b], w, h, hne, hz => by
    by_cases ha : a = waT
    · exact l16_try v a b [a, b] w h hne (hz b (by simp)) rfl rfl rfl ha
    · refine (l16_none v a [a, b] w h hne rfl (by simp) (by simp) (fun _ => ha)).mono ?_
      rintro e w' ⟨rfl, bb⟩
      have e0 : rlA [a, b] = none := by simp [rlA, ha]
      exact ⟨rdP (kd := 0) (by rw [e0]; rfl) (fun U hU => by rw [e0] at hU; cases hU), bb⟩
  | [a, b, c], w, h, hne, hz => l16_ops3 v a b c [a, b, c] w h hne (hz b (by simp)) rfl rfl rfl rfl
  | [a, b, c, d], w, h, hne, hz => l16_ops4 v a b c d [a, b, c, d] w h hne (hz b (by simp)) (hz d (by simp)) rfl rfl rfl rfl rfl
  | a :: b :: c :: d :: x :: r, w, h, hne, _ => by
    refine (l16_none v a _ w h hne rfl (by simp) (by simp) (by simp)).mono ?_
    rintro e w' ⟨rfl, bb⟩
    exact ⟨rdP (kd := 0) rfl (fun U hU => by cases hU), bb⟩
def rlV (t : ByteArray) : Array Value := if 65536 < t.size then waZ else (rlA (words t)).getD waZ
def rlC (t : ByteArray) : Int := if 65536 < t.size then 2 else if (rlA (words t)).isSome then 0 else 3
theorem rl_long {t : ByteArray} (h : 65536 < t.size) : rlV t = waZ ∧ rlC t = 2 := by unfold rlV rlC; rw [if_pos h, if_pos h]; exact ⟨rfl, rfl⟩
theorem rl_none {t : ByteArray} (h : ¬ 65536 < t.size) (e : rlA (words t) = none) : rlV t = waZ ∧ rlC t = 3 := by unfold rlV rlC; rw [if_neg h, if_neg h, e]; exact ⟨rfl, rfl⟩
theorem rl_some {t : ByteArray} {U : Array Value} (h : ¬ 65536 < t.size) (e : rlA (words t) = some U) : rlV t = U ∧ rlC t = 0 := by unfold rlV rlC; rw [if_neg h, if_neg h, e]; exact ⟨rfl, rfl⟩
set_option maxRecDepth 100000 in
set_option maxHeartbeats 3200000 in
theorem specReadLine_any (t : ByteArray) (w : World) (ht : t.size ≤ 1048576) :
    Calls Try.prog 4 #[.string t] w fun e w' => e = .returned (.tuple #[.agg (rlV t), .int .i64 (rlC t)]) ∧ Below w.heap.size w w' := by
  have H0 : Hid ((w.alloc (.cells #[.int .i64 0, .int .i64 0, .int .i64 0, .int .i64 0, .int .i64 0, .int .i64 0, .string ⟨#[]⟩, .int .i64 0, .int .i64 0, .int .i64 0, .int .i64 0, .int .i64 0, .int .i64 0, .int .i64 0, .string ⟨#[]⟩, .int .i64 0, .int .i64 0, .int .i64 0, .int .i64 0, .string ⟨#[]⟩, .string ⟨#[]⟩, .string ⟨#[]⟩, .int .i64 0, .int .i64 0, .int .i64 0, .int .i64 0] 31)).heap[w.heap.size]? = some (.cells #[.int .i64 0, .int .i64 0, .int .i64 0, .int .i64 0, .int .i64 0, .int .i64 0, .string ⟨#[]⟩, .int .i64 0, .int .i64 0, .int .i64 0, .int .i64 0, .int .i64 0, .int .i64 0, .int .i64 0, .string ⟨#[]⟩, .int .i64 0, .int .i64 0, .int .i64 0, .int .i64 0, .string ⟨#[]⟩, .string ⟨#[]⟩, .string ⟨#[]⟩, .int .i64 0, .int .i64 0, .int .i64 0, .int .i64 0] 31 (0, 0)) ∧ Below w.heap.size w (w.alloc (.cells #[.int .i64 0, .int .i64 0, .int .i64 0, .int .i64 0, .int .i64 0, .int .i64 0, .string ⟨#[]⟩, .int .i64 0, .int .i64 0, .int .i64 0, .int .i64 0, .int .i64 0, .int .i64 0, .int .i64 0, .string ⟨#[]⟩, .int .i64 0, .int .i64 0, .int .i64 0, .int .i64 0, .string ⟨#[]⟩, .string ⟨#[]⟩, .string ⟨#[]⟩, .int .i64 0, .int .i64 0, .int .i64 0, .int .i64 0] 31))) := ⟨blk_new _ _ _, bel_new _ _⟩
  by_cases hl : 65536 < t.size
  · have HE : Hid (rlV t = waZ ∧ rlC t = 2) := rl_long hl
    have h1 : (65536 : Int) < (t.size : Int) := by omega
    go_enter Try.func4, Try.ntmps4
    go_upto_region 1 with fail
    generalize (w.alloc (.cells #[.int .i64 0, .int .i64 0, .int .i64 0, .int .i64 0, .int .i64 0, .int .i64 0, .string ⟨#[]⟩, .int .i64 0, .int .i64 0, .int .i64 0, .int .i64 0, .int .i64 0, .int .i64 0, .int .i64 0, .string ⟨#[]⟩, .int .i64 0, .int .i64 0, .int .i64 0, .int .i64 0, .string ⟨#[]⟩, .string ⟨#[]⟩, .string ⟨#[]⟩, .int .i64 0, .int .i64 0, .int .i64 0, .int .i64 0] 31)) = w0 at H0 ⊢
    go_wp2_with (first | (refine wpList_box rfl 31 (.tmp 2) (.tmp 10) rfl (w.heap.size) _ #[.int .i64 0, .int .i64 0, .int .i64 0, .int .i64 0, .int .i64 0, .int .i64 0, .string ⟨#[]⟩, .int .i64 0, .int .i64 0, .int .i64 0, .int .i64 0, .int .i64 0, .int .i64 0, .int .i64 0, .string ⟨#[]⟩, .int .i64 0, .int .i64 0, .int .i64 0, .int .i64 0, .string ⟨#[]⟩, .string ⟨#[]⟩, .string ⟨#[]⟩, .int .i64 0, .int .i64 0, .int .i64 0, .int .i64 0] 31 ?_ ?_ H0.out.1 ?_ ?_ ?_ ?_; go_must ((iterate 3 (first | rfl | kernel_rfl)); (iterate 2 (first | kernel_rfl | rfl)); intro wA Ab Af Ag; simp only [Act.put])))
    refine res_box2 Try.results4 Ab rfl rfl (by kernel_rfl) (by kernel_rfl) rfl ?_
    exact ⟨by rw [HE.out.1, HE.out.2]; rfl, Ag H0.out.2 (Nat.le_refl _)⟩
  have h1 : ¬ (65536 : Int) < (t.size : Int) := by omega
  have HSM : Hid (∀ s ∈ words t, s.size ≤ 70000) := fun s hs => by have := words_size hs; omega
  have HWD : Hid (∀ W, Calls Try.prog 7 #[.string t] W fun e w' => ∃ v, e = .returned v ∧ RowT w' v (words t) ∧ Below W.heap.size W w') := fun W => l00Words_any t W (by omega)
  have HLN : Hid (¬ 65536 < t.size) := hl
  clear hl ht
  go_enter Try.func4, Try.ntmps4
  go_upto_region 1 with fail
  generalize (w.alloc (.cells #[.int .i64 0, .int .i64 0, .int .i64 0, .int .i64 0, .int .i64 0, .int .i64 0, .string ⟨#[]⟩, .int .i64 0, .int .i64 0, .int .i64 0, .int .i64 0, .int .i64 0, .int .i64 0, .int .i64 0, .string ⟨#[]⟩, .int .i64 0, .int .i64 0, .int .i64 0, .int .i64 0, .string ⟨#[]⟩, .string ⟨#[]⟩, .string ⟨#[]⟩, .int .i64 0, .int .i64 0, .int .i64 0, .int .i64 0] 31)) = w0 at H0 ⊢
  go_wp2_with fail
  refine (HWD.out _).mono ?_
  rintro e w1 ⟨v, rfl, hr, b1⟩
  have H1 : Hid (w1.heap[w.heap.size]? = some (.cells #[.int .i64 0, .int .i64 0, .int .i64 0, .int .i64 0, .int .i64 0, .int .i64 0, .string ⟨#[]⟩, .int .i64 0, .int .i64 0, .int .i64 0, .int .i64 0, .int .i64 0, .int .i64 0, .int .i64 0, .string ⟨#[]⟩, .int .i64 0, .int .i64 0, .int .i64 0, .int .i64 0, .string ⟨#[]⟩, .string ⟨#[]⟩, .string ⟨#[]⟩, .int .i64 0, .int .i64 0, .int .i64 0, .int .i64 0] 31 (0, 0)) ∧ Below w.heap.size w w1 ∧ RowT w1 v (words t)) := ⟨(b1.block _ (Array.getElem?_eq_some_iff.1 H0.out.1).1).trans H0.out.1, H0.out.2.trans (b1.mono H0.out.2.size), hr⟩
  obtain ⟨xa, xc, rfl⟩ : ∃ xa xc, v = .slice xa (words t).length xc := ⟨_, _, hr.choose_spec.choose_spec.1⟩
  clear hr b1 H0
  by_cases hw : words t = []
  · have HE : Hid (rlV t = waZ ∧ rlC t = 3) := rl_none HLN.out (by rw [hw]; rfl)
    have hn : (((words t).length : Int) == 0) = true := beq_iff_eq.2 (by rw [hw]; rfl)
    clear hw
    go_wp2_with (first | (refine wpList_box rfl 31 (.tmp 2) (.tmp 16) rfl (w.heap.size) _ #[.int .i64 0, .int .i64 0, .int .i64 0, .int .i64 0, .int .i64 0, .int .i64 0, .string ⟨#[]⟩, .int .i64 0, .int .i64 0, .int .i64 0, .int .i64 0, .int .i64 0, .int .i64 0, .int .i64 0, .string ⟨#[]⟩, .int .i64 0, .int .i64 0, .int .i64 0, .int .i64 0, .string ⟨#[]⟩, .string ⟨#[]⟩, .string ⟨#[]⟩, .int .i64 0, .int .i64 0, .int .i64 0, .int .i64 0] 31 ?_ ?_ H1.out.1 ?_ ?_ ?_ ?_; go_must ((iterate 3 (first | rfl | kernel_rfl)); (iterate 2 (first | kernel_rfl | rfl)); intro wA Ab Af Ag; simp only [Act.put])))
    refine res_box2 Try.results4 Ab rfl rfl (by kernel_rfl) (by kernel_rfl) rfl ?_
    exact ⟨by rw [HE.out.1, HE.out.2]; rfl, Ag H1.out.2.1 (Nat.le_refl _)⟩
  have hn : (((words t).length : Int) == 0) = false := beq_eq_false_iff_ne.2 (by have := List.length_pos_iff.2 hw; omega)
  have HRD := l16Read_any _ (words t) w1 H1.out.2.2 hw HSM.out
  clear hw
  go_wp2_with fail
  refine HRD.mono ?_
  rintro e w2 ⟨⟨kd, cl, op, le, nm, gk, gn, ok, rfl, hok, hV⟩, b2⟩
  have HZ : Hid (w2.heap[w.heap.size]? = some (.cells #[.int .i64 0, .int .i64 0, .int .i64 0, .int .i64 0, .int .i64 0, .int .i64 0, .string ⟨#[]⟩, .int .i64 0, .int .i64 0, .int .i64 0, .int .i64 0, .int .i64 0, .int .i64 0, .int .i64 0, .string ⟨#[]⟩, .int .i64 0, .int .i64 0, .int .i64 0, .int .i64 0, .string ⟨#[]⟩, .string ⟨#[]⟩, .string ⟨#[]⟩, .int .i64 0, .int .i64 0, .int .i64 0, .int .i64 0] 31 (0, 0)) ∧ w.heap.size < w2.heap.size ∧ w.heap.size ≠ w2.heap.size ∧ Below w.heap.size w w2) := by
    have h3 := (b2.block _ (Array.getElem?_eq_some_iff.1 H1.out.1).1).trans H1.out.1
    have h4 := (Array.getElem?_eq_some_iff.1 h3).1
    exact ⟨h3, h4, Nat.ne_of_lt h4, H1.out.2.1.trans (b2.mono H1.out.2.1.size)⟩
  have HV : Hid (ok = (rlA (words t)).isSome ∧ ∀ U, rlA (words t) = some U → waC kd cl op le nm gk gn = U) := ⟨hok, hV⟩
  clear hok hV b2 HRD hn H1
  cases ok with
  | false =>
    have HE : Hid (rlV t = waZ ∧ rlC t = 3) := rl_none HLN.out (by have := HV.out.1; simpa using this.symm)
    go_wp2_with (first | (refine wpList_box rfl 31 (.tmp 5) (.tmp 20) rfl (w2.heap.size) _ (waC kd cl op le nm gk gn) 31 ?_ ?_ (blk_new _ _ _) ?_ ?_ ?_ ?_; go_must ((iterate 3 (first | rfl | kernel_rfl)); (iterate 2 (first | kernel_rfl | rfl)); intro wB Bb Bf Bg; simp only [Act.put])) | (refine wpList_box rfl 31 (.tmp 2) (.tmp 24) rfl (w.heap.size) _ #[.int .i64 0, .int .i64 0, .int .i64 0, .int .i64 0, .int .i64 0, .int .i64 0, .string ⟨#[]⟩, .int .i64 0, .int .i64 0, .int .i64 0, .int .i64 0, .int .i64 0, .int .i64 0, .int .i64 0, .string ⟨#[]⟩, .int .i64 0, .int .i64 0, .int .i64 0, .int .i64 0, .string ⟨#[]⟩, .string ⟨#[]⟩, .string ⟨#[]⟩, .int .i64 0, .int .i64 0, .int .i64 0, .int .i64 0] 31 ?_ ?_ ((Bf _ HZ.out.2.2.1).trans (((bel_new w2 _).block _ HZ.out.2.1).trans HZ.out.1)) ?_ ?_ ?_ ?_; go_must ((iterate 3 (first | rfl | kernel_rfl)); (iterate 2 (first | kernel_rfl | rfl)); intro wA Ab Af Ag; simp only [Act.put])))
    refine res_box2 Try.results4 Ab rfl rfl (by kernel_rfl) (by kernel_rfl) rfl ?_
    exact ⟨by rw [HE.out.1, HE.out.2]; rfl, Ag (Bg (HZ.out.2.2.2.trans ((bel_new w2 _).mono HZ.out.2.2.2.size)) HZ.out.2.2.2.size) (Nat.le_refl _)⟩
  | true =>
    obtain ⟨U, hU⟩ : ∃ U, rlA (words t) = some U := Option.isSome_iff_exists.1 HV.out.1.symm
    have HE : Hid (rlV t = waC kd cl op le nm gk gn ∧ rlC t = 0) := by rw [HV.out.2 U hU]; exact rl_some HLN.out hU
    clear hU
    go_wp2_with (first | (refine wpList_box rfl 31 (.tmp 5) (.tmp 20) rfl (w2.heap.size) _ (waC kd cl op le nm gk gn) 31 ?_ ?_ (blk_new _ _ _) ?_ ?_ ?_ ?_; go_must ((iterate 3 (first | rfl | kernel_rfl)); (iterate 2 (first | kernel_rfl | rfl)); intro wB Bb Bf Bg; simp only [Act.put])) | (refine wpList_ldbox rfl 31 (.tmp 5) rfl (w2.heap.size) (waC kd cl op le nm gk gn) 31 ?_ Bb ?_ ?_ ?_; go_must ((first | rfl | kernel_rfl); (iterate 2 kernel_rfl); simp only [Act.put])) | (refine wpList_box rfl 31 (.tmp 2) (.tmp 25) rfl (w.heap.size) _ (waC kd cl op le nm gk gn) 31 ?_ ?_ ((Bf _ HZ.out.2.2.1).trans (((bel_new w2 _).block _ HZ.out.2.1).trans HZ.out.1)) ?_ ?_ ?_ ?_; go_must ((iterate 3 (first | rfl | kernel_rfl)); (iterate 2 (first | kernel_rfl | rfl)); intro wA Ab Af Ag; simp only [Act.put])))
    refine res_box2 Try.results4 Ab rfl rfl (by kernel_rfl) (by kernel_rfl) rfl ?_
    exact ⟨by rw [HE.out.1, HE.out.2]; rfl, Ag (Bg (HZ.out.2.2.2.trans ((bel_new w2 _).mono HZ.out.2.2.2.size)) HZ.out.2.2.2.size) (Nat.le_refl _)⟩
end Go.Proofs.Ytlhokhccjejcoaa.Rl16
