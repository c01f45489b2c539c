/- The act of a line's words, of the specification: what is none; numbers' bounds. -/
import Derived.Test.YtlhokhccjejcoaaRld
import Derived.Deep.Cut
namespace Go.Proofs.Ytlhokhccjejcoaa.Rl16
open Go.RowKit Go.Lib Go.Proofs.Ytlhokhccjejcoaa.Ap Go.Proofs.Ytlhokhccjejcoaa.Tx
open Go.Proofs.Ytlhokhccjejcoaa.Gr12 (nV nB l00Number_any numberIn_any)
open Go.Proofs.Ytlhokhccjejcoaa.Stw
open Go.Proofs.Ytlhokhccjejcoaa.Gr12 (okD vl vlT vlT_lt vlT_all n_no n_yes okD_at okD_len cpS cpB ldB)
theorem nV_lt (s : ByteArray) : -1000000000000000000 < nV s ∧ nV s < 1000000000000000000 := by
  by_cases h : okD (cpS s).data.toList = true
  · by_cases h2 : ldB (cpB s) (cpS s).data.toList = false
    · have e := (n_yes h h2).1
      have hs : (cpS s).size ≤ 18 := by
        rcases Nat.lt_or_ge 18 (cpS s).size with h3 | h3
        · rw [okD_len (by omega)] at h; cases h
        · exact h3
      have h4 := vlT_lt (cpS s) (cpS s).size (Nat.le_refl _) (fun j hj _ => by
        cases hd : Go.Proofs.Ytlhokhccjejcoaa.Nm.digB (((cpS s)[j]'hj).toNat : Int) with
        | true => rfl
        | false => rw [okD_at hj hd] at h; cases h)
      rw [vlT_all] at h4
      have h5 : (10 : Nat) ^ (cpS s).size ≤ 10 ^ 18 := Nat.pow_le_pow_right (by decide) hs
      have h6 : (10 : Nat) ^ 18 = 1000000000000000000 := by decide
      rw [e]
      split <;> omega
    · have e := (n_no (s := s) (.inr (by simpa using h2))).1
      rw [e]; omega
  · have e := (n_no (s := s) (.inl (by simpa using h))).1
    rw [e]; omega
def opW : Nat → ByteArray
  | 1 => wa1
  | 2 => wa2
  | 3 => wa3
  | _ => wa4
theorem opOf_none {a : ByteArray} (h : ∀ j, 1 ≤ j → j < 5 → a ≠ opW j) : opOf a = 0 := by
  have h1 : a ≠ wa1 := h 1 (by omega) (by omega)
  have h2 : a ≠ wa2 := h 2 (by omega) (by omega)
  have h3 : a ≠ wa3 := h 3 (by omega) (by omega)
  have h4 : a ≠ wa4 := h 4 (by omega) (by omega)
  unfold opOf
  rw [if_neg h1, if_neg h2, if_neg h3, if_neg h4]
theorem opOf_at {k : Nat} (h1 : 1 ≤ k) (h5 : k < 5) : opOf (opW k) = (k : Int) := by
  have : k = 1 ∨ k = 2 ∨ k = 3 ∨ k = 4 := by omega
  rcases this with rfl | rfl | rfl | rfl <;> decide
set_option maxRecDepth 100000 in
set_option maxHeartbeats 1600000 in
theorem l16_none (v : Value) (a : ByteArray) (ts : List ByteArray) (w : World) (h : RowT w v ts) (hne : ts ≠ []) (h0 : ts[0]? = some a) (h3 : ts.length ≠ 3) (h4 : ts.length ≠ 4) (h2 : ts.length = 2 → a ≠ waT) :
    Calls Try.prog 8 #[v] w fun e w' => e = .returned (.tuple #[.agg waZ, .bool false]) ∧ Below w.heap.size w w' := by
  obtain ⟨k, o, cp, rfl, hc, hcell⟩ := row_at h hne
  have HC : Hid (∀ W, Below w.heap.size w W → ∀ i x, ts[i]? = some x → W.cell? ⟨k, o + i, none⟩ = some (.string x)) := fun W hW i x hi => (hW.cell (p := ⟨k, o + i, none⟩) (World.block_lt_of_cell? w ⟨k, o + i, none⟩ (hcell i x hi))).trans (hcell i x hi)
  have H1 : Hid (((w.alloc (.cells #[.int .i64 0, .int .i64 0, .int .i64 0, .int .i64 0, .int .i64 0, .int .i64 0, .string ⟨#[]⟩, .int .i64 0, .int .i64 0, .int .i64 0, .int .i64 0, .int .i64 0, .int .i64 0, .int .i64 0, .string ⟨#[]⟩, .int .i64 0, .int .i64 0, .int .i64 0, .int .i64 0, .string ⟨#[]⟩, .string ⟨#[]⟩, .string ⟨#[]⟩, .int .i64 0, .int .i64 0, .int .i64 0, .int .i64 0] 31)).alloc (.cells #[.string ⟨#[]⟩, .string ⟨#[97, 99, 113, 117, 105, 114, 101]⟩, .string ⟨#[114, 101, 108, 101, 97, 115, 101]⟩, .string ⟨#[114, 101, 110, 101, 119]⟩, .string ⟨#[113, 117, 101, 114, 121]⟩] 9)).heap[w.heap.size]? = some (.cells #[.int .i64 0, .int .i64 0, .int .i64 0, .int .i64 0, .int .i64 0, .int .i64 0, .string ⟨#[]⟩, .int .i64 0, .int .i64 0, .int .i64 0, .int .i64 0, .int .i64 0, .int .i64 0, .int .i64 0, .string ⟨#[]⟩, .int .i64 0, .int .i64 0, .int .i64 0, .int .i64 0, .string ⟨#[]⟩, .string ⟨#[]⟩, .string ⟨#[]⟩, .int .i64 0, .int .i64 0, .int .i64 0, .int .i64 0] 31 (0, 0)) ∧ ((w.alloc (.cells #[.int .i64 0, .int .i64 0, .int .i64 0, .int .i64 0, .int .i64 0, .int .i64 0, .string ⟨#[]⟩, .int .i64 0, .int .i64 0, .int .i64 0, .int .i64 0, .int .i64 0, .int .i64 0, .int .i64 0, .string ⟨#[]⟩, .int .i64 0, .int .i64 0, .int .i64 0, .int .i64 0, .string ⟨#[]⟩, .string ⟨#[]⟩, .string ⟨#[]⟩, .int .i64 0, .int .i64 0, .int .i64 0, .int .i64 0] 31)).alloc (.cells #[.string ⟨#[]⟩, .string ⟨#[97, 99, 113, 117, 105, 114, 101]⟩, .string ⟨#[114, 101, 108, 101, 97, 115, 101]⟩, .string ⟨#[114, 101, 110, 101, 119]⟩, .string ⟨#[113, 117, 101, 114, 121]⟩] 9)).heap[w.heap.size + 1]? = some (.cells #[.string ⟨#[]⟩, .string ⟨#[97, 99, 113, 117, 105, 114, 101]⟩, .string ⟨#[114, 101, 108, 101, 97, 115, 101]⟩, .string ⟨#[114, 101, 110, 101, 119]⟩, .string ⟨#[113, 117, 101, 114, 121]⟩] 9 (0, 0)) ∧ Below w.heap.size w ((w.alloc (.cells #[.int .i64 0, .int .i64 0, .int .i64 0, .int .i64 0, .int .i64 0, .int .i64 0, .string ⟨#[]⟩, .int .i64 0, .int .i64 0, .int .i64 0, .int .i64 0, .int .i64 0, .int .i64 0, .int .i64 0, .string ⟨#[]⟩, .int .i64 0, .int .i64 0, .int .i64 0, .int .i64 0, .string ⟨#[]⟩, .string ⟨#[]⟩, .string ⟨#[]⟩, .int .i64 0, .int .i64 0, .int .i64 0, .int .i64 0] 31)).alloc (.cells #[.string ⟨#[]⟩, .string ⟨#[97, 99, 113, 117, 105, 114, 101]⟩, .string ⟨#[114, 101, 108, 101, 97, 115, 101]⟩, .string ⟨#[114, 101, 110, 101, 119]⟩, .string ⟨#[113, 117, 101, 114, 121]⟩] 9))) :=
    ⟨((bel_new _ _).block _ (by simp)).trans (blk_new _ _ _), (by rw [show w.heap.size + 1 = (w.alloc (.cells #[.int .i64 0, .int .i64 0, .int .i64 0, .int .i64 0, .int .i64 0, .int .i64 0, .string ⟨#[]⟩, .int .i64 0, .int .i64 0, .int .i64 0, .int .i64 0, .int .i64 0, .int .i64 0, .int .i64 0, .string ⟨#[]⟩, .int .i64 0, .int .i64 0, .int .i64 0, .int .i64 0, .string ⟨#[]⟩, .string ⟨#[]⟩, .string ⟨#[]⟩, .int .i64 0, .int .i64 0, .int .i64 0, .int .i64 0] 31)).heap.size by simp]; exact blk_new _ _ _), bel2 _ _ _⟩
  clear h hcell
  have hL3 : ((ts.length : Int) == 3) = false := beq_eq_false_iff_ne.2 (by omega)
  have hL4 : ((ts.length : Int) == 4) = false := beq_eq_false_iff_ne.2 (by omega)
  have hA : (a.toList == [116, 105, 109, 101, 111, 117, 116]) = false ∨ ((ts.length : Int) == 2) = false := by
    by_cases hl : ts.length = 2
    · refine .inl (beq_eq_false_iff_ne.2 fun e => h2 hl ?_)
      rw [ByteArray.toList_eq] at e
      exact ByteArray.ext (Array.toList_inj.1 e)
    · exact .inr (beq_eq_false_iff_ne.2 (by omega))
  clear h2 h3 h4
  go_enter Try.func8, Try.ntmps8
  go_upto_region 2 with fail
  generalize ((w.alloc (.cells #[.int .i64 0, .int .i64 0, .int .i64 0, .int .i64 0, .int .i64 0, .int .i64 0, .string ⟨#[]⟩, .int .i64 0, .int .i64 0, .int .i64 0, .int .i64 0, .int .i64 0, .int .i64 0, .int .i64 0, .string ⟨#[]⟩, .int .i64 0, .int .i64 0, .int .i64 0, .int .i64 0, .string ⟨#[]⟩, .string ⟨#[]⟩, .string ⟨#[]⟩, .int .i64 0, .int .i64 0, .int .i64 0, .int .i64 0] 31)).alloc (.cells #[.string ⟨#[]⟩, .string ⟨#[97, 99, 113, 117, 105, 114, 101]⟩, .string ⟨#[114, 101, 108, 101, 97, 115, 101]⟩, .string ⟨#[114, 101, 110, 101, 119]⟩, .string ⟨#[113, 117, 101, 114, 121]⟩] 9)) = w1 at H1 ⊢
  have c0 : w1.cell? ⟨k, o, none⟩ = some (.string a) := HC.out w1 H1.out.2.2 0 a h0
  have hcI : (0 : Int) < (ts.length : Int) := by
    have := (List.getElem?_eq_some_iff.1 h0).1
    omega
  cases hA2 : (a.toList == [116, 105, 109, 101, 111, 117, 116]) with
  | true =>
    have hL2 : ((ts.length : Int) == 2) = false := hA.resolve_left (by rw [hA2]; decide)
    clear hA
    go_wp2_with (first | (refine wpList_box rfl 31 (.tmp 2) (.tmp 91) rfl (w.heap.size) _ #[.int .i64 0, .int .i64 0, .int .i64 0, .int .i64 0, .int .i64 0, .int .i64 0, .string ⟨#[]⟩, .int .i64 0, .int .i64 0, .int .i64 0, .int .i64 0, .int .i64 0, .int .i64 0, .int .i64 0, .string ⟨#[]⟩, .int .i64 0, .int .i64 0, .int .i64 0, .int .i64 0, .string ⟨#[]⟩, .string ⟨#[]⟩, .string ⟨#[]⟩, .int .i64 0, .int .i64 0, .int .i64 0, .int .i64 0] 31 ?_ ?_ H1.out.1 ?_ ?_ ?_ ?_; go_must ((iterate 3 (first | rfl | kernel_rfl)); (iterate 2 (first | kernel_rfl | rfl)); intro wA Ab Af Ag; simp only [Act.put])))
    replace Ag := Ag H1.out.2.2 (Nat.le_refl _)
    exact res_box2 Try.results8 Ab rfl rfl (by kernel_rfl) (by kernel_rfl) rfl ⟨rfl, Ag⟩
  | false =>
    clear hA
    go_wp2_with (first | (refine wpList_box rfl 31 (.tmp 2) (.tmp 91) rfl (w.heap.size) _ #[.int .i64 0, .int .i64 0, .int .i64 0, .int .i64 0, .int .i64 0, .int .i64 0, .string ⟨#[]⟩, .int .i64 0, .int .i64 0, .int .i64 0, .int .i64 0, .int .i64 0, .int .i64 0, .int .i64 0, .string ⟨#[]⟩, .int .i64 0, .int .i64 0, .int .i64 0, .int .i64 0, .string ⟨#[]⟩, .string ⟨#[]⟩, .string ⟨#[]⟩, .int .i64 0, .int .i64 0, .int .i64 0, .int .i64 0] 31 ?_ ?_ H1.out.1 ?_ ?_ ?_ ?_; go_must ((iterate 3 (first | rfl | kernel_rfl)); (iterate 2 (first | kernel_rfl | rfl)); intro wA Ab Af Ag; simp only [Act.put])))
    replace Ag := Ag H1.out.2.2 (Nat.le_refl _)
    exact res_box2 Try.results8 Ab rfl rfl (by kernel_rfl) (by kernel_rfl) rfl ⟨rfl, Ag⟩
end Go.Proofs.Ytlhokhccjejcoaa.Rl16
