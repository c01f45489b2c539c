/- The act of a line's words, of the specification: the walk. -/
import Derived.Test.YtlhokhccjejcoaaRlc2
import Derived.Test.YtlhokhccjejcoaaStw
import Derived.Deep.QuietTactic
import Derived.BigQuiet
namespace Go.Proofs.Ytlhokhccjejcoaa.Rl16
open Go.RowKit Go.Lib Go.Proofs.Ytlhokhccjejcoaa.Ap Go.Proofs.Ytlhokhccjejcoaa.Tx
open Go.Proofs.Ytlhokhccjejcoaa.Gr12 (nV nB l00Number_any numberIn_any)
open Go.Proofs.Ytlhokhccjejcoaa.Stw
set_option maxRecDepth 100000 in
set_option maxHeartbeats 1600000 in
theorem l16_try (v : Value) (a b : ByteArray) (ts : List ByteArray) (w : World) (h : RowT w v ts) (hne : ts ≠ []) (hb : b.size ≤ 70000) (h0 : ts[0]? = some a) (h1 : ts[1]? = some b) (hl : ts.length = 2) (ha : a = waT) :
    Calls Try.prog 8 #[v] w fun e w' => RdP [a, b] e ∧ Below w.heap.size w w' := by
  obtain ⟨k, o, cp, rfl, hc, hcell⟩ := row_at h hne
  have HC : Hid (∀ W, Below w.heap.size w W → ∀ i x, ts[i]? = some x → W.cell? ⟨k, o + i, none⟩ = some (.string x)) := fun W hW i x hi => (hW.cell (p := ⟨k, o + i, none⟩) (World.block_lt_of_cell? w ⟨k, o + i, none⟩ (hcell i x hi))).trans (hcell i x hi)
  have H1 : Hid (((w.alloc (.cells #[.int .i64 0, .int .i64 0, .int .i64 0, .int .i64 0, .int .i64 0, .int .i64 0, .string ⟨#[]⟩, .int .i64 0, .int .i64 0, .int .i64 0, .int .i64 0, .int .i64 0, .int .i64 0, .int .i64 0, .string ⟨#[]⟩, .int .i64 0, .int .i64 0, .int .i64 0, .int .i64 0, .string ⟨#[]⟩, .string ⟨#[]⟩, .string ⟨#[]⟩, .int .i64 0, .int .i64 0, .int .i64 0, .int .i64 0] 31)).alloc (.cells #[.string ⟨#[]⟩, .string ⟨#[97, 99, 113, 117, 105, 114, 101]⟩, .string ⟨#[114, 101, 108, 101, 97, 115, 101]⟩, .string ⟨#[114, 101, 110, 101, 119]⟩, .string ⟨#[113, 117, 101, 114, 121]⟩] 9)).heap[w.heap.size]? = some (.cells #[.int .i64 0, .int .i64 0, .int .i64 0, .int .i64 0, .int .i64 0, .int .i64 0, .string ⟨#[]⟩, .int .i64 0, .int .i64 0, .int .i64 0, .int .i64 0, .int .i64 0, .int .i64 0, .int .i64 0, .string ⟨#[]⟩, .int .i64 0, .int .i64 0, .int .i64 0, .int .i64 0, .string ⟨#[]⟩, .string ⟨#[]⟩, .string ⟨#[]⟩, .int .i64 0, .int .i64 0, .int .i64 0, .int .i64 0] 31 (0, 0)) ∧ ((w.alloc (.cells #[.int .i64 0, .int .i64 0, .int .i64 0, .int .i64 0, .int .i64 0, .int .i64 0, .string ⟨#[]⟩, .int .i64 0, .int .i64 0, .int .i64 0, .int .i64 0, .int .i64 0, .int .i64 0, .int .i64 0, .string ⟨#[]⟩, .int .i64 0, .int .i64 0, .int .i64 0, .int .i64 0, .string ⟨#[]⟩, .string ⟨#[]⟩, .string ⟨#[]⟩, .int .i64 0, .int .i64 0, .int .i64 0, .int .i64 0] 31)).alloc (.cells #[.string ⟨#[]⟩, .string ⟨#[97, 99, 113, 117, 105, 114, 101]⟩, .string ⟨#[114, 101, 108, 101, 97, 115, 101]⟩, .string ⟨#[114, 101, 110, 101, 119]⟩, .string ⟨#[113, 117, 101, 114, 121]⟩] 9)).heap[w.heap.size + 1]? = some (.cells #[.string ⟨#[]⟩, .string ⟨#[97, 99, 113, 117, 105, 114, 101]⟩, .string ⟨#[114, 101, 108, 101, 97, 115, 101]⟩, .string ⟨#[114, 101, 110, 101, 119]⟩, .string ⟨#[113, 117, 101, 114, 121]⟩] 9 (0, 0)) ∧ Below w.heap.size w ((w.alloc (.cells #[.int .i64 0, .int .i64 0, .int .i64 0, .int .i64 0, .int .i64 0, .int .i64 0, .string ⟨#[]⟩, .int .i64 0, .int .i64 0, .int .i64 0, .int .i64 0, .int .i64 0, .int .i64 0, .int .i64 0, .string ⟨#[]⟩, .int .i64 0, .int .i64 0, .int .i64 0, .int .i64 0, .string ⟨#[]⟩, .string ⟨#[]⟩, .string ⟨#[]⟩, .int .i64 0, .int .i64 0, .int .i64 0, .int .i64 0] 31)).alloc (.cells #[.string ⟨#[]⟩, .string ⟨#[97, 99, 113, 117, 105, 114, 101]⟩, .string ⟨#[114, 101, 108, 101, 97, 115, 101]⟩, .string ⟨#[114, 101, 110, 101, 119]⟩, .string ⟨#[113, 117, 101, 114, 121]⟩] 9))) :=
    ⟨((bel_new _ _).block _ (by simp)).trans (blk_new _ _ _), (by rw [show w.heap.size + 1 = (w.alloc (.cells #[.int .i64 0, .int .i64 0, .int .i64 0, .int .i64 0, .int .i64 0, .int .i64 0, .string ⟨#[]⟩, .int .i64 0, .int .i64 0, .int .i64 0, .int .i64 0, .int .i64 0, .int .i64 0, .int .i64 0, .string ⟨#[]⟩, .int .i64 0, .int .i64 0, .int .i64 0, .int .i64 0, .string ⟨#[]⟩, .string ⟨#[]⟩, .string ⟨#[]⟩, .int .i64 0, .int .i64 0, .int .i64 0, .int .i64 0] 31)).heap.size by simp]; exact blk_new _ _ _), bel2 _ _ _⟩
  clear h hcell
  rw [hl] at *
  have hA : (a.toList == [116, 105, 109, 101, 111, 117, 116]) = true := by rw [ByteArray.toList_eq, ha]; rfl
  have HT : Hid (a = waT) := ha
  clear ha
  go_enter Try.func8, Try.ntmps8
  go_upto_region 2 with fail
  generalize ((w.alloc (.cells #[.int .i64 0, .int .i64 0, .int .i64 0, .int .i64 0, .int .i64 0, .int .i64 0, .string ⟨#[]⟩, .int .i64 0, .int .i64 0, .int .i64 0, .int .i64 0, .int .i64 0, .int .i64 0, .int .i64 0, .string ⟨#[]⟩, .int .i64 0, .int .i64 0, .int .i64 0, .int .i64 0, .string ⟨#[]⟩, .string ⟨#[]⟩, .string ⟨#[]⟩, .int .i64 0, .int .i64 0, .int .i64 0, .int .i64 0] 31)).alloc (.cells #[.string ⟨#[]⟩, .string ⟨#[97, 99, 113, 117, 105, 114, 101]⟩, .string ⟨#[114, 101, 108, 101, 97, 115, 101]⟩, .string ⟨#[114, 101, 110, 101, 119]⟩, .string ⟨#[113, 117, 101, 114, 121]⟩] 9)) = w1 at H1 ⊢
  have c0 : w1.cell? ⟨k, o, none⟩ = some (.string a) := HC.out w1 H1.out.2.2 0 a h0
  have c1 : w1.cell? ⟨k, o + 1, none⟩ = some (.string b) := HC.out w1 H1.out.2.2 1 b h1
  go_wp2_with (first | (go_at_call 15; refine (l00Number_any b _ hb).mono ?_; rintro e w2 ⟨rfl, hw⟩; rw [hw]; clear hw) | (refine wpList_box rfl 31 (.tmp 2) (.tmp 33) rfl (w.heap.size) _ #[.int .i64 1, .int .i64 0, .int .i64 0, .int .i64 0, .int .i64 0, .int .i64 0, .string ⟨#[]⟩, .int .i64 5, .int .i64 (nV b), .int .i64 0, .int .i64 0, .int .i64 0, .int .i64 0, .int .i64 0, .string ⟨#[]⟩, .int .i64 0, .int .i64 0, .int .i64 0, .int .i64 0, .string ⟨#[]⟩, .string ⟨#[]⟩, .string ⟨#[]⟩, .int .i64 0, .int .i64 0, .int .i64 0, .int .i64 0] 31 ?_ ?_ H1.out.1 ?_ ?_ ?_ ?_; go_must ((iterate 3 (first | rfl | kernel_rfl)); (iterate 2 (first | kernel_rfl | rfl)); intro wA Ab Af Ag; simp only [Act.put])))
  replace Ag := Ag H1.out.2.2 (Nat.le_refl _)
  refine res_box2 Try.results8 Ab rfl rfl (by kernel_rfl) (by kernel_rfl) rfl ?_
  exact ⟨rdP (by cases h : nB b <;> simp [rlA, HT.out, h]) (fun U hU => by simp only [rlA] at hU; split at hU <;> first | (cases hU; rfl) | cases hU), Ag⟩
end Go.Proofs.Ytlhokhccjejcoaa.Rl16
