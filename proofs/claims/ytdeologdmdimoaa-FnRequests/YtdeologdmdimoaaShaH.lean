/- impl.wordsText and impl.Hash. -/
import Derived.Test.YtdeologdmdimoaaShaP
import Derived.Laws.BytesArg
import Derived.Lib.SlBytesRow
namespace Go.Proofs.Ytdeologdmdimoaa.Sh
open Go.RowKit Go.Proofs.Ytdeologdmdimoaa.Sl Go.Proofs.Ytdeologdmdimoaa.Me

def zeros32 : Array Value := Array.replicate 32 (.int .u8 0)
def OutTo (r : R8) (k : Nat) (A : Array Value) : Prop := A.size = 32 ∧ ∀ j, j < k → A[j]? = some (.int .u8 (byteOf (at8 r (j / 4)) (j % 4)))
theorem out_step {r : R8} {k : Nat} {A : Array Value} (h : OutTo r k A) (hk : k < 32) : OutTo r (k + 1) (A.setIfInBounds k (.int .u8 (byteOf (at8 r (k / 4)) (k % 4)))) := by
  refine ⟨by rw [Array.size_setIfInBounds]; exact h.1, fun j hj => ?_⟩
  rw [Array.getElem?_setIfInBounds]
  by_cases e : k = j
  · subst e
    rw [if_pos rfl, if_pos (by rw [h.1]; exact hk)]
  · rw [if_neg e]
    exact h.2 j (by omega)

/-- What both Hash functions answer. -/
def hashS (xs : List Int) : ByteArray := if 65536 < xs.length then ⟨#[]⟩ else strOfNums (sha xs)
theorem ret_str {a b : ByteArray} (h : a = b) : Ending.returned (.string a) = .returned (.string b) := by rw [h]
theorem size1 (W : World) : (Go.sizeOf 5).run Try.prog W = .ok 1 W := by kernel_rfl
/-- 'padded[at:at+64]'. -/
theorem slice64 (n b q : Nat) (h : 64 * q + 64 ≤ n) (W : World) :
    (Instr.slice 33 (.slice (some ⟨b, 0, none⟩) n n) (some (.int .i64 (64 * (q : Int)))) (some (.int .i64 (64 * (q : Int) + 64))) none).run Try.prog W = .ok (.slice (some ⟨b, 64 * q, none⟩) 64 (n - 64 * q)) W := by
  have := Lib.run_slice_window (P := Try.prog) W 33 5 Try.underlying33 size1 b 0 n n (64 * q) (64 * q + 64) (by omega) h
  rw [Nat.zero_add, show 64 * q + 64 - 64 * q = 64 by omega] at this
  rw [← this]
  rfl
/-- Part q of padded bytes. -/
theorem cut_row {w : World} {ps : List Int} {b off : Nat} (hb : b < w.heap.size) (hcell : ∀ i, i < ps.length → w.cell? ⟨b, off + i, none⟩ = some (.int .u8 (nth ps i))) (hr : ∀ x ∈ ps, 0 ≤ x ∧ x ≤ 255) (q : Nat) (hq : 64 * q + 64 ≤ ps.length) (c : Nat) (hc : 64 ≤ c) :
    RowB w (.slice (some ⟨b, off + 64 * q, none⟩) 64 c) (cut ps q) ∧ (cut ps q).length = 64 := by
  have hl : (cut ps q).length = 64 := by unfold cut; rw [List.length_take, List.length_drop]; omega
  refine ⟨⟨_, c, by rw [hl], .inr ⟨b, off + 64 * q, rfl, by rw [hl]; exact hc, hb, fun i hi => ?_⟩, fun x hx => ?_⟩, hl⟩
  · rw [hl] at hi
    rw [Nat.add_assoc, hcell (64 * q + i) (by omega)]
    unfold nth cut
    rw [List.getD_eq_getElem?_getD, List.getD_eq_getElem?_getD, List.getElem?_take_of_lt hi, List.getElem?_drop]
  · unfold cut at hx
    exact hr x (List.mem_of_mem_drop (List.mem_of_mem_take hx))

theorem cells8 {w : World} {g : Nat} {T : TypeId} {r : R8} (h : ArrAt w g T (arr8 r)) :
    w.cell? ⟨g, 0, none⟩ = some (.int .u32 (nat r.a)) ∧ w.cell? ⟨g, 1, none⟩ = some (.int .u32 (nat r.b)) ∧ w.cell? ⟨g, 2, none⟩ = some (.int .u32 (nat r.c)) ∧ w.cell? ⟨g, 3, none⟩ = some (.int .u32 (nat r.d)) ∧ w.cell? ⟨g, 4, none⟩ = some (.int .u32 (nat r.e)) ∧ w.cell? ⟨g, 5, none⟩ = some (.int .u32 (nat r.f)) ∧ w.cell? ⟨g, 6, none⟩ = some (.int .u32 (nat r.g)) ∧ w.cell? ⟨g, 7, none⟩ = some (.int .u32 (nat r.h)) :=
  ⟨h.cell 0, h.cell 1, h.cell 2, h.cell 3, h.cell 4, h.cell 5, h.cell 6, h.cell 7⟩
theorem store8 {w : World} {g : Nat} {T : TypeId} {r : R8} (h : ArrAt w g T (arr8 r)) (y : R8) : Sem.run Try.prog (storeCells ⟨g, 0, none⟩ (arr8 y).toList) w = .ok () (w.setRow g (arr8 y)) := by
  have := run_storeCells_from (P := Try.prog) g T (arr8 y).toList 0 (arr8 r) w h rfl (fun v hv => (Array.all_eq_true_iff_forall_mem.1 (arr8_one y)) v (by simpa using hv))
  simpa using this

end Go.Proofs.Ytdeologdmdimoaa.Sh
