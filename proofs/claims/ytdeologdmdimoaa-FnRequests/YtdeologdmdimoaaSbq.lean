/- The laws' comparison of batches. -/
import Derived.Test.YtdeologdmdimoaaNq
import Derived.Test.YtdeologdmdimoaaRjb
namespace Go.Proofs.Ytdeologdmdimoaa.Wb
open Go.RowKit Go.Proofs.Ytdeologdmdimoaa.Sl Go.Proofs.Ytdeologdmdimoaa.By Go.Proofs.Ytdeologdmdimoaa.Ap Go.Proofs.Ytdeologdmdimoaa.Rq Go.Proofs.Ytdeologdmdimoaa.Rr Go.Proofs.Ytdeologdmdimoaa.Gr Go.Proofs.Ytdeologdmdimoaa.Bo Go.Proofs.Ytdeologdmdimoaa.Tkb
open Go.Proofs.Ytdeologdmdimoaa.Rg (RowG RowG.slice RowG.at lt_at mem_at bel_new)
set_option maxRecDepth 100000 in
set_option maxHeartbeats 1600000 in
theorem sameBatch_same (nl : Bool) (c st k l : Int) (n : ByteArray) (vr ur : Value) (rs : List Rd) (w : World) (h : Row w vr rs) (g : Row w ur rs) (hl : rs.length ≤ 1048576) :
    Calls Try.prog 26 #[batV nl c st k l n vr, batV nl c st k l n ur] w fun e w' => e = .returned (.bool true) ∧ Below w.heap.size w w' := by
  obtain ⟨a, cap, rfl⟩ := RowG.slice h
  obtain ⟨a', cap', rfl⟩ := RowG.slice g
  have b0 : Below w.heap.size w ((w.alloc (.cells #[.bool nl, .int .i64 c, .int .i64 st, .int .i64 k, .int .i64 l, .string n, .slice a rs.length cap] 52)).alloc (.cells #[.bool nl, .int .i64 c, .int .i64 st, .int .i64 k, .int .i64 l, .string n, .slice a' rs.length cap'] 52)) := (bel_new w _).alloc (by simp) _
  have HB : Hid (Below w.heap.size w ((w.alloc (.cells #[.bool nl, .int .i64 c, .int .i64 st, .int .i64 k, .int .i64 l, .string n, .slice a rs.length cap] 52)).alloc (.cells #[.bool nl, .int .i64 c, .int .i64 st, .int .i64 k, .int .i64 l, .string n, .slice a' rs.length cap'] 52))) := b0
  have HR : Hid (Row ((w.alloc (.cells #[.bool nl, .int .i64 c, .int .i64 st, .int .i64 k, .int .i64 l, .string n, .slice a rs.length cap] 52)).alloc (.cells #[.bool nl, .int .i64 c, .int .i64 st, .int .i64 k, .int .i64 l, .string n, .slice a' rs.length cap'] 52)) (.slice a rs.length cap) rs) := (h.below (bel_new w _)).below (bel_new _ _)
  have HG : Hid (Row ((w.alloc (.cells #[.bool nl, .int .i64 c, .int .i64 st, .int .i64 k, .int .i64 l, .string n, .slice a rs.length cap] 52)).alloc (.cells #[.bool nl, .int .i64 c, .int .i64 st, .int .i64 k, .int .i64 l, .string n, .slice a' rs.length cap'] 52)) (.slice a' rs.length cap') rs) := (g.below (bel_new w _)).below (bel_new _ _)
  have K0 : Hid (((w.alloc (.cells #[.bool nl, .int .i64 c, .int .i64 st, .int .i64 k, .int .i64 l, .string n, .slice a rs.length cap] 52)).alloc (.cells #[.bool nl, .int .i64 c, .int .i64 st, .int .i64 k, .int .i64 l, .string n, .slice a' rs.length cap'] 52)).heap[w.heap.size]? = some (.cells #[.bool nl, .int .i64 c, .int .i64 st, .int .i64 k, .int .i64 l, .string n, .slice a rs.length cap] 52 (0, 0))) := (Below.heap_alloc _ _ _ (by simp)).trans (blk_new _ _ _)
  have K1 : Hid (((w.alloc (.cells #[.bool nl, .int .i64 c, .int .i64 st, .int .i64 k, .int .i64 l, .string n, .slice a rs.length cap] 52)).alloc (.cells #[.bool nl, .int .i64 c, .int .i64 st, .int .i64 k, .int .i64 l, .string n, .slice a' rs.length cap'] 52)).heap[w.heap.size + 1]? = some (.cells #[.bool nl, .int .i64 c, .int .i64 st, .int .i64 k, .int .i64 l, .string n, .slice a' rs.length cap'] 52 (0, 0))) := by
    have := blk_new (w.alloc (.cells #[.bool nl, .int .i64 c, .int .i64 st, .int .i64 k, .int .i64 l, .string n, .slice a rs.length cap] 52)) #[.bool nl, .int .i64 c, .int .i64 st, .int .i64 k, .int .i64 l, .string n, .slice a' rs.length cap'] 52
    rw [size_new] at this
    exact this
  have hne : (nl != nl) = false := by simp
  have hln : ((rs.length : Int) != (rs.length : Int)) = false := by simp
  have hqn := neqQ c st k l n
  have hqg := guardQ
  have hdg := guardD
  clear h g b0
  unfold batV
  go_enter Try.func26, Try.ntmps26
  go_upto_region 1 with fail
  generalize ((w.alloc (.cells #[.bool nl, .int .i64 c, .int .i64 st, .int .i64 k, .int .i64 l, .string n, .slice a rs.length cap] 52)).alloc (.cells #[.bool nl, .int .i64 c, .int .i64 st, .int .i64 k, .int .i64 l, .string n, .slice a' rs.length cap'] 52)) = w2 at HB HR HG K0 K1 ⊢
  have c0 := (blk_cell K0.out 0 (x := .bool nl) rfl).1
  have c1 := (blk_cell K0.out 1 (x := .int .i64 c) rfl).1
  have c2 := (blk_cell K0.out 2 (x := .int .i64 st) rfl).1
  have c3 := (blk_cell K0.out 3 (x := .int .i64 k) rfl).1
  have c4 := (blk_cell K0.out 4 (x := .int .i64 l) rfl).1
  have c5 := (blk_cell K0.out 5 (x := .string n) rfl).1
  have c6 := (blk_cell K0.out 6 (x := .slice a rs.length cap) rfl).1
  have d0 := (blk_cell K1.out 0 (x := .bool nl) rfl).1
  have d1 := (blk_cell K1.out 1 (x := .int .i64 c) rfl).1
  have d2 := (blk_cell K1.out 2 (x := .int .i64 st) rfl).1
  have d3 := (blk_cell K1.out 3 (x := .int .i64 k) rfl).1
  have d4 := (blk_cell K1.out 4 (x := .int .i64 l) rfl).1
  have d5 := (blk_cell K1.out 5 (x := .string n) rfl).1
  have d6 := (blk_cell K1.out 6 (x := .slice a' rs.length cap') rfl).1
  go_wp2_with fail
  clear c0 c1 c2 c3 c4 c5 d0 d1 d2 d3 d4 d5 hqn hqg
  go_loopw [5] (fun i wr => ∃ j : Nat, j ≤ rs.length ∧ i = .int .i64 j ∧ ∃ q, wr = w2.drewN q) (fun i _ => rs.length - (intOf i).toNat)
  case atStart => exact ⟨0, by omega, rfl, 0, rfl⟩
  case round =>
    obtain ⟨j, hj, rfl, q, rfl⟩ := hrel
    by_cases hlt : j < rs.length
    · obtain ⟨x, hx⟩ := Rg.get_at hlt
      obtain ⟨b, off, rfl, hb, e0, e1, e2⟩ := RowG.at HR.out rfl hx
      obtain ⟨b', off', rfl, hb', f0, f1, f2⟩ := RowG.at HG.out rfl hx
      have hp0 : (0 : Int) ≤ (j : Int) := by omega
      have hp1 : (j : Int) < (rs.length : Int) := by omega
      have hdn := neqD x.f x.x x.m
      clear hx
      go_wp2
      go_quiet (fail)
      go_wp2
      exact ⟨⟨j + 1, by omega, by go_num, q + nq, rfl⟩, by simp [intOf]; omega⟩
    · go_wp2
      go_ret
      exact ⟨rfl, ⟨HB.out.os, HB.out.tape, HB.out.output, HB.out.size, HB.out.block⟩⟩
theorem rbX_small (xs : List Int) (hr : ∀ x ∈ xs, 0 ≤ x ∧ x ≤ 255) (hl : xs.length ≤ 1048576) : (rbX xs).n.size ≤ maxLen ∧ (rbX xs).rs.length ≤ 255 := by
  unfold rbX rjX
  split
  · exact ⟨by decide, by decide⟩
  split
  · exact tbX_small xs hr hl
  · exact ⟨by decide, by decide⟩
end Go.Proofs.Ytdeologdmdimoaa.Wb
