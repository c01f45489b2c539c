/- Batches that are right: batchOK, l02BatchOK. -/
import Derived.Test.YtkmnjnblacmjlaaBo
namespace Go.Proofs.Ytkmnjnblacmjlaa.Bo
open Go.RowKit Go.Proofs.Ytkmnjnblacmjlaa.Rg Go.Proofs.Ytkmnjnblacmjlaa.Gr Go.Proofs.Ytkmnjnblacmjlaa.Rq

theorem guardR (op : BinOp) (a b : Operand) (xs ys : Array Value) (W : World) : (eqGuard op 32 a b (.agg xs) (.agg ys)).run Try.prog W = .ok () W := run_eqGuard_agg W op 32 a b xs ys (by kernel_rfl)
set_option maxRecDepth 100000 in
theorem eqlR (c st k l : Int) (n : ByteArray) (W : World) : (binOp .eql 32 (.agg #[.int .i64 c, .int .i64 st, .int .i64 k, .int .i64 l, .string n]) (.agg #[.int .i64 0, .int .i64 0, .int .i64 0, .int .i64 0, .string ⟨#[]⟩])).run Try.prog W = .ok (.bool (zB c st k l n)) W := by
  unfold zB
  rw [run_eql_struct, run_equalIn_struct W 9999 32 _ _ (by kernel_rfl) (by kernel_rfl)]
  simp [go_sem, Program.fieldsOf, Try.underlying32, Try.underlying3, Try.underlying9]
  repeat' split
  all_goals simp_all
/-- The block of a boxed batch. -/
theorem bat_box {w w1 : World} {nl : Bool} {c st k l : Int} {n : ByteArray} {vr : Value} (b : Below (w.alloc (.cells #[.bool nl, .int .i64 c, .int .i64 st, .int .i64 k, .int .i64 l, .string n, vr] 35)).heap.size (w.alloc (.cells #[.bool nl, .int .i64 c, .int .i64 st, .int .i64 k, .int .i64 l, .string n, vr] 35)) w1) :
    w1.cell? ⟨w.heap.size, 0, none⟩ = some (.bool nl) ∧ w1.cell? ⟨w.heap.size, 1, none⟩ = some (.int .i64 c) ∧ w1.cell? ⟨w.heap.size, 2, none⟩ = some (.int .i64 st) ∧ w1.cell? ⟨w.heap.size, 3, none⟩ = some (.int .i64 k) ∧ w1.cell? ⟨w.heap.size, 4, none⟩ = some (.int .i64 l) ∧ w1.cell? ⟨w.heap.size, 5, none⟩ = some (.string n) ∧ w1.cell? ⟨w.heap.size, 6, none⟩ = some vr ∧ Below w.heap.size w w1 := by
  have h := (b.block w.heap.size (by simp)).trans (heap_alloc_new w _)
  exact ⟨(blk_cell h 0 rfl).1, (blk_cell h 1 rfl).1, (blk_cell h 2 rfl).1, (blk_cell h 3 rfl).1, (blk_cell h 4 rfl).1, (blk_cell h 5 rfl).1, (blk_cell h 6 rfl).1, (bel_new w _).trans (b.mono (by simp))⟩
set_option maxRecDepth 100000 in
set_option maxHeartbeats 800000 in
theorem batchOK_any (nl : Bool) (c st k l : Int) (n : ByteArray) (vr : Value) (rs : List Rd) (w : World) (h : Row w vr rs) (hl : rs.length ≤ 1048576) (hn : n.size ≤ maxLen) :
    Calls Try.prog 23 #[batV nl c st k l n vr] w fun e w' => e = .returned (.bool (bOK nl c st k l n rs)) ∧ Below w.heap.size w w' := by
  have HR : Hid (Row w vr rs) := h
  obtain ⟨a, cap, rfl⟩ := RowG.slice h
  clear h
  have HN : Hid (n.size ≤ maxLen) := hn
  clear hn
  unfold batV
  have HB : Hid (Below w.heap.size w (w.alloc (.cells #[.bool nl, .int .i64 c, .int .i64 st, .int .i64 k, .int .i64 l, .string n, .slice a rs.length cap] 35))) := bel_new _ _
  cases nl with
  | true =>
    have HE : Hid (bOK true c st k l n rs = (zB c st k l n && ((rs.length : Int) == 0))) := rfl
    have hq1 := eqlR c st k l n
    have hq2 := guardR
    cases hz : zB c st k l n with
    | false =>
      rw [hz] at hq1 HE
      go_enter Try.func23, Try.ntmps23
      go_wp2_with fail
      go_ret
      exact ⟨ret_b (by rw [HE.out]; rfl), HB.out⟩
    | true =>
      rw [hz] at hq1 HE
      go_enter Try.func23, Try.ntmps23
      go_wp2_with fail
      go_ret
      exact ⟨ret_b (by rw [HE.out]; simp), HB.out⟩
  | false =>
    have HE : Hid (bOK false c st k l n rs = (reqB c st k l n && rOK 0 rs)) := rfl
    have C := implRequestOK_any c st k l n (w.alloc (.cells #[.bool false, .int .i64 c, .int .i64 st, .int .i64 k, .int .i64 l, .string n, .slice a rs.length cap] 35)) HN.out
    unfold reqV at C
    have HC : Hid (Calls Try.prog 29 #[.agg #[.int .i64 c, .int .i64 st, .int .i64 k, .int .i64 l, .string n]] (w.alloc (.cells #[.bool false, .int .i64 c, .int .i64 st, .int .i64 k, .int .i64 l, .string n, .slice a rs.length cap] 35)) fun e w' => e = .returned (.bool (reqB c st k l n)) ∧ Below (w.alloc (.cells #[.bool false, .int .i64 c, .int .i64 st, .int .i64 k, .int .i64 l, .string n, .slice a rs.length cap] 35)).heap.size (w.alloc (.cells #[.bool false, .int .i64 c, .int .i64 st, .int .i64 k, .int .i64 l, .string n, .slice a rs.length cap] 35)) w') := C
    clear C
    go_enter Try.func23, Try.ntmps23
    go_wp2_with fail
    refine HC.out.mono ?_
    rintro e w1 ⟨rfl, b1⟩
    obtain ⟨q0, q1, q2, q3, q4, q5, q6, b0⟩ := bat_box b1
    have HB1 : Hid (Below w.heap.size w w1) := b0
    clear b1 b0 HC
    cases hq : reqB c st k l n with
    | false =>
      rw [hq] at HE
      go_wp2_with fail
      go_ret
      exact ⟨ret_b (by rw [HE.out]; rfl), HB1.out⟩
    | true =>
      rw [hq] at HE
      go_wp2_with fail
      refine (readingsOK_any _ rs w1 (HR.out.below HB1.out) hl).mono ?_
      rintro e w2 ⟨rfl, b2⟩
      have HB2 : Hid (Below w.heap.size w w2) := HB1.out.trans (b2.mono HB1.out.size)
      clear b2 q0 q1 q2 q3 q4 q5 q6
      generalize rOK 0 rs = o at HE
      go_wp2_with fail
      go_ret
      exact ⟨ret_b (by rw [HE.out]; rfl), HB2.out⟩
set_option maxRecDepth 100000 in
set_option maxHeartbeats 800000 in
theorem l02Reading_any (x : Rd) (w : World) :
    Calls Try.prog 20 #[oneV x] w fun e w' => e = .returned (.bool (r1 0 x)) ∧ Below w.heap.size w w' := by
  have HB : Hid (Below w.heap.size w (w.alloc (.cells #[.int .i64 x.f, .int .i64 x.x, .string x.m] 43))) := bel_new _ _
  have HE : Hid (r1 0 x = (inB x.f 0 6 && (inB x.x 0 1000000000 && ((x.m.size : Int) == 8)))) := rfl
  unfold oneV
  cases g1 : inB x.f 0 6 with
  | false =>
    rw [g1] at HE
    go_enter Try.func20, Try.ntmps20
    go_wp2_with (go_at_call 24; refine (in_any _ _ _ _).mono ?_; rintro e w1 ⟨rfl, rfl⟩; rw [g1])
    go_ret
    exact ⟨ret_b (by rw [HE.out]; rfl), HB.out⟩
  | true =>
    cases g2 : inB x.x 0 1000000000 with
    | false =>
      rw [g1, g2] at HE
      go_enter Try.func20, Try.ntmps20
      go_wp2_with (go_at_call 24; refine (in_any _ _ _ _).mono ?_; rintro e w1 ⟨rfl, rfl⟩; first | rw [g1] | rw [g2])
      go_ret
      exact ⟨ret_b (by rw [HE.out]; rfl), HB.out⟩
    | true =>
      rw [g1, g2] at HE
      go_enter Try.func20, Try.ntmps20
      go_wp2_with (go_at_call 24; refine (in_any _ _ _ _).mono ?_; rintro e w1 ⟨rfl, rfl⟩; first | rw [g1] | rw [g2])
      go_ret
      exact ⟨ret_b (by rw [HE.out]; rfl), HB.out⟩
/-- Readings rise: the specification's way to say it. -/
theorem r1_split {l : Int} {x : Rd} (hl : 0 ≤ l) : r1 l x = (r1 0 x && decide (l ≤ x.f)) := by
  unfold r1 inB
  rw [Bool.eq_iff_iff]
  simp only [Bool.and_eq_true, decide_eq_true_eq]
  constructor
  · rintro ⟨⟨h1, h2⟩, h3⟩; exact ⟨⟨⟨by omega, h2⟩, h3⟩, h1⟩
  · rintro ⟨⟨⟨_, h2⟩, h3⟩, h1⟩; exact ⟨⟨h1, h2⟩, h3⟩
end Go.Proofs.Ytkmnjnblacmjlaa.Bo
