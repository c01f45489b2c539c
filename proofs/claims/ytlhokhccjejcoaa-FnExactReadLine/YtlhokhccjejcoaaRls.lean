/- What a line throws is caught; ReadLine, of the program. -/
import Derived.Test.YtlhokhccjejcoaaRlr
namespace Go.Proofs.Ytlhokhccjejcoaa.Rl16
open Go.RowKit Go.Lib Go.Proofs.Ytlhokhccjejcoaa.Ap Go.Proofs.Ytlhokhccjejcoaa.Tx
open Go.Proofs.Ytlhokhccjejcoaa.Gr12 (nV nB l00Number_any numberIn_any)
open Go.Proofs.Ytlhokhccjejcoaa.Stw

set_option maxRecDepth 100000 in
set_option maxHeartbeats 1600000 in
theorem caught_any (t : ByteArray) (p q : Nat) (w : World) (ht : t.size ≤ 70000) (hp : w.cell? ⟨p, 0, none⟩ = some (.string t)) (hq : w.heap[q]? = some (.cells #[.int .i64 0, .int .i64 0, .int .i64 0, .int .i64 0, .int .i64 0, .int .i64 0, .string ⟨#[]⟩, .int .i64 0, .int .i64 0, .int .i64 0, .int .i64 0, .int .i64 0, .int .i64 0, .int .i64 0, .string ⟨#[]⟩, .int .i64 0, .int .i64 0, .int .i64 0, .int .i64 0, .string ⟨#[]⟩, .string ⟨#[]⟩, .string ⟨#[]⟩, .int .i64 0, .int .i64 0, .int .i64 0, .int .i64 0] 31 (0, 0))) :
    Calls Try.prog 9 #[.func (.func 10) #[] #[.pointer (some ⟨p, 0, none⟩), .pointer (some ⟨q, 0, none⟩)]] w fun e w' =>
      ((∃ kd cl op le nm gk gn, rlA (words t) = some (waC kd cl op le nm gk gn) ∧ e = .returned (.int .i64 0) ∧ w'.heap[q]? = some (.cells (waC kd cl op le nm gk gn) 31 (0, 0)) ∧ ∀ {B : Nat} {w0 : World}, Below B w0 w → B ≤ q → B ≤ w.heap.size → Below B w0 w') ∨
       (rlA (words t) = none ∧ e = .returned (.int .i64 3) ∧ w'.heap[q]? = some (.cells #[.int .i64 0, .int .i64 0, .int .i64 0, .int .i64 0, .int .i64 0, .int .i64 0, .string ⟨#[]⟩, .int .i64 0, .int .i64 0, .int .i64 0, .int .i64 0, .int .i64 0, .int .i64 0, .int .i64 0, .string ⟨#[]⟩, .int .i64 0, .int .i64 0, .int .i64 0, .int .i64 0, .string ⟨#[]⟩, .string ⟨#[]⟩, .string ⟨#[]⟩, .int .i64 0, .int .i64 0, .int .i64 0, .int .i64 0] 31 (0, 0)) ∧ Below w.heap.size w w')) := by
  have hmf : ∀ (fn : Fn) (first cap : Array Value) (w : World), (Instr.makeFunc fn first cap).run Try.prog w = .ok (.func fn first cap) w := fun _ _ _ _ => rfl
  have hql := (Array.getElem?_eq_some_iff.1 hq).1
  have HQ : Hid (q < w.heap.size ∧ w.heap[q]? = some (.cells #[.int .i64 0, .int .i64 0, .int .i64 0, .int .i64 0, .int .i64 0, .int .i64 0, .string ⟨#[]⟩, .int .i64 0, .int .i64 0, .int .i64 0, .int .i64 0, .int .i64 0, .int .i64 0, .int .i64 0, .string ⟨#[]⟩, .int .i64 0, .int .i64 0, .int .i64 0, .int .i64 0, .string ⟨#[]⟩, .string ⟨#[]⟩, .string ⟨#[]⟩, .int .i64 0, .int .i64 0, .int .i64 0, .int .i64 0] 31 (0, 0))) := ⟨hql, hq⟩
  have HL := line_any t p q (w.alloc (.cells #[.int .i64 0] 3)) ht (((bel_new w _).cell (p := ⟨p, 0, none⟩) (World.block_lt_of_cell? w ⟨p, 0, none⟩ hp)).trans hp) (((bel_new w _).block q hql).trans hq)
  have H1 : Hid ((w.alloc (.cells #[.int .i64 0] 3)).heap[w.heap.size]? = some (.cells #[.int .i64 0] 3 (0, 0)) ∧ Below w.heap.size w (w.alloc (.cells #[.int .i64 0] 3)) ∧ w.heap.size < (w.alloc (.cells #[.int .i64 0] 3)).heap.size) := ⟨blk_new _ _ _, bel_new _ _, by simp⟩
  clear hp hq hql ht
  go_enter_defers Try.func9, Try.ntmps9
  go_upto_region 1 with fail
  generalize (w.alloc (.cells #[.int .i64 0] 3)) = w1 at HL H1 ⊢
  go_wp2_with fail
  refine HL.mono ?_
  rintro e w2 (⟨kd, cl, op, le, nm, gk, gn, hS, rfl, hb, hf, hg⟩ | ⟨hN, ⟨pv, rfl, hbd⟩, b2⟩)
  · have HS : Hid (rlA (words t) = some (waC kd cl op le nm gk gn)) := hS
    have P2 : w2.heap[w.heap.size]? = some (.cells #[.int .i64 0] 3 (0, 0)) := (hf _ (Nat.ne_of_gt HQ.out.1) H1.out.2.2).trans H1.out.1
    obtain ⟨z0, f0⟩ := blk_cell P2 0 (x := .int .i64 0) rfl
    clear hS HL
    go_wp2_with fail
    refine leaves_cons (f := 16) (args := #[.pointer (some ⟨w.heap.size, 0, none⟩)]) (by simp) (by simp [go_sem]) ?_
    have P3 := blk_set P2 0 (.int .i64 0)
    obtain ⟨z1, f1⟩ := blk_cell P3 0 (x := .int .i64 0) rfl
    refine (catch_idle ⟨w.heap.size, 0, none⟩ _ _ z1 f1).mono ?_
    rintro e u' w'' ⟨rfl, rfl, rfl⟩
    obtain ⟨z2, f2⟩ := blk_cell (blk_set P3 0 (.int .i64 0)) 0 (x := .int .i64 0) rfl
    have HB : Hid (((w2.setCell ⟨w.heap.size, 0, none⟩ (.int .i64 0)).setCell ⟨w.heap.size, 0, none⟩ (.int .i64 0)).heap[q]? = some (.cells (waC kd cl op le nm gk gn) 31 (0, 0))) := (blk_far (Nat.ne_of_lt HQ.out.1) 0 _).trans ((blk_far (Nat.ne_of_lt HQ.out.1) 0 _).trans hb)
    have HG : Hid (∀ {B : Nat} {w0 : World}, Below B w0 w → B ≤ q → B ≤ w.heap.size → Below B w0 ((w2.setCell ⟨w.heap.size, 0, none⟩ (.int .i64 0)).setCell ⟨w.heap.size, 0, none⟩ (.int .i64 0))) := fun h1 h2 h3 => Below.setCell (Below.setCell (hg (h1.trans (H1.out.2.1.mono h3)) h2 (Nat.le_trans h3 (Nat.le_of_lt H1.out.2.2))) (p := ⟨w.heap.size, 0, none⟩) h3 _) (p := ⟨w.heap.size, 0, none⟩) h3 _
    clear hb hf hg z0 f0 z1 f1 P2 P3 H1 hmf
    show Leaves _ _ _ _ [] .returning _
    unfold Leaves
    refine ⟨.int .i64 0, by simp [results, Try.results9, go_sem, z2], ?_⟩
    exact .inl ⟨kd, cl, op, le, nm, gk, gn, HS.out, rfl, HB.out, fun h1 h2 h3 => HG.out h1 h2 h3⟩
  · have HN : Hid (rlA (words t) = none) := hN
    have P2 : w2.heap[w.heap.size]? = some (.cells #[.int .i64 0] 3 (0, 0)) := (b2.block _ H1.out.2.2).trans H1.out.1
    obtain ⟨z0, f0⟩ := blk_cell P2 0 (x := .int .i64 0) rfl
    clear hN HL
    go_wp2_with fail
    refine leaves_cons (f := 16) (args := #[.pointer (some ⟨w.heap.size, 0, none⟩)]) (by simp) (by simp [go_sem]) ?_
    refine (catch_bad ⟨w.heap.size, 0, none⟩ _ _ hbd [] z0 f0).mono ?_
    rintro e u' w'' ⟨rfl, rfl, rfl⟩
    obtain ⟨z2, f2⟩ := blk_cell (blk_set P2 0 (.int .i64 3)) 0 (x := .int .i64 3) rfl
    have HB : Hid ((w2.setCell ⟨w.heap.size, 0, none⟩ (.int .i64 3)).heap[q]? = some (.cells #[.int .i64 0, .int .i64 0, .int .i64 0, .int .i64 0, .int .i64 0, .int .i64 0, .string ⟨#[]⟩, .int .i64 0, .int .i64 0, .int .i64 0, .int .i64 0, .int .i64 0, .int .i64 0, .int .i64 0, .string ⟨#[]⟩, .int .i64 0, .int .i64 0, .int .i64 0, .int .i64 0, .string ⟨#[]⟩, .string ⟨#[]⟩, .string ⟨#[]⟩, .int .i64 0, .int .i64 0, .int .i64 0, .int .i64 0] 31 (0, 0))) := (blk_far (Nat.ne_of_lt HQ.out.1) 0 _).trans ((b2.block _ (Nat.lt_trans HQ.out.1 H1.out.2.2)).trans ((H1.out.2.1.block _ HQ.out.1).trans HQ.out.2))
    have HG : Hid (Below w.heap.size w (w2.setCell ⟨w.heap.size, 0, none⟩ (.int .i64 3))) := Below.setCell (H1.out.2.1.trans (b2.mono H1.out.2.1.size)) (p := ⟨w.heap.size, 0, none⟩) (Nat.le_refl _) _
    clear b2 z0 f0 P2 H1 hmf
    show Leaves _ _ _ _ [] .returning _
    unfold Leaves
    refine ⟨.int .i64 3, by simp [results, Try.results9, go_sem, z2], ?_⟩
    exact .inr ⟨HN.out, rfl, HB.out, HG.out⟩
end Go.Proofs.Ytlhokhccjejcoaa.Rl16
