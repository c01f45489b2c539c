/- The laws' comparison of texts. -/
import Derived.Test.YtmafigajapkmnaaTxs
namespace Go.Proofs.Ytmafigajapkmnaa.Tx
open Go.RowKit Go.Proofs.Ytmafigajapkmnaa.Sl Go.Proofs.Ytmafigajapkmnaa.By Go.Proofs.Ytmafigajapkmnaa.Ap Go.Proofs.Ytmafigajapkmnaa.Rq Go.Proofs.Ytmafigajapkmnaa.Rr
set_option maxHeartbeats 400000 in
theorem sameTexts_same (v u : Value) (ts : List ByteArray) (w : World) (h : RowT w v ts) (g : RowT w u ts) (hl : ts.length ≤ 1048576) :
    Calls Try.prog 57 #[v, u] w fun e w' => e = .returned (.bool true) ∧ Below w.heap.size w w' := by
  obtain ⟨a, cap, rfl, h⟩ := h
  obtain ⟨a', cap', rfl, g⟩ := g
  have hne : ((ts.length : Int) != (ts.length : Int)) = false := by simp
  go_enter Try.func57, Try.ntmps57
  go_wp2_with fail
  go_loopw [5] (fun i wr => ∃ k : Nat, k ≤ ts.length ∧ i = .int .i64 k ∧ ∃ n, wr = w.drewN n) (fun i _ => ts.length - (intOf i).toNat)
  case atStart => exact ⟨0, by omega, rfl, 0, rfl⟩
  case round =>
    obtain ⟨k, hk, rfl, n, rfl⟩ := hrel
    by_cases hlt : k < ts.length
    · rcases h with h | ⟨b, off, rfl, hc, hb, hcell⟩
      · exact absurd hlt (by rw [h]; simp)
      rcases g with g | ⟨b', off', rfl, hc', hb', gcell⟩
      · exact absurd hlt (by rw [g]; simp)
      have hc1 := hcell k hlt
      have hc2 := gcell k hlt
      have hp0 : (0 : Int) ≤ (k : Int) := by omega
      have hp1 : (k : Int) < (ts.length : Int) := by omega
      clear hcell gcell
      go_wp2
      go_quiet (fail)
      go_wp2
      exact ⟨⟨k + 1, by omega, by go_num, n + nq, rfl⟩, by simp [intOf]; omega⟩
    · go_wp2
      go_ret
      exact ⟨rfl, ⟨rfl, rfl, rfl, Nat.le_refl _, fun _ _ => rfl⟩⟩
end Go.Proofs.Ytmafigajapkmnaa.Tx
