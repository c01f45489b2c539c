/- A line is done: what it throws is caught, of the program. -/
import Derived.Test.YtlhokhccjejcoaaRlp
import Derived.Defers
import Derived.Recover
import Derived.Laws.Pointers
namespace Go.Proofs.Ytlhokhccjejcoaa.Rl16
open Go.RowKit Go.Lib Go.Proofs.Ytlhokhccjejcoaa.Ap Go.Proofs.Ytlhokhccjejcoaa.Tx
theorem thrown_nil (w : World) : Calls Try.prog 17 #[.nilIface] w fun e w' => e = .returned (.int .i64 0) ∧ w' = w := by
  go_enter Try.func17, Try.ntmps17
  go_wp2_with fail
  go_ret
  exact ⟨rfl, rfl⟩
theorem thrown_fault (w : World) : Calls Try.prog 17 #[.iface 55 (.int .i64 3)] w fun e w' => e = .returned (.int .i64 3) ∧ w' = w := by
  have ht := ta_fault 3 w
  go_enter Try.func17, Try.ntmps17
  go_wp2_with fail
  go_ret
  exact ⟨rfl, rfl⟩
theorem thrown_none (r : Addr) (w : World) : Calls Try.prog 17 #[.iface 15 (.pointer (some r))] w fun e w' => e = .returned (.int .i64 3) ∧ w' = w := by
  have ht := ta_none r w
  go_enter Try.func17, Try.ntmps17
  go_wp2_with fail
  go_ret
  exact ⟨rfl, rfl⟩
theorem thrown_bad {pv : Value} (h : Bad pv) (w : World) : Calls Try.prog 17 #[pv] w fun e w' => e = .returned (.int .i64 3) ∧ w' = w := by
  rcases h with rfl | ⟨r, rfl⟩
  · exact thrown_fault w
  · exact thrown_none r w
theorem catch_idle (p : Addr) (w : World) (x : Value) (hc : w.cell? p = some x) (hz : w.frozen? p = false) :
    CallsD Try.prog 16 #[.pointer (some p)] .returning w fun e u' w' => e = .returned (.tuple #[]) ∧ u' = .returning ∧ w' = w.setCell p (.int .i64 0) := by
  refine callsD_of_wpS Try.func16 rfl fun c₀ cs hu => ?_
  apply wpS_region
  simp [wpOpsS, go_sem, recoverD, hu, Try.ntmps16]
  refine (thrown_nil w).mono ?_
  rintro e w' ⟨rfl, hw⟩
  rw [hw]
  simp [go_sem, hc, hz, bodyPostS, results, Try.results16, storeCells]
  cases c₀
  simp only at hu
  subst hu
  rfl
theorem catch_bad (p : Addr) (w : World) (x : Value) {pv : Value} (hb : Bad pv) (older : List PanicEntry) (hc : w.cell? p = some x) (hz : w.frozen? p = false) :
    CallsD Try.prog 16 #[.pointer (some p)] (.panicking ({ v := pv, recovered := false } :: older)) w fun e u' w' => e = .returned (.tuple #[]) ∧ u' = .panicking ({ v := pv, recovered := true } :: older) ∧ w' = w.setCell p (.int .i64 3) := by
  refine callsD_of_wpS Try.func16 rfl fun c₀ cs hu => ?_
  apply wpS_region
  simp [wpOpsS, go_sem, recoverD, hu, Try.ntmps16]
  refine (thrown_bad hb w).mono ?_
  rintro e w' ⟨rfl, hw⟩
  rw [hw]
  simp [go_sem, hc, hz, bodyPostS, results, Try.results16, storeCells]
end Go.Proofs.Ytlhokhccjejcoaa.Rl16
