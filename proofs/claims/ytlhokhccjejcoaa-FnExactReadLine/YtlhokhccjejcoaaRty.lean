/- A type assertion that panics. -/
import Derived.Test.YtlhokhccjejcoaaStw
import Derived.Test.YtlhokhccjejcoaaAp
namespace Go.Proofs.Ytlhokhccjejcoaa.Rl16
open Go.RowKit
theorem ta_same {P : Program} {w : World} {t xT : TypeId} {v : Value} {d : TypeDesc} (h : P.underlying t = some d) (hd : (match d with | .interface _ => false | _ => true) = true) : (Instr.typeAssert (.iface t v) xT t false).run P w = .ok v w := by
  cases d <;> simp_all [Instr.typeAssert, run_underlying h, go_sem, Result.andThen]
theorem ta_bad1 (x : ByteArray) (w : World) : ∃ cs ty, (Instr.typeAssert (.iface 9 (.string x)) 20 3 false).run Try.prog w = .halt (.panic (.iface 15 (.pointer (some ⟨w.heap.size, 0, none⟩)))) (w.alloc (.cells cs ty)) := ⟨_, _, rfl⟩
theorem ta_bad2 (q : Int) (w : World) : ∃ cs ty, (Instr.typeAssert (.iface 63 (.int .i64 q)) 20 31 false).run Try.prog w = .halt (.panic (.iface 15 (.pointer (some ⟨w.heap.size, 0, none⟩)))) (w.alloc (.cells cs ty)) := ⟨_, _, rfl⟩
theorem ta_int (q : Int) (w : World) : (Instr.typeAssert (.iface 3 (.int .i64 q)) 20 3 false).run Try.prog w = .ok (.int .i64 q) w := rfl
theorem ta_act (vs : Array Value) (w : World) : (Instr.typeAssert (.iface 31 (.agg vs)) 20 31 false).run Try.prog w = .ok (.agg vs) w := rfl
theorem ta_fault (q : Int) (w : World) : (Instr.typeAssert (.iface 55 (.int .i64 q)) 20 55 true).run Try.prog w = .ok (.tuple #[.int .i64 q, .bool true]) w := rfl
theorem ta_none (r : Addr) (w : World) : (Instr.typeAssert (.iface 15 (.pointer (some r))) 20 55 true).run Try.prog w = .ok (.tuple #[.int .i64 0, .bool false]) w := rfl
theorem pan_run (w : World) : (Instr.panic (.iface 55 (.int .i64 3))).run Try.prog w = .halt (.panic (.iface 55 (.int .i64 3))) w := rfl
end Go.Proofs.Ytlhokhccjejcoaa.Rl16
