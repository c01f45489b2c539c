/- Two messages, requests or readings that are alike do not differ. -/
import Derived.Test.YtdeologdmdimoaaDoorBo2
import Derived.Laws.StructEq
namespace Go.Proofs.YtdeologdmdimoaaDoor.Wb
open Go.RowKit

theorem guardM (op : BinOp) (a b : Operand) (xs ys : Array Value) (W : World) : (eqGuard op 24 a b (.agg xs) (.agg ys)).run Tryd.prog W = .ok () W := run_eqGuard_agg W op 24 a b xs ys (by kernel_rfl)
set_option maxRecDepth 100000 in
theorem neqM (kd vw sq fr : Int) (dg bd mc : ByteArray) (W : World) : (binOp .neq 24 (.agg #[.int .i64 kd, .int .i64 vw, .int .i64 sq, .int .i64 fr, .string dg, .string bd, .string mc]) (.agg #[.int .i64 kd, .int .i64 vw, .int .i64 sq, .int .i64 fr, .string dg, .string bd, .string mc])).run Tryd.prog W = .ok (.bool false) W := by
  rw [run_neq_struct, run_equalIn_struct W 9999 24 _ _ (by kernel_rfl) (by kernel_rfl)]
  simp [go_sem, Program.fieldsOf, Tryd.underlying24, Tryd.underlying3, Tryd.underlying9]
theorem guardQ (op : BinOp) (a b : Operand) (xs ys : Array Value) (W : World) : (eqGuard op 71 a b (.agg xs) (.agg ys)).run Tryd.prog W = .ok () W := run_eqGuard_agg W op 71 a b xs ys (by kernel_rfl)
set_option maxRecDepth 100000 in
theorem neqQ (c st k l : Int) (n : ByteArray) (W : World) : (binOp .neq 71 (.agg #[.int .i64 c, .int .i64 st, .int .i64 k, .int .i64 l, .string n]) (.agg #[.int .i64 c, .int .i64 st, .int .i64 k, .int .i64 l, .string n])).run Tryd.prog W = .ok (.bool false) W := by
  rw [run_neq_struct, run_equalIn_struct W 9999 71 _ _ (by kernel_rfl) (by kernel_rfl)]
  simp [go_sem, Program.fieldsOf, Tryd.underlying71, Tryd.underlying3, Tryd.underlying9]
theorem guardD (op : BinOp) (a b : Operand) (xs ys : Array Value) (W : World) : (eqGuard op 40 a b (.agg xs) (.agg ys)).run Tryd.prog W = .ok () W := run_eqGuard_agg W op 40 a b xs ys (by kernel_rfl)
set_option maxRecDepth 100000 in
theorem neqD (f x : Int) (m : ByteArray) (W : World) : (binOp .neq 40 (.agg #[.int .i64 f, .int .i64 x, .string m]) (.agg #[.int .i64 f, .int .i64 x, .string m])).run Tryd.prog W = .ok (.bool false) W := by
  rw [run_neq_struct, run_equalIn_struct W 9999 40 _ _ (by kernel_rfl) (by kernel_rfl)]
  simp [go_sem, Program.fieldsOf, Tryd.underlying40, Tryd.underlying3, Tryd.underlying9]
end Go.Proofs.YtdeologdmdimoaaDoor.Wb
