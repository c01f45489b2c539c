/- Two messages, requests or readings that are alike do not differ. -/
import Derived.Test.YtdeologdmdimoaaBo2
import Derived.Laws.StructEq
namespace Go.Proofs.Ytdeologdmdimoaa.Wb
open Go.RowKit

theorem guardM (op : BinOp) (a b : Operand) (xs ys : Array Value) (W : World) : (eqGuard op 35 a b (.agg xs) (.agg ys)).run Try.prog W = .ok () W := run_eqGuard_agg W op 35 a b xs ys (by kernel_rfl)
set_option maxRecDepth 100000 in
theorem neqM (kd vw sq fr : Int) (dg bd mc : ByteArray) (W : World) : (binOp .neq 35 (.agg #[.int .i64 kd, .int .i64 vw, .int .i64 sq, .int .i64 fr, .string dg, .string bd, .string mc]) (.agg #[.int .i64 kd, .int .i64 vw, .int .i64 sq, .int .i64 fr, .string dg, .string bd, .string mc])).run Try.prog W = .ok (.bool false) W := by
  rw [run_neq_struct, run_equalIn_struct W 9999 35 _ _ (by kernel_rfl) (by kernel_rfl)]
  simp [go_sem, Program.fieldsOf, Try.underlying35, Try.underlying3, Try.underlying9]
theorem guardQ (op : BinOp) (a b : Operand) (xs ys : Array Value) (W : World) : (eqGuard op 44 a b (.agg xs) (.agg ys)).run Try.prog W = .ok () W := run_eqGuard_agg W op 44 a b xs ys (by kernel_rfl)
set_option maxRecDepth 100000 in
theorem neqQ (c st k l : Int) (n : ByteArray) (W : World) : (binOp .neq 44 (.agg #[.int .i64 c, .int .i64 st, .int .i64 k, .int .i64 l, .string n]) (.agg #[.int .i64 c, .int .i64 st, .int .i64 k, .int .i64 l, .string n])).run Try.prog W = .ok (.bool false) W := by
  rw [run_neq_struct, run_equalIn_struct W 9999 44 _ _ (by kernel_rfl) (by kernel_rfl)]
  simp [go_sem, Program.fieldsOf, Try.underlying44, Try.underlying3, Try.underlying9]
theorem guardD (op : BinOp) (a b : Operand) (xs ys : Array Value) (W : World) : (eqGuard op 88 a b (.agg xs) (.agg ys)).run Try.prog W = .ok () W := run_eqGuard_agg W op 88 a b xs ys (by kernel_rfl)
set_option maxRecDepth 100000 in
theorem neqD (f x : Int) (m : ByteArray) (W : World) : (binOp .neq 88 (.agg #[.int .i64 f, .int .i64 x, .string m]) (.agg #[.int .i64 f, .int .i64 x, .string m])).run Try.prog W = .ok (.bool false) W := by
  rw [run_neq_struct, run_equalIn_struct W 9999 88 _ _ (by kernel_rfl) (by kernel_rfl)]
  simp [go_sem, Program.fieldsOf, Try.underlying88, Try.underlying3, Try.underlying9]
end Go.Proofs.Ytdeologdmdimoaa.Wb
