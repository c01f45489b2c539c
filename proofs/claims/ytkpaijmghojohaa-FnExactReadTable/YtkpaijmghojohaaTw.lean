/- The laws' own helpers over tables: their sizes, their copies, copies that are alike. -/
import Derived.Test.YtkpaijmghojohaaTb
import Derived.Laws.ResultCell
namespace Go.Proofs.Ytkpaijmghojohaa.Tw
open Go.RowKit Go.Proofs.Ytkpaijmghojohaa.Sl Go.Proofs.Ytkpaijmghojohaa.Ap Go.Proofs.Ytkpaijmghojohaa.Tx Go.Proofs.Ytkpaijmghojohaa.Tb

theorem ret_i {a b : Int} (h : a = b) : Ending.returned (.int .i64 a) = .returned (.int .i64 b) := by rw [h]
def lft (left s : Int) : Int := if left < s then -1 else left - s
theorem lft_no {left s : Int} (h : left < s) : lft left s = -1 := if_pos h
theorem lft_yes {left s : Int} (h : ¬ left < s) : lft left s = left - s := if_neg h
def lkV (x : Lk) (u : Value) : Value := .agg #[.string x.n, .int .i64 x.t, .int .i64 x.h, .int .i64 x.e, u]
def snV (x : Sn) : Value := .agg #[.int .i64 x.c, .int .i64 x.s, .int .i64 x.k, .int .i64 x.t, .int .i64 x.h, .int .i64 x.e]
def wtV (x : Wt) : Value := .agg #[.int .i64 x.c, .int .i64 x.l]
theorem get_at {α : Type} {xs : List α} {k : Nat} (h : k < xs.length) : ∃ x, xs[k]? = some x := ⟨_, List.getElem?_eq_getElem h⟩
theorem lt_at {α : Type} {xs : List α} {k : Nat} {x : α} (h : xs[k]? = some x) : k < xs.length := (List.getElem?_eq_some_iff.1 h).1
theorem mem_at {α : Type} {xs : List α} {k : Nat} {x : α} (h : xs[k]? = some x) : x ∈ xs := List.mem_of_getElem? h
end Go.Proofs.Ytkpaijmghojohaa.Tw
