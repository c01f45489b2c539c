/- A sentence's numbers, and what it throws, of the program. -/
import Derived.Test.YtlhokhccjejcoaaRlh
import Derived.Test.YtlhokhccjejcoaaRty
namespace Go.Proofs.Ytlhokhccjejcoaa.Rl16
open Go.RowKit Go.Lib Go.Proofs.Ytlhokhccjejcoaa.Ap Go.Proofs.Ytlhokhccjejcoaa.Tx
open Go.Proofs.Ytlhokhccjejcoaa.Gr12 (nV nB l00Number_any numberIn_any)
open Go.Proofs.Ytlhokhccjejcoaa.Stw
open Go.Proofs.Ytlhokhccjejcoaa.Rq (inB within_any ret_bool)

/-- What a line throws: it has not the form. -/
def Bad (pv : Value) : Prop := pv = .iface 55 (.int .i64 3) ∨ ∃ r, pv = .iface 15 (.pointer (some r))
def PanB (e : Ending) : Prop := ∃ pv, e = .panicked [{ v := pv, recovered := false }] ∧ Bad pv
theorem panB1 : PanB (.panicked [{ v := .iface 55 (.int .i64 3), recovered := false }]) := ⟨_, rfl, .inl rfl⟩
theorem panB2 (r : Addr) : PanB (.panicked [{ v := .iface 15 (.pointer (some r)), recovered := false }]) := ⟨_, rfl, .inr ⟨r, rfl⟩⟩
theorem meaning_yes (x : ByteArray) (w : World) (hx : x.size ≤ 70000) (h : nB x = true) :
    Calls Try.prog 32 #[.string x] w fun e w' => e = .returned (.iface 3 (.int .i64 (nV x))) ∧ Below w.heap.size w w' := by
  have HN := numberIn_any x w hx
  rw [h] at HN
  clear h
  go_enter Try.func32, Try.ntmps32
  go_wp2_with fail
  refine HN.mono ?_
  rintro e w1 ⟨rfl, b1⟩
  go_wp2_with fail
  go_ret
  exact ⟨rfl, b1⟩
theorem meaning_no (x : ByteArray) (w : World) (hx : x.size ≤ 70000) (h : nB x = false) :
    Calls Try.prog 32 #[.string x] w fun e w' => e = .returned (.iface 9 (.string x)) ∧ Below w.heap.size w w' := by
  have HN := numberIn_any x w hx
  rw [h] at HN
  clear h
  go_enter Try.func32, Try.ntmps32
  go_wp2_with fail
  refine HN.mono ?_
  rintro e w1 ⟨rfl, b1⟩
  go_wp2_with fail
  go_ret
  exact ⟨rfl, b1⟩
set_option maxRecDepth 100000 in
theorem number_yes (v : Value) (ts : List ByteArray) (k : Nat) (x : ByteArray) (w : World) (hr : RowT w v ts) (hk : ts[k]? = some x) (hx : x.size ≤ 70000) (h : nB x = true) :
    Calls Try.prog 30 #[v, .int .i64 k] w fun e w' => e = .returned (.int .i64 (nV x)) ∧ Below w.heap.size w w' := by
  have hl := (List.getElem?_eq_some_iff.1 hk).1
  obtain ⟨b, o, cp, rfl, hc, hcell⟩ := row_at hr (by intro e; rw [e] at hl; simp at hl)
  have c0 : w.cell? ⟨b, o + k, none⟩ = some (.string x) := hcell k x hk
  have h1 : (0 : Int) ≤ (k : Int) := by omega
  have h2 : (k : Int) < (ts.length : Int) := by omega
  have HM := meaning_yes x w hx h
  clear hr hcell h
  go_enter Try.func30, Try.ntmps30
  go_wp2_with fail
  refine HM.mono ?_
  rintro e w1 ⟨rfl, b1⟩
  have ht := ta_int (nV x) w1
  go_wp2_with fail
  go_ret
  exact ⟨rfl, b1⟩
set_option maxRecDepth 100000 in
theorem number_no (v : Value) (ts : List ByteArray) (k : Nat) (x : ByteArray) (w : World) (hr : RowT w v ts) (hk : ts[k]? = some x) (hx : x.size ≤ 70000) (h : nB x = false) :
    Calls Try.prog 30 #[v, .int .i64 k] w fun e w' => PanB e ∧ Below w.heap.size w w' := by
  have hl := (List.getElem?_eq_some_iff.1 hk).1
  obtain ⟨b, o, cp, rfl, hc, hcell⟩ := row_at hr (by intro e; rw [e] at hl; simp at hl)
  have c0 : w.cell? ⟨b, o + k, none⟩ = some (.string x) := hcell k x hk
  have h1 : (0 : Int) ≤ (k : Int) := by omega
  have h2 : (k : Int) < (ts.length : Int) := by omega
  have HM := meaning_no x w hx h
  clear hr hcell h
  go_enter Try.func30, Try.ntmps30
  go_wp2_with fail
  refine HM.mono ?_
  rintro e w1 ⟨rfl, b1⟩
  obtain ⟨cs, ty, ht⟩ := ta_bad1 x w1
  go_wp2_with fail
  exact ⟨rfl, panB2 _, b1.trans ((bel_new w1 _).mono b1.size)⟩
theorem must_yes (a : Option Addr) (n c : Nat) (l m : Int) (w : World) (h : inB n l m = true) :
    Calls Try.prog 26 #[.slice a n c, .int .i64 l, .int .i64 m] w fun e w' => e = .returned (.tuple #[]) ∧ Below w.heap.size w w' := by
  have HW := within_any (n : Int) l m w
  rw [h] at HW
  clear h
  go_enter Try.func26, Try.ntmps26
  go_wp2_with fail
  refine HW.mono ?_
  rintro e w1 ⟨rfl, hw⟩
  rw [hw]
  clear hw
  go_wp2_with fail
  exact ⟨rfl, _, results_none Try.results26 _ _ _, rfl, Below.refl _ _⟩
theorem must_no (a : Option Addr) (n c : Nat) (l m : Int) (w : World) (h : inB n l m = false) :
    Calls Try.prog 26 #[.slice a n c, .int .i64 l, .int .i64 m] w fun e w' => PanB e ∧ Below w.heap.size w w' := by
  have HW := within_any (n : Int) l m w
  rw [h] at HW
  clear h
  go_enter Try.func26, Try.ntmps26
  go_wp2_with fail
  refine HW.mono ?_
  rintro e w1 ⟨rfl, hw⟩
  rw [hw]
  clear hw
  have ht := pan_run w
  go_wp2_with fail
  exact ⟨rfl, panB1, Below.refl _ _⟩
end Go.Proofs.Ytlhokhccjejcoaa.Rl16
