/- A sentence's readers, of the program. -/
import Derived.Test.YtlhokhccjejcoaaRlm
namespace Go.Proofs.Ytlhokhccjejcoaa.Rl16
open Go.RowKit Go.Lib Go.Proofs.Ytlhokhccjejcoaa.Ap Go.Proofs.Ytlhokhccjejcoaa.Tx
open Go.Proofs.Ytlhokhccjejcoaa.Gr12 (nV nB l00Number_any numberIn_any)
open Go.Proofs.Ytlhokhccjejcoaa.Stw
open Go.Proofs.Ytlhokhccjejcoaa.Rq (inB)
/-- What a reader hands back: an act, or it throws, or a time. -/
def IfP (o : Option (Array Value)) (e : Ending) : Prop := (∃ kd cl op le nm gk gn, o = some (waC kd cl op le nm gk gn) ∧ e = .returned (.iface 31 (.agg (waC kd cl op le nm gk gn)))) ∨ (o = none ∧ (PanB e ∨ ∃ q, e = .returned (.iface 63 (.int .i64 q))))
def tiA : List ByteArray → Option (Array Value)
  | [_, b] => if nB b = true then some (waC 1 0 0 0 ⟨#[]⟩ 5 (nV b)) else none
  | _ => none
theorem tiA_len : ∀ {ts : List ByteArray}, ¬ ts.length = 2 → tiA ts = none
  | [], _ => rfl
  | [_], _ => rfl
  | [_, _], h => absurd rfl h
  | _ :: _ :: _ :: _, _ => rfl
theorem acquire_any (v : Value) (ts : List ByteArray) (w : World) (h : RowT w v ts) (hz : ∀ s ∈ ts, s.size ≤ 70000) : Calls Try.prog 20 #[v] w fun e w' => IfP (caA 1 ts) e ∧ Below w.heap.size w w' := by
  have HK := call_any v 1 ts w h hz
  go_enter Try.func20, Try.ntmps20
  go_wp2_with fail
  refine HK.mono ?_
  rintro e w1 ⟨⟨kd, cl, op, le, nm, gk, gn, hA, rfl⟩ | ⟨hA, pv, rfl, hbd⟩, b1⟩
  · have HA : Hid (caA 1 ts = some (waC kd cl op le nm gk gn)) := hA
    clear hA HK
    go_wp2_with fail
    go_ret
    exact ⟨.inl ⟨kd, cl, op, le, nm, gk, gn, HA.out, rfl⟩, b1⟩
  · have HA : Hid (caA 1 ts = none) := hA
    clear hA HK
    go_wp2_with fail
    exact ⟨rfl, .inr ⟨HA.out, .inl ⟨pv, rfl, hbd⟩⟩, b1⟩
theorem release_any (v : Value) (ts : List ByteArray) (w : World) (h : RowT w v ts) (hz : ∀ s ∈ ts, s.size ≤ 70000) : Calls Try.prog 21 #[v] w fun e w' => IfP (caA 2 ts) e ∧ Below w.heap.size w w' := by
  have HK := call_any v 2 ts w h hz
  go_enter Try.func21, Try.ntmps21
  go_wp2_with fail
  refine HK.mono ?_
  rintro e w1 ⟨⟨kd, cl, op, le, nm, gk, gn, hA, rfl⟩ | ⟨hA, pv, rfl, hbd⟩, b1⟩
  · have HA : Hid (caA 2 ts = some (waC kd cl op le nm gk gn)) := hA
    clear hA HK
    go_wp2_with fail
    go_ret
    exact ⟨.inl ⟨kd, cl, op, le, nm, gk, gn, HA.out, rfl⟩, b1⟩
  · have HA : Hid (caA 2 ts = none) := hA
    clear hA HK
    go_wp2_with fail
    exact ⟨rfl, .inr ⟨HA.out, .inl ⟨pv, rfl, hbd⟩⟩, b1⟩
theorem renew_any (v : Value) (ts : List ByteArray) (w : World) (h : RowT w v ts) (hz : ∀ s ∈ ts, s.size ≤ 70000) : Calls Try.prog 22 #[v] w fun e w' => IfP (caA 3 ts) e ∧ Below w.heap.size w w' := by
  have HK := call_any v 3 ts w h hz
  go_enter Try.func22, Try.ntmps22
  go_wp2_with fail
  refine HK.mono ?_
  rintro e w1 ⟨⟨kd, cl, op, le, nm, gk, gn, hA, rfl⟩ | ⟨hA, pv, rfl, hbd⟩, b1⟩
  · have HA : Hid (caA 3 ts = some (waC kd cl op le nm gk gn)) := hA
    clear hA HK
    go_wp2_with fail
    go_ret
    exact ⟨.inl ⟨kd, cl, op, le, nm, gk, gn, HA.out, rfl⟩, b1⟩
  · have HA : Hid (caA 3 ts = none) := hA
    clear hA HK
    go_wp2_with fail
    exact ⟨rfl, .inr ⟨HA.out, .inl ⟨pv, rfl, hbd⟩⟩, b1⟩
theorem query_any (v : Value) (ts : List ByteArray) (w : World) (h : RowT w v ts) (hz : ∀ s ∈ ts, s.size ≤ 70000) : Calls Try.prog 23 #[v] w fun e w' => IfP (caA 4 ts) e ∧ Below w.heap.size w w' := by
  have HK := call_any v 4 ts w h hz
  go_enter Try.func23, Try.ntmps23
  go_wp2_with fail
  refine HK.mono ?_
  rintro e w1 ⟨⟨kd, cl, op, le, nm, gk, gn, hA, rfl⟩ | ⟨hA, pv, rfl, hbd⟩, b1⟩
  · have HA : Hid (caA 4 ts = some (waC kd cl op le nm gk gn)) := hA
    clear hA HK
    go_wp2_with fail
    go_ret
    exact ⟨.inl ⟨kd, cl, op, le, nm, gk, gn, HA.out, rfl⟩, b1⟩
  · have HA : Hid (caA 4 ts = none) := hA
    clear hA HK
    go_wp2_with fail
    exact ⟨rfl, .inr ⟨HA.out, .inl ⟨pv, rfl, hbd⟩⟩, b1⟩
set_option maxRecDepth 100000 in
set_option maxHeartbeats 1600000 in
theorem timeout_any (v : Value) (ts : List ByteArray) (w : World) (h : RowT w v ts) (hz : ∀ s ∈ ts, s.size ≤ 70000) : Calls Try.prog 24 #[v] w fun e w' => IfP (tiA ts) e ∧ Below w.heap.size w w' := by
  obtain ⟨xa, xc, rfl⟩ : ∃ xa xc, v = .slice xa ts.length xc := ⟨_, _, h.choose_spec.choose_spec.1⟩
  by_cases hl : ts.length = 2
  · obtain ⟨a, b, rfl⟩ : ∃ a b, ts = [a, b] := by
      match ts, hl with
      | [a, b], _ => exact ⟨a, b, rfl⟩
    have HM := must_yes xa 2 xc 2 2 w (by decide)
    have hb := hz b (by simp)
    have HR : Hid (∀ W, Below w.heap.size w W → RowT W (.slice xa 2 xc) [a, b]) := fun W hW => h.below hW
    clear h hz hl
    simp only [List.length_cons, List.length_nil]
    cases hn : nB b with
    | true =>
      have HN : Hid (∀ W, Below w.heap.size w W → Calls Try.prog 30 #[.slice xa 2 xc, .int .i64 1] W fun e w' => e = .returned (.int .i64 (nV b)) ∧ Below W.heap.size W w') := fun W hW => number_yes _ [a, b] 1 b W (HR.out W hW) rfl hb hn
      have HO : Hid (tiA [a, b] = some (waC 1 0 0 0 ⟨#[]⟩ 5 (nV b))) := by show _ = _; simp [tiA, hn]
      clear hn
      go_enter Try.func24, Try.ntmps24
      go_wp2_with fail
      refine HM.mono ?_
      rintro e w1 ⟨rfl, b1⟩
      go_wp2_with fail
      refine (HN.out w1 b1).mono ?_
      rintro e w2 ⟨rfl, b2⟩
      go_wp2_with fail
      go_ret
      exact ⟨.inl ⟨_, _, _, _, _, _, _, HO.out, rfl⟩, b1.trans (b2.mono b1.size)⟩
    | false =>
      have HN : Hid (∀ W, Below w.heap.size w W → Calls Try.prog 30 #[.slice xa 2 xc, .int .i64 1] W fun e w' => PanB e ∧ Below W.heap.size W w') := fun W hW => number_no _ [a, b] 1 b W (HR.out W hW) rfl hb hn
      have HO : Hid (tiA [a, b] = none) := by show _ = _; simp [tiA, hn]
      clear hn
      go_enter Try.func24, Try.ntmps24
      go_wp2_with fail
      refine HM.mono ?_
      rintro e w1 ⟨rfl, b1⟩
      go_wp2_with fail
      refine (HN.out w1 b1).mono ?_
      rintro e w2 ⟨⟨pv, rfl, hbd⟩, b2⟩
      go_wp2_with fail
      exact ⟨rfl, .inr ⟨HO.out, .inl ⟨pv, rfl, hbd⟩⟩, b1.trans (b2.mono b1.size)⟩
  · have HM := must_no xa ts.length xc 2 2 w (by unfold inB; simp; omega)
    have HO : Hid (tiA ts = none) := tiA_len hl
    clear h hz hl
    go_enter Try.func24, Try.ntmps24
    go_wp2_with fail
    refine HM.mono ?_
    rintro e w1 ⟨⟨pv, rfl, hbd⟩, b1⟩
    go_wp2_with fail
    exact ⟨rfl, .inr ⟨HO.out, .inl ⟨pv, rfl, hbd⟩⟩, b1⟩
set_option maxRecDepth 100000 in
set_option maxHeartbeats 1600000 in
theorem time_any (v : Value) (ts : List ByteArray) (w : World) (h : RowT w v ts) (hz : ∀ s ∈ ts, s.size ≤ 70000) : Calls Try.prog 25 #[v] w fun e w' => IfP ((none : Option (Array Value))) e ∧ Below w.heap.size w w' := by
  obtain ⟨xa, xc, rfl⟩ : ∃ xa xc, v = .slice xa ts.length xc := ⟨_, _, h.choose_spec.choose_spec.1⟩
  by_cases hl : ts.length = 2
  · obtain ⟨a, b, rfl⟩ : ∃ a b, ts = [a, b] := by
      match ts, hl with
      | [a, b], _ => exact ⟨a, b, rfl⟩
    have HM := must_yes xa 2 xc 2 2 w (by decide)
    have hb := hz b (by simp)
    have HR : Hid (∀ W, Below w.heap.size w W → RowT W (.slice xa 2 xc) [a, b]) := fun W hW => h.below hW
    clear h hz hl
    simp only [List.length_cons, List.length_nil]
    cases hn : nB b with
    | true =>
      have HN : Hid (∀ W, Below w.heap.size w W → Calls Try.prog 30 #[.slice xa 2 xc, .int .i64 1] W fun e w' => e = .returned (.int .i64 (nV b)) ∧ Below W.heap.size W w') := fun W hW => number_yes _ [a, b] 1 b W (HR.out W hW) rfl hb hn
      have HO : Hid (True) := trivial
      clear hn
      go_enter Try.func25, Try.ntmps25
      go_wp2_with fail
      refine HM.mono ?_
      rintro e w1 ⟨rfl, b1⟩
      go_wp2_with fail
      refine (HN.out w1 b1).mono ?_
      rintro e w2 ⟨rfl, b2⟩
      go_wp2_with fail
      all_goals
        go_ret
        exact ⟨.inr ⟨rfl, .inr ⟨_, rfl⟩⟩, b1.trans (b2.mono b1.size)⟩
    | false =>
      have HN : Hid (∀ W, Below w.heap.size w W → Calls Try.prog 30 #[.slice xa 2 xc, .int .i64 1] W fun e w' => PanB e ∧ Below W.heap.size W w') := fun W hW => number_no _ [a, b] 1 b W (HR.out W hW) rfl hb hn
      have HO : Hid (True) := trivial
      clear hn
      go_enter Try.func25, Try.ntmps25
      go_wp2_with fail
      refine HM.mono ?_
      rintro e w1 ⟨rfl, b1⟩
      go_wp2_with fail
      refine (HN.out w1 b1).mono ?_
      rintro e w2 ⟨⟨pv, rfl, hbd⟩, b2⟩
      go_wp2_with fail
      exact ⟨rfl, .inr ⟨rfl, .inl ⟨pv, rfl, hbd⟩⟩, b1.trans (b2.mono b1.size)⟩
  · have HM := must_no xa ts.length xc 2 2 w (by unfold inB; simp; omega)
    have HO : Hid (True) := trivial
    clear h hz hl
    go_enter Try.func25, Try.ntmps25
    go_wp2_with fail
    refine HM.mono ?_
    rintro e w1 ⟨⟨pv, rfl, hbd⟩, b1⟩
    go_wp2_with fail
    exact ⟨rfl, .inr ⟨rfl, .inl ⟨pv, rfl, hbd⟩⟩, b1⟩
end Go.Proofs.Ytlhokhccjejcoaa.Rl16
