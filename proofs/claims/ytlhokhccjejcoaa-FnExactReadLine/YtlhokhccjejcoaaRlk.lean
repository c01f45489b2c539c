/- A sentence's call, of the program. -/
import Derived.Test.YtlhokhccjejcoaaRli
import Derived.Test.YtlhokhccjejcoaaRgn
import Derived.Test.YtlhokhccjejcoaaStx
namespace Go.Proofs.Ytlhokhccjejcoaa.Rl16
open Go.RowKit Go.Lib Go.Proofs.Ytlhokhccjejcoaa.Ap Go.Proofs.Ytlhokhccjejcoaa.Tx
open Go.Proofs.Ytlhokhccjejcoaa.Gr12 (nV nB l00Number_any numberIn_any)
open Go.Proofs.Ytlhokhccjejcoaa.Stw
open Go.Proofs.Ytlhokhccjejcoaa.Rgn (putAll Holds put_eq not_dst wp_region_got pick stay_pick Stay AllStay eqv stay_eqv box stay_box box_new cutL Steps.cons Steps.nil QSteps.cons QSteps.nil)
open Go.Proofs.Ytlhokhccjejcoaa.Rq (inB)
/-- The act that a call's words tell. -/
def caA (op : Int) : List ByteArray → Option (Array Value)
  | [_, b, c] => if nB b = true then some (waC 2 (mnI (nV b)) op 0 c 0 0) else none
  | [_, b, c, d] => if nB b = true ∧ nB d = true then some (waC 2 (mnI (nV b)) op (nV d) c 0 0) else none
  | _ => none
def CaP (op : Int) (ts : List ByteArray) (e : Ending) : Prop := (∃ kd cl o le nm gk gn, caA op ts = some (waC kd cl o le nm gk gn) ∧ e = .returned (.agg (waC kd cl o le nm gk gn))) ∨ (caA op ts = none ∧ PanB e)
theorem caY {op : Int} {ts : List ByteArray} {kd cl o le : Int} {nm : ByteArray} {gk gn : Int} (h : caA op ts = some (waC kd cl o le nm gk gn)) : CaP op ts (.returned (.agg (waC kd cl o le nm gk gn))) := .inl ⟨kd, cl, o, le, nm, gk, gn, h, rfl⟩
theorem call_len (v : Value) (op : Int) (ts : List ByteArray) (w : World) (h : RowT w v ts) (hl : inB ts.length 3 4 = false) :
    Calls Try.prog 29 #[v, .int .i64 op] w fun e w' => PanB e ∧ Below w.heap.size w w' := by
  obtain ⟨xa, xc, rfl⟩ : ∃ xa xc, v = .slice xa ts.length xc := ⟨_, _, h.choose_spec.choose_spec.1⟩
  have HM : Hid (∀ W, Calls Try.prog 26 #[.slice xa ts.length xc, .int .i64 3, .int .i64 4] W fun e w' => PanB e ∧ Below W.heap.size W w') := fun W => must_no xa ts.length xc 3 4 W hl
  have H0 : Hid (Below w.heap.size w (w.alloc (.cells #[.int .i64 0, .int .i64 0, .int .i64 0, .int .i64 0, .int .i64 0, .int .i64 0, .string ⟨#[]⟩, .int .i64 0, .int .i64 0, .int .i64 0, .int .i64 0, .int .i64 0, .int .i64 0, .int .i64 0, .string ⟨#[]⟩, .int .i64 0, .int .i64 0, .int .i64 0, .int .i64 0, .string ⟨#[]⟩, .string ⟨#[]⟩, .string ⟨#[]⟩, .int .i64 0, .int .i64 0, .int .i64 0, .int .i64 0] 31))) := bel_new _ _
  clear hl h
  go_enter Try.func29, Try.ntmps29
  go_upto_region 1 with fail
  generalize (w.alloc (.cells #[.int .i64 0, .int .i64 0, .int .i64 0, .int .i64 0, .int .i64 0, .int .i64 0, .string ⟨#[]⟩, .int .i64 0, .int .i64 0, .int .i64 0, .int .i64 0, .int .i64 0, .int .i64 0, .int .i64 0, .string ⟨#[]⟩, .int .i64 0, .int .i64 0, .int .i64 0, .int .i64 0, .string ⟨#[]⟩, .string ⟨#[]⟩, .string ⟨#[]⟩, .int .i64 0, .int .i64 0, .int .i64 0, .int .i64 0] 31)) = w0 at H0 ⊢
  go_wp2_with fail
  refine (HM.out _).mono ?_
  rintro e w1 ⟨⟨pv, rfl, hb⟩, b1⟩
  go_wp2_with fail
  exact ⟨rfl, ⟨pv, rfl, hb⟩, H0.out.trans (b1.mono H0.out.size)⟩
set_option maxRecDepth 100000 in
set_option maxHeartbeats 3200000 in
theorem call_yes3 (v : Value) (op : Int) (a b c : ByteArray) (ts : List ByteArray) (w : World) (h : RowT w v ts) (ht : ts = [a, b, c]) (hz : ∀ s ∈ ts, s.size ≤ 70000) (hb : nB b = true) :
    Calls Try.prog 29 #[v, .int .i64 op] w fun e w' => e = .returned (.agg (waC 2 (mnI (nV b)) op 0 c 0 0)) ∧ Below w.heap.size w w' := by
  obtain ⟨k, o, cp, rfl, hc, hcell⟩ := row_at h (by rw [ht]; simp)
  have HNB : Hid (∀ W, Below w.heap.size w W → Calls Try.prog 30 #[.slice (some ⟨k, o, none⟩) 3 cp, .int .i64 1] W fun e w' => e = .returned (.int .i64 (nV b)) ∧ Below W.heap.size W w') := fun W hW => by
    have := number_yes _ ts 1 b W (h.below hW) (by rw [ht]; rfl) (hz b (by rw [ht]; simp)) hb
    rw [ht] at this; exact this
  have HM : Hid (∀ W, Calls Try.prog 26 #[.slice (some ⟨k, o, none⟩) 3 cp, .int .i64 3, .int .i64 4] W fun e w' => e = .returned (.tuple #[]) ∧ Below W.heap.size W w') := fun W => must_yes (some ⟨k, o, none⟩) 3 cp 3 4 W (by decide)
  have HC : Hid (∀ W, Below w.heap.size w W → True ∧ True ∧ W.cell? ⟨k, o + 2, none⟩ = some (.string c) ∧ True) := fun W hW => ⟨trivial, trivial, (hW.cell (p := ⟨k, o + 2, none⟩) (World.block_lt_of_cell? w ⟨k, o + 2, none⟩ (hcell 2 c (by rw [ht]; rfl)))).trans (hcell 2 c (by rw [ht]; rfl)), trivial⟩
  have H0 : Hid ((w.alloc (.cells #[.int .i64 0, .int .i64 0, .int .i64 0, .int .i64 0, .int .i64 0, .int .i64 0, .string ⟨#[]⟩, .int .i64 0, .int .i64 0, .int .i64 0, .int .i64 0, .int .i64 0, .int .i64 0, .int .i64 0, .string ⟨#[]⟩, .int .i64 0, .int .i64 0, .int .i64 0, .int .i64 0, .string ⟨#[]⟩, .string ⟨#[]⟩, .string ⟨#[]⟩, .int .i64 0, .int .i64 0, .int .i64 0, .int .i64 0] 31)).heap[w.heap.size]? = some (.cells #[.int .i64 0, .int .i64 0, .int .i64 0, .int .i64 0, .int .i64 0, .int .i64 0, .string ⟨#[]⟩, .int .i64 0, .int .i64 0, .int .i64 0, .int .i64 0, .int .i64 0, .int .i64 0, .int .i64 0, .string ⟨#[]⟩, .int .i64 0, .int .i64 0, .int .i64 0, .int .i64 0, .string ⟨#[]⟩, .string ⟨#[]⟩, .string ⟨#[]⟩, .int .i64 0, .int .i64 0, .int .i64 0, .int .i64 0] 31 (0, 0)) ∧ Below w.heap.size w (w.alloc (.cells #[.int .i64 0, .int .i64 0, .int .i64 0, .int .i64 0, .int .i64 0, .int .i64 0, .string ⟨#[]⟩, .int .i64 0, .int .i64 0, .int .i64 0, .int .i64 0, .int .i64 0, .int .i64 0, .int .i64 0, .string ⟨#[]⟩, .int .i64 0, .int .i64 0, .int .i64 0, .int .i64 0, .string ⟨#[]⟩, .string ⟨#[]⟩, .string ⟨#[]⟩, .int .i64 0, .int .i64 0, .int .i64 0, .int .i64 0] 31))) := ⟨blk_new _ _ _, bel_new _ _⟩
  have hlen : ts.length = 3 := by rw [ht]; rfl
  rw [hlen] at *
  clear h hcell hb hz
  clear hc hlen
  go_enter Try.func29, Try.ntmps29
  go_upto_region 1 with fail
  generalize (w.alloc (.cells #[.int .i64 0, .int .i64 0, .int .i64 0, .int .i64 0, .int .i64 0, .int .i64 0, .string ⟨#[]⟩, .int .i64 0, .int .i64 0, .int .i64 0, .int .i64 0, .int .i64 0, .int .i64 0, .int .i64 0, .string ⟨#[]⟩, .int .i64 0, .int .i64 0, .int .i64 0, .int .i64 0, .string ⟨#[]⟩, .string ⟨#[]⟩, .string ⟨#[]⟩, .int .i64 0, .int .i64 0, .int .i64 0, .int .i64 0] 31)) = w0 at H0 ⊢
  go_wp2_with fail
  refine (HM.out _).mono ?_
  rintro e w1 ⟨rfl, b1⟩
  have H1 : Hid (w1.heap[w.heap.size]? = some (.cells #[.int .i64 0, .int .i64 0, .int .i64 0, .int .i64 0, .int .i64 0, .int .i64 0, .string ⟨#[]⟩, .int .i64 0, .int .i64 0, .int .i64 0, .int .i64 0, .int .i64 0, .int .i64 0, .int .i64 0, .string ⟨#[]⟩, .int .i64 0, .int .i64 0, .int .i64 0, .int .i64 0, .string ⟨#[]⟩, .string ⟨#[]⟩, .string ⟨#[]⟩, .int .i64 0, .int .i64 0, .int .i64 0, .int .i64 0] 31 (0, 0)) ∧ Below w.heap.size w w1) := ⟨(b1.block _ (Array.getElem?_eq_some_iff.1 H0.out.1).1).trans H0.out.1, H0.out.2.trans (b1.mono H0.out.2.size)⟩
  clear b1 H0
  go_upto_region 2 with fail
  refine cutL [5, 8, 9, 10, 11, 12, 13, 14, 15, 16] (fun ts W => ∃ t8 t9 t10 t11 t12 t13 t14 t15 t16 p, ts = [.pointer (some ⟨p, 0, none⟩), t8, t9, t10, t11, t12, t13, t14, t15, t16] ∧ Hid (W.heap[p]? = some (.cells #[.int .i64 2, .int .i64 (10 + (if 1000 < nV b then 1000 else nV b)), .int .i64 0, .int .i64 0, .int .i64 op, .int .i64 0, .string c, .int .i64 0, .int .i64 0, .int .i64 0, .int .i64 0, .int .i64 0, .int .i64 0, .int .i64 0, .string ⟨#[]⟩, .int .i64 0, .int .i64 0, .int .i64 0, .int .i64 0, .string ⟨#[]⟩, .string ⟨#[]⟩, .string ⟨#[]⟩, .int .i64 0, .int .i64 0, .int .i64 0, .int .i64 0] 31 (0, 0)) ∧ w1.heap.size ≤ p ∧ Below w1.heap.size w1 W)) ?_ ?_
  · refine wp_region_got 10 1 #[true, true, true, true, true, true, true, true, true, true, false] (pick [eqv (.slice (some ⟨k, o, none⟩) 3 cp), eqv (.int .i64 (nV b)), eqv (.int .i64 (if 1000 < nV b then 1000 else nV b)), eqv (.int .i64 (10 + (if 1000 < nV b then 1000 else nV b))), eqv (.int .i64 op), eqv (.slice (some ⟨k, o, none⟩) 3 cp), eqv (.pointer (some ⟨k, o + 2, none⟩)), eqv (.string c), eqv (.agg #[.int .i64 2, .int .i64 (10 + (if 1000 < nV b then 1000 else nV b)), .int .i64 0, .int .i64 0, .int .i64 op, .int .i64 0, .string c, .int .i64 0, .int .i64 0, .int .i64 0, .int .i64 0, .int .i64 0, .int .i64 0, .int .i64 0, .string ⟨#[]⟩, .int .i64 0, .int .i64 0, .int .i64 0, .int .i64 0, .string ⟨#[]⟩, .string ⟨#[]⟩, .string ⟨#[]⟩, .int .i64 0, .int .i64 0, .int .i64 0, .int .i64 0]), box w1.heap.size #[.int .i64 0, .int .i64 0, .int .i64 0, .int .i64 0, .int .i64 0, .int .i64 0, .string ⟨#[]⟩, .int .i64 0, .int .i64 0, .int .i64 0, .int .i64 0, .int .i64 0, .int .i64 0, .int .i64 0, .string ⟨#[]⟩, .int .i64 0, .int .i64 0, .int .i64 0, .int .i64 0, .string ⟨#[]⟩, .string ⟨#[]⟩, .string ⟨#[]⟩, .int .i64 0, .int .i64 0, .int .i64 0, .int .i64 0] 31]) (by kernel_rfl) [] (by kernel_rfl) (fun _ _ _ _ h => h) (by kernel_rfl) (by kernel_rfl) (stay_pick ⟨stay_eqv _, stay_eqv _, stay_eqv _, stay_eqv _, stay_eqv _, stay_eqv _, stay_eqv _, stay_eqv _, stay_eqv _, stay_box _ _ _, trivial⟩) [0, 1, 2, 3, 4, 5, 6, 7, 8, 9] (by kernel_rfl) ?_ ?_ ?_
    · refine Steps.cons (o := { dst := some 8, op := Go.Op.move (Go.Operand.tmp 0), type := 41, pos := "l16_console.go:113", after := #[], guard := none }) rfl (fun a W g hp hf K hK => ?_) ?_
      · have e : a.tmps[0]? = some (.slice (some ⟨k, o, none⟩) 3 cp) := hf 0 (by kernel_rfl)
        go_simp
        exact hK _ _ (Below.refl _ _) rfl
      refine Steps.cons (o := { dst := some 9, op := Go.Op.call { callee := Go.Callee.value (Go.Operand.func 30), args := #[Go.Operand.tmp 8, Go.Operand.const (Go.Value.int Go.IntKind.i64 1)], argTypes := #[41, 3] }, type := 3, pos := "l16_console.go:113", after := #[{ on := 0, ground := Go.Ground.data }], guard := none }) rfl (fun a W g hp hf K hK => ?_) ?_
      · obtain ⟨v, e, rfl⟩ := hp 0 8 (by kernel_rfl) (by kernel_rfl)
        have HK := HNB.out W (H1.out.2.trans (g.mono H1.out.2.size))
        go_simp
        go_at_call 30
        refine HK.mono ?_
        rintro e w' ⟨rfl, hb⟩
        try go_simp
        exact hK _ _ hb rfl
      refine Steps.cons (o := { dst := some 10, op := Go.Op.call { callee := Go.Callee.builtin Go.Builtin.min, args := #[Go.Operand.tmp 9, Go.Operand.const (Go.Value.int Go.IntKind.i64 1000)], argTypes := #[3, 3] }, type := 3, pos := "l16_console.go:113", after := #[{ on := 1, ground := Go.Ground.data }], guard := none }) rfl (fun a W g hp hf K hK => ?_) ?_
      · obtain ⟨v, e, rfl⟩ := hp 1 9 (by kernel_rfl) (by kernel_rfl)
        go_simp
        all_goals
          refine hK _ _ (Below.refl _ _) ?_
          first
          | exact rfl
          | (show Value.int .i64 _ = Value.int .i64 _; split <;> first | go_num | (rw [IntKind.wrap_i64]; congr 1; omega) | (exfalso; omega))
      refine Steps.cons (o := { dst := some 11, op := Go.Op.binOp Go.BinOp.add 3 (Go.Operand.const (Go.Value.int Go.IntKind.i64 10)) (Go.Operand.tmp 10) 3, type := 3, pos := "l16_console.go:113", after := #[{ on := 2, ground := Go.Ground.data }], guard := none }) rfl (fun a W g hp hf K hK => ?_) ?_
      · obtain ⟨v, e, rfl⟩ := hp 2 10 (by kernel_rfl) (by kernel_rfl)
        obtain ⟨hv1, hv2⟩ := nV_lt b
        go_simp
        all_goals
          refine hK _ _ (Below.refl _ _) ?_
          first
          | exact rfl
          | (show Value.int .i64 _ = Value.int .i64 _; split <;> first | go_num | (rw [IntKind.wrap_i64]; congr 1; omega) | (exfalso; omega))
      refine Steps.cons (o := { dst := some 12, op := Go.Op.move (Go.Operand.tmp 1), type := 3, pos := "l16_console.go:113", after := #[], guard := none }) rfl (fun a W g hp hf K hK => ?_) ?_
      · have e : a.tmps[1]? = some (.int .i64 op) := hf 1 (by kernel_rfl)
        go_simp
        exact hK _ _ (Below.refl _ _) rfl
      refine Steps.cons (o := { dst := some 13, op := Go.Op.move (Go.Operand.tmp 0), type := 41, pos := "l16_console.go:113", after := #[], guard := none }) rfl (fun a W g hp hf K hK => ?_) ?_
      · have e : a.tmps[0]? = some (.slice (some ⟨k, o, none⟩) 3 cp) := hf 0 (by kernel_rfl)
        go_simp
        exact hK _ _ (Below.refl _ _) rfl
      refine Steps.cons (o := { dst := some 14, op := Go.Op.indexAddr 41 (Go.Operand.tmp 13) (Go.Operand.const (Go.Value.int Go.IntKind.i64 2)), type := 0, pos := "l16_console.go:113", after := #[{ on := 5, ground := Go.Ground.data }], guard := none }) rfl (fun a W g hp hf K hK => ?_) ?_
      · obtain ⟨v, e, rfl⟩ := hp 5 13 (by kernel_rfl) (by kernel_rfl)
        go_simp
        exact hK _ _ (Below.refl _ _) rfl
      refine Steps.cons (o := { dst := some 15, op := Go.Op.load 9 (Go.Operand.tmp 14), type := 9, pos := "l16_console.go:113", after := #[{ on := 6, ground := Go.Ground.data }], guard := none }) rfl (fun a W g hp hf K hK => ?_) ?_
      · obtain ⟨v, e, rfl⟩ := hp 6 14 (by kernel_rfl) (by kernel_rfl)
        have c2 := (HC.out W (H1.out.2.trans (g.mono H1.out.2.size))).2.2.1
        go_simp
        exact hK _ _ (Below.refl _ _) rfl
      refine Steps.cons (o := { dst := some 16, op := Go.Op.build 31 #[(0, Go.Operand.const (Go.Value.int Go.IntKind.i64 2)), (1, Go.Operand.tmp 11), (4, Go.Operand.tmp 12), (6, Go.Operand.tmp 15)], type := 31, pos := "l16_console.go:113", after := #[{ on := 3, ground := Go.Ground.data }, { on := 4, ground := Go.Ground.data }, { on := 7, ground := Go.Ground.data }], guard := none }) rfl (fun a W g hp hf K hK => ?_) ?_
      · obtain ⟨v3, e3, rfl⟩ := hp 3 11 (by kernel_rfl) (by kernel_rfl)
        obtain ⟨v4, e4, rfl⟩ := hp 4 12 (by kernel_rfl) (by kernel_rfl)
        obtain ⟨v7, e7, rfl⟩ := hp 7 15 (by kernel_rfl) (by kernel_rfl)
        go_simp
        all_goals
          refine hK _ _ (Below.refl _ _) ?_
          first
          | exact rfl
          | (show Value.int .i64 _ = Value.int .i64 _; split <;> first | go_num | (rw [IntKind.wrap_i64]; congr 1; omega) | (exfalso; omega))
      refine Steps.cons (o := { dst := some 5, op := Go.Op.alloc 31, type := 0, pos := "l16_console.go:113", after := #[], guard := none }) rfl (fun a W g hp hf K hK => ?_) ?_
      · go_simp
        exact hK _ _ (bel_new _ _) (box_new _ _ g.size)
      exact Steps.nil
    · exact QSteps.nil
    · intro a W g hv hf hsz hdf
      obtain ⟨v0, e0, p0⟩ := hv 0 8 (by decide) (by kernel_rfl)
      obtain ⟨v1, e1, p1⟩ := hv 1 9 (by decide) (by kernel_rfl)
      obtain ⟨v2, e2, p2⟩ := hv 2 10 (by decide) (by kernel_rfl)
      obtain ⟨v3, e3, p3⟩ := hv 3 11 (by decide) (by kernel_rfl)
      obtain ⟨v4, e4, p4⟩ := hv 4 12 (by decide) (by kernel_rfl)
      obtain ⟨v5, e5, p5⟩ := hv 5 13 (by decide) (by kernel_rfl)
      obtain ⟨v6, e6, p6⟩ := hv 6 14 (by decide) (by kernel_rfl)
      obtain ⟨v7, e7, p7⟩ := hv 7 15 (by decide) (by kernel_rfl)
      obtain ⟨v8, e8, p8⟩ := hv 8 16 (by decide) (by kernel_rfl)
      obtain ⟨v9, e9, p9⟩ := hv 9 5 (by decide) (by kernel_rfl)
      have ha := put_eq [8, 9, 10, 11, 12, 13, 14, 15, 16, 5] [v0, v1, v2, v3, v4, v5, v6, v7, v8, v9] _ hsz hdf (fun d hd => hf d (not_dst (ks := [8, 9, 10, 11, 12, 13, 14, 15, 16, 5]) (by kernel_rfl) hd)) ⟨e0, e1, e2, e3, e4, e5, e6, e7, e8, e9, trivial⟩
      clear e0 e1 e2 e3 e4 e5 e6 e7 e8 e9 hv hf hsz hdf
      subst ha
      obtain rfl : v8 = .agg #[.int .i64 2, .int .i64 (10 + (if 1000 < nV b then 1000 else nV b)), .int .i64 0, .int .i64 0, .int .i64 op, .int .i64 0, .string c, .int .i64 0, .int .i64 0, .int .i64 0, .int .i64 0, .int .i64 0, .int .i64 0, .int .i64 0, .string ⟨#[]⟩, .int .i64 0, .int .i64 0, .int .i64 0, .int .i64 0, .string ⟨#[]⟩, .string ⟨#[]⟩, .string ⟨#[]⟩, .int .i64 0, .int .i64 0, .int .i64 0, .int .i64 0] := p8
      obtain ⟨p, rfl, lp, zp⟩ : box w1.heap.size #[.int .i64 0, .int .i64 0, .int .i64 0, .int .i64 0, .int .i64 0, .int .i64 0, .string ⟨#[]⟩, .int .i64 0, .int .i64 0, .int .i64 0, .int .i64 0, .int .i64 0, .int .i64 0, .int .i64 0, .string ⟨#[]⟩, .int .i64 0, .int .i64 0, .int .i64 0, .int .i64 0, .string ⟨#[]⟩, .string ⟨#[]⟩, .string ⟨#[]⟩, .int .i64 0, .int .i64 0, .int .i64 0, .int .i64 0] 31 v9 W := p9
      clear p0 p1 p2 p3 p4 p5 p6 p7
      simp only [putAll, Act.put, List.setIfInBounds_toArray, List.set_cons_zero, List.set_cons_succ]
      refine wpAnyH_ready (rs := [10]) (by kernel_rfl) (by simp) ?_
      refine (AllReadyH.cons (o := { dst := none, op := Go.Op.store 31 (Go.Operand.tmp 5) (Go.Operand.tmp 16), type := 0, pos := "l16_console.go:113", after := #[{ on := 9, ground := Go.Ground.data }, { on := 8, ground := Go.Ground.data }, { on := 1, ground := Go.Ground.chain }, { on := 0, ground := Go.Ground.phase }, { on := 1, ground := Go.Ground.phase }, { on := 2, ground := Go.Ground.phase }, { on := 3, ground := Go.Ground.phase }, { on := 4, ground := Go.Ground.phase }, { on := 5, ground := Go.Ground.phase }, { on := 6, ground := Go.Ground.phase }, { on := 7, ground := Go.Ground.phase }, { on := 8, ground := Go.Ground.phase }, { on := 9, ground := Go.Ground.phase }], guard := none }) rfl (fun K hK => ?_) AllReadyH.nil)
      rw [if_pos (by rfl)]
      refine wp_box 31 (.tmp 5) (.tmp 16) rfl p _ #[.int .i64 2, .int .i64 (10 + (if 1000 < nV b then 1000 else nV b)), .int .i64 0, .int .i64 0, .int .i64 op, .int .i64 0, .string c, .int .i64 0, .int .i64 0, .int .i64 0, .int .i64 0, .int .i64 0, .int .i64 0, .int .i64 0, .string ⟨#[]⟩, .int .i64 0, .int .i64 0, .int .i64 0, .int .i64 0, .string ⟨#[]⟩, .string ⟨#[]⟩, .string ⟨#[]⟩, .int .i64 0, .int .i64 0, .int .i64 0, .int .i64 0] 31 (by rfl) (by rfl) zp (by rfl) (by kernel_rfl) (by kernel_rfl) (fun W1 A1 F1 G1 => ?_)
      refine hK.out _ _ trivial (fun _ => ?_)
      clear hK K
      (try simp only [List.setIfInBounds_toArray, List.set_cons_zero, List.set_cons_succ])
      refine wpAnyH_done (by kernel_rfl) ?_ _
      dsimp only
      refine ⟨_, ?_, ?_, ?_, ?_, ?_, ?_, ?_, ?_, ?_, ?_, p, rfl, A1, lp, G1 g lp⟩
      · simp only [putAll, Act.put, List.setIfInBounds_toArray, List.set_cons_zero, List.set_cons_succ]
        exact rfl
  rintro ts w2 ⟨t8, t9, t10, t11, t12, t13, t14, t15, t16, p, rfl, H2⟩
  simp only [putAll, Act.put, List.setIfInBounds_toArray, List.set_cons_zero, List.set_cons_succ]
  have HZ : Hid (w2.heap[w.heap.size]? = some (.cells #[.int .i64 0, .int .i64 0, .int .i64 0, .int .i64 0, .int .i64 0, .int .i64 0, .string ⟨#[]⟩, .int .i64 0, .int .i64 0, .int .i64 0, .int .i64 0, .int .i64 0, .int .i64 0, .int .i64 0, .string ⟨#[]⟩, .int .i64 0, .int .i64 0, .int .i64 0, .int .i64 0, .string ⟨#[]⟩, .string ⟨#[]⟩, .string ⟨#[]⟩, .int .i64 0, .int .i64 0, .int .i64 0, .int .i64 0] 31 (0, 0)) ∧ Below w.heap.size w w2) := ⟨(H2.out.2.2.block _ (Array.getElem?_eq_some_iff.1 H1.out.1).1).trans H1.out.1, H1.out.2.trans (H2.out.2.2.mono H1.out.2.size)⟩
  go_wp2_with (first | (refine wpList_ldbox rfl 31 (.tmp 5) rfl (p) #[.int .i64 2, .int .i64 (10 + (if 1000 < nV b then 1000 else nV b)), .int .i64 0, .int .i64 0, .int .i64 op, .int .i64 0, .string c, .int .i64 0, .int .i64 0, .int .i64 0, .int .i64 0, .int .i64 0, .int .i64 0, .int .i64 0, .string ⟨#[]⟩, .int .i64 0, .int .i64 0, .int .i64 0, .int .i64 0, .string ⟨#[]⟩, .string ⟨#[]⟩, .string ⟨#[]⟩, .int .i64 0, .int .i64 0, .int .i64 0, .int .i64 0] 31 ?_ H2.out.1 ?_ ?_ ?_; go_must ((first | rfl | kernel_rfl); (iterate 2 kernel_rfl); simp only [Act.put])) | (refine wpList_box rfl 31 (.tmp 4) (.tmp 23) rfl (w.heap.size) _ #[.int .i64 2, .int .i64 (10 + (if 1000 < nV b then 1000 else nV b)), .int .i64 0, .int .i64 0, .int .i64 op, .int .i64 0, .string c, .int .i64 0, .int .i64 0, .int .i64 0, .int .i64 0, .int .i64 0, .int .i64 0, .int .i64 0, .string ⟨#[]⟩, .int .i64 0, .int .i64 0, .int .i64 0, .int .i64 0, .string ⟨#[]⟩, .string ⟨#[]⟩, .string ⟨#[]⟩, .int .i64 0, .int .i64 0, .int .i64 0, .int .i64 0] 31 ?_ ?_ HZ.out.1 ?_ ?_ ?_ ?_; go_must ((iterate 3 (first | rfl | kernel_rfl)); (iterate 2 (first | kernel_rfl | rfl)); intro wA Ab Af Ag; simp only [Act.put])))
  all_goals
    refine res_box1 Try.results29 Ab rfl (by kernel_rfl) (by kernel_rfl) rfl ?_
    exact ⟨rfl, Ag HZ.out.2 (Nat.le_refl _)⟩
end Go.Proofs.Ytlhokhccjejcoaa.Rl16
