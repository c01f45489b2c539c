/- Faults: sentinels, faults that were found in something; errors.Is over them. -/
import Derived.Test.YtnebohdlndiejaaGreatDoorChecked
import Derived.WalkKit
import Derived.Below
import Derived.LaidEql
import Derived.Stop.Asserts
import Derived.RowKitTokens
import Derived.Deep.Cut
import Derived.Lib.SmallJoins
import Derived.RowKit
namespace Go.Proofs.YtnebohdlndiejaaGreatDoor.Er
open Go.RowKit Go.Extern.Stop Go.Stop Go.Extern Go.Extern.Rtype

/-- A sentinel; a fault that was found in something. -/
def sen (a : Addr) : Value := .iface 259 (.pointer (some a))
def fnd (s : ByteArray) (v : Value) : Value := .iface 119 (.agg #[.string s, v])
theorem isTypeOf (v : Value) (w : World) : (Extern.ReflectliteType.typeOf #[.iface 259 v]).run Tryz.prog w = .ok (.iface 207 (.agg #[.pointer (some ⟨13, 259, none⟩)])) w := by kernel_rfl
theorem isComparable (w : World) : ((Extern.ReflectliteType.method fun t => do noPackHeld "Comparable" t; pure (.bool (← typeInfo t).comparable)) #[.agg #[.pointer (some ⟨13, 259, none⟩)]]).run Tryz.prog w = .ok (.bool true) w := by kernel_rfl
theorem isMethodComparable (v : Value) (w : World) : (Go.method 393 207 v "Comparable").run Tryz.prog w = .ok (216, v) w := by kernel_rfl
theorem isComp : (Tryz.prog.info? 259).map (·.comparable) = some true := by kernel_rfl
theorem isSize : (Tryz.prog.info? 282).map (·.size) = some 1 := by kernel_rfl
theorem noIsE (v : Value) (xT : TypeId) (w : World) : (Instr.typeAssert (.iface 259 v) xT 209 true).run Tryz.prog w = .ok (.tuple #[.nilIface, .bool false]) w := run_typeAssert_lacksB Tryz.underlying209 (by kernel_rfl) (by kernel_rfl) v xT w
theorem noUnwrapE (v : Value) (xT : TypeId) (w : World) : (Instr.typeAssert (.iface 259 v) xT 212 true).run Tryz.prog w = .ok (.tuple #[.nilIface, .bool false]) w := run_typeAssert_lacksB Tryz.underlying212 (by kernel_rfl) (by kernel_rfl) v xT w
theorem noUnwrapsE (v : Value) (xT : TypeId) (w : World) : (Instr.typeAssert (.iface 259 v) xT 214 true).run Tryz.prog w = .ok (.tuple #[.nilIface, .bool false]) w := run_typeAssert_lacksB Tryz.underlying214 (by kernel_rfl) (by kernel_rfl) v xT w
theorem noIsW (v : Value) (xT : TypeId) (w : World) : (Instr.typeAssert (.iface 119 v) xT 209 true).run Tryz.prog w = .ok (.tuple #[.nilIface, .bool false]) w := run_typeAssert_lacksB Tryz.underlying209 (by kernel_rfl) (by kernel_rfl) v xT w
theorem hasUnwrapW (v : Value) (xT : TypeId) (w : World) : (Instr.typeAssert (.iface 119 v) xT 212 true).run Tryz.prog w = .ok (.tuple #[.iface 119 v, .bool true]) w := run_typeAssert_hasB Tryz.underlying212 (by kernel_rfl) v xT w
theorem methodUnwrap (v : Value) (w : World) : (Go.method 393 119 v "Unwrap").run Tryz.prog w = .ok (211, v) w := by kernel_rfl
theorem unwrap_any (s : ByteArray) (t : TypeId) (v : Value) (w : World) : Calls Tryz.prog 211 #[.agg #[.string s, .iface t v]] w fun e w' => e = .returned (.iface t v) ∧ Below w.heap.size w w' := by
  have HB : Hid (∀ o, Below w.heap.size w (w.alloc o)) := fun o => (Below.refl _ _).alloc (Nat.le_refl _) o
  go_enter Tryz.func211, Tryz.ntmps211
  go_wp2_with fail
  go_ret
  exact ⟨rfl, HB.out _⟩
/-- Worlds that hold what w holds keep a block. -/
theorem blk {w W : World} {o : Obj} {b : Nat} (h : w.heap[b]? = some o) (hb : Below w.heap.size w W) : W.heap[b]? = some o := (hb.block b (Array.getElem?_eq_some_iff.1 h).1).trans h
set_option maxRecDepth 100000 in
set_option maxHeartbeats 1600000 in
theorem is1_same (s0 : ByteArray) (a : Addr) (w : World) : Calls Tryz.prog 112 #[fnd s0 (sen a), sen a, .bool true] w fun e w' => e = .returned (.bool true) ∧ Below w.heap.size w w' := by
  obtain ⟨i, hi, hcmp⟩ := Option.map_eq_some_iff.1 isComp
  obtain ⟨j, hj, hjs⟩ := Option.map_eq_some_iff.1 isSize
  have nE := noIsE
  have uE := noUnwrapE
  have vE := noUnwrapsE
  have nW := noIsW
  have uW := hasUnwrapW
  have mU := methodUnwrap
  have heq := fun W => run_eql_iface_ptr_same (P := Tryz.prog) W a Tryz.underlying68 Tryz.underlying259 hi hcmp hj
  have hty0 := fun W => run_eql_iface_types (P := Tryz.prog) 119 259 (.agg #[.string s0, .iface 259 (.pointer (some a))]) (.pointer (some a)) Tryz.underlying68 (by decide) W
  unfold fnd sen
  go_enter Tryz.func112, Tryz.ntmps112
  go_wp2_with fail
  refine wp_loop_rounds 2 ?_
  rw [rounds_succ]
  go_wp2_with fail
  refine (unwrap_any s0 _ _ _).mono ?_
  rintro e w0 ⟨rfl, b0⟩
  have B0 : Hid (Below w.heap.size w w0) := b0
  clear b0
  go_wp2_with fail
  rw [rounds_succ]
  go_wp2_with fail
  go_ret
  exact ⟨rfl, B0.out⟩
set_option maxRecDepth 100000 in
set_option maxHeartbeats 1600000 in
theorem is1_other (s0 : ByteArray) (a b : Addr) (ca cb : Array Value) (ta tb : TypeId) (w : World) (hne : a ≠ b) (ha : w.heap[a.block]? = some (.cells ca ta (0, 0))) (hb : w.heap[b.block]? = some (.cells cb tb (0, 0))) : Calls Tryz.prog 112 #[fnd s0 (sen a), sen b, .bool true] w fun e w' => e = .returned (.bool false) ∧ Below w.heap.size w w' := by
  obtain ⟨i, hi, hcmp⟩ := Option.map_eq_some_iff.1 isComp
  obtain ⟨j, hj, hjs⟩ := Option.map_eq_some_iff.1 isSize
  have nE := noIsE
  have uE := noUnwrapE
  have vE := noUnwrapsE
  have nW := noIsW
  have uW := hasUnwrapW
  have mU := methodUnwrap
  have HEQ : Hid (∀ W, Below w.heap.size w W → (binOp .eql 68 (.iface 259 (.pointer (some a))) (.iface 259 (.pointer (some b)))).run Tryz.prog W = .ok (.bool false) W) := fun W hW => run_eql_iface_ptr_other (P := Tryz.prog) W Tryz.underlying68 Tryz.underlying259 hi hcmp hj (by rw [hjs]; decide) hne (blk ha hW) (blk hb hW)
  clear ha hb hne
  have hty0 := fun W => run_eql_iface_types (P := Tryz.prog) 119 259 (.agg #[.string s0, .iface 259 (.pointer (some a))]) (.pointer (some b)) Tryz.underlying68 (by decide) W
  unfold fnd sen
  go_enter Tryz.func112, Tryz.ntmps112
  go_wp2_with fail
  refine wp_loop_rounds 2 ?_
  rw [rounds_succ]
  go_wp2_with fail
  refine (unwrap_any s0 _ _ _).mono ?_
  rintro e w0 ⟨rfl, b0⟩
  have B0 : Hid (Below w.heap.size w w0) := b0
  clear b0
  go_wp2_with fail
  have heq := HEQ.out w0 B0.out
  rw [rounds_succ]
  go_wp2_with fail
  go_ret
  exact ⟨rfl, B0.out⟩
set_option maxRecDepth 100000 in
set_option maxHeartbeats 1600000 in
theorem is2_same (s0 : ByteArray) (s1 : ByteArray) (a : Addr) (w : World) : Calls Tryz.prog 112 #[fnd s0 (fnd s1 (sen a)), sen a, .bool true] w fun e w' => e = .returned (.bool true) ∧ Below w.heap.size w w' := by
  obtain ⟨i, hi, hcmp⟩ := Option.map_eq_some_iff.1 isComp
  obtain ⟨j, hj, hjs⟩ := Option.map_eq_some_iff.1 isSize
  have nE := noIsE
  have uE := noUnwrapE
  have vE := noUnwrapsE
  have nW := noIsW
  have uW := hasUnwrapW
  have mU := methodUnwrap
  have heq := fun W => run_eql_iface_ptr_same (P := Tryz.prog) W a Tryz.underlying68 Tryz.underlying259 hi hcmp hj
  have hty0 := fun W => run_eql_iface_types (P := Tryz.prog) 119 259 (.agg #[.string s0, .iface 119 (.agg #[.string s1, .iface 259 (.pointer (some a))])]) (.pointer (some a)) Tryz.underlying68 (by decide) W
  have hty1 := fun W => run_eql_iface_types (P := Tryz.prog) 119 259 (.agg #[.string s1, .iface 259 (.pointer (some a))]) (.pointer (some a)) Tryz.underlying68 (by decide) W
  unfold fnd sen
  go_enter Tryz.func112, Tryz.ntmps112
  go_wp2_with fail
  refine wp_loop_rounds 3 ?_
  rw [rounds_succ]
  go_wp2_with fail
  refine (unwrap_any s0 _ _ _).mono ?_
  rintro e w0 ⟨rfl, b0⟩
  have B0 : Hid (Below w.heap.size w w0) := b0
  clear b0
  go_wp2_with fail
  rw [rounds_succ]
  go_wp2_with fail
  refine (unwrap_any s1 _ _ _).mono ?_
  rintro e w1 ⟨rfl, b1⟩
  have B1 : Hid (Below w.heap.size w w1) := B0.out.trans (b1.mono B0.out.size)
  clear b1
  go_wp2_with fail
  rw [rounds_succ]
  go_wp2_with fail
  go_ret
  exact ⟨rfl, B1.out⟩
set_option maxRecDepth 100000 in
set_option maxHeartbeats 1600000 in
theorem is2_other (s0 : ByteArray) (s1 : ByteArray) (a b : Addr) (ca cb : Array Value) (ta tb : TypeId) (w : World) (hne : a ≠ b) (ha : w.heap[a.block]? = some (.cells ca ta (0, 0))) (hb : w.heap[b.block]? = some (.cells cb tb (0, 0))) : Calls Tryz.prog 112 #[fnd s0 (fnd s1 (sen a)), sen b, .bool true] w fun e w' => e = .returned (.bool false) ∧ Below w.heap.size w w' := by
  obtain ⟨i, hi, hcmp⟩ := Option.map_eq_some_iff.1 isComp
  obtain ⟨j, hj, hjs⟩ := Option.map_eq_some_iff.1 isSize
  have nE := noIsE
  have uE := noUnwrapE
  have vE := noUnwrapsE
  have nW := noIsW
  have uW := hasUnwrapW
  have mU := methodUnwrap
  have HEQ : Hid (∀ W, Below w.heap.size w W → (binOp .eql 68 (.iface 259 (.pointer (some a))) (.iface 259 (.pointer (some b)))).run Tryz.prog W = .ok (.bool false) W) := fun W hW => run_eql_iface_ptr_other (P := Tryz.prog) W Tryz.underlying68 Tryz.underlying259 hi hcmp hj (by rw [hjs]; decide) hne (blk ha hW) (blk hb hW)
  clear ha hb hne
  have hty0 := fun W => run_eql_iface_types (P := Tryz.prog) 119 259 (.agg #[.string s0, .iface 119 (.agg #[.string s1, .iface 259 (.pointer (some a))])]) (.pointer (some b)) Tryz.underlying68 (by decide) W
  have hty1 := fun W => run_eql_iface_types (P := Tryz.prog) 119 259 (.agg #[.string s1, .iface 259 (.pointer (some a))]) (.pointer (some b)) Tryz.underlying68 (by decide) W
  unfold fnd sen
  go_enter Tryz.func112, Tryz.ntmps112
  go_wp2_with fail
  refine wp_loop_rounds 3 ?_
  rw [rounds_succ]
  go_wp2_with fail
  refine (unwrap_any s0 _ _ _).mono ?_
  rintro e w0 ⟨rfl, b0⟩
  have B0 : Hid (Below w.heap.size w w0) := b0
  clear b0
  go_wp2_with fail
  rw [rounds_succ]
  go_wp2_with fail
  refine (unwrap_any s1 _ _ _).mono ?_
  rintro e w1 ⟨rfl, b1⟩
  have B1 : Hid (Below w.heap.size w w1) := B0.out.trans (b1.mono B0.out.size)
  clear b1
  go_wp2_with fail
  have heq := HEQ.out w1 B1.out
  rw [rounds_succ]
  go_wp2_with fail
  go_ret
  exact ⟨rfl, B1.out⟩
set_option maxRecDepth 100000 in
set_option maxHeartbeats 1600000 in
theorem Is_of (t : TypeId) (v : Value) (b : Addr) (r : Bool) (w : World) (h : Calls Tryz.prog 112 #[.iface t v, sen b, .bool true] w fun e w' => e = .returned (.bool r) ∧ Below w.heap.size w w') : Calls Tryz.prog 73 #[.iface t v, sen b] w fun e w' => e = .returned (.bool r) ∧ Below w.heap.size w w' := by
  have h8 := @run_callFunc_extern Tryz.prog 111 _ Extern.ReflectliteType.typeOf Tryz.func111 (by kernel_rfl) (by kernel_rfl) (by kernel_rfl) (by kernel_rfl)
  have h32 := @run_callFunc_extern Tryz.prog 216 _ (Extern.ReflectliteType.method fun t => do noPackHeld "Comparable" t; pure (.bool (← typeInfo t).comparable)) Tryz.func216 (by kernel_rfl) (by kernel_rfl) (by kernel_rfl) (by kernel_rfl)
  have tT := isTypeOf
  have cT : ∀ w, (callFunc 216 #[.agg #[.pointer (some ⟨13, 259, none⟩)]]).run Tryz.prog w = .ok (.value (.bool true)) w := fun w => (h32 _ w).trans (by rw [isComparable]; rfl)
  clear h32
  have mR := isMethodComparable
  have HH : Hid (Calls Tryz.prog 112 #[.iface t v, sen b, .bool true] w fun e w' => e = .returned (.bool r) ∧ Below w.heap.size w w') := h
  clear h
  unfold sen at HH ⊢
  go_enter Tryz.func73, Tryz.ntmps73
  go_wp2_with fail
  refine HH.out.mono ?_
  rintro e w1 ⟨rfl, b1⟩
  go_wp2_with fail
  go_ret
  exact ⟨rfl, b1⟩
/-- The sentinels of the program: their variables, their blocks; no two are one. -/
structure Sen (W : World) (A : Nat → Addr) : Prop where
  g0 : W.cell? ⟨0, 0, none⟩ = some (sen (A 0))
  g1 : W.cell? ⟨5, 0, none⟩ = some (sen (A 1))
  g2 : W.cell? ⟨1, 0, none⟩ = some (sen (A 2))
  g3 : W.cell? ⟨6, 0, none⟩ = some (sen (A 3))
  g4 : W.cell? ⟨7, 0, none⟩ = some (sen (A 4))
  g5 : W.cell? ⟨3, 0, none⟩ = some (sen (A 5))
  g6 : W.cell? ⟨2, 0, none⟩ = some (sen (A 6))
  g7 : W.cell? ⟨4, 0, none⟩ = some (sen (A 7))
  bl : ∀ i, i < 8 → ∃ c t, W.heap[(A i).block]? = some (.cells c t (0, 0))
  ne : ∀ i j, i < 8 → j < 8 → i ≠ j → A i ≠ A j
theorem Sen.below {W W' : World} {A : Nat → Addr} (h : Sen W A) (hb : Below W.heap.size W W') : Sen W' A :=
  ⟨(hb.cell (World.block_lt_of_cell? W _ h.g0)).trans h.g0, (hb.cell (World.block_lt_of_cell? W _ h.g1)).trans h.g1, (hb.cell (World.block_lt_of_cell? W _ h.g2)).trans h.g2, (hb.cell (World.block_lt_of_cell? W _ h.g3)).trans h.g3, (hb.cell (World.block_lt_of_cell? W _ h.g4)).trans h.g4, (hb.cell (World.block_lt_of_cell? W _ h.g5)).trans h.g5, (hb.cell (World.block_lt_of_cell? W _ h.g6)).trans h.g6, (hb.cell (World.block_lt_of_cell? W _ h.g7)).trans h.g7, fun i hi => (h.bl i hi).elim fun c hc => hc.elim fun t ht => ⟨c, t, blk ht hb⟩, h.ne⟩
def fcode (i : Nat) : Int := [2, 3, 4, 10, 11, 12, 19, 1].getD i 0
theorem is1_any {W : World} {A : Nat → Addr} (h : Sen W A) (s : ByteArray) (i k : Nat) (hi : i < 8) (hk : k < 8) : Calls Tryz.prog 73 #[fnd s (sen (A i)), sen (A k)] W fun e w' => e = .returned (.bool (decide (i = k))) ∧ Below W.heap.size W w' := by
  by_cases e : i = k
  · subst e
    rw [decide_eq_true rfl]
    exact Is_of _ _ _ _ _ (is1_same s _ W)
  · rw [decide_eq_false e]
    obtain ⟨c, t, hc⟩ := h.bl i hi
    obtain ⟨c', t', hc'⟩ := h.bl k hk
    exact Is_of _ _ _ _ _ (is1_other s _ _ c c' t t' W (h.ne i k hi hk e) hc hc')
theorem is2_any {W : World} {A : Nat → Addr} (h : Sen W A) (s r : ByteArray) (i k : Nat) (hi : i < 8) (hk : k < 8) : Calls Tryz.prog 73 #[fnd s (fnd r (sen (A i))), sen (A k)] W fun e w' => e = .returned (.bool (decide (i = k))) ∧ Below W.heap.size W w' := by
  by_cases e : i = k
  · subst e
    rw [decide_eq_true rfl]
    exact Is_of _ _ _ _ _ (is2_same s r _ W)
  · rw [decide_eq_false e]
    obtain ⟨c, t, hc⟩ := h.bl i hi
    obtain ⟨c', t', hc'⟩ := h.bl k hk
    exact Is_of _ _ _ _ _ (is2_other s r _ _ c c' t t' W (h.ne i k hi hk e) hc hc')
set_option maxRecDepth 100000 in
set_option maxHeartbeats 1600000 in
theorem namedFaults_any {w : World} {A : Nat → Addr} (h : Sen w A) : Calls Tryz.prog 72 #[] w fun e w' => e = .returned (.slice (some ⟨w.heap.size, 0, none⟩) 7 7) ∧ w' = w.alloc (.cells #[sen (A 0), .int .i64 2, sen (A 1), .int .i64 3, sen (A 2), .int .i64 4, sen (A 3), .int .i64 10, sen (A 4), .int .i64 11, sen (A 5), .int .i64 12, sen (A 6), .int .i64 19] 130) := by
  obtain ⟨g0, g1, g2, g3, g4, g5, g6, g7, _, _⟩ := h
  unfold sen at *
  go_enter Tryz.func72, Tryz.ntmps72
  go_wp2_with fail
  go_ret
  exact ⟨rfl, rfl⟩
theorem nf_cells {w W : World} {A : Nat → Addr} (hb : Below (w.alloc (.cells #[sen (A 0), .int .i64 2, sen (A 1), .int .i64 3, sen (A 2), .int .i64 4, sen (A 3), .int .i64 10, sen (A 4), .int .i64 11, sen (A 5), .int .i64 12, sen (A 6), .int .i64 19] 130)).heap.size (w.alloc (.cells #[sen (A 0), .int .i64 2, sen (A 1), .int .i64 3, sen (A 2), .int .i64 4, sen (A 3), .int .i64 10, sen (A 4), .int .i64 11, sen (A 5), .int .i64 12, sen (A 6), .int .i64 19] 130)) W) {k : Nat} (hk : k < 7) : W.cell? ⟨w.heap.size, k * 2, none⟩ = some (sen (A k)) ∧ W.cell? ⟨w.heap.size, k * 2 + 1, none⟩ = some (.int .i64 (fcode k)) := by
  have h1 := blk (heap_alloc_new w _) hb
  rcases (by omega : k = 0 ∨ k = 1 ∨ k = 2 ∨ k = 3 ∨ k = 4 ∨ k = 5 ∨ k = 6) with rfl | rfl | rfl | rfl | rfl | rfl | rfl
  all_goals exact ⟨Joins.cell_of_block h1 _, Joins.cell_of_block h1 _⟩
theorem ret_i {a b : Int} (h : a = b) : Ending.returned (.int .i64 a) = .returned (.int .i64 b) := by rw [h]
set_option maxRecDepth 100000 in
set_option maxHeartbeats 1600000 in
theorem codeOfFault_any (t : TypeId) (v : Value) {w : World} {A : Nat → Addr} (i : Nat) (hi : i < 8) (h : Sen w A) (hIs : ∀ W k, Below w.heap.size w W → k < 7 → Calls Tryz.prog 73 #[.iface t v, sen (A k)] W fun e w' => e = .returned (.bool (decide (i = k))) ∧ Below W.heap.size W w') :
    Calls Tryz.prog 36 #[.iface t v] w fun e w' => e = .returned (.int .i64 (fcode i)) ∧ Below w.heap.size w w' := by
  have HIS : Hid (∀ W k, Below w.heap.size w W → k < 7 → Calls Tryz.prog 73 #[.iface t v, sen (A k)] W fun e w' => e = .returned (.bool (decide (i = k))) ∧ Below W.heap.size W w') := hIs
  have HNF : Hid (Calls Tryz.prog 72 #[] w fun e w' => e = .returned (.slice (some ⟨w.heap.size, 0, none⟩) 7 7) ∧ w' = w.alloc (.cells #[sen (A 0), .int .i64 2, sen (A 1), .int .i64 3, sen (A 2), .int .i64 4, sen (A 3), .int .i64 10, sen (A 4), .int .i64 11, sen (A 5), .int .i64 12, sen (A 6), .int .i64 19] 130)) := namedFaults_any h
  have HNC : Hid (∀ W k, Below (w.alloc (.cells #[sen (A 0), .int .i64 2, sen (A 1), .int .i64 3, sen (A 2), .int .i64 4, sen (A 3), .int .i64 10, sen (A 4), .int .i64 11, sen (A 5), .int .i64 12, sen (A 6), .int .i64 19] 130)).heap.size (w.alloc (.cells #[sen (A 0), .int .i64 2, sen (A 1), .int .i64 3, sen (A 2), .int .i64 4, sen (A 3), .int .i64 10, sen (A 4), .int .i64 11, sen (A 5), .int .i64 12, sen (A 6), .int .i64 19] 130)) W → k < 7 → (W.cell? ⟨w.heap.size, k * 2, none⟩ = some (sen (A k)) ∧ W.cell? ⟨w.heap.size, k * 2 + 1, none⟩ = some (.int .i64 (fcode k))) ∧ Below w.heap.size w W) := fun W k hW hk => ⟨nf_cells hW hk, ((Below.refl w.heap.size w).alloc (Nat.le_refl _) _).trans (hW.mono (by simp))⟩
  have HB0 : Hid (Below w.heap.size w (w.alloc (.cells #[sen (A 0), .int .i64 2, sen (A 1), .int .i64 3, sen (A 2), .int .i64 4, sen (A 3), .int .i64 10, sen (A 4), .int .i64 11, sen (A 5), .int .i64 12, sen (A 6), .int .i64 19] 130))) := (Below.refl w.heap.size w).alloc (Nat.le_refl _) _
  clear hIs h
  go_enter Tryz.func36, Tryz.ntmps36
  go_wp2_with fail
  refine HNF.out.mono ?_
  rintro e w1 ⟨rfl, hw1⟩
  rw [← hw1] at HNC HB0
  clear hw1 HNF
  go_wp2_with fail
  go_loopw [9] (fun x wr => ∃ k : Nat, k ≤ 7 ∧ x = .int .i64 k ∧ Hid ((∀ j, j < k → i ≠ j) ∧ Below w1.heap.size w1 wr)) (fun x _ => 7 - (intOf x).toNat)
  case atStart => exact ⟨0, by omega, rfl, ⟨fun j hj => by omega, Below.refl _ _⟩⟩
  case round =>
    obtain ⟨k, hk, rfl, HK⟩ := hrel
    by_cases hlt : k < 7
    · obtain ⟨⟨c0, c1⟩, g0⟩ := HNC.out _ k HK.out.2 hlt
      have hk7 : (k : Int) < 7 := by omega
      have HI := fun W hW => HIS.out W k hW hlt
      have HBN : Hid (∀ o, Below w1.heap.size w1 (wr.alloc o) ∧ Below w.heap.size w (wr.alloc o)) := fun o => ⟨HK.out.2.alloc HK.out.2.size o, g0.alloc g0.size o⟩
      have HCC : Hid (∀ W, Below (wr.alloc (.cells #[sen (A k), .int .i64 (fcode k)] 130)).heap.size (wr.alloc (.cells #[sen (A k), .int .i64 (fcode k)] 130)) W → W.cell? ⟨wr.heap.size, 1, none⟩ = some (.int .i64 (fcode k))) := fun W hW => Joins.cell_of_block (blk (heap_alloc_new wr _) hW) 1
      clear g0
      unfold sen at c0 HI HCC
      generalize A k = ak at c0 HI HCC
      generalize hfc : fcode k = ck at c1 HCC
      have HFC : Hid (fcode k = ck) := hfc
      clear hfc
      go_upto_region 6 with fail
      have hd1 := HCC.out _ (Below.refl _ _)
      have HBW := HBN.out (.cells #[.iface 259 (.pointer (some ak)), .int .i64 ck] 130)
      go_wp2_with fail
      refine (HI _ HBW.2).mono ?_
      rintro e w2 ⟨rfl, b2⟩
      have hd2 := HCC.out _ b2
      have B2 : Hid (Below w1.heap.size w1 w2 ∧ Below w.heap.size w w2) := ⟨HBW.1.trans (b2.mono HBW.1.size), HBW.2.trans (b2.mono HBW.2.size)⟩
      clear b2 hd1 HBW c0 c1 HI HCC HBN
      by_cases e : i = k
      · rw [decide_eq_true e]
        have HE : Hid (fcode i = ck) := by show _ = _; rw [e]; exact HFC.out
        clear e
        go_wp2_with fail
        go_ret
        exact ⟨ret_i HE.out.symm, B2.out.2⟩
      · rw [decide_eq_false e]
        have HE : Hid (∀ j, j < k + 1 → i ≠ j) := fun j hj => by
          by_cases ej : j = k
          · subst ej; exact e
          · exact HK.out.1 j (by omega)
        clear e
        go_wp2_with fail
        exact ⟨⟨k + 1, by omega, by go_num, ⟨HE.out, B2.out.1⟩⟩, by simp [intOf]; omega⟩
    · obtain rfl : k = 7 := by omega
      have HE : Hid (fcode i = 1) := by
        have := fun j hj => HK.out.1 j hj
        have h7 : i = 7 := by
          have a0 := this 0 (by decide)
          have a1 := this 1 (by decide)
          have a2 := this 2 (by decide)
          have a3 := this 3 (by decide)
          have a4 := this 4 (by decide)
          have a5 := this 5 (by decide)
          have a6 := this 6 (by decide)
          omega
        show _ = _
        rw [h7]
        rfl
      have G : Hid (Below w.heap.size w wr) := HB0.out.trans (HK.out.2.mono HB0.out.size)
      go_wp2_with fail
      go_ret
      exact ⟨ret_i HE.out.symm, G.out⟩
set_option maxRecDepth 100000 in
set_option maxHeartbeats 1600000 in
theorem codeOfFault_nil (w : World) : Calls Tryz.prog 36 #[.nilIface] w fun e w' => e = .returned (.int .i64 0) ∧ Below w.heap.size w w' := by
  go_enter Tryz.func36, Tryz.ntmps36
  go_wp2_with fail
  go_ret
  exact ⟨rfl, Below.refl _ _⟩
theorem code1_any {w : World} {A : Nat → Addr} (s : ByteArray) (i : Nat) (hi : i < 8) (h : Sen w A) : Calls Tryz.prog 36 #[fnd s (sen (A i))] w fun e w' => e = .returned (.int .i64 (fcode i)) ∧ Below w.heap.size w w' :=
  codeOfFault_any _ _ i hi h (fun W k hW hk => is1_any (h.below hW) s i k hi (by omega))
theorem code2_any {w : World} {A : Nat → Addr} (s r : ByteArray) (i : Nat) (hi : i < 8) (h : Sen w A) : Calls Tryz.prog 36 #[fnd s (fnd r (sen (A i)))] w fun e w' => e = .returned (.int .i64 (fcode i)) ∧ Below w.heap.size w w' :=
  codeOfFault_any _ _ i hi h (fun W k hW hk => is2_any (h.below hW) s r i k hi (by omega))
/-- The sentinel of a code. -/
def fidx (c : Int) : Nat := if c = 2 then 0 else if c = 3 then 1 else if c = 4 then 2 else if c = 10 then 3 else if c = 11 then 4 else if c = 12 then 5 else if c = 19 then 6 else 7
theorem fidx_lt (c : Int) : fidx c < 8 := by unfold fidx; repeat' split
                                             all_goals omega
theorem fidx_of {c : Int} {k : Nat} (hk : k < 7) (h : c = fcode k) : fidx c = k := by
  subst h
  rcases (by omega : k = 0 ∨ k = 1 ∨ k = 2 ∨ k = 3 ∨ k = 4 ∨ k = 5 ∨ k = 6) with rfl | rfl | rfl | rfl | rfl | rfl | rfl <;> rfl
theorem fidx_none {c : Int} (h : ∀ j, j < 7 → c ≠ fcode j) : fidx c = 7 := by
  have a0 : c ≠ 2 := h 0 (by decide)
  have a1 : c ≠ 3 := h 1 (by decide)
  have a2 : c ≠ 4 := h 2 (by decide)
  have a3 : c ≠ 10 := h 3 (by decide)
  have a4 : c ≠ 11 := h 4 (by decide)
  have a5 : c ≠ 12 := h 5 (by decide)
  have a6 : c ≠ 19 := h 6 (by decide)
  unfold fidx
  rw [if_neg a0, if_neg a1, if_neg a2, if_neg a3, if_neg a4, if_neg a5, if_neg a6]
theorem ret_v {a b : Value} (h : a = b) : Ending.returned a = .returned b := by rw [h]
set_option maxRecDepth 100000 in
set_option maxHeartbeats 1600000 in
theorem faultOfCode_any (s : ByteArray) (c : Int) {w : World} {A : Nat → Addr} (hc0 : c ≠ 0) (h : Sen w A) :
    Calls Tryz.prog 68 #[.string s, .int .i64 c] w fun e w' => e = .returned (fnd s (sen (A (fidx c)))) ∧ Below w.heap.size w w' := by
  have HNF : Hid (Calls Tryz.prog 72 #[] w fun e w' => e = .returned (.slice (some ⟨w.heap.size, 0, none⟩) 7 7) ∧ w' = w.alloc (.cells #[sen (A 0), .int .i64 2, sen (A 1), .int .i64 3, sen (A 2), .int .i64 4, sen (A 3), .int .i64 10, sen (A 4), .int .i64 11, sen (A 5), .int .i64 12, sen (A 6), .int .i64 19] 130)) := namedFaults_any h
  have HNC : Hid (∀ W k, Below (w.alloc (.cells #[sen (A 0), .int .i64 2, sen (A 1), .int .i64 3, sen (A 2), .int .i64 4, sen (A 3), .int .i64 10, sen (A 4), .int .i64 11, sen (A 5), .int .i64 12, sen (A 6), .int .i64 19] 130)).heap.size (w.alloc (.cells #[sen (A 0), .int .i64 2, sen (A 1), .int .i64 3, sen (A 2), .int .i64 4, sen (A 3), .int .i64 10, sen (A 4), .int .i64 11, sen (A 5), .int .i64 12, sen (A 6), .int .i64 19] 130)) W → k < 7 → (W.cell? ⟨w.heap.size, k * 2, none⟩ = some (sen (A k)) ∧ W.cell? ⟨w.heap.size, k * 2 + 1, none⟩ = some (.int .i64 (fcode k))) ∧ Below w.heap.size w W) := fun W k hW hk => ⟨nf_cells hW hk, ((Below.refl w.heap.size w).alloc (Nat.le_refl _) _).trans (hW.mono (by simp))⟩
  have HB0 : Hid (Below w.heap.size w (w.alloc (.cells #[sen (A 0), .int .i64 2, sen (A 1), .int .i64 3, sen (A 2), .int .i64 4, sen (A 3), .int .i64 10, sen (A 4), .int .i64 11, sen (A 5), .int .i64 12, sen (A 6), .int .i64 19] 130))) := (Below.refl w.heap.size w).alloc (Nat.le_refl _) _
  have HS : Hid (Sen w A) := h
  have hc : (c == 0) = false := by simpa using hc0
  clear h hc0
  go_enter Tryz.func68, Tryz.ntmps68
  go_wp2_with fail
  refine HNF.out.mono ?_
  rintro e w1 ⟨rfl, hw1⟩
  rw [← hw1] at HNC HB0
  clear hw1 HNF
  go_wp2_with fail
  go_loopw [11] (fun x wr => ∃ k : Nat, k ≤ 7 ∧ x = .int .i64 k ∧ Hid ((∀ j, j < k → c ≠ fcode j) ∧ Below w1.heap.size w1 wr)) (fun x _ => 7 - (intOf x).toNat)
  case atStart => exact ⟨0, by omega, rfl, ⟨fun j hj => by omega, Below.refl _ _⟩⟩
  case round =>
    obtain ⟨k, hk, rfl, HK⟩ := hrel
    by_cases hlt : k < 7
    · obtain ⟨⟨c0, c1⟩, g0⟩ := HNC.out _ k HK.out.2 hlt
      have hk7 : (k : Int) < 7 := by omega
      have HBN : Hid (∀ o, Below w1.heap.size w1 (wr.alloc o) ∧ Below w.heap.size w (wr.alloc o)) := fun o => ⟨HK.out.2.alloc HK.out.2.size o, g0.alloc g0.size o⟩
      clear g0
      unfold sen at c0
      by_cases e : c = fcode k
      · have HE : Hid (fnd s (sen (A (fidx c))) = .iface 119 (.agg #[.string s, .iface 259 (.pointer (some (A k)))])) := by show _ = _; rw [fidx_of hlt e]; rfl
        have e' : (c == fcode k) = true := by simpa using e
        clear e
        generalize A k = ak at c0 HE
        generalize fcode k = ck at c1 e'
        go_wp2_with fail
        go_ret
        exact ⟨ret_v HE.out.symm, (HBN.out _).2⟩
      · have HE : Hid (∀ j, j < k + 1 → c ≠ fcode j) := fun j hj => by
          by_cases ej : j = k
          · subst ej; exact e
          · exact HK.out.1 j (by omega)
        have e' : (c == fcode k) = false := by simpa using e
        clear e
        generalize A k = ak at c0
        generalize hfc : fcode k = ck at c1 e'
        clear hfc
        go_wp2_with fail
        exact ⟨⟨k + 1, by omega, by go_num, ⟨HE.out, (HBN.out _).1⟩⟩, by simp [intOf]; omega⟩
    · obtain rfl : k = 7 := by omega
      have HE : Hid (fnd s (sen (A (fidx c))) = .iface 119 (.agg #[.string s, .iface 259 (.pointer (some (A 7)))])) := by show _ = _; rw [fidx_none (fun j hj => HK.out.1 j hj)]; rfl
      have G : Hid (Below w.heap.size w wr) := HB0.out.trans (HK.out.2.mono HB0.out.size)
      have g7 := (HS.out.below G.out).g7
      unfold sen at g7
      go_wp2_with fail
      go_ret
      exact ⟨ret_v HE.out.symm, G.out⟩
set_option maxRecDepth 100000 in
set_option maxHeartbeats 1600000 in
theorem faultOfCode_nil (s : ByteArray) (w : World) : Calls Tryz.prog 68 #[.string s, .int .i64 0] w fun e w' => e = .returned .nilIface ∧ Below w.heap.size w w' := by
  go_enter Tryz.func68, Tryz.ntmps68
  go_wp2_with fail
  go_ret
  exact ⟨rfl, Below.refl _ _⟩
end Go.Proofs.YtnebohdlndiejaaGreatDoor.Er
