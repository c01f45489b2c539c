/- Tables that are alike: the program's parts. -/
import Derived.Test.YtkjbdemhpnhagaaTr
import Derived.Laws.StructEq
namespace Go.Proofs.Ytkjbdemhpnhagaa.Sm
open Go.RowKit Go.Proofs.Ytkjbdemhpnhagaa.Sl Go.Proofs.Ytkjbdemhpnhagaa.By Go.Proofs.Ytkjbdemhpnhagaa.Ap Go.Proofs.Ytkjbdemhpnhagaa.Tx Go.Proofs.Ytkjbdemhpnhagaa.Tb Go.Proofs.Ytkjbdemhpnhagaa.Tw Go.Proofs.Ytkjbdemhpnhagaa.Rq Go.Proofs.Ytkjbdemhpnhagaa.Tp

theorem list_same {α : Type} {xs ys : List α} (hl : xs.length = ys.length) (h : ∀ (j : Nat) (y : α), j < xs.length → xs[j]? = some y → ys[j]? = some y) : xs = ys := by
  apply List.ext_getElem? fun j => ?_
  by_cases hj : j < xs.length
  · rw [List.getElem?_eq_getElem hj]
    exact (h j _ hj (List.getElem?_eq_getElem hj)).symm
  · rw [List.getElem?_eq_none (by omega), List.getElem?_eq_none (by omega)]
theorem guardW (op : BinOp) (a b : Operand) (xs ys : Array Value) (W : World) : (eqGuard op 61 a b (.agg xs) (.agg ys)).run Try.prog W = .ok () W := run_eqGuard_agg W op 61 a b xs ys (by kernel_rfl)
theorem guardS (op : BinOp) (a b : Operand) (xs ys : Array Value) (W : World) : (eqGuard op 65 a b (.agg xs) (.agg ys)).run Try.prog W = .ok () W := run_eqGuard_agg W op 65 a b xs ys (by kernel_rfl)
theorem guardG (op : BinOp) (a b : Operand) (xs ys : Array Value) (W : World) : (eqGuard op 122 a b (.agg xs) (.agg ys)).run Try.prog W = .ok () W := run_eqGuard_agg W op 122 a b xs ys (by kernel_rfl)
set_option maxRecDepth 100000 in
theorem neqW (x y : Wt) (W : World) : (binOp .neq 61 (.agg #[.int .i64 x.c, .int .i64 x.l]) (.agg #[.int .i64 y.c, .int .i64 y.l])).run Try.prog W = .ok (.bool (bOf (x ≠ y))) W := by
  have e : bOf (x ≠ y) = !(x.c == y.c && x.l == y.l) := by
    by_cases h : x = y
    · subst h; rw [bOf_false (fun h => h rfl)]; simp
    · rw [bOf_true h]
      cases x
      cases y
      simp at h ⊢
      omega
  rw [e, run_neq_struct, run_equalIn_struct W 9999 61 _ _ (by kernel_rfl) (by kernel_rfl)]
  simp [go_sem, Program.fieldsOf, Try.underlying61, Try.underlying3]
  repeat' split
  all_goals simp_all
set_option maxRecDepth 100000 in
theorem neqS (x y : Sn) (W : World) : (binOp .neq 65 (.agg #[.int .i64 x.c, .int .i64 x.s, .int .i64 x.k, .int .i64 x.t, .int .i64 x.h, .int .i64 x.e]) (.agg #[.int .i64 y.c, .int .i64 y.s, .int .i64 y.k, .int .i64 y.t, .int .i64 y.h, .int .i64 y.e])).run Try.prog W = .ok (.bool (bOf (x ≠ y))) W := by
  have e : bOf (x ≠ y) = !(x.c == y.c && x.s == y.s && x.k == y.k && x.t == y.t && x.h == y.h && x.e == y.e) := by
    by_cases h : x = y
    · subst h; rw [bOf_false (fun h => h rfl)]; simp
    · rw [bOf_true h]
      cases x
      cases y
      simp at h ⊢
      omega
  rw [e, run_neq_struct, run_equalIn_struct W 9999 65 _ _ (by kernel_rfl) (by kernel_rfl)]
  simp [go_sem, Program.fieldsOf, Try.underlying65, Try.underlying3, Try.underlying63, run_equalIn_struct (P := Try.prog) _ 9998 63 _ _ (by kernel_rfl) (by kernel_rfl)]
  repeat' split
  all_goals simp_all
set_option maxRecDepth 100000 in
set_option maxHeartbeats 1600000 in
theorem eqW_any (v u : Value) (xs ys : List Wt) (w : World) (h : RowW w v xs) (g : RowW w u ys) (hl : xs.length ≤ 1048576) :
    Calls Try.prog 80 #[v, u] w fun e w' => e = .returned (.bool (bOf (xs = ys))) ∧ Below w.heap.size w w' := by
  have HR : Hid (RowW w v xs) := h
  have HG : Hid (RowW w u ys) := g
  obtain ⟨a, cap, rfl⟩ := RowG.slice h
  obtain ⟨a', cap', rfl⟩ := RowG.slice g
  clear h g
  obtain ⟨n, HN⟩ : ∃ n, Hid (ys.length = n) := ⟨_, rfl⟩
  rw [HN.out]
  by_cases hn : xs.length = n
  · have hn' : ((xs.length : Int) != (n : Int)) = false := by simp; omega
    go_enter Try.func80, Try.ntmps80
    go_wp2_with fail
    go_loopw [13] (fun i wr => ∃ k : Nat, k ≤ xs.length ∧ i = .int .i64 k ∧ Hid ((∀ (j : Nat) (y : Wt), j < k → xs[j]? = some y → ys[j]? = some y) ∧ Below w.heap.size w wr)) (fun i _ => xs.length - (intOf i).toNat)
    case atStart => exact ⟨0, by omega, rfl, ⟨fun j y hj => by omega, Below.refl _ _⟩⟩
    case round =>
      obtain ⟨k, hk, rfl, HK⟩ := hrel
      by_cases hlt : k < xs.length
      · obtain ⟨x, hx⟩ := Tw.get_at hlt
        obtain ⟨y, hy⟩ := Tw.get_at (xs := ys) (k := k) (by rw [HN.out]; omega)
        obtain ⟨b, off, rfl, hb, c0, c1⟩ := RowG.at (HR.out.below HK.out.2) rfl hx
        obtain ⟨b', off', rfl, hb', d0, d1⟩ := RowG.at (HG.out.below HK.out.2) (by rw [HN.out]) hy
        have hp0 : (0 : Int) ≤ (k : Int) := by omega
        have hp1 : (k : Int) < (xs.length : Int) := by omega
        have hp2 : (k : Int) < (n : Int) := by omega
        have HXY : Hid (xs[k]? = some x ∧ ys[k]? = some y) := ⟨hx, hy⟩
        have hq1 := neqW x y
        have hq2 := guardW
        clear hx hy
        by_cases hxy : x = y
        · have HK2 : Hid ((∀ (j : Nat) (y : Wt), j < k + 1 → xs[j]? = some y → ys[j]? = some y) ∧ Below w.heap.size w wr) := ⟨upto (P := fun j y => ys[j]? = some y) HK.out.1 HXY.out.1 (by rw [hxy]; exact HXY.out.2), HK.out.2⟩
          rw [bOf_false (fun h => h hxy)] at hq1
          clear hxy HK
          go_wp2_with fail
          go_quiet (fail)
          go_wp2_with fail
          exact ⟨⟨k + 1, by omega, by go_num, ⟨HK2.out.1, ⟨HK2.out.2.os, HK2.out.2.tape, HK2.out.2.output, HK2.out.2.size, HK2.out.2.block⟩⟩⟩, by simp [intOf]; omega⟩
        · have HF : Hid (bOf (xs = ys) = false) := bOf_false fun h => by have h1 := HXY.out.1; rw [h, HXY.out.2] at h1; cases h1; exact hxy rfl
          rw [bOf_true hxy] at hq1
          clear hxy
          go_wp2_with fail
          go_quiet (fail)
          go_wp2_with fail
          go_ret
          exact ⟨ret_bool HF.out.symm, ⟨HK.out.2.os, HK.out.2.tape, HK.out.2.output, HK.out.2.size, HK.out.2.block⟩⟩
      · obtain rfl : k = xs.length := by omega
        have HT : Hid (bOf (xs = ys) = true) := bOf_true (list_same (by rw [HN.out]; exact hn) HK.out.1)
        go_wp2_with fail
        go_ret
        exact ⟨ret_bool HT.out.symm, HK.out.2⟩
  · have hn' : ((xs.length : Int) != (n : Int)) = true := by simp; omega
    have HF : Hid (bOf (xs = ys) = false) := bOf_false fun h => hn (by rw [h]; exact HN.out)
    go_enter Try.func80, Try.ntmps80
    go_wp2_with fail
    go_ret
    exact ⟨ret_bool HF.out.symm, Below.refl _ _⟩
set_option maxRecDepth 100000 in
set_option maxHeartbeats 1600000 in
theorem eqS_any (v u : Value) (xs ys : List Sn) (w : World) (h : RowS w v xs) (g : RowS w u ys) (hl : xs.length ≤ 1048576) :
    Calls Try.prog 61 #[v, u] w fun e w' => e = .returned (.bool (bOf (xs = ys))) ∧ Below w.heap.size w w' := by
  have HR : Hid (RowS w v xs) := h
  have HG : Hid (RowS w u ys) := g
  obtain ⟨a, cap, rfl⟩ := RowG.slice h
  obtain ⟨a', cap', rfl⟩ := RowG.slice g
  clear h g
  obtain ⟨n, HN⟩ : ∃ n, Hid (ys.length = n) := ⟨_, rfl⟩
  rw [HN.out]
  by_cases hn : xs.length = n
  · have hn' : ((xs.length : Int) != (n : Int)) = false := by simp; omega
    go_enter Try.func61, Try.ntmps61
    go_wp2_with fail
    go_loopw [13] (fun i wr => ∃ k : Nat, k ≤ xs.length ∧ i = .int .i64 k ∧ Hid ((∀ (j : Nat) (y : Sn), j < k → xs[j]? = some y → ys[j]? = some y) ∧ Below w.heap.size w wr)) (fun i _ => xs.length - (intOf i).toNat)
    case atStart => exact ⟨0, by omega, rfl, ⟨fun j y hj => by omega, Below.refl _ _⟩⟩
    case round =>
      obtain ⟨k, hk, rfl, HK⟩ := hrel
      by_cases hlt : k < xs.length
      · obtain ⟨x, hx⟩ := Tw.get_at hlt
        obtain ⟨y, hy⟩ := Tw.get_at (xs := ys) (k := k) (by rw [HN.out]; omega)
        obtain ⟨b, off, rfl, hb, c0, c1, c2, c3, c4, c5⟩ := RowG.at (HR.out.below HK.out.2) rfl hx
        obtain ⟨b', off', rfl, hb', d0, d1, d2, d3, d4, d5⟩ := RowG.at (HG.out.below HK.out.2) (by rw [HN.out]) hy
        have hp0 : (0 : Int) ≤ (k : Int) := by omega
        have hp1 : (k : Int) < (xs.length : Int) := by omega
        have hp2 : (k : Int) < (n : Int) := by omega
        have HXY : Hid (xs[k]? = some x ∧ ys[k]? = some y) := ⟨hx, hy⟩
        have hq1 := neqS x y
        have hq2 := guardS
        clear hx hy
        by_cases hxy : x = y
        · have HK2 : Hid ((∀ (j : Nat) (y : Sn), j < k + 1 → xs[j]? = some y → ys[j]? = some y) ∧ Below w.heap.size w wr) := ⟨upto (P := fun j y => ys[j]? = some y) HK.out.1 HXY.out.1 (by rw [hxy]; exact HXY.out.2), HK.out.2⟩
          rw [bOf_false (fun h => h hxy)] at hq1
          clear hxy HK
          go_wp2_with fail
          go_quiet (fail)
          go_wp2_with fail
          exact ⟨⟨k + 1, by omega, by go_num, ⟨HK2.out.1, ⟨HK2.out.2.os, HK2.out.2.tape, HK2.out.2.output, HK2.out.2.size, HK2.out.2.block⟩⟩⟩, by simp [intOf]; omega⟩
        · have HF : Hid (bOf (xs = ys) = false) := bOf_false fun h => by have h1 := HXY.out.1; rw [h, HXY.out.2] at h1; cases h1; exact hxy rfl
          rw [bOf_true hxy] at hq1
          clear hxy
          go_wp2_with fail
          go_quiet (fail)
          go_wp2_with fail
          go_ret
          exact ⟨ret_bool HF.out.symm, ⟨HK.out.2.os, HK.out.2.tape, HK.out.2.output, HK.out.2.size, HK.out.2.block⟩⟩
      · obtain rfl : k = xs.length := by omega
        have HT : Hid (bOf (xs = ys) = true) := bOf_true (list_same (by rw [HN.out]; exact hn) HK.out.1)
        go_wp2_with fail
        go_ret
        exact ⟨ret_bool HT.out.symm, HK.out.2⟩
  · have hn' : ((xs.length : Int) != (n : Int)) = true := by simp; omega
    have HF : Hid (bOf (xs = ys) = false) := bOf_false fun h => hn (by rw [h]; exact HN.out)
    go_enter Try.func61, Try.ntmps61
    go_wp2_with fail
    go_ret
    exact ⟨ret_bool HF.out.symm, Below.refl _ _⟩
def grV (x : Lk) : Value := .agg #[.string x.n, .int .i64 x.h, .int .i64 x.t, .int .i64 x.e]
/-- A lock without those that wait. -/
def headEq (x y : Lk) : Prop := x.n = y.n ∧ x.h = y.h ∧ x.t = y.t ∧ x.e = y.e
theorem list_eq_bytes {a b : ByteArray} : (a.toList == b.toList) = bOf (a = b) := by
  by_cases h : a = b
  · rw [h, bOf_true rfl]; simp
  · rw [bOf_false h]
    apply beq_eq_false_iff_ne.2
    intro hh
    rw [Lib.toList_data, Lib.toList_data] at hh
    apply h
    cases a
    cases b
    have h2 := Array.toList_inj.1 hh
    simp only at h2
    rw [h2]
set_option maxRecDepth 100000 in
theorem eqlG (x y : Lk) (W : World) : (binOp .eql 122 (.agg #[.string x.n, .int .i64 x.h, .int .i64 x.t, .int .i64 x.e]) (.agg #[.string y.n, .int .i64 y.h, .int .i64 y.t, .int .i64 y.e])).run Try.prog W = .ok (.bool (bOf (headEq x y))) W := by
  have e : bOf (headEq x y) = ((x.n.toList == y.n.toList) && (x.h == y.h && (x.t == y.t && x.e == y.e))) := by
    rw [list_eq_bytes]
    by_cases h : headEq x y
    · obtain ⟨h1, h2, h3, h4⟩ := h
      rw [bOf_true ⟨h1, h2, h3, h4⟩, bOf_true h1, h2, h3, h4]
      simp
    · rw [bOf_false h]
      by_cases h1 : x.n = y.n
      · rw [bOf_true h1]
        by_cases h2 : x.h = y.h
        · by_cases h3 : x.t = y.t
          · have h4 : x.e ≠ y.e := fun h4 => h ⟨h1, h2, h3, h4⟩
            simp [h4]
          · simp [h3]
        · simp [h2]
      · rw [bOf_false h1]; rfl
  rw [e, run_eql_struct, run_equalIn_struct W 9999 122 _ _ (by kernel_rfl) (by kernel_rfl)]
  simp [go_sem, Program.fieldsOf, Try.underlying122, Try.underlying3, Try.underlying9]
  repeat' split
  all_goals simp_all
set_option maxRecDepth 100000 in
set_option maxHeartbeats 1600000 in
theorem grantOf_any (x : Lk) (u : Value) (w : World) :
    Calls Try.prog 79 #[lkV x u] w fun e w' => e = .returned (grV x) ∧ Below w.heap.size w w' := by
  unfold lkV
  go_enter Try.func79, Try.ntmps79
  go_wp2_with fail
  refine bodyPost_ret (v := grV x) (by simp [grV, results, Try.results79, go_sem]) rfl ⟨rfl, ?_⟩
  exact two_new _ _ _
set_option maxRecDepth 100000 in
set_option maxHeartbeats 1600000 in
theorem sameLock_any (x y : Lk) (u u' : Value) (w : World) (h : RowW w u x.ws) (g : RowW w u' y.ws) (hl : x.ws.length ≤ 1048576) :
    Calls Try.prog 60 #[lkV x u, lkV y u'] w fun e w' => e = .returned (.bool (bOf (x = y))) ∧ Below w.heap.size w w' := by
  obtain ⟨a, cap, rfl⟩ := RowG.slice h
  obtain ⟨a', cap', rfl⟩ := RowG.slice g
  have HXY : Hid (x = y ↔ headEq x y ∧ x.ws = y.ws) := ⟨fun h => by subst h; exact ⟨⟨rfl, rfl, rfl, rfl⟩, rfl⟩, fun ⟨⟨h1, h2, h3, h4⟩, h5⟩ => by cases x; cases y; dsimp only at h1 h2 h3 h4 h5; rw [h1, h2, h3, h4, h5]⟩
  have HR : Hid (RowW w (.slice a x.ws.length cap) x.ws ∧ RowW w (.slice a' y.ws.length cap') y.ws) := ⟨h, g⟩
  have HX : Hid (∀ W, Below ((w.alloc (.cells #[.string x.n, .int .i64 x.t, .int .i64 x.h, .int .i64 x.e, .slice a x.ws.length cap] 37)).alloc (.cells #[.string y.n, .int .i64 y.t, .int .i64 y.h, .int .i64 y.e, .slice a' y.ws.length cap'] 37)).heap.size ((w.alloc (.cells #[.string x.n, .int .i64 x.t, .int .i64 x.h, .int .i64 x.e, .slice a x.ws.length cap] 37)).alloc (.cells #[.string y.n, .int .i64 y.t, .int .i64 y.h, .int .i64 y.e, .slice a' y.ws.length cap'] 37)) W → W.heap[w.heap.size]? = some (.cells #[.string x.n, .int .i64 x.t, .int .i64 x.h, .int .i64 x.e, .slice a x.ws.length cap] 37 (0, 0)) ∧ W.heap[w.heap.size + 1]? = some (.cells #[.string y.n, .int .i64 y.t, .int .i64 y.h, .int .i64 y.e, .slice a' y.ws.length cap'] 37 (0, 0)) ∧ Below w.heap.size w W) := fun W hW => two hW
  clear h g
  unfold lkV
  go_enter Try.func60, Try.ntmps60
  go_upto_region 1 with fail
  generalize (w.alloc (.cells #[.string x.n, .int .i64 x.t, .int .i64 x.h, .int .i64 x.e, .slice a x.ws.length cap] 37)).alloc (.cells #[.string y.n, .int .i64 y.t, .int .i64 y.h, .int .i64 y.e, .slice a' y.ws.length cap'] 37) = wb at HX ⊢
  obtain ⟨X, hX, W, QI0, QO0⟩ := Qc.klass wb
  have QI : Hid (∀ w', Below wb.heap.size wb w' → ∃ x, w' = W x) := QI0
  have QO : Hid (∀ x, Below wb.heap.size wb (W x)) := QO0
  clear QI0 QO0
  have y0 := fun q => (blk_cell (HX.out _ (QO.out q)).1 0 rfl).1
  have y1 := fun q => (blk_cell (HX.out _ (QO.out q)).1 1 rfl).1
  have y2 := fun q => (blk_cell (HX.out _ (QO.out q)).1 2 rfl).1
  have y3 := fun q => (blk_cell (HX.out _ (QO.out q)).1 3 rfl).1
  have y4 := fun q => (blk_cell (HX.out _ (QO.out q)).1 4 rfl).1
  have z0 := fun q => (blk_cell (HX.out _ (QO.out q)).2.1 0 rfl).1
  have z1 := fun q => (blk_cell (HX.out _ (QO.out q)).2.1 1 rfl).1
  have z2 := fun q => (blk_cell (HX.out _ (QO.out q)).2.1 2 rfl).1
  have z3 := fun q => (blk_cell (HX.out _ (QO.out q)).2.1 3 rfl).1
  have z4 := fun q => (blk_cell (HX.out _ (QO.out q)).2.1 4 rfl).1
  have HB : Hid (∀ q, Below w.heap.size w (W q)) := fun q => (HX.out _ (QO.out q)).2.2
  have hq1 := eqlG x y
  have hq2 := guardG
  have HGX : Hid (∀ q, Calls Try.prog 79 #[.agg #[.string x.n, .int .i64 x.t, .int .i64 x.h, .int .i64 x.e, .slice a x.ws.length cap]] (W q) fun e w' => e = .returned (.agg #[.string x.n, .int .i64 x.h, .int .i64 x.t, .int .i64 x.e]) ∧ Below (W q).heap.size (W q) w') := fun q => grantOf_any x _ _
  have HGY : Hid (∀ q, Calls Try.prog 79 #[.agg #[.string y.n, .int .i64 y.t, .int .i64 y.h, .int .i64 y.e, .slice a' y.ws.length cap']] (W q) fun e w' => e = .returned (.agg #[.string y.n, .int .i64 y.h, .int .i64 y.t, .int .i64 y.e]) ∧ Below (W q).heap.size (W q) w') := fun q => grantOf_any y _ _
  by_cases hhd : headEq x y
  · have HF : Hid (bOf (x = y) = bOf (x.ws = y.ws)) := by
      show _ = _
      by_cases hh : x.ws = y.ws
      · rw [bOf_true hh, bOf_true (HXY.out.2 ⟨hhd, hh⟩)]
      · rw [bOf_false hh, bOf_false fun h => hh (HXY.out.1 h).2]
    rw [bOf_true hhd] at hq1
    clear hhd
    have HEW : Hid (∀ q, Calls Try.prog 80 #[.slice a x.ws.length cap, .slice a' y.ws.length cap'] (W q) fun e w' => e = .returned (.bool (bOf (x = y))) ∧ Below (W q).heap.size (W q) w') := fun q => by
      rw [HF.out]
      exact eqW_any _ _ x.ws y.ws _ (HR.out.1.below (HB.out q)) (HR.out.2.below (HB.out q)) hl
    obtain ⟨bb, HBB⟩ : ∃ bb, Hid (bOf (x = y) = bb) := ⟨_, rfl⟩
    rw [HBB.out] at HEW
    clear HF
    refine Qc.region_class (W := W) (by kernel_rfl) (by kernel_rfl) (QI.out _ Qc.from_drew) ?_
    repeat (go_big_quiet_step (first | (go_at_call 79; (with_reducible refine (HGX.out _).mono ?_); rintro e w2 ⟨rfl, b2⟩; exact ⟨rfl, Qc.back QI.out QO.out b2⟩) | (go_at_call 79; (with_reducible refine (HGY.out _).mono ?_); rintro e w2 ⟨rfl, b2⟩; exact ⟨rfl, Qc.back QI.out QO.out b2⟩) | (go_at_call 80; (with_reducible refine (HEW.out _).mono ?_); rintro e w2 ⟨rfl, b2⟩; exact ⟨rfl, Qc.back QI.out QO.out b2⟩)))
    refine wpQuiet_nil ?_
    rintro _ ⟨xq, rfl⟩
    have G2 : Hid (Below w.heap.size w (W xq)) := HB.out xq
    clear y0 y1 y2 y3 y4 z0 z1 z2 z3 z4
    generalize W xq = wq at G2 ⊢
    go_wp2_with fail
    go_ret
    exact ⟨ret_bool HBB.out.symm, G2.out⟩
  · have HF : Hid (bOf (x = y) = false) := bOf_false fun h => hhd (HXY.out.1 h).1
    rw [bOf_false hhd] at hq1
    clear hhd
    refine Qc.region_class (W := W) (by kernel_rfl) (by kernel_rfl) (QI.out _ Qc.from_drew) ?_
    repeat (go_big_quiet_step (first | (go_at_call 79; (with_reducible refine (HGX.out _).mono ?_); rintro e w2 ⟨rfl, b2⟩; exact ⟨rfl, Qc.back QI.out QO.out b2⟩) | (go_at_call 79; (with_reducible refine (HGY.out _).mono ?_); rintro e w2 ⟨rfl, b2⟩; exact ⟨rfl, Qc.back QI.out QO.out b2⟩)))
    refine wpQuiet_nil ?_
    rintro _ ⟨xq, rfl⟩
    have G2 : Hid (Below w.heap.size w (W xq)) := HB.out xq
    clear y0 y1 y2 y3 y4 z0 z1 z2 z3 z4
    generalize W xq = wq at G2 ⊢
    go_wp2_with fail
    go_ret
    exact ⟨ret_bool HF.out.symm, G2.out⟩
set_option maxRecDepth 100000 in
set_option maxHeartbeats 1600000 in
theorem eqL_any (v u : Value) (xs ys : List Lk) (w : World) (h : RowL w v xs) (g : RowL w u ys) (hl : xs.length ≤ 1048576) (hw : ∀ x ∈ xs, x.ws.length ≤ 1048576) :
    Calls Try.prog 59 #[v, u, .func (.func 60) #[] #[]] w fun e w' => e = .returned (.bool (bOf (xs = ys))) ∧ Below w.heap.size w w' := by
  have HR : Hid (RowL w v xs ∧ ∀ x ∈ xs, x.ws.length ≤ 1048576) := ⟨h, hw⟩
  have HG : Hid (RowL w u ys) := g
  obtain ⟨a, cap, rfl⟩ := RowG.slice h
  obtain ⟨a', cap', rfl⟩ := RowG.slice g
  clear h g hw
  obtain ⟨n, HN⟩ : ∃ n, Hid (ys.length = n) := ⟨_, rfl⟩
  rw [HN.out]
  by_cases hn : xs.length = n
  · have hn' : ((xs.length : Int) != (n : Int)) = false := by simp; omega
    have HNN : Hid (xs.length = n) := hn
    have hnl : n ≤ 1048576 := by omega
    clear hn
    go_enter Try.func59, Try.ntmps59
    go_wp2_with fail
    go_loopw [17] (fun i wr => ∃ k : Nat, k ≤ xs.length ∧ i = .int .i64 k ∧ Hid ((∀ (j : Nat) (y : Lk), j < k → xs[j]? = some y → ys[j]? = some y) ∧ Below w.heap.size w wr)) (fun i _ => xs.length - (intOf i).toNat)
    case atStart => exact ⟨0, by omega, rfl, ⟨fun j y hj => by omega, Below.refl _ _⟩⟩
    case round =>
      obtain ⟨k, hk, rfl, HK⟩ := hrel
      by_cases hlt : k < xs.length
      · obtain ⟨x, hx⟩ := Tw.get_at hlt
        obtain ⟨y, hy⟩ := Tw.get_at (xs := ys) (k := k) (by rw [HN.out, ← HNN.out]; omega)
        obtain ⟨b, off, rfl, hb, xu, c0, c1, c2, c3, c4, c5⟩ := RowG.at (HR.out.1.below HK.out.2) rfl hx
        obtain ⟨b', off', rfl, hb', yu, d0, d1, d2, d3, d4, d5⟩ := RowG.at (HG.out.below HK.out.2) (by rw [HN.out]) hy
        obtain ⟨xa, xc, rfl⟩ := RowG.slice c5
        obtain ⟨ya, yc, rfl⟩ := RowG.slice d5
        have hp0 : (0 : Int) ≤ (k : Int) := by omega
        have hp1 : (k : Int) < (xs.length : Int) := by omega
        have hp2 : (k : Int) < (n : Int) := by rw [← HNN.out]; omega
        have HXY : Hid (xs[k]? = some x ∧ ys[k]? = some y) := ⟨hx, hy⟩
        have e0 : ∀ o, (wr.alloc o).cell? ⟨b', off' + k * 5, none⟩ = some (.string y.n) := fun o => (World.cell?_alloc_lt _ _ _ hb').trans d0
        have e1 : ∀ o, (wr.alloc o).cell? ⟨b', off' + k * 5 + 1, none⟩ = some (.int .i64 y.t) := fun o => (World.cell?_alloc_lt _ _ _ hb').trans d1
        have e2 : ∀ o, (wr.alloc o).cell? ⟨b', off' + k * 5 + 2, none⟩ = some (.int .i64 y.h) := fun o => (World.cell?_alloc_lt _ _ _ hb').trans d2
        have e3 : ∀ o, (wr.alloc o).cell? ⟨b', off' + k * 5 + 3, none⟩ = some (.int .i64 y.e) := fun o => (World.cell?_alloc_lt _ _ _ hb').trans d3
        have e4 : ∀ o, (wr.alloc o).cell? ⟨b', off' + k * 5 + 4, none⟩ = some (.slice ya y.ws.length yc) := fun o => (World.cell?_alloc_lt _ _ _ hb').trans d4
        have HSL : Hid (∀ o0 o1, Calls Try.prog 60 #[.agg #[.string x.n, .int .i64 x.t, .int .i64 x.h, .int .i64 x.e, .slice xa x.ws.length xc], .agg #[.string y.n, .int .i64 y.t, .int .i64 y.h, .int .i64 y.e, .slice ya y.ws.length yc]] ((wr.alloc o0).alloc o1) fun e w' => e = .returned (.bool (bOf (x = y))) ∧ Below w.heap.size w w') := fun o0 o1 => (sameLock_any x y _ _ _ (c5.below (two_new wr o0 o1)) (d5.below (two_new wr o0 o1)) (HR.out.2 _ (mem_at hx))).mono fun e w' ⟨he, hb⟩ => ⟨he, HK.out.2.trans (((two_new wr o0 o1).mono HK.out.2.size).trans (hb.mono (Nat.le_trans HK.out.2.size (two_new wr o0 o1).size)))⟩
        clear hx hy c5 d5
        by_cases hxy : x = y
        · have HK2 : Hid (∀ (j : Nat) (y : Lk), j < k + 1 → xs[j]? = some y → ys[j]? = some y) := (show ∀ (j : Nat) (y : Lk), j < k + 1 → xs[j]? = some y → ys[j]? = some y from upto (P := fun j y => ys[j]? = some y) HK.out.1 HXY.out.1 (by rw [hxy]; exact HXY.out.2))
          rw [bOf_true hxy] at HSL
          clear hxy
          go_wp2_with fail
          refine (HSL.out _ _).mono ?_
          rintro e w2 ⟨rfl, b2⟩
          have HB2 : Hid (Below w.heap.size w w2) := b2
          clear b2
          go_wp2_with fail
          first
            | exact ⟨⟨k + 1, by omega, by go_num, ⟨HK2.out, HB2.out⟩⟩, by simp [intOf]; omega⟩
            | (go_roundw
               case rel => (repeat apply Exists.intro); exact ⟨⟨k + 1, by omega, by go_num, ⟨HK2.out, HB2.out⟩⟩, rfl⟩
               case measure => simp [intOf]; omega)
        · have HF : Hid (bOf (xs = ys) = false) := bOf_false fun h => by have h1 := HXY.out.1; rw [h, HXY.out.2] at h1; cases h1; exact hxy rfl
          rw [bOf_false hxy] at HSL
          clear hxy
          go_wp2_with fail
          refine (HSL.out _ _).mono ?_
          rintro e w2 ⟨rfl, b2⟩
          have HB2 : Hid (Below w.heap.size w w2) := b2
          clear b2
          go_wp2_with fail
          go_ret
          exact ⟨ret_bool HF.out.symm, HB2.out⟩
      · obtain rfl : k = xs.length := by omega
        have HT : Hid (bOf (xs = ys) = true) := bOf_true (list_same (by rw [HN.out]; exact HNN.out) HK.out.1)
        go_wp2_with fail
        go_ret
        exact ⟨ret_bool HT.out.symm, HK.out.2⟩
  · have hn' : ((xs.length : Int) != (n : Int)) = true := by simp; omega
    have HF : Hid (bOf (xs = ys) = false) := bOf_false fun h => hn (by rw [h]; exact HN.out)
    go_enter Try.func59, Try.ntmps59
    go_wp2_with fail
    go_ret
    exact ⟨ret_bool HF.out.symm, Below.refl _ _⟩
end Go.Proofs.Ytkjbdemhpnhagaa.Sm
