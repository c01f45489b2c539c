/- LaterGrant, of the program and of the specification. -/
import Derived.Test.YtimmeclclilpdaaDoorGrb
import Derived.Laws.StructEq
import Derived.Deep.Cut
namespace Go.Proofs.YtimmeclclilpdaaDoor.Gr12
open Go.RowKit

theorem guardG (op : BinOp) (a b : Operand) (xs ys : Array Value) (W : World) : (eqGuard op 24 a b (.agg xs) (.agg ys)).run Tryd.prog W = .ok () W := run_eqGuard_agg W op 24 a b xs ys (by kernel_rfl)
def neG (x y : Gg) : Bool := !(x.nm.toList == y.nm.toList && (x.hd == y.hd && (x.tk == y.tk && x.ex == y.ex)))
set_option maxRecDepth 100000 in
theorem neqG (x y : Gg) (W : World) : (binOp .neq 24 (.agg #[.string x.nm, .int .i64 x.hd, .int .i64 x.tk, .int .i64 x.ex]) (.agg #[.string y.nm, .int .i64 y.hd, .int .i64 y.tk, .int .i64 y.ex])).run Tryd.prog W = .ok (.bool (neG x y)) W := by
  unfold neG
  rw [run_neq_struct, run_equalIn_struct W 9999 24 _ _ (by kernel_rfl) (by kernel_rfl)]
  simp [go_sem, Program.fieldsOf, Tryd.underlying24, Tryd.underlying3, Tryd.underlying9]
  repeat' split
  all_goals simp_all
/-- What LaterGrant answers. -/
def laC (a b : Gg) : Int := if grB a = true ∧ grB b = true then (if a.tk = b.tk ∧ neG a b = true then 9 else 0) else 1
def laV (a b : Gg) : Int := if grB a = true ∧ grB b = true then (if a.tk < b.tk then 1 else if b.tk < a.tk then -1 else 0) else 0
theorem la_bad {a b : Gg} (h : ¬ (grB a = true ∧ grB b = true)) : laV a b = 0 ∧ laC a b = 1 := by unfold laV laC; rw [if_neg h, if_neg h]; exact ⟨rfl, rfl⟩
theorem la_up {a b : Gg} (h : grB a = true ∧ grB b = true) (ht : a.tk < b.tk) : laV a b = 1 ∧ laC a b = 0 := by unfold laV laC; rw [if_pos h, if_pos h, if_pos ht, if_neg (by omega)]; exact ⟨rfl, rfl⟩
theorem la_down {a b : Gg} (h : grB a = true ∧ grB b = true) (ht : b.tk < a.tk) : laV a b = -1 ∧ laC a b = 0 := by unfold laV laC; rw [if_pos h, if_pos h, if_neg (by omega), if_pos ht, if_neg (by omega)]; exact ⟨rfl, rfl⟩
theorem la_two {a b : Gg} (h : grB a = true ∧ grB b = true) (ht : a.tk = b.tk) (hn : neG a b = true) : laV a b = 0 ∧ laC a b = 9 := by unfold laV laC; rw [if_pos h, if_pos h, if_neg (by omega), if_neg (by omega), if_pos ⟨ht, hn⟩]; exact ⟨rfl, rfl⟩
theorem la_one {a b : Gg} (h : grB a = true ∧ grB b = true) (ht : a.tk = b.tk) (hn : neG a b = false) : laV a b = 0 ∧ laC a b = 0 := by unfold laV laC; rw [if_pos h, if_pos h, if_neg (by omega), if_neg (by omega), if_neg (by rw [hn]; intro h; cases h.2)]; exact ⟨rfl, rfl⟩
theorem ret2 {a b c d : Int} (h : a = c ∧ b = d) : Ending.returned (.tuple #[.int .i64 a, .int .i64 b]) = .returned (.tuple #[.int .i64 c, .int .i64 d]) := by rw [h.1, h.2]
set_option maxRecDepth 100000 in
set_option maxHeartbeats 400000 in
theorem cmp_any (x y : Int) (w : World) : Calls Tryd.prog 37 #[.int .i64 x, .int .i64 y] w fun e w' => e = .returned (.int .i64 (if x < y then -1 else if y < x then 1 else 0)) ∧ w = w' := by
  have hx : (x != x) = false := by simp
  have hy : (y != y) = false := by simp
  by_cases h1 : x < y
  · rw [if_pos h1]
    go_enter Tryd.func37, Tryd.ntmps37
    go_wp2
    go_ret
    exact ⟨rfl, rfl⟩
  · rw [if_neg h1]
    by_cases h2 : y < x
    · rw [if_pos h2]
      go_enter Tryd.func37, Tryd.ntmps37
      go_wp2
      go_ret
      exact ⟨rfl, rfl⟩
    · rw [if_neg h2]
      go_enter Tryd.func37, Tryd.ntmps37
      go_wp2
      go_ret
      exact ⟨rfl, rfl⟩
set_option maxRecDepth 100000 in
set_option maxHeartbeats 1600000 in
theorem implLaterGrant_any (a b : Gg) (w : World) (ha : a.nm.size ≤ maxLen) (hb : b.nm.size ≤ maxLen) :
    Calls Tryd.prog 14 #[gV a, gV b] w fun e w' => e = .returned (.tuple #[.int .i64 (laV a b), .int .i64 (laC a b)]) ∧ Below w.heap.size w w' := by
  have HX : Hid (∀ W, Below ((w.alloc (.cells #[.string a.nm, .int .i64 a.hd, .int .i64 a.tk, .int .i64 a.ex] 24)).alloc (.cells #[.string b.nm, .int .i64 b.hd, .int .i64 b.tk, .int .i64 b.ex] 24)).heap.size ((w.alloc (.cells #[.string a.nm, .int .i64 a.hd, .int .i64 a.tk, .int .i64 a.ex] 24)).alloc (.cells #[.string b.nm, .int .i64 b.hd, .int .i64 b.tk, .int .i64 b.ex] 24)) W → (W.cell? ⟨w.heap.size, 0, none⟩ = some (.string a.nm) ∧ W.cell? ⟨w.heap.size, 1, none⟩ = some (.int .i64 a.hd) ∧ W.cell? ⟨w.heap.size, 2, none⟩ = some (.int .i64 a.tk) ∧ W.cell? ⟨w.heap.size, 3, none⟩ = some (.int .i64 a.ex)) ∧ (W.cell? ⟨w.heap.size + 1, 0, none⟩ = some (.string b.nm) ∧ W.cell? ⟨w.heap.size + 1, 1, none⟩ = some (.int .i64 b.hd) ∧ W.cell? ⟨w.heap.size + 1, 2, none⟩ = some (.int .i64 b.tk) ∧ W.cell? ⟨w.heap.size + 1, 3, none⟩ = some (.int .i64 b.ex)) ∧ Below w.heap.size w W) := fun W hW => by
    have e1 : (w.alloc (.cells #[.string a.nm, .int .i64 a.hd, .int .i64 a.tk, .int .i64 a.ex] 24)).heap.size = w.heap.size + 1 := by simp
    have h1 := ((hW.block w.heap.size (by simp; omega)).trans ((bel1 (w.alloc (.cells #[.string a.nm, .int .i64 a.hd, .int .i64 a.tk, .int .i64 a.ex] 24)) (.cells #[.string b.nm, .int .i64 b.hd, .int .i64 b.tk, .int .i64 b.ex] 24)).block _ (by simp))).trans (heap_alloc_new w _)
    have h2 := (hW.block (w.heap.size + 1) (by simp)).trans (e1 ▸ heap_alloc_new (w.alloc (.cells #[.string a.nm, .int .i64 a.hd, .int .i64 a.tk, .int .i64 a.ex] 24)) (.cells #[.string b.nm, .int .i64 b.hd, .int .i64 b.tk, .int .i64 b.ex] 24))
    refine ⟨⟨?_, ?_, ?_, ?_⟩, ⟨?_, ?_, ?_, ?_⟩, ((bel1 w _).trans ((bel1 _ _).mono (bel1 w _).size)).trans (hW.mono (by simp; omega))⟩
    all_goals first | (simp [World.cell?, h1]; done) | (simp [World.cell?, h2]; done)
  have HA : Hid (∀ W, Calls Tryd.prog 13 #[.agg #[.string a.nm, .int .i64 a.hd, .int .i64 a.tk, .int .i64 a.ex]] W fun e w' => e = .returned (.bool (grB a)) ∧ Below W.heap.size W w') := fun W => implGrantOK_any a W ha
  have HB : Hid (∀ W, Calls Tryd.prog 13 #[.agg #[.string b.nm, .int .i64 b.hd, .int .i64 b.tk, .int .i64 b.ex]] W fun e w' => e = .returned (.bool (grB b)) ∧ Below W.heap.size W w') := fun W => implGrantOK_any b W hb
  have hq1 := neqG a b
  have hq2 := guardG
  clear ha hb
  unfold gV
  cases g1 : grB a with
  | false =>
    have HE : Hid (laV a b = 0 ∧ laC a b = 1) := la_bad (fun h => by rw [g1] at h; cases h.1)
    rw [g1] at HA
    clear g1
    go_enter Tryd.func14, Tryd.ntmps14
    go_upto_region 1 with fail
    generalize ((w.alloc (.cells #[.string a.nm, .int .i64 a.hd, .int .i64 a.tk, .int .i64 a.ex] 24)).alloc (.cells #[.string b.nm, .int .i64 b.hd, .int .i64 b.tk, .int .i64 b.ex] 24)) = wb at HX ⊢
    obtain ⟨⟨c0, c1, c2, c3⟩, ⟨d0, d1, d2, d3⟩, _⟩ := HX.out wb (Below.refl _ _)
    go_wp2_with (go_at_call 13; refine (HA.out _).mono ?_; rintro e w1 ⟨rfl, b1⟩)
    go_ret2
    exact ⟨ret2 ⟨HE.out.1.symm, HE.out.2.symm⟩, (HX.out _ b1).2.2⟩
  | true =>
    cases g2 : grB b with
    | false =>
      have HE : Hid (laV a b = 0 ∧ laC a b = 1) := la_bad (fun h => by rw [g2] at h; cases h.2)
      rw [g1] at HA
      rw [g2] at HB
      clear g1 g2
      go_enter Tryd.func14, Tryd.ntmps14
      go_upto_region 1 with fail
      generalize ((w.alloc (.cells #[.string a.nm, .int .i64 a.hd, .int .i64 a.tk, .int .i64 a.ex] 24)).alloc (.cells #[.string b.nm, .int .i64 b.hd, .int .i64 b.tk, .int .i64 b.ex] 24)) = wb at HX ⊢
      obtain ⟨⟨c0, c1, c2, c3⟩, ⟨d0, d1, d2, d3⟩, _⟩ := HX.out wb (Below.refl _ _)
      go_wp2_with fail
      refine (HA.out _).mono ?_
      rintro e w1 ⟨rfl, b1⟩
      have B1 : Hid (Below wb.heap.size wb w1) := b1
      clear b1 c0 c1 c2 c3 d0 d1 d2 d3
      obtain ⟨⟨c0, c1, c2, c3⟩, ⟨d0, d1, d2, d3⟩, _⟩ := HX.out w1 B1.out
      go_wp2_with fail
      refine (HB.out _).mono ?_
      rintro e w2 ⟨rfl, b2⟩
      have G2 : Hid (Below w.heap.size w w2) := (HX.out _ (B1.out.trans (b2.mono B1.out.size))).2.2
      clear b2
      go_wp2_with fail
      go_ret2
      exact ⟨ret2 ⟨HE.out.1.symm, HE.out.2.symm⟩, G2.out⟩
    | true =>
      have HG : Hid (grB a = true ∧ grB b = true) := ⟨g1, g2⟩
      rw [g1] at HA
      rw [g2] at HB
      clear g1 g2
      have HCM : Hid (∀ W, Calls Tryd.prog 37 #[.int .i64 b.tk, .int .i64 a.tk] W fun e w' => e = .returned (.int .i64 (if b.tk < a.tk then -1 else if a.tk < b.tk then 1 else 0)) ∧ W = w') := fun W => cmp_any b.tk a.tk W
      by_cases ht : a.tk < b.tk
      · skip
        have HE : Hid (laV a b = 1 ∧ laC a b = 0) := la_up HG.out ht
        have h1 : (a.tk == b.tk) = false := by simp; omega
        rw [if_neg (by omega), if_pos ht] at HCM
        clear ht
        go_enter Tryd.func14, Tryd.ntmps14
        go_upto_region 1 with fail
        generalize ((w.alloc (.cells #[.string a.nm, .int .i64 a.hd, .int .i64 a.tk, .int .i64 a.ex] 24)).alloc (.cells #[.string b.nm, .int .i64 b.hd, .int .i64 b.tk, .int .i64 b.ex] 24)) = wb at HX ⊢
        obtain ⟨⟨c0, c1, c2, c3⟩, ⟨d0, d1, d2, d3⟩, _⟩ := HX.out wb (Below.refl _ _)
        go_wp2_with fail
        refine (HA.out _).mono ?_
        rintro e w1 ⟨rfl, b1⟩
        have B1 : Hid (Below wb.heap.size wb w1) := b1
        clear b1 c0 c1 c2 c3 d0 d1 d2 d3
        obtain ⟨⟨c0, c1, c2, c3⟩, ⟨d0, d1, d2, d3⟩, _⟩ := HX.out w1 B1.out
        go_wp2_with fail
        refine (HB.out _).mono ?_
        rintro e w2 ⟨rfl, b2⟩
        have B2 : Hid (Below wb.heap.size wb w2) := B1.out.trans (b2.mono B1.out.size)
        clear b2 c0 c1 c2 c3 d0 d1 d2 d3
        obtain ⟨⟨c0, c1, c2, c3⟩, ⟨d0, d1, d2, d3⟩, g2⟩ := HX.out w2 B2.out
        have G2 : Hid (Below w.heap.size w w2) := g2
        clear g2
        go_wp2_with (first | (go_at_call 37; refine (HCM.out _).mono ?_; rintro e w3 ⟨rfl, rfl⟩))
        go_ret2
        exact ⟨ret2 ⟨HE.out.1.symm, HE.out.2.symm⟩, G2.out⟩
      by_cases ht' : b.tk < a.tk
      · have ht : b.tk < a.tk := ht'
        clear ht'
        have HE : Hid (laV a b = -1 ∧ laC a b = 0) := la_down HG.out ht
        have h1 : (a.tk == b.tk) = false := by simp; omega
        rw [if_pos ht] at HCM
        clear ht
        go_enter Tryd.func14, Tryd.ntmps14
        go_upto_region 1 with fail
        generalize ((w.alloc (.cells #[.string a.nm, .int .i64 a.hd, .int .i64 a.tk, .int .i64 a.ex] 24)).alloc (.cells #[.string b.nm, .int .i64 b.hd, .int .i64 b.tk, .int .i64 b.ex] 24)) = wb at HX ⊢
        obtain ⟨⟨c0, c1, c2, c3⟩, ⟨d0, d1, d2, d3⟩, _⟩ := HX.out wb (Below.refl _ _)
        go_wp2_with fail
        refine (HA.out _).mono ?_
        rintro e w1 ⟨rfl, b1⟩
        have B1 : Hid (Below wb.heap.size wb w1) := b1
        clear b1 c0 c1 c2 c3 d0 d1 d2 d3
        obtain ⟨⟨c0, c1, c2, c3⟩, ⟨d0, d1, d2, d3⟩, _⟩ := HX.out w1 B1.out
        go_wp2_with fail
        refine (HB.out _).mono ?_
        rintro e w2 ⟨rfl, b2⟩
        have B2 : Hid (Below wb.heap.size wb w2) := B1.out.trans (b2.mono B1.out.size)
        clear b2 c0 c1 c2 c3 d0 d1 d2 d3
        obtain ⟨⟨c0, c1, c2, c3⟩, ⟨d0, d1, d2, d3⟩, g2⟩ := HX.out w2 B2.out
        have G2 : Hid (Below w.heap.size w w2) := g2
        clear g2
        go_wp2_with (first | (go_at_call 37; refine (HCM.out _).mono ?_; rintro e w3 ⟨rfl, rfl⟩))
        go_ret2
        exact ⟨ret2 ⟨HE.out.1.symm, HE.out.2.symm⟩, G2.out⟩
      have ht : a.tk = b.tk := by omega
      clear ht'
      cases hn : neG a b with
      | true =>
        have HE : Hid (laV a b = 0 ∧ laC a b = 9) := la_two HG.out ht hn
        have h1 : (a.tk == b.tk) = true := by simp; exact ht
        rw [if_neg (by omega), if_neg (by omega)] at HCM
        rw [hn] at hq1
        clear hn ht
        go_enter Tryd.func14, Tryd.ntmps14
        go_upto_region 1 with fail
        generalize ((w.alloc (.cells #[.string a.nm, .int .i64 a.hd, .int .i64 a.tk, .int .i64 a.ex] 24)).alloc (.cells #[.string b.nm, .int .i64 b.hd, .int .i64 b.tk, .int .i64 b.ex] 24)) = wb at HX ⊢
        obtain ⟨⟨c0, c1, c2, c3⟩, ⟨d0, d1, d2, d3⟩, _⟩ := HX.out wb (Below.refl _ _)
        go_wp2_with fail
        refine (HA.out _).mono ?_
        rintro e w1 ⟨rfl, b1⟩
        have B1 : Hid (Below wb.heap.size wb w1) := b1
        clear b1 c0 c1 c2 c3 d0 d1 d2 d3
        obtain ⟨⟨c0, c1, c2, c3⟩, ⟨d0, d1, d2, d3⟩, _⟩ := HX.out w1 B1.out
        go_wp2_with fail
        refine (HB.out _).mono ?_
        rintro e w2 ⟨rfl, b2⟩
        have B2 : Hid (Below wb.heap.size wb w2) := B1.out.trans (b2.mono B1.out.size)
        clear b2 c0 c1 c2 c3 d0 d1 d2 d3
        obtain ⟨⟨c0, c1, c2, c3⟩, ⟨d0, d1, d2, d3⟩, g2⟩ := HX.out w2 B2.out
        have G2 : Hid (Below w.heap.size w w2) := g2
        clear g2
        go_wp2_with (first | (go_at_call 37; refine (HCM.out _).mono ?_; rintro e w3 ⟨rfl, rfl⟩))
        go_ret2
        exact ⟨ret2 ⟨HE.out.1.symm, HE.out.2.symm⟩, G2.out⟩
      | false =>
        have HE : Hid (laV a b = 0 ∧ laC a b = 0) := la_one HG.out ht hn
        have h1 : (a.tk == b.tk) = true := by simp; exact ht
        rw [if_neg (by omega), if_neg (by omega)] at HCM
        rw [hn] at hq1
        clear hn ht
        go_enter Tryd.func14, Tryd.ntmps14
        go_upto_region 1 with fail
        generalize ((w.alloc (.cells #[.string a.nm, .int .i64 a.hd, .int .i64 a.tk, .int .i64 a.ex] 24)).alloc (.cells #[.string b.nm, .int .i64 b.hd, .int .i64 b.tk, .int .i64 b.ex] 24)) = wb at HX ⊢
        obtain ⟨⟨c0, c1, c2, c3⟩, ⟨d0, d1, d2, d3⟩, _⟩ := HX.out wb (Below.refl _ _)
        go_wp2_with fail
        refine (HA.out _).mono ?_
        rintro e w1 ⟨rfl, b1⟩
        have B1 : Hid (Below wb.heap.size wb w1) := b1
        clear b1 c0 c1 c2 c3 d0 d1 d2 d3
        obtain ⟨⟨c0, c1, c2, c3⟩, ⟨d0, d1, d2, d3⟩, _⟩ := HX.out w1 B1.out
        go_wp2_with fail
        refine (HB.out _).mono ?_
        rintro e w2 ⟨rfl, b2⟩
        have B2 : Hid (Below wb.heap.size wb w2) := B1.out.trans (b2.mono B1.out.size)
        clear b2 c0 c1 c2 c3 d0 d1 d2 d3
        obtain ⟨⟨c0, c1, c2, c3⟩, ⟨d0, d1, d2, d3⟩, g2⟩ := HX.out w2 B2.out
        have G2 : Hid (Below w.heap.size w w2) := g2
        clear g2
        go_wp2_with (first | (go_at_call 37; refine (HCM.out _).mono ?_; rintro e w3 ⟨rfl, rfl⟩))
        go_ret2
        exact ⟨ret2 ⟨HE.out.1.symm, HE.out.2.symm⟩, G2.out⟩
end Go.Proofs.YtimmeclclilpdaaDoor.Gr12
