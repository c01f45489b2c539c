/- Replies that are counted: of the program. -/
import Derived.Test.YtiflfcpoajijaaaDoorRyq
import Derived.Test.YtiflfcpoajijaaaDoorJFnClients3
import Derived.BigQuiet
import Derived.Deep.CutRange
import Derived.Deep.LoopGhost
import Derived.WalkMore
namespace Go.Proofs.YtiflfcpoajijaaaDoor.Rk
open Go.RowKit Go.Proofs.YtiflfcpoajijaaaDoor.Sl Go.Proofs.YtiflfcpoajijaaaDoor.Rg
open Go.Proofs.YtiflfcpoajijaaaDoor.Gy (Re)
open Go.Proofs.YtiflfcpoajijaaaDoor.Tm (fCode fOut f_cases implFaultsOf_any)
open Go.Proofs.YtiflfcpoajijaaaDoor.Ry (lokB rokB implReplyOK_any)
open Go.Proofs.YtiflfcpoajijaaaDoor.Sh (KTab KTab.below)

theorem guardA (op : BinOp) (a b : Operand) (xs ys : Array Value) (W : World) : (eqGuard op 35 a b (.agg xs) (.agg ys)).run Tryd.prog W = .ok () W := run_eqGuard_agg W op 35 a b xs ys (by kernel_rfl)
theorem guardV (op : BinOp) (a b : Operand) (xs ys : Array Value) (W : World) : (eqGuard op 136 a b (.agg xs) (.agg ys)).run Tryd.prog W = .ok () W := run_eqGuard_agg W op 136 a b xs ys (by kernel_rfl)
theorem an_dec (x y : An) : decide (x = y) = (x.1 == y.1 && x.2.1 == y.2.1 && x.2.2.1 == y.2.2.1 && x.2.2.2 == y.2.2.2) := by
  obtain ⟨x1, x2, x3, x4⟩ := x
  obtain ⟨y1, y2, y3, y4⟩ := y
  rw [Bool.eq_iff_iff]
  simp [and_assoc]
theorem vo_dec (x y : Vo) : decide (x = y) = (x.1 == y.1 && x.2.1 == y.2.1 && x.2.2.1 == y.2.2.1 && x.2.2.2.1 == y.2.2.2.1 && x.2.2.2.2 == y.2.2.2.2) := by
  obtain ⟨x1, x2, x3, x4, x5⟩ := x
  obtain ⟨y1, y2, y3, y4, y5⟩ := y
  rw [Bool.eq_iff_iff]
  simp [and_assoc]
set_option maxRecDepth 100000 in
theorem neqA (x y : An) (W : World) : (binOp .neq 35 (.agg #[.int .i64 x.1, .int .i64 x.2.1, .int .i64 x.2.2.1, .int .i64 x.2.2.2]) (.agg #[.int .i64 y.1, .int .i64 y.2.1, .int .i64 y.2.2.1, .int .i64 y.2.2.2])).run Tryd.prog W = .ok (.bool (!decide (x = y))) W := by
  rw [an_dec, run_neq_struct, run_equalIn_struct W 9999 35 _ _ (by kernel_rfl) (by kernel_rfl)]
  simp [go_sem, Program.fieldsOf, Tryd.underlying35, Tryd.underlying3]
  repeat' split
  all_goals simp_all
set_option maxRecDepth 100000 in
theorem eqlA (x y : An) (W : World) : (binOp .eql 35 (.agg #[.int .i64 x.1, .int .i64 x.2.1, .int .i64 x.2.2.1, .int .i64 x.2.2.2]) (.agg #[.int .i64 y.1, .int .i64 y.2.1, .int .i64 y.2.2.1, .int .i64 y.2.2.2])).run Tryd.prog W = .ok (.bool (decide (x = y))) W := by
  rw [an_dec, run_eql_struct, run_equalIn_struct W 9999 35 _ _ (by kernel_rfl) (by kernel_rfl)]
  simp [go_sem, Program.fieldsOf, Tryd.underlying35, Tryd.underlying3]
  repeat' split
  all_goals simp_all
set_option maxRecDepth 100000 in
theorem eqlV (x y : Vo) (W : World) : (binOp .eql 136 (.agg #[.int .i64 x.1, .int .i64 x.2.1, .int .i64 x.2.2.1, .int .i64 x.2.2.2.1, .int .i64 x.2.2.2.2]) (.agg #[.int .i64 y.1, .int .i64 y.2.1, .int .i64 y.2.2.1, .int .i64 y.2.2.2.1, .int .i64 y.2.2.2.2])).run Tryd.prog W = .ok (.bool (decide (x = y))) W := by
  rw [vo_dec, run_eql_struct, run_equalIn_struct W 9999 136 _ _ (by kernel_rfl) (by kernel_rfl)]
  simp [go_sem, Program.fieldsOf, Tryd.underlying136, Tryd.underlying35, Tryd.underlying3]
  repeat' split
  all_goals simp_all
theorem vn_no {a : An} {V : List Vo} {k : Nat} {x : Vo} (h : V[k]? = some x) (hx : ¬ x.2 = a) : vn a V (k + 1) = vn a V k := by
  conv => lhs; unfold vn
  rw [h]
  have : (x.2 == a) = false := by simpa using hx
  simp [this]
theorem vn_again {a : An} {V : List Vo} {k j : Nat} {x : Vo} (h : V[k]? = some x) (hj : j < k) (hy : V[j]? = some x) : vn a V (k + 1) = vn a V k := by
  conv => lhs; unfold vn
  rw [h]
  have hm : x ∈ V.take k := by
    rw [List.mem_take_iff_getElem]
    obtain ⟨hl, he⟩ := List.getElem?_eq_some_iff.1 hy
    exact ⟨j, by omega, he⟩
  simp [hm]
theorem vn_new {a : An} {V : List Vo} {k : Nat} {x : Vo} (h : V[k]? = some x) (hx : x.2 = a) (hn : ∀ (j : Nat) (y : Vo), j < k → V[j]? = some y → ¬ y = x) : vn a V (k + 1) = vn a V k + 1 := by
  conv => lhs; unfold vn
  rw [h]
  have hm : ¬ x ∈ V.take k := by
    rw [List.mem_take_iff_getElem]
    rintro ⟨j, hj, he⟩
    exact hn j x (by omega) (by rw [List.getElem?_eq_getElem (by omega), he]) rfl
  simp [hm, hx]
set_option maxRecDepth 100000 in
set_option maxHeartbeats 3200000 in
theorem nts_any (a : An) (v : Value) (V : List Vo) (w : World) (h : RowV w v V) (hl : V.length ≤ 4096) :
    Calls Tryd.prog 85 #[.agg #[.int .i64 a.1, .int .i64 a.2.1, .int .i64 a.2.2.1, .int .i64 a.2.2.2], v] w fun e w' => e = .returned (.int .i64 (vn a V V.length : Int)) ∧ Below w.heap.size w w' := by
  have HX : Hid (∀ W, Below (w.alloc (.cells #[.int .i64 a.1, .int .i64 a.2.1, .int .i64 a.2.2.1, .int .i64 a.2.2.2] 35)).heap.size (w.alloc (.cells #[.int .i64 a.1, .int .i64 a.2.1, .int .i64 a.2.2.1, .int .i64 a.2.2.2] 35)) W → (W.cell? ⟨w.heap.size, 0, none⟩ = some (.int .i64 a.1) ∧ W.cell? ⟨w.heap.size, 1, none⟩ = some (.int .i64 a.2.1) ∧ W.cell? ⟨w.heap.size, 2, none⟩ = some (.int .i64 a.2.2.1) ∧ W.cell? ⟨w.heap.size, 3, none⟩ = some (.int .i64 a.2.2.2)) ∧ RowV W v V ∧ Below w.heap.size w W) := fun W hW => by
    have h1 := (hW.block w.heap.size (by simp)).trans (heap_alloc_new w _)
    have b := (bel_new w (.cells #[.int .i64 a.1, .int .i64 a.2.1, .int .i64 a.2.2.1, .int .i64 a.2.2.2] 35)).trans (hW.mono (by simp))
    exact ⟨⟨(blk_cell h1 0 rfl).1, (blk_cell h1 1 rfl).1, (blk_cell h1 2 rfl).1, (blk_cell h1 3 rfl).1⟩, h.below b, b⟩
  obtain ⟨va, vcp, rfl⟩ := RowG.slice h
  clear h
  have hgA := guardA
  have hgV := guardV
  go_enter Tryd.func85, Tryd.ntmps85
  go_upto_region 1 with fail
  generalize w.alloc (.cells #[.int .i64 a.1, .int .i64 a.2.1, .int .i64 a.2.2.1, .int .i64 a.2.2.2] 35) = wb at HX ⊢
  go_wp2_with fail
  go_step3
  go_wp2_with fail
  go_step3
  go_wp2_with fail
  go_loopg [5, 12] V.length (fun g c i wr => ∃ k : Nat, k + g = V.length ∧ i = .int .i64 k ∧ c = .int .i64 (vn a V k : Int) ∧ Hid (Below wb.heap.size wb wr))
  case atStart => exact ⟨0, by omega, rfl, rfl, Below.refl _ _⟩
  case round =>
    obtain ⟨k, hkg, rfl, rfl, HB⟩ := hrel
    have hvk := vn_le (a := a) (V := V) k
    cases gk with
    | succ g =>
      have hlt : k < V.length := by omega
      have hltI : (k : Int) < (V.length : Int) := by omega
      obtain ⟨x, hx⟩ := Rg.get_at hlt
      obtain ⟨⟨e0, e1, e2, e3⟩, HRV, _⟩ := HX.out _ HB.out
      obtain ⟨_, _, hre, hr⟩ := id HRV
      cases hre
      rcases hr with hr | ⟨vb, voff, rfl, hcap, hvb, hcell⟩
      · rw [hr] at hlt; simp at hlt
      obtain ⟨c0, c1, c2, c3, c4⟩ := hcell k x hx
      have HBX : Hid (∀ W, Below (wr.alloc (.cells #[.int .i64 x.1, .int .i64 x.2.1, .int .i64 x.2.2.1, .int .i64 x.2.2.2.1, .int .i64 x.2.2.2.2] 136)).heap.size (wr.alloc (.cells #[.int .i64 x.1, .int .i64 x.2.1, .int .i64 x.2.2.1, .int .i64 x.2.2.2.1, .int .i64 x.2.2.2.2] 136)) W → ((W.cell? ⟨wr.heap.size, 0, none⟩ = some (.int .i64 x.1) ∧ W.cell? ⟨wr.heap.size, 1, none⟩ = some (.int .i64 x.2.1) ∧ W.cell? ⟨wr.heap.size, 2, none⟩ = some (.int .i64 x.2.2.1) ∧ W.cell? ⟨wr.heap.size, 3, none⟩ = some (.int .i64 x.2.2.2.1) ∧ W.cell? ⟨wr.heap.size, 4, none⟩ = some (.int .i64 x.2.2.2.2)) ∧ (W.cell? ⟨w.heap.size, 0, none⟩ = some (.int .i64 a.1) ∧ W.cell? ⟨w.heap.size, 1, none⟩ = some (.int .i64 a.2.1) ∧ W.cell? ⟨w.heap.size, 2, none⟩ = some (.int .i64 a.2.2.1) ∧ W.cell? ⟨w.heap.size, 3, none⟩ = some (.int .i64 a.2.2.2))) ∧ RowV W (.slice (some ⟨vb, voff, none⟩) V.length vcp) V ∧ Below wb.heap.size wb W) := fun W hW => by
        have h1 := (hW.block wr.heap.size (by simp)).trans (heap_alloc_new wr _)
        have b := HB.out.trans (((bel_new wr (.cells #[.int .i64 x.1, .int .i64 x.2.1, .int .i64 x.2.2.1, .int .i64 x.2.2.2.1, .int .i64 x.2.2.2.2] 136)).trans (hW.mono (by simp))).mono HB.out.size)
        exact ⟨⟨⟨(blk_cell h1 0 rfl).1, (blk_cell h1 1 rfl).1, (blk_cell h1 2 rfl).1, (blk_cell h1 3 rfl).1, (blk_cell h1 4 rfl).1⟩, (HX.out _ b).1⟩, (HX.out _ b).2.1, b⟩
      have HVK : Hid (V[k]? = some x) := hx
      have hq := neqA x.2 a
      clear hx hcell HRV
      by_cases hxa : x.2 = a
      · have HVA : Hid (x.2 = a) := hxa
        rw [decide_eq_true hxa] at hq
        clear hxa
        have hkc : (k : Int) ≤ (vcp : Int) := by omega
        go_upto_region 5 with fail
        generalize wr.alloc (.cells #[.int .i64 x.1, .int .i64 x.2.1, .int .i64 x.2.2.1, .int .i64 x.2.2.2.1, .int .i64 x.2.2.2.2] 136) = wx at HBX ⊢
        generalize wr.heap.size = bv at HBX ⊢
        clear c0 c1 c2 c3 c4 e0 e1 e2 e3
        obtain ⟨⟨⟨c0, c1, c2, c3, c4⟩, e0, e1, e2, e3⟩, _⟩ := HBX.out _ (Below.refl _ _)
        go_wp2_with fail
        clear c0 c1 c2 c3 c4 e0 e1 e2 e3 hq
        clear HB
        go_loopg [25] k (fun g2 i wr2 => ∃ m : Nat, m + g2 = k ∧ i = .int .i64 m ∧ Hid ((∀ (j : Nat) (y : Vo), j < m → V[j]? = some y → ¬ y = x) ∧ Below wx.heap.size wx wr2))
        case atStart => exact ⟨0, by omega, rfl, ⟨fun j y hj => by omega, Below.refl _ _⟩⟩
        case round =>
          rename World => w5
          obtain ⟨m, hmg, rfl, HM⟩ := hrel
          cases gk with
          | succ g2 =>
            have hlm : m < k := by omega
            have hlmI : (m : Int) < (k : Int) := by omega
            obtain ⟨y, hy⟩ := Rg.get_at (xs := V) (k := m) (by omega)
            obtain ⟨⟨⟨c0, c1, c2, c3, c4⟩, e0, e1, e2, e3⟩, hrv, _⟩ := HBX.out _ HM.out.2
            obtain ⟨b', off', he, hb', d0, d1, d2, d3, d4⟩ := RowG.at hrv rfl hy
            cases he
            have HVM : Hid (V[m]? = some y) := hy
            have HW : Hid (Below wx.heap.size wx (w5.alloc (.cells #[.int .i64 y.1, .int .i64 y.2.1, .int .i64 y.2.2.1, .int .i64 y.2.2.2.1, .int .i64 y.2.2.2.2] 136))) := HM.out.2.trans ((bel_new w5 _).mono HM.out.2.size)
            have hq := eqlV y x
            obtain ⟨⟨⟨f0, f1, f2, f3, f4⟩, _⟩, _⟩ := HBX.out _ HW.out
            clear hy hrv c0 c1 c2 c3 c4 e0 e1 e2 e3
            by_cases hyx : y = x
            · have HE : Hid (vn a V (k + 1) = vn a V k) := by subst hyx; exact vn_again HVK.out hlm HVM.out
              rw [decide_eq_true hyx] at hq
              have HG : Hid (Below wb.heap.size wb (w5.alloc (.cells #[.int .i64 y.1, .int .i64 y.2.1, .int .i64 y.2.2.1, .int .i64 y.2.2.2.1, .int .i64 y.2.2.2.2] 136))) := (HBX.out _ HW.out).2.2
              clear hyx
              go_wp2_with fail
              go_roundg g
              case measure => omega
              case rel => exact ⟨k + 1, by omega, by go_num, by rw [HE.out], HG⟩
            · have HN : Hid (∀ (j : Nat) (y' : Vo), j < m + 1 → V[j]? = some y' → ¬ y' = x) := fun j y' hj hy' => by
                by_cases e : j = m
                · subst e; rw [HVM.out] at hy'; cases hy'; exact hyx
                · exact HM.out.1 j y' (by omega) hy'
              rw [decide_eq_false hyx] at hq
              clear hyx
              go_wp2_with fail
              go_roundg g2
              case measure => omega
              case rel => exact ⟨m + 1, by omega, by go_num, ⟨HN.out, HW.out⟩⟩
          | zero =>
            obtain rfl : m = k := by omega
            have HE : Hid (vn a V (m + 1) = vn a V m + 1) := vn_new HVK.out HVA.out HM.out.1
            have HG : Hid (Below wb.heap.size wb w5) := (HBX.out _ HM.out.2).2.2
            have hnl : ¬ (m : Int) < (m : Int) := by omega
            go_wp2_with fail
            go_roundg g
            case measure => omega
            case rel => exact ⟨m + 1, by omega, by go_num, by rw [HE.out]; go_num, HG⟩
      · have HE : Hid (vn a V (k + 1) = vn a V k) := vn_no HVK.out hxa
        rw [decide_eq_false hxa] at hq
        clear hxa
        have HG : Hid (Below wb.heap.size wb (wr.alloc (.cells #[.int .i64 x.1, .int .i64 x.2.1, .int .i64 x.2.2.1, .int .i64 x.2.2.2.1, .int .i64 x.2.2.2.2] 136))) := HB.out.trans ((bel_new wr _).mono HB.out.size)
        obtain ⟨⟨_, f0, f1, f2, f3⟩, _⟩ := HBX.out _ (Below.refl _ _)
        go_wp2_with fail
        go_roundg g
        case measure => omega
        case rel => exact ⟨k + 1, by omega, by go_num, by rw [HE.out], HG⟩
    | zero =>
      obtain rfl : k = V.length := by omega
      have G : Hid (Below w.heap.size w wr) := (HX.out _ HB.out).2.2
      go_wp2_with fail
      try rw [Exit.noGoto_ret]
      go_ret
      exact ⟨rfl, G.out⟩
end Go.Proofs.YtiflfcpoajijaaaDoor.Rk
