/-
  A grant is read back from its text, and of two grants that are ordered one is later, by its token: for all bytes that draw them.
  Conditions: none beyond the given row's own; the library's tables that it reads start as the library's text lays them (the card ties them).
-/
import Derived.Test.YtimmeclclilpdaaDoorLtFnGrantTexts
import Derived.Test.YtimmeclclilpdaaDoorGrq
import Derived.Test.YtimmeclclilpdaaDoorGrc
import Derived.Test.YtimmeclclilpdaaDoorGrk
import Derived.Test.YtimmeclclilpdaaDoorSlRow
import Derived.Test.YtimmeclclilpdaaDoorOb
import Derived.WalkKit
namespace Go.Proofs.YtimmeclclilpdaaDoor.fnGrantTexts
open Go.ChangeShapes Go.WideShapes Go.ChangeAt Go.RowKit
open Go.ChangeMaps (open_string shut_string)
open Go.Proofs.YtimmeclclilpdaaDoor.Hl (own laidOut door_met)

open Go.Proofs.YtimmeclclilpdaaDoor.Gr12 Go.Proofs.YtimmeclclilpdaaDoor.Gn
open Go.Proofs.YtimmeclclilpdaaDoor.Sl (RowB)
theorem eqlG (x y : Gg) (W : World) : (binOp .eql 24 (.agg #[.string x.nm, .int .i64 x.hd, .int .i64 x.tk, .int .i64 x.ex]) (.agg #[.string y.nm, .int .i64 y.hd, .int .i64 y.tk, .int .i64 y.ex])).run Tryd.prog W = .ok (.bool (!neG x y)) W := by
  unfold neG
  rw [run_eql_struct, run_equalIn_struct W 9999 24 _ _ (by kernel_rfl) (by kernel_rfl)]
  simp [go_sem, Program.fieldsOf, Tryd.underlying24, Tryd.underlying3, Tryd.underlying9]
  repeat' split
  all_goals simp_all
theorem ne_same (g : Gg) : neG g g = false := by unfold neG; simp
theorem ne_symm (g h : Gg) : neG g h = neG h g := by
  unfold neG
  congr 1
  rw [Bool.eq_iff_iff]
  simp only [Bool.and_eq_true, beq_iff_eq]
  constructor <;> rintro ⟨a, b, c, d⟩ <;> exact ⟨a.symm, b.symm, c.symm, d.symm⟩
theorem ne_tok {g h : Gg} (ht : g.tk ≠ h.tk) : neG g h = true := by
  unfold neG
  have : (g.tk == h.tk) = false := by simpa using ht
  rw [this]; simp
theorem rd_tx {g : Gg} (h : grB g = true) : rdG (tx g) = g ∧ rdC (tx g) = 0 := rd_some (by have := tx_small h; omega) ((rsp_iff grB grB_ok (tx g) g).2 ⟨h, rfl⟩)
set_option maxRecDepth 100000 in
set_option maxHeartbeats 3200000 in
/-- THE WALK: what is written is read back; of two grants one is later, by its token. -/
theorem walk {w : World} (v0 : Value) (xs0 : List Int) (h0 : RowB w v0 xs0) (v1 : Value) (xs1 : List Int) (h1 : RowB w v1 xs1) (hT : PTab w ∧ STab w) :
    Calls Tryd.prog 3 #[v0, v1] w fun e w' => e = .returned (.bool true) ∧ Below w.heap.size w w' := by
  have HP : Hid (∀ W, Below w.heap.size w W → PTab W ∧ STab W) := fun W hW => ⟨hT.1.below hW, hT.2.below hW⟩
  have HR0 : Hid (∀ W, Below w.heap.size w W → RowB W v0 xs0) := fun W hW => h0.below hW
  have HR1 : Hid (∀ W, Below w.heap.size w W → RowB W v1 xs1) := fun W hW => h1.below hW
  obtain ⟨a0, k0, rfl, _⟩ := h0
  obtain ⟨a1, k1, rfl, _⟩ := h1
  clear hT
  by_cases hb0 : (1048576 : Int) < (xs0.length : Int)
  · go_enter Tryd.func3, Tryd.ntmps3
    go_wp2
    go_ret
    exact ⟨rfl, Below.refl _ _⟩
  by_cases hb1 : (1048576 : Int) < (xs1.length : Int)
  · go_enter Tryd.func3, Tryd.ntmps3
    go_wp2
    go_ret
    exact ⟨rfl, Below.refl _ _⟩
  have HX0 : Hid (xs0.length ≤ 1048576) := by show _ ≤ _; omega
  have HX1 : Hid (xs1.length ≤ 1048576) := by show _ ≤ _; omega
  go_enter Tryd.func3, Tryd.ntmps3
  go_wp2_with fail
  refine (GrantOf_any _ xs0 w (HR0.out w (Below.refl _ _)) HX0.out).mono ?_
  rintro e w1 ⟨g, rfl, hg, b1⟩
  have A1 : Hid (∀ W, Below (w1.alloc (.cells #[.string g.nm, .int .i64 g.hd, .int .i64 g.tk, .int .i64 g.ex] 24)).heap.size (w1.alloc (.cells #[.string g.nm, .int .i64 g.hd, .int .i64 g.tk, .int .i64 g.ex] 24)) W → (W.cell? ⟨w1.heap.size, 0, none⟩ = some (.string g.nm) ∧ W.cell? ⟨w1.heap.size, 1, none⟩ = some (.int .i64 g.hd) ∧ W.cell? ⟨w1.heap.size, 2, none⟩ = some (.int .i64 g.tk) ∧ W.cell? ⟨w1.heap.size, 3, none⟩ = some (.int .i64 g.ex)) ∧ Below w.heap.size w W ∧ w1.heap.size < W.heap.size) := fun W hW => by
    have h1 := (hW.block w1.heap.size (by simp)).trans (heap_alloc_new w1 _)
    exact ⟨⟨by simp [World.cell?, h1], by simp [World.cell?, h1], by simp [World.cell?, h1], by simp [World.cell?, h1]⟩, b1.trans (((bel1 w1 _).trans (hW.mono (by simp))).mono b1.size), by have := hW.size; simp at this; omega⟩
  have HG : Hid (grB g = true) := hg
  clear b1 hg
  unfold gV
  go_upto_region 4 with fail
  generalize w1.alloc (.cells #[.string g.nm, .int .i64 g.hd, .int .i64 g.tk, .int .i64 g.ex] 24) = wa at A1 ⊢
  generalize w1.heap.size = bg at A1 ⊢
  go_wp2_with fail
  refine (GrantOf_any _ xs1 wa (HR1.out _ (A1.out wa (Below.refl _ _)).2.1) HX1.out).mono ?_
  rintro e w2 ⟨h, rfl, hh, b2⟩
  have A2 : Hid (∀ W, Below (w2.alloc (.cells #[.string h.nm, .int .i64 h.hd, .int .i64 h.tk, .int .i64 h.ex] 24)).heap.size (w2.alloc (.cells #[.string h.nm, .int .i64 h.hd, .int .i64 h.tk, .int .i64 h.ex] 24)) W → (W.cell? ⟨bg, 0, none⟩ = some (.string g.nm) ∧ W.cell? ⟨bg, 1, none⟩ = some (.int .i64 g.hd) ∧ W.cell? ⟨bg, 2, none⟩ = some (.int .i64 g.tk) ∧ W.cell? ⟨bg, 3, none⟩ = some (.int .i64 g.ex)) ∧ (W.cell? ⟨w2.heap.size, 0, none⟩ = some (.string h.nm) ∧ W.cell? ⟨w2.heap.size, 1, none⟩ = some (.int .i64 h.hd) ∧ W.cell? ⟨w2.heap.size, 2, none⟩ = some (.int .i64 h.tk) ∧ W.cell? ⟨w2.heap.size, 3, none⟩ = some (.int .i64 h.ex)) ∧ Below w.heap.size w W) := fun W hW => by
    have h1 := (hW.block w2.heap.size (by simp)).trans (heap_alloc_new w2 _)
    have hb : Below wa.heap.size wa W := b2.trans (((bel1 w2 _).trans (hW.mono (by simp))).mono b2.size)
    exact ⟨(A1.out W hb).1, ⟨by simp [World.cell?, h1], by simp [World.cell?, h1], by simp [World.cell?, h1], by simp [World.cell?, h1]⟩, (A1.out W hb).2.1⟩
  have HH : Hid (grB h = true) := hh
  clear b2 hh A1
  unfold gV
  go_upto_region 5 with fail
  generalize w2.alloc (.cells #[.string h.nm, .int .i64 h.hd, .int .i64 h.tk, .int .i64 h.ex] 24) = wb at A2 ⊢
  generalize w2.heap.size = bh at A2 ⊢
  have ZG : Hid (g.nm.size ≤ maxLen) := by show _ ≤ _; unfold maxLen; have := (nmd_of (grB_parts HG.out).1).2; omega
  have ZH : Hid (h.nm.size ≤ maxLen) := by show _ ≤ _; unfold maxLen; have := (nmd_of (grB_parts HH.out).1).2; omega
  have TG : Hid (gtS g = tx g ∧ gtC g = 0) := by show _ ∧ _; unfold gtS gtC; rw [HG.out]; exact ⟨rfl, rfl⟩
  have HGT : Hid (∀ W, Below w.heap.size w W → Calls Tryd.prog 10 #[.agg #[.string g.nm, .int .i64 g.hd, .int .i64 g.tk, .int .i64 g.ex]] W fun e w' => e = .returned (.tuple #[.string (tx g), .int .i64 0]) ∧ Below W.heap.size W w') := fun W hW => by
    have := implGrantText_any g W ZG.out (HP.out W hW).1
    rwa [TG.out.1, TG.out.2] at this
  have HST : Hid (∀ W, Calls Tryd.prog 11 #[.agg #[.string g.nm, .int .i64 g.hd, .int .i64 g.tk, .int .i64 g.ex]] W fun e w' => e = .returned (.tuple #[.string (tx g), .int .i64 0]) ∧ Below W.heap.size W w') := fun W => by
    have := specGrantText_any g W ZG.out
    rwa [TG.out.1, TG.out.2] at this
  have HRG : Hid (∀ W, Below w.heap.size w W → Calls Tryd.prog 12 #[.string (tx g)] W fun e w' => e = .returned (.tuple #[.agg #[.string g.nm, .int .i64 g.hd, .int .i64 g.tk, .int .i64 g.ex], .int .i64 0]) ∧ Below W.heap.size W w') := fun W hW => by
    have := implReadGrant_any (tx g) W (by have := tx_small HG.out; omega) (HP.out W hW).1 (HP.out W hW).2
    rw [(rd_tx HG.out).1, (rd_tx HG.out).2] at this
    exact this
  have HOK : Hid (∀ W, Calls Tryd.prog 13 #[.agg #[.string g.nm, .int .i64 g.hd, .int .i64 g.tk, .int .i64 g.ex]] W fun e w' => e = .returned (.bool true) ∧ Below W.heap.size W w') := fun W => by
    have := implGrantOK_any g W ZG.out
    rwa [HG.out] at this
  have HL1 : Hid (∀ W, Calls Tryd.prog 14 #[.agg #[.string g.nm, .int .i64 g.hd, .int .i64 g.tk, .int .i64 g.ex], .agg #[.string h.nm, .int .i64 h.hd, .int .i64 h.tk, .int .i64 h.ex]] W fun e w' => e = .returned (.tuple #[.int .i64 (laV g h), .int .i64 (laC g h)]) ∧ Below W.heap.size W w') := fun W => implLaterGrant_any g h W ZG.out ZH.out
  have HL2 : Hid (∀ W, Calls Tryd.prog 14 #[.agg #[.string h.nm, .int .i64 h.hd, .int .i64 h.tk, .int .i64 h.ex], .agg #[.string g.nm, .int .i64 g.hd, .int .i64 g.tk, .int .i64 g.ex]] W fun e w' => e = .returned (.tuple #[.int .i64 (laV h g), .int .i64 (laC h g)]) ∧ Below W.heap.size W w') := fun W => implLaterGrant_any h g W ZH.out ZG.out
  have q1 := neqG g g
  rw [ne_same g] at q1
  have q2 := guardG
  have q3 := neqG g h
  have q4 := eqlG g h
  have hne : ((tx g).toList == (tx g).toList) = true := by simp
  generalize tx g = tt at HGT HST HRG hne
  clear HP TG ZG ZH HX0 HX1
  obtain ⟨⟨c0, c1, c2, c3⟩, _, z0⟩ := A2.out wb (Below.refl _ _)
  go_wp2_with fail
  refine (HGT.out _ z0).mono ?_
  rintro e w3 ⟨rfl, b3⟩
  have B3 : Hid (Below wb.heap.size wb w3) := b3
  clear b3 c0 c1 c2 c3 z0
  obtain ⟨⟨c0, c1, c2, c3⟩, _, _⟩ := A2.out _ B3.out
  go_wp2_with fail
  refine (HST.out _).mono ?_
  rintro e w4 ⟨rfl, b4⟩
  have B4 : Hid (Below wb.heap.size wb w4) := B3.out.trans (b4.mono B3.out.size)
  clear b4 c0 c1 c2 c3
  go_wp2_with fail
  refine (HRG.out _ (A2.out _ B4.out).2.2).mono ?_
  rintro e w5 ⟨rfl, b5⟩
  have B5 : Hid (Below wb.heap.size wb w5) := B4.out.trans (b5.mono B4.out.size)
  have A3 : Hid (∀ W, Below (w5.alloc (.cells #[.string g.nm, .int .i64 g.hd, .int .i64 g.tk, .int .i64 g.ex] 24)).heap.size (w5.alloc (.cells #[.string g.nm, .int .i64 g.hd, .int .i64 g.tk, .int .i64 g.ex] 24)) W → (W.cell? ⟨w5.heap.size, 0, none⟩ = some (.string g.nm) ∧ W.cell? ⟨w5.heap.size, 1, none⟩ = some (.int .i64 g.hd) ∧ W.cell? ⟨w5.heap.size, 2, none⟩ = some (.int .i64 g.tk) ∧ W.cell? ⟨w5.heap.size, 3, none⟩ = some (.int .i64 g.ex)) ∧ Below wb.heap.size wb W) := fun W hW => by
    have h1 := (hW.block w5.heap.size (by simp)).trans (heap_alloc_new w5 _)
    exact ⟨⟨by simp [World.cell?, h1], by simp [World.cell?, h1], by simp [World.cell?, h1], by simp [World.cell?, h1]⟩, B5.out.trans (((bel1 w5 _).trans (hW.mono (by simp))).mono B5.out.size)⟩
  clear b5
  go_upto_region 8 with fail
  generalize w5.alloc (.cells #[.string g.nm, .int .i64 g.hd, .int .i64 g.tk, .int .i64 g.ex] 24) = wc at A3 ⊢
  generalize w5.heap.size = bk at A3 ⊢
  obtain ⟨⟨e0, e1, e2, e3⟩, z1⟩ := A3.out wc (Below.refl _ _)
  obtain ⟨⟨c0, c1, c2, c3⟩, _, _⟩ := A2.out _ z1
  go_wp2_with fail
  refine (HOK.out _).mono ?_
  rintro e w6 ⟨rfl, b6⟩
  have B6 : Hid (Below wb.heap.size wb w6) := z1.trans (b6.mono z1.size)
  clear b6 c0 c1 c2 c3 e0 e1 e2 e3 z1 A3
  obtain ⟨⟨c0, c1, c2, c3⟩, ⟨d0, d1, d2, d3⟩, _⟩ := A2.out _ B6.out
  go_wp2_with fail
  refine (HL1.out _).mono ?_
  rintro e w7 ⟨rfl, b7⟩
  have B7 : Hid (Below wb.heap.size wb w7) := B6.out.trans (b7.mono B6.out.size)
  clear b7 c0 c1 c2 c3 d0 d1 d2 d3
  obtain ⟨⟨c0, c1, c2, c3⟩, ⟨d0, d1, d2, d3⟩, _⟩ := A2.out _ B7.out
  go_wp2_with fail
  refine (HL2.out _).mono ?_
  rintro e w8 ⟨rfl, b8⟩
  have B8 : Hid (Below wb.heap.size wb w8) := B7.out.trans (b8.mono B7.out.size)
  clear b8 c0 c1 c2 c3 d0 d1 d2 d3
  obtain ⟨⟨c0, c1, c2, c3⟩, ⟨d0, d1, d2, d3⟩, zz⟩ := A2.out _ B8.out
  have GX : Hid (Below w.heap.size w w8) := zz
  clear zz HL1 HL2
  by_cases t1 : g.tk < h.tk
  · have l1 := la_up ⟨HG.out, HH.out⟩ t1
    have l2 := la_down ⟨HH.out, HG.out⟩ t1
    rw [l1.1, l1.2, l2.1, l2.2]
    rw [ne_tok (show g.tk ≠ h.tk by omega)] at q3 q4
    clear l1 l2
    go_wp2_with fail
    go_ret
    exact ⟨Rq.ret_bool (by first | rfl | (simp [t1]; done) | (simp; omega)), GX.out⟩
  by_cases t2 : h.tk < g.tk
  · have l1 := la_down ⟨HG.out, HH.out⟩ t2
    have l2 := la_up ⟨HH.out, HG.out⟩ t2
    rw [l1.1, l1.2, l2.1, l2.2]
    rw [ne_tok (show g.tk ≠ h.tk by omega)] at q3 q4
    clear l1 l2
    go_wp2_with fail
    go_ret
    exact ⟨Rq.ret_bool (by first | rfl | (simp [t1]; done) | (simp; omega)), GX.out⟩
  have te : g.tk = h.tk := by omega
  cases hn : neG g h with
  | true =>
    have l1 := la_two ⟨HG.out, HH.out⟩ te hn
    have l2 := la_two ⟨HH.out, HG.out⟩ te.symm (by rw [← ne_symm]; exact hn)
    rw [l1.1, l1.2, l2.1, l2.2]
    rw [hn] at q3 q4
    have t3 : (g.tk == h.tk) = true := by simpa using te
    clear l1 l2 te hn
    go_wp2_with fail
    go_ret
    exact ⟨Rq.ret_bool (by first | rfl | (simp [t1]; done) | (simp; omega)), GX.out⟩
  | false =>
    have l1 := la_one ⟨HG.out, HH.out⟩ te hn
    have l2 := la_one ⟨HH.out, HG.out⟩ te.symm (by rw [← ne_symm]; exact hn)
    rw [l1.1, l1.2, l2.1, l2.2]
    rw [hn] at q3 q4
    clear l1 l2 te hn
    go_wp2_with fail
    go_ret
    exact ⟨Rq.ret_bool (by first | rfl | (simp [t1]; done) | (simp; omega)), GX.out⟩

set_option maxRecDepth 100000 in
theorem lifted (os : Os) (started : os.Started) (H : Type) (enc : TypeId × Value → H) :
    ReturnsInHanded {} Tryd.checked os 3 .any (fun w args => (Rows.fnGrantTextsSpec.pre enc Tryd.prog Tryd.f3 [] false w args ∧ laidMetH Tryd.prog Rows.fnGrantTextsRow.laid w) ∧ sizedMet enc Tryd.prog Tryd.f3 (OpenSpec.ofChange Rows.fnGrantTextsSpec) false w args)
      (Rows.fnGrantTextsSpec.post enc Tryd.prog Tryd.f3 false true false false) := by
  refine returnsInHanded_of_change_and (C := Tryd.checked) (X := fun w _ => laidMetH Tryd.prog Rows.fnGrantTextsRow.laid w) (fun _ _ _ hh h => h.of_heap hh) own started (by kernel_rfl) Tryd.func3
    (ChangeSpec.witness_shaped (enc := enc) (C := Tryd.checked) (os := os) (X := fun w _ => laidMetH Tryd.prog Rows.fnGrantTextsRow.laid w) false (World.doorLaid Tryd.prog 400 os) #[.slice none 0 0, .slice none 0 0] 8 rfl (World.shaped_of_RefB (by kernel_rfl) (by kernel_rfl)) (by kernel_rfl) (by kernel_rfl) (by kernel_rfl) (door_met os _)) ?_
  intro W base args ds gs before hval0 hW _ _ hL _
  have hval : ∀ (j : Nat) t v, Tryd.f3.params[j]? = some t → args[j]? = some v → Value.okWide Tryd.prog W .any base t v := hval0
  have hW' := hW
  obtain ⟨p, q, hA0, hV0, rfl, hfz, hnd⟩ := hW
  have hA : DataW.TrodAll enc Tryd.prog W 0 (fun _ => true) true Tryd.f3.params.toList args.toList ds p := hA0
  have hV : DataW.TrodVars enc Tryd.prog W (fun _ => true) [] gs q := hV0
  rw [Tryd.params3] at hA hval
  obtain ⟨v0, vs0, d0, ds0, p0, q0, hargs, rfl, rfl, h0, r0⟩ := trodAll_cons hA
  obtain ⟨v1, vs1, d1, ds1, p1, q1, rfl, rfl, rfl, h1, r1⟩ := trodAll_cons r0
  obtain ⟨rfl, rfl, rfl⟩ := trodAll_nil r1
  obtain rfl : args = #[v0, v1] := by cases args; simp_all
  obtain ⟨rfl, rfl⟩ := trodVars_none hV
  have k00 := h0
  have lt0 : ∀ x ∈ p0, x.block < W.heap.size := by obtain ⟨m, hm⟩ := k00; exact DataW.trod_lt m _ _ _ hm
  obtain ⟨xs0, w0⟩ := Op.open_bytes (hval 0 22 v0 rfl rfl) h0 (fun _ => rfl)
  have k10 := h1
  have lt1 : ∀ x ∈ p1, x.block < W.heap.size := by obtain ⟨m, hm⟩ := k10; exact DataW.trod_lt m _ _ _ hm
  obtain ⟨xs1, w1⟩ := Op.open_bytes (hval 1 22 v1 rfl rfl) h1 (fun _ => rfl)
  clear hA0 hval0 hV0
  have hT := Hl.tab_of hL
  refine (walk v0 xs0 w0 v1 xs1 w1 hT).mono fun e W' ⟨he, bel⟩ => ?_
  subst he
  exact ⟨_, rfl, _, _, _, [], _, [], hW', trodAll_mk1 (shut_bool Tryd.underlying4 _), (trodAll_cons_mk (Below.trod laidOut (by kernel_rfl) (of_decide_eq_true (by kernel_rfl)) k00 bel lt0) (trodAll_cons_mk (Below.trod laidOut (by kernel_rfl) (of_decide_eq_true (by kernel_rfl)) k10 bel lt1) trodAll_mk0)), rfl, bel.frame _, fun h => by cases h⟩

theorem said : Rows.FnGrantTextsSaid :=
  OpenClaim.holds_of_wide 3 Tryd.f3 rfl rfl rfl rfl rfl rfl rfl ⟨rfl, rfl, rfl, rfl, rfl⟩ rfl rfl rfl rfl rfl (by kernel_rfl) Tryd.func3 (by kernel_rfl)
    (of_decide_eq_true (by kernel_rfl)) (by unfold Func.isWrapper; first | (rw [if_pos (by decide +kernel)]; kernel_rfl) | (rw [if_neg (by decide +kernel)]; exact ⟨rfl, rfl⟩))
    (fun os started H enc _ => lifted os started H enc)

/-- No parameter wants a stand-in; the program's own looks are off. -/
theorem plain (f : FuncId) (fn : Func) (hf : Tryd.pinned.checked.prog.funcNamed "loop.example/g00292/laws.FnGrantTexts" = some f) (hfn : Tryd.pinned.checked.prog.funcs[f]? = some fn) :
    false = Tryd.pinned.checked.prog.looks [] ∧ ∀ (j : Nat) t, fn.params[j]? = some t → Tryd.pinned.checked.prog.wantsStandIn t = false := by
  obtain rfl : f = 3 := Option.some.inj ((show Tryd.prog.funcNamed "loop.example/g00292/laws.FnGrantTexts" = some 3 by kernel_rfl).symm.trans hf) |>.symm
  obtain rfl : fn = Tryd.f3 := (Option.some.inj (Tryd.func3.symm.trans hfn)).symm
  refine ⟨by kernel_rfl, fun j t ht => ?_⟩
  rw [Tryd.params3] at ht
  have hm := Array.mem_of_getElem? ht
  have hl : t ∈ [22, 22] := by simpa using hm
  have hall : ∀ x ∈ [22, 22], Tryd.prog.wantsStandIn x = false := by
    intro x hx
    simp only [List.mem_cons, List.not_mem_nil, or_false] at hx
    rcases hx with rfl | rfl <;> kernel_rfl
  exact hall t hl
end Go.Proofs.YtimmeclclilpdaaDoor.fnGrantTexts
namespace Go.Proofs.YtimmeclclilpdaaDoor
/-- THE STATEMENT: the card. -/
theorem fnGrantTexts_holds : Rows.FnGrantTextsCardSaid :=
  Claim7.holds_tied_plain_at .later [] _ _ _ _ fnGrantTexts.said (fun _ h => by cases h) (by kernel_rfl) (fun _ h => by cases h) fnGrantTexts_row_tie rfl ⟨rfl, rfl⟩ (by kernel_rfl) rfl fnGrantTexts.plain (by kernel_rfl)
end Go.Proofs.YtimmeclclilpdaaDoor
