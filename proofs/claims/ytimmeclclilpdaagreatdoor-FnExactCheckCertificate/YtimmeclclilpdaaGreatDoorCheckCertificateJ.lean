/-
  CheckCertificate answers as the specification does, for all numbers and every certificate; nothing that was handed in is written.
  Conditions: none beyond the given row's own; the package variable that it reads starts as the program's text lays it (the card ties it).
-/
import Derived.Test.YtimmeclclilpdaaGreatDoorJCheckCertificate1
import Derived.Test.YtimmeclclilpdaaGreatDoorJCheckCertificate5
import Derived.WalkKit
namespace Go.Proofs.YtimmeclclilpdaaGreatDoor.fnExactCheckCertificate
open Go.ChangeShapes Go.WideShapes Go.ChangeAt Go.RowKit
open Go.ChangeMaps (open_string shut_string)
open Go.Proofs.YtimmeclclilpdaaGreatDoor.Hl (own laidOut rowed door_met)

open Go.Proofs.YtimmeclclilpdaaGreatDoor.Kc Go.Proofs.YtimmeclclilpdaaGreatDoor.Sh
open Go.Proofs.YtimmeclclilpdaaGreatDoor.Gr12 (Gg PTab PTab.below)
open Go.Proofs.YtimmeclclilpdaaGreatDoor.Is (RowI)
set_option maxRecDepth 100000 in
set_option maxHeartbeats 1600000 in
/-- THE WALK: both functions answer alike; nothing that was handed in is written. -/
theorem walk (n : Int) {q0 : Prop} (_z0 : q0) (g : Gg) (vn vs : Value) (ns : List Int) (ks : List Ks) (w : World) (zg : g.nm.size ≤ maxLen) (hn : RowI w vn ns) (zn : ns.length ≤ maxLen) (hk : Row w vs ks) (zk : ks.length ≤ maxLen) (hm : ∀ x ∈ ks, Tz maxLen x) (hT : PTab w ∧ (KTab w ∧ 0 < w.heap.size)) :
    Calls Tryz.prog 5 #[.int .i64 n, crV g vn vs] w fun e w' => e = .returned (.bool true) ∧ Below w.heap.size w w' := by
  have HSZ : Hid (∀ W, Below w.heap.size w W → Calls Tryz.prog 25 #[crV g vn vs, .int .i64 (1048576 : Nat)] W fun e w' => (∃ r : Int, e = .returned (.int .i64 r) ∧ (¬ r < 0 → ns.length ≤ 1048576 ∧ ks.length ≤ 1048576 ∧ ∀ x ∈ ks, Tz 1048576 x)) ∧ Below W.heap.size W w') := fun W hW => szC_any g vn vs ns ks W (hn.below hW) (hk.below hW) zg zn zk hm
  have HTO0 : Hid (ns.length ≤ 1048576 ∧ ks.length ≤ 1048576 ∧ (∀ x ∈ ks, Tz 1048576 x) → ∀ W, Below w.heap.size w W → Calls Tryz.prog 26 #[crV g vn vs] W fun e w' => ∃ a1 k1 a2 k2, e = .returned (.agg #[.string g.nm, .int .i64 g.hd, .int .i64 g.tk, .int .i64 g.ex, .slice a1 ns.length k1, .slice a2 ks.length k2]) ∧ RowI w' (.slice a1 ns.length k1) ns ∧ Row w' (.slice a2 ks.length k2) ks ∧ Below W.heap.size W w') := fun hz W hW => (toC_any g vn vs ns ks W (hn.below hW) (hk.below hW) hz.1 hz.2.1 hz.2.2).mono fun e w' ⟨un, us, h1, h2, h3, h4⟩ => by
    obtain ⟨a1, k1, e1, r1⟩ := h2
    obtain ⟨a2, k2, e2⟩ := Rg.RowG.slice h3
    subst e1 e2
    exact ⟨a1, k1, a2, k2, h1, ⟨a1, k1, rfl, r1⟩, h3, h4⟩
  obtain ⟨cd, HCD⟩ : ∃ cd, Hid (ckC n g ns ks = cd) := ⟨_, rfl⟩
  have HSP0 : Hid (ns.length ≤ 1048576 ∧ ks.length ≤ 1048576 ∧ (∀ x ∈ ks, Tz 1048576 x) → ∀ W (un us : Value), RowI W un ns → Row W us ks → Calls Tryz.prog 15 #[.int .i64 n, crV g un us] W fun e w' => e = .returned (.int .i64 cd) ∧ Below W.heap.size W w') := fun hz W un us h1 h2 => by
    have := specCheckCertificate_any n g un us ns ks W h1 h2 zg hz.1 hz.2.1 hm
    rwa [HCD.out] at this
  have HIM0 : Hid (ns.length ≤ 1048576 ∧ ks.length ≤ 1048576 ∧ (∀ x ∈ ks, Tz 1048576 x) → ∀ W (un us : Value), Below w.heap.size w W → RowI W un ns → Row W us ks → Calls Tryz.prog 9 #[.int .i64 n, crV g un us] W fun e w' => e = .returned (.int .i64 cd) ∧ Below W.heap.size W w') := fun hz W un us hW h1 h2 => by
    have := implCheckCertificate_any n g un us ns ks W h1 h2 zg hz.1 hz.2.1 hm (hT.1.below hW) (hT.2.1.below hW hT.2.2) (Nat.lt_of_lt_of_le hT.2.2 hW.size)
    rwa [HCD.out] at this
  obtain ⟨an, kn, rfl, _⟩ := hn
  obtain ⟨ak, kk, rfl⟩ := Rg.RowG.slice hk
  clear hk zg zn zk hm hT HCD
  have HX : Hid (∀ W, Below (w.alloc (.cells #[.string g.nm, .int .i64 g.hd, .int .i64 g.tk, .int .i64 g.ex, .slice an ns.length kn, .slice ak ks.length kk] 56)).heap.size (w.alloc (.cells #[.string g.nm, .int .i64 g.hd, .int .i64 g.tk, .int .i64 g.ex, .slice an ns.length kn, .slice ak ks.length kk] 56)) W → (W.cell? ⟨w.heap.size, 0, none⟩ = some (.string g.nm) ∧ W.cell? ⟨w.heap.size, 1, none⟩ = some (.int .i64 g.hd) ∧ W.cell? ⟨w.heap.size, 2, none⟩ = some (.int .i64 g.tk) ∧ W.cell? ⟨w.heap.size, 3, none⟩ = some (.int .i64 g.ex) ∧ W.cell? ⟨w.heap.size, 4, none⟩ = some (.slice an ns.length kn) ∧ W.cell? ⟨w.heap.size, 5, none⟩ = some (.slice ak ks.length kk)) ∧ Below w.heap.size w W) := fun W hW => by
    have h1 := (hW.block w.heap.size (by simp)).trans (heap_alloc_new w _)
    exact ⟨⟨by simp [World.cell?, h1], by simp [World.cell?, h1], by simp [World.cell?, h1], by simp [World.cell?, h1], by simp [World.cell?, h1], by simp [World.cell?, h1]⟩, (Rg.bel_new w _).trans (hW.mono (by simp))⟩
  unfold crV at HSZ HTO0 HSP0 HIM0 ⊢
  go_enter Tryz.func5, Tryz.ntmps5
  go_upto_region 1 with fail
  generalize w.alloc (.cells #[.string g.nm, .int .i64 g.hd, .int .i64 g.tk, .int .i64 g.ex, .slice an ns.length kn, .slice ak ks.length kk] 56) = wb at HX ⊢
  obtain ⟨⟨c0, c1, c2, c3, c4, c5⟩, g0⟩ := HX.out wb (Below.refl _ _)
  have HSZ1 := HSZ.out wb g0
  clear g0 HSZ
  go_wp2_with fail
  refine HSZ1.mono ?_
  rintro e w1 ⟨⟨r, rfl, hr⟩, b1⟩
  have B1 : Hid (Below wb.heap.size wb w1) := b1
  have HM : Hid (¬ r < 0 → ns.length ≤ 1048576 ∧ ks.length ≤ 1048576 ∧ ∀ x ∈ ks, Tz 1048576 x) := fun hh => hr (by omega)
  have G1 : Hid (Below w.heap.size w w1) := (HX.out _ b1).2
  clear b1 hr HSZ1 c0 c1 c2 c3 c4 c5
  by_cases hneg : r < 0
  · go_wp2_with fail
    go_ret
    exact ⟨rfl, G1.out⟩
  have HZ : Hid (ns.length ≤ 1048576 ∧ ks.length ≤ 1048576 ∧ ∀ x ∈ ks, Tz 1048576 x) := HM.out hneg
  have HTO : Hid (∀ W, Below w.heap.size w W → Calls Tryz.prog 26 #[.agg #[.string g.nm, .int .i64 g.hd, .int .i64 g.tk, .int .i64 g.ex, .slice an ns.length kn, .slice ak ks.length kk]] W fun e w' => ∃ a1 k1 a2 k2, e = .returned (.agg #[.string g.nm, .int .i64 g.hd, .int .i64 g.tk, .int .i64 g.ex, .slice a1 ns.length k1, .slice a2 ks.length k2]) ∧ RowI w' (.slice a1 ns.length k1) ns ∧ Row w' (.slice a2 ks.length k2) ks ∧ Below W.heap.size W w') := HTO0.out HZ.out
  have HSP : Hid _ := HSP0.out HZ.out
  have HIM : Hid _ := HIM0.out HZ.out
  clear HTO0 HSP0 HIM0 HM
  obtain ⟨⟨c0, c1, c2, c3, c4, c5⟩, _⟩ := HX.out w1 B1.out
  go_wp2_with fail
  refine (HTO.out _ G1.out).mono ?_
  rintro e w2 ⟨a1, k1, a2, k2, rfl, rn, rk, b2⟩
  have B2 : Hid (Below wb.heap.size wb w2) := B1.out.trans (b2.mono B1.out.size)
  have HSP1 := HSP.out w2 _ _ rn rk
  clear b2 rn rk c0 c1 c2 c3 c4 c5 HSP
  go_wp2_with fail
  refine HSP1.mono ?_
  rintro e w3 ⟨rfl, b3⟩
  have B3 : Hid (Below wb.heap.size wb w3) := B2.out.trans (b3.mono B2.out.size)
  have G3 : Hid (Below w.heap.size w w3) := (HX.out _ B3.out).2
  clear b3 HSP1
  obtain ⟨⟨c0, c1, c2, c3, c4, c5⟩, _⟩ := HX.out w3 B3.out
  go_wp2_with fail
  refine (HTO.out _ G3.out).mono ?_
  rintro e w4 ⟨a1, k1, a2, k2, rfl, rn, rk, b4⟩
  have B4 : Hid (Below wb.heap.size wb w4) := B3.out.trans (b4.mono B3.out.size)
  have T4 : Hid (Below w4.heap.size w4 (w4.alloc (.cells #[.string g.nm, .int .i64 g.hd, .int .i64 g.tk, .int .i64 g.ex, .slice a1 ns.length k1, .slice a2 ks.length k2] 31))) := Rg.bel_new _ _
  have G4 : Hid (Below w.heap.size w (w4.alloc (.cells #[.string g.nm, .int .i64 g.hd, .int .i64 g.tk, .int .i64 g.ex, .slice a1 ns.length k1, .slice a2 ks.length k2] 31))) := (HX.out _ (B4.out.trans (T4.out.mono B4.out.size))).2
  have HIM1 := HIM.out (w4.alloc (.cells #[.string g.nm, .int .i64 g.hd, .int .i64 g.tk, .int .i64 g.ex, .slice a1 ns.length k1, .slice a2 ks.length k2] 31)) _ _ G4.out (rn.below T4.out) (rk.below T4.out)
  have R4 : Hid (RowI w4 (.slice a1 ns.length k1) ns ∧ Row w4 (.slice a2 ks.length k2) ks) := ⟨rn, rk⟩
  clear b4 rn rk c0 c1 c2 c3 c4 c5 HIM
  go_wp2_with fail
  refine HIM1.mono ?_
  rintro e w5 ⟨rfl, b5⟩
  have HQ : Hid (∀ W, Below w5.heap.size w5 W → ((W.cell? ⟨w.heap.size, 0, none⟩ = some (.string g.nm) ∧ W.cell? ⟨w.heap.size, 1, none⟩ = some (.int .i64 g.hd) ∧ W.cell? ⟨w.heap.size, 2, none⟩ = some (.int .i64 g.tk) ∧ W.cell? ⟨w.heap.size, 3, none⟩ = some (.int .i64 g.ex) ∧ W.cell? ⟨w.heap.size, 4, none⟩ = some (.slice an ns.length kn) ∧ W.cell? ⟨w.heap.size, 5, none⟩ = some (.slice ak ks.length kk)) ∧ (W.cell? ⟨w4.heap.size, 0, none⟩ = some (.string g.nm) ∧ W.cell? ⟨w4.heap.size, 1, none⟩ = some (.int .i64 g.hd) ∧ W.cell? ⟨w4.heap.size, 2, none⟩ = some (.int .i64 g.tk) ∧ W.cell? ⟨w4.heap.size, 3, none⟩ = some (.int .i64 g.ex) ∧ W.cell? ⟨w4.heap.size, 4, none⟩ = some (.slice a1 ns.length k1) ∧ W.cell? ⟨w4.heap.size, 5, none⟩ = some (.slice a2 ks.length k2))) ∧ (RowI W (.slice a1 ns.length k1) ns ∧ Row W (.slice a2 ks.length k2) ks) ∧ Below w.heap.size w W) := fun W hW => by
    have b6 : Below (w4.alloc (.cells #[.string g.nm, .int .i64 g.hd, .int .i64 g.tk, .int .i64 g.ex, .slice a1 ns.length k1, .slice a2 ks.length k2] 31)).heap.size (w4.alloc (.cells #[.string g.nm, .int .i64 g.hd, .int .i64 g.tk, .int .i64 g.ex, .slice a1 ns.length k1, .slice a2 ks.length k2] 31)) W := b5.trans (hW.mono b5.size)
    have h1 := (b6.block w4.heap.size (by simp)).trans (heap_alloc_new w4 _)
    have hx := HX.out W ((B4.out.trans (T4.out.mono B4.out.size)).trans (b6.mono (by have := (B4.out.trans (T4.out.mono B4.out.size)).size; exact this)))
    exact ⟨⟨hx.1, ⟨by simp [World.cell?, h1], by simp [World.cell?, h1], by simp [World.cell?, h1], by simp [World.cell?, h1], by simp [World.cell?, h1], by simp [World.cell?, h1]⟩⟩, ⟨(R4.out.1.below T4.out).below b6, (R4.out.2.below T4.out).below b6⟩, hx.2⟩
  clear b5 HIM1
  obtain ⟨⟨⟨c0, c1, c2, c3, c4, c5⟩, ⟨d0, d1, d2, d3, d4, d5⟩⟩, _, _⟩ := HQ.out w5 (Below.refl _ _)
  have hcd : (cd != cd) = false := by simp
  have HT5 : Hid (Calls Tryz.prog 26 #[.agg #[.string g.nm, .int .i64 g.hd, .int .i64 g.tk, .int .i64 g.ex, .slice an ns.length kn, .slice ak ks.length kk]] w5.drew fun e w' => ∃ b1 l1 b2 l2, e = .returned (.agg #[.string g.nm, .int .i64 g.hd, .int .i64 g.tk, .int .i64 g.ex, .slice b1 ns.length l1, .slice b2 ks.length l2]) ∧ RowI w' (.slice b1 ns.length l1) ns ∧ Row w' (.slice b2 ks.length l2) ks ∧ Below w5.heap.size w5 w') := by
    have G0 : Below w5.heap.size w5 w5.drew := (Below.refl _ _).drew
    exact (HTO.out _ (HQ.out _ G0).2.2).mono fun e w' ⟨b1, l1, b2, l2, h1, h2, h3, h4⟩ => ⟨b1, l1, b2, l2, h1, h2, h3, G0.trans (h4.mono G0.size)⟩
  have HEQ : Hid (∀ W (b1 : Option Addr) (l1 : Nat) (b2 : Option Addr) (l2 : Nat), Below w5.heap.size w5 W → RowI W (.slice b1 ns.length l1) ns → Row W (.slice b2 ks.length l2) ks → Calls Tryz.prog 20 #[.agg #[.string g.nm, .int .i64 g.hd, .int .i64 g.tk, .int .i64 g.ex, .slice a1 ns.length k1, .slice a2 ks.length k2], .agg #[.string g.nm, .int .i64 g.hd, .int .i64 g.tk, .int .i64 g.ex, .slice b1 ns.length l1, .slice b2 ks.length l2]] W fun e w' => e = .returned (.bool true) ∧ Below w.heap.size w w') := fun W b1 l1 b2 l2 hW h1 h2 => by
    have hq := HQ.out W hW
    exact (eqC_same g _ _ _ _ ns ks W hq.2.1.1 hq.2.1.2 h1 h2 HZ.out.1 HZ.out.2.1 (fun x hx => (HZ.out.2.2 x hx).1)).mono fun e w' ⟨h3, h4⟩ => ⟨h3, hq.2.2.trans (h4.mono hq.2.2.size)⟩
  clear HTO
  go_wp2_with fail
  go_region_law (first
    | (go_simp; go_at_call 26; refine HT5.out.mono ?_; rintro e w6 ⟨b1, l1, b2, l2, rfl, r6, q6, g6⟩; obtain ⟨⟨⟨c0, c1, c2, c3, c4, c5⟩, ⟨d0, d1, d2, d3, d4, d5⟩⟩, _, _⟩ := HQ.out w6 g6; try go_simp)
    | (go_simp; go_at_call 20; refine (HEQ.out _ _ _ _ _ g6 r6 q6).mono ?_; rintro e w7 ⟨rfl, h7⟩; try go_simp))
  all_goals
    go_wp2_with fail
    go_ret
    exact ⟨rfl, h7⟩

set_option maxRecDepth 100000 in
theorem lifted (os : Os) (started : os.Started) (H : Type) (enc : TypeId × Value → H) :
    ReturnsInHanded {} Tryz.checked os 5 .any (fun w args => (Rows.fnExactCheckCertificateSpec.pre enc Tryz.prog Tryz.f5 [] false w args ∧ laidMetH Tryz.prog Rows.fnExactCheckCertificateRow.laid w) ∧ sizedMet enc Tryz.prog Tryz.f5 (OpenSpec.ofChange Rows.fnExactCheckCertificateSpec) false w args)
      (Rows.fnExactCheckCertificateSpec.post enc Tryz.prog Tryz.f5 false true false false) := by
  refine returnsInHanded_of_change_and (C := Tryz.checked) (X := fun w _ => laidMetH Tryz.prog Rows.fnExactCheckCertificateRow.laid w) (fun _ _ _ hh h => h.of_heap hh) own started (by kernel_rfl) Tryz.func5
    (ChangeSpec.witness_shaped (enc := enc) (C := Tryz.checked) (os := os) (X := fun w _ => laidMetH Tryz.prog Rows.fnExactCheckCertificateRow.laid w) false (World.doorLaid Tryz.prog 400 os) #[.int .i64 0, .agg #[.string ByteArray.empty, .int .i64 0, .int .i64 0, .int .i64 0, .slice none 0 0, .slice none 0 0]] 8 rfl (World.shaped_of_RefB (by kernel_rfl) (by kernel_rfl)) (by kernel_rfl) (by kernel_rfl) (by kernel_rfl) (door_met os _)) ?_
  intro W base args ds gs before hval0 hW _ _ hL _
  have hval : ∀ (j : Nat) t v, Tryz.f5.params[j]? = some t → args[j]? = some v → Value.okWide Tryz.prog W .any base t v := hval0
  have hW' := hW
  obtain ⟨p, q, hA0, hV0, rfl, hfz, hnd⟩ := hW
  have hA : DataW.TrodAll enc Tryz.prog W 0 (fun _ => true) true Tryz.f5.params.toList args.toList ds p := hA0
  have hV : DataW.TrodVars enc Tryz.prog W (fun _ => true) ["loop.example/g00292/impl.roundWords"] gs q := hV0
  rw [Tryz.params5] at hA hval
  obtain ⟨v0, vs0, d0, ds0, p0, q0, hargs, rfl, rfl, h0, r0⟩ := trodAll_cons hA
  obtain ⟨v1, vs1, d1, ds1, p1, q1, rfl, rfl, rfl, h1, r1⟩ := trodAll_cons r0
  obtain ⟨rfl, rfl, rfl⟩ := trodAll_nil r1
  obtain rfl : args = #[v0, v1] := by cases args; simp_all
  obtain ⟨_, _, _, _, dv, _, rfl, _⟩ := trodVars_one hV
  have k00 := h0
  have lt0 : ∀ x ∈ p0, x.block < W.heap.size := by obtain ⟨m, hm⟩ := k00; exact DataW.trod_lt m _ _ _ hm
  obtain ⟨i0, rfl, rfl, rfl, z0⟩ := open_int Tryz.underlying3 (hval 0 3 v0 rfl rfl) h0
  have k10 := h1
  have lt1 : ∀ x ∈ p1, x.block < W.heap.size := by obtain ⟨m, hm⟩ := k10; exact DataW.trod_lt m _ _ _ hm
  obtain ⟨g1, vn1, vs1, ns1, ks1, rfl, zg1, hn1, zn1, hk1, zk1, hm1⟩ := Op.open_certificate (hval 1 56 v1 rfl rfl) h1 (fun _ => rfl)
  clear hA0 hval0 hV0
  have hT := Hl.tab_of hL
  refine (walk i0 z0 g1 vn1 vs1 ns1 ks1 W zg1 hn1 zn1 hk1 zk1 hm1 hT).mono fun e W' ⟨he, bel⟩ => ?_
  subst he
  exact ⟨_, rfl, _, _, _, [], _, q, hW', trodAll_mk1 (shut_bool Tryz.underlying4 _), (trodAll_cons_mk (Below.trod laidOut (by kernel_rfl) (of_decide_eq_true (by kernel_rfl)) k00 bel lt0) (trodAll_cons_mk (Below.trod laidOut (by kernel_rfl) (of_decide_eq_true (by kernel_rfl)) k10 bel lt1) trodAll_mk0)), Below.trodVars laidOut bel rowed hV, bel.frame _, fun h => by cases h⟩

theorem said : Rows.FnExactCheckCertificateSaid :=
  OpenClaim.holds_of_wide 5 Tryz.f5 rfl rfl rfl rfl rfl rfl rfl ⟨rfl, rfl, rfl, rfl, rfl⟩ rfl rfl rfl rfl rfl (by kernel_rfl) Tryz.func5 (by kernel_rfl)
    (of_decide_eq_true (by kernel_rfl)) (by unfold Func.isWrapper; first | (rw [if_pos (by decide +kernel)]; kernel_rfl) | (rw [if_neg (by decide +kernel)]; exact ⟨rfl, rfl⟩))
    (fun os started H enc _ => lifted os started H enc)

/-- No parameter wants a stand-in; the program's own looks are off. -/
theorem plain (f : FuncId) (fn : Func) (hf : Tryz.pinned.checked.prog.funcNamed "loop.example/g00292/laws.FnExactCheckCertificate" = some f) (hfn : Tryz.pinned.checked.prog.funcs[f]? = some fn) :
    false = Tryz.pinned.checked.prog.looks [] ∧ ∀ (j : Nat) t, fn.params[j]? = some t → Tryz.pinned.checked.prog.wantsStandIn t = false := by
  obtain rfl : f = 5 := Option.some.inj ((show Tryz.prog.funcNamed "loop.example/g00292/laws.FnExactCheckCertificate" = some 5 by kernel_rfl).symm.trans hf) |>.symm
  obtain rfl : fn = Tryz.f5 := (Option.some.inj (Tryz.func5.symm.trans hfn)).symm
  refine ⟨by kernel_rfl, fun j t ht => ?_⟩
  rw [Tryz.params5] at ht
  have hm := Array.mem_of_getElem? ht
  have hl : t ∈ [3, 56] := by simpa using hm
  have hall : ∀ x ∈ [3, 56], Tryz.prog.wantsStandIn x = false := by
    intro x hx
    simp only [List.mem_cons, List.not_mem_nil, or_false] at hx
    rcases hx with rfl | rfl <;> kernel_rfl
  exact hall t hl
end Go.Proofs.YtimmeclclilpdaaGreatDoor.fnExactCheckCertificate
namespace Go.Proofs.YtimmeclclilpdaaGreatDoor
/-- THE STATEMENT: the card. -/
theorem fnExactCheckCertificate_holds : Rows.FnExactCheckCertificateCardSaid :=
  Claim7.holds_tied_plain_at .later [] _ _ _ _ fnExactCheckCertificate.said (fun _ h => by cases h) (by kernel_rfl) (fun _ h => by cases h) fnExactCheckCertificate_row_tie rfl ⟨rfl, rfl⟩ (by kernel_rfl) rfl fnExactCheckCertificate.plain (by kernel_rfl)
end Go.Proofs.YtimmeclclilpdaaGreatDoor
