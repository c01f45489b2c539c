/- Texts put together: Zh, Yi. -/
import Derived.Test.YtondmbeccpekiaaGreatDoorH41
import Derived.Test.YtondmbeccpekiaaGreatDoorH39
/- Right groups: the program's GroupOK. -/
namespace Go.Proofs.YtondmbeccpekiaaGreatDoor.Zg
open Go.RowKit Go.Proofs.YtondmbeccpekiaaGreatDoor.Rg Go.Proofs.YtondmbeccpekiaaGreatDoor.Gm Go.Proofs.YtondmbeccpekiaaGreatDoor.Ty Go.Proofs.YtondmbeccpekiaaGreatDoor.Tm Go.Proofs.YtondmbeccpekiaaGreatDoor.Sh Go.Proofs.YtondmbeccpekiaaGreatDoor.Yr
open Go.Proofs.YtondmbeccpekiaaGreatDoor.Vt (bOf bOf_true bOf_false bOf_iff bOf_eq sg)
open Go.Proofs.YtondmbeccpekiaaGreatDoor.Qm (qOut inB)

theorem pc_iff {n : Int} {x : Pc} (hf : fCode n = 0) : PcP n x ↔ (okN x.t n && sg n x.m) = true := by
  rw [Bool.and_eq_true, okN_iff]
  exact ⟨fun h => ⟨⟨hf, h.1⟩, h.2⟩, fun h => ⟨h.1.2, h.2⟩⟩
set_option maxRecDepth 100000 in
set_option maxHeartbeats 3200000 in
theorem indexP_any (n : Int) (v : Value) (xs : List Pc) (p : Nat) (w : World) (h : RowP w v xs) (hl : xs.length ≤ 1048576) (hc : w.cell? ⟨p, 0, none⟩ = some (.int .i64 n)) (hK : KTab w) (hp : 0 < w.heap.size) :
    Calls Tryz.prog 77 #[v, .func (Fn.func 35) #[] #[.pointer (some ⟨p, 0, none⟩)]] w fun e w' => (∃ i : Int, e = .returned (.int .i64 i) ∧ decide (0 ≤ i) = !(bOf (∀ x ∈ xs, (okN x.t n && sg n x.m) = true))) ∧ Below w.heap.size w w' := by
  have hpl : p < w.heap.size := World.block_lt_of_cell? w _ hc
  have HR : Hid (RowP w v xs) := h
  obtain ⟨a, cap, rfl⟩ := RowG.slice h
  have GK : Hid (∀ W, Below w.heap.size w W → KTab W ∧ 0 < W.heap.size) := fun W hW => ⟨hK.below hW hp, Nat.lt_of_lt_of_le hp hW.size⟩
  have HC : Hid (∀ W, Below w.heap.size w W → W.cell? ⟨p, 0, none⟩ = some (.int .i64 n)) := fun W hW => (hW.cell (p := ⟨p, 0, none⟩) hpl).trans hc
  clear h hK hp hc hpl
  obtain ⟨bb, HBB⟩ : ∃ bb, Hid (bOf (∀ x ∈ xs, (okN x.t n && sg n x.m) = true) = bb) := ⟨_, rfl⟩
  rw [HBB.out]
  go_enter Tryz.func77, Tryz.ntmps77
  go_wp2_with fail
  go_loopw [8] (fun i wr => ∃ k : Nat, k ≤ xs.length ∧ i = .int .i64 k ∧ Hid ((∀ j x, j < k → xs[j]? = some x → (okN x.t n && sg n x.m) = true) ∧ Below w.heap.size w wr)) (fun i _ => xs.length - (intOf i).toNat)
  case atStart => exact ⟨0, by omega, rfl, ⟨fun j x hj => by omega, Below.refl _ _⟩⟩
  case round =>
    obtain ⟨k, hk, rfl, HZ⟩ := hrel
    by_cases hlt : k < xs.length
    · obtain ⟨x, hx⟩ := Rg.get_at hlt
      obtain ⟨b, off, rfl, hbl, c0, c1, c2, c3, c4, c5, c6, c7⟩ := RowG.at (HR.out.below HZ.out.2) rfl hx
      have HB := badParcel_any n x p wr (HC.out wr HZ.out.2) (GK.out wr HZ.out.2).1 (GK.out wr HZ.out.2).2
      have HX : Hid (xs[k]? = some x) := hx
      clear hx
      by_cases hgood : (okN x.t n && sg n x.m) = true
      · have hg1 : (okN x.t n && sg n x.m) = true := by exact hgood
        have HU : Hid (∀ j x, j < k + 1 → xs[j]? = some x → (okN x.t n && sg n x.m) = true) := upto_succ (P := fun (_ : Nat) (x : Pc) => (okN x.t n && sg n x.m) = true) HZ.out.1 HX.out hgood
        rw [hg1] at HB
        clear hgood hg1
        go_wp2_with fail
        refine HB.mono ?_
        rintro e w2 ⟨rfl, b2⟩
        have G2 : Hid (Below w.heap.size w w2) := HZ.out.2.trans (b2.mono HZ.out.2.size)
        clear b2 HB
        go_wp2_with fail
        exact ⟨⟨k + 1, by omega, by go_num, ⟨HU.out, G2.out⟩⟩, by simp [intOf]; omega⟩
      · have hg1 : (okN x.t n && sg n x.m) = false := by cases hh : (okN x.t n && sg n x.m) with | false => rfl | true => exact absurd hh hgood
        have HF : Hid (bb = false) := by show _ = _; rw [← HBB.out]; exact bOf_false fun hh => hgood (hh x (mem_at HX.out))
        rw [hg1] at HB
        clear hgood hg1
        go_wp2_with fail
        refine HB.mono ?_
        rintro e w2 ⟨rfl, b2⟩
        have G2 : Hid (Below w.heap.size w w2) := HZ.out.2.trans (b2.mono HZ.out.2.size)
        clear b2 HB
        go_wp2_with fail
        go_ret
        exact ⟨⟨_, rfl, by rw [HF.out]; simp⟩, G2.out⟩
    · obtain rfl : k = xs.length := by omega
      have HT : Hid (bb = true) := by show _ = _; rw [← HBB.out]; exact bOf_true (all_of HZ.out.1)
      go_wp2_with fail
      go_ret
      exact ⟨⟨_, rfl, by rw [HT.out]; rfl⟩, HZ.out.2⟩
set_option maxRecDepth 100000 in
set_option maxHeartbeats 3200000 in
theorem containsP_any (n : Int) (v : Value) (xs : List Pc) (p : Nat) (w : World) (h : RowP w v xs) (hl : xs.length ≤ 1048576) (hc : w.cell? ⟨p, 0, none⟩ = some (.int .i64 n)) (hK : KTab w) (hp : 0 < w.heap.size) :
    Calls Tryz.prog 41 #[v, .func (Fn.func 35) #[] #[.pointer (some ⟨p, 0, none⟩)]] w fun e w' => e = .returned (.bool (!(bOf (∀ x ∈ xs, (okN x.t n && sg n x.m) = true)))) ∧ Below w.heap.size w w' := by
  have HI := indexP_any n v xs p w h hl hc hK hp
  clear h hK hp hc
  generalize bOf (∀ x ∈ xs, (okN x.t n && sg n x.m) = true) = bb at HI
  go_enter Tryz.func41, Tryz.ntmps41
  go_wp2_with fail
  refine HI.mono ?_
  rintro e w2 ⟨⟨i, rfl, hi⟩, b2⟩
  cases bb with
  | false =>
    have hi0 : (0 : Int) ≤ i := by simpa using hi
    have B2 : Hid (Below w.heap.size w w2) := b2
    clear hi b2 HI
    go_wp2_with fail
    go_ret
    exact ⟨rfl, B2.out⟩
  | true =>
    have HD : Hid (decide ((0 : Int) ≤ i) = false) := hi
    have hi0 : ¬ (0 : Int) ≤ i := by simpa using hi
    have B2 : Hid (Below w.heap.size w w2) := b2
    clear hi b2 HI
    go_wp2_with fail
    go_ret
    exact ⟨by show Ending.returned (.bool (decide ((0 : Int) ≤ i))) = _; rw [HD.out]; rfl, B2.out⟩
set_option maxRecDepth 100000 in
set_option maxHeartbeats 3200000 in
theorem indexM_any (n : Int) (v : Value) (xs : List Mg) (p : Nat) (w : World) (h : Row w v xs) (hl : xs.length ≤ 1048576) (hc : w.cell? ⟨p, 0, none⟩ = some (.int .i64 n)) (hK : KTab w) (hp : 0 < w.heap.size) :
    Calls Tryz.prog 78 #[v, .func (Fn.func 38) #[] #[.pointer (some ⟨p, 0, none⟩)]] w fun e w' => (∃ i : Int, e = .returned (.int .i64 i) ∧ decide (0 ≤ i) = !(bOf (∀ x ∈ xs, sg n x = true))) ∧ Below w.heap.size w w' := by
  have hpl : p < w.heap.size := World.block_lt_of_cell? w _ hc
  have HR : Hid (Row w v xs) := h
  obtain ⟨a, cap, rfl⟩ := RowG.slice h
  have GK : Hid (∀ W, Below w.heap.size w W → KTab W ∧ 0 < W.heap.size) := fun W hW => ⟨hK.below hW hp, Nat.lt_of_lt_of_le hp hW.size⟩
  have HC : Hid (∀ W, Below w.heap.size w W → W.cell? ⟨p, 0, none⟩ = some (.int .i64 n)) := fun W hW => (hW.cell (p := ⟨p, 0, none⟩) hpl).trans hc
  clear h hK hp hc hpl
  obtain ⟨bb, HBB⟩ : ∃ bb, Hid (bOf (∀ x ∈ xs, sg n x = true) = bb) := ⟨_, rfl⟩
  rw [HBB.out]
  go_enter Tryz.func78, Tryz.ntmps78
  go_wp2_with fail
  go_loopw [8] (fun i wr => ∃ k : Nat, k ≤ xs.length ∧ i = .int .i64 k ∧ Hid ((∀ j x, j < k → xs[j]? = some x → sg n x = true) ∧ Below w.heap.size w wr)) (fun i _ => xs.length - (intOf i).toNat)
  case atStart => exact ⟨0, by omega, rfl, ⟨fun j x hj => by omega, Below.refl _ _⟩⟩
  case round =>
    obtain ⟨k, hk, rfl, HZ⟩ := hrel
    by_cases hlt : k < xs.length
    · obtain ⟨x, hx⟩ := Rg.get_at hlt
      obtain ⟨b, off, rfl, hbl, c0, c1, c2, c3, c4, c5, c6⟩ := RowG.at (HR.out.below HZ.out.2) rfl hx
      have HB := badMessage_any n x p wr (HC.out wr HZ.out.2) (GK.out wr HZ.out.2).1 (GK.out wr HZ.out.2).2
      have HX : Hid (xs[k]? = some x) := hx
      clear hx
      by_cases hgood : sg n x = true
      · have hg1 : sg n x = true := by exact hgood
        have HU : Hid (∀ j x, j < k + 1 → xs[j]? = some x → sg n x = true) := upto_succ (P := fun (_ : Nat) (x : Mg) => sg n x = true) HZ.out.1 HX.out hgood
        rw [hg1] at HB
        clear hgood hg1
        go_wp2_with fail
        refine HB.mono ?_
        rintro e w2 ⟨rfl, b2⟩
        have G2 : Hid (Below w.heap.size w w2) := HZ.out.2.trans (b2.mono HZ.out.2.size)
        clear b2 HB
        go_wp2_with fail
        exact ⟨⟨k + 1, by omega, by go_num, ⟨HU.out, G2.out⟩⟩, by simp [intOf]; omega⟩
      · have hg1 : sg n x = false := by cases hh : sg n x with | false => rfl | true => exact absurd hh hgood
        have HF : Hid (bb = false) := by show _ = _; rw [← HBB.out]; exact bOf_false fun hh => hgood (hh x (mem_at HX.out))
        rw [hg1] at HB
        clear hgood hg1
        go_wp2_with fail
        refine HB.mono ?_
        rintro e w2 ⟨rfl, b2⟩
        have G2 : Hid (Below w.heap.size w w2) := HZ.out.2.trans (b2.mono HZ.out.2.size)
        clear b2 HB
        go_wp2_with fail
        go_ret
        exact ⟨⟨_, rfl, by rw [HF.out]; simp⟩, G2.out⟩
    · obtain rfl : k = xs.length := by omega
      have HT : Hid (bb = true) := by show _ = _; rw [← HBB.out]; exact bOf_true (all_of HZ.out.1)
      go_wp2_with fail
      go_ret
      exact ⟨⟨_, rfl, by rw [HT.out]; rfl⟩, HZ.out.2⟩
set_option maxRecDepth 100000 in
set_option maxHeartbeats 3200000 in
theorem containsM_any (n : Int) (v : Value) (xs : List Mg) (p : Nat) (w : World) (h : Row w v xs) (hl : xs.length ≤ 1048576) (hc : w.cell? ⟨p, 0, none⟩ = some (.int .i64 n)) (hK : KTab w) (hp : 0 < w.heap.size) :
    Calls Tryz.prog 42 #[v, .func (Fn.func 38) #[] #[.pointer (some ⟨p, 0, none⟩)]] w fun e w' => e = .returned (.bool (!(bOf (∀ x ∈ xs, sg n x = true)))) ∧ Below w.heap.size w w' := by
  have HI := indexM_any n v xs p w h hl hc hK hp
  clear h hK hp hc
  generalize bOf (∀ x ∈ xs, sg n x = true) = bb at HI
  go_enter Tryz.func42, Tryz.ntmps42
  go_wp2_with fail
  refine HI.mono ?_
  rintro e w2 ⟨⟨i, rfl, hi⟩, b2⟩
  cases bb with
  | false =>
    have hi0 : (0 : Int) ≤ i := by simpa using hi
    have B2 : Hid (Below w.heap.size w w2) := b2
    clear hi b2 HI
    go_wp2_with fail
    go_ret
    exact ⟨rfl, B2.out⟩
  | true =>
    have HD : Hid (decide ((0 : Int) ≤ i) = false) := hi
    have hi0 : ¬ (0 : Int) ≤ i := by simpa using hi
    have B2 : Hid (Below w.heap.size w w2) := b2
    clear hi b2 HI
    go_wp2_with fail
    go_ret
    exact ⟨by show Ending.returned (.bool (decide ((0 : Int) ≤ i))) = _; rw [HD.out]; rfl, B2.out⟩
theorem wi_eq {n : Int} {wi : List Pc} (hf : fCode n = 0) : bOf (∀ x ∈ wi, (okN x.t n && sg n x.m) = true) = wiB n wi := by
  by_cases h : ∀ x ∈ wi, PcP n x
  · unfold wiB; rw [bOf_true h]; exact bOf_true fun x hx => (pc_iff hf).1 (h x hx)
  · unfold wiB; rw [bOf_false h]; exact bOf_false fun hh => h fun x hx => (pc_iff hf).2 (hh x hx)
set_option maxRecDepth 100000 in
set_option maxHeartbeats 3200000 in
theorem implGroupOK_any (g : Gp) (vf vr vw vs : Value) (w : World) (h : GrpR w g vf vr vw vs) (hz : Zq 1048576 g) (hK : KTab w) (hp : 0 < w.heap.size) :
    Calls Tryz.prog 10 #[.agg #[.int .i64 g.n, vf, vr, vw, vs]] w fun e w' => e = .returned (.bool (grpB g)) ∧ Below w.heap.size w w' := by
  have HR : Hid (GrpR w g vf vr vw vs) := h
  have HZ : Hid (Zq 1048576 g) := hz
  obtain ⟨af, kf, rfl⟩ := RowG.slice h.f
  obtain ⟨ar, kr, rfl⟩ := RowG.slice h.r
  obtain ⟨aw, kw, rfl⟩ := RowG.slice h.p
  obtain ⟨az, kz, rfl⟩ := RowG.slice h.s
  have GK : Hid (∀ W, Below w.heap.size w W → KTab W ∧ 0 < W.heap.size) := fun W hW => ⟨hK.below hW hp, Nat.lt_of_lt_of_le hp hW.size⟩
  have HP : Hid (∀ W, Below (w.alloc (.cells #[.int .i64 g.n, .slice af g.fa.length kf, .slice ar g.rs.length kr, .slice aw g.wi.length kw, .slice az g.se.length kz] 34)).heap.size (w.alloc (.cells #[.int .i64 g.n, .slice af g.fa.length kf, .slice ar g.rs.length kr, .slice aw g.wi.length kw, .slice az g.se.length kz] 34)) W → (W.cell? ⟨w.heap.size, 0, none⟩ = some (.int .i64 g.n) ∧ W.cell? ⟨w.heap.size, 1, none⟩ = some (.slice af g.fa.length kf) ∧ W.cell? ⟨w.heap.size, 2, none⟩ = some (.slice ar g.rs.length kr) ∧ W.cell? ⟨w.heap.size, 3, none⟩ = some (.slice aw g.wi.length kw) ∧ W.cell? ⟨w.heap.size, 4, none⟩ = some (.slice az g.se.length kz)) ∧ Below w.heap.size w W) := fun W hW => by
    have h1 := (hW.block w.heap.size (by simp)).trans (heap_alloc_new w _)
    exact ⟨⟨(blk_cell h1 0 rfl).1, (blk_cell h1 1 rfl).1, (blk_cell h1 2 rfl).1, (blk_cell h1 3 rfl).1, (blk_cell h1 4 rfl).1⟩, (bel_new w _).trans (hW.mono (by simp))⟩
  clear h hK hp hz
  obtain ⟨bb, HBB⟩ : ∃ bb, Hid (grpB g = bb) := ⟨_, rfl⟩
  rw [HBB.out]
  have HN : Hid (∀ _ : Unit, ¬ GrpP g → bb = false) := fun _ hh => by rw [← HBB.out]; exact bOf_false hh
  have HFA : Hid (∀ W, Below w.heap.size w W → Calls Tryz.prog 39 #[.int .i64 g.n, .slice af g.fa.length kf] W fun e w' => e = .returned (.bool (faB g.n g.fa)) ∧ W = w') := fun W hW => faultyOK_any g.n _ g.fa W (HR.out.f.below hW) HZ.out.f
  have HRS : Hid (∀ W, Below w.heap.size w W → Calls Tryz.prog 40 #[.agg #[.int .i64 g.n, .slice af g.fa.length kf, .slice ar g.rs.length kr, .slice aw g.wi.length kw, .slice az g.se.length kz]] W fun e w' => e = .returned (.bool (rsB g.n g.rs)) ∧ Below W.heap.size W w') := fun W hW => replicasOK_any g _ _ _ _ W (HR.out.below hW) HZ.out (GK.out W hW).1 (GK.out W hW).2
  have HWI0 : Hid (fCode g.n = 0 → ∀ W p, W.cell? ⟨p, 0, none⟩ = some (.int .i64 g.n) → Below w.heap.size w W → Calls Tryz.prog 41 #[.slice aw g.wi.length kw, .func (Fn.func 35) #[] #[.pointer (some ⟨p, 0, none⟩)]] W fun e w' => e = .returned (.bool (!wiB g.n g.wi)) ∧ Below W.heap.size W w') := fun hf W p hc hW => by
    rw [← wi_eq hf]
    exact containsP_any g.n _ g.wi p W (HR.out.p.below hW) HZ.out.p hc (GK.out W hW).1 (GK.out W hW).2
  have HSE : Hid (∀ W p, W.cell? ⟨p, 0, none⟩ = some (.int .i64 g.n) → Below w.heap.size w W → Calls Tryz.prog 42 #[.slice az g.se.length kz, .func (Fn.func 38) #[] #[.pointer (some ⟨p, 0, none⟩)]] W fun e w' => e = .returned (.bool (!seB g.n g.se)) ∧ Below W.heap.size W w') := fun W p hc hW => containsM_any g.n _ g.se p W (HR.out.s.below hW) HZ.out.s hc (GK.out W hW).1 (GK.out W hW).2
  go_enter Tryz.func10, Tryz.ntmps10
  go_upto_region 1 with fail
  generalize w.alloc (.cells #[.int .i64 g.n, .slice af g.fa.length kf, .slice ar g.rs.length kr, .slice aw g.wi.length kw, .slice az g.se.length kz] 34) = wb at HP ⊢
  obtain ⟨⟨g0, g1, g2, g3, g4⟩, RB⟩ := HP.out wb (Below.refl _ _)
  have G0 : Hid (Below w.heap.size w wb) := RB
  have E0 : Hid (Below wb.heap.size wb wb) := Below.refl _ _
  clear RB
  cases h1 : faB g.n g.fa with
  | false =>
    have HF : Hid (bb = false) := HN.out () fun hh => by have := hh.1; rw [h1] at this; cases this
    rw [h1] at HFA
    clear h1
    go_wp2_with fail
    refine (HFA.out _ G0.out).mono ?_
    rintro e _ ⟨rfl, rfl⟩
    go_wp2_with fail
    go_ret
    exact ⟨ret_b HF.out.symm, G0.out⟩
  | true =>
    have Ah1 : Hid (faB g.n g.fa = true) := h1
    rw [h1] at HFA
    clear h1
    have hf : fCode g.n = 0 := (bOf_iff.1 Ah1.out).1
    have HWI1 := HWI0.out hf
    have HWI : Hid (∀ W p, W.cell? ⟨p, 0, none⟩ = some (.int .i64 g.n) → Below w.heap.size w W → Calls Tryz.prog 41 #[.slice aw g.wi.length kw, .func (Fn.func 35) #[] #[.pointer (some ⟨p, 0, none⟩)]] W fun e w' => e = .returned (.bool (!wiB g.n g.wi)) ∧ Below W.heap.size W w') := HWI1
    clear hf HWI0 HWI1
    by_cases h2 : (g.rs.length : Int) = g.n
    rotate_left
    · have HF : Hid (bb = false) := HN.out () fun hh => h2 hh.2.1
      have h2a : ((g.rs.length : Int) == g.n) = false := by simpa using h2
      clear h2
      go_wp2_with fail
      refine (HFA.out _ G0.out).mono ?_
      rintro e _ ⟨rfl, rfl⟩
      go_wp2_with fail
      go_ret
      exact ⟨ret_b HF.out.symm, G0.out⟩
    have Ah2 : Hid ((g.rs.length : Int) = g.n) := h2
    have h2a : ((g.rs.length : Int) == g.n) = true := by simpa using h2
    clear h2
    by_cases h3 : g.wi.length ≤ 400
    rotate_left
    · have HF : Hid (bb = false) := HN.out () fun hh => h3 hh.2.2.1
      have h3a : ¬ (g.wi.length : Int) ≤ 400 := by omega
      go_wp2_with fail
      refine (HFA.out _ G0.out).mono ?_
      rintro e _ ⟨rfl, rfl⟩
      go_wp2_with fail
      go_ret
      exact ⟨ret_b HF.out.symm, G0.out⟩
    have h3a : (g.wi.length : Int) ≤ 400 := by omega
    by_cases h4 : g.se.length ≤ 4096
    rotate_left
    · have HF : Hid (bb = false) := HN.out () fun hh => h4 hh.2.2.2.1
      have h4a : ¬ (g.se.length : Int) ≤ 4096 := by omega
      go_wp2_with fail
      refine (HFA.out _ G0.out).mono ?_
      rintro e _ ⟨rfl, rfl⟩
      go_wp2_with fail
      go_ret
      exact ⟨ret_b HF.out.symm, G0.out⟩
    have h4a : (g.se.length : Int) ≤ 4096 := by omega
    cases h5 : rsB g.n g.rs with
    | false =>
      have HF : Hid (bb = false) := HN.out () fun hh => by have := hh.2.2.2.2.1; rw [h5] at this; cases this
      rw [h5] at HRS
      clear h5
      go_wp2_with fail
      refine (HFA.out _ G0.out).mono ?_
      rintro e _ ⟨rfl, rfl⟩
      go_wp2_with fail
      refine (HRS.out _ G0.out).mono ?_
      rintro e y1 ⟨rfl, b1⟩
      have E1 : Hid (Below wb.heap.size wb y1) := E0.out.trans (b1.mono E0.out.size)
      clear b1 g0 g1 g2 g3 g4
      obtain ⟨⟨g0, g1, g2, g3, g4⟩, RB⟩ := HP.out y1 E1.out
      have G1 : Hid (Below w.heap.size w y1) := RB
      clear RB
      go_wp2_with fail
      go_ret
      exact ⟨ret_b HF.out.symm, G1.out⟩
    | true =>
      have Ah5 : Hid (rsB g.n g.rs = true) := h5
      rw [h5] at HRS
      clear h5
      cases h6 : wiB g.n g.wi with
      | false =>
        have HF : Hid (bb = false) := HN.out () fun hh => by have := hh.2.2.2.2.2.1; rw [h6] at this; cases this
        rw [h6] at HWI
        clear h6
        go_wp2_with fail
        refine (HFA.out _ G0.out).mono ?_
        rintro e _ ⟨rfl, rfl⟩
        go_wp2_with fail
        refine (HRS.out _ G0.out).mono ?_
        rintro e y1 ⟨rfl, b1⟩
        have E1 : Hid (Below wb.heap.size wb y1) := E0.out.trans (b1.mono E0.out.size)
        clear b1 g0 g1 g2 g3 g4
        obtain ⟨⟨g0, g1, g2, g3, g4⟩, RB⟩ := HP.out y1 E1.out
        have G1 : Hid (Below w.heap.size w y1) := RB
        clear RB
        go_wp2_with fail
        refine (HWI.out _ _ g0 G1.out).mono ?_
        rintro e y2 ⟨rfl, b2⟩
        have E2 : Hid (Below wb.heap.size wb y2) := E1.out.trans (b2.mono E1.out.size)
        clear b2 g0 g1 g2 g3 g4
        obtain ⟨⟨g0, g1, g2, g3, g4⟩, RB⟩ := HP.out y2 E2.out
        have G2 : Hid (Below w.heap.size w y2) := RB
        clear RB
        go_wp2_with fail
        go_ret
        exact ⟨ret_b HF.out.symm, G2.out⟩
      | true =>
        have Ah6 : Hid (wiB g.n g.wi = true) := h6
        rw [h6] at HWI
        clear h6
        have HE : Hid (bb = seB g.n g.se) := by
          show _ = _
          rw [← HBB.out]
          cases h9 : seB g.n g.se with
          | false => exact bOf_false fun hh => by have := hh.2.2.2.2.2.2; rw [h9] at this; cases this
          | true => exact bOf_true ⟨Ah1.out, Ah2.out, h3, h4, Ah5.out, Ah6.out, h9⟩
        generalize seB g.n g.se = ob at HSE HE
        go_wp2_with fail
        refine (HFA.out _ G0.out).mono ?_
        rintro e _ ⟨rfl, rfl⟩
        go_wp2_with fail
        refine (HRS.out _ G0.out).mono ?_
        rintro e y1 ⟨rfl, b1⟩
        have E1 : Hid (Below wb.heap.size wb y1) := E0.out.trans (b1.mono E0.out.size)
        clear b1 g0 g1 g2 g3 g4
        obtain ⟨⟨g0, g1, g2, g3, g4⟩, RB⟩ := HP.out y1 E1.out
        have G1 : Hid (Below w.heap.size w y1) := RB
        clear RB
        go_wp2_with fail
        refine (HWI.out _ _ g0 G1.out).mono ?_
        rintro e y2 ⟨rfl, b2⟩
        have E2 : Hid (Below wb.heap.size wb y2) := E1.out.trans (b2.mono E1.out.size)
        clear b2 g0 g1 g2 g3 g4
        obtain ⟨⟨g0, g1, g2, g3, g4⟩, RB⟩ := HP.out y2 E2.out
        have G2 : Hid (Below w.heap.size w y2) := RB
        clear RB
        go_wp2_with fail
        refine (HSE.out _ _ g0 G2.out).mono ?_
        rintro e y3 ⟨rfl, b3⟩
        have E3 : Hid (Below wb.heap.size wb y3) := E2.out.trans (b3.mono E2.out.size)
        clear b3 g0 g1 g2 g3 g4
        obtain ⟨⟨g0, g1, g2, g3, g4⟩, RB⟩ := HP.out y3 E3.out
        have G3 : Hid (Below w.heap.size w y3) := RB
        clear RB
        go_wp2_with fail
        go_ret
        exact ⟨by rw [HE.out]; cases ob <;> rfl, G3.out⟩
end Go.Proofs.YtondmbeccpekiaaGreatDoor.Zg

/- Right replicas: votes, the specification's. -/
namespace Go.Proofs.YtondmbeccpekiaaGreatDoor.Yr
open Go.RowKit Go.Proofs.YtondmbeccpekiaaGreatDoor.Rg Go.Proofs.YtondmbeccpekiaaGreatDoor.Gm Go.Proofs.YtondmbeccpekiaaGreatDoor.Ty Go.Proofs.YtondmbeccpekiaaGreatDoor.Tm Go.Proofs.YtondmbeccpekiaaGreatDoor.Sh
open Go.Proofs.YtondmbeccpekiaaGreatDoor.Vt (bOf bOf_true bOf_false bOf_iff bOf_eq sg sg_from frn msk msk_step or_add pow_le7 Rise crtB CertP crt_q q_pos allBelow_any with_any implCertOK_any ballotOf_any l06Cert_any)
open Go.Proofs.YtondmbeccpekiaaGreatDoor.Bw (bdP bdB implBodyOK_any l06Body_any)
open Go.Proofs.YtondmbeccpekiaaGreatDoor.Bd (dOut)
open Go.Proofs.YtondmbeccpekiaaGreatDoor.Wc (cfB vcC vcL cfL implViewCerts_any l06Certs_any OwnC)
open Go.Proofs.YtondmbeccpekiaaGreatDoor.Qm (qOut inB)

def OneL (n kd vw sq : Int) (ms : List Mg) (j : Nat) (x : Mg) : Prop := OneV n kd vw sq x ∧ ∀ m y, j = m + 1 → ms[m]? = some y → y.fr < x.fr
theorem castL_no {n kd vw sq : Int} {ms : List Mg} {j : Nat} {x : Mg} (hx : ms[j]? = some x) (h : ¬ OneL n kd vw sq ms j x) : castB n kd vw sq ms = false := bOf_false fun ⟨h1, h2⟩ => by
  refine h ⟨h1 x (mem_at hx), fun m y e hy => ?_⟩
  subst e
  exact h2 m y x (lt_at hx) hy hx
theorem castL_yes {n kd vw sq : Int} {ms : List Mg} (h : ∀ j x, j < ms.length → ms[j]? = some x → OneL n kd vw sq ms j x) : castB n kd vw sq ms = true :=
  bOf_true ⟨all_of fun j x hj hx => (h j x hj hx).1, fun j x y hj hx hy => (h (j + 1) y hj hy).2 j x rfl hx⟩
theorem oneL_zero {n kd vw sq : Int} {ms : List Mg} {x : Mg} (h : OneV n kd vw sq x) : OneL n kd vw sq ms 0 x := ⟨h, fun m y e => by omega⟩
theorem oneL_succ {n kd vw sq : Int} {ms : List Mg} {m : Nat} {x y : Mg} (hy : ms[m]? = some y) (h : OneV n kd vw sq x) (hf : y.fr < x.fr) : OneL n kd vw sq ms (m + 1) x := ⟨h, fun m' y' e hy' => by
  have e2 : m' = m := by omega
  subst e2
  rw [hy] at hy'
  cases hy'
  exact hf⟩
set_option maxRecDepth 100000 in
set_option maxHeartbeats 1600000 in
theorem l07Votes_any (r : Rp) (vs vc vl vh : Value) (kd sq : Int) (v : Value) (ms : List Mg) (w : World) (hb : RepR w r vs vc vl vh) (hf : fCode r.n = 0) (h : Row w v ms) (hl : ms.length ≤ 1048576) :
    Calls Tryz.prog 63 #[.agg #[.int .i64 r.id, .int .i64 r.n, .int .i64 r.vw, .bool r.ac, vs, vc, vl, vh], v, .int .i64 kd, .int .i64 sq] w fun e w' => e = .returned (.bool (castB r.n kd r.vw sq ms)) ∧ Below w.heap.size w w' := by
  have HR : Hid (Row w v ms) := h
  obtain ⟨a, cap, rfl⟩ := RowG.slice h
  obtain ⟨ax, ks, rfl⟩ := RowG.slice hb.s
  obtain ⟨ac, kc, rfl⟩ := RowG.slice hb.c
  obtain ⟨al, kl, rfl, _⟩ := hb.l
  obtain ⟨ah, kh, rfl⟩ := RowG.slice hb.h
  have HP : Hid (∀ W, Below (w.alloc (.cells #[.int .i64 r.id, .int .i64 r.n, .int .i64 r.vw, .bool r.ac, .slice ax r.ss.length ks, .slice ac r.cs.length kc, .slice al r.lg.length kl, .slice ah r.ch.length kh] 55)).heap.size (w.alloc (.cells #[.int .i64 r.id, .int .i64 r.n, .int .i64 r.vw, .bool r.ac, .slice ax r.ss.length ks, .slice ac r.cs.length kc, .slice al r.lg.length kl, .slice ah r.ch.length kh] 55)) W → (W.cell? ⟨w.heap.size, 0, none⟩ = some (.int .i64 r.id) ∧ W.cell? ⟨w.heap.size, 1, none⟩ = some (.int .i64 r.n) ∧ W.cell? ⟨w.heap.size, 2, none⟩ = some (.int .i64 r.vw) ∧ W.cell? ⟨w.heap.size, 3, none⟩ = some (.bool r.ac) ∧ W.cell? ⟨w.heap.size, 4, none⟩ = some (.slice ax r.ss.length ks) ∧ W.cell? ⟨w.heap.size, 5, none⟩ = some (.slice ac r.cs.length kc) ∧ W.cell? ⟨w.heap.size, 6, none⟩ = some (.slice al r.lg.length kl) ∧ W.cell? ⟨w.heap.size, 7, none⟩ = some (.slice ah r.ch.length kh)) ∧ Below w.heap.size w W) := fun W hW => by
    have h1 := (hW.block w.heap.size (by simp)).trans (heap_alloc_new w _)
    exact ⟨⟨(blk_cell h1 0 rfl).1, (blk_cell h1 1 rfl).1, (blk_cell h1 2 rfl).1, (blk_cell h1 3 rfl).1, (blk_cell h1 4 rfl).1, (blk_cell h1 5 rfl).1, (blk_cell h1 6 rfl).1, (blk_cell h1 7 rfl).1⟩, (bel_new w _).trans (hW.mono (by simp))⟩
  clear h hb
  obtain ⟨bb, HBB⟩ : ∃ bb, Hid (castB r.n kd r.vw sq ms = bb) := ⟨_, rfl⟩
  rw [HBB.out]
  have HF0 : Hid (fCode r.n = 0) := hf
  clear hf
  go_enter Tryz.func63, Tryz.ntmps63
  go_upto_region 1 with fail
  generalize w.alloc (.cells #[.int .i64 r.id, .int .i64 r.n, .int .i64 r.vw, .bool r.ac, .slice ax r.ss.length ks, .slice ac r.cs.length kc, .slice al r.lg.length kl, .slice ah r.ch.length kh] 55) = wb at HP ⊢
  go_wp2_with fail
  go_loopw [9] (fun i wr => ∃ k : Nat, k ≤ ms.length ∧ i = .int .i64 k ∧ Hid ((∀ j x, j < k → ms[j]? = some x → OneL r.n kd r.vw sq ms j x) ∧ Below wb.heap.size wb wr)) (fun i _ => ms.length - (intOf i).toNat)
  case atStart => exact ⟨0, by omega, rfl, ⟨fun j x hj => by omega, Below.refl _ _⟩⟩
  case round =>
    obtain ⟨k, hk, rfl, HZ⟩ := hrel
    by_cases hlt : k < ms.length
    · obtain ⟨x, hx⟩ := Rg.get_at hlt
      have WR : Below w.heap.size w wr := (HP.out _ HZ.out.2).2
      obtain ⟨b, off, rfl, hbl, c0, c1, c2, c3, c4, c5, c6⟩ := RowG.at (HR.out.below WR) rfl hx
      have HX : Hid (ms[k]? = some x) := hx
      have HRW : Hid (Row wr (.slice (some ⟨b, off, none⟩) ms.length cap) ms) := HR.out.below WR
      have HMS0 : ∀ W, Calls Tryz.prog 30 #[.int .i64 r.n, .agg #[.int .i64 x.kd, .int .i64 x.vw, .int .i64 x.sq, .int .i64 x.fr, .string x.dg, .string x.bd, .string x.mc]] W fun e w' => e = .returned (.bool (sg r.n x)) ∧ Below W.heap.size W w' := fun W => by
        rw [Vt.sg_eq HF0.out]
        exact Si.l06Signed_any r.n x.kd x.vw x.sq x.fr x.dg x.bd x.mc W
      have HMS : Hid (∀ W, Calls Tryz.prog 30 #[.int .i64 r.n, .agg #[.int .i64 x.kd, .int .i64 x.vw, .int .i64 x.sq, .int .i64 x.fr, .string x.dg, .string x.bd, .string x.mc]] W fun e w' => e = .returned (.bool (sg r.n x)) ∧ Below W.heap.size W w') := HMS0
      have HA : Hid (∀ W, Below (wr.alloc (.cells #[.int .i64 x.kd, .int .i64 x.vw, .int .i64 x.sq, .int .i64 x.fr, .string x.dg, .string x.bd, .string x.mc] 59)).heap.size (wr.alloc (.cells #[.int .i64 x.kd, .int .i64 x.vw, .int .i64 x.sq, .int .i64 x.fr, .string x.dg, .string x.bd, .string x.mc] 59)) W → (W.cell? ⟨wr.heap.size, 0, none⟩ = some (.int .i64 x.kd) ∧ W.cell? ⟨wr.heap.size, 1, none⟩ = some (.int .i64 x.vw) ∧ W.cell? ⟨wr.heap.size, 2, none⟩ = some (.int .i64 x.sq) ∧ W.cell? ⟨wr.heap.size, 3, none⟩ = some (.int .i64 x.fr) ∧ W.cell? ⟨wr.heap.size, 4, none⟩ = some (.string x.dg) ∧ W.cell? ⟨wr.heap.size, 5, none⟩ = some (.string x.bd) ∧ W.cell? ⟨wr.heap.size, 6, none⟩ = some (.string x.mc)) ∧ Below wb.heap.size wb W ∧ Below wr.heap.size wr W) := fun W hW => by
        have h1 := (hW.block wr.heap.size (by simp)).trans (heap_alloc_new wr _)
        have h3 := (bel_new wr _).trans (hW.mono (by simp))
        exact ⟨⟨(blk_cell h1 0 rfl).1, (blk_cell h1 1 rfl).1, (blk_cell h1 2 rfl).1, (blk_cell h1 3 rfl).1, (blk_cell h1 4 rfl).1, (blk_cell h1 5 rfl).1, (blk_cell h1 6 rfl).1⟩, HZ.out.2.trans (h3.mono HZ.out.2.size), h3⟩
      have HN : Hid (∀ _ : Unit, ¬ OneL r.n kd r.vw sq ms k x → bb = false) := fun _ hh => by rw [← HBB.out]; exact castL_no HX.out hh
      have HY : Hid (OneL r.n kd r.vw sq ms k x → ∀ j y, j < k + 1 → ms[j]? = some y → OneL r.n kd r.vw sq ms j y) := fun hh => upto_succ HZ.out.1 HX.out hh
      have hp0 : (0 : Int) ≤ (k : Int) := by omega
      have hp1 : (k : Int) < (ms.length : Int) := by omega
      clear hx WR HMS0
      go_upto_region 5 with fail
      generalize wr.alloc (.cells #[.int .i64 x.kd, .int .i64 x.vw, .int .i64 x.sq, .int .i64 x.fr, .string x.dg, .string x.bd, .string x.mc] 59) = wa at HA ⊢
      clear c0 c1 c2 c3 c4 c5 c6
      obtain ⟨⟨c0, c1, c2, c3, c4, c5, c6⟩, A1, A2⟩ := HA.out wa (Below.refl _ _)
      obtain ⟨⟨r0, r1, r2, r3, r4, r5, r6, r7⟩, RB⟩ := HP.out wa A1
      have F1 : Hid (Below wb.heap.size wb wa) := A1
      have G1 : Hid (Below w.heap.size w wa) := RB
      have RA : Hid (Row wa (.slice (some ⟨b, off, none⟩) ms.length cap) ms) := HRW.out.below A2
      clear A1 A2 RB r0 r3 r4 r5 r6 r7
      obtain ⟨X, hX, W, QI0, QO0⟩ := Qc.klass wa
      have QI : Hid (∀ w', Below wa.heap.size wa w' → ∃ x, w' = W x) := QI0
      have QO : Hid (∀ x, Below wa.heap.size wa (W x)) := QO0
      clear QI0 QO0
      have q0 := Qc.cell_all QO.out c0
      have q1 := Qc.cell_all QO.out c1
      have q2 := Qc.cell_all QO.out c2
      have q3 := Qc.cell_all QO.out c3
      have q4 := Qc.cell_all QO.out c4
      have q5 := Qc.cell_all QO.out c5
      have q6 := Qc.cell_all QO.out c6
      have q7 := Qc.cell_all QO.out r1
      have q8 := Qc.cell_all QO.out r2
      clear c0 c1 c2 c3 c4 c5 c6 r1 r2
      by_cases g0 : x.kd = kd
      rotate_left
      · have e0 : (x.kd != kd) = true := by simpa using g0
        have HF : Hid (bb = false) := HN.out () fun hh => g0 hh.1.1
        clear g0
        refine Qc.region_class (W := W) (by kernel_rfl) (by kernel_rfl) (QI.out _ Qc.from_drew) ?_
        repeat (go_big_quiet_step (fail))
        refine wpQuiet_nil ?_
        rintro _ ⟨xq, rfl⟩
        have G2 : Hid (Below w.heap.size w (W xq)) := G1.out.trans ((QO.out xq).mono G1.out.size)
        have F2 : Hid (Below wb.heap.size wb (W xq)) := F1.out.trans ((QO.out xq).mono F1.out.size)
        clear q0 q1 q2 q3 q4 q5 q6 q7 q8
        generalize W xq = wq at G2 F2 ⊢
        go_wp2_with fail
        go_ret
        exact ⟨ret_b HF.out.symm, G2.out⟩
      have e0 : (x.kd != kd) = false := by simpa using g0
      have Q0 : Hid (x.kd = kd) := g0
      clear g0
      by_cases g1 : x.vw = r.vw
      rotate_left
      · have e1 : (x.vw != r.vw) = true := by simpa using g1
        have HF : Hid (bb = false) := HN.out () fun hh => g1 hh.1.2.1
        clear g1
        refine Qc.region_class (W := W) (by kernel_rfl) (by kernel_rfl) (QI.out _ Qc.from_drew) ?_
        repeat (go_big_quiet_step (fail))
        refine wpQuiet_nil ?_
        rintro _ ⟨xq, rfl⟩
        have G2 : Hid (Below w.heap.size w (W xq)) := G1.out.trans ((QO.out xq).mono G1.out.size)
        have F2 : Hid (Below wb.heap.size wb (W xq)) := F1.out.trans ((QO.out xq).mono F1.out.size)
        clear q0 q1 q2 q3 q4 q5 q6 q7 q8
        generalize W xq = wq at G2 F2 ⊢
        go_wp2_with fail
        go_ret
        exact ⟨ret_b HF.out.symm, G2.out⟩
      have e1 : (x.vw != r.vw) = false := by simpa using g1
      have Q1 : Hid (x.vw = r.vw) := g1
      clear g1
      by_cases g2 : x.sq = sq
      rotate_left
      · have e2 : (x.sq != sq) = true := by simpa using g2
        have HF : Hid (bb = false) := HN.out () fun hh => g2 hh.1.2.2.1
        clear g2
        refine Qc.region_class (W := W) (by kernel_rfl) (by kernel_rfl) (QI.out _ Qc.from_drew) ?_
        repeat (go_big_quiet_step (fail))
        refine wpQuiet_nil ?_
        rintro _ ⟨xq, rfl⟩
        have G2 : Hid (Below w.heap.size w (W xq)) := G1.out.trans ((QO.out xq).mono G1.out.size)
        have F2 : Hid (Below wb.heap.size wb (W xq)) := F1.out.trans ((QO.out xq).mono F1.out.size)
        clear q0 q1 q2 q3 q4 q5 q6 q7 q8
        generalize W xq = wq at G2 F2 ⊢
        go_wp2_with fail
        go_ret
        exact ⟨ret_b HF.out.symm, G2.out⟩
      have e2 : (x.sq != sq) = false := by simpa using g2
      have Q2 : Hid (x.sq = sq) := g2
      clear g2
      cases hs : sg r.n x with
      | false =>
        have HF : Hid (bb = false) := HN.out () fun hh => by have := hh.1.2.2.2; rw [hs] at this; cases this
        rw [hs] at HMS
        clear hs
        refine Qc.region_class (W := W) (by kernel_rfl) (by kernel_rfl) (QI.out _ Qc.from_drew) ?_
        repeat (go_big_quiet_step (first | (go_at_call 30; refine (HMS.out _).mono ?_; rintro e w2 ⟨rfl, b2⟩; exact ⟨rfl, Qc.back QI.out QO.out b2⟩)))
        refine wpQuiet_nil ?_
        rintro _ ⟨xq, rfl⟩
        have G2 : Hid (Below w.heap.size w (W xq)) := G1.out.trans ((QO.out xq).mono G1.out.size)
        have F2 : Hid (Below wb.heap.size wb (W xq)) := F1.out.trans ((QO.out xq).mono F1.out.size)
        clear q0 q1 q2 q3 q4 q5 q6 q7 q8
        generalize W xq = wq at G2 F2 ⊢
        go_wp2_with fail
        go_ret
        exact ⟨ret_b HF.out.symm, G2.out⟩
      | true =>
        have HO : Hid (OneV r.n kd r.vw sq x) := ⟨Q0.out, Q1.out, Q2.out, hs⟩
        rw [hs] at HMS
        clear hs
        by_cases hk0 : k = 0
        · subst hk0
          have HU : Hid (∀ j y, j < 0 + 1 → ms[j]? = some y → OneL r.n kd r.vw sq ms j y) := HY.out (oneL_zero HO.out)
          refine Qc.region_class (W := W) (by kernel_rfl) (by kernel_rfl) (QI.out _ Qc.from_drew) ?_
          repeat (go_big_quiet_step (first | (go_at_call 30; refine (HMS.out _).mono ?_; rintro e w2 ⟨rfl, b2⟩; exact ⟨rfl, Qc.back QI.out QO.out b2⟩)))
          refine wpQuiet_nil ?_
          rintro _ ⟨xq, rfl⟩
          have G2 : Hid (Below w.heap.size w (W xq)) := G1.out.trans ((QO.out xq).mono G1.out.size)
          have F2 : Hid (Below wb.heap.size wb (W xq)) := F1.out.trans ((QO.out xq).mono F1.out.size)
          clear q0 q1 q2 q3 q4 q5 q6 q7 q8
          generalize W xq = wq at G2 F2 ⊢
          go_wp2_with fail
          exact ⟨⟨0 + 1, by omega, by go_num, ⟨HU.out, F2.out⟩⟩, by simp [intOf]; omega⟩
        · obtain ⟨m, rfl⟩ : ∃ m, k = m + 1 := ⟨k - 1, by omega⟩
          obtain ⟨y, hy⟩ := Rg.get_at (xs := ms) (k := m) (by omega)
          obtain ⟨b3, off3, e3, hb3, d0, d1, d2, d3, d4, d5, d6⟩ := RowG.at RA.out rfl hy
          cases e3
          have q9 := Qc.cell_all QO.out d3
          clear d0 d1 d2 d3 d4 d5 d6 hk0
          have hm1 : ((m + 1 : Nat) : Int) - 1 = (m : Int) := by omega
          have hw1 : IntKind.i64.wrap (((m + 1 : Nat) : Int) - 1) = (m : Int) := by rw [IntKind.wrap_i64]; omega
          have hw2 : IntKind.i64.wrap (m : Int) = (m : Int) := by rw [IntKind.wrap_i64]; omega
          have hm0 : (0 : Int) < ((m + 1 : Nat) : Int) := by omega
          have hm2 : (m : Int) < (ms.length : Int) := by omega
          have hm3 : (0 : Int) ≤ (m : Int) := by omega
          by_cases g4 : y.fr < x.fr
          · have HU : Hid (∀ j z, j < m + 1 + 1 → ms[j]? = some z → OneL r.n kd r.vw sq ms j z) := HY.out (oneL_succ hy HO.out g4)
            have g4a : ¬ y.fr ≥ x.fr := by omega
            have g4b : ¬ x.fr ≤ y.fr := by omega
            clear g4 hy
            refine Qc.region_class (W := W) (by kernel_rfl) (by kernel_rfl) (QI.out _ Qc.from_drew) ?_
            repeat (go_big_quiet_step (first | (go_at_call 30; refine (HMS.out _).mono ?_; rintro e w2 ⟨rfl, b2⟩; exact ⟨rfl, Qc.back QI.out QO.out b2⟩)))
            refine wpQuiet_nil ?_
            rintro _ ⟨xq, rfl⟩
            have G2 : Hid (Below w.heap.size w (W xq)) := G1.out.trans ((QO.out xq).mono G1.out.size)
            have F2 : Hid (Below wb.heap.size wb (W xq)) := F1.out.trans ((QO.out xq).mono F1.out.size)
            clear q0 q1 q2 q3 q4 q5 q6 q7 q8 q9
            generalize W xq = wq at G2 F2 ⊢
            go_wp2_with fail
            exact ⟨⟨m + 1 + 1, by omega, by go_num, ⟨HU.out, F2.out⟩⟩, by simp [intOf]; omega⟩
          · have HF : Hid (bb = false) := HN.out () fun hh => g4 (hh.2 m y rfl hy)
            have g4a : y.fr ≥ x.fr := by omega
            have g4b : x.fr ≤ y.fr := by omega
            clear g4 hy
            refine Qc.region_class (W := W) (by kernel_rfl) (by kernel_rfl) (QI.out _ Qc.from_drew) ?_
            repeat (go_big_quiet_step (first | (go_at_call 30; refine (HMS.out _).mono ?_; rintro e w2 ⟨rfl, b2⟩; exact ⟨rfl, Qc.back QI.out QO.out b2⟩)))
            refine wpQuiet_nil ?_
            rintro _ ⟨xq, rfl⟩
            have G2 : Hid (Below w.heap.size w (W xq)) := G1.out.trans ((QO.out xq).mono G1.out.size)
            have F2 : Hid (Below wb.heap.size wb (W xq)) := F1.out.trans ((QO.out xq).mono F1.out.size)
            clear q0 q1 q2 q3 q4 q5 q6 q7 q8 q9
            generalize W xq = wq at G2 F2 ⊢
            go_wp2_with fail
            go_ret
            exact ⟨ret_b HF.out.symm, G2.out⟩
    · obtain rfl : k = ms.length := by omega
      have HT : Hid (bb = true) := by show _ = _; rw [← HBB.out]; exact castL_yes HZ.out.1
      have G0 : Hid (Below w.heap.size w wr) := (HP.out _ HZ.out.2).2
      go_wp2_with fail
      go_ret
      exact ⟨ret_b HT.out.symm, G0.out⟩
end Go.Proofs.YtondmbeccpekiaaGreatDoor.Yr
