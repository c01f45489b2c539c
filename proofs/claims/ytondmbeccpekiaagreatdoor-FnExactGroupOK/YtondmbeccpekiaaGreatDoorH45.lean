/- Texts put together: Yb, Zb. -/
import Derived.Test.YtondmbeccpekiaaGreatDoorH5
import Derived.Test.YtondmbeccpekiaaGreatDoorH7
/- Replicas measured. -/
namespace Go.Proofs.YtondmbeccpekiaaGreatDoor.Yr
open Go.RowKit Go.Proofs.YtondmbeccpekiaaGreatDoor.Rg Go.Proofs.YtondmbeccpekiaaGreatDoor.Gm Go.Proofs.YtondmbeccpekiaaGreatDoor.Ty


set_option maxRecDepth 100000 in
set_option maxHeartbeats 800000 in
theorem szSlot_any (x : St) (u1 u2 : Value) (l : Nat) (w : World) (hl : l ≤ 1048576) (hz : SZ maxLen x) (hu1 : Row w u1 x.ps) (hu2 : Row w u2 x.cs) :
    Calls Tryz.prog 113 #[stV x u1 u2, .int .i64 l] w fun e w' => (∃ r : Int, e = .returned (.int .i64 r) ∧ (r = -1 ∨ ∃ q : Nat, r = q ∧ q ≤ 1048576 ∧ SZ 1048576 x)) ∧ Below w.heap.size w w' := by
  have hm := hz.1
  unfold maxLen at hm
  have HZ : Hid (SZ maxLen x) := hz
  have Hu1 : Hid (Row w u1 x.ps) := hu1
  have Hu2 : Hid (Row w u2 x.cs) := hu2
  clear hz hu1 hu2
  unfold stV
  have HB1 : Hid (Below w.heap.size w (w.alloc (.cells #[.string x.bd, u1, u2, .bool x.st, .bool x.dn] 152))) := bel_new _ _
  by_cases hb : (l : Int) < (x.bd.size : Int)
  · have hb' : (l : Int) - (x.bd.size : Int) < 0 := by omega
    go_enter Tryz.func113, Tryz.ntmps113
    go_wp2_with fail
    go_ret
    exact ⟨⟨_, rfl, .inl rfl⟩, HB1.out⟩
  obtain ⟨q0, hq0⟩ : ∃ q : Nat, (l : Int) - (x.bd.size : Int) = q := ⟨l - x.bd.size, by omega⟩
  have hq1 : ¬ (l : Int) - (x.bd.size : Int) < 0 := by omega
  have hql : q0 ≤ 1048576 := by omega
  have HBD : Hid (x.bd.size ≤ 1048576) := by show _ ≤ _; omega
  have HC : Hid (∀ W, Below (w.alloc (.cells #[.string x.bd, u1, u2, .bool x.st, .bool x.dn] 152)).heap.size (w.alloc (.cells #[.string x.bd, u1, u2, .bool x.st, .bool x.dn] 152)) W → W.cell? ⟨w.heap.size, 0, none⟩ = some (.string x.bd) ∧ W.cell? ⟨w.heap.size, 1, none⟩ = some u1 ∧ W.cell? ⟨w.heap.size, 2, none⟩ = some u2 ∧ W.cell? ⟨w.heap.size, 3, none⟩ = some (.bool x.st) ∧ W.cell? ⟨w.heap.size, 4, none⟩ = some (.bool x.dn)) := fun W hW => by
    have h1 := (hW.block w.heap.size (by simp)).trans (heap_alloc_new w _)
    exact ⟨(blk_cell h1 0 rfl).1, (blk_cell h1 1 rfl).1, (blk_cell h1 2 rfl).1, (blk_cell h1 3 rfl).1, (blk_cell h1 4 rfl).1⟩
  have HS0 := szS_any u1 x.ps q0 (w.alloc (.cells #[.string x.bd, u1, u2, .bool x.st, .bool x.dn] 152)) (Hu1.out.below HB1.out) HZ.out.2.1.2 HZ.out.2.1.1 (by omega)
  rw [← hq0] at HS0
  clear hq0
  go_enter Tryz.func113, Tryz.ntmps113
  go_wp2_with fail
  refine HS0.mono ?_
  clear HS0
  generalize w.alloc (.cells #[.string x.bd, u1, u2, .bool x.st, .bool x.dn] 152) = wb at HB1 HC ⊢
  rintro e w1 ⟨⟨r, rfl, hr⟩, b1⟩
  have HB2 : Hid (Below w.heap.size w w1) := HB1.out.trans (b1.mono HB1.out.size)
  have D1 : Hid (Below wb.heap.size wb w1) := b1
  clear b1
  rcases hr with rfl | ⟨q1, rfl, hq10, hlen1, hall1⟩
  · go_wp2_with fail
    go_ret
    exact ⟨⟨_, rfl, .inl rfl⟩, HB2.out⟩
  have HZ1 : Hid (x.ps.length ≤ 1048576 ∧ ∀ y ∈ x.ps, Tz 1048576 y) := ⟨hlen1, hall1⟩
  have hp1 : ¬ (q1 : Int) < 0 := by omega
  clear hall1 hlen1
  obtain ⟨c0, c1, c2, c3, c4⟩ := HC.out w1 D1.out
  go_wp2_with fail
  refine (szS_any u2 x.cs q1 w1 (Hu2.out.below HB2.out) HZ.out.2.2.2 HZ.out.2.2.1 hq10).mono ?_
  rintro e w2 ⟨⟨r, rfl, hr⟩, b2⟩
  have HB3 : Hid (Below w.heap.size w w2) := HB2.out.trans (b2.mono HB2.out.size)
  have D2 : Hid (Below wb.heap.size wb w2) := D1.out.trans (b2.mono D1.out.size)
  clear b2
  rcases hr with rfl | ⟨q2, rfl, hq11, hlen2, hall2⟩
  · go_wp2_with fail
    go_ret
    exact ⟨⟨_, rfl, .inl rfl⟩, HB3.out⟩
  have HZ2 : Hid (x.cs.length ≤ 1048576 ∧ ∀ y ∈ x.cs, Tz 1048576 y) := ⟨hlen2, hall2⟩
  have hp2 : ¬ (q2 : Int) < 0 := by omega
  clear hall2 hlen2
  go_wp2_with fail
  go_ret
  exact ⟨⟨_, rfl, .inr ⟨q2, rfl, hq11, ⟨HBD.out, HZ1.out, HZ2.out.1, HZ2.out.2⟩⟩⟩, HB3.out⟩
set_option maxRecDepth 100000 in
set_option maxHeartbeats 800000 in
theorem szCert_any (x : Cx) (u : Value) (l : Nat) (w : World) (hl : l ≤ 1048576) (hz : CZ maxLen x) (hu : Row w u x.ms) :
    Calls Tryz.prog 114 #[cxV x u, .int .i64 l] w fun e w' => (∃ r : Int, e = .returned (.int .i64 r) ∧ (r = -1 ∨ ∃ q : Nat, r = q ∧ q ≤ 1048576 ∧ CZ 1048576 x)) ∧ Below w.heap.size w w' := by
  have hm := hz.1
  unfold maxLen at hm
  have HZ : Hid (CZ maxLen x) := hz
  have Hu : Hid (Row w u x.ms) := hu
  clear hz hu
  unfold cxV
  have HB1 : Hid (Below w.heap.size w (w.alloc (.cells #[.string x.bd, u] 155))) := bel_new _ _
  by_cases hb : (l : Int) < (x.bd.size : Int)
  · have hb' : (l : Int) - (x.bd.size : Int) < 0 := by omega
    go_enter Tryz.func114, Tryz.ntmps114
    go_wp2_with fail
    go_ret
    exact ⟨⟨_, rfl, .inl rfl⟩, HB1.out⟩
  obtain ⟨q0, hq0⟩ : ∃ q : Nat, (l : Int) - (x.bd.size : Int) = q := ⟨l - x.bd.size, by omega⟩
  have hq1 : ¬ (l : Int) - (x.bd.size : Int) < 0 := by omega
  have hql : q0 ≤ 1048576 := by omega
  have HBD : Hid (x.bd.size ≤ 1048576) := by show _ ≤ _; omega
  have HC : Hid (∀ W, Below (w.alloc (.cells #[.string x.bd, u] 155)).heap.size (w.alloc (.cells #[.string x.bd, u] 155)) W → W.cell? ⟨w.heap.size, 0, none⟩ = some (.string x.bd) ∧ W.cell? ⟨w.heap.size, 1, none⟩ = some u) := fun W hW => by
    have h1 := (hW.block w.heap.size (by simp)).trans (heap_alloc_new w _)
    exact ⟨(blk_cell h1 0 rfl).1, (blk_cell h1 1 rfl).1⟩
  have HS0 := szS_any u x.ms q0 (w.alloc (.cells #[.string x.bd, u] 155)) (Hu.out.below HB1.out) HZ.out.2.2 HZ.out.2.1 (by omega)
  rw [← hq0] at HS0
  clear hq0
  go_enter Tryz.func114, Tryz.ntmps114
  go_wp2_with fail
  refine HS0.mono ?_
  clear HS0
  generalize w.alloc (.cells #[.string x.bd, u] 155) = wb at HB1 HC ⊢
  rintro e w1 ⟨⟨r, rfl, hr⟩, b1⟩
  have HB2 : Hid (Below w.heap.size w w1) := HB1.out.trans (b1.mono HB1.out.size)
  have D1 : Hid (Below wb.heap.size wb w1) := b1
  clear b1
  rcases hr with rfl | ⟨q1, rfl, hq10, hlen1, hall1⟩
  · go_wp2_with fail
    go_ret
    exact ⟨⟨_, rfl, .inl rfl⟩, HB2.out⟩
  have HZ1 : Hid (x.ms.length ≤ 1048576 ∧ ∀ y ∈ x.ms, Tz 1048576 y) := ⟨hlen1, hall1⟩
  have hp1 : ¬ (q1 : Int) < 0 := by omega
  clear hall1 hlen1
  go_wp2_with fail
  go_ret
  exact ⟨⟨_, rfl, .inr ⟨q1, rfl, hq10, ⟨HBD.out, HZ1.out.1, HZ1.out.2⟩⟩⟩, HB2.out⟩
set_option maxRecDepth 100000 in
set_option maxHeartbeats 800000 in
theorem szSlotS_any (v : Value) (xs : List St) (l : Nat) (w : World) (h : RowS w v xs) (hm : ∀ x ∈ xs, SZ maxLen x) (hz : xs.length ≤ maxLen) (hl : l ≤ 1048576) :
    Calls Tryz.prog 87 #[v, .int .i64 l] w fun e w' => (∃ r : Int, e = .returned (.int .i64 r) ∧ (r = -1 ∨ ∃ q : Nat, r = q ∧ q ≤ 1048576 ∧ xs.length ≤ 1048576 ∧ ∀ x ∈ xs, SZ 1048576 x)) ∧ Below w.heap.size w w' := by
  have hz2 : xs.length ≤ 9223372036854775807 := by unfold maxLen at hz; omega
  have HM : Hid (∀ x ∈ xs, SZ maxLen x) := hm
  have HR : Hid (RowS w v xs) := h
  obtain ⟨a, cap, rfl⟩ := RowG.slice h
  clear hz hm h
  by_cases hb : (l : Int) < (xs.length : Int)
  · have hb' : (l : Int) - (xs.length : Int) < 0 := by omega
    go_enter Tryz.func87, Tryz.ntmps87
    go_wp2_with fail
    go_ret
    exact ⟨⟨_, rfl, .inl rfl⟩, Below.refl _ _⟩
  have hb' : ¬ (l : Int) - (xs.length : Int) < 0 := by omega
  go_enter Tryz.func87, Tryz.ntmps87
  go_wp2_with fail
  go_loopw [1, 5] (fun l0 i wr => ∃ (k q : Nat), k ≤ xs.length ∧ i = .int .i64 k ∧ l0 = .int .i64 q ∧ q ≤ 1048576 ∧ Hid (∀ j x, j < k → xs[j]? = some x → SZ 1048576 x) ∧ Hid (Below w.heap.size w wr)) (fun _ i _ => xs.length - (intOf i).toNat)
  case atStart => exact ⟨0, l - xs.length, by omega, rfl, by congr 1; omega, by omega, fun j x hj => by omega, Below.refl _ _⟩
  case round =>
    obtain ⟨k, q, hk, rfl, rfl, hq, HJ, HB⟩ := hrel
    by_cases hlt : k < xs.length
    · obtain ⟨x, hx⟩ := Rg.get_at hlt
      obtain ⟨b, off, rfl, hbl, u1, u2, c0, c1, c2, c3, c4, r0, r1⟩ := RowG.at (HR.out.below HB.out) rfl hx
      have HK : Hid (xs[k]? = some x) := hx
      have HX0 : Hid (Row wr u1 x.ps) := r0
      have HX1 : Hid (Row wr u2 x.cs) := r1
      have HMk : Hid (SZ maxLen x) := HM.out _ (mem_at hx)
      clear hx r0 r1
      go_wp2_with fail
      refine (szSlot_any x u1 u2 q wr hq HMk.out HX0.out HX1.out).mono ?_
      rintro e w2 ⟨⟨r, rfl, hr⟩, b2⟩
      have HB2 : Hid (Below w.heap.size w w2) := HB.out.trans (b2.mono HB.out.size)
      clear b2
      rcases hr with rfl | ⟨p, rfl, hp, hs⟩
      · go_wp2_with fail
        go_ret
        exact ⟨⟨_, rfl, .inl rfl⟩, HB2.out⟩
      · have HJ2 : Hid (∀ j y, j < k + 1 → xs[j]? = some y → SZ 1048576 y) := fun j y hj hy => by
          by_cases e : j = k
          · subst e
            rw [HK.out] at hy
            cases hy
            exact hs
          · exact HJ.out j y (by omega) hy
        have hp0 : ¬ (p : Int) < 0 := by omega
        clear hs
        go_wp2_with fail
        exact ⟨⟨k + 1, p, by omega, by go_num, rfl, by omega, HJ2, HB2⟩, by simp [intOf]; omega⟩
    · obtain rfl : k = xs.length := by omega
      go_wp2_with fail
      go_ret
      refine ⟨⟨_, rfl, .inr ⟨q, rfl, hq, by omega, fun x hx => ?_⟩⟩, HB.out⟩
      obtain ⟨j, hj, e⟩ := List.mem_iff_getElem.1 hx
      exact HJ.out j x hj (by rw [List.getElem?_eq_getElem hj, e])
set_option maxRecDepth 100000 in
set_option maxHeartbeats 800000 in
theorem szCertS_any (v : Value) (xs : List Cx) (l : Nat) (w : World) (h : RowC w v xs) (hm : ∀ x ∈ xs, CZ maxLen x) (hz : xs.length ≤ maxLen) (hl : l ≤ 1048576) :
    Calls Tryz.prog 88 #[v, .int .i64 l] w fun e w' => (∃ r : Int, e = .returned (.int .i64 r) ∧ (r = -1 ∨ ∃ q : Nat, r = q ∧ q ≤ 1048576 ∧ xs.length ≤ 1048576 ∧ ∀ x ∈ xs, CZ 1048576 x)) ∧ Below w.heap.size w w' := by
  have hz2 : xs.length ≤ 9223372036854775807 := by unfold maxLen at hz; omega
  have HM : Hid (∀ x ∈ xs, CZ maxLen x) := hm
  have HR : Hid (RowC w v xs) := h
  obtain ⟨a, cap, rfl⟩ := RowG.slice h
  clear hz hm h
  by_cases hb : (l : Int) < (xs.length : Int)
  · have hb' : (l : Int) - (xs.length : Int) < 0 := by omega
    go_enter Tryz.func88, Tryz.ntmps88
    go_wp2_with fail
    go_ret
    exact ⟨⟨_, rfl, .inl rfl⟩, Below.refl _ _⟩
  have hb' : ¬ (l : Int) - (xs.length : Int) < 0 := by omega
  go_enter Tryz.func88, Tryz.ntmps88
  go_wp2_with fail
  go_loopw [1, 5] (fun l0 i wr => ∃ (k q : Nat), k ≤ xs.length ∧ i = .int .i64 k ∧ l0 = .int .i64 q ∧ q ≤ 1048576 ∧ Hid (∀ j x, j < k → xs[j]? = some x → CZ 1048576 x) ∧ Hid (Below w.heap.size w wr)) (fun _ i _ => xs.length - (intOf i).toNat)
  case atStart => exact ⟨0, l - xs.length, by omega, rfl, by congr 1; omega, by omega, fun j x hj => by omega, Below.refl _ _⟩
  case round =>
    obtain ⟨k, q, hk, rfl, rfl, hq, HJ, HB⟩ := hrel
    by_cases hlt : k < xs.length
    · obtain ⟨x, hx⟩ := Rg.get_at hlt
      obtain ⟨b, off, rfl, hbl, u, c0, c1, r0⟩ := RowG.at (HR.out.below HB.out) rfl hx
      have HK : Hid (xs[k]? = some x) := hx
      have HX0 : Hid (Row wr u x.ms) := r0
      have HMk : Hid (CZ maxLen x) := HM.out _ (mem_at hx)
      clear hx r0
      go_wp2_with fail
      refine (szCert_any x u q wr hq HMk.out HX0.out).mono ?_
      rintro e w2 ⟨⟨r, rfl, hr⟩, b2⟩
      have HB2 : Hid (Below w.heap.size w w2) := HB.out.trans (b2.mono HB.out.size)
      clear b2
      rcases hr with rfl | ⟨p, rfl, hp, hs⟩
      · go_wp2_with fail
        go_ret
        exact ⟨⟨_, rfl, .inl rfl⟩, HB2.out⟩
      · have HJ2 : Hid (∀ j y, j < k + 1 → xs[j]? = some y → CZ 1048576 y) := fun j y hj hy => by
          by_cases e : j = k
          · subst e
            rw [HK.out] at hy
            cases hy
            exact hs
          · exact HJ.out j y (by omega) hy
        have hp0 : ¬ (p : Int) < 0 := by omega
        clear hs
        go_wp2_with fail
        exact ⟨⟨k + 1, p, by omega, by go_num, rfl, by omega, HJ2, HB2⟩, by simp [intOf]; omega⟩
    · obtain rfl : k = xs.length := by omega
      go_wp2_with fail
      go_ret
      refine ⟨⟨_, rfl, .inr ⟨q, rfl, hq, by omega, fun x hx => ?_⟩⟩, HB.out⟩
      obtain ⟨j, hj, e⟩ := List.mem_iff_getElem.1 hx
      exact HJ.out j x hj (by rw [List.getElem?_eq_getElem hj, e])
theorem Rl_val {a b : Int} (h : a = b) : Value.int .i64 a = .int .i64 b := by rw [h]
set_option maxRecDepth 100000 in
set_option maxHeartbeats 800000 in
theorem szTexts_any (v : Value) (ts : List ByteArray) (l : Nat) (w : World) (h : RowT w v ts) (hm : ∀ t ∈ ts, t.size ≤ maxLen) (hz : ts.length ≤ maxLen) (hl : l ≤ 1048576) :
    Calls Tryz.prog 89 #[v, .int .i64 l] w fun e w' => (∃ r : Int, e = .returned (.int .i64 r) ∧ (r = -1 ∨ ∃ q : Nat, r = q ∧ q ≤ 1048576 ∧ ts.length ≤ 1048576 ∧ ∀ t ∈ ts, t.size ≤ 1048576)) ∧ w = w' := by
  have hz2 : ts.length ≤ 9223372036854775807 := by unfold maxLen at hz; omega
  have HT : Hid (∀ i, i < ts.length → (tnth ts i).size ≤ maxLen) := fun i hi => hm _ (by unfold tnth; rw [List.getD_eq_getElem?_getD, List.getElem?_eq_getElem hi]; exact List.getElem_mem hi)
  obtain ⟨a, cap, rfl, h⟩ := h
  clear hz hm
  by_cases hb : (l : Int) < (ts.length : Int)
  · have hb' : (l : Int) - (ts.length : Int) < 0 := by omega
    go_enter Tryz.func89, Tryz.ntmps89
    go_wp2_with fail
    go_ret
    exact ⟨⟨_, rfl, .inl rfl⟩, rfl⟩
  have hb' : ¬ (l : Int) - (ts.length : Int) < 0 := by omega
  go_enter Tryz.func89, Tryz.ntmps89
  go_wp2_with fail
  go_loop [1, 5] (fun m i => ∃ k q : Nat, k ≤ ts.length ∧ i = .int .i64 k ∧ m = .int .i64 q ∧ q ≤ 1048576 ∧ Hid (∀ j, j < k → (tnth ts j).size ≤ 1048576)) (fun _ i => ts.length - (intOf i).toNat)
  case atStart => exact ⟨0, l - ts.length, by omega, rfl, by congr 1; omega, by omega, fun j hj => by omega⟩
  case round =>
    obtain ⟨k, q, hk, rfl, rfl, hq, HJ⟩ := hrel
    by_cases hlt : k < ts.length
    · rcases h with h | ⟨b, off, rfl, hc, hbw, hcell⟩
      · exact absurd hlt (by rw [h]; simp)
      have hc1 := hcell k hlt
      have hm := HT.out k hlt
      unfold maxLen at hm
      have HK : Hid (∀ s, (tnth ts k).size = s → s ≤ 1048576 → ∀ j, j < k + 1 → (tnth ts j).size ≤ 1048576) := fun s hs hs2 j hj => by
        by_cases e : j = k
        · subst e; omega
        · exact HJ.out j (by omega)
      generalize tnth ts k = t at hc1 hm HK
      clear hcell
      by_cases hbig : (q : Int) < (t.size : Int)
      · have hbig' : (q : Int) - (t.size : Int) < 0 := by omega
        go_wp2_with fail
        go_ret
        exact ⟨⟨_, rfl, .inl rfl⟩, rfl⟩
      · have hbig' : ¬ (q : Int) - (t.size : Int) < 0 := by omega
        have HQ : Hid ((q : Int) - (t.size : Int) = ((q - t.size : Nat) : Int)) := by show _ = _; omega
        have HS : Hid (∀ j, j < k + 1 → (tnth ts j).size ≤ 1048576) := HK.out _ rfl (by omega)
        go_wp2_with fail
        go_round
        case rel => exact ⟨k + 1, q - t.size, by omega, by go_num, Rl_val HQ.out, by omega, HS⟩
        case measure => simp [intOf]; omega
    · obtain rfl : k = ts.length := by omega
      go_wp2_with fail
      go_ret
      refine ⟨⟨_, rfl, .inr ⟨q, rfl, hq, by omega, fun t ht => ?_⟩⟩, rfl⟩
      obtain ⟨j, hj, e⟩ := List.mem_iff_getElem.1 ht
      have := HJ.out j hj
      unfold tnth at this
      rw [List.getD_eq_getElem?_getD, List.getElem?_eq_getElem hj, e] at this
      exact this
set_option maxRecDepth 100000 in
set_option maxHeartbeats 800000 in
theorem szReplica_any (r : Rp) (vs vc vl vh : Value) (w : World) (h : RepR w r vs vc vl vh) (hz : Zr maxLen r) (l : Nat) (hl : l ≤ 1048576) :
    Calls Tryz.prog 59 #[repV r vs vc vl vh, .int .i64 l] w fun e w' => (∃ q : Int, e = .returned (.int .i64 q) ∧ (q = -1 ∨ ∃ p : Nat, q = p ∧ p ≤ 1048576 ∧ Zr 1048576 r)) ∧ Below w.heap.size w w' := by
  have HR : Hid (RepR w r vs vc vl vh) := h
  have HZ : Hid (Zr maxLen r) := hz
  clear h hz
  unfold repV
  have HB0 : Hid (Below w.heap.size w (w.alloc (.cells #[.int .i64 r.id, .int .i64 r.n, .int .i64 r.vw, .bool r.ac, vs, vc, vl, vh] 93))) := bel_new _ _
  have HC : Hid (∀ W, Below (w.alloc (.cells #[.int .i64 r.id, .int .i64 r.n, .int .i64 r.vw, .bool r.ac, vs, vc, vl, vh] 93)).heap.size (w.alloc (.cells #[.int .i64 r.id, .int .i64 r.n, .int .i64 r.vw, .bool r.ac, vs, vc, vl, vh] 93)) W → W.cell? ⟨w.heap.size, 4, none⟩ = some vs ∧ W.cell? ⟨w.heap.size, 5, none⟩ = some vc ∧ W.cell? ⟨w.heap.size, 6, none⟩ = some vl ∧ W.cell? ⟨w.heap.size, 7, none⟩ = some vh) := fun W hW => by
    have h1 := (hW.block w.heap.size (by simp)).trans (heap_alloc_new w _)
    exact ⟨(blk_cell h1 4 rfl).1, (blk_cell h1 5 rfl).1, (blk_cell h1 6 rfl).1, (blk_cell h1 7 rfl).1⟩
  go_enter Tryz.func59, Tryz.ntmps59
  go_upto_region 1 with fail
  generalize w.alloc (.cells #[.int .i64 r.id, .int .i64 r.n, .int .i64 r.vw, .bool r.ac, vs, vc, vl, vh] 93) = wb at HB0 HC ⊢
  obtain ⟨c4, c5, c6, c7⟩ := HC.out wb (Below.refl _ _)
  go_wp2_with fail
  refine (szSlotS_any vs r.ss l wb (HR.out.s.below HB0.out) HZ.out.sz HZ.out.s hl).mono ?_
  rintro e w1 ⟨⟨r1, rfl, hr⟩, b1⟩
  have D1 : Hid (Below wb.heap.size wb w1) := b1
  have B1 : Hid (Below w.heap.size w w1) := HB0.out.trans (b1.mono HB0.out.size)
  clear b1 c4 c5 c6 c7
  rcases hr with rfl | ⟨q1, rfl, hq1, y1, z1⟩
  · go_wp2_with fail
    go_ret
    exact ⟨⟨_, rfl, .inl rfl⟩, B1.out⟩
  have Z1 : Hid (r.ss.length ≤ 1048576 ∧ ∀ x ∈ r.ss, SZ 1048576 x) := ⟨y1, z1⟩
  have hp1 : ¬ (q1 : Int) < 0 := by omega
  clear y1 z1
  obtain ⟨c4, c5, c6, c7⟩ := HC.out w1 D1.out
  go_wp2_with fail
  refine (szCertS_any vc r.cs q1 w1 (HR.out.c.below B1.out) HZ.out.cz HZ.out.c hq1).mono ?_
  rintro e w2 ⟨⟨r1, rfl, hr⟩, b2⟩
  have D2 : Hid (Below wb.heap.size wb w2) := D1.out.trans (b2.mono D1.out.size)
  have B2 : Hid (Below w.heap.size w w2) := B1.out.trans (b2.mono B1.out.size)
  clear b2 c4 c5 c6 c7
  rcases hr with rfl | ⟨q2, rfl, hq2, y2, z2⟩
  · go_wp2_with fail
    go_ret
    exact ⟨⟨_, rfl, .inl rfl⟩, B2.out⟩
  have Z2 : Hid (r.cs.length ≤ 1048576 ∧ ∀ x ∈ r.cs, CZ 1048576 x) := ⟨y2, z2⟩
  have hp2 : ¬ (q2 : Int) < 0 := by omega
  clear y2 z2
  obtain ⟨c4, c5, c6, c7⟩ := HC.out w2 D2.out
  go_wp2_with fail
  refine (szTexts_any vl r.lg q2 w2 (HR.out.l.below B2.out) HZ.out.lz HZ.out.l hq2).mono ?_
  rintro e w3 ⟨⟨r1, rfl, hr⟩, rfl⟩
  rcases hr with rfl | ⟨q3, rfl, hq3, y3, z3⟩
  · go_wp2_with fail
    go_ret
    exact ⟨⟨_, rfl, .inl rfl⟩, B2.out⟩
  have Z3 : Hid (r.lg.length ≤ 1048576 ∧ ∀ t ∈ r.lg, t.size ≤ 1048576) := ⟨y3, z3⟩
  have hp3 : ¬ (q3 : Int) < 0 := by omega
  clear y3 z3
  go_wp2_with fail
  refine (szS_any vh r.ch q3 w2 (HR.out.h.below B2.out) HZ.out.hz HZ.out.h hq3).mono ?_
  rintro e w4 ⟨⟨r1, rfl, hr⟩, b4⟩
  have B4 : Hid (Below w.heap.size w w4) := B2.out.trans (b4.mono B2.out.size)
  clear b4 c4 c5 c6 c7
  rcases hr with rfl | ⟨q4, rfl, hq4, y4, z4⟩
  · go_wp2_with fail
    go_ret
    exact ⟨⟨_, rfl, .inl rfl⟩, B4.out⟩
  have Z4 : Hid (r.ch.length ≤ 1048576 ∧ ∀ x ∈ r.ch, Tz 1048576 x) := ⟨y4, z4⟩
  have hp4 : ¬ (q4 : Int) < 0 := by omega
  clear y4 z4
  go_wp2_with fail
  go_ret
  exact ⟨⟨_, rfl, .inr ⟨q4, rfl, hq4, ⟨Z1.out.1, Z1.out.2, Z2.out.1, Z2.out.2, Z3.out.1, Z3.out.2, Z4.out.1, Z4.out.2⟩⟩⟩, B4.out⟩
end Go.Proofs.YtondmbeccpekiaaGreatDoor.Yr

/- Groups measured. -/
namespace Go.Proofs.YtondmbeccpekiaaGreatDoor.Zg
open Go.RowKit Go.Proofs.YtondmbeccpekiaaGreatDoor.Rg Go.Proofs.YtondmbeccpekiaaGreatDoor.Gm Go.Proofs.YtondmbeccpekiaaGreatDoor.Ty Go.Proofs.YtondmbeccpekiaaGreatDoor.Yr
set_option maxRecDepth 100000 in
set_option maxHeartbeats 1600000 in
theorem szParcel_any (x : Pc) (l : Nat) (w : World) (hl : l ≤ 1048576) (hz : Tz maxLen x.m) :
    Calls Tryz.prog 60 #[pcV x, .int .i64 l] w fun e w' => (∃ r : Int, e = .returned (.int .i64 r) ∧ (r = -1 ∨ ∃ q : Nat, r = q ∧ q ≤ 1048576 ∧ Tz 1048576 x.m)) ∧ Below w.heap.size w w' := by
  have HC := sz1_any x.m l (w.alloc (.cells #[.int .i64 x.t, .int .i64 x.m.kd, .int .i64 x.m.vw, .int .i64 x.m.sq, .int .i64 x.m.fr, .string x.m.dg, .string x.m.bd, .string x.m.mc] 97)) hl hz
  have HB1 : Hid (Below w.heap.size w (w.alloc (.cells #[.int .i64 x.t, .int .i64 x.m.kd, .int .i64 x.m.vw, .int .i64 x.m.sq, .int .i64 x.m.fr, .string x.m.dg, .string x.m.bd, .string x.m.mc] 97))) := bel_new _ _
  unfold oneV at HC
  unfold pcV
  clear hz
  go_enter Tryz.func60, Tryz.ntmps60
  go_wp2_with fail
  refine HC.mono ?_
  rintro e w2 ⟨⟨r, rfl, hr⟩, b2⟩
  have HB2 : Hid (Below w.heap.size w w2) := HB1.out.trans (b2.mono HB1.out.size)
  clear b2 HC
  rcases hr with rfl | ⟨p, rfl, hp1, hp2⟩
  · go_wp2_with fail
    go_ret
    exact ⟨⟨_, rfl, .inl rfl⟩, HB2.out⟩
  · have hp0 : ¬ (p : Int) < 0 := by omega
    have HP : Hid (Tz 1048576 x.m) := by
      show Tz 1048576 x.m
      unfold Tz at hp2 ⊢
      omega
    clear hp2
    go_wp2_with fail
    go_ret
    exact ⟨⟨_, rfl, .inr ⟨p, rfl, by omega, HP.out⟩⟩, HB2.out⟩
set_option maxRecDepth 100000 in
set_option maxHeartbeats 1600000 in
theorem szParcelS_any (v : Value) (xs : List Pc) (l : Nat) (w : World) (h : RowP w v xs) (hm : ∀ x ∈ xs, Tz maxLen x.m) (hz : xs.length ≤ maxLen) (hl : l ≤ 1048576) :
    Calls Tryz.prog 24 #[v, .int .i64 l] w fun e w' => (∃ r : Int, e = .returned (.int .i64 r) ∧ (r = -1 ∨ ∃ q : Nat, r = q ∧ q ≤ 1048576 ∧ xs.length ≤ 1048576 ∧ ∀ x ∈ xs, Tz 1048576 x.m)) ∧ Below w.heap.size w w' := by
  have hz2 : xs.length ≤ 9223372036854775807 := by unfold maxLen at hz; omega
  have HM : Hid (∀ x ∈ xs, Tz maxLen x.m) := hm
  have HR : Hid (RowP w v xs) := h
  obtain ⟨a, cap, rfl⟩ := RowG.slice h
  clear hz hm h
  by_cases hb : (l : Int) < (xs.length : Int)
  · have hb' : (l : Int) - (xs.length : Int) < 0 := by omega
    go_enter Tryz.func24, Tryz.ntmps24
    go_wp2_with fail
    go_ret
    exact ⟨⟨_, rfl, .inl rfl⟩, Below.refl _ _⟩
  have hb' : ¬ (l : Int) - (xs.length : Int) < 0 := by omega
  go_enter Tryz.func24, Tryz.ntmps24
  go_wp2_with fail
  go_loopw [1, 5] (fun l0 i wr => ∃ (k q : Nat), k ≤ xs.length ∧ i = .int .i64 k ∧ l0 = .int .i64 q ∧ q ≤ 1048576 ∧ Hid (∀ j x, j < k → xs[j]? = some x → Tz 1048576 x.m) ∧ Hid (Below w.heap.size w wr)) (fun _ i _ => xs.length - (intOf i).toNat)
  case atStart => exact ⟨0, l - xs.length, by omega, rfl, by congr 1; omega, by omega, fun j x hj => by omega, Below.refl _ _⟩
  case round =>
    obtain ⟨k, q, hk, rfl, rfl, hq, HJ, HB⟩ := hrel
    by_cases hlt : k < xs.length
    · obtain ⟨x, hx⟩ := Rg.get_at hlt
      obtain ⟨b, off, rfl, hbl, c0, c1, c2, c3, c4, c5, c6, c7⟩ := RowG.at (HR.out.below HB.out) rfl hx
      have HK : Hid (xs[k]? = some x) := hx
      have HMk : Hid (Tz maxLen x.m) := HM.out _ (mem_at hx)
      clear hx
      go_wp2_with fail
      refine (szParcel_any x q wr hq HMk.out).mono ?_
      rintro e w2 ⟨⟨r, rfl, hr⟩, b2⟩
      have HB2 : Hid (Below w.heap.size w w2) := HB.out.trans (b2.mono HB.out.size)
      clear b2
      rcases hr with rfl | ⟨p, rfl, hp, hs⟩
      · go_wp2_with fail
        go_ret
        exact ⟨⟨_, rfl, .inl rfl⟩, HB2.out⟩
      · have HJ2 : Hid (∀ j x, j < k + 1 → xs[j]? = some x → Tz 1048576 x.m) := fun j y hj hy => by
          by_cases e : j = k
          · subst e
            rw [HK.out] at hy
            cases hy
            exact hs
          · exact HJ.out j y (by omega) hy
        have hp0 : ¬ (p : Int) < 0 := by omega
        clear hs
        go_wp2_with fail
        exact ⟨⟨k + 1, p, by omega, by go_num, rfl, by omega, HJ2, HB2⟩, by simp [intOf]; omega⟩
    · obtain rfl : k = xs.length := by omega
      go_wp2_with fail
      go_ret
      refine ⟨⟨_, rfl, .inr ⟨q, rfl, hq, by omega, fun x hx => ?_⟩⟩, HB.out⟩
      obtain ⟨j, hj, e⟩ := List.mem_iff_getElem.1 hx
      exact HJ.out j x hj (by rw [List.getElem?_eq_getElem hj, e])
set_option maxRecDepth 100000 in
set_option maxHeartbeats 1600000 in
theorem szReplicaS_any (v : Value) (xs : List Rp) (l : Nat) (w : World) (h : RowR w v xs) (hm : ∀ x ∈ xs, Zr maxLen x) (hz : xs.length ≤ maxLen) (hl : l ≤ 1048576) :
    Calls Tryz.prog 23 #[v, .int .i64 l] w fun e w' => (∃ r : Int, e = .returned (.int .i64 r) ∧ (r = -1 ∨ ∃ q : Nat, r = q ∧ q ≤ 1048576 ∧ xs.length ≤ 1048576 ∧ ∀ x ∈ xs, Zr 1048576 x)) ∧ Below w.heap.size w w' := by
  have hz2 : xs.length ≤ 9223372036854775807 := by unfold maxLen at hz; omega
  have HM : Hid (∀ x ∈ xs, Zr maxLen x) := hm
  have HR : Hid (RowR w v xs) := h
  obtain ⟨a, cap, rfl⟩ := RowG.slice h
  clear hz hm h
  by_cases hb : (l : Int) < (xs.length : Int)
  · have hb' : (l : Int) - (xs.length : Int) < 0 := by omega
    go_enter Tryz.func23, Tryz.ntmps23
    go_wp2_with fail
    go_ret
    exact ⟨⟨_, rfl, .inl rfl⟩, Below.refl _ _⟩
  have hb' : ¬ (l : Int) - (xs.length : Int) < 0 := by omega
  go_enter Tryz.func23, Tryz.ntmps23
  go_wp2_with fail
  go_loopw [1, 5] (fun l0 i wr => ∃ (k q : Nat), k ≤ xs.length ∧ i = .int .i64 k ∧ l0 = .int .i64 q ∧ q ≤ 1048576 ∧ Hid (∀ j x, j < k → xs[j]? = some x → Zr 1048576 x) ∧ Hid (Below w.heap.size w wr)) (fun _ i _ => xs.length - (intOf i).toNat)
  case atStart => exact ⟨0, l - xs.length, by omega, rfl, by congr 1; omega, by omega, fun j x hj => by omega, Below.refl _ _⟩
  case round =>
    obtain ⟨k, q, hk, rfl, rfl, hq, HJ, HB⟩ := hrel
    by_cases hlt : k < xs.length
    · obtain ⟨x, hx⟩ := Rg.get_at hlt
      obtain ⟨b, off, rfl, hbl, vs, vc, vl, vh, c0, c1, c2, c3, c4, c5, c6, c7, hrr⟩ := RowG.at (HR.out.below HB.out) rfl hx
      have HK : Hid (xs[k]? = some x) := hx
      have HRR : Hid (RepR wr x vs vc vl vh) := hrr
      have HMk : Hid (Zr maxLen x) := HM.out _ (mem_at hx)
      clear hx hrr
      go_wp2_with fail
      refine (szReplica_any x vs vc vl vh wr HRR.out HMk.out q hq).mono ?_
      rintro e w2 ⟨⟨r, rfl, hr⟩, b2⟩
      have HB2 : Hid (Below w.heap.size w w2) := HB.out.trans (b2.mono HB.out.size)
      clear b2
      rcases hr with rfl | ⟨p, rfl, hp, hs⟩
      · go_wp2_with fail
        go_ret
        exact ⟨⟨_, rfl, .inl rfl⟩, HB2.out⟩
      · have HJ2 : Hid (∀ j x, j < k + 1 → xs[j]? = some x → Zr 1048576 x) := fun j y hj hy => by
          by_cases e : j = k
          · subst e
            rw [HK.out] at hy
            cases hy
            exact hs
          · exact HJ.out j y (by omega) hy
        have hp0 : ¬ (p : Int) < 0 := by omega
        clear hs
        go_wp2_with fail
        exact ⟨⟨k + 1, p, by omega, by go_num, rfl, by omega, HJ2, HB2⟩, by simp [intOf]; omega⟩
    · obtain rfl : k = xs.length := by omega
      go_wp2_with fail
      go_ret
      refine ⟨⟨_, rfl, .inr ⟨q, rfl, hq, by omega, fun x hx => ?_⟩⟩, HB.out⟩
      obtain ⟨j, hj, e⟩ := List.mem_iff_getElem.1 hx
      exact HJ.out j x hj (by rw [List.getElem?_eq_getElem hj, e])
set_option maxRecDepth 100000 in
set_option maxHeartbeats 1600000 in
theorem szNodes_any (v : Value) (xs : List Int) (l : Nat) (w : World) (h : RowN w v xs) (hz : xs.length ≤ maxLen) (hl : l ≤ 1048576) :
    Calls Tryz.prog 22 #[v, .int .i64 l] w fun e w' => (∃ r : Int, e = .returned (.int .i64 r) ∧ (r = -1 ∨ ∃ q : Nat, r = q ∧ q ≤ 1048576 ∧ xs.length ≤ 1048576)) ∧ w = w' := by
  have hz2 : xs.length ≤ 9223372036854775807 := by unfold maxLen at hz; omega
  obtain ⟨a, cap, rfl⟩ := RowG.slice h
  clear hz h
  by_cases hb : (l : Int) < (xs.length : Int)
  · have hb' : (l : Int) - (xs.length : Int) < 0 := by omega
    go_enter Tryz.func22, Tryz.ntmps22
    go_wp2_with fail
    go_ret
    exact ⟨⟨_, rfl, .inl rfl⟩, rfl⟩
  have hb' : ¬ (l : Int) - (xs.length : Int) < 0 := by omega
  have HQ : Hid ((l : Int) - (xs.length : Int) = ((l - xs.length : Nat) : Int)) := by show _ = _; omega
  go_enter Tryz.func22, Tryz.ntmps22
  go_wp2_with fail
  go_ret
  exact ⟨⟨_, rfl, .inr ⟨l - xs.length, HQ.out, by omega, by omega⟩⟩, rfl⟩
set_option maxRecDepth 100000 in
set_option maxHeartbeats 1600000 in
theorem szGroup_any (g : Gp) (vf vr vw vs : Value) (w : World) (h : GrpR w g vf vr vw vs) (hz : Zq maxLen g) :
    Calls Tryz.prog 7 #[gpV g vf vr vw vs, .int .i64 1048576] w fun e w' => (∃ q : Int, e = .returned (.int .i64 q) ∧ (q = -1 ∨ ∃ p : Nat, q = p ∧ p ≤ 1048576 ∧ Zq 1048576 g)) ∧ Below w.heap.size w w' := by
  have HR : Hid (GrpR w g vf vr vw vs) := h
  have HZ : Hid (Zq maxLen g) := hz
  clear h hz
  unfold gpV
  have HB0 : Hid (Below w.heap.size w (w.alloc (.cells #[.int .i64 g.n, vf, vr, vw, vs] 27))) := bel_new _ _
  have HC : Hid (∀ W, Below (w.alloc (.cells #[.int .i64 g.n, vf, vr, vw, vs] 27)).heap.size (w.alloc (.cells #[.int .i64 g.n, vf, vr, vw, vs] 27)) W → W.cell? ⟨w.heap.size, 1, none⟩ = some vf ∧ W.cell? ⟨w.heap.size, 2, none⟩ = some vr ∧ W.cell? ⟨w.heap.size, 3, none⟩ = some vw ∧ W.cell? ⟨w.heap.size, 4, none⟩ = some vs) := fun W hW => by
    have h1 := (hW.block w.heap.size (by simp)).trans (heap_alloc_new w _)
    exact ⟨(blk_cell h1 1 rfl).1, (blk_cell h1 2 rfl).1, (blk_cell h1 3 rfl).1, (blk_cell h1 4 rfl).1⟩
  go_enter Tryz.func7, Tryz.ntmps7
  go_upto_region 1 with fail
  generalize w.alloc (.cells #[.int .i64 g.n, vf, vr, vw, vs] 27) = wb at HB0 HC ⊢
  obtain ⟨c1, c2, c3, c4⟩ := HC.out wb (Below.refl _ _)
  go_wp2_with fail
  refine (szNodes_any vf g.fa 1048576 wb (HR.out.f.below HB0.out) HZ.out.f (by decide)).mono ?_
  rintro e w1 ⟨⟨r1, rfl, hr⟩, rfl⟩
  rcases hr with rfl | ⟨q1, rfl, hq1, y1⟩
  · go_wp2_with fail
    go_ret
    exact ⟨⟨_, rfl, .inl rfl⟩, HB0.out⟩
  have Z1 : Hid (g.fa.length ≤ 1048576) := y1
  have hp1 : ¬ (q1 : Int) < 0 := by omega
  clear y1
  go_wp2_with fail
  refine (szReplicaS_any vr g.rs q1 wb (HR.out.r.below HB0.out) HZ.out.rz HZ.out.r hq1).mono ?_
  rintro e w2 ⟨⟨r1, rfl, hr⟩, b2⟩
  have D2 : Hid (Below wb.heap.size wb w2) := b2
  have B2 : Hid (Below w.heap.size w w2) := HB0.out.trans (b2.mono HB0.out.size)
  clear b2 c1 c2 c3 c4
  rcases hr with rfl | ⟨q2, rfl, hq2, y2, z2⟩
  · go_wp2_with fail
    go_ret
    exact ⟨⟨_, rfl, .inl rfl⟩, B2.out⟩
  have Z2 : Hid (g.rs.length ≤ 1048576 ∧ ∀ x ∈ g.rs, Zr 1048576 x) := ⟨y2, z2⟩
  have hp2 : ¬ (q2 : Int) < 0 := by omega
  clear y2 z2
  obtain ⟨c1, c2, c3, c4⟩ := HC.out w2 D2.out
  go_wp2_with fail
  refine (szParcelS_any vw g.wi q2 w2 (HR.out.p.below B2.out) HZ.out.pz HZ.out.p hq2).mono ?_
  rintro e w3 ⟨⟨r1, rfl, hr⟩, b3⟩
  have D3 : Hid (Below wb.heap.size wb w3) := D2.out.trans (b3.mono D2.out.size)
  have B3 : Hid (Below w.heap.size w w3) := B2.out.trans (b3.mono B2.out.size)
  clear b3 c1 c2 c3 c4
  rcases hr with rfl | ⟨q3, rfl, hq3, y3, z3⟩
  · go_wp2_with fail
    go_ret
    exact ⟨⟨_, rfl, .inl rfl⟩, B3.out⟩
  have Z3 : Hid (g.wi.length ≤ 1048576 ∧ ∀ x ∈ g.wi, Tz 1048576 x.m) := ⟨y3, z3⟩
  have hp3 : ¬ (q3 : Int) < 0 := by omega
  clear y3 z3
  obtain ⟨c1, c2, c3, c4⟩ := HC.out w3 D3.out
  go_wp2_with fail
  refine (szS_any vs g.se q3 w3 (HR.out.s.below B3.out) HZ.out.sz HZ.out.s hq3).mono ?_
  rintro e w4 ⟨⟨r1, rfl, hr⟩, b4⟩
  have B4 : Hid (Below w.heap.size w w4) := B3.out.trans (b4.mono B3.out.size)
  clear b4 c1 c2 c3 c4
  rcases hr with rfl | ⟨q4, rfl, hq4, y4, z4⟩
  · go_wp2_with fail
    go_ret
    exact ⟨⟨_, rfl, .inl rfl⟩, B4.out⟩
  have Z4 : Hid (g.se.length ≤ 1048576 ∧ ∀ x ∈ g.se, Tz 1048576 x) := ⟨y4, z4⟩
  have hp4 : ¬ (q4 : Int) < 0 := by omega
  clear y4 z4
  go_wp2_with fail
  go_ret
  exact ⟨⟨_, rfl, .inr ⟨q4, rfl, hq4, ⟨Z1.out, Z2.out.1, Z2.out.2, Z3.out.1, Z3.out.2, Z4.out.1, Z4.out.2⟩⟩⟩, B4.out⟩
end Go.Proofs.YtondmbeccpekiaaGreatDoor.Zg
