/- New groups: what is answered; groups alike. -/
import Derived.Test.YtgkcfngejnfinaaNge
namespace Go.Proofs.Ytgkcfngejnfinaa.Ng
open Go.RowKit Go.Proofs.Ytgkcfngejnfinaa.Rg Go.Proofs.Ytgkcfngejnfinaa.Tm Go.Proofs.Ytgkcfngejnfinaa.Nr Go.Proofs.Ytgkcfngejnfinaa.Is
open Go.Proofs.Ytgkcfngejnfinaa.So hiding bel_new
open Go.Proofs.Ytgkcfngejnfinaa.Sl (nth)
open Go.Proofs.Ytgkcfngejnfinaa.Qm (inB)
theorem two {w w1 : World} {o0 o1 : Obj} (b : Below ((w.alloc o0).alloc o1).heap.size ((w.alloc o0).alloc o1) w1) : w1.heap[w.heap.size]? = some o0 ∧ w1.heap[w.heap.size + 1]? = some o1 ∧ Below w.heap.size w w1 := by
  have e1 : (w.alloc o0).heap.size = w.heap.size + 1 := Rg.size_new _ _
  have e2 : ((w.alloc o0).alloc o1).heap.size = w.heap.size + 1 + 1 := by rw [Rg.size_new, e1]
  have b1 : Below w.heap.size w ((w.alloc o0).alloc o1) := ((Below.refl _ _).alloc (Nat.le_refl _) _).alloc (by rw [e1]; omega) _
  rw [e2] at b
  refine ⟨?_, ?_, b1.trans (b.mono (by omega))⟩
  · rw [b.block _ (by omega), Below.heap_alloc _ _ _ (by omega)]; exact heap_alloc_new w _
  · rw [b.block _ (by omega), ← e1]; exact heap_alloc_new _ _
set_option maxHeartbeats 400000 in
theorem markPar_nil (a : Int) (ad : Option Addr) (cap : Nat) (w : World) : Calls Try.prog 22 #[.slice ad 0 cap, .int .i64 a] w fun e w' => e = .returned (.int .i64 a) ∧ w = w' := by
  go_enter Try.func22, Try.ntmps22
  go_wp2_with fail
  go_loopw [1, 5] (fun k i wr => k = .int .i64 a ∧ i = .int .i64 0 ∧ wr = w) (fun _ _ _ => 0)
  case atStart => exact ⟨rfl, rfl, rfl⟩
  case round =>
    obtain ⟨rfl, rfl, rfl⟩ := hrel
    go_wp2
    go_ret
    exact ⟨rfl, rfl⟩
set_option maxHeartbeats 400000 in
theorem heldPar_nil (a : Int) (ad : Option Addr) (cap : Nat) (w : World) : Calls Try.prog 26 #[.slice ad 0 cap, .int .i64 a] w fun e w' => e = .returned (.int .i64 a) ∧ w = w' := by
  go_enter Try.func26, Try.ntmps26
  go_wp2_with fail
  go_loopw [1, 5] (fun k i wr => k = .int .i64 a ∧ i = .int .i64 0 ∧ wr = w) (fun _ _ _ => 0)
  case atStart => exact ⟨rfl, rfl, rfl⟩
  case round =>
    obtain ⟨rfl, rfl, rfl⟩ := hrel
    go_wp2
    go_ret
    exact ⟨rfl, rfl⟩
set_option maxHeartbeats 400000 in
theorem eqPar_nil (a a' : Option Addr) (c c' : Nat) (w : World) : Calls Try.prog 19 #[.slice a 0 c, .slice a' 0 c'] w fun e w' => e = .returned (.bool true) ∧ w = w' := by
  go_enter Try.func19, Try.ntmps19
  go_wp2_with fail
  go_loopw [5] (fun i wr => i = .int .i64 0 ∧ wr = w) (fun _ _ => 0)
  case atStart => exact ⟨rfl, rfl⟩
  case round =>
    obtain ⟨rfl, rfl⟩ := hrel
    go_wp2
    go_ret
    exact ⟨rfl, rfl⟩
noncomputable def gC (n : Int) (xs : List Int) : Int := if 4096 < xs.length then 2 else if faB n xs = true then 0 else 4
noncomputable def gN (n : Int) (xs : List Int) : Int := if gC n xs = 0 then n else 0
noncomputable def gX (n : Int) (xs : List Int) : List Int := if gC n xs = 0 then xs else []
theorem g_ok {n : Int} {xs : List Int} (h : xs.length ≤ 4096) (hf : faB n xs = true) : gC n xs = 0 ∧ gN n xs = n ∧ gX n xs = xs := by
  have h0 : gC n xs = 0 := by unfold gC; rw [if_neg (by omega), if_pos hf]
  unfold gN gX
  rw [if_pos h0, if_pos h0]
  exact ⟨h0, rfl, rfl⟩
theorem g_long {n : Int} {xs : List Int} (h : 4096 < xs.length) : gC n xs = 2 ∧ gN n xs = 0 ∧ gX n xs = [] := by
  have h0 : gC n xs = 2 := by unfold gC; rw [if_pos h]
  unfold gN gX
  rw [h0]
  exact ⟨rfl, rfl, rfl⟩
theorem g_bad {n : Int} {xs : List Int} (h : xs.length ≤ 4096) (hf : faB n xs = false) : gC n xs = 4 ∧ gN n xs = 0 ∧ gX n xs = [] := by
  have h0 : gC n xs = 4 := by unfold gC; rw [if_neg (by omega), if_neg (by rw [hf]; decide)]
  unfold gN gX
  rw [h0]
  exact ⟨rfl, rfl, rfl⟩
theorem g_small (n : Int) (xs : List Int) : (0 ≤ gN n xs ∧ gN n xs ≤ 7) ∧ (gX n xs).length ≤ 2 ∧ ∀ x ∈ gX n xs, x ∈ xs := by
  by_cases h : 4096 < xs.length
  · obtain ⟨_, h1, h2⟩ := g_long (n := n) h
    rw [h1, h2]
    exact ⟨by decide, by decide, fun x hx => by simp at hx⟩
  · cases hf : faB n xs with
    | false =>
      obtain ⟨_, h1, h2⟩ := g_bad (n := n) (by omega) hf
      rw [h1, h2]
      exact ⟨by decide, by decide, fun x hx => by simp at hx⟩
    | true =>
      obtain ⟨_, h1, h2⟩ := g_ok (n := n) (by omega) hf
      rw [h1, h2]
      obtain ⟨k1, k2⟩ := bOf_iff.1 hf
      have k3 := f_small k1
      have k4 := f_out k1
      have k5 := k2.1
      exact ⟨by omega, by omega, fun x hx => hx⟩
set_option maxRecDepth 100000 in
set_option maxHeartbeats 3200000 in
theorem implNewGroup_any (n : Int) (v : Value) (xs : List Int) (w : World) (h : RowI w v xs) :
    Calls Try.prog 6 #[.int .i64 n, v] w fun e w' => ∃ af kf ar kr, e = .returned (.tuple #[.agg #[.int .i64 (gN n xs), .slice af (gX n xs).length kf, .slice ar (gN n xs).toNat kr, .slice none 0 0, .slice none 0 0], .int .i64 (gC n xs)]) ∧ (∃ ps, OwnI w' w.heap.size (.slice af (gX n xs).length kf) (gX n xs) ∧ OwnQ w' w.heap.size (.slice ar (gN n xs).toNat kr) ps ∧ ps.length = (gN n xs).toNat ∧ ImpP w.heap.size w' (gN n xs) ps ∧ Apart ps) ∧ Below w.heap.size w w' := by
  by_cases hl : 4096 < xs.length
  · obtain ⟨k1, k2, k3⟩ := g_long (n := n) hl
    rw [k1, k2, k3]
    have H0 : Hid (∀ o, Below w.heap.size w (w.alloc o)) := fun o => bel_new _ _
    obtain ⟨a0, c0, rfl, _⟩ := h
    have hl' : (4096 : Int) < (xs.length : Int) := by omega
    clear k1 k2 k3 hl
    go_enter Try.func6, Try.ntmps6
    go_wp2_with fail
    exact bodyPost_ret (v := .tuple #[.agg #[.int .i64 0, .slice none 0 0, .slice none 0 0, .slice none 0 0, .slice none 0 0], .int .i64 2]) (by simp [results, Try.results6, go_sem]) rfl ⟨none, 0, none, 0, rfl, ⟨[], World.ownsRow_nil _ _ _ _, OwnQ.nil _ _, rfl, fun k p hp => by simp at hp, fun k l p q _ hp => by simp at hp⟩, H0.out _⟩
  cases hf : faB n xs with
  | false =>
    obtain ⟨k1, k2, k3⟩ := g_bad (n := n) (by omega) hf
    rw [k1, k2, k3]
    have H0 : Hid (∀ o, Below w.heap.size w (w.alloc o)) := fun o => bel_new _ _
    have HFO := faultyOK_any n v xs (w.alloc (.cells #[.int .i64 0, .slice none 0 0, .slice none 0 0, .slice none 0 0, .slice none 0 0] 27)) (rowN (h.below (bel_new _ _))) (by omega)
    rw [hf] at HFO
    obtain ⟨a0, c0, rfl, _⟩ := h
    have hl' : ¬ (4096 : Int) < (xs.length : Int) := by omega
    clear k1 k2 k3 hl hf
    go_enter Try.func6, Try.ntmps6
    go_wp2_with fail
    refine HFO.mono ?_
    rintro e _ ⟨rfl, rfl⟩
    clear HFO
    go_wp2_with fail
    exact bodyPost_ret (v := .tuple #[.agg #[.int .i64 0, .slice none 0 0, .slice none 0 0, .slice none 0 0, .slice none 0 0], .int .i64 4]) (by simp [results, Try.results6, go_sem]) rfl ⟨none, 0, none, 0, rfl, ⟨[], World.ownsRow_nil _ _ _ _, OwnQ.nil _ _, rfl, fun k p hp => by simp at hp, fun k l p q _ hp => by simp at hp⟩, H0.out _⟩
  | true =>
    obtain ⟨k1, k2, k3⟩ := g_ok (n := n) (by omega) hf
    rw [k1, k2, k3]
    exact implNG_ok n v xs w h (by omega) hf
set_option maxRecDepth 100000 in
set_option maxHeartbeats 3200000 in
theorem specNewGroup_any (n : Int) (b off cap : Nat) (xs : List Int) (w : World) (hb : b < w.heap.size) (hc : ∀ i, i < xs.length → w.cell? ⟨b, off + i, none⟩ = some (.int .i64 (nth xs i))) (hr : RowI w (.slice (some ⟨b, off, none⟩) xs.length cap) xs) :
    Calls Try.prog 4 #[.int .i64 n, .slice (some ⟨b, off, none⟩) xs.length cap] w fun e w' => ∃ af kf ar kr g3 g4, e = .returned (.tuple #[.agg #[.int .i64 (gN n xs), .slice af (gX n xs).length kf, .slice ar (gN n xs).toNat kr, .slice g3 0 0, .slice g4 0 0], .int .i64 (gC n xs)]) ∧ (∃ ps, OwnI w' w.heap.size (.slice af (gX n xs).length kf) (gX n xs) ∧ OwnQ w' w.heap.size (.slice ar (gN n xs).toNat kr) ps ∧ ps.length = (gN n xs).toNat ∧ SpP w.heap.size w' (gN n xs) ps) ∧ Below w.heap.size w w' := by
  have H0 : Hid (∀ o, Below w.heap.size w (w.alloc o)) := fun o => bel_new _ _
  have HZ : Hid ((w.alloc (.cells #[.int .i64 0, .slice none 0 0, .slice none 0 0, .slice none 0 0, .slice none 0 0] 27)).heap[w.heap.size]? = some (.cells #[.int .i64 0, .slice none 0 0, .slice none 0 0, .slice none 0 0, .slice none 0 0] 27 (0, 0))) := blk_new _ _ _
  by_cases hl : 4096 < xs.length
  · obtain ⟨k1, k2, k3⟩ := g_long (n := n) hl
    rw [k1, k2, k3]
    have hl' : (4096 : Int) < (xs.length : Int) := by omega
    clear k1 k2 k3 hl HZ
    go_enter Try.func4, Try.ntmps4
    go_wp2_with fail
    exact bodyPost_ret (v := .tuple #[.agg #[.int .i64 0, .slice none 0 0, .slice none 0 0, .slice none 0 0, .slice none 0 0], .int .i64 2]) (by simp [results, Try.results4, go_sem]) rfl ⟨none, 0, none, 0, none, none, rfl, ⟨[], World.ownsRow_nil _ _ _ _, OwnQ.nil _ _, rfl, fun k p hp => by simp at hp⟩, H0.out _⟩
  have hl' : ¬ (4096 : Int) < (xs.length : Int) := by omega
  have HN := Qm.l04Nodes_any n (w.alloc (.cells #[.int .i64 0, .slice none 0 0, .slice none 0 0, .slice none 0 0, .slice none 0 0] 27))
  by_cases hf0 : fCode n = 0
  · rw [decide_eq_true hf0] at HN
    have HLF := l08Faulty_any n (.slice (some ⟨b, off, none⟩) xs.length cap) xs (w.alloc (.cells #[.int .i64 0, .slice none 0 0, .slice none 0 0, .slice none 0 0, .slice none 0 0] 27)) hf0 (rowN (hr.below (bel_new _ _))) (by omega)
    cases hf : faB n xs with
    | false =>
      obtain ⟨k1, k2, k3⟩ := g_bad (n := n) (by omega) hf
      rw [k1, k2, k3]
      rw [hf] at HLF
      clear k1 k2 k3 hl hf hf0
      go_enter Try.func4, Try.ntmps4
      go_wp2_with fail
      refine HN.mono ?_
      rintro e _ ⟨rfl, rfl⟩
      clear HN
      go_wp2_with fail
      refine HLF.mono ?_
      rintro e w2 ⟨rfl, b2⟩
      have l0 := (Array.getElem?_eq_some_iff.1 HZ.out).1
      have HZ2 : Hid (w2.heap[w.heap.size]? = some (.cells #[.int .i64 0, .slice none 0 0, .slice none 0 0, .slice none 0 0, .slice none 0 0] 27 (0, 0))) := (b2.block _ l0).trans HZ.out
      have HB2 : Hid (Below w.heap.size w w2) := (H0.out _).trans (b2.mono (Nat.le_of_lt l0))
      clear b2 HLF l0 HZ
      obtain ⟨ca0, fa0⟩ := blk_cell HZ2.out 0 (x := .int .i64 0) rfl
      obtain ⟨ca1, fa1⟩ := blk_cell HZ2.out 1 (x := .slice none 0 0) rfl
      obtain ⟨ca2, fa2⟩ := blk_cell HZ2.out 2 (x := .slice none 0 0) rfl
      obtain ⟨ca3, fa3⟩ := blk_cell HZ2.out 3 (x := .slice none 0 0) rfl
      obtain ⟨ca4, fa4⟩ := blk_cell HZ2.out 4 (x := .slice none 0 0) rfl
      have AF := (blk_set (blk_set (blk_set (blk_set (blk_set HZ2.out 0 (.int .i64 0)) 1 (.slice none 0 0)) 2 (.slice none 0 0)) 3 (.slice none 0 0)) 4 (.slice none 0 0))
      have BF : Hid (Below w.heap.size w (((((w2.setCell ⟨w.heap.size, 0, none⟩ (.int .i64 0)).setCell ⟨w.heap.size, 1, none⟩ (.slice none 0 0)).setCell ⟨w.heap.size, 2, none⟩ (.slice none 0 0)).setCell ⟨w.heap.size, 3, none⟩ (.slice none 0 0)).setCell ⟨w.heap.size, 4, none⟩ (.slice none 0 0))) := (Below.setCell (Below.setCell (Below.setCell (Below.setCell (Below.setCell HB2.out (p := ⟨w.heap.size, 0, none⟩) (Nat.le_refl _) (.int .i64 0)) (p := ⟨w.heap.size, 1, none⟩) (Nat.le_refl _) (.slice none 0 0)) (p := ⟨w.heap.size, 2, none⟩) (Nat.le_refl _) (.slice none 0 0)) (p := ⟨w.heap.size, 3, none⟩) (Nat.le_refl _) (.slice none 0 0)) (p := ⟨w.heap.size, 4, none⟩) (Nat.le_refl _) (.slice none 0 0))
      go_wp2_with fail
      generalize (((((w2.setCell ⟨w.heap.size, 0, none⟩ (.int .i64 0)).setCell ⟨w.heap.size, 1, none⟩ (.slice none 0 0)).setCell ⟨w.heap.size, 2, none⟩ (.slice none 0 0)).setCell ⟨w.heap.size, 3, none⟩ (.slice none 0 0)).setCell ⟨w.heap.size, 4, none⟩ (.slice none 0 0)) = wf at AF BF ⊢
      have d0 := (blk_cell AF 0 (x := .int .i64 0) rfl).1
      have d1 := (blk_cell AF 1 (x := .slice none 0 0) rfl).1
      have d2 := (blk_cell AF 2 (x := .slice none 0 0) rfl).1
      have d3 := (blk_cell AF 3 (x := .slice none 0 0) rfl).1
      have d4 := (blk_cell AF 4 (x := .slice none 0 0) rfl).1
      exact bodyPost_ret (v := .tuple #[.agg #[.int .i64 0, .slice none 0 0, .slice none 0 0, .slice none 0 0, .slice none 0 0], .int .i64 4]) (by simp [results, Try.results4, go_sem, d0, d1, d2, d3, d4]) rfl ⟨none, 0, none, 0, none, none, rfl, ⟨[], World.ownsRow_nil _ _ _ _, OwnQ.nil _ _, rfl, fun k p hp => by simp at hp⟩, BF.out⟩
    | true =>
      obtain ⟨k1, k2, k3⟩ := g_ok (n := n) (by omega) hf
      rw [k1, k2, k3]
      rw [hf] at HLF
      have hn := f_small hf0
      obtain ⟨N, rfl⟩ : ∃ N : Nat, n = (N : Int) := ⟨n.toNat, by omega⟩
      rw [Int.toNat_natCast]
      have HLN : Hid (∀ W, Below w.heap.size w W → Calls Try.prog 14 #[.int .i64 (N : Int), .slice (some ⟨b, off, none⟩) xs.length cap] W fun e w' => ∃ af kf ar kr g3 g4, e = .returned (.agg #[.int .i64 (N : Int), .slice af xs.length kf, .slice ar N kr, .slice g3 0 0, .slice g4 0 0]) ∧ (∃ ps, OwnI w' W.heap.size (.slice af xs.length kf) xs ∧ OwnQ w' W.heap.size (.slice ar N kr) ps ∧ ps.length = N ∧ SpP W.heap.size w' (N : Int) ps) ∧ Below W.heap.size W w') := fun W hW => l08New_any N b off cap xs W (by omega) (by omega) (Nat.lt_of_lt_of_le hb hW.size) (fun i hi => (hW.cell (p := ⟨b, off + i, none⟩) hb).trans (hc i hi))
      clear k1 k2 k3 hl hf hf0 hn hc hr hb
      go_enter Try.func4, Try.ntmps4
      go_wp2_with fail
      refine HN.mono ?_
      rintro e _ ⟨rfl, rfl⟩
      clear HN
      go_wp2_with fail
      refine HLF.mono ?_
      rintro e w2 ⟨rfl, b2⟩
      have l0 := (Array.getElem?_eq_some_iff.1 HZ.out).1
      have HZ2 : Hid (w2.heap[w.heap.size]? = some (.cells #[.int .i64 0, .slice none 0 0, .slice none 0 0, .slice none 0 0, .slice none 0 0] 27 (0, 0))) := (b2.block _ l0).trans HZ.out
      have HB2 : Hid (Below w.heap.size w w2) := (H0.out _).trans (b2.mono (Nat.le_of_lt l0))
      clear b2 HLF l0 HZ
      go_wp2_with fail
      refine (HLN.out _ HB2.out).mono ?_
      rintro e w3 ⟨af, kf, ar, kr, g3, g4, rfl, ⟨ps, o1, o2, o3, o4⟩, b3⟩
      have l2 := (Array.getElem?_eq_some_iff.1 HZ2.out).1
      have HA := (b3.block _ l2).trans HZ2.out
      have HB3 : Hid (Below w.heap.size w w3) := HB2.out.trans (b3.mono (Nat.le_of_lt l2))
      have KF : Hid (OwnI (((((w3.setCell ⟨w.heap.size, 0, none⟩ (.int .i64 (N : Int))).setCell ⟨w.heap.size, 1, none⟩ (.slice af xs.length kf)).setCell ⟨w.heap.size, 2, none⟩ (.slice ar N kr)).setCell ⟨w.heap.size, 3, none⟩ (.slice g3 0 0)).setCell ⟨w.heap.size, 4, none⟩ (.slice g4 0 0)) w.heap.size (.slice af xs.length kf) xs ∧ OwnQ (((((w3.setCell ⟨w.heap.size, 0, none⟩ (.int .i64 (N : Int))).setCell ⟨w.heap.size, 1, none⟩ (.slice af xs.length kf)).setCell ⟨w.heap.size, 2, none⟩ (.slice ar N kr)).setCell ⟨w.heap.size, 3, none⟩ (.slice g3 0 0)).setCell ⟨w.heap.size, 4, none⟩ (.slice g4 0 0)) w.heap.size (.slice ar N kr) ps ∧ ps.length = N ∧ SpP w.heap.size (((((w3.setCell ⟨w.heap.size, 0, none⟩ (.int .i64 (N : Int))).setCell ⟨w.heap.size, 1, none⟩ (.slice af xs.length kf)).setCell ⟨w.heap.size, 2, none⟩ (.slice ar N kr)).setCell ⟨w.heap.size, 3, none⟩ (.slice g3 0 0)).setCell ⟨w.heap.size, 4, none⟩ (.slice g4 0 0)) (N : Int) ps) := by
        have hne : ∀ k, k ≠ w.heap.size → ((((((w3.setCell ⟨w.heap.size, 0, none⟩ (.int .i64 (N : Int))).setCell ⟨w.heap.size, 1, none⟩ (.slice af xs.length kf)).setCell ⟨w.heap.size, 2, none⟩ (.slice ar N kr)).setCell ⟨w.heap.size, 3, none⟩ (.slice g3 0 0)).setCell ⟨w.heap.size, 4, none⟩ (.slice g4 0 0))).heap[k]? = w3.heap[k]? := fun k hk => by rw [blk_far hk, blk_far hk, blk_far hk, blk_far hk, blk_far hk]
        refine ⟨ownI_mono (ownI_kept o1 fun k e => hne k fun e2 => ?_) (Nat.le_of_lt l2), (o2.kept fun k e => hne k fun e2 => ?_).mono (Nat.le_of_lt l2), o3, fun k p hp => ((o4 k p hp).keep fun q cs t hc h1 h2 => hne q fun e2 => ?_).mono (Nat.le_of_lt l2)⟩
        · have := (ownI_lt o1 k e).1; omega
        · have := (o2.lt k e).1; omega
        · subst e2
          rw [HA] at hc
          injection hc with hc
          injection hc with _ hc _
          exact h2 hc.symm
      obtain ⟨ca0, fa0⟩ := blk_cell HA 0 (x := .int .i64 0) rfl
      obtain ⟨ca1, fa1⟩ := blk_cell HA 1 (x := .slice none 0 0) rfl
      obtain ⟨ca2, fa2⟩ := blk_cell HA 2 (x := .slice none 0 0) rfl
      obtain ⟨ca3, fa3⟩ := blk_cell HA 3 (x := .slice none 0 0) rfl
      obtain ⟨ca4, fa4⟩ := blk_cell HA 4 (x := .slice none 0 0) rfl
      have AF := (blk_set (blk_set (blk_set (blk_set (blk_set HA 0 (.int .i64 (N : Int))) 1 (.slice af xs.length kf)) 2 (.slice ar N kr)) 3 (.slice g3 0 0)) 4 (.slice g4 0 0))
      have BF : Hid (Below w.heap.size w (((((w3.setCell ⟨w.heap.size, 0, none⟩ (.int .i64 (N : Int))).setCell ⟨w.heap.size, 1, none⟩ (.slice af xs.length kf)).setCell ⟨w.heap.size, 2, none⟩ (.slice ar N kr)).setCell ⟨w.heap.size, 3, none⟩ (.slice g3 0 0)).setCell ⟨w.heap.size, 4, none⟩ (.slice g4 0 0))) := (Below.setCell (Below.setCell (Below.setCell (Below.setCell (Below.setCell HB3.out (p := ⟨w.heap.size, 0, none⟩) (Nat.le_refl _) (.int .i64 (N : Int))) (p := ⟨w.heap.size, 1, none⟩) (Nat.le_refl _) (.slice af xs.length kf)) (p := ⟨w.heap.size, 2, none⟩) (Nat.le_refl _) (.slice ar N kr)) (p := ⟨w.heap.size, 3, none⟩) (Nat.le_refl _) (.slice g3 0 0)) (p := ⟨w.heap.size, 4, none⟩) (Nat.le_refl _) (.slice g4 0 0))
      clear o1 o2 o3 o4 b3 HLN HB2 HZ2 l2 HA
      go_wp2_with fail
      generalize (((((w3.setCell ⟨w.heap.size, 0, none⟩ (.int .i64 (N : Int))).setCell ⟨w.heap.size, 1, none⟩ (.slice af xs.length kf)).setCell ⟨w.heap.size, 2, none⟩ (.slice ar N kr)).setCell ⟨w.heap.size, 3, none⟩ (.slice g3 0 0)).setCell ⟨w.heap.size, 4, none⟩ (.slice g4 0 0)) = wf at AF BF KF ⊢
      have d0 := (blk_cell AF 0 (x := .int .i64 (N : Int)) rfl).1
      have d1 := (blk_cell AF 1 (x := .slice af xs.length kf) rfl).1
      have d2 := (blk_cell AF 2 (x := .slice ar N kr) rfl).1
      have d3 := (blk_cell AF 3 (x := .slice g3 0 0) rfl).1
      have d4 := (blk_cell AF 4 (x := .slice g4 0 0) rfl).1
      exact bodyPost_ret (v := .tuple #[.agg #[.int .i64 (N : Int), .slice af xs.length kf, .slice ar N kr, .slice g3 0 0, .slice g4 0 0], .int .i64 0]) (by simp [results, Try.results4, go_sem, d0, d1, d2, d3, d4]) rfl ⟨af, kf, ar, kr, g3, g4, rfl, ⟨ps, KF.out⟩, BF.out⟩
  · rw [decide_eq_false hf0] at HN
    have hf : faB n xs = false := bOf_false fun hh => hf0 hh.1
    obtain ⟨k1, k2, k3⟩ := g_bad (n := n) (by omega) hf
    rw [k1, k2, k3]
    clear k1 k2 k3 hl hf hf0 HZ
    go_enter Try.func4, Try.ntmps4
    go_wp2_with fail
    refine HN.mono ?_
    rintro e _ ⟨rfl, rfl⟩
    clear HN
    go_wp2_with fail
    exact bodyPost_ret (v := .tuple #[.agg #[.int .i64 0, .slice none 0 0, .slice none 0 0, .slice none 0 0, .slice none 0 0], .int .i64 4]) (by simp [results, Try.results4, go_sem]) rfl ⟨none, 0, none, 0, none, none, rfl, ⟨[], World.ownsRow_nil _ _ _ _, OwnQ.nil _ _, rfl, fun k p hp => by simp at hp⟩, H0.out _⟩
end Go.Proofs.Ytgkcfngejnfinaa.Ng
