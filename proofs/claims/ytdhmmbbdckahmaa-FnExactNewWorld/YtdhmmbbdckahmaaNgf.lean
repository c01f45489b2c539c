/- New groups: what is answered; groups alike. -/
import Derived.Test.YtdhmmbbdckahmaaNge
namespace Go.Proofs.Ytdhmmbbdckahmaa.Ng
open Go.RowKit Go.Proofs.Ytdhmmbbdckahmaa.Rg Go.Proofs.Ytdhmmbbdckahmaa.Tm Go.Proofs.Ytdhmmbbdckahmaa.Nr Go.Proofs.Ytdhmmbbdckahmaa.Is
open Go.Proofs.Ytdhmmbbdckahmaa.So hiding bel_new
open Go.Proofs.Ytdhmmbbdckahmaa.Sl (nth)
open Go.Proofs.Ytdhmmbbdckahmaa.Qm (inB)
theorem two {w w1 : World} {o0 o1 : Obj} (b : Below ((w.alloc o0).alloc o1).heap.size ((w.alloc o0).alloc o1) w1) : w1.heap[w.heap.size]? = some o0 ∧ w1.heap[w.heap.size + 1]? = some o1 ∧ Below w.heap.size w w1 := by
  have e1 : (w.alloc o0).heap.size = w.heap.size + 1 := Rg.size_new _ _
  have e2 : ((w.alloc o0).alloc o1).heap.size = w.heap.size + 1 + 1 := by rw [Rg.size_new, e1]
  have b1 : Below w.heap.size w ((w.alloc o0).alloc o1) := ((Below.refl _ _).alloc (Nat.le_refl _) _).alloc (by rw [e1]; omega) _
  rw [e2] at b
  refine ⟨?_, ?_, b1.trans (b.mono (by omega))⟩
  · rw [b.block _ (by omega), Below.heap_alloc _ _ _ (by omega)]; exact heap_alloc_new w _
  · rw [b.block _ (by omega), ← e1]; exact heap_alloc_new _ _
set_option maxHeartbeats 400000 in
theorem markPar_nil (a : Int) (ad : Option Addr) (cap : Nat) (w : World) : Calls Try.prog 39 #[.slice ad 0 cap, .int .i64 a] w fun e w' => e = .returned (.int .i64 a) ∧ w = w' := by
  go_enter Try.func39, Try.ntmps39
  go_wp2_with fail
  go_loopw [1, 5] (fun k i wr => k = .int .i64 a ∧ i = .int .i64 0 ∧ wr = w) (fun _ _ _ => 0)
  case atStart => exact ⟨rfl, rfl, rfl⟩
  case round =>
    obtain ⟨rfl, rfl, rfl⟩ := hrel
    go_wp2
    go_ret
    exact ⟨rfl, rfl⟩
set_option maxHeartbeats 400000 in
theorem heldPar_nil (a : Int) (ad : Option Addr) (cap : Nat) (w : World) : Calls Try.prog 46 #[.slice ad 0 cap, .int .i64 a] w fun e w' => e = .returned (.int .i64 a) ∧ w = w' := by
  go_enter Try.func46, Try.ntmps46
  go_wp2_with fail
  go_loopw [1, 5] (fun k i wr => k = .int .i64 a ∧ i = .int .i64 0 ∧ wr = w) (fun _ _ _ => 0)
  case atStart => exact ⟨rfl, rfl, rfl⟩
  case round =>
    obtain ⟨rfl, rfl, rfl⟩ := hrel
    go_wp2
    go_ret
    exact ⟨rfl, rfl⟩
set_option maxHeartbeats 400000 in
theorem eqPar_nil (a a' : Option Addr) (c c' : Nat) (w : World) : Calls Try.prog 34 #[.slice a 0 c, .slice a' 0 c'] w fun e w' => e = .returned (.bool true) ∧ w = w' := by
  go_enter Try.func34, Try.ntmps34
  go_wp2_with fail
  go_loopw [5] (fun i wr => i = .int .i64 0 ∧ wr = w) (fun _ _ => 0)
  case atStart => exact ⟨rfl, rfl⟩
  case round =>
    obtain ⟨rfl, rfl⟩ := hrel
    go_wp2
    go_ret
    exact ⟨rfl, rfl⟩
noncomputable def gC (n : Int) (xs : List Int) : Int := if 4096 < xs.length then 2 else if faB n xs = true then 0 else 4
noncomputable def gN (n : Int) (xs : List Int) : Int := if gC n xs = 0 then n else 0
noncomputable def gX (n : Int) (xs : List Int) : List Int := if gC n xs = 0 then xs else []
theorem g_ok {n : Int} {xs : List Int} (h : xs.length ≤ 4096) (hf : faB n xs = true) : gC n xs = 0 ∧ gN n xs = n ∧ gX n xs = xs := by
  have h0 : gC n xs = 0 := by unfold gC; rw [if_neg (by omega), if_pos hf]
  unfold gN gX
  rw [if_pos h0, if_pos h0]
  exact ⟨h0, rfl, rfl⟩
theorem g_long {n : Int} {xs : List Int} (h : 4096 < xs.length) : gC n xs = 2 ∧ gN n xs = 0 ∧ gX n xs = [] := by
  have h0 : gC n xs = 2 := by unfold gC; rw [if_pos h]
  unfold gN gX
  rw [h0]
  exact ⟨rfl, rfl, rfl⟩
theorem g_bad {n : Int} {xs : List Int} (h : xs.length ≤ 4096) (hf : faB n xs = false) : gC n xs = 4 ∧ gN n xs = 0 ∧ gX n xs = [] := by
  have h0 : gC n xs = 4 := by unfold gC; rw [if_neg (by omega), if_neg (by rw [hf]; decide)]
  unfold gN gX
  rw [h0]
  exact ⟨rfl, rfl, rfl⟩
theorem g_small (n : Int) (xs : List Int) : (0 ≤ gN n xs ∧ gN n xs ≤ 7) ∧ (gX n xs).length ≤ 2 ∧ ∀ x ∈ gX n xs, x ∈ xs := by
  by_cases h : 4096 < xs.length
  · obtain ⟨_, h1, h2⟩ := g_long (n := n) h
    rw [h1, h2]
    exact ⟨by decide, by decide, fun x hx => by simp at hx⟩
  · cases hf : faB n xs with
    | false =>
      obtain ⟨_, h1, h2⟩ := g_bad (n := n) (by omega) hf
      rw [h1, h2]
      exact ⟨by decide, by decide, fun x hx => by simp at hx⟩
    | true =>
      obtain ⟨_, h1, h2⟩ := g_ok (n := n) (by omega) hf
      rw [h1, h2]
      obtain ⟨k1, k2⟩ := bOf_iff.1 hf
      have k3 := f_small k1
      have k4 := f_out k1
      have k5 := k2.1
      exact ⟨by omega, by omega, fun x hx => hx⟩
set_option maxRecDepth 100000 in
set_option maxHeartbeats 3200000 in
theorem implNewGroup_any (n : Int) (v : Value) (xs : List Int) (w : World) (h : RowI w v xs) :
    Calls Try.prog 15 #[.int .i64 n, v] w fun e w' => ∃ af kf ar kr, e = .returned (.tuple #[.agg #[.int .i64 (gN n xs), .slice af (gX n xs).length kf, .slice ar (gN n xs).toNat kr, .slice none 0 0, .slice none 0 0], .int .i64 (gC n xs)]) ∧ (∃ ps, OwnI w' w.heap.size (.slice af (gX n xs).length kf) (gX n xs) ∧ OwnQ w' w.heap.size (.slice ar (gN n xs).toNat kr) ps ∧ ps.length = (gN n xs).toNat ∧ ImpP w.heap.size w' (gN n xs) ps ∧ Apart ps) ∧ Below w.heap.size w w' := by
  by_cases hl : 4096 < xs.length
  · obtain ⟨k1, k2, k3⟩ := g_long (n := n) hl
    rw [k1, k2, k3]
    have H0 : Hid (∀ o, Below w.heap.size w (w.alloc o)) := fun o => bel_new _ _
    obtain ⟨a0, c0, rfl, _⟩ := h
    have hl' : (4096 : Int) < (xs.length : Int) := by omega
    clear k1 k2 k3 hl
    go_enter Try.func15, Try.ntmps15
    go_wp2_with fail
    exact bodyPost_ret (v := .tuple #[.agg #[.int .i64 0, .slice none 0 0, .slice none 0 0, .slice none 0 0, .slice none 0 0], .int .i64 2]) (by simp [results, Try.results15, go_sem]) rfl ⟨none, 0, none, 0, rfl, ⟨[], World.ownsRow_nil _ _ _ _, OwnQ.nil _ _, rfl, fun k p hp => by simp at hp, fun k l p q _ hp => by simp at hp⟩, H0.out _⟩
  cases hf : faB n xs with
  | false =>
    obtain ⟨k1, k2, k3⟩ := g_bad (n := n) (by omega) hf
    rw [k1, k2, k3]
    have H0 : Hid (∀ o, Below w.heap.size w (w.alloc o)) := fun o => bel_new _ _
    have HFO := faultyOK_any n v xs (w.alloc (.cells #[.int .i64 0, .slice none 0 0, .slice none 0 0, .slice none 0 0, .slice none 0 0] 27)) (rowN (h.below (bel_new _ _))) (by omega)
    rw [hf] at HFO
    obtain ⟨a0, c0, rfl, _⟩ := h
    have hl' : ¬ (4096 : Int) < (xs.length : Int) := by omega
    clear k1 k2 k3 hl hf
    go_enter Try.func15, Try.ntmps15
    go_wp2_with fail
    refine HFO.mono ?_
    rintro e _ ⟨rfl, rfl⟩
    clear HFO
    go_wp2_with fail
    exact bodyPost_ret (v := .tuple #[.agg #[.int .i64 0, .slice none 0 0, .slice none 0 0, .slice none 0 0, .slice none 0 0], .int .i64 4]) (by simp [results, Try.results15, go_sem]) rfl ⟨none, 0, none, 0, rfl, ⟨[], World.ownsRow_nil _ _ _ _, OwnQ.nil _ _, rfl, fun k p hp => by simp at hp, fun k l p q _ hp => by simp at hp⟩, H0.out _⟩
  | true =>
    obtain ⟨k1, k2, k3⟩ := g_ok (n := n) (by omega) hf
    rw [k1, k2, k3]
    exact implNG_ok n v xs w h (by omega) hf
end Go.Proofs.Ytdhmmbbdckahmaa.Ng
