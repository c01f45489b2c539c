/- The marks on a lock: nothing but its waiters' own block is written. -/
import Derived.Test.YtkjbdemhpnhagaaLr
import Derived.Test.YtkjbdemhpnhagaaLq
import Derived.Test.YtkjbdemhpnhagaaMv2
namespace Go.Proofs.Ytkjbdemhpnhagaa.Lw
open Go.RowKit Go.Proofs.Ytkjbdemhpnhagaa.Sl Go.Proofs.Ytkjbdemhpnhagaa.By Go.Proofs.Ytkjbdemhpnhagaa.Ap Go.Proofs.Ytkjbdemhpnhagaa.Tb Go.Proofs.Ytkjbdemhpnhagaa.Tw Go.Proofs.Ytkjbdemhpnhagaa.Mw
open Go.Proofs.Ytkjbdemhpnhagaa.Tx (blk_cell blk_set blk_far blk_new bel_new)

theorem own_mw {w : World} {B : Nat} {v : Value} {ws : List Wt} (h : Wa.OwnW w B v ws) : Mw.OwnW w B v ws.length := by
  obtain ⟨hl, ⟨rfl, h0⟩ | ⟨g, cap, cur, rfl, hB, hg, hc, _, hs, htk⟩⟩ := h
  · exact ⟨none, 0, by rw [h0], .inl h0⟩
  · refine ⟨_, cap, rfl, .inr ⟨g, rfl, hB, hc, cur, _, hg, ?_⟩⟩
    have h1 := congrArg List.length htk
    rw [List.length_take, Wa.lenW] at h1
    simp only [Array.length_toList] at h1
    omega
set_option maxRecDepth 100000 in
set_option maxHeartbeats 800000 in
theorem markLock2_any (x : Lk) (u : Value) (B : Nat) (w : World) (h : Mw.OwnW w B u x.ws.length) (hB : B ≤ w.heap.size) (hn : x.ws.length ≤ 1048576) :
    Calls Try.prog 17 #[lkV x u, .int .i64 1] w fun e w' => e = .returned (.int .i64 ((1 + x.ws.length * 2 : Nat) : Int)) ∧ HeldW w' B u 1 x.ws.length ∧ Below B w w' ∧ ∀ k, k < w.heap.size → some k ≠ u.ownBlock → w'.heap[k]? = w.heap[k]? := by
  have HU : Hid (∀ W, Below w.heap.size w W → Calls Try.prog 48 #[u, .int .i64 1] W fun e w' => e = .returned (.int .i64 ((1 + x.ws.length * 2 : Nat) : Int)) ∧ HeldW w' B u 1 x.ws.length ∧ Below B w w' ∧ ∀ k, k < w.heap.size → some k ≠ u.ownBlock → w'.heap[k]? = w.heap[k]?) := fun W hW => by
    obtain ⟨ad, cap, rfl, h⟩ := h
    rcases h with h | ⟨g, rfl, h1, h2, h3⟩
    · rw [h]
      refine (markNilW_any 1 ad cap W).mono ?_
      rintro e w' ⟨rfl, rfl⟩
      exact ⟨by simp, ⟨ad, cap, rfl, .inl rfl⟩, hW.mono hB, fun k hk _ => hW.block k hk⟩
    · refine (markOwnW_any g x.ws.length cap 1 W (h3.below hW) h2 hn (by omega)).mono ?_
      rintro e w' ⟨rfl, m, mm⟩
      exact ⟨rfl, ⟨_, cap, rfl, .inr ⟨g, rfl, h1, Nat.lt_of_lt_of_le (h3.below hW).lt mm.size, h2, m⟩⟩, (hW.mono hB).trans ((mm.below (Nat.le_of_lt (h3.below hW).lt)).mono h1), fun k hk hn => (mm.block k (Nat.lt_of_lt_of_le hk hW.size) (by
        have : k ≠ g := fun e => hn (by rw [e]; rfl)
        omega)).trans (hW.block k hk)⟩
  clear h
  obtain ⟨xn, xt, xh, xe, xws⟩ := x
  unfold lkV
  dsimp only at HU hn ⊢
  go_enter Try.func17, Try.ntmps17
  go_wp2_with fail
  refine (HU.out _ (bel_new _ _)).mono ?_
  rintro e w1 ⟨rfl, h1, h2, h3⟩
  have HE : Hid (HeldW w1 B u 1 xws.length ∧ Below B w w1 ∧ ∀ k, k < w.heap.size → some k ≠ u.ownBlock → w1.heap[k]? = w.heap[k]?) := ⟨h1, h2, h3⟩
  clear h1 h2 h3
  go_wp2_with fail
  go_ret
  exact ⟨rfl, HE.out⟩
open Go.Proofs.Ytkjbdemhpnhagaa.Lp in
theorem ans_small {tm nx : Int} {ls : List Lk} {ss : List Sn} {n : ByteArray} (h : ∀ x ∈ ls, x.ws.length ≤ 1048576) : (lAns tm nx ls ss n).1.ws.length ≤ 1048576 := by
  unfold lAns
  split
  · simp [l0]
  · split
    · simp [l0]
    · split
      · rename_i hex
        exact h _ hex.choose_spec.1
      · simp [l0]
theorem lk5 {W : World} {b : Nat} {x : Lk} {a : Option Addr} {l c : Nat} (h : W.heap[b]? = some (.cells #[.string x.n, .int .i64 x.t, .int .i64 x.h, .int .i64 x.e, .slice a l c] 37 (0, 0))) :
    W.cell? ⟨b, 0, none⟩ = some (.string x.n) ∧ W.cell? ⟨b, 1, none⟩ = some (.int .i64 x.t) ∧ W.cell? ⟨b, 2, none⟩ = some (.int .i64 x.h) ∧ W.cell? ⟨b, 3, none⟩ = some (.int .i64 x.e) ∧ W.cell? ⟨b, 4, none⟩ = some (.slice a l c) :=
  ⟨(blk_cell h 0 rfl).1, (blk_cell h 1 rfl).1, (blk_cell h 2 rfl).1, (blk_cell h 3 rfl).1, (blk_cell h 4 rfl).1⟩
end Go.Proofs.Ytkjbdemhpnhagaa.Lw
