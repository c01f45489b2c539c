/- The size of a table, under any budget. -/
import Derived.Test.YtkjbdemhpnhagaaTw
namespace Go.Proofs.Ytkjbdemhpnhagaa.Tw
open Go.RowKit Go.Proofs.Ytkjbdemhpnhagaa.Sl Go.Proofs.Ytkjbdemhpnhagaa.Ap Go.Proofs.Ytkjbdemhpnhagaa.Tx Go.Proofs.Ytkjbdemhpnhagaa.Tb

set_option maxRecDepth 100000 in
set_option maxHeartbeats 800000 in
theorem szLockG_any (v : Value) (xs : List Lk) (L : Nat) (hL : L ≤ 1048576) (w : World) (h : RowL w v xs) (hm : ∀ x ∈ xs, LkZ x) (hz : xs.length ≤ maxLen) :
    Calls Try.prog 30 #[v, .int .i64 (L : Int)] w fun e w' => (∃ r : Int, e = .returned (.int .i64 r) ∧ (r = -1 ∨ ∃ q : Nat, r = q ∧ q ≤ 1048576 ∧ xs.length ≤ 1048576 ∧ ∀ x ∈ xs, x.n.size ≤ 1048576 ∧ x.ws.length ≤ 1048576)) ∧ Below w.heap.size w w' := by
  have hz2 : xs.length ≤ 9223372036854775807 := by unfold maxLen at hz; omega
  have HM : Hid (∀ x ∈ xs, LkZ x) := hm
  have HR : Hid (RowL w v xs) := h
  obtain ⟨a, cap, rfl⟩ := RowG.slice h
  clear hz hm h
  by_cases hb : L < xs.length
  · have hb' : (L : Int) - (xs.length : Int) < 0 := by omega
    go_enter Try.func30, Try.ntmps30
    go_wp2_with fail
    go_ret
    exact ⟨⟨_, rfl, .inl rfl⟩, Below.refl _ _⟩
  have hb' : ¬ (L : Int) - (xs.length : Int) < 0 := by omega
  go_enter Try.func30, Try.ntmps30
  go_wp2_with fail
  go_loopw [1, 5] (fun l i wr => ∃ (k q : Nat), k ≤ xs.length ∧ i = .int .i64 k ∧ l = .int .i64 q ∧ q ≤ 1048576 ∧ Hid (∀ j x, j < k → xs[j]? = some x → x.n.size ≤ 1048576 ∧ x.ws.length ≤ 1048576) ∧ Hid (Below w.heap.size w wr)) (fun _ i _ => xs.length - (intOf i).toNat)
  case atStart => exact ⟨0, L - xs.length, by omega, rfl, by congr 1; omega, by omega, fun j x hj => by omega, Below.refl _ _⟩
  case round =>
    obtain ⟨k, q, hk, rfl, rfl, hq, HJ, HB⟩ := hrel
    by_cases hlt : k < xs.length
    · obtain ⟨x, hx⟩ := get_at hlt
      obtain ⟨b, off, rfl, hbl, u, c0, c1, c2, c3, c4, c5⟩ := RowG.at (HR.out.below HB.out) rfl hx
      have HX : Hid (xs[k]? = some x ∧ RowW wr u x.ws) := ⟨hx, c5⟩
      clear hx c5
      go_wp2_with fail
      refine (szLock_any x u q wr hq (HM.out _ (mem_at HX.out.1)) HX.out.2).mono ?_
      rintro e w2 ⟨⟨r, rfl, hr⟩, b2⟩
      have HB2 : Hid (Below w.heap.size w w2) := HB.out.trans (b2.mono HB.out.size)
      clear b2
      rcases hr with rfl | ⟨p, rfl, hp, hs, hs2⟩
      · go_wp2_with fail
        go_ret
        exact ⟨⟨_, rfl, .inl rfl⟩, HB2.out⟩
      · have HJ2 : Hid (∀ j x, j < k + 1 → xs[j]? = some x → x.n.size ≤ 1048576 ∧ x.ws.length ≤ 1048576) := fun j y hj hy => by
          by_cases e : j = k
          · subst e
            rw [HX.out.1] at hy
            cases hy
            omega
          · exact HJ.out j y (by omega) hy
        have hp0 : ¬ (p : Int) < 0 := by omega
        go_wp2_with fail
        exact ⟨⟨k + 1, p, by omega, by go_num, rfl, by omega, HJ2, HB2⟩, by simp [intOf]; omega⟩
    · obtain rfl : k = xs.length := by omega
      go_wp2_with fail
      go_ret
      refine ⟨⟨_, rfl, .inr ⟨q, rfl, hq, by omega, fun r hr => ?_⟩⟩, HB.out⟩
      obtain ⟨j, hj, rfl⟩ := List.mem_iff_getElem.1 hr
      exact HJ.out j _ hj (List.getElem?_eq_getElem hj)
set_option maxRecDepth 100000 in
set_option maxHeartbeats 800000 in
theorem szTableG_any (tm nx : Int) (vl vs : Value) (ls : List Lk) (ss : List Sn) (L : Nat) (hL : L ≤ 1048576) (w : World) (hl : RowL w vl ls) (hs : RowS w vs ss) (hm : ∀ x ∈ ls, LkZ x) (hz : ls.length ≤ maxLen) (hy : ss.length ≤ maxLen) :
    Calls Try.prog 8 #[tabV tm nx vl vs, .int .i64 (L : Int)] w fun e w' => (∃ r : Int, e = .returned (.int .i64 r) ∧ (r = -1 ∨ (0 ≤ r ∧ r ≤ 1048576 ∧ ls.length ≤ 1048576 ∧ ss.length ≤ 1048576 ∧ ∀ x ∈ ls, x.n.size ≤ 1048576 ∧ x.ws.length ≤ 1048576))) ∧ Below w.heap.size w w' := by
  have HL : Hid (RowL w vl ls ∧ ∀ x ∈ ls, LkZ x) := ⟨hl, hm⟩
  have HS : Hid (RowS w vs ss) := hs
  clear hl hs hm
  unfold tabV
  have HBX : Hid (Below w.heap.size w (w.alloc (.cells #[.int .i64 tm, .int .i64 nx, vl, vs] 25))) := bel_new _ _
  go_enter Try.func8, Try.ntmps8
  go_wp2_with fail
  refine (szLockG_any vl ls L hL _ (HL.out.1.below HBX.out) HL.out.2 hz).mono ?_
  rintro e w2 ⟨⟨r, rfl, hr⟩, b2⟩
  have HB2 : Hid (Below w.heap.size w w2) := HBX.out.trans (b2.mono HBX.out.size)
  have hc3 : w2.cell? ⟨w.heap.size, 3, none⟩ = some vs := by
    rw [b2.cell (p := ⟨w.heap.size, 3, none⟩) (by rw [size_new]; exact Nat.lt_succ_self _), World.cell?_alloc_at _ _ _ _ rfl]
    rfl
  clear b2
  rcases hr with rfl | ⟨q, rfl, hq, hr1, hr2⟩
  · go_wp2_with fail
    go_ret
    exact ⟨⟨_, rfl, .inl rfl⟩, HB2.out⟩
  · have hp0 : ¬ (q : Int) < 0 := by omega
    have HR2 : Hid (∀ x ∈ ls, x.n.size ≤ 1048576 ∧ x.ws.length ≤ 1048576) := hr2
    clear hr2
    go_wp2_with fail
    refine (szSeenS_any vs ss _ _ (HS.out.below HB2.out) hy (by omega) (by omega)).mono ?_
    rintro e w3 ⟨rfl, rfl⟩
    by_cases h2 : (q : Int) < (ss.length : Int)
    · rw [lft_no h2]
      go_wp2_with fail
      go_ret
      exact ⟨⟨_, rfl, .inl rfl⟩, HB2.out⟩
    · rw [lft_yes h2]
      have h3 : ¬ (q : Int) - (ss.length : Int) < 0 := by omega
      go_wp2_with fail
      go_ret
      exact ⟨⟨_, rfl, .inr ⟨by omega, by omega, hr1, by omega, HR2.out⟩⟩, HB2.out⟩
end Go.Proofs.Ytkjbdemhpnhagaa.Tw
