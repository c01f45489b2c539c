/- The laws' marks on bytes: written, and held. -/
import Derived.Test.YtkjbdemhpnhagaaAp
import Derived.Test.YtkjbdemhpnhagaaRb
namespace Go.Proofs.Ytkjbdemhpnhagaa.Mk
open Go.RowKit Go.Proofs.Ytkjbdemhpnhagaa.Sl Go.Proofs.Ytkjbdemhpnhagaa.By Go.Proofs.Ytkjbdemhpnhagaa.Ap Go.Proofs.Ytkjbdemhpnhagaa.Rq

/-- Bytes whose first i are marked, from a on. -/
def marksTo (zs : List Int) (a : Int) (i : Nat) : List Int := (List.range zs.length).map fun j => if j < i then (a + j) % 256 else nth zs j
def marks (a : Int) (n : Nat) : List Int := (List.range n).map fun j : Nat => (a + j) % 256
theorem marksTo_length (zs : List Int) (a : Int) (i : Nat) : (marksTo zs a i).length = zs.length := by simp [marksTo]
theorem marks_length (a : Int) (n : Nat) : (marks a n).length = n := by simp [marks]
theorem marksTo_zero (zs : List Int) (a : Int) : marksTo zs a 0 = zs := by
  apply List.ext_getElem?
  intro j
  unfold marksTo
  by_cases h : j < zs.length
  · rw [List.getElem?_map, List.getElem?_range h, List.getElem?_eq_getElem h]
    simp [nth, List.getElem?_eq_getElem h]
  · rw [List.getElem?_eq_none (by simp; omega), List.getElem?_eq_none (by omega)]
theorem marksTo_all (zs : List Int) (a : Int) : marksTo zs a zs.length = marks a zs.length := by
  unfold marksTo marks
  apply List.map_congr_left
  intro j hj
  rw [if_pos (by simpa using hj)]
theorem marksTo_succ (zs : List Int) (a : Int) (i : Nat) (h : i < zs.length) : (marksTo zs a i).set i ((a + i) % 256) = marksTo zs a (i + 1) := by
  apply List.ext_getElem?
  intro j
  rw [List.getElem?_set]
  unfold marksTo
  by_cases hj : j < zs.length
  · by_cases e : i = j
    · subst e
      rw [if_pos rfl, if_pos (by simpa using h), List.getElem?_map, List.getElem?_range h]
      simp
    · rw [if_neg e, List.getElem?_map, List.getElem?_map, List.getElem?_range hj]
      by_cases e2 : j < i
      · simp [e2, show j < i + 1 by omega]
      · simp [e2, show ¬ j < i + 1 by omega]
  · rw [if_neg (by omega), List.getElem?_eq_none (by simp; omega), List.getElem?_eq_none (by simp; omega)]
theorem marks_range (a : Int) (n : Nat) : ∀ z ∈ marks a n, 0 ≤ z ∧ z ≤ 255 := by
  intro z hz
  unfold marks at hz
  obtain ⟨j, _, rfl⟩ := List.mem_map.1 hz
  omega
theorem marks_at (a : Int) (n i : Nat) (h : i < n) : nth (marks a n) i = (a + i) % 256 := by
  unfold nth marks
  rw [List.getD_eq_getElem?_getD, List.getElem?_map, List.getElem?_range h]
  rfl

/-- A slice of the call's own: what a store into it wants, and leaves. -/
theorem own_store {e : TypeId} {w : World} {B n : Nat} {v : Value} {zs : List Int} (h : OwnB e w B v zs) (hn : zs.length = n) (hp : 0 < n) :
    ∃ g cap, v = .slice (some ⟨g, 0, none⟩) n cap ∧ n ≤ cap ∧ g < w.heap.size ∧ ∀ w', OwnB e w' B v zs → ∀ j, j < n → w'.cell? ⟨g, j, none⟩ = some (.int .u8 (nth zs j)) ∧ w'.frozen? ⟨g, j, none⟩ = false ∧ ∀ z, OwnB e (w'.setCell ⟨g, j, none⟩ (.int .u8 z)) B v (zs.set j z) ∧ Kp w' (w'.setCell ⟨g, j, none⟩ (.int .u8 z)) v v := by
  obtain ⟨g, cap, hv, hb, hg⟩ : ∃ g cap, v = .slice (some ⟨g, 0, none⟩) n cap ∧ n ≤ cap ∧ g < w.heap.size := by
    obtain ⟨_, h⟩ := h
    rcases h with ⟨_, h0⟩ | ⟨g, cap, cur, hv, _, hg, hnc, _⟩
    · omega
    · exact ⟨g, cap, by rw [hv, hn], by omega, (Array.getElem?_eq_some_iff.1 hg).1⟩
  refine ⟨g, cap, hv, hb, hg, fun w' h' j hj => ?_⟩
  unfold OwnB at h'
  subst hv
  rw [hn] at h'
  refine ⟨?_, h'.frozenAt j, fun z => ?_⟩
  · rw [h'.cellAt j (by omega), List.getElem?_map, List.getElem?_eq_getElem (by omega)]
    unfold nth
    rw [List.getD_eq_getElem?_getD, List.getElem?_eq_getElem (by omega)]
    rfl
  · obtain ⟨h1, h2⟩ := h'.stored j (.int .u8 z)
    refine ⟨?_, Kp.of_grown (by simpa [Value.ownBlock] using h2) (.inl rfl)⟩
    unfold OwnB
    rw [List.length_set, List.map_set, hn]
    exact h1

set_option maxHeartbeats 400000 in
theorem markByteS_any (v : Value) (zs : List Int) (a : Int) (B : Nat) (w : World) (hown : OwnB 5 w B v zs) (ha : 0 ≤ a) (ha2 : a ≤ 100) (hl : zs.length ≤ 2000000) :
    Calls Try.prog 22 #[v, .int .i64 a] w fun e w' => e = .returned (.int .i64 (a + zs.length)) ∧ OwnB 5 w' B v (marks a zs.length) ∧ Kp w w' v v := by
  by_cases hp : 0 < zs.length
  · obtain ⟨n, hn⟩ : ∃ n, Hid (zs.length = n) := ⟨_, rfl⟩
    obtain ⟨g, cap, rfl, hnc, hg, hst⟩ := own_store hown hn.out (by rw [← hn.out]; exact hp)
    have HST : Hid (∀ w' zs', zs'.length = n → OwnB 5 w' B (.slice (some ⟨g, 0, none⟩) n cap) zs' → ∀ j, j < n → w'.cell? ⟨g, j, none⟩ = some (.int .u8 (nth zs' j)) ∧ w'.frozen? ⟨g, j, none⟩ = false ∧ ∀ z, OwnB 5 (w'.setCell ⟨g, j, none⟩ (.int .u8 z)) B (.slice (some ⟨g, 0, none⟩) n cap) (zs'.set j z) ∧ Kp w' (w'.setCell ⟨g, j, none⟩ (.int .u8 z)) (.slice (some ⟨g, 0, none⟩) n cap) (.slice (some ⟨g, 0, none⟩) n cap)) := by
      intro w' zs' hz' ho j hj
      obtain ⟨g', cap', e1, _, _, h'⟩ := own_store ho hz' (by omega)
      simp only [Value.slice.injEq, Option.some.injEq, Addr.mk.injEq, and_true, true_and] at e1
      obtain ⟨rfl, rfl⟩ := e1
      exact h' w' ho j hj
    have hn2 : n ≤ 2000000 := by rw [← hn.out]; exact hl
    have HO : Hid (OwnB 5 w B (.slice (some ⟨g, 0, none⟩) n cap) zs) := hown
    rw [hn.out]
    clear hst hown hp hl
    go_enter Try.func22, Try.ntmps22
    go_wp2_with fail
    go_loopw [1, 5] (fun k i wr => ∃ q : Nat, q ≤ n ∧ k = .int .i64 (a + (q : Int)) ∧ i = .int .i64 q ∧ OwnB 5 wr B (.slice (some ⟨g, 0, none⟩) n cap) (marksTo zs a q) ∧ Kp w wr (.slice (some ⟨g, 0, none⟩) n cap) (.slice (some ⟨g, 0, none⟩) n cap)) (fun _ i _ => n - (intOf i).toNat)
    case atStart => exact ⟨0, by omega, by simp, rfl, by rw [marksTo_zero]; exact HO.out, Kp.refl _ _⟩
    case round =>
      obtain ⟨q, hq, rfl, rfl, ho, hk⟩ := hrel
      by_cases hlt : q < n
      · obtain ⟨hc, hf, hs⟩ := HST.out wr _ (by rw [marksTo_length, hn.out]) ho q hlt
        have HS : Hid (_) := hs ((a + q) % 256)
        clear hs ho
        go_wp2
        rw [marksTo_succ _ _ _ (by rw [hn.out]; exact hlt)] at HS
        refine ⟨⟨q + 1, by omega, by go_num, by go_num, HS.out.1, hk.trans HS.out.2⟩, by simp [intOf]; omega⟩
      · obtain rfl : q = n := by omega
        go_wp2
        go_ret
        refine ⟨rfl, ?_, hk⟩
        rw [← hn.out, marksTo_all, hn.out] at ho
        exact ho
  · obtain rfl : zs = [] := List.length_eq_zero_iff.1 (by omega)
    obtain ⟨ad, cap, rfl⟩ : ∃ ad cap, v = .slice ad 0 cap := by
      rcases hown.2 with ⟨rfl, _⟩ | ⟨g, cap, cur, rfl, _⟩
      · exact ⟨_, _, rfl⟩
      · exact ⟨_, _, rfl⟩
    have HO : Hid (OwnB 5 w B (.slice ad 0 cap) []) := hown
    clear hown hp hl
    go_enter Try.func22, Try.ntmps22
    go_wp2_with fail
    refine wp_loop_rounds 1 ?_
    rw [rounds_succ]
    go_wp2
    go_ret
    exact ⟨by simp, HO.out, Kp.refl _ _⟩

set_option maxHeartbeats 400000 in
theorem heldByteS_any (v : Value) (n : Nat) (a : Int) (w : World) (h : RowB w v (marks a n)) (ha : 0 ≤ a) (ha2 : a ≤ 100) (hl : n ≤ 2000000) :
    Calls Try.prog 23 #[v, .int .i64 a] w fun e w' => e = .returned (.int .i64 (a + n)) ∧ w' = w := by
  obtain ⟨ad, cap, rfl, h, _⟩ := h
  have HN : Hid ((marks a n).length = n) := marks_length a n
  rw [HN.out]
  have h' : ∀ q, q < n → ∃ b off, ad = some ⟨b, off, none⟩ ∧ n ≤ cap ∧ w.cell? ⟨b, off + q, none⟩ = some (.int .u8 ((a + q) % 256)) := by
    intro q hq
    rcases h with h | ⟨b, off, rfl, hc, hb, hcell⟩
    · have := congrArg List.length h
      rw [HN.out] at this
      simp at this
      omega
    · refine ⟨b, off, rfl, by rw [HN.out] at hc; exact hc, ?_⟩
      rw [hcell q (by rw [HN.out]; exact hq), marks_at a n q hq]
  have H' : Hid (_) := h'
  clear h h'
  go_enter Try.func23, Try.ntmps23
  go_wp2_with fail
  go_loop [1, 5] (fun k i => ∃ q : Nat, q ≤ n ∧ k = .int .i64 (a + (q : Int)) ∧ i = .int .i64 q) (fun _ i => n - (intOf i).toNat)
  case atStart => exact ⟨0, by omega, by simp, rfl⟩
  case round =>
    obtain ⟨q, hq, rfl, rfl⟩ := hrel
    by_cases hlt : q < n
    · obtain ⟨b, off, rfl, hc, hcell⟩ := H'.out q hlt
      have he : (((a + (q : Int)) % 256) != ((a + (q : Int)) % 256)) = false := by simp
      go_wp2
      go_round
      case rel => exact ⟨q + 1, by omega, by go_num, by go_num⟩
      case measure => simp [intOf]; omega
    · obtain rfl : q = n := by omega
      go_wp2
      go_ret
      exact ⟨rfl, rfl⟩
end Go.Proofs.Ytkjbdemhpnhagaa.Mk
