/- The laws' own helpers over tables: their sizes, their copies, copies that are alike. -/
import Derived.Test.YtlgfeohoebmbcaaGreatTb
import Derived.Laws.ResultCell
namespace Go.Proofs.YtlgfeohoebmbcaaGreat.Tw
open Go.RowKit Go.Proofs.YtlgfeohoebmbcaaGreat.Sl Go.Proofs.YtlgfeohoebmbcaaGreat.Ap Go.Proofs.YtlgfeohoebmbcaaGreat.Tx Go.Proofs.YtlgfeohoebmbcaaGreat.Tb

theorem ret_i {a b : Int} (h : a = b) : Ending.returned (.int .i64 a) = .returned (.int .i64 b) := by rw [h]
def lft (left s : Int) : Int := if left < s then -1 else left - s
theorem lft_no {left s : Int} (h : left < s) : lft left s = -1 := if_pos h
theorem lft_yes {left s : Int} (h : ¬ left < s) : lft left s = left - s := if_neg h
def lkV (x : Lk) (u : Value) : Value := .agg #[.string x.n, .int .i64 x.t, .int .i64 x.h, .int .i64 x.e, u]
def snV (x : Sn) : Value := .agg #[.int .i64 x.c, .int .i64 x.s, .int .i64 x.k, .int .i64 x.t, .int .i64 x.h, .int .i64 x.e]
def wtV (x : Wt) : Value := .agg #[.int .i64 x.c, .int .i64 x.l]
theorem get_at {α : Type} {xs : List α} {k : Nat} (h : k < xs.length) : ∃ x, xs[k]? = some x := ⟨_, List.getElem?_eq_getElem h⟩
theorem lt_at {α : Type} {xs : List α} {k : Nat} {x : α} (h : xs[k]? = some x) : k < xs.length := (List.getElem?_eq_some_iff.1 h).1
theorem mem_at {α : Type} {xs : List α} {k : Nat} {x : α} (h : xs[k]? = some x) : x ∈ xs := List.mem_of_getElem? h
set_option maxRecDepth 100000 in
set_option maxHeartbeats 800000 in
theorem szWaiterS_any (v : Value) (xs : List Wt) (left : Int) (w : World) (h : RowW w v xs) (hz : xs.length ≤ maxLen) (h0 : 0 ≤ left) (h1 : left ≤ 1048576) :
    Calls Tryz.prog 91 #[v, .int .i64 left] w fun e w' => e = .returned (.int .i64 (lft left xs.length)) ∧ w' = w := by
  obtain ⟨a, cap, rfl⟩ := RowG.slice h
  unfold maxLen at hz
  clear h
  by_cases h : left < (xs.length : Int)
  · have HO : Hid (lft left (xs.length : Int) = -1) := lft_no h
    go_enter Tryz.func91, Tryz.ntmps91
    go_wp2
    go_ret
    exact ⟨ret_i HO.out.symm, rfl⟩
  · have HO : Hid (lft left (xs.length : Int) = left - (xs.length : Int)) := lft_yes h
    go_enter Tryz.func91, Tryz.ntmps91
    go_wp2
    go_ret
    exact ⟨ret_i HO.out.symm, rfl⟩
set_option maxRecDepth 100000 in
set_option maxHeartbeats 800000 in
theorem szSeenS_any (v : Value) (xs : List Sn) (left : Int) (w : World) (h : RowS w v xs) (hz : xs.length ≤ maxLen) (h0 : 0 ≤ left) (h1 : left ≤ 1048576) :
    Calls Tryz.prog 37 #[v, .int .i64 left] w fun e w' => e = .returned (.int .i64 (lft left xs.length)) ∧ w' = w := by
  obtain ⟨a, cap, rfl⟩ := RowG.slice h
  unfold maxLen at hz
  clear h
  by_cases h : left < (xs.length : Int)
  · have HO : Hid (lft left (xs.length : Int) = -1) := lft_no h
    go_enter Tryz.func37, Tryz.ntmps37
    go_wp2
    go_ret
    exact ⟨ret_i HO.out.symm, rfl⟩
  · have HO : Hid (lft left (xs.length : Int) = left - (xs.length : Int)) := lft_yes h
    go_enter Tryz.func37, Tryz.ntmps37
    go_wp2
    go_ret
    exact ⟨ret_i HO.out.symm, rfl⟩
set_option maxRecDepth 100000 in
set_option maxHeartbeats 800000 in
theorem szLock_any (x : Lk) (u : Value) (l : Nat) (w : World) (hl : l ≤ 1048576) (hz : LkZ x) (hu : RowW w u x.ws) :
    Calls Tryz.prog 66 #[lkV x u, .int .i64 l] w fun e w' => (∃ r : Int, e = .returned (.int .i64 r) ∧ (r = -1 ∨ ∃ q : Nat, r = q ∧ q ≤ l ∧ x.n.size ≤ l ∧ x.ws.length ≤ l)) ∧ Below w.heap.size w w' := by
  have HU : Hid (RowW w u x.ws) := hu
  have HZ : Hid (x.ws.length ≤ maxLen) := hz.2
  have hm := hz.1
  unfold maxLen at hm
  clear hz hu
  unfold lkV
  by_cases h : (l : Int) < (x.n.size : Int)
  · go_enter Tryz.func66, Tryz.ntmps66
    go_wp2_with fail
    go_ret
    exact ⟨⟨_, rfl, .inl rfl⟩, bel_new _ _⟩
  · have h' : ¬ (l : Int) - (x.n.size : Int) < 0 := by omega
    go_enter Tryz.func66, Tryz.ntmps66
    go_wp2_with fail
    refine (szWaiterS_any u x.ws _ _ (HU.out.below (bel_new _ _)) HZ.out (by omega) (by omega)).mono ?_
    rintro e w1 ⟨rfl, rfl⟩
    by_cases h2 : (l : Int) - (x.n.size : Int) < (x.ws.length : Int)
    · rw [lft_no h2]
      go_wp2_with fail
      go_ret
      exact ⟨⟨_, rfl, .inl rfl⟩, bel_new _ _⟩
    · rw [lft_yes h2]
      have h3 : ¬ (l : Int) - (x.n.size : Int) - (x.ws.length : Int) < 0 := by omega
      go_wp2_with fail
      go_ret
      exact ⟨⟨_, rfl, .inr ⟨l - x.n.size - x.ws.length, by omega, by omega, by omega, by omega⟩⟩, bel_new _ _⟩
set_option maxRecDepth 100000 in
set_option maxHeartbeats 800000 in
theorem szLockS_any (v : Value) (xs : List Lk) (w : World) (h : RowL w v xs) (hm : ∀ x ∈ xs, LkZ x) (hz : xs.length ≤ maxLen) :
    Calls Tryz.prog 36 #[v, .int .i64 1048576] w fun e w' => (∃ r : Int, e = .returned (.int .i64 r) ∧ (r = -1 ∨ ∃ q : Nat, r = q ∧ q ≤ 1048576 ∧ xs.length ≤ 1048576 ∧ ∀ x ∈ xs, x.n.size ≤ 1048576 ∧ x.ws.length ≤ 1048576)) ∧ Below w.heap.size w w' := by
  have hz2 : xs.length ≤ 9223372036854775807 := by unfold maxLen at hz; omega
  have HM : Hid (∀ x ∈ xs, LkZ x) := hm
  have HR : Hid (RowL w v xs) := h
  obtain ⟨a, cap, rfl⟩ := RowG.slice h
  clear hz hm h
  by_cases hb : 1048576 < xs.length
  · have hb' : (1048576 : Int) - (xs.length : Int) < 0 := by omega
    go_enter Tryz.func36, Tryz.ntmps36
    go_wp2_with fail
    go_ret
    exact ⟨⟨_, rfl, .inl rfl⟩, Below.refl _ _⟩
  have hb' : ¬ (1048576 : Int) - (xs.length : Int) < 0 := by omega
  go_enter Tryz.func36, Tryz.ntmps36
  go_wp2_with fail
  go_loopw [1, 5] (fun l i wr => ∃ (k q : Nat), k ≤ xs.length ∧ i = .int .i64 k ∧ l = .int .i64 q ∧ q ≤ 1048576 ∧ Hid (∀ j x, j < k → xs[j]? = some x → x.n.size ≤ 1048576 ∧ x.ws.length ≤ 1048576) ∧ Hid (Below w.heap.size w wr)) (fun _ i _ => xs.length - (intOf i).toNat)
  case atStart => exact ⟨0, 1048576 - xs.length, by omega, rfl, by congr 1; omega, by omega, fun j x hj => by omega, Below.refl _ _⟩
  case round =>
    obtain ⟨k, q, hk, rfl, rfl, hq, HJ, HB⟩ := hrel
    by_cases hlt : k < xs.length
    · obtain ⟨x, hx⟩ := get_at hlt
      obtain ⟨b, off, rfl, hbl, u, c0, c1, c2, c3, c4, c5⟩ := RowG.at (HR.out.below HB.out) rfl hx
      have HX : Hid (xs[k]? = some x ∧ RowW wr u x.ws) := ⟨hx, c5⟩
      clear hx c5
      go_wp2_with fail
      refine (szLock_any x u q wr hq (HM.out _ (mem_at HX.out.1)) HX.out.2).mono ?_
      rintro e w2 ⟨⟨r, rfl, hr⟩, b2⟩
      have HB2 : Hid (Below w.heap.size w w2) := HB.out.trans (b2.mono HB.out.size)
      clear b2
      rcases hr with rfl | ⟨p, rfl, hp, hs, hs2⟩
      · go_wp2_with fail
        go_ret
        exact ⟨⟨_, rfl, .inl rfl⟩, HB2.out⟩
      · have HJ2 : Hid (∀ j x, j < k + 1 → xs[j]? = some x → x.n.size ≤ 1048576 ∧ x.ws.length ≤ 1048576) := fun j y hj hy => by
          by_cases e : j = k
          · subst e
            rw [HX.out.1] at hy
            cases hy
            omega
          · exact HJ.out j y (by omega) hy
        have hp0 : ¬ (p : Int) < 0 := by omega
        go_wp2_with fail
        exact ⟨⟨k + 1, p, by omega, by go_num, rfl, by omega, HJ2, HB2⟩, by simp [intOf]; omega⟩
    · obtain rfl : k = xs.length := by omega
      go_wp2_with fail
      go_ret
      refine ⟨⟨_, rfl, .inr ⟨q, rfl, hq, by omega, fun r hr => ?_⟩⟩, HB.out⟩
      obtain ⟨j, hj, rfl⟩ := List.mem_iff_getElem.1 hr
      exact HJ.out j _ hj (List.getElem?_eq_getElem hj)
set_option maxRecDepth 100000 in
set_option maxHeartbeats 800000 in
theorem szTable_any (tm nx : Int) (vl vs : Value) (ls : List Lk) (ss : List Sn) (w : World) (hl : RowL w vl ls) (hs : RowS w vs ss) (hm : ∀ x ∈ ls, LkZ x) (hz : ls.length ≤ maxLen) (hy : ss.length ≤ maxLen) :
    Calls Tryz.prog 7 #[tabV tm nx vl vs, .int .i64 1048576] w fun e w' => (∃ r : Int, e = .returned (.int .i64 r) ∧ (r = -1 ∨ (0 ≤ r ∧ ls.length ≤ 1048576 ∧ ss.length ≤ 1048576 ∧ ∀ x ∈ ls, x.n.size ≤ 1048576 ∧ x.ws.length ≤ 1048576))) ∧ Below w.heap.size w w' := by
  have HL : Hid (RowL w vl ls ∧ ∀ x ∈ ls, LkZ x) := ⟨hl, hm⟩
  have HS : Hid (RowS w vs ss) := hs
  clear hl hs hm
  unfold tabV
  have HBX : Hid (Below w.heap.size w (w.alloc (.cells #[.int .i64 tm, .int .i64 nx, vl, vs] 25))) := bel_new _ _
  go_enter Tryz.func7, Tryz.ntmps7
  go_wp2_with fail
  refine (szLockS_any vl ls _ (HL.out.1.below HBX.out) HL.out.2 hz).mono ?_
  rintro e w2 ⟨⟨r, rfl, hr⟩, b2⟩
  have HB2 : Hid (Below w.heap.size w w2) := HBX.out.trans (b2.mono HBX.out.size)
  have hc3 : w2.cell? ⟨w.heap.size, 3, none⟩ = some vs := by
    rw [b2.cell (p := ⟨w.heap.size, 3, none⟩) (by rw [size_new]; exact Nat.lt_succ_self _), World.cell?_alloc_at _ _ _ _ rfl]
    rfl
  clear b2
  rcases hr with rfl | ⟨q, rfl, hq, hr1, hr2⟩
  · go_wp2_with fail
    go_ret
    exact ⟨⟨_, rfl, .inl rfl⟩, HB2.out⟩
  · have hp0 : ¬ (q : Int) < 0 := by omega
    have HR2 : Hid (∀ x ∈ ls, x.n.size ≤ 1048576 ∧ x.ws.length ≤ 1048576) := hr2
    clear hr2
    go_wp2_with fail
    refine (szSeenS_any vs ss _ _ (HS.out.below HB2.out) hy (by omega) (by omega)).mono ?_
    rintro e w3 ⟨rfl, rfl⟩
    by_cases h2 : (q : Int) < (ss.length : Int)
    · rw [lft_no h2]
      go_wp2_with fail
      go_ret
      exact ⟨⟨_, rfl, .inl rfl⟩, HB2.out⟩
    · rw [lft_yes h2]
      have h3 : ¬ (q : Int) - (ss.length : Int) < 0 := by omega
      go_wp2_with fail
      go_ret
      exact ⟨⟨_, rfl, .inr ⟨by omega, hr1, by omega, HR2.out⟩⟩, HB2.out⟩
set_option maxRecDepth 100000 in
set_option maxHeartbeats 800000 in
theorem toWaiter_any (x : Wt) (w : World) :
    Calls Tryz.prog 118 #[wtV x] w fun e w' => e = .returned (wtV x) ∧ Below w.heap.size w w' := by
  unfold wtV
  go_enter Tryz.func118, Tryz.ntmps118
  go_wp2_with fail
  refine bodyPost_ret (v := wtV x) (by simp [wtV, results, Tryz.results118, go_sem]) rfl ⟨rfl, ?_⟩
  exact (((Below.refl _ _).alloc (Nat.le_refl _) _).alloc (by simp) _).alloc (by simp; omega) _
set_option maxRecDepth 100000 in
set_option maxHeartbeats 800000 in
theorem toAnswer_any (k t h e0 : Int) (w : World) :
    Calls Tryz.prog 95 #[.agg #[.int .i64 k, .int .i64 t, .int .i64 h, .int .i64 e0]] w fun e w' => e = .returned (.agg #[.int .i64 k, .int .i64 t, .int .i64 h, .int .i64 e0]) ∧ Below w.heap.size w w' := by
  go_enter Tryz.func95, Tryz.ntmps95
  go_wp2_with fail
  refine bodyPost_ret (v := .agg #[.int .i64 k, .int .i64 t, .int .i64 h, .int .i64 e0]) (by simp [results, Tryz.results95, go_sem]) rfl ⟨rfl, ?_⟩
  exact (((Below.refl _ _).alloc (Nat.le_refl _) _).alloc (by simp) _).alloc (by simp; omega) _
end Go.Proofs.YtlgfeohoebmbcaaGreat.Tw
