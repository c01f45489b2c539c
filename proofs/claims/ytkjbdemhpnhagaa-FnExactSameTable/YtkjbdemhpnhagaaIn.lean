/- Two right tables with the same bytes are one. -/
import Derived.Test.YtkjbdemhpnhagaaPt2
namespace Go.Proofs.Ytkjbdemhpnhagaa.In
open Go.RowKit Go.Proofs.Ytkjbdemhpnhagaa.Sl Go.Proofs.Ytkjbdemhpnhagaa.By Go.Proofs.Ytkjbdemhpnhagaa.Ap Go.Proofs.Ytkjbdemhpnhagaa.Tx Go.Proofs.Ytkjbdemhpnhagaa.Tb Go.Proofs.Ytkjbdemhpnhagaa.Tw Go.Proofs.Ytkjbdemhpnhagaa.Rq Go.Proofs.Ytkjbdemhpnhagaa.Tp Go.Proofs.Ytkjbdemhpnhagaa.Pu Go.Proofs.Ytkjbdemhpnhagaa.Pt

/-- What f writes of one thing can be told from what follows. -/
def PI {α : Type} (P : α → Prop) (f : α → List Int) : Prop := ∀ x y r s, P x → P y → f x ++ r = f y ++ s → x = y ∧ r = s
theorem app_inj {xs ys r s : List Int} (hl : xs.length = ys.length) (h : xs ++ r = ys ++ s) : xs = ys ∧ r = s := List.append_inj h hl
theorem nums1 {x y : Int} {r s : List Int} (hx : 0 ≤ x ∧ x < 256) (hy : 0 ≤ y ∧ y < 256) (h : nums x 1 1 ++ r = nums y 1 1 ++ s) : x = y ∧ r = s := by
  obtain ⟨h1, h2⟩ := app_inj (by rw [nums_length, nums_length]) h
  simp [nums, nb] at h1
  exact ⟨by omega, h2⟩
theorem nums2 {x y : Int} {r s : List Int} (hx : 0 ≤ x ∧ x < 65536) (hy : 0 ≤ y ∧ y < 65536) (h : nums x 2 2 ++ r = nums y 2 2 ++ s) : x = y ∧ r = s := by
  obtain ⟨h1, h2⟩ := app_inj (by rw [nums_length, nums_length]) h
  simp [nums, nb, List.range_succ] at h1
  exact ⟨by omega, h2⟩
theorem nums3 {x y : Int} {r s : List Int} (hx : 0 ≤ x ∧ x < 16777216) (hy : 0 ≤ y ∧ y < 16777216) (h : nums x 3 3 ++ r = nums y 3 3 ++ s) : x = y ∧ r = s := by
  obtain ⟨h1, h2⟩ := app_inj (by rw [nums_length, nums_length]) h
  simp [nums, nb, List.range_succ] at h1
  exact ⟨by omega, h2⟩
theorem nums4 {x y : Int} {r s : List Int} (hx : 0 ≤ x ∧ x < 4294967296) (hy : 0 ≤ y ∧ y < 4294967296) (h : nums x 4 4 ++ r = nums y 4 4 ++ s) : x = y ∧ r = s := by
  obtain ⟨h1, h2⟩ := app_inj (by rw [nums_length, nums_length]) h
  simp [nums, nb, List.range_succ] at h1
  exact ⟨by omega, h2⟩
theorem bys_inj {a b : ByteArray} (h : bys a = bys b) : a = b := by
  unfold bys at h
  have : a.data.toList = b.data.toList := (List.map_inj_right (fun x y hxy => by
    have : x.toNat = y.toNat := by omega
    exact UInt8.toNat_inj.1 this)).1 h
  cases a
  cases b
  have h2 := Array.toList_inj.1 this
  simp only at h2
  rw [h2]
theorem flat_inj {α : Type} {P : α → Prop} {f : α → List Int} (hf : PI P f) : ∀ (xs ys : List α) (r s : List Int), xs.length = ys.length → (∀ x ∈ xs, P x) → (∀ y ∈ ys, P y) → xs.flatMap f ++ r = ys.flatMap f ++ s → xs = ys ∧ r = s
  | [], [], _, _, _, _, _, h => ⟨rfl, by simpa using h⟩
  | x :: xs, y :: ys, r, s, hl, hx, hy, h => by
    rw [List.flatMap_cons, List.flatMap_cons, List.append_assoc, List.append_assoc] at h
    obtain ⟨e1, h2⟩ := hf x y _ _ (hx x (List.mem_cons_self ..)) (hy y (List.mem_cons_self ..)) h
    obtain ⟨e2, e3⟩ := flat_inj hf xs ys r s (by simpa using hl) (fun z hz => hx z (List.mem_cons_of_mem _ hz)) (fun z hz => hy z (List.mem_cons_of_mem _ hz)) h2
    exact ⟨by rw [e1, e2], e3⟩
  | [], _ :: _, _, _, hl, _, _, _ => by simp at hl
  | _ :: _, [], _, _, hl, _, _, _ => by simp at hl
def PW (x : Wt) : Prop := (0 ≤ x.c ∧ x.c < 256) ∧ (0 ≤ x.l ∧ x.l < 65536)
theorem pi_W : PI PW wtBs := fun x y r s hx hy h => by
  unfold wtBs at h
  rw [List.append_assoc, List.append_assoc] at h
  obtain ⟨e1, k1⟩ := nums1 hx.1 hy.1 h
  obtain ⟨e2, k2⟩ := nums2 hx.2 hy.2 k1
  refine ⟨?_, k2⟩
  cases x
  cases y
  dsimp only at e1 e2
  rw [e1, e2]
def PL (x : Lk) : Prop := x.n.size < 256 ∧ (0 ≤ x.t ∧ x.t < 16777216) ∧ (0 ≤ x.h + 1 ∧ x.h + 1 < 65536) ∧ (0 ≤ x.e ∧ x.e < 4294967296) ∧ x.ws.length < 256 ∧ ∀ y ∈ x.ws, PW y
theorem pi_L : PI PL lkBs := fun x y r s hx hy h => by
  obtain ⟨a0, a1, a2, a3, a4, a5⟩ := hx
  obtain ⟨b0, b1, b2, b3, b4, b5⟩ := hy
  unfold lkBs at h
  simp only [List.append_assoc] at h
  obtain ⟨e0, k0⟩ := nums1 (by omega) (by omega) h
  obtain ⟨e1, k1⟩ := app_inj (by rw [bys_length, bys_length]; omega) k0
  obtain ⟨e2, k2⟩ := nums3 a1 b1 k1
  obtain ⟨e3, k3⟩ := nums2 a2 b2 k2
  obtain ⟨e4, k4⟩ := nums4 a3 b3 k3
  obtain ⟨e5, k5⟩ := nums1 (by omega) (by omega) k4
  obtain ⟨e6, k6⟩ := flat_inj pi_W x.ws y.ws r s (by omega) a5 b5 k5
  refine ⟨?_, k6⟩
  have e1' := bys_inj e1
  have e3' : x.h = y.h := by omega
  cases x
  cases y
  dsimp only at e1' e2 e3' e4 e6
  rw [e1', e2, e3', e4, e6]
def PS (x : Sn) : Prop := (0 ≤ x.c ∧ x.c < 256) ∧ (0 ≤ x.s ∧ x.s < 65536) ∧ (0 ≤ x.k ∧ x.k < 256) ∧ (0 ≤ x.t ∧ x.t < 16777216) ∧ (0 ≤ x.h + 1 ∧ x.h + 1 < 65536) ∧ (0 ≤ x.e ∧ x.e < 4294967296)
theorem pi_S : PI PS snBs := fun x y r s hx hy h => by
  obtain ⟨a0, a1, a2, a3, a4, a5⟩ := hx
  obtain ⟨b0, b1, b2, b3, b4, b5⟩ := hy
  unfold snBs at h
  simp only [List.append_assoc] at h
  obtain ⟨e0, k0⟩ := nums1 a0 b0 h
  obtain ⟨e1, k1⟩ := nums2 a1 b1 k0
  obtain ⟨e2, k2⟩ := nums1 a2 b2 k1
  obtain ⟨e3, k3⟩ := nums3 a3 b3 k2
  obtain ⟨e4, k4⟩ := nums2 a4 b4 k3
  obtain ⟨e5, k5⟩ := nums4 a5 b5 k4
  refine ⟨?_, k5⟩
  obtain ⟨c1, c2, c3, c4, c5, c6⟩ := x
  obtain ⟨d1, d2, d3, d4, d5, d6⟩ := y
  dsimp only at e0 e1 e2 e3 e4 e5
  have e4' : c5 = d5 := by omega
  rw [e0, e1, e2, e3, e4', e5]
/-- What a right table's parts are. -/
theorem tok_parts {tm nx : Int} {ls : List Lk} {ss : List Sn} (h : TOK ⟨tm, nx, ls, ss⟩) : (0 ≤ tm ∧ tm < 4294967296) ∧ (0 ≤ nx ∧ nx < 16777216) ∧ ls.length < 256 ∧ ss.length < 256 ∧ (∀ x ∈ ls, PL x) ∧ ∀ x ∈ ss, PS x := by
  have hb := tok_bnd h
  obtain ⟨h1, h2, h3, h4, h5, h6⟩ := h
  dsimp only at h1 h2 h3 h4 h5 h6
  have k1 := inB_le h1
  have k2 := inB_le h2
  refine ⟨by omega, by omega, by omega, by omega, fun x hx => ?_, fun x hx => ?_⟩
  · obtain ⟨i, hi, rfl⟩ := List.mem_iff_getElem.1 hx
    obtain ⟨_, g2, g3, g4⟩ := h4 i _ (List.getElem?_eq_getElem hi)
    have q := hb.2.2.1 _ hx
    have g3' := inB_le g3
    refine ⟨by omega, by omega, by omega, ?_, by omega, fun y hy => ?_⟩
    · rcases g4 with ⟨_, g, _⟩ | ⟨_, _, g, _, _⟩
      · omega
      · have := inB_le g; omega
    · rcases g4 with ⟨_, _, g⟩ | ⟨_, _, _, _, g⟩
      · rw [List.length_eq_zero_iff.1 g] at hy; cases hy
      · obtain ⟨j, hj, rfl⟩ := List.mem_iff_getElem.1 hy
        obtain ⟨p1, p2, _, _⟩ := g j _ (List.getElem?_eq_getElem hj)
        have := inB_le p1
        have := inB_le p2
        exact ⟨by omega, by omega⟩
  · obtain ⟨i, hi, rfl⟩ := List.mem_iff_getElem.1 hx
    have h0 := pc_ge (xs := ss) (k := i) (fun j y _ hy => h6 j y hy) (by omega)
    obtain ⟨g1, g2, g3, g4, g5, g6⟩ := h6 i _ (List.getElem?_eq_getElem hi)
    have := inB_le g1
    have := inB_le g2
    have := inB_le g3
    have := inB_le g4
    have := inB_le g5
    have := inB_le g6
    exact ⟨by omega, by omega, by omega, by omega, by omega, by omega⟩
theorem tab_inj {tm nx tm' nx' : Int} {ls ls' : List Lk} {ss ss' : List Sn} (h : TOK ⟨tm, nx, ls, ss⟩) (g : TOK ⟨tm', nx', ls', ss'⟩) (he : tabBs tm nx ls ss = tabBs tm' nx' ls' ss') : tm = tm' ∧ nx = nx' ∧ ls = ls' ∧ ss = ss' := by
  obtain ⟨a0, a1, a2, a3, a4, a5⟩ := tok_parts h
  obtain ⟨b0, b1, b2, b3, b4, b5⟩ := tok_parts g
  unfold tabBs at he
  obtain ⟨e0, he⟩ := nums4 a0 b0 he
  obtain ⟨e1, he⟩ := nums3 a1 b1 he
  obtain ⟨e2, he⟩ := nums1 (by omega) (by omega) he
  obtain ⟨e3, he⟩ := flat_inj pi_L ls ls' _ _ (by omega) a4 b4 he
  obtain ⟨e4, he⟩ := nums1 (by omega) (by omega) he
  obtain ⟨e5, _⟩ := flat_inj pi_S ss ss' [] [] (by omega) a5 b5 (by simpa [ssBs] using he)
  exact ⟨e0, e1, e3, e5⟩
end Go.Proofs.Ytkjbdemhpnhagaa.In
