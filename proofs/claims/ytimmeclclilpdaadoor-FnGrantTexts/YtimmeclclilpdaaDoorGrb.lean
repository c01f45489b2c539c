/- Grants: right ones (both GrantOK functions), the laws' helpers of one grant, openings. -/
import Derived.Test.YtimmeclclilpdaaDoorGra
import Derived.Test.YtimmeclclilpdaaDoorRb
import Derived.Test.YtimmeclclilpdaaDoorOpg
import Derived.WalkSpells
import Derived.Below
import Derived.Laws.NewBlocks
namespace Go.Proofs.YtimmeclclilpdaaDoor.Gr12
open Go.RowKit
open Go.Proofs.YtimmeclclilpdaaDoor.Rq (inB opB within_any l01In_any opNameOK_any l02Text_any ret_bool)

def gV (g : Gg) : Value := .agg #[.string g.nm, .int .i64 g.hd, .int .i64 g.tk, .int .i64 g.ex]
def grB (g : Gg) : Bool := opB g.nm && (inB g.hd 0 255 && (inB g.tk 1 1000000 && inB g.ex 0 2000000000))
theorem in_iff {x a b : Int} (h : inB x a b = true) : a ≤ x ∧ x ≤ b := by unfold inB at h; simpa using h
theorem grB_parts {g : Gg} (h : grB g = true) : opB g.nm = true ∧ (0 ≤ g.hd ∧ g.hd ≤ 255) ∧ (1 ≤ g.tk ∧ g.tk ≤ 1000000) ∧ (0 ≤ g.ex ∧ g.ex ≤ 2000000000) := by
  unfold grB at h
  simp only [Bool.and_eq_true] at h
  exact ⟨h.1, in_iff h.2.1, in_iff h.2.2.1, in_iff h.2.2.2⟩
theorem nmd_of {n : ByteArray} (h : opB n = true) : Nmd n.data.toList ∧ n.size ≤ 12 := by
  unfold opB Nm.nameB at h
  simp only [Bool.and_eq_true, decide_eq_true_eq] at h
  obtain ⟨h12, h1, _, hall⟩ := h
  have hl : n.data.toList.length = n.size := by simp
  refine ⟨⟨fun e => by rw [e] at hl; simp at hl; omega, fun b hb => ?_⟩, h12⟩
  obtain ⟨i, hi, e⟩ := List.getElem_of_mem hb
  have := hall i (by omega)
  unfold Nm.okAt at this
  have e2 : n.data.toList.getD i 0 = b := by rw [List.getD_eq_getElem?_getD, List.getElem?_eq_getElem hi, e]; rfl
  rw [e2] at this
  simp only [Bool.or_eq_true, Bool.and_eq_true] at this
  rcases this with h | ⟨_, h⟩
  · left; unfold Nm.letB at h; unfold letU; rw [decide_eq_true_eq] at h ⊢; omega
  · right; unfold Nm.digB at h; unfold isD; rw [decide_eq_true_eq] at h; simp; omega
theorem grB_ok : ∀ g, grB g = true → Nmd g.nm.data.toList ∧ Rng g.hd g.tk g.ex := fun g h => by
  obtain ⟨h1, h2, h3, h4⟩ := grB_parts h
  exact ⟨(nmd_of h1).1, by unfold Rng; omega⟩
theorem bel1 (w : World) (o : Obj) : Below w.heap.size w (w.alloc o) := (Below.refl _ _).alloc (Nat.le_refl _) _
set_option maxRecDepth 100000 in
set_option maxHeartbeats 1600000 in
theorem implGrantOK_any (g : Gg) (w : World) (hs : g.nm.size ≤ maxLen) :
    Calls Tryd.prog 13 #[gV g] w fun e w' => e = .returned (.bool (grB g)) ∧ Below w.heap.size w w' := by
  unfold gV
  have HB : Hid (∀ W, Below (w.alloc (.cells #[.string g.nm, .int .i64 g.hd, .int .i64 g.tk, .int .i64 g.ex] 24)).heap.size (w.alloc (.cells #[.string g.nm, .int .i64 g.hd, .int .i64 g.tk, .int .i64 g.ex] 24)) W → (W.cell? ⟨w.heap.size, 1, none⟩ = some (.int .i64 g.hd) ∧ W.cell? ⟨w.heap.size, 2, none⟩ = some (.int .i64 g.tk) ∧ W.cell? ⟨w.heap.size, 3, none⟩ = some (.int .i64 g.ex)) ∧ Below w.heap.size w W) := fun W hW => by
    have h1 := (hW.block w.heap.size (by simp)).trans (heap_alloc_new w _)
    exact ⟨⟨by simp [World.cell?, h1], by simp [World.cell?, h1], by simp [World.cell?, h1]⟩, (bel1 w _).trans (hW.mono (by simp))⟩
  have HN := opNameOK_any g.nm (w.alloc (.cells #[.string g.nm, .int .i64 g.hd, .int .i64 g.tk, .int .i64 g.ex] 24)) hs
  cases h0 : opB g.nm with
  | false =>
    have HE : Hid (grB g = false) := by show _ = _; unfold grB; rw [h0]; rfl
    rw [h0] at HN
    go_enter Tryd.func13, Tryd.ntmps13
    go_wp2_with (first | (go_at_call 35; refine HN.mono ?_; rintro e w1 ⟨rfl, b1⟩; obtain ⟨⟨y1, y2, y3⟩, g1⟩ := HB.out w1 b1))
    go_ret
    exact ⟨ret_bool HE.out.symm, g1⟩
  | true =>
    cases h1 : inB g.hd 0 255 with
    | false =>
      have HE : Hid (grB g = false) := by show _ = _; unfold grB; rw [h0, h1]; rfl
      rw [h0] at HN
      go_enter Tryd.func13, Tryd.ntmps13
      go_wp2_with (first | (go_at_call 35; refine HN.mono ?_; rintro e w1 ⟨rfl, b1⟩; obtain ⟨⟨y1, y2, y3⟩, g1⟩ := HB.out w1 b1) | (go_at_call 36; refine (within_any _ _ _ _).mono ?_; rintro e w2 ⟨rfl, rfl⟩; first | rw [h1]))
      go_ret
      exact ⟨ret_bool HE.out.symm, g1⟩
    | true =>
      cases h2 : inB g.tk 1 1000000 with
      | false =>
        have HE : Hid (grB g = false) := by show _ = _; unfold grB; rw [h0, h1, h2]; rfl
        rw [h0] at HN
        go_enter Tryd.func13, Tryd.ntmps13
        go_wp2_with (first | (go_at_call 35; refine HN.mono ?_; rintro e w1 ⟨rfl, b1⟩; obtain ⟨⟨y1, y2, y3⟩, g1⟩ := HB.out w1 b1) | (go_at_call 36; refine (within_any _ _ _ _).mono ?_; rintro e w2 ⟨rfl, rfl⟩; first | rw [h1] | rw [h2]))
        go_ret
        exact ⟨ret_bool HE.out.symm, g1⟩
      | true =>
        cases h3 : inB g.ex 0 2000000000 with
        | false =>
          have HE : Hid (grB g = false) := by show _ = _; unfold grB; rw [h0, h1, h2, h3]; rfl
          rw [h0] at HN
          go_enter Tryd.func13, Tryd.ntmps13
          go_wp2_with (first | (go_at_call 35; refine HN.mono ?_; rintro e w1 ⟨rfl, b1⟩; obtain ⟨⟨y1, y2, y3⟩, g1⟩ := HB.out w1 b1) | (go_at_call 36; refine (within_any _ _ _ _).mono ?_; rintro e w2 ⟨rfl, rfl⟩; first | rw [h1] | rw [h2] | rw [h3]))
          go_ret
          exact ⟨ret_bool HE.out.symm, g1⟩
        | true =>
          have HE : Hid (grB g = true) := by show _ = _; unfold grB; rw [h0, h1, h2, h3]; rfl
          rw [h0] at HN
          go_enter Tryd.func13, Tryd.ntmps13
          go_wp2_with (first | (go_at_call 35; refine HN.mono ?_; rintro e w1 ⟨rfl, b1⟩; obtain ⟨⟨y1, y2, y3⟩, g1⟩ := HB.out w1 b1) | (go_at_call 36; refine (within_any _ _ _ _).mono ?_; rintro e w2 ⟨rfl, rfl⟩; first | rw [h1] | rw [h2] | rw [h3]))
          go_ret
          exact ⟨ret_bool HE.out.symm, g1⟩
set_option maxRecDepth 100000 in
set_option maxHeartbeats 1600000 in
theorem specGrantOK_any (g : Gg) (w : World) (hs : g.nm.size ≤ maxLen) :
    Calls Tryd.prog 31 #[gV g] w fun e w' => e = .returned (.bool (grB g)) ∧ Below w.heap.size w w' := by
  unfold gV
  have HB : Hid (∀ W, Below (w.alloc (.cells #[.string g.nm, .int .i64 g.hd, .int .i64 g.tk, .int .i64 g.ex] 24)).heap.size (w.alloc (.cells #[.string g.nm, .int .i64 g.hd, .int .i64 g.tk, .int .i64 g.ex] 24)) W → (W.cell? ⟨w.heap.size, 1, none⟩ = some (.int .i64 g.hd) ∧ W.cell? ⟨w.heap.size, 2, none⟩ = some (.int .i64 g.tk) ∧ W.cell? ⟨w.heap.size, 3, none⟩ = some (.int .i64 g.ex)) ∧ Below w.heap.size w W) := fun W hW => by
    have h1 := (hW.block w.heap.size (by simp)).trans (heap_alloc_new w _)
    exact ⟨⟨by simp [World.cell?, h1], by simp [World.cell?, h1], by simp [World.cell?, h1]⟩, (bel1 w _).trans (hW.mono (by simp))⟩
  have HN : Calls Tryd.prog 57 #[.string g.nm, .int .i64 12] (w.alloc (.cells #[.string g.nm, .int .i64 g.hd, .int .i64 g.tk, .int .i64 g.ex] 24)) fun e w' => e = .returned (.bool (opB g.nm)) ∧ Below (w.alloc (.cells #[.string g.nm, .int .i64 g.hd, .int .i64 g.tk, .int .i64 g.ex] 24)).heap.size (w.alloc (.cells #[.string g.nm, .int .i64 g.hd, .int .i64 g.tk, .int .i64 g.ex] 24)) w' := (l02Text_any g.nm _ hs).mono fun e w' ⟨h1, h2⟩ => ⟨h1, by rw [h2]; exact Below.refl _ _⟩
  cases h0 : opB g.nm with
  | false =>
    have HE : Hid (grB g = false) := by show _ = _; unfold grB; rw [h0]; rfl
    rw [h0] at HN
    go_enter Tryd.func31, Tryd.ntmps31
    go_wp2_with (first | (go_at_call 57; refine HN.mono ?_; rintro e w1 ⟨rfl, b1⟩; obtain ⟨⟨y1, y2, y3⟩, g1⟩ := HB.out w1 b1))
    go_ret
    exact ⟨ret_bool HE.out.symm, g1⟩
  | true =>
    cases h1 : inB g.hd 0 255 with
    | false =>
      have HE : Hid (grB g = false) := by show _ = _; unfold grB; rw [h0, h1]; rfl
      rw [h0] at HN
      go_enter Tryd.func31, Tryd.ntmps31
      go_wp2_with (first | (go_at_call 57; refine HN.mono ?_; rintro e w1 ⟨rfl, b1⟩; obtain ⟨⟨y1, y2, y3⟩, g1⟩ := HB.out w1 b1) | (go_at_call 40; refine (l01In_any _ _ _ _).mono ?_; rintro e w2 ⟨rfl, rfl⟩; first | rw [h1]))
      go_ret
      exact ⟨ret_bool HE.out.symm, g1⟩
    | true =>
      cases h2 : inB g.tk 1 1000000 with
      | false =>
        have HE : Hid (grB g = false) := by show _ = _; unfold grB; rw [h0, h1, h2]; rfl
        rw [h0] at HN
        go_enter Tryd.func31, Tryd.ntmps31
        go_wp2_with (first | (go_at_call 57; refine HN.mono ?_; rintro e w1 ⟨rfl, b1⟩; obtain ⟨⟨y1, y2, y3⟩, g1⟩ := HB.out w1 b1) | (go_at_call 40; refine (l01In_any _ _ _ _).mono ?_; rintro e w2 ⟨rfl, rfl⟩; first | rw [h1] | rw [h2]))
        go_ret
        exact ⟨ret_bool HE.out.symm, g1⟩
      | true =>
        cases h3 : inB g.ex 0 2000000000 with
        | false =>
          have HE : Hid (grB g = false) := by show _ = _; unfold grB; rw [h0, h1, h2, h3]; rfl
          rw [h0] at HN
          go_enter Tryd.func31, Tryd.ntmps31
          go_wp2_with (first | (go_at_call 57; refine HN.mono ?_; rintro e w1 ⟨rfl, b1⟩; obtain ⟨⟨y1, y2, y3⟩, g1⟩ := HB.out w1 b1) | (go_at_call 40; refine (l01In_any _ _ _ _).mono ?_; rintro e w2 ⟨rfl, rfl⟩; first | rw [h1] | rw [h2] | rw [h3]))
          go_ret
          exact ⟨ret_bool HE.out.symm, g1⟩
        | true =>
          have HE : Hid (grB g = true) := by show _ = _; unfold grB; rw [h0, h1, h2, h3]; rfl
          rw [h0] at HN
          go_enter Tryd.func31, Tryd.ntmps31
          go_wp2_with (first | (go_at_call 57; refine HN.mono ?_; rintro e w1 ⟨rfl, b1⟩; obtain ⟨⟨y1, y2, y3⟩, g1⟩ := HB.out w1 b1) | (go_at_call 40; refine (l01In_any _ _ _ _).mono ?_; rintro e w2 ⟨rfl, rfl⟩; first | rw [h1] | rw [h2] | rw [h3]))
          go_ret
          exact ⟨ret_bool HE.out.symm, g1⟩
set_option maxRecDepth 100000 in
set_option maxHeartbeats 1600000 in
theorem toG_any (g : Gg) (w : World) :
    Calls Tryd.prog 16 #[gV g] w fun e w' => e = .returned (gV g) ∧ Below w.heap.size w w' := by
  unfold gV
  go_enter Tryd.func16, Tryd.ntmps16
  go_wp2_with fail
  refine bodyPost_ret (v := .agg #[.string g.nm, .int .i64 g.hd, .int .i64 g.tk, .int .i64 g.ex]) (by simp [results, Tryd.results16, go_sem]) rfl ⟨rfl, ?_⟩
  exact (((Below.refl _ _).alloc (Nat.le_refl _) _).alloc (by simp) _).alloc (by simp; omega) _
set_option maxRecDepth 100000 in
set_option maxHeartbeats 1600000 in
theorem szG_any (g : Gg) (l : Nat) (w : World) (hl : l ≤ 1048576) (hz : g.nm.size ≤ maxLen) :
    Calls Tryd.prog 15 #[gV g, .int .i64 l] w fun e w' => (∃ r : Int, e = .returned (.int .i64 r) ∧ (r = -1 ∨ ∃ q : Nat, r = q ∧ q ≤ l ∧ g.nm.size ≤ l)) ∧ Below w.heap.size w w' := by
  unfold maxLen at hz
  unfold gV
  by_cases g0 : (l : Int) < (g.nm.size : Int)
  · go_enter Tryd.func15, Tryd.ntmps15
    go_wp2_with fail
    go_ret
    exact ⟨⟨_, rfl, .inl rfl⟩, bel1 _ _⟩
  go_enter Tryd.func15, Tryd.ntmps15
  go_wp2_with fail
  go_ret
  exact ⟨⟨_, rfl, .inr ⟨l - g.nm.size, by omega, by omega, by omega⟩⟩, bel1 _ _⟩
set_option maxRecDepth 100000 in
set_option maxHeartbeats 1600000 in
theorem eqG_same (g : Gg) (w : World) :
    Calls Tryd.prog 18 #[gV g, gV g] w fun e w' => e = .returned (.bool true) ∧ Below w.heap.size w w' := by
  have q0' : (g.nm.toList != g.nm.toList) = false := by simp
  have q1 : (g.hd != g.hd) = false := by simp
  have q2 : (g.tk != g.tk) = false := by simp
  have q3 : (g.ex != g.ex) = false := by simp
  unfold gV
  go_enter Tryd.func18, Tryd.ntmps18
  go_wp2_with fail
  go_ret
  exact ⟨rfl, ((Below.refl _ _).alloc (Nat.le_refl _) _).alloc (by simp) _⟩
end Go.Proofs.YtimmeclclilpdaaDoor.Gr12
namespace Go.Proofs.YtimmeclclilpdaaDoor.Op
open Go.ChangeShapes Go.WideShapes Go.ChangeAt Go.RowKit Go.Deep
theorem cellsGrant : Tryd.prog.cellsOf 34 = 4 := by kernel_rfl
theorem array4g {α : Type} {cs : Array α} (h : cs.size = 4) : ∃ c0 c1 c2 c3, cs = #[c0, c1, c2, c3] := by
  obtain ⟨l⟩ := cs
  match l, h with
  | [c0, c1, c2, c3], _ => exact ⟨c0, c1, c2, c3, rfl⟩
set_option maxRecDepth 100000 in
theorem open_grant {H : Type} {enc : TypeId × Value → H} {w : World} {base : Nat} {spare : Nat → Bool} {held : Bool} {r : Reach} {b0 : Nat} {v : Value} {d : DataW H} {p : List MemPlace}
    (hv : Value.okWide Tryd.prog w r b0 34 v) (h : DataW.Trod enc Tryd.prog w base spare held 34 v d p) :
    ∃ g : Gr12.Gg, v = Gr12.gV g ∧ g.nm.size ≤ maxLen := by
  obtain ⟨cs, rfl, hsz, hf⟩ := open_cells Tryd.underlying34 (by kernel_rfl) hv h
  obtain ⟨c0, c1, c2, c3, rfl⟩ := array4g (hsz.trans cellsGrant)
  obtain ⟨s, rfl, hs⟩ := cell_string Tryd.underlying9 (hf 0 _ _ rfl rfl)
  obtain ⟨a1, rfl, _⟩ := cell_int Tryd.underlying3 (hf 1 _ _ rfl rfl)
  obtain ⟨a2, rfl, _⟩ := cell_int Tryd.underlying3 (hf 2 _ _ rfl rfl)
  obtain ⟨a3, rfl, _⟩ := cell_int Tryd.underlying3 (hf 3 _ _ rfl rfl)
  exact ⟨⟨s, a1, a2, a3⟩, rfl, hs⟩
end Go.Proofs.YtimmeclclilpdaaDoor.Op
