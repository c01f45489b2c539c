/- Replies: what is right of one, its mark: of the program. -/
import Derived.Test.YtiflfcpoajijaaaDoorRm
import Derived.Deep.Onto
import Derived.Test.YtiflfcpoajijaaaDoorFq
import Derived.Test.YtiflfcpoajijaaaDoorGy
import Derived.Test.YtiflfcpoajijaaaDoorJFnClients0
import Derived.Deep.RegionLaw
import Derived.Deep.Cut
import Derived.Deep.RegionHeldLaw
namespace Go.Proofs.YtiflfcpoajijaaaDoor.Ry
open Go.RowKit Go.Proofs.YtiflfcpoajijaaaDoor.Sl Go.Proofs.YtiflfcpoajijaaaDoor.By Go.Proofs.YtiflfcpoajijaaaDoor.Ap Go.Proofs.YtiflfcpoajijaaaDoor.Tx Go.Proofs.YtiflfcpoajijaaaDoor.Sh Go.Proofs.YtiflfcpoajijaaaDoor.Ho Go.Proofs.YtiflfcpoajijaaaDoor.Fz Go.Proofs.YtiflfcpoajijaaaDoor.Pu Go.Proofs.YtiflfcpoajijaaaDoor.Fu Go.Proofs.YtiflfcpoajijaaaDoor.Mr Go.Proofs.YtiflfcpoajijaaaDoor.Rm Go.Proofs.YtiflfcpoajijaaaDoor.Fq
open Go.Proofs.YtiflfcpoajijaaaDoor.Gy (Re oneV)

def bRe : List Int := [114, 101, 112, 108, 121]
/-- An answer is right; what was seen is; a reply is but for its mark. -/
def anB (k t h e0 : Int) : Bool := inR k 1 8 && (inR t 0 1000000 && (inR h (-1) 255 && inR e0 0 2000000000))
def seB (c s k t h e0 : Int) : Bool := inR c 0 255 && (inR s 1 65535 && anB k t h e0)
def foB (x : Re) : Bool := inR x.nd 0 6 && (inR x.cl 0 255 && (inR x.st 1 65535 && anB x.kd x.tk x.hd x.ex))
/-- What a reply's mark stands under; the mark. -/
def reBs (x : Re) : List Int := ((((((bRe ++ nums x.cl 1 1) ++ nums x.st 2 2) ++ nums x.kd 1 1) ++ nums x.tk 3 3) ++ nums (x.hd + 1) 2 2) ++ nums x.ex 4 4)
def rymk (x : Re) : ByteArray := mac x.nd.toNat (reBs x)
theorem re_range (x : Re) : ∀ z ∈ reBs x, 0 ≤ z ∧ z ≤ 255 := range_append (range_append (range_append (range_append (range_append (range_append (by decide) (nums_range _ _ _)) (nums_range _ _ _)) (nums_range _ _ _)) (nums_range _ _ _)) (nums_range _ _ _)) (nums_range _ _ _)
theorem re_len (x : Re) : (reBs x).length = 18 := by unfold reBs; simp only [List.length_append, nums_length]; rfl
theorem fo_nat {x : Re} (h : foB x = true) : (0 ≤ x.nd ∧ x.nd ≤ 6) ∧ (-1 ≤ x.hd ∧ x.hd ≤ 255) := by
  unfold foB anB at h
  simp only [Bool.and_eq_true] at h
  exact ⟨inR_nat h.1, inR_nat h.2.2.2.2.2.1⟩
def snv (x : Re) : Value := .agg #[.int .i64 x.cl, .int .i64 x.st, .int .i64 x.kd, .int .i64 x.tk, .int .i64 x.hd, .int .i64 x.ex]
theorem fo_se (x : Re) : foB x = (inR x.nd 0 6 && seB x.cl x.st x.kd x.tk x.hd x.ex) := rfl
set_option maxRecDepth 100000 in
set_option maxHeartbeats 1600000 in
theorem answerOK_any (k t h e0 : Int) (w : World) :
    Calls Tryd.prog 31 #[.agg #[.int .i64 k, .int .i64 t, .int .i64 h, .int .i64 e0]] w fun e w' => e = .returned (.bool (anB k t h e0)) ∧ Below w.heap.size w w' := by
  cases h1 : inR k 1 8 with
  | false =>
    have HE : Hid (anB k t h e0 = false) := by show _ = _; unfold anB; rw [h1]; rfl
    go_enter Tryd.func31, Tryd.ntmps31
    go_wp2_with (go_at_call 12; refine (within_any _ _ _ _).mono ?_; rintro e w1 ⟨rfl, rfl⟩; first | rw [h1])
    go_ret
    exact ⟨ret_bool HE.out.symm, bel_new _ _⟩
  | true =>
    cases h2 : inR t 0 1000000 with
    | false =>
      have HE : Hid (anB k t h e0 = false) := by show _ = _; unfold anB; rw [h1, h2]; rfl
      go_enter Tryd.func31, Tryd.ntmps31
      go_wp2_with (go_at_call 12; refine (within_any _ _ _ _).mono ?_; rintro e w1 ⟨rfl, rfl⟩; first | rw [h1] | rw [h2])
      go_ret
      exact ⟨ret_bool HE.out.symm, bel_new _ _⟩
    | true =>
      cases h3 : inR h (-1) 255 with
      | false =>
        have HE : Hid (anB k t h e0 = false) := by show _ = _; unfold anB; rw [h1, h2, h3]; rfl
        go_enter Tryd.func31, Tryd.ntmps31
        go_wp2_with (go_at_call 12; refine (within_any _ _ _ _).mono ?_; rintro e w1 ⟨rfl, rfl⟩; first | rw [h1] | rw [h2] | rw [h3])
        go_ret
        exact ⟨ret_bool HE.out.symm, bel_new _ _⟩
      | true =>
        cases h4 : inR e0 0 2000000000 with
        | false =>
          have HE : Hid (anB k t h e0 = false) := by show _ = _; unfold anB; rw [h1, h2, h3, h4]; rfl
          go_enter Tryd.func31, Tryd.ntmps31
          go_wp2_with (go_at_call 12; refine (within_any _ _ _ _).mono ?_; rintro e w1 ⟨rfl, rfl⟩; first | rw [h1] | rw [h2] | rw [h3] | rw [h4])
          go_ret
          exact ⟨ret_bool HE.out.symm, bel_new _ _⟩
        | true =>
          have HE : Hid (anB k t h e0 = true) := by show _ = _; unfold anB; rw [h1, h2, h3, h4]; rfl
          go_enter Tryd.func31, Tryd.ntmps31
          go_wp2_with (go_at_call 12; refine (within_any _ _ _ _).mono ?_; rintro e w1 ⟨rfl, rfl⟩; first | rw [h1] | rw [h2] | rw [h3] | rw [h4])
          go_ret
          exact ⟨ret_bool HE.out.symm, bel_new _ _⟩
set_option maxRecDepth 100000 in
set_option maxHeartbeats 1600000 in
theorem seenOK_any (c s k t h e0 : Int) (w : World) :
    Calls Tryd.prog 25 #[.agg #[.int .i64 c, .int .i64 s, .int .i64 k, .int .i64 t, .int .i64 h, .int .i64 e0]] w fun e w' => e = .returned (.bool (seB c s k t h e0)) ∧ Below w.heap.size w w' := by
  cases h1 : inR c 0 255 with
  | false =>
    have HE : Hid (seB c s k t h e0 = false) := by show _ = _; unfold seB; rw [h1]; rfl
    go_enter Tryd.func25, Tryd.ntmps25
    go_wp2_with (first | (go_at_call 12; refine (within_any _ _ _ _).mono ?_; rintro e w1 ⟨rfl, rfl⟩; first | rw [h1]))
    go_ret
    exact ⟨ret_bool HE.out.symm, bel_new _ _⟩
  | true =>
    cases h2 : inR s 1 65535 with
    | false =>
      have HE : Hid (seB c s k t h e0 = false) := by show _ = _; unfold seB; rw [h1, h2]; rfl
      go_enter Tryd.func25, Tryd.ntmps25
      go_wp2_with (first | (go_at_call 12; refine (within_any _ _ _ _).mono ?_; rintro e w1 ⟨rfl, rfl⟩; first | rw [h1] | rw [h2]))
      go_ret
      exact ⟨ret_bool HE.out.symm, bel_new _ _⟩
    | true =>
      cases h3 : anB k t h e0 with
      | false =>
        have HE : Hid (seB c s k t h e0 = false) := by show _ = _; unfold seB; rw [h1, h2, h3]; rfl
        go_enter Tryd.func25, Tryd.ntmps25
        go_wp2_with (first | (go_at_call 12; refine (within_any _ _ _ _).mono ?_; rintro e w1 ⟨rfl, rfl⟩; first | rw [h1] | rw [h2] | rw [h3]) | (go_at_call 31; refine (answerOK_any _ _ _ _ _).mono ?_; rintro e w2 ⟨rfl, b2⟩; rw [h3]))
        go_ret
        exact ⟨ret_bool HE.out.symm, (bel_new _ _).trans (b2.mono (bel_new _ _).size)⟩
      | true =>
        have HE : Hid (seB c s k t h e0 = true) := by show _ = _; unfold seB; rw [h1, h2, h3]; rfl
        go_enter Tryd.func25, Tryd.ntmps25
        go_wp2_with (first | (go_at_call 12; refine (within_any _ _ _ _).mono ?_; rintro e w1 ⟨rfl, rfl⟩; first | rw [h1] | rw [h2] | rw [h3]) | (go_at_call 31; refine (answerOK_any _ _ _ _ _).mono ?_; rintro e w2 ⟨rfl, b2⟩; rw [h3]))
        go_ret
        exact ⟨ret_bool HE.out.symm, (bel_new _ _).trans (b2.mono (bel_new _ _).size)⟩
set_option maxRecDepth 100000 in
set_option maxHeartbeats 1600000 in
theorem seenOf_any (x : Re) (w : World) :
    Calls Tryd.prog 26 #[oneV x] w fun e w' => e = .returned (snv x) ∧ Below w.heap.size w w' := by
  unfold oneV
  go_enter Tryd.func26, Tryd.ntmps26
  go_wp2_with fail
  refine bodyPost_ret (v := snv x) (by simp [snv, results, Tryd.results26, go_sem]) rfl ⟨rfl, ?_⟩
  exact ((Below.refl _ _).alloc (Nat.le_refl _) _).alloc (by simp) _
set_option maxRecDepth 100000 in
set_option maxHeartbeats 1600000 in
theorem markable_any (x : Re) (w : World) :
    Calls Tryd.prog 18 #[oneV x] w fun e w' => e = .returned (.bool (foB x)) ∧ Below w.heap.size w w' := by
  cases h1 : inR x.nd 0 6 with
  | false =>
    have HE : Hid (foB x = false) := by show _ = _; rw [fo_se, h1]; rfl
    unfold oneV
    go_enter Tryd.func18, Tryd.ntmps18
    go_wp2_with (go_at_call 24; refine (nodeOK_any _ _).mono ?_; rintro e w1 ⟨rfl, rfl⟩; rw [h1])
    go_ret
    exact ⟨ret_bool HE.out.symm, bel_new _ _⟩
  | true =>
    have HE : Hid (foB x = seB x.cl x.st x.kd x.tk x.hd x.ex) := by show _ = _; rw [fo_se, h1]; rfl
    have HS : Hid (∀ W, Calls Tryd.prog 26 #[.agg #[.int .i64 x.nd, .int .i64 x.cl, .int .i64 x.st, .int .i64 x.kd, .int .i64 x.tk, .int .i64 x.hd, .int .i64 x.ex, .string x.mc]] W fun e w' => e = .returned (.agg #[.int .i64 x.cl, .int .i64 x.st, .int .i64 x.kd, .int .i64 x.tk, .int .i64 x.hd, .int .i64 x.ex]) ∧ Below W.heap.size W w') := fun W => seenOf_any x W
    unfold oneV
    go_enter Tryd.func18, Tryd.ntmps18
    go_wp2_with (first | (go_at_call 24; refine (nodeOK_any _ _).mono ?_; rintro e w1 ⟨rfl, rfl⟩; rw [h1]) | (go_at_call 26; refine (HS.out _).mono ?_; rintro e w2 ⟨rfl, b2⟩) | (go_at_call 25; refine (seenOK_any _ _ _ _ _ _ _).mono ?_; rintro e w3 ⟨rfl, b3⟩))
    go_ret
    have b4 := (bel_new w (.cells #[.int .i64 x.nd, .int .i64 x.cl, .int .i64 x.st, .int .i64 x.kd, .int .i64 x.tk, .int .i64 x.hd, .int .i64 x.ex, .string x.mc] 39)).trans (b2.mono (bel_new _ _).size)
    exact ⟨ret_bool HE.out.symm, b4.trans (b3.mono b4.size)⟩
set_option maxRecDepth 100000 in
set_option maxHeartbeats 1600000 in
theorem own_not {w : World} {v : Value} (h : OwnB 5 w w.heap.size v bRe) : False := by
  unfold OwnB at h
  obtain ⟨_, ⟨_, h⟩ | ⟨g, cp, A, _, hg, hA, _⟩⟩ := h
  · exact absurd h (by simp [bRe])
  · have := (Array.getElem?_eq_some_iff.1 hA).1
    omega
theorem putSeenA_any (v : Value) (x : Re) (w : World) (hown : OwnA w w.heap.size v bRe) (hh : -1 ≤ x.hd ∧ x.hd ≤ 255) :
    Calls Tryd.prog 28 #[v, snv x] w fun e w' => ∃ v', e = .returned v' ∧ OwnA w' w.heap.size v' (reBs x) ∧ Below w.heap.size w w' := by
  have HX : Hid (∀ W, Below (w.alloc (.cells #[.int .i64 x.cl, .int .i64 x.st, .int .i64 x.kd, .int .i64 x.tk, .int .i64 x.hd, .int .i64 x.ex] 74)).heap.size (w.alloc (.cells #[.int .i64 x.cl, .int .i64 x.st, .int .i64 x.kd, .int .i64 x.tk, .int .i64 x.hd, .int .i64 x.ex] 74)) W → W.cell? ⟨w.heap.size, 0, none⟩ = some (.int .i64 x.cl) ∧ W.cell? ⟨w.heap.size, 1, none⟩ = some (.int .i64 x.st) ∧ W.cell? ⟨w.heap.size, 2, none⟩ = some (.int .i64 x.kd) ∧ W.cell? ⟨w.heap.size, 3, none⟩ = some (.int .i64 x.tk) ∧ W.cell? ⟨w.heap.size, 4, none⟩ = some (.int .i64 x.hd) ∧ W.cell? ⟨w.heap.size, 5, none⟩ = some (.int .i64 x.ex)) := fun W hW => by
    have h1 := (hW.block w.heap.size (by simp)).trans (heap_alloc_new w _)
    exact ⟨(Rg.blk_cell h1 0 rfl).1, (Rg.blk_cell h1 1 rfl).1, (Rg.blk_cell h1 2 rfl).1, (Rg.blk_cell h1 3 rfl).1, (Rg.blk_cell h1 4 rfl).1, (Rg.blk_cell h1 5 rfl).1⟩
  have H0 : Hid (OwnA (w.alloc (.cells #[.int .i64 x.cl, .int .i64 x.st, .int .i64 x.kd, .int .i64 x.tk, .int .i64 x.hd, .int .i64 x.ex] 74)) (w.alloc (.cells #[.int .i64 x.cl, .int .i64 x.st, .int .i64 x.kd, .int .i64 x.tk, .int .i64 x.hd, .int .i64 x.ex] 74)).heap.size v bRe) := by
    rcases hown with h | h
    · exact (own_not h).elim
    · exact OwnA.below (.inr h) (bel_new _ _)
  have HB : Hid (Below w.heap.size w (w.alloc (.cells #[.int .i64 x.cl, .int .i64 x.st, .int .i64 x.kd, .int .i64 x.tk, .int .i64 x.hd, .int .i64 x.ex] 74)) ∧ w.heap.size ≤ (w.alloc (.cells #[.int .i64 x.cl, .int .i64 x.st, .int .i64 x.kd, .int .i64 x.tk, .int .i64 x.hd, .int .i64 x.ex] 74)).heap.size) := ⟨bel_new _ _, by simp⟩
  unfold snv
  go_enter Tryd.func28, Tryd.ntmps28
  go_upto_region 1 with fail
  generalize w.alloc (.cells #[.int .i64 x.cl, .int .i64 x.st, .int .i64 x.kd, .int .i64 x.tk, .int .i64 x.hd, .int .i64 x.ex] 74) = wb at HX H0 HB ⊢
  have K0 : Hid (Below wb.heap.size wb wb) := Below.refl _ _
  obtain ⟨q0, q1, q2, q3, q4, q5⟩ := HX.out _ K0.out
  go_wp2_with fail
  refine (putNumberA_any _ bRe x.cl 1 wb.heap.size _ H0.out K0.out.size (by decide) (by decide)).mono ?_
  rintro e w1 ⟨v1, rfl, o1, k1⟩
  have K1 : Hid (Below wb.heap.size wb w1) := K0.out.trans k1
  have H1 : Hid (OwnA w1 wb.heap.size v1 (bRe ++ nums x.cl 1 1)) := o1
  clear q0 q1 q2 q3 q4 q5 o1 k1
  obtain ⟨q0, q1, q2, q3, q4, q5⟩ := HX.out _ K1.out
  go_wp2_with fail
  refine (putNumberA_any _ ((bRe) ++ nums x.cl 1 1) x.st 2 wb.heap.size _ H1.out K1.out.size (by decide) (by simp only [bRe, List.length_append, nums_length, List.length_cons, List.length_nil]; omega)).mono ?_
  rintro e w2 ⟨v2, rfl, o2, k2⟩
  have K2 : Hid (Below wb.heap.size wb w2) := K1.out.trans k2
  have H2 : Hid (OwnA w2 wb.heap.size v2 (((bRe) ++ nums x.cl 1 1) ++ nums x.st 2 2)) := o2
  clear q0 q1 q2 q3 q4 q5 o2 k2
  obtain ⟨q0, q1, q2, q3, q4, q5⟩ := HX.out _ K2.out
  go_wp2_with fail
  refine (putNumberA_any _ (((bRe) ++ nums x.cl 1 1) ++ nums x.st 2 2) x.kd 1 wb.heap.size _ H2.out K2.out.size (by decide) (by simp only [bRe, List.length_append, nums_length, List.length_cons, List.length_nil]; omega)).mono ?_
  rintro e w3 ⟨v3, rfl, o3, k3⟩
  have K3 : Hid (Below wb.heap.size wb w3) := K2.out.trans k3
  have H3 : Hid (OwnA w3 wb.heap.size v3 ((((bRe) ++ nums x.cl 1 1) ++ nums x.st 2 2) ++ nums x.kd 1 1)) := o3
  clear q0 q1 q2 q3 q4 q5 o3 k3
  obtain ⟨q0, q1, q2, q3, q4, q5⟩ := HX.out _ K3.out
  go_wp2_with fail
  refine (putNumberA_any _ ((((bRe) ++ nums x.cl 1 1) ++ nums x.st 2 2) ++ nums x.kd 1 1) x.tk 3 wb.heap.size _ H3.out K3.out.size (by decide) (by simp only [bRe, List.length_append, nums_length, List.length_cons, List.length_nil]; omega)).mono ?_
  rintro e w4 ⟨v4, rfl, o4, k4⟩
  have K4 : Hid (Below wb.heap.size wb w4) := K3.out.trans k4
  have H4 : Hid (OwnA w4 wb.heap.size v4 (((((bRe) ++ nums x.cl 1 1) ++ nums x.st 2 2) ++ nums x.kd 1 1) ++ nums x.tk 3 3)) := o4
  clear q0 q1 q2 q3 q4 q5 o4 k4
  obtain ⟨q0, q1, q2, q3, q4, q5⟩ := HX.out _ K4.out
  go_wp2_with fail
  refine (putNumberA_any _ (((((bRe) ++ nums x.cl 1 1) ++ nums x.st 2 2) ++ nums x.kd 1 1) ++ nums x.tk 3 3) (x.hd + 1) 2 wb.heap.size _ H4.out K4.out.size (by decide) (by simp only [bRe, List.length_append, nums_length, List.length_cons, List.length_nil]; omega)).mono ?_
  rintro e w5 ⟨v5, rfl, o5, k5⟩
  have K5 : Hid (Below wb.heap.size wb w5) := K4.out.trans k5
  have H5 : Hid (OwnA w5 wb.heap.size v5 ((((((bRe) ++ nums x.cl 1 1) ++ nums x.st 2 2) ++ nums x.kd 1 1) ++ nums x.tk 3 3) ++ nums (x.hd + 1) 2 2)) := o5
  clear q0 q1 q2 q3 q4 q5 o5 k5
  obtain ⟨q0, q1, q2, q3, q4, q5⟩ := HX.out _ K5.out
  go_wp2_with fail
  refine (putNumberA_any _ ((((((bRe) ++ nums x.cl 1 1) ++ nums x.st 2 2) ++ nums x.kd 1 1) ++ nums x.tk 3 3) ++ nums (x.hd + 1) 2 2) x.ex 4 wb.heap.size _ H5.out K5.out.size (by decide) (by simp only [bRe, List.length_append, nums_length, List.length_cons, List.length_nil]; omega)).mono ?_
  rintro e w6 ⟨v6, rfl, o6, k6⟩
  have K6 : Hid (Below wb.heap.size wb w6) := K5.out.trans k6
  have H6 : Hid (OwnA w6 wb.heap.size v6 (((((((bRe) ++ nums x.cl 1 1) ++ nums x.st 2 2) ++ nums x.kd 1 1) ++ nums x.tk 3 3) ++ nums (x.hd + 1) 2 2) ++ nums x.ex 4 4)) := o6
  clear q0 q1 q2 q3 q4 q5 o6 k6
  go_wp2_with fail
  go_ret
  refine ⟨_, rfl, ?_, HB.out.1.trans (K6.out.mono HB.out.2)⟩
  rcases H6.out with h | h
  · exact .inl (World.ownsRow.mono h HB.out.2)
  · exact .inr h
end Go.Proofs.YtiflfcpoajijaaaDoor.Ry
