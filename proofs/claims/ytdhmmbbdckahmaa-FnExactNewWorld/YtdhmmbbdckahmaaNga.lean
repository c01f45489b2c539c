/- New groups: who may be faulty. -/
import Derived.Test.YtdhmmbbdckahmaaNv
import Derived.Test.YtdhmmbbdckahmaaSo
namespace Go.Proofs.Ytdhmmbbdckahmaa.Ng
open Go.RowKit Go.Proofs.Ytdhmmbbdckahmaa.Rg Go.Proofs.Ytdhmmbbdckahmaa.Tm Go.Proofs.Ytdhmmbbdckahmaa.Nr Go.Proofs.Ytdhmmbbdckahmaa.Is
open Go.Proofs.Ytdhmmbbdckahmaa.So hiding bel_new
open Go.Proofs.Ytdhmmbbdckahmaa.Sl (nth)
open Go.Proofs.Ytdhmmbbdckahmaa.Qm (inB)

noncomputable def bOf (p : Prop) : Bool := @decide p (Classical.propDecidable p)
theorem bOf_true {p : Prop} (h : p) : bOf p = true := by unfold bOf; simp [h]
theorem bOf_false {p : Prop} (h : ¬ p) : bOf p = false := by unfold bOf; simp [h]
theorem bOf_iff {p : Prop} : bOf p = true ↔ p := by unfold bOf; simp
theorem ret_b {a b : Bool} (h : a = b) : Ending.returned (.bool a) = .returned (.bool b) := by rw [h]
theorem upto_succ {α : Type} {P : Nat → α → Prop} {xs : List α} {k : Nat} {x : α} (h : ∀ j y, j < k → xs[j]? = some y → P j y) (hx : xs[k]? = some x) (hp : P k x) : ∀ j y, j < k + 1 → xs[j]? = some y → P j y := fun j y hj hy => by
  by_cases e : j = k
  · subst e; rw [hx] at hy; cases hy; exact hp
  · exact h j y (by omega) hy
theorem inB_iff {x a b : Int} : inB x a b = true ↔ (a ≤ x ∧ x ≤ b) := by unfold inB; rw [decide_eq_true_eq]
theorem f_four {n : Int} (h : ¬ fCode n = 0) : fCode n = 4 := by
  unfold fCode at h ⊢
  split
  · rename_i hq; rw [if_pos hq] at h; exact absurd rfl h
  · rfl
theorem f_small {n : Int} (h : fCode n = 0) : 1 ≤ n ∧ n ≤ 7 := by
  rcases f_cases n with rfl | rfl | rfl | ⟨_, _, _, _, hd⟩
  · decide
  · decide
  · decide
  · rw [hd] at h; cases h
def EI (w : World) (b o : Nat) (x : Int) : Prop := w.cell? ⟨b, o, none⟩ = some (.int .i64 x)
def RowN (w : World) (v : Value) (xs : List Int) : Prop := RowG 1 EI w v xs
theorem staysI : Stays EI := fun _ _ b _ _ hb hlt h => (hb.cell (p := ⟨b, _, none⟩) hlt).trans h
theorem RowN.below {w w' : World} {v : Value} {xs : List Int} (h : RowN w v xs) (hb : Below w.heap.size w w') : RowN w' v xs := RowG.below staysI h hb
theorem rowN {w : World} {v : Value} {xs : List Int} (h : RowI w v xs) : RowN w v xs := by
  obtain ⟨a, cap, rfl, h, _⟩ := h
  refine ⟨a, cap, rfl, ?_⟩
  rcases h with h | ⟨b, off, rfl, hc, hlt, h⟩
  · exact .inl h
  · refine .inr ⟨b, off, rfl, hc, hlt, fun i x hi => ?_⟩
    have h1 := h i (lt_at hi)
    have h2 := nth_at (lt_at hi)
    rw [hi] at h2
    cases h2
    rw [Nat.mul_one]
    exact h1
/-- The faulty ones are nodes, rising, at most f of them. -/
def lastF (fa : List Int) : Nat → Int
  | 0 => -1
  | k + 1 => fa.getD k 0
def OneF (n : Int) (fa : List Int) (k : Nat) (x : Int) : Prop := lastF fa k + 1 ≤ x ∧ x ≤ n - 1
def FaP (n : Int) (fa : List Int) : Prop := (fa.length : Int) ≤ fOut n ∧ ∀ k x, k < fa.length → fa[k]? = some x → OneF n fa k x
noncomputable def faB (n : Int) (fa : List Int) : Bool := bOf (fCode n = 0 ∧ FaP n fa)
theorem lastF_step {fa : List Int} {k : Nat} {x : Int} (h : fa[k]? = some x) : lastF fa (k + 1) = x := by
  show fa.getD k 0 = x
  rw [List.getD_eq_getElem?_getD, h]; rfl
theorem lastF_low {n : Int} {fa : List Int} : ∀ {k : Nat}, k ≤ fa.length → (∀ j x, j < k → fa[j]? = some x → OneF n fa j x) → -1 ≤ lastF fa k ∧ (k = 0 ∨ lastF fa k ≤ n - 1)
  | 0, _, _ => ⟨by show (-1 : Int) ≤ -1; omega, .inl rfl⟩
  | k + 1, hk, h => by
    obtain ⟨x, hx⟩ := Rg.get_at (show k < fa.length by omega)
    obtain ⟨h1, h2⟩ := h k x (by omega) hx
    have h3 := (lastF_low (show k ≤ fa.length by omega) fun j y hj hy => h j y (by omega) hy).1
    rw [lastF_step hx]
    exact ⟨by omega, .inr h2⟩
theorem f_out {n : Int} (h : fCode n = 0) : 0 ≤ fOut n ∧ fOut n ≤ 2 := by
  rcases f_cases n with rfl | rfl | rfl | ⟨_, _, _, _, hd⟩
  · decide
  · decide
  · decide
  · rw [hd] at h; cases h
set_option maxRecDepth 100000 in
set_option maxHeartbeats 3200000 in
theorem faultyOK_any (n : Int) (v : Value) (fa : List Int) (w : World) (h : RowN w v fa) (hl : fa.length ≤ 1048576) :
    Calls Try.prog 29 #[.int .i64 n, v] w fun e w' => e = .returned (.bool (faB n fa)) ∧ w = w' := by
  have HR : Hid (RowN w v fa) := h
  obtain ⟨a, cap, rfl⟩ := RowG.slice h
  clear h
  obtain ⟨bb, HBB⟩ : ∃ bb, Hid (faB n fa = bb) := ⟨_, rfl⟩
  rw [HBB.out]
  have HN : Hid (∀ _ : Unit, ¬ (fCode n = 0 ∧ FaP n fa) → bb = false) := fun _ hh => by rw [← HBB.out]; exact bOf_false hh
  have HFO := implFaultsOf_any n w
  by_cases hf : fCode n = 0
  rotate_left
  · have h4 : fCode n = 4 := f_four hf
    have HF : Hid (bb = false) := HN.out () fun hh => hf hh.1
    rw [h4] at HFO
    clear hf h4
    go_enter Try.func29, Try.ntmps29
    go_wp2_with fail
    refine HFO.mono ?_
    rintro e w1 ⟨rfl, hw⟩
    rw [hw]
    clear hw
    go_wp2_with fail
    go_ret
    exact ⟨ret_b HF.out.symm, rfl⟩
  have hn7 := f_small hf
  have hfo := f_out hf
  have HF0 : Hid (fCode n = 0) := hf
  rw [hf] at HFO
  clear hf
  by_cases hlen : (fa.length : Int) ≤ fOut n
  rotate_left
  · have hlen' : fOut n < (fa.length : Int) := by omega
    have HF : Hid (bb = false) := HN.out () fun hh => hlen hh.2.1
    clear hlen
    go_enter Try.func29, Try.ntmps29
    go_wp2_with fail
    refine HFO.mono ?_
    rintro e w1 ⟨rfl, hw⟩
    rw [hw]
    clear hw
    go_wp2_with fail
    go_ret
    exact ⟨ret_b HF.out.symm, rfl⟩
  have hlen' : ¬ fOut n < (fa.length : Int) := by omega
  have HLE : Hid ((fa.length : Int) ≤ fOut n) := hlen
  clear hlen
  go_enter Try.func29, Try.ntmps29
  go_wp2_with fail
  refine HFO.mono ?_
  rintro e w1 ⟨rfl, hw⟩
  rw [hw]
  clear hw w1
  go_wp2_with fail
  go_loopw [7, 25] (fun l i wr => ∃ (k : Nat) (y : Int), k ≤ fa.length ∧ l = .int .i64 y ∧ -1 ≤ y ∧ y ≤ 6 ∧ i = .int .i64 k ∧ Hid (y = lastF fa k) ∧ Hid (∀ j x, j < k → fa[j]? = some x → OneF n fa j x) ∧ wr = w) (fun _ i _ => fa.length - (intOf i).toNat)
  case atStart => exact ⟨0, -1, by omega, rfl, by omega, by omega, rfl, rfl, fun j x hj => by omega, rfl⟩
  case round =>
    obtain ⟨k, y, hk, rfl, hy0, hy6, rfl, HL, HJ, hwr⟩ := hrel
    rw [hwr]
    clear hwr wr
    by_cases hlt : k < fa.length
    · obtain ⟨x, hx⟩ := Rg.get_at hlt
      obtain ⟨b, off, rfl, hbl, c0⟩ := RowG.at HR.out rfl hx
      unfold EI at c0
      rw [Nat.mul_one] at c0
      have HWI : Hid (Calls Try.prog 32 #[.int .i64 x, .int .i64 (y + 1), .int .i64 (n - 1)] w fun e w' => e = .returned (.bool (inB x (y + 1) (n - 1))) ∧ w = w') := Qm.within_any x (y + 1) (n - 1) w
      cases hin : inB x (y + 1) (n - 1) with
      | false =>
        have HF : Hid (bb = false) := HN.out () fun hh => by
          have h1 := hh.2.2 k x hlt hx
          have h2 : inB x (y + 1) (n - 1) = true := inB_iff.2 ⟨by rw [HL.out]; exact h1.1, h1.2⟩
          rw [hin] at h2
          cases h2
        rw [hin] at HWI
        clear hin hx
        go_wp2_with fail
        refine HWI.out.mono ?_
        rintro e w2 ⟨rfl, rfl⟩
        go_wp2_with fail
        go_ret
        exact ⟨ret_b HF.out.symm, rfl⟩
      | true =>
        have h1 := inB_iff.1 hin
        have HO : Hid (OneF n fa k x) := ⟨by rw [← HL.out]; exact h1.1, h1.2⟩
        have HU : Hid (∀ j z, j < k + 1 → fa[j]? = some z → OneF n fa j z) := upto_succ HJ.out hx HO.out
        have HL2 : Hid (x = lastF fa (k + 1)) := (lastF_step hx).symm
        have hx1 : -1 ≤ x ∧ x ≤ 6 := by omega
        rw [hin] at HWI
        clear hin hx h1
        go_wp2_with fail
        refine HWI.out.mono ?_
        rintro e w2 ⟨rfl, rfl⟩
        go_wp2_with fail
        exact ⟨⟨k + 1, x, by omega, rfl, hx1.1, hx1.2, by go_num, HL2, HU, by first | rfl | trivial⟩, by simp [intOf]; omega⟩
    · obtain rfl : k = fa.length := by omega
      have HT : Hid (bb = true) := by show _ = _; rw [← HBB.out]; exact bOf_true ⟨HF0.out, HLE.out, HJ.out⟩
      go_wp2_with fail
      go_ret
      exact ⟨ret_b HT.out.symm, rfl⟩
theorem f_div {n : Int} (h : fCode n = 0) : Int.tdiv (n - 1) 3 = fOut n ∧ (n - 1) / 3 = fOut n := by
  rcases f_cases n with rfl | rfl | rfl | ⟨_, _, _, _, hd⟩
  · decide
  · decide
  · decide
  · rw [hd] at h; cases h
set_option maxRecDepth 100000 in
set_option maxHeartbeats 3200000 in
theorem l08Faulty_any (n : Int) (v : Value) (fa : List Int) (w : World) (hf : fCode n = 0) (h : RowN w v fa) (hl : fa.length ≤ 1048576) :
    Calls Try.prog 13 #[.int .i64 n, v] w fun e w' => e = .returned (.bool (faB n fa)) ∧ Below w.heap.size w w' := by
  have HR : Hid (RowN w v fa) := h
  obtain ⟨a, cap, rfl⟩ := RowG.slice h
  clear h
  obtain ⟨bb, HBB⟩ : ∃ bb, Hid (faB n fa = bb) := ⟨_, rfl⟩
  rw [HBB.out]
  have HN : Hid (∀ _ : Unit, ¬ FaP n fa → bb = false) := fun _ hh => by rw [← HBB.out]; exact bOf_false fun h => hh h.2
  have hn7 := f_small hf
  have hfo := f_out hf
  obtain ⟨hq1, hq2⟩ := f_div hf
  have HF0 : Hid (fCode n = 0) := hf
  clear hf
  by_cases hlen : (fa.length : Int) ≤ fOut n
  rotate_left
  · have hlen' : fOut n < (fa.length : Int) := by omega
    have HF : Hid (bb = false) := HN.out () fun hh => hlen hh.1
    clear hlen
    go_enter Try.func13, Try.ntmps13
    go_wp2_with fail
    go_ret
    exact ⟨ret_b HF.out.symm, Below.refl _ _⟩
  have hlen' : ¬ fOut n < (fa.length : Int) := by omega
  have HLE : Hid ((fa.length : Int) ≤ fOut n) := hlen
  clear hlen
  go_enter Try.func13, Try.ntmps13
  go_wp2_with fail
  clear hq1 hq2
  go_loopw [5] (fun i wr => ∃ k : Nat, k ≤ fa.length ∧ i = .int .i64 k ∧ Hid (∀ j x, j < k → fa[j]? = some x → OneF n fa j x) ∧ Hid (Below w.heap.size w wr)) (fun i _ => fa.length - (intOf i).toNat)
  case atStart => exact ⟨0, by omega, rfl, fun j x hj => by omega, Below.refl _ _⟩
  case round =>
    obtain ⟨k, hk, rfl, HJ, HB⟩ := hrel
    by_cases hlt : k < fa.length
    · obtain ⟨x, hx⟩ := Rg.get_at hlt
      obtain ⟨b, off, rfl, hbl, c0⟩ := RowG.at (HR.out.below HB.out) rfl hx
      unfold EI at c0
      rw [Nat.mul_one] at c0
      have HX : Hid (fa[k]? = some x) := hx
      have HRW : Hid (RowN wr (.slice (some ⟨b, off, none⟩) fa.length cap) fa) := HR.out.below HB.out
      have HLO : Hid (-1 ≤ lastF fa k) := (lastF_low hk HJ.out).1
      have HIN : Hid (∀ W, Calls Try.prog 26 #[.int .i64 x, .int .i64 0, .int .i64 (n - 1)] W fun e w' => e = .returned (.bool (inB x 0 (n - 1))) ∧ W = w') := fun W => Qm.l01In_any x 0 (n - 1) W
      have HNF : Hid (∀ _ : Unit, ¬ OneF n fa k x → bb = false) := fun _ hh => HN.out () fun h => hh (h.2 k x hlt HX.out)
      have HY : Hid (OneF n fa k x → ∀ j z, j < k + 1 → fa[j]? = some z → OneF n fa j z) := fun hh => upto_succ HJ.out HX.out hh
      have hp0 : (0 : Int) ≤ (k : Int) := by omega
      have hp1 : (k : Int) < (fa.length : Int) := by omega
      have hw0 : IntKind.i64.wrap (n - 1) = n - 1 := by rw [IntKind.wrap_i64]; omega
      clear hx
      go_upto_region 6 with fail
      obtain ⟨X, hX, W, QI0, QO0⟩ := Qc.klass wr
      have QI : Hid (∀ w', Below wr.heap.size wr w' → ∃ x, w' = W x) := QI0
      have QO : Hid (∀ x, Below wr.heap.size wr (W x)) := QO0
      clear QI0 QO0
      have q0 := Qc.cell_all QO.out c0
      clear c0
      cases hin : inB x 0 (n - 1) with
      | false =>
        have HF : Hid (bb = false) := HNF.out () fun hh => by
          have h2 : inB x 0 (n - 1) = true := inB_iff.2 ⟨by have := HLO.out; have := hh.1; omega, hh.2⟩
          rw [hin] at h2; cases h2
        rw [hin] at HIN
        clear hin
        refine Qc.region_class (W := W) (by kernel_rfl) (by kernel_rfl) (QI.out _ Qc.from_drew) ?_
        repeat (go_big_quiet_step (first | (go_at_call 26; refine (HIN.out _).mono ?_; rintro e w2 ⟨rfl, rfl⟩; exact ⟨rfl, ⟨_, rfl⟩⟩)))
        refine wpQuiet_nil ?_
        rintro _ ⟨xq, rfl⟩
        have G2 : Hid (Below w.heap.size w (W xq)) := HB.out.trans ((QO.out xq).mono HB.out.size)
        clear q0
        generalize W xq = wq at G2 ⊢
        go_wp2_with fail
        go_ret
        exact ⟨ret_b HF.out.symm, G2.out⟩
      | true =>
        have h1 := inB_iff.1 hin
        have HI1 : Hid (0 ≤ x ∧ x ≤ n - 1) := h1
        rw [hin] at HIN
        clear hin h1
        by_cases hk0 : k = 0
        · subst hk0
          have HU : Hid (∀ j z, j < 0 + 1 → fa[j]? = some z → OneF n fa j z) := HY.out ⟨by show (-1 : Int) + 1 ≤ x; have := HI1.out.1; omega, HI1.out.2⟩
          simp only [Nat.add_zero] at q0
          refine Qc.region_class (W := W) (by kernel_rfl) (by kernel_rfl) (QI.out _ Qc.from_drew) ?_
          repeat (go_big_quiet_step (first | (go_at_call 26; refine (HIN.out _).mono ?_; rintro e w2 ⟨rfl, rfl⟩; exact ⟨rfl, ⟨_, rfl⟩⟩)))
          refine wpQuiet_nil ?_
          rintro _ ⟨xq, rfl⟩
          have G2 : Hid (Below w.heap.size w (W xq)) := HB.out.trans ((QO.out xq).mono HB.out.size)
          clear q0
          generalize W xq = wq at G2 ⊢
          go_wp2_with fail
          exact ⟨⟨0 + 1, by omega, by go_num, HU, G2⟩, by simp [intOf]; omega⟩
        · obtain ⟨m, rfl⟩ : ∃ m, k = m + 1 := ⟨k - 1, by omega⟩
          obtain ⟨y, hy⟩ := Rg.get_at (xs := fa) (k := m) (by omega)
          obtain ⟨b3, off3, e3, hb3, d0⟩ := RowG.at HRW.out rfl hy
          cases e3
          unfold EI at d0
          rw [Nat.mul_one] at d0
          have q9 := Qc.cell_all QO.out d0
          have HLS : Hid (lastF fa (m + 1) = y) := lastF_step hy
          clear d0 hk0 hy
          have hm1 : ((m + 1 : Nat) : Int) - 1 = (m : Int) := by omega
          have hw1 : IntKind.i64.wrap (((m + 1 : Nat) : Int) - 1) = (m : Int) := by rw [IntKind.wrap_i64]; omega
          have hw2 : IntKind.i64.wrap (m : Int) = (m : Int) := by rw [IntKind.wrap_i64]; omega
          have hm0 : (0 : Int) < ((m + 1 : Nat) : Int) := by omega
          have hm2 : (m : Int) < (fa.length : Int) := by omega
          have hm3 : (0 : Int) ≤ (m : Int) := by omega
          by_cases g4 : y < x
          · have HU : Hid (∀ j z, j < m + 1 + 1 → fa[j]? = some z → OneF n fa j z) := HY.out ⟨by rw [HLS.out]; omega, HI1.out.2⟩
            have g4a : ¬ y ≥ x := by omega
            have g4b : ¬ x ≤ y := by omega
            clear g4
            refine Qc.region_class (W := W) (by kernel_rfl) (by kernel_rfl) (QI.out _ Qc.from_drew) ?_
            repeat (go_big_quiet_step (first | (go_at_call 26; refine (HIN.out _).mono ?_; rintro e w2 ⟨rfl, rfl⟩; exact ⟨rfl, ⟨_, rfl⟩⟩)))
            refine wpQuiet_nil ?_
            rintro _ ⟨xq, rfl⟩
            have G2 : Hid (Below w.heap.size w (W xq)) := HB.out.trans ((QO.out xq).mono HB.out.size)
            clear q0 q9
            generalize W xq = wq at G2 ⊢
            go_wp2_with fail
            exact ⟨⟨m + 1 + 1, by omega, by go_num, HU, G2⟩, by simp [intOf]; omega⟩
          · have HF : Hid (bb = false) := HNF.out () fun hh => g4 (by have := hh.1; rw [HLS.out] at this; omega)
            have g4a : y ≥ x := by omega
            have g4b : x ≤ y := by omega
            clear g4
            refine Qc.region_class (W := W) (by kernel_rfl) (by kernel_rfl) (QI.out _ Qc.from_drew) ?_
            repeat (go_big_quiet_step (first | (go_at_call 26; refine (HIN.out _).mono ?_; rintro e w2 ⟨rfl, rfl⟩; exact ⟨rfl, ⟨_, rfl⟩⟩)))
            refine wpQuiet_nil ?_
            rintro _ ⟨xq, rfl⟩
            have G2 : Hid (Below w.heap.size w (W xq)) := HB.out.trans ((QO.out xq).mono HB.out.size)
            clear q0 q9
            generalize W xq = wq at G2 ⊢
            go_wp2_with fail
            go_ret
            exact ⟨ret_b HF.out.symm, G2.out⟩
    · obtain rfl : k = fa.length := by omega
      have HT : Hid (bb = true) := by show _ = _; rw [← HBB.out]; exact bOf_true ⟨HF0.out, HLE.out, HJ.out⟩
      go_wp2_with fail
      go_ret
      exact ⟨ret_b HT.out.symm, HB.out⟩
end Go.Proofs.Ytdhmmbbdckahmaa.Ng
