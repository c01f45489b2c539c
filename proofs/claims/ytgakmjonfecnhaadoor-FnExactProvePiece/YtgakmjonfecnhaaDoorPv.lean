/- ProvePiece: what both functions answer. -/
import Derived.Test.YtgakmjonfecnhaaDoorPu
namespace Go.Proofs.YtgakmjonfecnhaaDoor.Py
open Go.RowKit Go.Proofs.YtgakmjonfecnhaaDoor.Sl Go.Proofs.YtgakmjonfecnhaaDoor.By Go.Proofs.YtgakmjonfecnhaaDoor.Ap Go.Proofs.YtgakmjonfecnhaaDoor.Tx Go.Proofs.YtgakmjonfecnhaaDoor.Sh Go.Proofs.YtgakmjonfecnhaaDoor.Ho Go.Proofs.YtgakmjonfecnhaaDoor.Se Go.Proofs.YtgakmjonfecnhaaDoor.Ka Go.Proofs.YtgakmjonfecnhaaDoor.Sx Go.Proofs.YtgakmjonfecnhaaDoor.Pf Go.Proofs.YtgakmjonfecnhaaDoor.Px

noncomputable def pvC (ts : List ByteArray) (i : Int) : Int := if pcC ts = 0 then (if inP i 0 ((ts.length : Int) - 1) = true then 0 else 4) else pcC ts
noncomputable def pvL (ts : List ByteArray) (i : Int) : List ByteArray := if pvC ts i = 0 then pathF 64 ts i.toNat else []
theorem pv_bad {ts : List ByteArray} {i : Int} (h : pcC ts ≠ 0) : pvC ts i = pcC ts ∧ pvL ts i = [] := by
  have e : pvC ts i = pcC ts := if_neg h
  exact ⟨e, by unfold pvL; rw [e, if_neg h]⟩
theorem pv_out {ts : List ByteArray} {i : Int} (h : pcC ts = 0) (hi : inP i 0 ((ts.length : Int) - 1) = false) : pvC ts i = 4 ∧ pvL ts i = [] := by
  have e : pvC ts i = 4 := by unfold pvC; rw [if_pos h, hi]; rfl
  exact ⟨e, by unfold pvL; rw [e]; rfl⟩
theorem pv_ok {ts : List ByteArray} {i : Int} (h : pcC ts = 0) (hi : inP i 0 ((ts.length : Int) - 1) = true) : pvC ts i = 0 ∧ pvL ts i = pathF 64 ts i.toNat := by
  have e : pvC ts i = 0 := by unfold pvC; rw [if_pos h, hi]; rfl
  exact ⟨e, by unfold pvL; rw [if_pos e]⟩
theorem inP_get {n a b : Int} (h : inP n a b = true) : a ≤ n ∧ n ≤ b := by
  unfold inP at h
  rw [Bool.and_eq_true, decide_eq_true_eq, decide_eq_true_eq] at h
  exact h
theorem pv_small (ts : List ByteArray) (i : Int) : (pvL ts i).length ≤ 64 := by
  unfold pvL
  split
  · exact pathF_length 64 ts _
  · simp
set_option maxRecDepth 100000 in
set_option maxHeartbeats 800000 in
theorem implProvePiece_any (v : Value) (ts : List ByteArray) (i : Int) (w : World) (h : RowT w v ts) (hl : ts.length ≤ 1048576) (hK : KTab w) (hp : 0 < w.heap.size) :
    Calls Tryd.prog 30 #[v, .int .i64 i] w fun e w' => ∃ u, e = .returned (.tuple #[u, .int .i64 (pvC ts i)]) ∧ OwnS w' w.heap.size u (pvL ts i) ∧ Below w.heap.size w w' := by
  have HF : Hid (Calls Tryd.prog 67 #[v] w fun e w' => e = .returned (.int .i64 (pcC ts)) ∧ w = w') := piecesFault_any v ts w h (by unfold maxLen; omega)
  have hrow := h
  obtain ⟨a, cap, rfl, _⟩ := h
  have HI : Hid (Calls Tryd.prog 56 #[.int .i64 i, .int .i64 0, .int .i64 ((ts.length : Int) - 1)] w fun e w' => e = .returned (.bool (inP i 0 ((ts.length : Int) - 1))) ∧ w = w') := within_any _ _ _ _
  by_cases h0 : pcC ts = 0
  · have HP := pcC_get h0
    cases hin : inP i 0 ((ts.length : Int) - 1)
    case false =>
      have HE : Hid (pvC ts i = 4 ∧ pvL ts i = []) := pv_out h0 hin
      rw [h0] at HF
      rw [hin] at HI
      clear HP h0 hrow hin hK hp
      go_enter Tryd.func30, Tryd.ntmps30
      go_wp2_with fail
      refine HF.out.mono ?_
      rintro e w1 ⟨rfl, rfl⟩
      go_wp2_with fail
      refine HI.out.mono ?_
      rintro e w1 ⟨rfl, rfl⟩
      go_wp2_with fail
      go_ret2
      rw [HE.out.1, HE.out.2]
      exact ⟨_, rfl, OwnS.nil _ _, Below.refl _ _⟩
    case true =>
      have HE : Hid (pvC ts i = 0 ∧ pvL ts i = pathF 64 ts i.toNat) := pv_ok h0 hin
      obtain ⟨i1, i2⟩ := inP_get hin
      obtain ⟨k, rfl⟩ : ∃ k : Nat, i = (k : Int) := ⟨i.toNat, by omega⟩
      have HH : Hid (Calls Tryd.prog 70 #[.slice a ts.length cap, .int .i64 k] w fun e w' => ∃ u, e = .returned u ∧ OwnS w' w.heap.size u (pathF 64 ts k) ∧ Below w.heap.size w w') := rootsBeside_any 64 ts k _ w hrow (by omega) HP.1 (by decide) HP.small hK hp
      rw [Int.toNat_natCast] at HE
      rw [h0] at HF
      rw [hin] at HI
      clear HP h0 hrow hin hK hp i1 i2
      generalize pathF 64 ts k = ps at HE HH
      go_enter Tryd.func30, Tryd.ntmps30
      go_wp2_with fail
      refine HF.out.mono ?_
      rintro e w1 ⟨rfl, rfl⟩
      go_wp2_with fail
      refine HI.out.mono ?_
      rintro e w1 ⟨rfl, rfl⟩
      go_wp2_with fail
      refine HH.out.mono ?_
      rintro e w2 ⟨u, rfl, o2, b2⟩
      have O2 : Hid (OwnS w2 w.heap.size u ps) := o2
      clear o2
      go_wp2_with fail
      go_ret2
      rw [HE.out.1, HE.out.2]
      exact ⟨_, rfl, O2.out, b2⟩
  · have HE : Hid (pvC ts i = pcC ts ∧ pvL ts i = []) := pv_bad h0
    have hne : (pcC ts != 0) = true := by simpa using h0
    generalize pcC ts = c at HF hne HE
    clear h0 hrow hK hp HI
    go_enter Tryd.func30, Tryd.ntmps30
    go_wp2_with fail
    refine HF.out.mono ?_
    rintro e w1 ⟨rfl, rfl⟩
    go_wp2_with fail
    go_ret2
    rw [HE.out.1, HE.out.2]
    exact ⟨_, rfl, OwnS.nil _ _, Below.refl _ _⟩
set_option maxRecDepth 100000 in
set_option maxHeartbeats 800000 in
theorem specProvePiece_any (v : Value) (ts : List ByteArray) (i : Int) (w : World) (h : RowT w v ts) (hl : ts.length ≤ 1048576) :
    Calls Tryd.prog 29 #[v, .int .i64 i] w fun e w' => ∃ u, e = .returned (.tuple #[u, .int .i64 (pvC ts i)]) ∧ OwnS w' w.heap.size u (pvL ts i) ∧ Below w.heap.size w w' := by
  have HF : Hid (Calls Tryd.prog 65 #[v] w fun e w' => e = .returned (.bool (pcB ts)) ∧ w = w') := l09OK_any v ts w h (by unfold maxLen; omega)
  have hrow := h
  obtain ⟨a, cap, rfl, _⟩ := h
  have HI : Hid (Calls Tryd.prog 47 #[.int .i64 i, .int .i64 0, .int .i64 ((ts.length : Int) - 1)] w fun e w' => e = .returned (.bool (inP i 0 ((ts.length : Int) - 1))) ∧ w = w') := l01In_any _ _ _ _
  have HB0 : Hid (OwnS (w.alloc (.cells #[] 9)) w.heap.size (.slice (some ⟨w.heap.size, 0, none⟩) 0 0) []) := OwnS.made w _ (Nat.le_refl _)
  by_cases h1 : 4096 < ts.length
  · have h1' : (4096 : Int) < (ts.length : Int) := by omega
    have HC : Hid (pcC ts = 2) := by show _ = _; unfold pcC; rw [if_pos h1]
    have HE : Hid (pvC ts i = pcC ts ∧ pvL ts i = []) := pv_bad (by rw [HC.out]; decide)
    clear h1 hrow HF HI
    go_enter Tryd.func29, Tryd.ntmps29
    go_wp2_with fail
    go_ret2
    rw [HE.out.1, HE.out.2, HC.out]
    exact ⟨_, rfl, HB0.out, bel_new _ _⟩
  have h1' : ¬ (4096 : Int) < (ts.length : Int) := by omega
  cases hb : pcB ts
  case false =>
    have HC : Hid (pcC ts = 1) := by show _ = _; unfold pcC; rw [if_neg h1, hb]; rfl
    have HE : Hid (pvC ts i = pcC ts ∧ pvL ts i = []) := pv_bad (by rw [HC.out]; decide)
    rw [hb] at HF
    clear h1 hrow hb HI
    go_enter Tryd.func29, Tryd.ntmps29
    go_wp2_with fail
    refine HF.out.mono ?_
    rintro e w1 ⟨rfl, rfl⟩
    go_wp2_with fail
    go_ret2
    rw [HE.out.1, HE.out.2, HC.out]
    exact ⟨_, rfl, HB0.out, bel_new _ _⟩
  case true =>
    have HP := pcB_get hb
    have h0 : pcC ts = 0 := pcC_ok HP
    rw [hb] at HF
    cases hin : inP i 0 ((ts.length : Int) - 1)
    case false =>
      have HE : Hid (pvC ts i = 4 ∧ pvL ts i = []) := pv_out h0 hin
      rw [hin] at HI
      clear HP h0 hrow hin hb h1
      go_enter Tryd.func29, Tryd.ntmps29
      go_wp2_with fail
      refine HF.out.mono ?_
      rintro e w1 ⟨rfl, rfl⟩
      go_wp2_with fail
      refine HI.out.mono ?_
      rintro e w1 ⟨rfl, rfl⟩
      go_wp2_with fail
      go_ret2
      rw [HE.out.1, HE.out.2]
      exact ⟨_, rfl, HB0.out, bel_new _ _⟩
    case true =>
      have HE : Hid (pvC ts i = 0 ∧ pvL ts i = pathF 64 ts i.toNat) := pv_ok h0 hin
      obtain ⟨i1, i2⟩ := inP_get hin
      obtain ⟨k, rfl⟩ : ∃ k : Nat, i = (k : Int) := ⟨i.toNat, by omega⟩
      have HH : Hid (Calls Tryd.prog 69 #[.slice a ts.length cap, .int .i64 k] w fun e w' => ∃ u, e = .returned u ∧ OwnS w' w.heap.size u (pathF 64 ts k) ∧ Below w.heap.size w w') := l09Path_any 64 ts k _ w hrow (by omega) HP.1 (by decide) HP.small
      rw [Int.toNat_natCast] at HE
      rw [hin] at HI
      clear HP h0 hrow hin hb h1 i1 i2 HB0
      generalize pathF 64 ts k = ps at HE HH
      go_enter Tryd.func29, Tryd.ntmps29
      go_wp2_with fail
      refine HF.out.mono ?_
      rintro e w1 ⟨rfl, rfl⟩
      go_wp2_with fail
      refine HI.out.mono ?_
      rintro e w1 ⟨rfl, rfl⟩
      go_wp2_with fail
      refine HH.out.mono ?_
      rintro e w2 ⟨u, rfl, o2, b2⟩
      have O2 : Hid (OwnS w2 w.heap.size u ps) := o2
      clear o2
      go_wp2_with fail
      go_ret2
      rw [HE.out.1, HE.out.2]
      exact ⟨_, rfl, O2.out, b2⟩
end Go.Proofs.YtgakmjonfecnhaaDoor.Py
