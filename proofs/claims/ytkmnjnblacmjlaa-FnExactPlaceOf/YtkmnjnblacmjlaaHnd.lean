/- The first place of a call in a log: PlaceOf of the program and of the specification. -/
import Derived.Test.YtkmnjnblacmjlaaHnc
import Derived.Test.YtkmnjnblacmjlaaSbt
namespace Go.Proofs.Ytkmnjnblacmjlaa.Hn
open Go.RowKit Go.Proofs.Ytkmnjnblacmjlaa.Sl Go.Proofs.Ytkmnjnblacmjlaa.By Go.Proofs.Ytkmnjnblacmjlaa.Ap Go.Proofs.Ytkmnjnblacmjlaa.Tkb
open Go.Proofs.Ytkmnjnblacmjlaa.Tx (RowT RowT.below tnth tnth_at tnth_mem)
open Go.Proofs.Ytkmnjnblacmjlaa.Rg (RowG RowG.slice)
theorem retI {a b : Int} (h : a = b) : Ending.returned (.int .i64 a) = .returned (.int .i64 b) := by rw [h]
theorem retII {a b c d : Int} (h : a = b ∧ c = d) : Ending.returned (.tuple #[.int .i64 a, .int .i64 c]) = .returned (.tuple #[.int .i64 b, .int .i64 d]) := by rw [h.1, h.2]
set_option maxRecDepth 100000 in
set_option maxHeartbeats 1600000 in
theorem placeFault_any (v : Value) (ts : List ByteArray) (w : World) (h : RowT w v ts) (hl : ts.length ≤ 1048576) (hz : ∀ t ∈ ts, t.size ≤ 1048576) :
    Calls Try.prog 10 #[v] w fun e w' => e = .returned (.int .i64 (pfC ts)) ∧ w = w' := by
  have HR : Hid (RowT w v ts) := h
  have HZ : Hid (∀ t ∈ ts, t.size ≤ 1048576) := hz
  obtain ⟨a, cap, rfl, _⟩ := h
  clear hz
  by_cases h1 : 4096 < ts.length
  · have hp : Hid (pfC ts = 2) := by show _ = _; unfold pfC; rw [if_pos h1]
    have h1' : (4096 : Int) < (ts.length : Int) := by omega
    go_enter Try.func10, Try.ntmps10
    go_wp2
    go_ret
    exact ⟨retI hp.out.symm, rfl⟩
  have h1' : ¬ (4096 : Int) < (ts.length : Int) := by omega
  by_cases h2 : 100 < ts.length
  · have hp : Hid (pfC ts = 4) := by show _ = _; unfold pfC; rw [if_neg h1, if_pos h2]
    have h2' : (100 : Int) < (ts.length : Int) := by omega
    go_enter Try.func10, Try.ntmps10
    go_wp2
    go_ret
    exact ⟨retI hp.out.symm, rfl⟩
  have h2' : ¬ (100 : Int) < (ts.length : Int) := by omega
  have HP : Hid (pfC ts = if longB ts then 1 else 0) := by show _ = _; unfold pfC; rw [if_neg h1, if_neg h2]
  go_enter Try.func10, Try.ntmps10
  go_wp2
  go_loopw [15] (fun i wr => ∃ k : Nat, k ≤ ts.length ∧ i = .int .i64 k ∧ w = wr ∧ Hid (∀ j, j < k → (tnth ts j).size ≤ 20000)) (fun i _ => ts.length - (intOf i).toNat)
  case atStart => exact ⟨0, Nat.zero_le _, rfl, rfl, fun j hj => absurd hj (by omega)⟩
  case round =>
    obtain ⟨k, hk, rfl, rfl, HJ⟩ := hrel
    by_cases hlt : k < ts.length
    · obtain ⟨a', cap', he, hc⟩ := HR.out
      rcases hc with hc | ⟨b, off, rfl, _, hbl, hcell⟩
      · exact absurd hlt (by rw [hc]; simp)
      cases he
      have c0 := hcell k hlt
      have HSZ : Hid ((tnth ts k).size ≤ 1048576) := HZ.out _ (tnth_mem hlt)
      have HYES : Hid (20000 < (tnth ts k).size → longB ts = true) := fun h => long_yes hlt h
      have HNO : Hid ((tnth ts k).size ≤ 20000 → ∀ j, j < k + 1 → (tnth ts j).size ≤ 20000) := fun h j hj => by
        by_cases e : j = k
        · subst e; exact h
        · exact HJ.out j (by omega)
      clear hcell HJ
      generalize tnth ts k = t at c0 HSZ HYES HNO
      by_cases hb : 20000 < t.size
      · have hb' : (20000 : Int) < (t.size : Int) := by omega
        have hq : Hid (pfC ts = 1) := by show _ = _; rw [HP.out, HYES.out hb]; rfl
        clear HYES HNO HP hb
        go_wp2
        go_ret
        exact ⟨retI hq.out.symm, rfl⟩
      · have hb' : ¬ (20000 : Int) < (t.size : Int) := by omega
        have HN : Hid (∀ j, j < k + 1 → (tnth ts j).size ≤ 20000) := HNO.out (by omega)
        clear HYES HNO hb
        go_wp2
        go_roundw
        case rel => exact ⟨k + 1, by omega, by simp, trivial, HN⟩
        case measure => simp [intOf]; omega
    · obtain rfl : k = ts.length := by omega
      have hq : Hid (pfC ts = 0) := by show _ = _; rw [HP.out, long_no HJ.out]; rfl
      clear HJ HP
      go_wp2
      go_ret
      exact ⟨retI hq.out.symm, rfl⟩
set_option maxRecDepth 100000 in
set_option maxHeartbeats 1600000 in
theorem implPlaceOf_any (v : Value) (ts : List ByteArray) (c s : Int) (w : World) (h : RowT w v ts) (hl : ts.length ≤ 1048576) (hz : ∀ t ∈ ts, t.size ≤ 1048576) :
    Calls Try.prog 7 #[v, .int .i64 c, .int .i64 s] w fun e w' => e = .returned (.tuple #[.int .i64 (plP c s ts), .int .i64 (plC c s ts)]) ∧ Below w.heap.size w w' := by
  have HPF := placeFault_any v ts w h hl hz
  by_cases h0 : pfC ts = 0
  · obtain ⟨_, g2⟩ := pfC_zero h0
    have HFP : Hid (Calls Try.prog 11 #[v, .int .i64 c, .int .i64 s] w fun e w' => e = .returned (.int .i64 (fp c s ts)) ∧ Below w.heap.size w w') := firstPlace_any v ts c s w h (by omega) g2
    have HA : Hid (plP c s ts = (if fp c s ts < 0 then 0 else fp c s ts) ∧ plC c s ts = (if fp c s ts < 0 then 5 else 0)) := by
      show _ ∧ _
      unfold plP plC
      rw [if_pos h0, if_pos h0]
      exact ⟨rfl, rfl⟩
    rw [h0] at HPF
    obtain ⟨q, HQ⟩ : ∃ q, Hid (fp c s ts = q) := ⟨_, rfl⟩
    rw [HQ.out] at HFP HA
    clear h hl hz h0 g2 HQ
    by_cases hq : q < 0
    · have HB : Hid (plP c s ts = 0 ∧ plC c s ts = 5) := by show _ ∧ _; rw [HA.out.1, HA.out.2, if_pos hq, if_pos hq]; exact ⟨rfl, rfl⟩
      clear HA
      go_enter Try.func7, Try.ntmps7
      go_wp2_with fail
      refine HPF.mono ?_
      rintro e w1 ⟨rfl, rfl⟩
      go_wp2_with fail
      refine HFP.out.mono ?_
      rintro e w2 ⟨rfl, b2⟩
      go_wp2
      go_ret2
      exact ⟨retII ⟨HB.out.1.symm, HB.out.2.symm⟩, b2⟩
    · have HB : Hid (plP c s ts = q ∧ plC c s ts = 0) := by show _ ∧ _; rw [HA.out.1, HA.out.2, if_neg hq, if_neg hq]; exact ⟨rfl, rfl⟩
      clear HA
      go_enter Try.func7, Try.ntmps7
      go_wp2_with fail
      refine HPF.mono ?_
      rintro e w1 ⟨rfl, rfl⟩
      go_wp2_with fail
      refine HFP.out.mono ?_
      rintro e w2 ⟨rfl, b2⟩
      go_wp2
      go_ret2
      exact ⟨retII ⟨HB.out.1.symm, HB.out.2.symm⟩, b2⟩
  · have hne : (pfC ts != 0) = true := by simp [h0]
    have HB : Hid (plP c s ts = 0 ∧ plC c s ts = pfC ts) := by show _ ∧ _; unfold plP plC; rw [if_neg h0, if_neg h0]; exact ⟨rfl, rfl⟩
    obtain ⟨q, HQ⟩ : ∃ q, Hid (pfC ts = q) := ⟨_, rfl⟩
    rw [HQ.out] at HPF hne HB
    clear h hl hz h0 HQ
    go_enter Try.func7, Try.ntmps7
    go_wp2_with fail
    refine HPF.mono ?_
    rintro e w1 ⟨rfl, rfl⟩
    go_wp2
    go_ret2
    exact ⟨retII ⟨HB.out.1.symm, HB.out.2.symm⟩, Below.refl _ _⟩
set_option maxRecDepth 100000 in
set_option maxHeartbeats 3200000 in
theorem l15Place_any (v : Value) (ts : List ByteArray) (c s : Int) (w : World) (h : RowT w v ts) (hl : ts.length ≤ 1000000) (hz : ∀ t ∈ ts, t.size ≤ 20000) :
    Calls Try.prog 9 #[v, .int .i64 c, .int .i64 s] w fun e w' => e = .returned (.int .i64 (fp c s ts)) ∧ Below w.heap.size w w' := by
  have HR : Hid (RowT w v ts) := h
  have HZ : Hid (∀ t ∈ ts, t.size ≤ 20000) := hz
  obtain ⟨a, cap, rfl, _⟩ := h
  clear hz
  go_enter Try.func9, Try.ntmps9
  go_wp2
  go_loopw [7] (fun i wr => ∃ k : Nat, k ≤ ts.length ∧ i = .int .i64 k ∧ Hid (((cP ts k).find? fun p => hitB c s p.2) = none ∧ Below w.heap.size w wr)) (fun i _ => ts.length - (intOf i).toNat)
  case atStart => exact ⟨0, Nat.zero_le _, rfl, rfl, Below.refl _ _⟩
  case round =>
    obtain ⟨k, hk, rfl, HJ⟩ := hrel
    by_cases hlt : k < ts.length
    · obtain ⟨a', cap', he, hc⟩ := HR.out.below HJ.out.2
      rcases hc with hc | ⟨b, off, rfl, _, hbl, hcell⟩
      · exact absurd hlt (by rw [hc]; simp)
      cases he
      have c0 := hcell k hlt
      have HSZ : Hid ((tnth ts k).size ≤ 20000) := HZ.out _ (tnth_mem hlt)
      have hhit : hitB c s (tnth ts k) = (((bx (tnth ts k)).c == c) && ((bx (tnth ts k)).st == s)) := rfl
      have HYES : Hid (isC (tnth ts k) = true → hitB c s (tnth ts k) = true → fp c s ts = (k : Int)) := fun h1 h2 =>
        fp_hit HJ.out.1 (x := (k, tnth ts k)) h2 (by rw [← cP_yes h1]; exact cP_le (by omega))
      have HNO1 : Hid (isC (tnth ts k) = false → ((cP ts (k + 1)).find? fun p => hitB c s p.2) = none) := fun h => by rw [cP_no h]; exact HJ.out.1
      have HNO2 : Hid (isC (tnth ts k) = true → hitB c s (tnth ts k) = false → ((cP ts (k + 1)).find? fun p => hitB c s p.2) = none) := fun h1 h2 => by
        rw [cP_yes h1]; exact find_snoc _ HJ.out.1 h2
      have HBW : Hid (Below w.heap.size w wr) := HJ.out.2
      have hkl : (k : Int) < (ts.length : Int) := by omega
      clear hcell HJ
      generalize tnth ts k = t at c0 HSZ HYES HNO1 HNO2 hhit
      have HRB0 := l02ReadBatch_any t wr (by have := HSZ.out; omega)
      have hisc : isC t = (rbOK (bys t) && !(bx t).nl) := rfl
      cases hok : rbOK (bys t) with
      | false =>
        rw [hok] at HRB0 hisc
        have HN : Hid (((cP ts (k + 1)).find? fun p => hitB c s p.2) = none) := HNO1.out hisc
        clear HYES HNO1 HNO2 hisc hok hhit
        go_wp2_with fail
        refine HRB0.mono ?_
        rintro e w3 ⟨X, u, rfl, _, o3, b3⟩
        obtain ⟨a4, cap4, rfl⟩ := RowG.slice (OwnR.row o3)
        unfold bV Bo.batV
        have b4 := b3.alloc b3.size (.cells #[.bool X.nl, .int .i64 X.c, .int .i64 X.st, .int .i64 X.k, .int .i64 X.l, .string X.n, .slice a4 X.rs.length cap4] 35)
        clear o3 b3 HRB0 c0
        go_wp2
        go_roundw
        case rel => exact ⟨k + 1, by omega, by simp, HN.out, HBW.out.trans (b4.mono HBW.out.size)⟩
        case measure => simp [intOf]; omega
      | true =>
        rw [hok] at HRB0 hisc
        have HE : Hid (tbX (bys t) = bx t) := rfl
        obtain ⟨X, HX⟩ : ∃ X, Hid (bx t = X) := ⟨_, rfl⟩
        rw [HX.out] at hisc hhit HE
        clear hok HX
        obtain ⟨nl, xc, xs, kk, ll, nm, rs⟩ := X
        dsimp only at hisc hhit
        cases nl with
        | true =>
          have HN : Hid (((cP ts (k + 1)).find? fun p => hitB c s p.2) = none) := HNO1.out hisc
          clear HYES HNO1 HNO2 hisc hhit
          go_wp2_with fail
          refine HRB0.mono ?_
          rintro e w3 ⟨X, u, rfl, hX, o3, b3⟩
          obtain rfl := (hX trivial).trans HE.out
          obtain ⟨a4, cap4, rfl⟩ := RowG.slice (OwnR.row o3)
          unfold bV Bo.batV
          have b4 := b3.alloc b3.size (.cells #[.bool true, .int .i64 xc, .int .i64 xs, .int .i64 kk, .int .i64 ll, .string nm, .slice a4 rs.length cap4] 35)
          clear o3 b3 HRB0 c0 hX HE
          go_wp2
          go_roundw
          case rel => exact ⟨k + 1, by omega, by simp, HN.out, HBW.out.trans (b4.mono HBW.out.size)⟩
          case measure => simp [intOf]; omega
        | false =>
          have HN2 := fun h => HNO2.out hisc h
          have HY2 := fun h => HYES.out hisc h
          clear HYES HNO1 HNO2 hisc
          rw [hhit] at HN2 HY2
          clear hhit
          cases h1 : xc == c with
          | false =>
            have HN : Hid (((cP ts (k + 1)).find? fun p => hitB c s p.2) = none) := HN2 (by rw [h1]; rfl)
            clear HN2 HY2
            go_wp2_with fail
            refine HRB0.mono ?_
            rintro e w3 ⟨X, u, rfl, hX, o3, b3⟩
            obtain rfl := (hX trivial).trans HE.out
            obtain ⟨a4, cap4, rfl⟩ := RowG.slice (OwnR.row o3)
            unfold bV Bo.batV
            have b4 := b3.alloc b3.size (.cells #[.bool false, .int .i64 xc, .int .i64 xs, .int .i64 kk, .int .i64 ll, .string nm, .slice a4 rs.length cap4] 35)
            clear o3 b3 HRB0 c0 hX HE
            go_wp2
            go_roundw
            case rel => exact ⟨k + 1, by omega, by simp, HN.out, HBW.out.trans (b4.mono HBW.out.size)⟩
            case measure => simp [intOf]; omega
          | true =>
            cases h2 : xs == s with
            | false =>
              have HN : Hid (((cP ts (k + 1)).find? fun p => hitB c s p.2) = none) := HN2 (by rw [h1, h2]; rfl)
              clear HN2 HY2
              go_wp2_with fail
              refine HRB0.mono ?_
              rintro e w3 ⟨X, u, rfl, hX, o3, b3⟩
              obtain rfl := (hX trivial).trans HE.out
              obtain ⟨a4, cap4, rfl⟩ := RowG.slice (OwnR.row o3)
              unfold bV Bo.batV
              have b4 := b3.alloc b3.size (.cells #[.bool false, .int .i64 xc, .int .i64 xs, .int .i64 kk, .int .i64 ll, .string nm, .slice a4 rs.length cap4] 35)
              clear o3 b3 HRB0 c0 hX HE
              go_wp2
              go_roundw
              case rel => exact ⟨k + 1, by omega, by simp, HN.out, HBW.out.trans (b4.mono HBW.out.size)⟩
              case measure => simp [intOf]; omega
            | true =>
              have HF : Hid (fp c s ts = (k : Int)) := HY2 (by rw [h1, h2]; rfl)
              clear HN2 HY2
              go_wp2_with fail
              refine HRB0.mono ?_
              rintro e w3 ⟨X, u, rfl, hX, o3, b3⟩
              obtain rfl := (hX trivial).trans HE.out
              obtain ⟨a4, cap4, rfl⟩ := RowG.slice (OwnR.row o3)
              unfold bV Bo.batV
              have b4 := b3.alloc b3.size (.cells #[.bool false, .int .i64 xc, .int .i64 xs, .int .i64 kk, .int .i64 ll, .string nm, .slice a4 rs.length cap4] 35)
              clear o3 b3 HRB0 c0 hX HE
              go_wp2
              go_ret
              exact ⟨retI HF.out.symm, HBW.out.trans (b4.mono HBW.out.size)⟩
    · obtain rfl : k = ts.length := by omega
      have hE : Hid (fp c s ts = -1) := fp_none HJ.out.1
      have HBW : Hid (Below w.heap.size w wr) := HJ.out.2
      clear HJ
      go_wp2
      go_ret
      exact ⟨retI hE.out.symm, HBW.out⟩
set_option maxRecDepth 100000 in
set_option maxHeartbeats 3200000 in
theorem specPlaceOf_any (v : Value) (ts : List ByteArray) (c s : Int) (w : World) (h : RowT w v ts) (hl : ts.length ≤ 1048576) (hz : ∀ t ∈ ts, t.size ≤ 1048576) :
    Calls Try.prog 5 #[v, .int .i64 c, .int .i64 s] w fun e w' => e = .returned (.tuple #[.int .i64 (plP c s ts), .int .i64 (plC c s ts)]) ∧ Below w.heap.size w w' := by
  have HR : Hid (RowT w v ts) := h
  have HZ : Hid (∀ t ∈ ts, t.size ≤ 1048576) := hz
  obtain ⟨a, cap, rfl, _⟩ := h
  clear hz
  have HNZ : Hid (∀ q : Int, pfC ts = q → q ≠ 0 → plP c s ts = 0 ∧ plC c s ts = q) := fun q e h0 => by
    unfold plP plC
    rw [e, if_neg h0, if_neg h0]
    exact ⟨rfl, rfl⟩
  by_cases h1 : 4096 < ts.length
  · have hp : Hid (plP c s ts = 0 ∧ plC c s ts = 2) := HNZ.out 2 (by unfold pfC; rw [if_pos h1]) (by decide)
    have h1' : (4096 : Int) < (ts.length : Int) := by omega
    go_enter Try.func5, Try.ntmps5
    go_wp2
    go_ret2
    exact ⟨retII ⟨hp.out.1.symm, hp.out.2.symm⟩, Below.refl _ _⟩
  have h1' : ¬ (4096 : Int) < (ts.length : Int) := by omega
  by_cases h2 : 100 < ts.length
  · have hp : Hid (plP c s ts = 0 ∧ plC c s ts = 4) := HNZ.out 4 (by unfold pfC; rw [if_neg h1, if_pos h2]) (by decide)
    have h2' : (100 : Int) < (ts.length : Int) := by omega
    go_enter Try.func5, Try.ntmps5
    go_wp2
    go_ret2
    exact ⟨retII ⟨hp.out.1.symm, hp.out.2.symm⟩, Below.refl _ _⟩
  have h2' : ¬ (100 : Int) < (ts.length : Int) := by omega
  have HP : Hid (pfC ts = if longB ts then 1 else 0) := by show _ = _; unfold pfC; rw [if_neg h1, if_neg h2]
  go_enter Try.func5, Try.ntmps5
  go_wp2
  go_loopw [8] (fun i wr => ∃ k : Nat, k ≤ ts.length ∧ i = .int .i64 k ∧ w = wr ∧ Hid (∀ j, j < k → (tnth ts j).size ≤ 20000)) (fun i _ => ts.length - (intOf i).toNat)
  case atStart => exact ⟨0, Nat.zero_le _, rfl, rfl, fun j hj => absurd hj (by omega)⟩
  case round =>
    obtain ⟨k, hk, rfl, rfl, HJ⟩ := hrel
    by_cases hlt : k < ts.length
    · obtain ⟨a', cap', he, hc⟩ := HR.out
      rcases hc with hc | ⟨b, off, rfl, _, hbl, hcell⟩
      · exact absurd hlt (by rw [hc]; simp)
      cases he
      have c0 := hcell k hlt
      have HSZ : Hid ((tnth ts k).size ≤ 1048576) := HZ.out _ (tnth_mem hlt)
      have HYES : Hid (20000 < (tnth ts k).size → longB ts = true) := fun h => long_yes hlt h
      have HNO : Hid ((tnth ts k).size ≤ 20000 → ∀ j, j < k + 1 → (tnth ts j).size ≤ 20000) := fun h j hj => by
        by_cases e : j = k
        · subst e; exact h
        · exact HJ.out j (by omega)
      have hkl : (k : Int) < (ts.length : Int) := by omega
      clear hcell HJ
      generalize tnth ts k = t at c0 HSZ HYES HNO
      by_cases hb : 20000 < t.size
      · have hb' : (20000 : Int) < (t.size : Int) := by omega
        have hq : Hid (plP c s ts = 0 ∧ plC c s ts = 1) := HNZ.out 1 (by rw [HP.out, HYES.out hb]; rfl) (by decide)
        clear HYES HNO HP hb HNZ
        go_wp2
        go_ret2
        exact ⟨retII ⟨hq.out.1.symm, hq.out.2.symm⟩, Below.refl _ _⟩
      · have hb' : ¬ (20000 : Int) < (t.size : Int) := by omega
        have HN : Hid (∀ j, j < k + 1 → (tnth ts j).size ≤ 20000) := HNO.out (by omega)
        clear HYES HNO hb
        go_wp2
        go_roundw
        case rel => exact ⟨k + 1, by omega, by simp, trivial, HN⟩
        case measure => simp [intOf]; omega
    · obtain rfl : k = ts.length := by omega
      have h0 : pfC ts = 0 := by rw [HP.out, long_no HJ.out]; rfl
      obtain ⟨_, g2⟩ := pfC_zero h0
      have HFP : Hid (Calls Try.prog 9 #[.slice a ts.length cap, .int .i64 c, .int .i64 s] w fun e w' => e = .returned (.int .i64 (fp c s ts)) ∧ Below w.heap.size w w') := l15Place_any _ ts c s w HR.out (by omega) g2
      have HA : Hid (plP c s ts = (if fp c s ts < 0 then 0 else fp c s ts) ∧ plC c s ts = (if fp c s ts < 0 then 5 else 0)) := by
        show _ ∧ _
        unfold plP plC
        rw [if_pos h0, if_pos h0]
        exact ⟨rfl, rfl⟩
      obtain ⟨q, HQ⟩ : ∃ q, Hid (fp c s ts = q) := ⟨_, rfl⟩
      rw [HQ.out] at HFP HA
      clear HJ HP HNZ HQ g2 h0
      by_cases hq : q < 0
      · have HB : Hid (plP c s ts = 0 ∧ plC c s ts = 5) := by show _ ∧ _; rw [HA.out.1, HA.out.2, if_pos hq, if_pos hq]; exact ⟨rfl, rfl⟩
        clear HA
        go_wp2_with fail
        refine HFP.out.mono ?_
        rintro e w2 ⟨rfl, b2⟩
        go_wp2
        go_ret2
        exact ⟨retII ⟨HB.out.1.symm, HB.out.2.symm⟩, b2⟩
      · have HB : Hid (plP c s ts = q ∧ plC c s ts = 0) := by show _ ∧ _; rw [HA.out.1, HA.out.2, if_neg hq, if_neg hq]; exact ⟨rfl, rfl⟩
        clear HA
        go_wp2_with fail
        refine HFP.out.mono ?_
        rintro e w2 ⟨rfl, b2⟩
        go_wp2
        go_ret2
        exact ⟨retII ⟨HB.out.1.symm, HB.out.2.symm⟩, b2⟩
end Go.Proofs.Ytkmnjnblacmjlaa.Hn
