/- Texts put together: Ti, Ts, Gr. -/
import Derived.Test.YtondmbeccpekiaaGreatDoorH19
import Derived.Test.YtondmbeccpekiaaGreatDoorH20
import Derived.Test.YtondmbeccpekiaaGreatDoorH15
import Derived.Test.YtondmbeccpekiaaGreatDoorH1
/- ReadingsTime and AgreedTime of the program. -/
namespace Go.Proofs.YtondmbeccpekiaaGreatDoor.Ti
open Go.RowKit Go.Proofs.YtondmbeccpekiaaGreatDoor.Sl Go.Proofs.YtondmbeccpekiaaGreatDoor.By Go.Proofs.YtondmbeccpekiaaGreatDoor.Ap Go.Proofs.YtondmbeccpekiaaGreatDoor.Tx Go.Proofs.YtondmbeccpekiaaGreatDoor.Sh Go.Proofs.YtondmbeccpekiaaGreatDoor.Is Go.Proofs.YtondmbeccpekiaaGreatDoor.So Go.Proofs.YtondmbeccpekiaaGreatDoor.Md Go.Proofs.YtondmbeccpekiaaGreatDoor.Iz Go.Proofs.YtondmbeccpekiaaGreatDoor.Mr Go.Proofs.YtondmbeccpekiaaGreatDoor.Rm Go.Proofs.YtondmbeccpekiaaGreatDoor.Rw Go.Proofs.YtondmbeccpekiaaGreatDoor.Rs Go.Proofs.YtondmbeccpekiaaGreatDoor.Tm

def vals (rs : List Rd) (k : Nat) : List Int := (rs.take k).map (·.x)
theorem vals_step {rs : List Rd} {k : Nat} (h : k < rs.length) : vals rs (k + 1) = vals rs k ++ [(rn rs k).x] := by
  unfold vals
  rw [List.take_add_one, rn_at h]
  simp
theorem vals_length {rs : List Rd} {k : Nat} (h : k ≤ rs.length) : (vals rs k).length = k := by unfold vals; rw [List.length_map, List.length_take]; omega
def tCode (n : Int) (rs : List Rd) : Int := if 4096 < rs.length then 2 else if fCode n ≠ 0 then 4 else if (rs.length : Int) = 2 * fOut n + 1 ∧ (okAll rs && mkAll n rs) = true then 0 else 12
def tOut (n : Int) (rs : List Rd) : Int := if tCode n rs = 0 then nth (ms (vals rs rs.length)) (rs.length / 2) else 0
theorem f_code (n : Int) : fCode n = 0 ∨ fCode n = 4 := by
  unfold fCode
  split
  · exact .inl rfl
  · exact .inr rfl
theorem f_small (n : Int) : 0 ≤ fOut n ∧ fOut n ≤ 2 := by
  unfold fOut
  repeat' split
  all_goals omega
theorem t_cases (n : Int) (rs : List Rd) : (4096 < rs.length ∧ tCode n rs = 2 ∧ tOut n rs = 0) ∨ (rs.length ≤ 4096 ∧ fCode n = 4 ∧ tCode n rs = 4 ∧ tOut n rs = 0) ∨ (rs.length ≤ 4096 ∧ fCode n = 0 ∧ (rs.length : Int) ≠ 2 * fOut n + 1 ∧ tCode n rs = 12 ∧ tOut n rs = 0) ∨
    (rs.length ≤ 4096 ∧ fCode n = 0 ∧ (rs.length : Int) = 2 * fOut n + 1 ∧ (okAll rs && mkAll n rs) = false ∧ tCode n rs = 12 ∧ tOut n rs = 0) ∨ (rs.length ≤ 4096 ∧ fCode n = 0 ∧ (rs.length : Int) = 2 * fOut n + 1 ∧ (okAll rs && mkAll n rs) = true ∧ tCode n rs = 0 ∧ tOut n rs = nth (ms (vals rs rs.length)) (rs.length / 2)) := by
  by_cases h1 : 4096 < rs.length
  · have e : tCode n rs = 2 := by unfold tCode; rw [if_pos h1]
    exact .inl ⟨h1, e, by unfold tOut; rw [e]; rfl⟩
  rcases f_code n with h2 | h2
  · by_cases h3 : (rs.length : Int) = 2 * fOut n + 1
    · cases h4 : (okAll rs && mkAll n rs) with
      | false =>
        have e : tCode n rs = 12 := by unfold tCode; rw [if_neg h1, if_neg (by omega), if_neg (by rw [h4]; simp)]
        exact .inr (.inr (.inr (.inl ⟨by omega, h2, h3, rfl, e, by unfold tOut; rw [e]; rfl⟩)))
      | true =>
        have e : tCode n rs = 0 := by unfold tCode; rw [if_neg h1, if_neg (by omega), if_pos ⟨h3, h4⟩]
        exact .inr (.inr (.inr (.inr ⟨by omega, h2, h3, rfl, e, by unfold tOut; rw [e]; rfl⟩)))
    · have e : tCode n rs = 12 := by unfold tCode; rw [if_neg h1, if_neg (by omega), if_neg (fun h => h3 h.1)]
      exact .inr (.inr (.inl ⟨by omega, h2, h3, e, by unfold tOut; rw [e]; rfl⟩))
  · have e : tCode n rs = 4 := by unfold tCode; rw [if_neg h1, if_pos (by omega)]
    exact .inr (.inl ⟨by omega, h2, e, by unfold tOut; rw [e]; rfl⟩)
set_option maxRecDepth 100000 in
set_option maxHeartbeats 400000 in
theorem middleOf_any (g cap : Nat) (ys : List Int) (n : Nat) (w : World) (hn : ys.length = n) (h : BlkI w g cap ys) (hl : ys.length ≤ 1048576) (h0 : 0 < ys.length) :
    Calls Tryz.prog 165 #[.slice (some ⟨g, 0, none⟩) n cap] w fun e w' => e = .returned (.int .i64 (nth ys (n / 2))) ∧ Below w.heap.size w w' := by
  subst hn
  have c1 := (h.cell (i := ys.length / 2) (by omega)).1
  have q1 : (ys.length : Int) / 2 = ((ys.length / 2 : Nat) : Int) := by omega
  have q2 : ((ys.length / 2 : Nat) : Int) < (ys.length : Int) := by omega
  clear h
  generalize ys.length / 2 = hf at q1 q2 c1
  go_enter Tryz.func165, Tryz.ntmps165
  go_wp2_with fail
  go_ret
  exact ⟨rfl, Below.refl _ _⟩
set_option maxRecDepth 100000 in
set_option maxHeartbeats 1600000 in
theorem implReadingsTime_any (n : Int) (v : Value) (rs : List Rd) (w : World) (h : RowR w v rs) (hl : rs.length ≤ 1048576) (hK : KTab w) (hp : 0 < w.heap.size) :
    Calls Tryz.prog 144 #[.int .i64 n, v] w fun e w' => e = .returned (.tuple #[.int .i64 (tOut n rs), .int .i64 (tCode n rs)]) ∧ Below w.heap.size w w' := by
  have HR : Hid (RowR w v rs) := h
  have GK : Hid (KTab w) := hK
  obtain ⟨a, cap, rfl, _⟩ := h
  clear hK
  have HFS := f_small n
  rcases t_cases n rs with ⟨h1, e1, e2⟩ | ⟨h1, h2, e1, e2⟩ | ⟨h1, h2, h3, e1, e2⟩ | ⟨h1, h2, h3, h4, e1, e2⟩ | ⟨h1, h2, h3, h4, e1, e2⟩
  · have HE : Hid (tOut n rs = 0 ∧ tCode n rs = 2) := ⟨e2, e1⟩
    have h1' : (4096 : Int) < (rs.length : Int) := by omega
    clear e1 e2 h1 HFS
    go_enter Tryz.func144, Tryz.ntmps144
    go_wp2
    go_ret2
    exact ⟨Md.ret_ii ⟨HE.out.1.symm, HE.out.2.symm⟩, Below.refl _ _⟩
  · have HE : Hid (tOut n rs = 0 ∧ tCode n rs = 4) := ⟨e2, e1⟩
    have h1' : ¬ (4096 : Int) < (rs.length : Int) := by omega
    clear e1 e2 h1 HFS
    go_enter Tryz.func144, Tryz.ntmps144
    go_wp2_with fail
    refine (implFaultsOf_any n w).mono ?_
    rintro e w1 ⟨rfl, rfl⟩
    rw [h2]
    go_wp2_with fail
    go_ret2
    exact ⟨Md.ret_ii ⟨HE.out.1.symm, HE.out.2.symm⟩, Below.refl _ _⟩
  · have HE : Hid (tOut n rs = 0 ∧ tCode n rs = 12) := ⟨e2, e1⟩
    have h1' : ¬ (4096 : Int) < (rs.length : Int) := by omega
    clear e1 e2 h1
    go_enter Tryz.func144, Tryz.ntmps144
    go_wp2_with fail
    refine (implFaultsOf_any n w).mono ?_
    rintro e w1 ⟨rfl, rfl⟩
    rw [h2]
    generalize fOut n = q at h3 HFS
    have h3' : ((rs.length : Int) != 2 * q + 1) = true := by simpa using h3
    go_wp2_with fail
    go_ret2
    exact ⟨Md.ret_ii ⟨HE.out.1.symm, HE.out.2.symm⟩, Below.refl _ _⟩
  · have HE : Hid (tOut n rs = 0 ∧ tCode n rs = 12) := ⟨e2, e1⟩
    have h1' : ¬ (4096 : Int) < (rs.length : Int) := by omega
    clear e1 e2 h1
    go_enter Tryz.func144, Tryz.ntmps144
    go_wp2_with fail
    refine (implFaultsOf_any n w).mono ?_
    rintro e w1 ⟨rfl, rfl⟩
    rw [h2]
    generalize fOut n = q at h3 HFS
    have h3' : ((rs.length : Int) != 2 * q + 1) = false := by simpa using h3
    clear h3
    go_wp2_with fail
    refine (readingsSigned_any n _ rs _ HR.out hl GK.out hp).mono ?_
    rintro e w2 ⟨rfl, b2⟩
    rw [h4]
    go_wp2_with fail
    go_ret2
    exact ⟨Md.ret_ii ⟨HE.out.1.symm, HE.out.2.symm⟩, b2⟩
  · have HE : Hid (tOut n rs = nth (ms (vals rs rs.length)) (rs.length / 2) ∧ tCode n rs = 0) := ⟨e2, e1⟩
    have h1' : ¬ (4096 : Int) < (rs.length : Int) := by omega
    have HSM : Hid (rs.length ≤ 5 ∧ 0 < rs.length) := ⟨by omega, by omega⟩
    clear e1 e2 h1
    go_enter Tryz.func144, Tryz.ntmps144
    go_wp2_with fail
    refine (implFaultsOf_any n w).mono ?_
    rintro e w1 ⟨rfl, rfl⟩
    rw [h2]
    generalize fOut n = q at h3 HFS
    have h3' : ((rs.length : Int) != 2 * q + 1) = false := by simpa using h3
    clear h3
    go_wp2_with fail
    refine (readingsSigned_any n _ rs _ HR.out hl GK.out hp).mono ?_
    rintro e w2 ⟨rfl, b2⟩
    rw [h4]
    have HB2 : Hid (Below w1.heap.size w1 w2) := b2
    clear b2 h3' HFS
    go_wp2_with fail
    go_loopw [8, 36] (fun u i wr => ∃ (k : Nat) (zs : List Int), k ≤ rs.length ∧ i = .int .i64 k ∧ Hid (OwnI wr w1.heap.size u zs ∧ zs.Perm (vals rs k) ∧ Asc zs.length zs ∧ (0 < k → u ≠ .slice none 0 0) ∧ Below w1.heap.size w1 wr)) (fun _ i _ => rs.length - (intOf i).toNat)
    case atStart => exact ⟨0, [], by omega, rfl, ⟨World.ownsRow_nil _ _ _ _, by simp [vals], fun p q h1 h2 => by simp at h2, fun h => by omega, HB2.out⟩⟩
    case round =>
      clear HB2
      obtain ⟨k, zs, hk, rfl, HY⟩ := hrel
      by_cases hlt : k < rs.length
      · obtain ⟨b, off, rfl, hbl, c0, c1, c2⟩ := pick_cells (HR.out.below HY.out.2.2.2.2) rfl hlt
        have HV : Hid (vals rs (k + 1) = vals rs k ++ [(rn rs k).x]) := vals_step hlt
        have HZL : Hid (zs.length ≤ 5) := by show _ ≤ _; rw [HY.out.2.1.length_eq, vals_length hk]; have := HSM.out; omega
        generalize (rn rs k).f = f at c0
        generalize (rn rs k).x = x at c1 HV
        generalize (rn rs k).m = m at c2
        have HBN : Hid (OwnI (wr.alloc (.cells #[.int .i64 f, .int .i64 x, .string m] 158)) w1.heap.size u8 zs ∧ Below w1.heap.size w1 (wr.alloc (.cells #[.int .i64 f, .int .i64 x, .string m] 158))) := ⟨OwnI.below HY.out.1 (Tx.bel_new wr _), HY.out.2.2.2.2.trans ((Tx.bel_new wr _).mono HY.out.2.2.2.2.size)⟩
        go_wp2_with fail
        refine (insertSorted_any u8 zs x w1.heap.size _ HBN.out.1 HY.out.2.2.1 HBN.out.2.size (by have := HZL.out; omega)).mono ?_
        rintro e w3 ⟨v3, us, rfl, o3, p3, a3, n3, b3⟩
        have HY3 : Hid (OwnI w3 w1.heap.size v3 us ∧ us.Perm (vals rs (k + 1)) ∧ Asc us.length us ∧ (0 < k + 1 → v3 ≠ .slice none 0 0) ∧ Below w1.heap.size w1 w3) := ⟨o3, by rw [HV.out]; exact p3.trans (HY.out.2.1.append_right _), a3, fun _ => n3, HBN.out.2.trans b3⟩
        clear o3 p3 a3 n3 b3
        go_wp2_with fail
        exact ⟨⟨k + 1, us, by omega, by go_num, HY3⟩, by simp [intOf]; omega⟩
      · obtain rfl : k = rs.length := by omega
        obtain ⟨g, cp, rfl⟩ := OwnI.some HY.out.1 (HY.out.2.2.2.1 HSM.out.2)
        have HZL : Hid (zs.length = rs.length) := by show _ = _; rw [HY.out.2.1.length_eq, vals_length (Nat.le_refl _)]
        have HMS : Hid (zs = ms (vals rs rs.length)) := ms_of HY.out.2.1 HY.out.2.2.1
        have HKK : Hid (BlkI wr g cp zs) := (BlkI.of HY.out.1).1
        rw [HZL.out]
        go_wp2_with fail
        refine (middleOf_any g cp zs rs.length wr HZL.out HKK.out (by rw [HZL.out]; exact hl) (by rw [HZL.out]; exact HSM.out.2)).mono ?_
        rintro e w3 ⟨rfl, b3⟩
        have HB3 : Hid (Below w1.heap.size w1 w3) := HY.out.2.2.2.2.trans (b3.mono HY.out.2.2.2.2.size)
        rw [HMS.out]
        clear b3
        generalize nth (ms (vals rs rs.length)) (rs.length / 2) = r at HE ⊢
        go_wp2_with fail
        go_ret2
        exact ⟨Md.ret_ii ⟨HE.out.1.symm, HE.out.2.symm⟩, HB3.out⟩
end Go.Proofs.YtondmbeccpekiaaGreatDoor.Ti

/- ReadingsTime of the specification. -/
namespace Go.Proofs.YtondmbeccpekiaaGreatDoor.Ts
open Go.RowKit Go.Proofs.YtondmbeccpekiaaGreatDoor.Sl Go.Proofs.YtondmbeccpekiaaGreatDoor.By Go.Proofs.YtondmbeccpekiaaGreatDoor.Ap Go.Proofs.YtondmbeccpekiaaGreatDoor.Tx Go.Proofs.YtondmbeccpekiaaGreatDoor.Sh Go.Proofs.YtondmbeccpekiaaGreatDoor.Is Go.Proofs.YtondmbeccpekiaaGreatDoor.So Go.Proofs.YtondmbeccpekiaaGreatDoor.Md Go.Proofs.YtondmbeccpekiaaGreatDoor.Iz Go.Proofs.YtondmbeccpekiaaGreatDoor.Mr Go.Proofs.YtondmbeccpekiaaGreatDoor.Rm Go.Proofs.YtondmbeccpekiaaGreatDoor.Rw Go.Proofs.YtondmbeccpekiaaGreatDoor.Rs Go.Proofs.YtondmbeccpekiaaGreatDoor.Tm Go.Proofs.YtondmbeccpekiaaGreatDoor.Ti

theorem ret_ib {a c : Int} {b d : Bool} (h : a = c ∧ b = d) : Ending.returned (.tuple #[.int .i64 a, .bool b]) = .returned (.tuple #[.int .i64 c, .bool d]) := by rw [h.1, h.2]
def good (n : Int) (rs : List Rd) : Bool := decide ((rs.length : Int) = 2 * fOut n + 1) && (okAll rs && mkAll n rs)
def lOut (n : Int) (rs : List Rd) : Int := if good n rs then nth (ms (vals rs rs.length)) (rs.length / 2) else 0
theorem f_quo (n : Int) (h : fCode n = 0) : (n - 1).tdiv 3 = fOut n ∧ 1 ≤ n ∧ n ≤ 7 := by
  unfold fCode at h
  by_cases h1 : n = 1 ∨ n = 4 ∨ n = 7
  · rcases h1 with rfl | rfl | rfl <;> decide
  · rw [if_neg h1] at h; omega
theorem ok_split {rs : List Rd} {k : Nat} (h : ∀ j, j < k → okI rs j = true) (hk : k < rs.length) :
    okI rs k = ((inR (rn rs k).f 0 6 && (inR (rn rs k).x 0 1000000000 && ((rn rs k).m.size == 8))) && (decide (k = 0) || decide ((rn rs (k - 1)).f < (rn rs k).f))) := by
  have hp := okI_pv h (by omega) k (Nat.le_refl _)
  unfold okI
  cases hb : (inR (rn rs k).x 0 1000000000 && ((rn rs k).m.size == 8)) with
  | false => simp
  | true =>
    simp only [Bool.and_true]
    by_cases hk0 : k = 0
    · subst hk0
      rw [decide_eq_true rfl, Bool.true_or, Bool.and_true]
      rfl
    · rw [decide_eq_false hk0, Bool.false_or]
      have e : pv rs k = (rn rs (k - 1)).f + 1 := by unfold pv; rw [if_neg hk0]
      rw [e] at hp ⊢
      unfold inR
      by_cases h1 : (rn rs k).f ≤ 6
      · by_cases h2 : (rn rs (k - 1)).f + 1 ≤ (rn rs k).f
        · rw [decide_eq_true h1, decide_eq_true h2, decide_eq_true (show 0 ≤ (rn rs k).f by omega), decide_eq_true (show (rn rs (k - 1)).f < (rn rs k).f by omega)]; rfl
        · rw [decide_eq_false h2, decide_eq_false (show ¬ (rn rs (k - 1)).f < (rn rs k).f by omega)]; simp
      · rw [decide_eq_false h1]; simp
set_option maxRecDepth 100000 in
set_option maxHeartbeats 1600000 in
theorem l04Time_any (n : Int) (v : Value) (rs : List Rd) (w : World) (hf : fCode n = 0) (h : RowR w v rs) (hl : rs.length ≤ 4096) :
    Calls Tryz.prog 91 #[.int .i64 n, v] w fun e w' => e = .returned (.tuple #[.int .i64 (lOut n rs), .bool (good n rs)]) ∧ Below w.heap.size w w' := by
  have HR : Hid (RowR w v rs) := h
  obtain ⟨a, cap, rfl, _⟩ := h
  obtain ⟨i0, hi0, hz0, hz1, hz2⟩ := info_parts Is.info3
  obtain ⟨hq, hn1, hn7⟩ := f_quo n hf
  have hfs := f_small n
  by_cases h3 : (rs.length : Int) = 2 * fOut n + 1
  · have HG : Hid (good n rs = (okAll rs && mkAll n rs)) := by show _ = _; unfold good; rw [decide_eq_true h3]; rfl
    have HX : Hid (rs.length / 2 = (fOut n).toNat ∧ rs.length ≤ 5 ∧ 0 < rs.length) := ⟨by omega, by omega, by omega⟩
    have h3' : ((rs.length : Int) != 2 * fOut n + 1) = false := by simpa using h3
    have HLO : Hid (lOut n rs = if good n rs then nth (ms (vals rs rs.length)) (rs.length / 2) else 0) := rfl
    obtain ⟨q, HQ⟩ : ∃ q, Hid (fOut n = q) := ⟨_, rfl⟩
    rw [HQ.out] at hq h3' hfs HX
    clear h3
    go_enter Tryz.func91, Tryz.ntmps91
    go_wp2_with fail
    go_loopw [7, 8] (fun u i wr => ∃ k : Nat, k ≤ rs.length ∧ i = .int .i64 k ∧ Hid ((∀ j, j < k → okI rs j = true) ∧ (∀ j, j < k → mkI n rs j = true) ∧ OwnI wr w.heap.size u (vals rs k) ∧ u ≠ .slice none 0 0 ∧ Below w.heap.size w wr)) (fun _ i _ => rs.length - (intOf i).toNat)
    case atStart => exact ⟨0, by omega, rfl, ⟨fun j hj => by omega, fun j hj => by omega, OwnI.made w _ (Nat.le_refl _), by simp, Tx.bel_new w _⟩⟩
    case round =>
      obtain ⟨k, hk, rfl, HK⟩ := hrel
      by_cases hlt : k < rs.length
      · obtain ⟨b, off, rfl, hbl, c0, c1, c2⟩ := pick_cells (HR.out.below HK.out.2.2.2.2) rfl hlt
        have HOS := ok_split HK.out.1 hlt
        have HO : Hid (okI rs k = ((inR (rn rs k).f 0 6 && (inR (rn rs k).x 0 1000000000 && ((rn rs k).m.size == 8))) && (decide (k = 0) || decide ((rn rs (k - 1)).f < (rn rs k).f)))) := HOS
        have HM : Hid (mkI n rs k = (decide ((rn rs k).f < n) && ((rn rs k).m.toList == (rmk (rn rs k).f.toNat (rn rs k).x).toList))) := rfl
        have HNO : Hid (okI rs k = false → good n rs = false) := fun h => by
          have e : okAll rs = false := decide_eq_false fun hh => by rw [hh k hlt] at h; cases h
          rw [HG.out, e]; rfl
        have HNM : Hid (mkI n rs k = false → good n rs = false) := fun h => by
          have e : mkAll n rs = false := decide_eq_false fun hh => by rw [hh k hlt] at h; cases h
          rw [HG.out, e, Bool.and_false]
        have HV : Hid (vals rs (k + 1) = vals rs k ++ [(rn rs k).x]) := vals_step hlt
        have HP : Hid (0 < k → ∀ W, Below w.heap.size w W → W.cell? ⟨b, off + (k - 1) * 3, none⟩ = some (.int .i64 (rn rs (k - 1)).f)) := fun h0 W hW => by
          obtain ⟨b', off', e, _, d0, _⟩ := pick_cells (HR.out.below hW) rfl (show k - 1 < rs.length by omega)
          cases e
          exact d0
        clear HOS
        generalize (rn rs (k - 1)).f = pf at HO HP
        generalize (rn rs k).f = f at c0 HO HM
        generalize (rn rs k).x = x at c1 HO HM HV
        generalize (rn rs k).m = m at c2 HO HM
        have HBN : Hid (Below w.heap.size w (wr.alloc (.cells #[.int .i64 f, .int .i64 x, .string m] 158))) := HK.out.2.2.2.2.trans ((Tx.bel_new wr _).mono HK.out.2.2.2.2.size)
        have HXX : Hid (∀ W, Below (wr.heap.size + 1) (wr.alloc (.cells #[.int .i64 f, .int .i64 x, .string m] 158)) W → W.cell? ⟨wr.heap.size, 0, none⟩ = some (.int .i64 f) ∧ W.cell? ⟨wr.heap.size, 1, none⟩ = some (.int .i64 x) ∧ W.cell? ⟨wr.heap.size, 2, none⟩ = some (.string m)) := box_cells wr f x m 158
        have HSZ : Hid ((wr.alloc (.cells #[.int .i64 f, .int .i64 x, .string m] 158)).heap.size = wr.heap.size + 1) := size_new _ _
        have HOW : Hid (OwnI (wr.alloc (.cells #[.int .i64 f, .int .i64 x, .string m] 158)) w.heap.size u7 (vals rs k)) := OwnI.below HK.out.2.2.1 (Tx.bel_new wr _)
        go_upto_region 9 with fail
        generalize wr.alloc (.cells #[.int .i64 f, .int .i64 x, .string m] 158) = wb at HXX HBN HSZ HOW ⊢
        obtain ⟨x0, x1, x2⟩ := HXX.out wb (by rw [← HSZ.out]; exact Below.refl _ _)
        obtain ⟨X, hX, W, QI0, QO0⟩ := Qc.klass wb
        have QI : Hid (∀ w', Below wb.heap.size wb w' → ∃ x, w' = W x) := QI0
        have QO : Hid (∀ x, Below wb.heap.size wb (W x)) := QO0
        clear QI0 QO0
        have QB : Hid (∀ x, Below w.heap.size w (W x) ∧ OwnI (W x) w.heap.size u7 (vals rs k)) := fun x => ⟨HBN.out.trans ((QO.out x).mono HBN.out.size), OwnI.below HOW.out (QO.out x)⟩
        have y0 := Qc.cell_all QO.out x0
        have y1 := Qc.cell_all QO.out x1
        have y2 := Qc.cell_all QO.out x2
        have hi7 : f.toNat < 256 ∨ True := .inr trivial
        clear hi7
        cases h1 : (inR f 0 6 && (inR x 0 1000000000 && (m.size == 8))) with
        | false =>
          rw [h1] at HO
          have hi7 : (0 : Nat) < 256 := by decide
          refine Qc.region_class (W := W) (by kernel_rfl) (by kernel_rfl) (QI.out _ Qc.from_drew) ?_
          repeat (go_big_quiet_step (first | (go_at_call 118; refine (l02Reading_any _ _ _ _).mono ?_; rintro e w2 ⟨rfl, b2⟩; rw [h1]; exact ⟨rfl, Qc.back QI.out QO.out b2⟩) | (go_at_call 119; refine (l04Reading_any _ _ _ hi7).mono ?_; rintro e w2 ⟨rfl, b2⟩; exact ⟨rfl, Qc.back QI.out QO.out b2⟩)))
          refine wpQuiet_nil ?_
          rintro _ ⟨xq, rfl⟩
          have G2 : Hid (Below w.heap.size w (W xq) ∧ OwnI (W xq) w.heap.size u7 (vals rs k)) := QB.out xq
          generalize W xq = wq at G2 ⊢
          go_wp2_with fail
          go_ret2
          exact ⟨ret_ib ⟨by rw [HLO.out, HNO.out HO.out]; rfl, (HNO.out HO.out).symm⟩, G2.out.1⟩
        | true =>
          rw [h1] at HO
          have hfr := inR_nat (by rw [Bool.and_eq_true] at h1; exact h1.1)
          obtain ⟨i, rfl⟩ := Int.eq_ofNat_of_zero_le hfr.1
          have hi7 : i < 256 := by omega
          rw [Int.toNat_natCast] at HM
          clear hfr
          by_cases hg : n ≤ (i : Int)
          · have HMF : Hid (mkI n rs k = false) := by show _ = _; rw [HM.out, decide_eq_false (by omega)]; rfl
            have hge : decide (n ≤ (i : Int)) = true := decide_eq_true hg
            refine Qc.region_class (W := W) (by kernel_rfl) (by kernel_rfl) (QI.out _ Qc.from_drew) ?_
            repeat (go_big_quiet_step (first | (go_at_call 118; refine (l02Reading_any _ _ _ _).mono ?_; rintro e w2 ⟨rfl, b2⟩; rw [h1]; exact ⟨rfl, Qc.back QI.out QO.out b2⟩) | (go_at_call 119; refine (l04Reading_any _ _ _ hi7).mono ?_; rintro e w2 ⟨rfl, b2⟩; exact ⟨rfl, Qc.back QI.out QO.out b2⟩)))
            refine wpQuiet_nil ?_
            rintro _ ⟨xq, rfl⟩
            have G2 : Hid (Below w.heap.size w (W xq) ∧ OwnI (W xq) w.heap.size u7 (vals rs k)) := QB.out xq
            generalize W xq = wq at G2 ⊢
            go_wp2_with fail
            go_ret2
            exact ⟨ret_ib ⟨by rw [HLO.out, HNM.out HMF.out]; rfl, (HNM.out HMF.out).symm⟩, G2.out.1⟩
          · have hge : decide (n ≤ (i : Int)) = false := decide_eq_false hg
            have HMM : Hid (mkI n rs k = (m.toList == (rmk i x).toList)) := by show _ = _; rw [HM.out, decide_eq_true (by omega)]; rfl
            clear HM hg
            by_cases hk0 : k = 0
            · subst hk0
              have HOK : Hid (okI rs 0 = true) := by show _ = _; rw [HO.out]; rfl
              cases he : (m.toList == (rmk i x).toList) with
              | true =>
                have he2 : ((rmk i x).toList != m.toList) = false := by rw [bne, BEq.comm, he]; rfl
                have he3 : ((rmk i x).toList == m.toList) = true := by rw [BEq.comm, he]
                rw [he] at HMM
                refine Qc.region_class (W := W) (by kernel_rfl) (by kernel_rfl) (QI.out _ Qc.from_drew) ?_
                repeat (go_big_quiet_step (first | (go_at_call 118; refine (l02Reading_any _ _ _ _).mono ?_; rintro e w2 ⟨rfl, b2⟩; rw [h1]; exact ⟨rfl, Qc.back QI.out QO.out b2⟩) | (go_at_call 119; refine (l04Reading_any _ _ _ hi7).mono ?_; rintro e w2 ⟨rfl, b2⟩; exact ⟨rfl, Qc.back QI.out QO.out b2⟩)))
                refine wpQuiet_nil ?_
                rintro _ ⟨xq, rfl⟩
                have G2 : Hid (Below w.heap.size w (W xq) ∧ OwnI (W xq) w.heap.size u7 (vals rs 0)) := QB.out xq
                have z1 := y1 xq
                clear y0 y1 y2
                generalize W xq = wq at G2 z1 ⊢
                go_wp2_with (at_builtin; go_must (refine list_int1 (by rfl) _ _ 22 (by rfl) i0 Tryz.underlying22 hi0 hz0 hz1 hz2 w.heap.size w wq _ (vals rs 0) x (by rfl) G2.out.2 G2.out.1 G2.out.1.size (by rfl) (by rw [vals_length hk]; omega) ?_; intro v1 w1 o1 b1 hne))
                have HV1 : Hid (OwnI w1 w.heap.size v1 (vals rs (0 + 1)) ∧ v1 ≠ .slice none 0 0 ∧ Below w.heap.size w w1) := ⟨by rw [HV.out]; exact o1, hne, b1⟩
                clear o1 b1 hne
                go_wp2_with fail
                exact ⟨⟨0 + 1, by omega, by go_num, ⟨fun jj hj => by
                  by_cases e : jj = 0
                  · rw [e]; exact HOK.out
                  · exact HK.out.1 jj (by omega), fun jj hj => by
                  by_cases e : jj = 0
                  · rw [e]; exact HMM.out
                  · exact HK.out.2.1 jj (by omega), HV1.out⟩⟩, by simp [intOf]; omega⟩
              | false =>
                have he2 : ((rmk i x).toList != m.toList) = true := by rw [bne, BEq.comm, he]; rfl
                have he3 : ((rmk i x).toList == m.toList) = false := by rw [BEq.comm, he]
                rw [he] at HMM
                refine Qc.region_class (W := W) (by kernel_rfl) (by kernel_rfl) (QI.out _ Qc.from_drew) ?_
                repeat (go_big_quiet_step (first | (go_at_call 118; refine (l02Reading_any _ _ _ _).mono ?_; rintro e w2 ⟨rfl, b2⟩; rw [h1]; exact ⟨rfl, Qc.back QI.out QO.out b2⟩) | (go_at_call 119; refine (l04Reading_any _ _ _ hi7).mono ?_; rintro e w2 ⟨rfl, b2⟩; exact ⟨rfl, Qc.back QI.out QO.out b2⟩)))
                refine wpQuiet_nil ?_
                rintro _ ⟨xq, rfl⟩
                have G2 : Hid (Below w.heap.size w (W xq) ∧ OwnI (W xq) w.heap.size u7 (vals rs 0)) := QB.out xq
                generalize W xq = wq at G2 ⊢
                go_wp2_with fail
                go_ret2
                exact ⟨ret_ib ⟨by rw [HLO.out, HNM.out HMM.out]; rfl, (HNM.out HMM.out).symm⟩, G2.out.1⟩
            · obtain ⟨j, rfl⟩ : ∃ j, k = j + 1 := ⟨k - 1, by omega⟩
              have yp : ∀ x, (W x).cell? ⟨b, off + j * 3, none⟩ = some (.int .i64 pf) := fun x => HP.out (by omega) _ (QB.out x).1
              have q1 : (0 : Int) < (j : Int) + 1 := by omega
              have q2 : (j : Int) + 1 < (rs.length : Int) := by omega
              have q3 : (j : Int) < (rs.length : Int) := by omega
              have HOO : Hid (okI rs (j + 1) = decide (pf < (i : Int))) := by show _ = _; rw [HO.out, decide_eq_false (by omega), Bool.false_or, Bool.true_and]
              by_cases hpf : (i : Int) ≤ pf
              · have HOF : Hid (okI rs (j + 1) = false) := by show _ = _; rw [HOO.out, decide_eq_false (by omega)]
                have hpe : decide ((i : Int) ≤ pf) = true := decide_eq_true hpf
                refine Qc.region_class (W := W) (by kernel_rfl) (by kernel_rfl) (QI.out _ Qc.from_drew) ?_
                repeat (go_big_quiet_step (first | (go_at_call 118; refine (l02Reading_any _ _ _ _).mono ?_; rintro e w2 ⟨rfl, b2⟩; rw [h1]; exact ⟨rfl, Qc.back QI.out QO.out b2⟩) | (go_at_call 119; refine (l04Reading_any _ _ _ hi7).mono ?_; rintro e w2 ⟨rfl, b2⟩; exact ⟨rfl, Qc.back QI.out QO.out b2⟩)))
                refine wpQuiet_nil ?_
                rintro _ ⟨xq, rfl⟩
                have G2 : Hid (Below w.heap.size w (W xq) ∧ OwnI (W xq) w.heap.size u7 (vals rs (j + 1))) := QB.out xq
                generalize W xq = wq at G2 ⊢
                go_wp2_with fail
                go_ret2
                exact ⟨ret_ib ⟨by rw [HLO.out, HNO.out HOF.out]; rfl, (HNO.out HOF.out).symm⟩, G2.out.1⟩
              · have HOK : Hid (okI rs (j + 1) = true) := by show _ = _; rw [HOO.out, decide_eq_true (by omega)]
                have hpe : decide ((i : Int) ≤ pf) = false := decide_eq_false hpf
                cases he : (m.toList == (rmk i x).toList) with
                | true =>
                  have he2 : ((rmk i x).toList != m.toList) = false := by rw [bne, BEq.comm, he]; rfl
                  have he3 : ((rmk i x).toList == m.toList) = true := by rw [BEq.comm, he]
                  rw [he] at HMM
                  refine Qc.region_class (W := W) (by kernel_rfl) (by kernel_rfl) (QI.out _ Qc.from_drew) ?_
                  repeat (go_big_quiet_step (first | (go_at_call 118; refine (l02Reading_any _ _ _ _).mono ?_; rintro e w2 ⟨rfl, b2⟩; rw [h1]; exact ⟨rfl, Qc.back QI.out QO.out b2⟩) | (go_at_call 119; refine (l04Reading_any _ _ _ hi7).mono ?_; rintro e w2 ⟨rfl, b2⟩; exact ⟨rfl, Qc.back QI.out QO.out b2⟩)))
                  refine wpQuiet_nil ?_
                  rintro _ ⟨xq, rfl⟩
                  have G2 : Hid (Below w.heap.size w (W xq) ∧ OwnI (W xq) w.heap.size u7 (vals rs (j + 1))) := QB.out xq
                  have z1 := y1 xq
                  clear y0 y1 y2
                  generalize W xq = wq at G2 z1 ⊢
                  go_wp2_with (at_builtin; go_must (refine list_int1 (by rfl) _ _ 22 (by rfl) i0 Tryz.underlying22 hi0 hz0 hz1 hz2 w.heap.size w wq _ (vals rs (j + 1)) x (by rfl) G2.out.2 G2.out.1 G2.out.1.size (by rfl) (by rw [vals_length hk]; omega) ?_; intro v1 w1 o1 b1 hne))
                  have HV1 : Hid (OwnI w1 w.heap.size v1 (vals rs ((j + 1) + 1)) ∧ v1 ≠ .slice none 0 0 ∧ Below w.heap.size w w1) := ⟨by rw [HV.out]; exact o1, hne, b1⟩
                  clear o1 b1 hne
                  go_wp2_with fail
                  exact ⟨⟨j + 1 + 1, by omega, by go_num, ⟨fun jj hj => by
                    by_cases e : jj = (j + 1)
                    · rw [e]; exact HOK.out
                    · exact HK.out.1 jj (by omega), fun jj hj => by
                    by_cases e : jj = (j + 1)
                    · rw [e]; exact HMM.out
                    · exact HK.out.2.1 jj (by omega), HV1.out⟩⟩, by simp [intOf]; omega⟩
                | false =>
                  have he2 : ((rmk i x).toList != m.toList) = true := by rw [bne, BEq.comm, he]; rfl
                  have he3 : ((rmk i x).toList == m.toList) = false := by rw [BEq.comm, he]
                  rw [he] at HMM
                  refine Qc.region_class (W := W) (by kernel_rfl) (by kernel_rfl) (QI.out _ Qc.from_drew) ?_
                  repeat (go_big_quiet_step (first | (go_at_call 118; refine (l02Reading_any _ _ _ _).mono ?_; rintro e w2 ⟨rfl, b2⟩; rw [h1]; exact ⟨rfl, Qc.back QI.out QO.out b2⟩) | (go_at_call 119; refine (l04Reading_any _ _ _ hi7).mono ?_; rintro e w2 ⟨rfl, b2⟩; exact ⟨rfl, Qc.back QI.out QO.out b2⟩)))
                  refine wpQuiet_nil ?_
                  rintro _ ⟨xq, rfl⟩
                  have G2 : Hid (Below w.heap.size w (W xq) ∧ OwnI (W xq) w.heap.size u7 (vals rs (j + 1))) := QB.out xq
                  generalize W xq = wq at G2 ⊢
                  go_wp2_with fail
                  go_ret2
                  exact ⟨ret_ib ⟨by rw [HLO.out, HNM.out HMM.out]; rfl, (HNM.out HMM.out).symm⟩, G2.out.1⟩
      · obtain rfl : k = rs.length := by omega
        have HGG : Hid (good n rs = true) := by
          show _ = _
          have e1 : okAll rs = true := decide_eq_true HK.out.1
          have e2 : mkAll n rs = true := decide_eq_true HK.out.2.1
          rw [HG.out, e1, e2]; rfl
        obtain ⟨g, cp, rfl⟩ := OwnI.some HK.out.2.2.1 HK.out.2.2.2.1
        have HVL : Hid ((vals rs rs.length).length = rs.length) := vals_length (Nat.le_refl _)
        have HRW : Hid (RowI wr (.slice (some ⟨g, 0, none⟩) (vals rs rs.length).length cp) (vals rs rs.length)) := OwnI.row HK.out.2.2.1 (fun x hx => by
          unfold vals at hx
          rw [List.take_length, List.mem_map] at hx
          obtain ⟨r, hr, rfl⟩ := hx
          obtain ⟨j, hj, rfl⟩ := List.mem_iff_getElem.1 hr
          have := (okI_f HK.out.1 hj).2.2.1
          unfold rn at this
          rw [List.getD_eq_getElem?_getD, List.getElem?_eq_getElem hj, Option.getD_some] at this
          omega)
        have HNE : Hid (vals rs rs.length ≠ [] ∧ (vals rs rs.length).length ≤ 1000) := ⟨fun e => by have := HVL.out; rw [e] at this; have := HX.out; simp at *; omega, by rw [HVL.out]; have := HX.out; omega⟩
        have HBW : Hid (Below w.heap.size w wr) := HK.out.2.2.2.2
        clear HK
        go_wp2_with fail
        refine (sorted_any _ _ wr HRW.out HNE.out.2 HNE.out.1).mono ?_
        rintro e w1 ⟨g1, cp1, ys, rfl, k1, hyl, hyp, hya, hg1, b1⟩
        have HM : Hid (ys = ms (vals rs rs.length)) := ms_of hyp hya
        rw [HVL.out] at hyl ⊢
        obtain ⟨q', HQ'⟩ : ∃ q' : Nat, Hid (q = q' ∧ rs.length / 2 = q') := ⟨q.toNat, by have := HX.out; exact ⟨by omega, by omega⟩⟩
        have c1 := (k1.cell (i := q') (by have := HX.out; have := HQ'.out; omega)).1
        have B1 : Hid (Below w.heap.size w w1) := HBW.out.trans (b1.mono HBW.out.size)
        have hq2 : (q' : Int) < (rs.length : Int) := by have := HX.out; have := HQ'.out; omega
        rw [HQ'.out.1]
        clear k1 hyp hya b1 hyl
        go_wp2_with fail
        go_ret2
        exact ⟨ret_ib ⟨by rw [HLO.out, HGG.out, if_pos rfl, HQ'.out.2, HM.out], HGG.out.symm⟩, B1.out⟩
  · have h3' : ((rs.length : Int) != 2 * fOut n + 1) = true := by simpa using h3
    have HG : Hid (good n rs = false) := by show _ = _; unfold good; rw [decide_eq_false h3]; rfl
    have HLO : Hid (lOut n rs = 0) := by show _ = _; unfold lOut; rw [HG.out]; rfl
    clear h3
    generalize fOut n = q at hq h3' hfs
    go_enter Tryz.func91, Tryz.ntmps91
    go_wp2_with fail
    go_ret2
    exact ⟨ret_ib ⟨HLO.out.symm, HG.out.symm⟩, Below.refl _ _⟩
set_option maxRecDepth 100000 in
set_option maxHeartbeats 400000 in
theorem l04Nodes_any (n : Int) (w : World) : Calls Tryz.prog 26 #[.int .i64 n] w fun e w' => e = .returned (.bool (decide (fCode n = 0))) ∧ w = w' := by
  rcases f_cases n with rfl | rfl | rfl | ⟨h1, h2, h3, _, hc⟩
  · go_enter Tryz.func26, Tryz.ntmps26
    go_wp2_with fail
    go_ret
    exact ⟨rfl, rfl⟩
  · go_enter Tryz.func26, Tryz.ntmps26
    go_wp2_with fail
    go_ret
    exact ⟨rfl, rfl⟩
  · go_enter Tryz.func26, Tryz.ntmps26
    go_wp2_with fail
    go_ret
    exact ⟨rfl, rfl⟩
  · have HC : Hid (fCode n = 4) := hc
    clear hc
    go_enter Tryz.func26, Tryz.ntmps26
    go_wp2_with fail
    go_ret
    exact ⟨ret_bool (by rw [HC.out]; simp [h1, h2, h3]), rfl⟩
end Go.Proofs.YtondmbeccpekiaaGreatDoor.Ts

/- Readings in a slice: read, measured, copied, compared. -/
namespace Go.Proofs.YtondmbeccpekiaaGreatDoor.Gr
open Go.RowKit Go.Proofs.YtondmbeccpekiaaGreatDoor.Sl Go.Proofs.YtondmbeccpekiaaGreatDoor.Ap Go.Proofs.YtondmbeccpekiaaGreatDoor.Rg

structure Rd where
  f : Int
  x : Int
  m : ByteArray
instance : Inhabited Rd := ⟨⟨0, 0, ⟨#[]⟩⟩⟩
def E1 (w : World) (b o : Nat) (x : Rd) : Prop := w.cell? ⟨b, o, none⟩ = some (.int .i64 x.f) ∧ w.cell? ⟨b, o + 1, none⟩ = some (.int .i64 x.x) ∧ w.cell? ⟨b, o + 2, none⟩ = some (.string x.m)
def Row (w : World) (v : Value) (xs : List Rd) : Prop := RowG 3 E1 w v xs
def oneV (x : Rd) : Value := .agg #[.int .i64 x.f, .int .i64 x.x, .string x.m]
theorem stays1 : Stays E1 := fun _ _ b _ _ hb hlt ⟨h0, h1, h2⟩ => ⟨(hb.cell (p := ⟨b, _, none⟩) hlt).trans h0, (hb.cell (p := ⟨b, _, none⟩) hlt).trans h1, (hb.cell (p := ⟨b, _, none⟩) hlt).trans h2⟩
theorem Row.below {w w' : World} {v : Value} {xs : List Rd} (h : Row w v xs) (hb : Below w.heap.size w w') : Row w' v xs := RowG.below stays1 h hb
def Tz (n : Nat) (x : Rd) : Prop := x.m.size ≤ n
end Go.Proofs.YtondmbeccpekiaaGreatDoor.Gr
namespace Go.Proofs.YtondmbeccpekiaaGreatDoor.Op
open Go.ChangeShapes Go.WideShapes Go.ChangeAt Go.RowKit Go.Deep Go.Proofs.YtondmbeccpekiaaGreatDoor.Rg Go.Proofs.YtondmbeccpekiaaGreatDoor.Gr
end Go.Proofs.YtondmbeccpekiaaGreatDoor.Op
