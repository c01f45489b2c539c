/- Texts put together: Ti, Ts, Ta, Cn, Hi. -/
import Derived.Test.YtmknnkhehkegcaaGreatDoorM7
import Derived.Test.YtmknnkhehkegcaaGreatDoorM8
import Derived.Test.YtmknnkhehkegcaaGreatDoorM2
/- ReadingsTime and AgreedTime of the program. -/
namespace Go.Proofs.YtmknnkhehkegcaaGreatDoor.Ti
open Go.RowKit Go.Proofs.YtmknnkhehkegcaaGreatDoor.Sl Go.Proofs.YtmknnkhehkegcaaGreatDoor.By Go.Proofs.YtmknnkhehkegcaaGreatDoor.Ap Go.Proofs.YtmknnkhehkegcaaGreatDoor.Tx Go.Proofs.YtmknnkhehkegcaaGreatDoor.Sh Go.Proofs.YtmknnkhehkegcaaGreatDoor.Is Go.Proofs.YtmknnkhehkegcaaGreatDoor.So Go.Proofs.YtmknnkhehkegcaaGreatDoor.Md Go.Proofs.YtmknnkhehkegcaaGreatDoor.Iz Go.Proofs.YtmknnkhehkegcaaGreatDoor.Mr Go.Proofs.YtmknnkhehkegcaaGreatDoor.Rm Go.Proofs.YtmknnkhehkegcaaGreatDoor.Rw Go.Proofs.YtmknnkhehkegcaaGreatDoor.Rs Go.Proofs.YtmknnkhehkegcaaGreatDoor.Tm

/-- The values of readings. -/
def vals (rs : List Rd) (k : Nat) : List Int := (rs.take k).map (·.x)
theorem vals_step {rs : List Rd} {k : Nat} (h : k < rs.length) : vals rs (k + 1) = vals rs k ++ [(rn rs k).x] := by
  unfold vals
  rw [List.take_add_one, rn_at h]
  simp
theorem vals_length {rs : List Rd} {k : Nat} (h : k ≤ rs.length) : (vals rs k).length = k := by unfold vals; rw [List.length_map, List.length_take]; omega
/-- What ReadingsTime answers. -/
def tCode (n : Int) (rs : List Rd) : Int := if 4096 < rs.length then 2 else if fCode n ≠ 0 then 4 else if (rs.length : Int) = 2 * fOut n + 1 ∧ (okAll rs && mkAll n rs) = true then 0 else 12
def tOut (n : Int) (rs : List Rd) : Int := if tCode n rs = 0 then nth (ms (vals rs rs.length)) (rs.length / 2) else 0
theorem f_code (n : Int) : fCode n = 0 ∨ fCode n = 4 := by
  unfold fCode
  split
  · exact .inl rfl
  · exact .inr rfl
theorem f_small (n : Int) : 0 ≤ fOut n ∧ fOut n ≤ 2 := by
  unfold fOut
  repeat' split
  all_goals omega
theorem t_cases (n : Int) (rs : List Rd) : (4096 < rs.length ∧ tCode n rs = 2 ∧ tOut n rs = 0) ∨ (rs.length ≤ 4096 ∧ fCode n = 4 ∧ tCode n rs = 4 ∧ tOut n rs = 0) ∨ (rs.length ≤ 4096 ∧ fCode n = 0 ∧ (rs.length : Int) ≠ 2 * fOut n + 1 ∧ tCode n rs = 12 ∧ tOut n rs = 0) ∨
    (rs.length ≤ 4096 ∧ fCode n = 0 ∧ (rs.length : Int) = 2 * fOut n + 1 ∧ (okAll rs && mkAll n rs) = false ∧ tCode n rs = 12 ∧ tOut n rs = 0) ∨ (rs.length ≤ 4096 ∧ fCode n = 0 ∧ (rs.length : Int) = 2 * fOut n + 1 ∧ (okAll rs && mkAll n rs) = true ∧ tCode n rs = 0 ∧ tOut n rs = nth (ms (vals rs rs.length)) (rs.length / 2)) := by
  by_cases h1 : 4096 < rs.length
  · have e : tCode n rs = 2 := by unfold tCode; rw [if_pos h1]
    exact .inl ⟨h1, e, by unfold tOut; rw [e]; rfl⟩
  rcases f_code n with h2 | h2
  · by_cases h3 : (rs.length : Int) = 2 * fOut n + 1
    · cases h4 : (okAll rs && mkAll n rs) with
      | false =>
        have e : tCode n rs = 12 := by unfold tCode; rw [if_neg h1, if_neg (by omega), if_neg (by rw [h4]; simp)]
        exact .inr (.inr (.inr (.inl ⟨by omega, h2, h3, rfl, e, by unfold tOut; rw [e]; rfl⟩)))
      | true =>
        have e : tCode n rs = 0 := by unfold tCode; rw [if_neg h1, if_neg (by omega), if_pos ⟨h3, h4⟩]
        exact .inr (.inr (.inr (.inr ⟨by omega, h2, h3, rfl, e, by unfold tOut; rw [e]; rfl⟩)))
    · have e : tCode n rs = 12 := by unfold tCode; rw [if_neg h1, if_neg (by omega), if_neg (fun h => h3 h.1)]
      exact .inr (.inr (.inl ⟨by omega, h2, h3, e, by unfold tOut; rw [e]; rfl⟩))
  · have e : tCode n rs = 4 := by unfold tCode; rw [if_neg h1, if_pos (by omega)]
    exact .inr (.inl ⟨by omega, h2, e, by unfold tOut; rw [e]; rfl⟩)
set_option maxRecDepth 100000 in
set_option maxHeartbeats 400000 in
theorem middleOf_any (g cap : Nat) (ys : List Int) (n : Nat) (w : World) (hn : ys.length = n) (h : BlkI w g cap ys) (hl : ys.length ≤ 1048576) (h0 : 0 < ys.length) :
    Calls Tryz.prog 55 #[.slice (some ⟨g, 0, none⟩) n cap] w fun e w' => e = .returned (.int .i64 (nth ys (n / 2))) ∧ Below w.heap.size w w' := by
  subst hn
  have c1 := (h.cell (i := ys.length / 2) (by omega)).1
  have q1 : (ys.length : Int) / 2 = ((ys.length / 2 : Nat) : Int) := by omega
  have q2 : ((ys.length / 2 : Nat) : Int) < (ys.length : Int) := by omega
  clear h
  generalize ys.length / 2 = hf at q1 q2 c1
  go_enter Tryz.func55, Tryz.ntmps55
  go_wp2_with fail
  go_ret
  exact ⟨rfl, Below.refl _ _⟩
set_option maxRecDepth 100000 in
set_option maxHeartbeats 1600000 in
theorem implReadingsTime_any (n : Int) (v : Value) (rs : List Rd) (w : World) (h : RowR w v rs) (hl : rs.length ≤ 1048576) (hK : KTab w) (hp : 0 < w.heap.size) :
    Calls Tryz.prog 27 #[.int .i64 n, v] w fun e w' => e = .returned (.tuple #[.int .i64 (tOut n rs), .int .i64 (tCode n rs)]) ∧ Below w.heap.size w w' := by
  have HR : Hid (RowR w v rs) := h
  have GK : Hid (KTab w) := hK
  obtain ⟨a, cap, rfl, _⟩ := h
  clear hK
  have HFS := f_small n
  rcases t_cases n rs with ⟨h1, e1, e2⟩ | ⟨h1, h2, e1, e2⟩ | ⟨h1, h2, h3, e1, e2⟩ | ⟨h1, h2, h3, h4, e1, e2⟩ | ⟨h1, h2, h3, h4, e1, e2⟩
  · have HE : Hid (tOut n rs = 0 ∧ tCode n rs = 2) := ⟨e2, e1⟩
    have h1' : (4096 : Int) < (rs.length : Int) := by omega
    clear e1 e2 h1 HFS
    go_enter Tryz.func27, Tryz.ntmps27
    go_wp2
    go_ret2
    exact ⟨Md.ret_ii ⟨HE.out.1.symm, HE.out.2.symm⟩, Below.refl _ _⟩
  · have HE : Hid (tOut n rs = 0 ∧ tCode n rs = 4) := ⟨e2, e1⟩
    have h1' : ¬ (4096 : Int) < (rs.length : Int) := by omega
    clear e1 e2 h1 HFS
    go_enter Tryz.func27, Tryz.ntmps27
    go_wp2_with fail
    refine (implFaultsOf_any n w).mono ?_
    rintro e w1 ⟨rfl, rfl⟩
    rw [h2]
    go_wp2_with fail
    go_ret2
    exact ⟨Md.ret_ii ⟨HE.out.1.symm, HE.out.2.symm⟩, Below.refl _ _⟩
  · have HE : Hid (tOut n rs = 0 ∧ tCode n rs = 12) := ⟨e2, e1⟩
    have h1' : ¬ (4096 : Int) < (rs.length : Int) := by omega
    clear e1 e2 h1
    go_enter Tryz.func27, Tryz.ntmps27
    go_wp2_with fail
    refine (implFaultsOf_any n w).mono ?_
    rintro e w1 ⟨rfl, rfl⟩
    rw [h2]
    generalize fOut n = q at h3 HFS
    have h3' : ((rs.length : Int) != 2 * q + 1) = true := by simpa using h3
    go_wp2_with fail
    go_ret2
    exact ⟨Md.ret_ii ⟨HE.out.1.symm, HE.out.2.symm⟩, Below.refl _ _⟩
  · have HE : Hid (tOut n rs = 0 ∧ tCode n rs = 12) := ⟨e2, e1⟩
    have h1' : ¬ (4096 : Int) < (rs.length : Int) := by omega
    clear e1 e2 h1
    go_enter Tryz.func27, Tryz.ntmps27
    go_wp2_with fail
    refine (implFaultsOf_any n w).mono ?_
    rintro e w1 ⟨rfl, rfl⟩
    rw [h2]
    generalize fOut n = q at h3 HFS
    have h3' : ((rs.length : Int) != 2 * q + 1) = false := by simpa using h3
    clear h3
    go_wp2_with fail
    refine (readingsSigned_any n _ rs _ HR.out hl GK.out hp).mono ?_
    rintro e w2 ⟨rfl, b2⟩
    rw [h4]
    go_wp2_with fail
    go_ret2
    exact ⟨Md.ret_ii ⟨HE.out.1.symm, HE.out.2.symm⟩, b2⟩
  · have HE : Hid (tOut n rs = nth (ms (vals rs rs.length)) (rs.length / 2) ∧ tCode n rs = 0) := ⟨e2, e1⟩
    have h1' : ¬ (4096 : Int) < (rs.length : Int) := by omega
    have HSM : Hid (rs.length ≤ 5 ∧ 0 < rs.length) := ⟨by omega, by omega⟩
    clear e1 e2 h1
    go_enter Tryz.func27, Tryz.ntmps27
    go_wp2_with fail
    refine (implFaultsOf_any n w).mono ?_
    rintro e w1 ⟨rfl, rfl⟩
    rw [h2]
    generalize fOut n = q at h3 HFS
    have h3' : ((rs.length : Int) != 2 * q + 1) = false := by simpa using h3
    clear h3
    go_wp2_with fail
    refine (readingsSigned_any n _ rs _ HR.out hl GK.out hp).mono ?_
    rintro e w2 ⟨rfl, b2⟩
    rw [h4]
    have HB2 : Hid (Below w1.heap.size w1 w2) := b2
    clear b2 h3' HFS
    go_wp2_with fail
    go_loopw [8, 36] (fun u i wr => ∃ (k : Nat) (zs : List Int), k ≤ rs.length ∧ i = .int .i64 k ∧ Hid (OwnI wr w1.heap.size u zs ∧ zs.Perm (vals rs k) ∧ Asc zs.length zs ∧ (0 < k → u ≠ .slice none 0 0) ∧ Below w1.heap.size w1 wr)) (fun _ i _ => rs.length - (intOf i).toNat)
    case atStart => exact ⟨0, [], by omega, rfl, ⟨World.ownsRow_nil _ _ _ _, by simp [vals], fun p q h1 h2 => by simp at h2, fun h => by omega, HB2.out⟩⟩
    case round =>
      clear HB2
      obtain ⟨k, zs, hk, rfl, HY⟩ := hrel
      by_cases hlt : k < rs.length
      · obtain ⟨b, off, rfl, hbl, c0, c1, c2⟩ := pick_cells (HR.out.below HY.out.2.2.2.2) rfl hlt
        have HV : Hid (vals rs (k + 1) = vals rs k ++ [(rn rs k).x]) := vals_step hlt
        have HZL : Hid (zs.length ≤ 5) := by show _ ≤ _; rw [HY.out.2.1.length_eq, vals_length hk]; have := HSM.out; omega
        generalize (rn rs k).f = f at c0
        generalize (rn rs k).x = x at c1 HV
        generalize (rn rs k).m = m at c2
        have HBN : Hid (OwnI (wr.alloc (.cells #[.int .i64 f, .int .i64 x, .string m] 105)) w1.heap.size u8 zs ∧ Below w1.heap.size w1 (wr.alloc (.cells #[.int .i64 f, .int .i64 x, .string m] 105))) := ⟨OwnI.below HY.out.1 (Tx.bel_new wr _), HY.out.2.2.2.2.trans ((Tx.bel_new wr _).mono HY.out.2.2.2.2.size)⟩
        go_wp2_with fail
        refine (insertSorted_any u8 zs x w1.heap.size _ HBN.out.1 HY.out.2.2.1 HBN.out.2.size (by have := HZL.out; omega)).mono ?_
        rintro e w3 ⟨v3, us, rfl, o3, p3, a3, n3, b3⟩
        have HY3 : Hid (OwnI w3 w1.heap.size v3 us ∧ us.Perm (vals rs (k + 1)) ∧ Asc us.length us ∧ (0 < k + 1 → v3 ≠ .slice none 0 0) ∧ Below w1.heap.size w1 w3) := ⟨o3, by rw [HV.out]; exact p3.trans (HY.out.2.1.append_right _), a3, fun _ => n3, HBN.out.2.trans b3⟩
        clear o3 p3 a3 n3 b3
        go_wp2_with fail
        exact ⟨⟨k + 1, us, by omega, by go_num, HY3⟩, by simp [intOf]; omega⟩
      · obtain rfl : k = rs.length := by omega
        obtain ⟨g, cp, rfl⟩ := OwnI.some HY.out.1 (HY.out.2.2.2.1 HSM.out.2)
        have HZL : Hid (zs.length = rs.length) := by show _ = _; rw [HY.out.2.1.length_eq, vals_length (Nat.le_refl _)]
        have HMS : Hid (zs = ms (vals rs rs.length)) := ms_of HY.out.2.1 HY.out.2.2.1
        have HKK : Hid (BlkI wr g cp zs) := (BlkI.of HY.out.1).1
        rw [HZL.out]
        go_wp2_with fail
        refine (middleOf_any g cp zs rs.length wr HZL.out HKK.out (by rw [HZL.out]; exact hl) (by rw [HZL.out]; exact HSM.out.2)).mono ?_
        rintro e w3 ⟨rfl, b3⟩
        have HB3 : Hid (Below w1.heap.size w1 w3) := HY.out.2.2.2.2.trans (b3.mono HY.out.2.2.2.2.size)
        rw [HMS.out]
        clear b3
        generalize nth (ms (vals rs rs.length)) (rs.length / 2) = r at HE ⊢
        go_wp2_with fail
        go_ret2
        exact ⟨Md.ret_ii ⟨HE.out.1.symm, HE.out.2.symm⟩, HB3.out⟩
end Go.Proofs.YtmknnkhehkegcaaGreatDoor.Ti

/- ReadingsTime of the specification. -/
namespace Go.Proofs.YtmknnkhehkegcaaGreatDoor.Ts
open Go.RowKit Go.Proofs.YtmknnkhehkegcaaGreatDoor.Sl Go.Proofs.YtmknnkhehkegcaaGreatDoor.By Go.Proofs.YtmknnkhehkegcaaGreatDoor.Ap Go.Proofs.YtmknnkhehkegcaaGreatDoor.Tx Go.Proofs.YtmknnkhehkegcaaGreatDoor.Sh Go.Proofs.YtmknnkhehkegcaaGreatDoor.Is Go.Proofs.YtmknnkhehkegcaaGreatDoor.So Go.Proofs.YtmknnkhehkegcaaGreatDoor.Md Go.Proofs.YtmknnkhehkegcaaGreatDoor.Iz Go.Proofs.YtmknnkhehkegcaaGreatDoor.Mr Go.Proofs.YtmknnkhehkegcaaGreatDoor.Rm Go.Proofs.YtmknnkhehkegcaaGreatDoor.Rw Go.Proofs.YtmknnkhehkegcaaGreatDoor.Rs Go.Proofs.YtmknnkhehkegcaaGreatDoor.Tm Go.Proofs.YtmknnkhehkegcaaGreatDoor.Ti

theorem ret_ib {a c : Int} {b d : Bool} (h : a = c ∧ b = d) : Ending.returned (.tuple #[.int .i64 a, .bool b]) = .returned (.tuple #[.int .i64 c, .bool d]) := by rw [h.1, h.2]
def good (n : Int) (rs : List Rd) : Bool := decide ((rs.length : Int) = 2 * fOut n + 1) && (okAll rs && mkAll n rs)
def lOut (n : Int) (rs : List Rd) : Int := if good n rs then nth (ms (vals rs rs.length)) (rs.length / 2) else 0
theorem f_quo (n : Int) (h : fCode n = 0) : (n - 1).tdiv 3 = fOut n ∧ 1 ≤ n ∧ n ≤ 7 := by
  unfold fCode at h
  by_cases h1 : n = 1 ∨ n = 4 ∨ n = 7
  · rcases h1 with rfl | rfl | rfl <;> decide
  · rw [if_neg h1] at h; omega
/-- What is asked of the reading at k by the specification, those ahead of it being right. -/
theorem ok_split {rs : List Rd} {k : Nat} (h : ∀ j, j < k → okI rs j = true) (hk : k < rs.length) :
    okI rs k = ((inR (rn rs k).f 0 6 && (inR (rn rs k).x 0 1000000000 && ((rn rs k).m.size == 8))) && (decide (k = 0) || decide ((rn rs (k - 1)).f < (rn rs k).f))) := by
  have hp := okI_pv h (by omega) k (Nat.le_refl _)
  unfold okI
  cases hb : (inR (rn rs k).x 0 1000000000 && ((rn rs k).m.size == 8)) with
  | false => simp
  | true =>
    simp only [Bool.and_true]
    by_cases hk0 : k = 0
    · subst hk0
      rw [decide_eq_true rfl, Bool.true_or, Bool.and_true]
      rfl
    · rw [decide_eq_false hk0, Bool.false_or]
      have e : pv rs k = (rn rs (k - 1)).f + 1 := by unfold pv; rw [if_neg hk0]
      rw [e] at hp ⊢
      unfold inR
      by_cases h1 : (rn rs k).f ≤ 6
      · by_cases h2 : (rn rs (k - 1)).f + 1 ≤ (rn rs k).f
        · rw [decide_eq_true h1, decide_eq_true h2, decide_eq_true (show 0 ≤ (rn rs k).f by omega), decide_eq_true (show (rn rs (k - 1)).f < (rn rs k).f by omega)]; rfl
        · rw [decide_eq_false h2, decide_eq_false (show ¬ (rn rs (k - 1)).f < (rn rs k).f by omega)]; simp
      · rw [decide_eq_false h1]; simp
end Go.Proofs.YtmknnkhehkegcaaGreatDoor.Ts

/- AgreedTime of the program and of the specification. -/
namespace Go.Proofs.YtmknnkhehkegcaaGreatDoor.Ta
open Go.RowKit Go.Proofs.YtmknnkhehkegcaaGreatDoor.Sl Go.Proofs.YtmknnkhehkegcaaGreatDoor.By Go.Proofs.YtmknnkhehkegcaaGreatDoor.Ap Go.Proofs.YtmknnkhehkegcaaGreatDoor.Tx Go.Proofs.YtmknnkhehkegcaaGreatDoor.Sh Go.Proofs.YtmknnkhehkegcaaGreatDoor.Is Go.Proofs.YtmknnkhehkegcaaGreatDoor.So Go.Proofs.YtmknnkhehkegcaaGreatDoor.Md Go.Proofs.YtmknnkhehkegcaaGreatDoor.Mr Go.Proofs.YtmknnkhehkegcaaGreatDoor.Rm Go.Proofs.YtmknnkhehkegcaaGreatDoor.Rw Go.Proofs.YtmknnkhehkegcaaGreatDoor.Rs Go.Proofs.YtmknnkhehkegcaaGreatDoor.Tm Go.Proofs.YtmknnkhehkegcaaGreatDoor.Ti Go.Proofs.YtmknnkhehkegcaaGreatDoor.Ts

/-- What AgreedTime answers beside ReadingsTime's code. -/
def aOut (b n : Int) (rs : List Rd) : Int := if tCode n rs = 0 then max b (tOut n rs) else 0
theorem t_code_long {n : Int} {rs : List Rd} (h : 4096 < rs.length) : tCode n rs = 2 := by unfold tCode; rw [if_pos h]
end Go.Proofs.YtmknnkhehkegcaaGreatDoor.Ta

/- The median: half at most lies below it, half at most above. -/
namespace Go.Proofs.YtmknnkhehkegcaaGreatDoor.Cn
open Go.Proofs.YtmknnkhehkegcaaGreatDoor.Sl Go.Proofs.YtmknnkhehkegcaaGreatDoor.Is Go.Proofs.YtmknnkhehkegcaaGreatDoor.Md

theorem nth_get {l : List Int} {i : Nat} (h : i < l.length) : nth l i = l[i] := by
  unfold nth; rw [List.getD_eq_getElem?_getD, List.getElem?_eq_getElem h]; rfl
/-- How many of the first k are below m, above m. -/
def lo (l : List Int) (m : Int) (k : Nat) : Nat := (l.take k).countP (fun x => decide (x < m))
def hi (l : List Int) (m : Int) (k : Nat) : Nat := (l.take k).countP (fun x => decide (m < x))
theorem take_step {l : List Int} {k : Nat} (h : k < l.length) : l.take (k + 1) = l.take k ++ [nth l k] := by
  rw [List.take_add_one, nth_at h]; rfl
theorem lo_step {l : List Int} {m : Int} {k : Nat} (h : k < l.length) : lo l m (k + 1) = lo l m k + (if nth l k < m then 1 else 0) := by
  unfold lo
  rw [take_step h, List.countP_append]
  congr 1
  by_cases e : nth l k < m
  · rw [if_pos e]; simp [e]
  · rw [if_neg e]; simp [e]
theorem hi_step {l : List Int} {m : Int} {k : Nat} (h : k < l.length) : hi l m (k + 1) = hi l m k + (if m < nth l k then 1 else 0) := by
  unfold hi
  rw [take_step h, List.countP_append]
  congr 1
  by_cases e : m < nth l k
  · rw [if_pos e]; simp [e]
  · rw [if_neg e]; simp [e]
theorem lo_le (l : List Int) (m : Int) (k : Nat) : lo l m k ≤ k := by
  unfold lo
  exact Nat.le_trans List.countP_le_length (by rw [List.length_take]; omega)
theorem hi_le (l : List Int) (m : Int) (k : Nat) : hi l m k ≤ k := by
  unfold hi
  exact Nat.le_trans List.countP_le_length (by rw [List.length_take]; omega)
theorem sorted_le {s : List Int} (h : s.Pairwise (· ≤ ·)) {i j : Nat} (hi : i ≤ j) (hj : j < s.length) : nth s i ≤ nth s j := by
  rw [nth_get hj, nth_get (by omega)]
  by_cases e : i = j
  · subst e; exact Int.le_refl _
  · exact (List.pairwise_iff_getElem.1 h) i j _ _ (by omega)
theorem sorted_lo {s : List Int} (h : s.Pairwise (· ≤ ·)) {j : Nat} (hj : j < s.length) : s.countP (fun x => decide (x < nth s j)) ≤ j := by
  have e : s.countP (fun x => decide (x < nth s j)) = (s.take j).countP (fun x => decide (x < nth s j)) + (s.drop j).countP (fun x => decide (x < nth s j)) := by rw [← List.countP_append, List.take_append_drop]
  have e2 : (s.drop j).countP (fun x => decide (x < nth s j)) = 0 := by
    rw [List.countP_eq_zero]
    intro x hx
    obtain ⟨q, hq, rfl⟩ := List.mem_iff_getElem.1 hx
    rw [List.getElem_drop]
    rw [List.length_drop] at hq
    have := sorted_le h (i := j) (j := j + q) (by omega) (by omega)
    rw [nth_get (i := j + q) (by omega)] at this
    simp; exact this
  have e3 : (s.take j).countP (fun x => decide (x < nth s j)) ≤ j := Nat.le_trans List.countP_le_length (by rw [List.length_take]; omega)
  omega
theorem sorted_hi {s : List Int} (h : s.Pairwise (· ≤ ·)) {j : Nat} (hj : j < s.length) : s.countP (fun x => decide (nth s j < x)) ≤ s.length - 1 - j := by
  have e : s.countP (fun x => decide (nth s j < x)) = (s.take (j + 1)).countP (fun x => decide (nth s j < x)) + (s.drop (j + 1)).countP (fun x => decide (nth s j < x)) := by rw [← List.countP_append, List.take_append_drop]
  have e2 : (s.take (j + 1)).countP (fun x => decide (nth s j < x)) = 0 := by
    rw [List.countP_eq_zero]
    intro x hx
    obtain ⟨q, hq, rfl⟩ := List.mem_iff_getElem.1 hx
    rw [List.getElem_take]
    rw [List.length_take] at hq
    have := sorted_le h (i := q) (j := j) (by omega) hj
    rw [nth_get (i := q) (by omega)] at this
    simp; exact this
  have e3 : (s.drop (j + 1)).countP (fun x => decide (nth s j < x)) ≤ s.length - (j + 1) := Nat.le_trans List.countP_le_length (by rw [List.length_drop]; exact Nat.le_refl _)
  omega
/-- THE MEDIAN of an odd number of numbers. -/
theorem median (l : List Int) (h : l.length % 2 = 1) :
    nth (ms l) (l.length / 2) ∈ l ∧ 2 * lo l (nth (ms l) (l.length / 2)) l.length < l.length ∧ 2 * hi l (nth (ms l) (l.length / 2)) l.length < l.length := by
  have hl := ms_length l
  have hj : l.length / 2 < (ms l).length := by omega
  refine ⟨(ms_perm l).mem_iff.1 (nth_mem hj), ?_, ?_⟩
  · unfold lo
    rw [List.take_length, ← (ms_perm l).countP_eq]
    have := sorted_lo (ms_pair l) hj
    omega
  · unfold hi
    rw [List.take_length, ← (ms_perm l).countP_eq]
    have := sorted_hi (ms_pair l) hj
    omega
end Go.Proofs.YtmknnkhehkegcaaGreatDoor.Cn

/- A number in a list: the laws' hasInt. -/
namespace Go.Proofs.YtmknnkhehkegcaaGreatDoor.Hi
open Go.RowKit Go.Proofs.YtmknnkhehkegcaaGreatDoor.Sl Go.Proofs.YtmknnkhehkegcaaGreatDoor.Is

theorem ret_b {a b : Bool} (h : a = b) : Ending.returned (.bool a) = .returned (.bool b) := by rw [h]
end Go.Proofs.YtmknnkhehkegcaaGreatDoor.Hi
