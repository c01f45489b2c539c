/- Proofs as texts are split; small numbers' texts; pieces joined. -/
import Derived.Test.YtnebohdlndiejaaGreatDoorJInstallTable0
import Derived.Test.YtnebohdlndiejaaGreatDoorEr
import Derived.Test.YtnebohdlndiejaaGreatDoorPf
import Derived.Test.YtnebohdlndiejaaGreatDoorTk
import Derived.BigQuiet
import Derived.Deep.Cut
namespace Go.Proofs.YtnebohdlndiejaaGreatDoor.Xp
open Go.RowKit Go.Proofs.YtnebohdlndiejaaGreatDoor.Sl Go.Proofs.YtnebohdlndiejaaGreatDoor.By Go.Proofs.YtnebohdlndiejaaGreatDoor.Ap Go.Proofs.YtnebohdlndiejaaGreatDoor.Tx Go.Proofs.YtnebohdlndiejaaGreatDoor.Sh Go.Proofs.YtnebohdlndiejaaGreatDoor.Ho Go.Proofs.YtnebohdlndiejaaGreatDoor.Pf Go.Proofs.YtnebohdlndiejaaGreatDoor.Er

/-- The hash k of a text; the first k of them. -/
def hsh (s : ByteArray) (k : Nat) : ByteArray := s.extract (32 * k) (32 * k + 32)
def hsTo (s : ByteArray) (k : Nat) : List ByteArray := (List.range k).map (hsh s)
def chk (s : ByteArray) : List ByteArray := hsTo s (s.size / 32)
theorem hsTo_succ (s : ByteArray) (k : Nat) : hsTo s (k + 1) = hsTo s k ++ [hsh s k] := by unfold hsTo; rw [List.range_succ, List.map_append]; rfl
theorem hsTo_len (s : ByteArray) (k : Nat) : (hsTo s k).length = k := by simp [hsTo]
theorem ext_two (s : ByteArray) (a b c d : Nat) : (s.extract a b).extract c d = s.extract (a + c) (min (a + d) b) := ByteArray.extract_extract ..
theorem tail_size (s : ByteArray) (k : Nat) (h : 32 * k ≤ s.size) : (s.extract (32 * k) s.size).size = s.size - 32 * k := by rw [ByteArray.size_extract]; omega
theorem empty_of {p : ByteArray} (h : p.size = 0) : p = ⟨#[]⟩ := by
  cases p with
  | mk d =>
    congr
    exact Array.eq_empty_of_size_eq_zero h
theorem ret_te {a b : Value} {c d : Value} (h : a = b ∧ c = d) : Ending.returned (.tuple #[a, c]) = .returned (.tuple #[b, d]) := by rw [h.1, h.2]
def strSz : Value → Nat
  | .string s => s.size
  | _ => 0
theorem nil_list : (⟨#[]⟩ : ByteArray).toList = [] := by rw [Lib.toList_data]
theorem list_none {p : ByteArray} (h : p.size = 0) : (p.toList == []) = true := by rw [empty_of h, nil_list]; rfl
theorem list_some {p : ByteArray} (h : p.size ≠ 0) : (p.toList == []) = false := by
  rw [beq_eq_false_iff_ne]
  intro e
  apply h
  have := congrArg List.length e
  rw [Lib.toList_data] at this
  simpa using this
def tPt : ByteArray := ⟨#[116, 101, 120, 116, 32, 111, 102, 32, 97, 32, 112, 114, 111, 111, 102]⟩
def tPr : ByteArray := ⟨#[112, 114, 111, 111, 102]⟩
set_option maxRecDepth 100000 in
set_option maxHeartbeats 1600000 in
theorem hashesIn_bad (s : ByteArray) {w : World} {A : Nat → Addr} (hs : s.size ≤ 1048576) (hS : Sen w A) (h : ¬ (s.size % 32 = 0 ∧ s.size ≤ 640)) :
    Calls Tryz.prog 118 #[.string s] w fun e w' => e = .returned (.tuple #[.slice none 0 0, fnd tPt (sen (A 3))]) ∧ Below w.heap.size w w' := by
  have g3 := hS.g3
  have HB : Hid (∀ n, Below w.heap.size w (w.drewN n)) := fun n => (Below.refl _ _).trans ⟨rfl, rfl, rfl, Nat.le_refl _, fun _ _ => rfl⟩
  unfold fnd sen tPt
  unfold sen at g3
  clear hS
  by_cases h1 : s.size % 32 = 0
  · have h2 : (640 : Int) < (s.size : Int) := by have : ¬ s.size ≤ 640 := fun hh => h ⟨h1, hh⟩; omega
    have h1' : ((s.size : Int) % 32 == 0) = true := by have : (s.size : Int) % 32 = 0 := by omega
                                                       simp [this]
    have h1n : ((s.size : Int) % 32 != 0) = false := by rw [bne, h1']; rfl
    clear h h1
    go_enter Tryz.func118, Tryz.ntmps118
    go_wp2_with fail
    go_quiet (fail)
    go_wp2_with fail
    go_ret2
    exact ⟨rfl, HB.out _⟩
  · have h1t : ¬ (s.size : Int) % 32 = 0 := by omega
    have h1n : ((s.size : Int) % 32 != 0) = true := by simpa using h1t
    clear h h1
    go_enter Tryz.func118, Tryz.ntmps118
    go_wp2_with fail
    go_quiet (fail)
    go_wp2_with fail
    go_ret2
    exact ⟨rfl, HB.out _⟩
set_option maxRecDepth 100000 in
set_option maxHeartbeats 1600000 in
theorem hashesIn_ok (s : ByteArray) (w : World) (h1 : s.size % 32 = 0) (h2 : s.size ≤ 640) :
    Calls Tryz.prog 118 #[.string s] w fun e w' => ∃ v, e = .returned (.tuple #[v, .nilIface]) ∧ OwnS w' w.heap.size v (chk s) ∧ Below w.heap.size w w' := by
  obtain ⟨i0, hi0, hz0, hz1, hz2⟩ := info_parts info9
  have h2' : ¬ (640 : Int) < (s.size : Int) := by omega
  have h1t : (s.size : Int) % 32 = 0 := by omega
  have h1n : ((s.size : Int) % 32 != 0) = false := by rw [h1t]; rfl
  clear h1t
  obtain ⟨N, HN⟩ : ∃ N, Hid (s.size = 32 * N) := ⟨s.size / 32, by show _ = _; omega⟩
  have HCH : Hid (chk s = hsTo s N) := by show _ = _; unfold chk; congr 1; have := HN.out; omega
  have hN20 : N ≤ 20 := by have := HN.out; omega
  clear h1
  go_enter Tryz.func118, Tryz.ntmps118
  go_wp2_with fail
  go_loopw [0, 4] (fun p b wr => ∃ (k : Nat) (t : ByteArray), k ≤ N ∧ p = .string t ∧ Hid (t = s.extract (32 * k) s.size) ∧ Hid (OwnS wr w.heap.size b (hsTo s k) ∧ Below w.heap.size w wr)) (fun p _ _ => strSz p)
  case atStart => exact ⟨0, s, by omega, rfl, (by show _ = _; simp), ⟨OwnS.nil _ _, Below.refl _ _⟩⟩
  case round =>
    obtain ⟨k, t, hk, rfl, HT, HZ⟩ := hrel
    obtain ⟨v0, rfl⟩ : ∃ v0, v0 = u4 := ⟨_, rfl⟩
    have HTS : Hid (t.size = s.size - 32 * k) := by show _ = _; rw [HT.out]; exact tail_size s k (by have := HN.out; omega)
    by_cases hlt : k < N
    · have h32 : (32 : Int) ≤ (t.size : Int) := by have := HTS.out; have := HN.out; omega
      have q3 : (t.toList == []) = false := list_some (by omega)
      have q4 : (t.toList != []) = true := by rw [bne, q3]; rfl
      have HE1 : Hid (t.extract 0 32 = hsh s k) := by
        show _ = _
        rw [HT.out, ext_two]
        unfold hsh
        congr 1
        have := HN.out
        omega
      have HE2 : Hid (t.extract 32 t.size = s.extract (32 * (k + 1)) s.size) := by
        show _ = _
        rw [HTS.out, HT.out, ext_two]
        congr 1
        have := HN.out
        omega
      have HSZ : Hid ((t.extract 32 t.size).size < t.size) := by show _ < _; rw [ByteArray.size_extract]; omega
      have HLN : Hid ((hsTo s k).length ≤ 1000000) := by show _ ≤ _; rw [hsTo_len]; omega
      have HSU : Hid (hsTo s (k + 1) = hsTo s k ++ [t.extract 0 32]) := by show _ = _; rw [hsTo_succ, HE1.out]
      clear HE1
      go_wp2_with (at_builtin; go_must (refine list_texts (by rfl) _ _ 49 (by rfl) i0 Tryz.underlying49 hi0 hz0 hz1 hz2 w.heap.size w wr _ _ [t.extract 0 32] _ 1 rfl rfl (by decide) (by rfl) HZ.out.1 HZ.out.2 HZ.out.2.size (by rfl) HLN.out ?_; intro v5 w5 o5 b5 _ _))
      exact ⟨⟨k + 1, _, by omega, rfl, HE2, by rw [HSU.out]; exact ⟨o5, b5⟩⟩, HSZ.out⟩
    · obtain rfl : k = N := by omega
      have q3 : (t.toList == []) = true := list_none (by have := HTS.out; have := HN.out; omega)
      have q4 : (t.toList != []) = false := by rw [bne, q3]; rfl
      go_wp2_with fail
      go_ret2
      rw [HCH.out]
      exact ⟨_, rfl, HZ.out⟩
/-- Whether a text is at most twenty whole hashes. -/
def okT (s : ByteArray) : Bool := decide (s.size % 32 = 0 ∧ s.size ≤ 640)
set_option maxRecDepth 100000 in
set_option maxHeartbeats 1600000 in
theorem l10Split_bad (s : ByteArray) (w : World) (hs : s.size ≤ 1048576) (h : ¬ s.size % 32 = 0) :
    Calls Tryz.prog 47 #[.string s] w fun e w' => ∃ v, e = .returned (.tuple #[v, .bool false]) ∧ OwnS w' w.heap.size v [] ∧ Below w.heap.size w w' := by
  have h1t : ¬ (s.size : Int) % 32 = 0 := by omega
  have h1n : ((s.size : Int) % 32 != 0) = true := by simpa using h1t
  have HB0 : Hid (OwnS (w.alloc (.cells #[] 9)) w.heap.size (.slice (some ⟨w.heap.size, 0, none⟩) 0 0) [] ∧ Below w.heap.size w (w.alloc (.cells #[] 9))) := ⟨OwnS.made w _ (Nat.le_refl _), bel_new _ _⟩
  clear h
  go_enter Tryz.func47, Tryz.ntmps47
  go_wp2_with fail
  go_ret2
  exact ⟨_, rfl, HB0.out⟩
set_option maxRecDepth 100000 in
set_option maxHeartbeats 1600000 in
theorem l10Split_ok (s : ByteArray) (w : World) (hs : s.size ≤ 1048576) (h1 : s.size % 32 = 0) :
    Calls Tryz.prog 47 #[.string s] w fun e w' => ∃ v, e = .returned (.tuple #[v, .bool true]) ∧ OwnS w' w.heap.size v (chk s) ∧ Below w.heap.size w w' := by
  obtain ⟨i0, hi0, hz0, hz1, hz2⟩ := info_parts info9
  have h1t : (s.size : Int) % 32 = 0 := by omega
  have h1n : ((s.size : Int) % 32 != 0) = false := by rw [h1t]; rfl
  clear h1t
  obtain ⟨N, HN⟩ : ∃ N, Hid (s.size = 32 * N) := ⟨s.size / 32, by show _ = _; omega⟩
  have HCH : Hid (chk s = hsTo s N) := by show _ = _; unfold chk; congr 1; have := HN.out; omega
  have hNs : N ≤ 32768 := by have := HN.out; omega
  have HB0 : Hid (OwnS (w.alloc (.cells #[] 9)) w.heap.size (.slice (some ⟨w.heap.size, 0, none⟩) 0 0) [] ∧ Below w.heap.size w (w.alloc (.cells #[] 9))) := ⟨OwnS.made w _ (Nat.le_refl _), bel_new _ _⟩
  clear h1
  go_enter Tryz.func47, Tryz.ntmps47
  go_wp2_with fail
  go_loopw [4, 5] (fun b i wr => ∃ (k m : Nat), k ≤ N ∧ i = .int .i64 m ∧ m ≤ 1048576 ∧ Hid (m = 32 * k) ∧ Hid (OwnS wr w.heap.size b (hsTo s k) ∧ Below w.heap.size w wr)) (fun _ i _ => s.size - (intOf i).toNat)
  case atStart => exact ⟨0, 0, by omega, rfl, by omega, rfl, HB0⟩
  case round =>
    obtain ⟨k, m, hk, rfl, hmb, HM, HZ⟩ := hrel
    obtain ⟨v0, rfl⟩ : ∃ v0, v0 = u4 := ⟨_, rfl⟩
    by_cases hlt : k < N
    · have hm1 : (m : Int) < (s.size : Int) := by have := HM.out; have := HN.out; omega
      have hm2 : (m : Int) + 32 ≤ (s.size : Int) := by have := HM.out; have := HN.out; omega
      have hm3 : m < s.size := by omega
      have HLN : Hid ((hsTo s k).length ≤ 1000000) := by show _ ≤ _; rw [hsTo_len]; omega
      have HSU : Hid (hsTo s (k + 1) = hsTo s k ++ [s.extract m (m + 32)]) := by show _ = _; rw [hsTo_succ, HM.out]; rfl
      have HM2 : Hid (m + 32 = 32 * (k + 1)) := by show _ = _; have := HM.out; omega
      have hm4 : ((m : Int) + 32).toNat = m + 32 := by omega
      have hm5 : m + 32 ≤ 1048576 := by omega
      go_wp2_with (at_builtin; go_must (refine list_texts (by rfl) _ _ 49 (by rfl) i0 Tryz.underlying49 hi0 hz0 hz1 hz2 w.heap.size w wr _ _ [s.extract m (m + 32)] _ 1 rfl rfl (by decide) (by rfl) HZ.out.1 HZ.out.2 HZ.out.2.size (by rfl) HLN.out ?_; intro v5 w5 o5 b5 _ _))
      exact ⟨⟨k + 1, m + 32, by omega, by go_num, hm5, HM2, by rw [HSU.out]; exact ⟨o5, b5⟩⟩, by simp [intOf]; omega⟩
    · obtain rfl : k = N := by omega
      have hm1 : ¬ (m : Int) < (s.size : Int) := by have := HM.out; have := HN.out; omega
      go_wp2_with fail
      go_ret2
      rw [HCH.out]
      exact ⟨_, rfl, HZ.out⟩
set_option maxRecDepth 100000 in
set_option maxHeartbeats 1600000 in
theorem itoa_small (k : Nat) (hk : k < 64) (w : World) : Calls Tryz.prog 88 #[.int .i64 k] w fun e w' => ∃ s, e = .returned (.string s) ∧ s.size ≤ 2 ∧ w = w' := by
  have hk1 : (k : Int) < 100 := by omega
  have hk0 : (0 : Int) ≤ (k : Int) := by omega
  have HS : Hid (Calls Tryz.prog 162 #[.int .i64 k] w fun e w' => ∃ s, e = .returned (.string s) ∧ s.size ≤ 2 ∧ w = w') := by
    show Calls _ _ _ _ _
    by_cases h10 : (k : Int) < 10
    · have q1 : (k : Int) + 1 ≤ 36 := by omega
      go_enter Tryz.func162, Tryz.ntmps162
      go_wp2_with fail
      go_ret
      exact ⟨_, rfl, by rw [ByteArray.size_extract]; omega, rfl⟩
    · have q1 : (k : Int) * 2 + 2 ≤ 200 := by omega
      go_enter Tryz.func162, Tryz.ntmps162
      go_wp2_with fail
      go_ret
      exact ⟨_, rfl, by rw [ByteArray.size_extract]; omega, rfl⟩
  have HF : Hid (Calls Tryz.prog 148 #[.int .i64 k, .int .i64 10] w fun e w' => ∃ s, e = .returned (.string s) ∧ s.size ≤ 2 ∧ w = w') := by
    show Calls _ _ _ _ _
    go_enter Tryz.func148, Tryz.ntmps148
    go_wp2_with fail
    refine HS.out.mono ?_
    rintro e w1 ⟨s, rfl, hs, rfl⟩
    go_wp2_with fail
    go_ret
    exact ⟨_, rfl, hs, rfl⟩
  have HI : Hid (Calls Tryz.prog 120 #[.int .i64 k] w fun e w' => ∃ s, e = .returned (.string s) ∧ s.size ≤ 2 ∧ w = w') := by
    show Calls _ _ _ _ _
    go_enter Tryz.func120, Tryz.ntmps120
    go_wp2_with fail
    refine HF.out.mono ?_
    rintro e w1 ⟨s, rfl, hs, rfl⟩
    go_wp2_with fail
    go_ret
    exact ⟨_, rfl, hs, rfl⟩
  go_enter Tryz.func88, Tryz.ntmps88
  go_wp2_with fail
  refine HI.out.mono ?_
  rintro e w1 ⟨s, rfl, hs, rfl⟩
  go_wp2_with fail
  go_ret
  exact ⟨_, rfl, hs, rfl⟩
def catTo (ts : List ByteArray) (k : Nat) : List Int := cat (ts.take k)
theorem catTo_succ {ts : List ByteArray} {k : Nat} (h : k < ts.length) : catTo ts (k + 1) = catTo ts k ++ bys (tnth ts k) := by
  unfold catTo
  rw [List.take_add_one, tnth_at h, Option.toList_some, cat_append]
  unfold cat
  simp
theorem catTo_all (ts : List ByteArray) : catTo ts ts.length = cat ts := by unfold catTo; rw [List.take_length]
theorem catTo_le {ts : List ByteArray} (k : Nat) : (catTo ts k).length ≤ (cat ts).length := by
  have h : cat ts = catTo ts k ++ cat (ts.drop k) := by
    unfold catTo
    rw [← cat_append, List.take_append_drop]
  rw [h, List.length_append]
  omega
set_option maxRecDepth 100000 in
set_option maxHeartbeats 800000 in
theorem l09Join_any (v : Value) (ts : List ByteArray) (w : World) (h : RowT w v ts) (hl : ts.length ≤ 64) (hs : (cat ts).length ≤ 2048) :
    Calls Tryz.prog 50 #[v] w fun e w' => ∃ v', e = .returned v' ∧ OwnB 5 w' w.heap.size v' (cat ts) ∧ Below w.heap.size w w' := by
  obtain ⟨i0, hi0, hz0, hz1, hz2⟩ := info_parts info5
  obtain ⟨a, cap, rfl, h⟩ := h
  have HS : Hid (∀ _ : Unit, (cat ts).length ≤ 2048) := fun _ => hs
  have O0 : Hid (OwnB 5 (w.alloc (.cells #[] 5)) w.heap.size (.slice (some ⟨w.heap.size, 0, none⟩) 0 0) []) := own_made _ _ _ _ _ (Nat.le_refl _) (by simp [maxLen]) rfl
  have B0 : Below w.heap.size w (w.alloc (.cells #[] 5)) := bel_new _ _
  clear hs
  go_enter Tryz.func50, Tryz.ntmps50
  go_wp2_with fail
  go_loopw [3, 4] (fun l i wr => ∃ k : Nat, k ≤ ts.length ∧ i = .int .i64 k ∧ OwnB 5 wr w.heap.size l (catTo ts k) ∧ Below w.heap.size w wr) (fun _ i _ => ts.length - (intOf i).toNat)
  case atStart => exact ⟨0, by omega, rfl, by have := O0.out; simpa [catTo, cat] using this, B0⟩
  case round =>
    clear O0 B0
    obtain ⟨k, hk, rfl, ho, hb⟩ := hrel
    by_cases hlt : k < ts.length
    · rcases h with h | ⟨b, off, rfl, hc, hbw, hcell⟩
      · exact absurd hlt (by rw [h]; simp)
      have c1 : wr.cell? ⟨b, off + k, none⟩ = some (.string (tnth ts k)) := (hb.cell (p := ⟨b, off + k, none⟩) hbw).trans (hcell k hlt)
      have hp1 : (k : Int) < (ts.length : Int) := by omega
      have HE : Hid (catTo ts (k + 1) = catTo ts k ++ bys (tnth ts k)) := catTo_succ hlt
      have HLN : Hid ((catTo ts k).length + (tnth ts k).size ≤ 100000) := by
        have h1 := catTo_le (ts := ts) (k + 1)
        rw [HE.out, List.length_append, bys_length] at h1
        have := HS.out ()
        show _ ≤ _
        omega
      have HO : Hid (OwnB 5 wr w.heap.size u3 (catTo ts k)) := ho
      have hB : w.heap.size ≤ wr.heap.size := hb.size
      clear hcell ho
      generalize tnth ts k = t at c1 HE HLN
      go_wp2_with (at_builtin; go_must (refine list_str (by rfl) _ _ 86 9 (by rfl) Tryz.underlying86 Tryz.underlying9 hi0 hz0 hz1 hz2 w.heap.size wr _ t (catTo ts k) (by rfl) (by rfl) HO.out hB (by have := HLN.out; omega) ?_; intro v5 w5 o5 k5))
      have b5 := k5.below HO.out hB
      exact ⟨⟨k + 1, by omega, by go_num, by rw [HE.out]; exact o5, hb.trans b5⟩, by simp [intOf]; omega⟩
    · obtain rfl : k = ts.length := by omega
      have HO : Hid (OwnB 5 wr w.heap.size u3 (cat ts)) := by rw [catTo_all] at ho; exact ho
      clear ho
      go_wp2_with fail
      go_ret
      exact ⟨_, rfl, HO.out, hb⟩
end Go.Proofs.YtnebohdlndiejaaGreatDoor.Xp
