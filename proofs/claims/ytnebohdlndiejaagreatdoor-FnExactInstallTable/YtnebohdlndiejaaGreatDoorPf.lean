/- Right pieces: impl.piecesFault, the specification's l09OK. -/
import Derived.Test.YtnebohdlndiejaaGreatDoorTz
namespace Go.Proofs.YtnebohdlndiejaaGreatDoor.Pf
open Go.RowKit Go.Proofs.YtnebohdlndiejaaGreatDoor.Sl Go.Proofs.YtnebohdlndiejaaGreatDoor.By Go.Proofs.YtnebohdlndiejaaGreatDoor.Ap Go.Proofs.YtnebohdlndiejaaGreatDoor.Tx

def inP (n a b : Int) : Bool := decide (a ≤ n) && decide (n ≤ b)
theorem inP_yes {n a b : Int} (h1 : a ≤ n) (h2 : n ≤ b) : inP n a b = true := by unfold inP; rw [decide_eq_true h1, decide_eq_true h2]; rfl
theorem inP_no {n a b : Int} (h : ¬ (a ≤ n ∧ n ≤ b)) : inP n a b = false := by
  unfold inP
  by_cases h1 : a ≤ n
  · rw [decide_eq_false (show ¬ n ≤ b from fun h2 => h ⟨h1, h2⟩), Bool.and_false]
  · rw [decide_eq_false h1, Bool.false_and]
theorem retB {a b : Bool} (h : a = b) : Ending.returned (.bool a) = .returned (.bool b) := by rw [h]
theorem retI {a b : Int} (h : a = b) : Ending.returned (.int .i64 a) = .returned (.int .i64 b) := by rw [h]
theorem within_any (n a b : Int) (w : World) : Calls Tryz.prog 66 #[.int .i64 n, .int .i64 a, .int .i64 b] w fun e w' => e = .returned (.bool (inP n a b)) ∧ w = w' := by
  by_cases h1 : a ≤ n
  · by_cases h2 : n ≤ b
    · have HE : Hid (inP n a b = true) := inP_yes h1 h2
      go_enter Tryz.func66, Tryz.ntmps66
      go_wp2
      go_ret
      exact ⟨retB HE.out.symm, rfl⟩
    · have HE : Hid (inP n a b = false) := inP_no fun h => h2 h.2
      go_enter Tryz.func66, Tryz.ntmps66
      go_wp2
      go_ret
      exact ⟨retB HE.out.symm, rfl⟩
  · have HE : Hid (inP n a b = false) := inP_no fun h => h1 h.1
    go_enter Tryz.func66, Tryz.ntmps66
    go_wp2
    go_ret
    exact ⟨retB HE.out.symm, rfl⟩
theorem l01In_any (n a b : Int) (w : World) : Calls Tryz.prog 29 #[.int .i64 n, .int .i64 a, .int .i64 b] w fun e w' => e = .returned (.bool (inP n a b)) ∧ w = w' := by
  by_cases h1 : a ≤ n
  · by_cases h2 : n ≤ b
    · have HE : Hid (inP n a b = true) := inP_yes h1 h2
      go_enter Tryz.func29, Tryz.ntmps29
      go_wp2
      go_ret
      exact ⟨retB HE.out.symm, rfl⟩
    · have HE : Hid (inP n a b = false) := inP_no fun h => h2 h.2
      go_enter Tryz.func29, Tryz.ntmps29
      go_wp2
      go_ret
      exact ⟨retB HE.out.symm, rfl⟩
  · have HE : Hid (inP n a b = false) := inP_no fun h => h1 h.1
    go_enter Tryz.func29, Tryz.ntmps29
    go_wp2
    go_ret
    exact ⟨retB HE.out.symm, rfl⟩

/-- A piece at its place: whole, or the last one and not empty. -/
def OneP (ts : List ByteArray) (i : Nat) : Prop := 1 ≤ (tnth ts i).size ∧ (tnth ts i).size ≤ 32 ∧ (i + 1 < ts.length → (tnth ts i).size = 32)
def PcP (ts : List ByteArray) : Prop := ts.length ≤ 64 ∧ ∀ i, i < ts.length → OneP ts i
noncomputable def pcB (ts : List ByteArray) : Bool := @decide (PcP ts) (Classical.propDecidable _)
theorem pcB_yes {ts : List ByteArray} (h : PcP ts) : pcB ts = true := by unfold pcB; exact @decide_eq_true _ (Classical.propDecidable _) h
theorem pcB_no {ts : List ByteArray} (h : ¬ PcP ts) : pcB ts = false := by unfold pcB; exact @decide_eq_false _ (Classical.propDecidable _) h
theorem pcB_get {ts : List ByteArray} (h : pcB ts = true) : PcP ts := by unfold pcB at h; exact @of_decide_eq_true _ (Classical.propDecidable _) h
noncomputable def pcC (ts : List ByteArray) : Int := if 4096 < ts.length then 2 else if pcB ts = true then 0 else 1
theorem pcC_ok {ts : List ByteArray} (h : PcP ts) : pcC ts = 0 := by
  unfold pcC
  rw [if_neg (by have := h.1; omega), if_pos (pcB_yes h)]
theorem pcC_get {ts : List ByteArray} (h : pcC ts = 0) : PcP ts := by
  unfold pcC at h
  split at h
  · cases h
  · split at h
    · rename_i h2; exact pcB_get h2
    · cases h
theorem pcC_bad {ts : List ByteArray} (h0 : ¬ 4096 < ts.length) (h : ¬ PcP ts) : pcC ts = 1 := by
  unfold pcC
  rw [if_neg h0, if_neg (by rw [pcB_no h]; decide)]
theorem PcP.small {ts : List ByteArray} (h : PcP ts) : ∀ t ∈ ts, t.size ≤ 32 := by
  intro t ht
  obtain ⟨i, hi, rfl⟩ := List.getElem_of_mem ht
  have := (h.2 i hi).2.1
  unfold tnth at this
  rw [List.getD_eq_getElem?_getD, List.getElem?_eq_getElem hi] at this
  exact this

set_option maxRecDepth 100000 in
set_option maxHeartbeats 800000 in
theorem piecesFault_any (v : Value) (ts : List ByteArray) (w : World) (h : RowT w v ts) (hl : ts.length ≤ maxLen) :
    Calls Tryz.prog 86 #[v] w fun e w' => e = .returned (.int .i64 (pcC ts)) ∧ w = w' := by
  obtain ⟨a, cap, rfl, h⟩ := h
  unfold maxLen at hl
  by_cases h1 : 4096 < ts.length
  · have h1' : (4096 : Int) < (ts.length : Int) := by omega
    have HE : Hid (pcC ts = 2) := by show _ = _; unfold pcC; rw [if_pos h1]
    clear h
    go_enter Tryz.func86, Tryz.ntmps86
    go_wp2
    go_ret
    exact ⟨retI HE.out.symm, rfl⟩
  have h1' : ¬ (4096 : Int) < (ts.length : Int) := by omega
  by_cases h2 : 64 < ts.length
  · have h2' : (64 : Int) < (ts.length : Int) := by omega
    have HE : Hid (pcC ts = 1) := pcC_bad h1 fun h => by have := h.1; omega
    clear h
    go_enter Tryz.func86, Tryz.ntmps86
    go_wp2
    go_ret
    exact ⟨retI HE.out.symm, rfl⟩
  have h2' : ¬ (64 : Int) < (ts.length : Int) := by omega
  have HB : Hid (¬ PcP ts → pcC ts = 1) := pcC_bad h1
  have HG : Hid ((∀ i, i < ts.length → OneP ts i) → pcC ts = 0) := fun hh => pcC_ok ⟨by omega, hh⟩
  clear h1 h2
  go_enter Tryz.func86, Tryz.ntmps86
  go_wp2_with fail
  go_loop [14] (fun i => ∃ k : Nat, k ≤ ts.length ∧ i = .int .i64 k ∧ Hid (∀ j, j < k → OneP ts j)) (fun i => ts.length - (intOf i).toNat)
  case atStart => exact ⟨0, by omega, rfl, fun j hj => absurd hj (by omega)⟩
  case round =>
    obtain ⟨k, hk, rfl, HI⟩ := hrel
    by_cases hlt : k < ts.length
    · rcases h with h | ⟨b, off, rfl, hc, hb, hcell⟩
      · exact absurd hlt (by rw [h]; simp)
      have c1 := hcell k hlt
      have hp1 : (k : Int) < (ts.length : Int) := by omega
      clear hcell
      by_cases hgood : OneP ts k
      · have HJ : Hid (∀ j, j < k + 1 → OneP ts j) := fun j hj => by
          by_cases e : j = k
          · subst e; exact hgood
          · exact HI.out j (by omega)
        obtain ⟨g1, g2, g3⟩ := hgood
        by_cases hlast : k + 1 = ts.length
        · have hq : ((k : Int) == (ts.length : Int) - 1) = true := by simp; omega
          have gi : inP ((tnth ts k).size : Int) 1 32 = true := inP_yes (by omega) (by omega)
          clear hlast g1 g2 g3
          generalize tnth ts k = t at c1 gi
          go_wp2_with (go_at_call 66; refine (within_any _ _ _ _).mono ?_; rintro e w1 ⟨rfl, rfl⟩; rw [gi])
          go_round
          case rel => exact ⟨k + 1, by omega, by go_num, HJ⟩
          case measure => simp [intOf]; omega
        · have hq : ((k : Int) == (ts.length : Int) - 1) = false := by simp; omega
          have gi : inP ((tnth ts k).size : Int) 32 32 = true := inP_yes (by have := g3 (by omega); omega) (by omega)
          clear hlast g1 g2 g3
          generalize tnth ts k = t at c1 gi
          go_wp2_with (go_at_call 66; refine (within_any _ _ _ _).mono ?_; rintro e w1 ⟨rfl, rfl⟩; rw [gi])
          go_round
          case rel => exact ⟨k + 1, by omega, by go_num, HJ⟩
          case measure => simp [intOf]; omega
      · have HE : Hid (pcC ts = 1) := HB.out fun hh => hgood (hh.2 k hlt)
        by_cases hlast : k + 1 = ts.length
        · have hq : ((k : Int) == (ts.length : Int) - 1) = true := by simp; omega
          have gi : inP ((tnth ts k).size : Int) 1 32 = false := inP_no fun ⟨a1, a2⟩ => hgood ⟨by omega, by omega, fun hh => by omega⟩
          clear hlast hgood
          generalize tnth ts k = t at c1 gi
          go_wp2_with (go_at_call 66; refine (within_any _ _ _ _).mono ?_; rintro e w1 ⟨rfl, rfl⟩; rw [gi])
          go_ret
          exact ⟨retI HE.out.symm, rfl⟩
        · have hq : ((k : Int) == (ts.length : Int) - 1) = false := by simp; omega
          have gi : inP ((tnth ts k).size : Int) 32 32 = false := inP_no fun ⟨a1, a2⟩ => hgood ⟨by omega, by omega, fun _ => by omega⟩
          clear hlast hgood
          generalize tnth ts k = t at c1 gi
          go_wp2_with (go_at_call 66; refine (within_any _ _ _ _).mono ?_; rintro e w1 ⟨rfl, rfl⟩; rw [gi])
          go_ret
          exact ⟨retI HE.out.symm, rfl⟩
    · obtain rfl : k = ts.length := by omega
      have HE : Hid (pcC ts = 0) := HG.out HI.out
      go_wp2_with fail
      go_ret
      exact ⟨retI HE.out.symm, rfl⟩

set_option maxRecDepth 100000 in
set_option maxHeartbeats 800000 in
theorem l09OK_any (v : Value) (ts : List ByteArray) (w : World) (h : RowT w v ts) (hl : ts.length ≤ maxLen) :
    Calls Tryz.prog 46 #[v] w fun e w' => e = .returned (.bool (pcB ts)) ∧ w = w' := by
  obtain ⟨a, cap, rfl, h⟩ := h
  unfold maxLen at hl
  by_cases h2 : 64 < ts.length
  · have h2' : (64 : Int) < (ts.length : Int) := by omega
    have HE : Hid (pcB ts = false) := pcB_no fun h => by have := h.1; omega
    clear h
    go_enter Tryz.func46, Tryz.ntmps46
    go_wp2
    go_ret
    exact ⟨retB HE.out.symm, rfl⟩
  have h2' : ¬ (64 : Int) < (ts.length : Int) := by omega
  have HG : Hid ((∀ i, i < ts.length → OneP ts i) → pcB ts = true) := fun hh => pcB_yes ⟨by omega, hh⟩
  clear h2
  go_enter Tryz.func46, Tryz.ntmps46
  go_wp2_with fail
  go_loop [3] (fun i => ∃ k : Nat, k ≤ ts.length ∧ i = .int .i64 k ∧ Hid (∀ j, j < k → OneP ts j)) (fun i => ts.length - (intOf i).toNat)
  case atStart => exact ⟨0, by omega, rfl, fun j hj => absurd hj (by omega)⟩
  case round =>
    obtain ⟨k, hk, rfl, HI⟩ := hrel
    by_cases hlt : k < ts.length
    · rcases h with h | ⟨b, off, rfl, hc, hb, hcell⟩
      · exact absurd hlt (by rw [h]; simp)
      have c1 := hcell k hlt
      have hp1 : (k : Int) < (ts.length : Int) := by omega
      clear hcell
      by_cases hin : 1 ≤ (tnth ts k).size ∧ (tnth ts k).size ≤ 32
      · have gi : inP ((tnth ts k).size : Int) 1 32 = true := inP_yes (by omega) (by omega)
        by_cases hlast : k + 1 = ts.length
        · have HJ : Hid (∀ j, j < k + 1 → OneP ts j) := fun j hj => by
            by_cases e : j = k
            · subst e; exact ⟨hin.1, hin.2, fun hh => by omega⟩
            · exact HI.out j (by omega)
          have hq : ¬ (k : Int) < (ts.length : Int) - 1 := by omega
          clear hlast hin
          generalize tnth ts k = t at c1 gi
          go_wp2_with (go_at_call 29; refine (l01In_any _ _ _ _).mono ?_; rintro e w1 ⟨rfl, rfl⟩; rw [gi])
          go_round
          case rel => exact ⟨k + 1, by omega, by go_num, HJ⟩
          case measure => simp [intOf]; omega
        · have hq : (k : Int) < (ts.length : Int) - 1 := by omega
          by_cases h32 : (tnth ts k).size = 32
          · have HJ : Hid (∀ j, j < k + 1 → OneP ts j) := fun j hj => by
              by_cases e : j = k
              · subst e; exact ⟨hin.1, hin.2, fun _ => h32⟩
              · exact HI.out j (by omega)
            have h32' : (((tnth ts k).size : Int) != 32) = false := by simp; omega
            clear hlast hin h32
            generalize tnth ts k = t at c1 gi h32'
            go_wp2_with (go_at_call 29; refine (l01In_any _ _ _ _).mono ?_; rintro e w1 ⟨rfl, rfl⟩; rw [gi])
            go_round
            case rel => exact ⟨k + 1, by omega, by go_num, HJ⟩
            case measure => simp [intOf]; omega
          · have HE : Hid (pcB ts = false) := pcB_no fun hh => h32 ((hh.2 k hlt).2.2 (by omega))
            have h32' : (((tnth ts k).size : Int) != 32) = true := by simp; omega
            clear hlast hin h32
            generalize tnth ts k = t at c1 gi h32'
            go_wp2_with (go_at_call 29; refine (l01In_any _ _ _ _).mono ?_; rintro e w1 ⟨rfl, rfl⟩; rw [gi])
            go_ret
            exact ⟨retB HE.out.symm, rfl⟩
      · have gi : inP ((tnth ts k).size : Int) 1 32 = false := inP_no fun ⟨a1, a2⟩ => hin ⟨by omega, by omega⟩
        have HE : Hid (pcB ts = false) := pcB_no fun hh => hin ⟨(hh.2 k hlt).1, (hh.2 k hlt).2.1⟩
        clear hin
        generalize tnth ts k = t at c1 gi
        go_wp2_with (go_at_call 29; refine (l01In_any _ _ _ _).mono ?_; rintro e w1 ⟨rfl, rfl⟩; rw [gi])
        go_ret
        exact ⟨retB HE.out.symm, rfl⟩
    · obtain rfl : k = ts.length := by omega
      have HE : Hid (pcB ts = true) := HG.out HI.out
      go_wp2_with fail
      go_ret
      exact ⟨retB HE.out.symm, rfl⟩
end Go.Proofs.YtnebohdlndiejaaGreatDoor.Pf
