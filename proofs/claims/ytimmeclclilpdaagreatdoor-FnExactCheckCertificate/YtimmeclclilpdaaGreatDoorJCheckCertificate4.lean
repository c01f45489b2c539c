/- Texts put together: Cs, Cs2, Cv, Cs3, Cs4, Cs5. -/
import Derived.Test.YtimmeclclilpdaaGreatDoorSb
import Derived.Deep.RegionLaw
import Derived.Deep.RegionWith
/- Signatures that are checked: lists of hashes, the way up. -/
namespace Go.Proofs.YtimmeclclilpdaaGreatDoor.Cs
open Go.RowKit Go.Proofs.YtimmeclclilpdaaGreatDoor.Sl Go.Proofs.YtimmeclclilpdaaGreatDoor.By Go.Proofs.YtimmeclclilpdaaGreatDoor.Ap Go.Proofs.YtimmeclclilpdaaGreatDoor.Tx Go.Proofs.YtimmeclclilpdaaGreatDoor.Sh Go.Proofs.YtimmeclclilpdaaGreatDoor.Ho Go.Proofs.YtimmeclclilpdaaGreatDoor.Se Go.Proofs.YtimmeclclilpdaaGreatDoor.Ka Go.Proofs.YtimmeclclilpdaaGreatDoor.Sx Go.Proofs.YtimmeclclilpdaaGreatDoor.Hf Go.Proofs.YtimmeclclilpdaaGreatDoor.Sa Go.Proofs.YtimmeclclilpdaaGreatDoor.Kx Go.Proofs.YtimmeclclilpdaaGreatDoor.Mb Go.Proofs.YtimmeclclilpdaaGreatDoor.Sg

/-- Whether a list is of n hashes. -/
def hsB (ts : List ByteArray) (n : Nat) : Bool := decide (ts.length = n) && ts.all (fun t => decide (t.size = 32))
theorem hs_yes {ts : List ByteArray} {n : Nat} (hn : ts.length = n) (h : ∀ j, j < ts.length → (tnth ts j).size = 32) : hsB ts n = true := by
  unfold hsB
  rw [decide_eq_true hn, Bool.true_and, List.all_eq_true]
  intro t ht
  obtain ⟨i, hi, rfl⟩ := List.getElem_of_mem ht
  have := h i hi
  rw [decide_eq_true_eq]
  have e : tnth ts i = ts[i] := by unfold tnth; rw [List.getD_eq_getElem?_getD, List.getElem?_eq_getElem hi]; rfl
  rw [← e]; exact this
theorem hs_len {ts : List ByteArray} {n : Nat} (hn : ts.length ≠ n) : hsB ts n = false := by unfold hsB; rw [decide_eq_false hn]; rfl
theorem hs_bad {ts : List ByteArray} {n k : Nat} (hk : k < ts.length) (h : (tnth ts k).size ≠ 32) : hsB ts n = false := by
  unfold hsB
  have : ts.all (fun t => decide (t.size = 32)) = false := by
    rw [List.all_eq_false]
    exact ⟨tnth ts k, tnth_mem hk, by simpa using h⟩
  rw [this, Bool.and_false]
theorem hs_get {ts : List ByteArray} {n : Nat} (h : hsB ts n = true) : ts.length = n ∧ ∀ t ∈ ts, t.size = 32 := by
  unfold hsB at h
  rw [Bool.and_eq_true, decide_eq_true_eq, List.all_eq_true] at h
  exact ⟨h.1, fun t ht => of_decide_eq_true (h.2 t ht)⟩
/-- Whether all of a list are hashes. -/
def haB (ts : List ByteArray) : Bool := ts.all (fun t => decide (t.size = 32))
theorem hs_ha (ts : List ByteArray) (n : Nat) : hsB ts n = (decide (ts.length = n) && haB ts) := rfl
theorem ha_yes {ts : List ByteArray} (h : ∀ j, j < ts.length → (tnth ts j).size = 32) : haB ts = true := by
  have := hs_yes rfl h
  rw [hs_ha, decide_eq_true rfl, Bool.true_and] at this
  exact this
theorem ha_bad {ts : List ByteArray} {k : Nat} (hk : k < ts.length) (h : (tnth ts k).size ≠ 32) : haB ts = false := by
  have := hs_bad (n := ts.length) hk h
  rw [hs_ha, decide_eq_true rfl, Bool.true_and] at this
  exact this
theorem ha_get {ts : List ByteArray} (h : haB ts = true) : ∀ t ∈ ts, t.size = 32 := by
  have : hsB ts ts.length = true := by rw [hs_ha, decide_eq_true rfl, Bool.true_and]; exact h
  exact (hs_get this).2
set_option maxRecDepth 100000 in
set_option maxHeartbeats 400000 in
theorem allHashes_any (v : Value) (ts : List ByteArray) (w : World) (h : RowT w v ts) (hl : ts.length ≤ maxLen) (hz : ∀ t ∈ ts, t.size ≤ maxLen) :
    Calls Tryz.prog 121 #[v] w fun e w' => e = .returned (.bool (haB ts)) ∧ w = w' := by
  obtain ⟨a, cap, rfl, h⟩ := h
  unfold maxLen at hl
  have HM : Hid (∀ i, i < ts.length → (tnth ts i).size ≤ maxLen) := fun i hi => hz _ (tnth_mem hi)
  clear hz
  go_enter Tryz.func121, Tryz.ntmps121
  go_wp2_with fail
  go_loop [7] (fun i => ∃ k : Nat, k ≤ ts.length ∧ i = .int .i64 k ∧ Hid (∀ j, j < k → (tnth ts j).size = 32)) (fun i => ts.length - (intOf i).toNat)
  case atStart => exact ⟨0, by omega, rfl, fun j hj => absurd hj (by omega)⟩
  case round =>
    obtain ⟨k, hk, rfl, HI⟩ := hrel
    by_cases hlt : k < ts.length
    · rcases h with h | ⟨b, off, rfl, hc, hb, hcell⟩
      · exact absurd hlt (by rw [h]; simp)
      have c1 := hcell k hlt
      have hp1 : (k : Int) < (ts.length : Int) := by omega
      by_cases h32 : (tnth ts k).size = 32
      · have HJ : Hid (∀ j, j < k + 1 → (tnth ts j).size = 32) := fun j hj => by
          by_cases e : j = k
          · subst e; exact h32
          · exact HI.out j (by omega)
        have h32' : (((tnth ts k).size : Int) != 32) = false := by simp; omega
        clear hcell h32
        generalize tnth ts k = t at c1 h32'
        go_wp2_with fail
        go_round
        case rel => exact ⟨k + 1, by omega, by go_num, HJ⟩
        case measure => simp [intOf]; omega
      · have HE : Hid (haB ts = false) := ha_bad hlt h32
        have h32' : (((tnth ts k).size : Int) != 32) = true := by simp; omega
        clear hcell h32
        generalize tnth ts k = t at c1 h32'
        go_wp2_with fail
        go_ret
        exact ⟨Hf.ret_bool HE.out.symm, rfl⟩
    · obtain rfl : k = ts.length := by omega
      have HE : Hid (haB ts = true) := ha_yes HI.out
      go_wp2_with fail
      go_ret
      exact ⟨Hf.ret_bool HE.out.symm, rfl⟩
set_option maxRecDepth 100000 in
set_option maxHeartbeats 400000 in
theorem hashesOK_any (v : Value) (ts : List ByteArray) (n : Nat) (w : World) (h : RowT w v ts) (hl : ts.length ≤ maxLen) (hz : ∀ t ∈ ts, t.size ≤ maxLen) :
    Calls Tryz.prog 97 #[v, .int .i64 n] w fun e w' => e = .returned (.bool (hsB ts n)) ∧ w = w' := by
  have HA : Hid (Calls Tryz.prog 121 #[v] w fun e w' => e = .returned (.bool (haB ts)) ∧ w = w') := allHashes_any v ts w h hl hz
  have HE : Hid (hsB ts n = (decide (ts.length = n) && haB ts)) := rfl
  obtain ⟨a, cap, rfl, h⟩ := h
  generalize haB ts = hb at HA HE
  by_cases hn : ts.length = n
  · have hne : ((ts.length : Int) == (n : Int)) = true := by simp; omega
    rw [decide_eq_true hn, Bool.true_and] at HE
    clear hn h hz hl
    go_enter Tryz.func97, Tryz.ntmps97
    go_wp2_with (first | (go_at_call 121; refine HA.out.mono ?_; rintro e w3 ⟨rfl, rfl⟩) | fail)
    go_ret
    exact ⟨Hf.ret_bool HE.out.symm, rfl⟩
  · have hne : ((ts.length : Int) == (n : Int)) = false := by simp; omega
    rw [decide_eq_false hn, Bool.false_and] at HE
    clear hn h hz hl
    go_enter Tryz.func97, Tryz.ntmps97
    go_wp2_with fail
    go_ret
    exact ⟨Hf.ret_bool HE.out.symm, rfl⟩
set_option maxRecDepth 100000 in
set_option maxHeartbeats 400000 in
theorem l03Hashes_any (v : Value) (ts : List ByteArray) (n : Nat) (w : World) (h : RowT w v ts) (hl : ts.length ≤ maxLen) (_hz : ∀ t ∈ ts, t.size ≤ maxLen) :
    Calls Tryz.prog 78 #[v, .int .i64 n] w fun e w' => e = .returned (.bool (hsB ts n)) ∧ w = w' := by
  obtain ⟨a, cap, rfl, h⟩ := h
  unfold maxLen at hl
  by_cases hn : ts.length = n
  · subst hn
    have hne : ((ts.length : Int) != (ts.length : Int)) = false := by simp
    go_enter Tryz.func78, Tryz.ntmps78
    go_wp2_with fail
    go_loop [5] (fun i => ∃ k : Nat, k ≤ ts.length ∧ i = .int .i64 k ∧ Hid (∀ j, j < k → (tnth ts j).size = 32)) (fun i => ts.length - (intOf i).toNat)
    case atStart => exact ⟨0, by omega, rfl, fun j hj => absurd hj (by omega)⟩
    case round =>
      obtain ⟨k, hk, rfl, HI⟩ := hrel
      by_cases hlt : k < ts.length
      · rcases h with h | ⟨b, off, rfl, hc, hb, hcell⟩
        · exact absurd hlt (by rw [h]; simp)
        have c1 := hcell k hlt
        have hp1 : (k : Int) < (ts.length : Int) := by omega
        by_cases h32 : (tnth ts k).size = 32
        · have HJ : Hid (∀ j, j < k + 1 → (tnth ts j).size = 32) := fun j hj => by
            by_cases e : j = k
            · subst e; exact h32
            · exact HI.out j (by omega)
          have h32' : (((tnth ts k).size : Int) != 32) = false := by simp; omega
          clear hcell h32
          generalize tnth ts k = t at c1 h32'
          go_wp2_with fail
          go_round
          case rel => exact ⟨k + 1, by omega, by go_num, HJ⟩
          case measure => simp [intOf]; omega
        · have HE : Hid (hsB ts ts.length = false) := hs_bad hlt h32
          have h32' : (((tnth ts k).size : Int) != 32) = true := by simp; omega
          clear hcell h32
          generalize tnth ts k = t at c1 h32'
          go_wp2_with fail
          go_ret
          exact ⟨Hf.ret_bool HE.out.symm, rfl⟩
      · obtain rfl : k = ts.length := by omega
        have HE : Hid (hsB ts ts.length = true) := hs_yes rfl HI.out
        go_wp2_with fail
        go_ret
        exact ⟨Hf.ret_bool HE.out.symm, rfl⟩
  · have HE : Hid (hsB ts n = false) := hs_len hn
    have hne : ((ts.length : Int) != (n : Int)) = true := by simp; omega
    clear hn
    go_enter Tryz.func78, Tryz.ntmps78
    go_wp2_with fail
    go_ret
    exact ⟨Hf.ret_bool HE.out.symm, rfl⟩

/-- The way up from a hash, beside which a path's hashes stand. -/
def stepUp (h : ByteArray) (k : Nat) (p : ByteArray) : ByteArray := if k % 2 = 0 then node h p else node p h
def climb : ByteArray → Nat → List ByteArray → ByteArray
  | h, _, [] => h
  | h, k, p :: ps => climb (stepUp h k p) (k / 2) ps
theorem stepUp_size (h : ByteArray) (k : Nat) (p : ByteArray) (h1 : h.size = 32) (h2 : p.size = 32) : (stepUp h k p).size = 32 := by
  unfold stepUp
  split
  · exact node_size _ _ (by omega) (by omega)
  · exact node_size _ _ (by omega) (by omega)
theorem row_tail {w : World} {a : Option Addr} {cap : Nat} {p : ByteArray} {ps : List ByteArray} (h : RowT w (.slice a (ps.length + 1) cap) (p :: ps)) : RowT w (.slice (if cap = 1 then a else a.map (·.add 1)) ps.length (cap - 1)) ps ∧ (∃ b off, a = some ⟨b, off, none⟩ ∧ w.cell? ⟨b, off, none⟩ = some (.string p)) ∧ 1 ≤ cap := by
  obtain ⟨a', cap', e, h⟩ := h
  simp only [List.length_cons, Value.slice.injEq, true_and] at e
  obtain ⟨rfl, rfl⟩ := e
  rcases h with h | ⟨b, off, rfl, hc, hlt, h⟩
  · cases h
  · simp only [List.length_cons] at hc
    refine ⟨⟨_, _, rfl, ?_⟩, ⟨b, off, rfl, ?_⟩, by omega⟩
    · by_cases h0 : ps = []
      · exact .inl h0
      · have hpos : 0 < ps.length := List.length_pos_iff.2 h0
        rw [if_neg (by omega)]
        refine .inr ⟨b, off + 1, by simp [Ap.addr_add], by omega, hlt, fun i hi => ?_⟩
        have := h (i + 1) (by simp; omega)
        rw [Nat.add_assoc, Nat.add_comm 1 i]
        exact this
    · have := h 0 (by simp)
      rw [Nat.add_zero] at this
      exact this
set_option maxRecDepth 100000 in
set_option maxHeartbeats 800000 in
theorem rootAbove_any : ∀ (ps : List ByteArray) (h : ByteArray) (k : Nat) (v : Value) (w : World), RowT w v ps → (∀ p ∈ ps, p.size = 32) → h.size = 32 → k < 8 → KTab w → 0 < w.heap.size →
    Calls Tryz.prog 98 #[.string h, .int .i64 k, v] w fun e w' => e = .returned (.string (climb h k ps)) ∧ Below w.heap.size w w'
  | [], h, k, v, w, hr, _, _, _, _, _ => by
    obtain ⟨a, cap, rfl, _⟩ := hr
    have HE : Hid (climb h k [] = h) := rfl
    go_enter Tryz.func98, Tryz.ntmps98
    go_wp2_with fail
    go_ret
    exact ⟨Tx.ret_str HE.out.symm, Below.refl _ _⟩
  | p :: ps, h, k, v, w, hr, hz, h32, hk, hK, hp => by
    have HI : Hid (∀ (h : ByteArray) (k : Nat) (v : Value) (w : World), RowT w v ps → (∀ p ∈ ps, p.size = 32) → h.size = 32 → k < 8 → KTab w → 0 < w.heap.size → Calls Tryz.prog 98 #[.string h, .int .i64 k, v] w fun e w' => e = .returned (.string (climb h k ps)) ∧ Below w.heap.size w w') := rootAbove_any ps
    have HE : Hid (climb h k (p :: ps) = climb (stepUp h k p) (k / 2) ps) := rfl
    have GK : Hid (KTab w ∧ 0 < w.heap.size) := ⟨hK, hp⟩
    obtain ⟨a, cap, rfl, _⟩ := id hr
    simp only [List.length_cons] at hr ⊢
    obtain ⟨r2, ⟨b, off, rfl, c1⟩, hcap⟩ := row_tail hr
    have HR : Hid (RowT w (.slice (if cap = 1 then some ⟨b, off, none⟩ else some ⟨b, off + 1, none⟩) ps.length (cap - 1)) ps) := by
      have := r2
      simp only [Option.map_some, Ap.addr_add] at this
      exact this
    have hle : (1 : Int) ≤ (ps.length : Int) + 1 := by omega
    have hwr : IntKind.i64.wrap ((k : Int) / 2) = (k : Int) / 2 := by rw [IntKind.wrap_i64]; omega
    have HI2 : Hid (∀ (h : ByteArray) (v : Value) (w : World), RowT w v ps → (∀ p ∈ ps, p.size = 32) → h.size = 32 → KTab w → 0 < w.heap.size → Calls Tryz.prog 98 #[.string h, .int .i64 ((k : Int) / 2), v] w fun e w' => e = .returned (.string (climb h (k / 2) ps)) ∧ Below w.heap.size w w') := fun h v w h1 h2 h3 h4 h5 => by
      have := HI.out h (k / 2) v w h1 h2 h3 (by omega) h4 h5
      rwa [show ((k / 2 : Nat) : Int) = (k : Int) / 2 by omega] at this
    have HZ : Hid (p.size = 32 ∧ (∀ q ∈ ps, q.size = 32) ∧ h.size = 32) := ⟨hz p List.mem_cons_self, fun q hq => hz q (List.mem_cons_of_mem _ hq), h32⟩
    have hk8 : (k : Int) < 8 := by omega
    have hk0 : ¬ ((ps.length : Int) + 1 = 0) := by omega
    have hk1 : (((ps.length : Int) + 1) == 0) = false := by simp; omega
    have hps : (ps.length + 1 : Nat) ≤ cap := by
      obtain ⟨a', cap', e, h'⟩ := hr
      simp only [List.length_cons, Value.slice.injEq, true_and] at e
      obtain ⟨_, rfl⟩ := e
      rcases h' with h' | ⟨_, _, _, hc, _⟩
      · cases h'
      · simpa using hc
    have HS : Hid (stepUp h k p = if k % 2 = 0 then node h p else node p h) := rfl
    have HSZ : Hid ((stepUp h k p).size = 32) := stepUp_size h k p h32 (hz p List.mem_cons_self)
    clear hr hz h32 hK hp r2
    by_cases hc1 : cap = 1
    · subst hc1
      rw [if_pos rfl] at HR
      obtain rfl : ps = [] := List.length_eq_zero_iff.1 (by omega)
      change Hid (RowT w (.slice (some ⟨b, off, none⟩) 0 0) []) at HR
      by_cases hpar : k % 2 = 0
      · have hpar' : (k : Int) % 2 = 0 := by omega
        rw [if_pos hpar] at HS
        go_enter Tryz.func98, Tryz.ntmps98
        go_wp2_with (first | (go_at_call 122; go_in) | fail)
        have KD : Hid (KTab w.drew ∧ 0 < w.drew.heap.size) := ⟨GK.out.1.below (Below.refl w.heap.size w).drew GK.out.2, GK.out.2⟩
        go_region_law (first
          | (go_simp; go_at_call 123; refine (nodeOf_any h p _ (by have := HZ.out; omega) (by have := HZ.out; omega) KD.out.1 KD.out.2).mono ?_; rintro e w3 ⟨rfl, b3⟩; have g3 := (ordB rfl b3).1; clear b3; try go_simp)
          | (go_simp; go_at_call 98; refine (HI2.out _ _ _ (HR.out.below g3) HZ.out.2.1 (by rw [← HS.out]; exact HSZ.out) (GK.out.1.below g3 GK.out.2) (Nat.lt_of_lt_of_le GK.out.2 g3.size)).mono ?_; rintro e w4 ⟨rfl, b4⟩; have g4 := g3.trans (b4.mono g3.size); clear b4; try go_simp))
        all_goals
          go_wp2_with fail
          go_ret
          exact ⟨Tx.ret_str (by rw [HE.out, HS.out]), g4⟩
      · have hpar' : (k : Int) % 2 = 1 := by omega
        rw [if_neg hpar] at HS
        go_enter Tryz.func98, Tryz.ntmps98
        go_wp2_with (first | (go_at_call 122; go_in) | fail)
        have KD : Hid (KTab w.drew ∧ 0 < w.drew.heap.size) := ⟨GK.out.1.below (Below.refl w.heap.size w).drew GK.out.2, GK.out.2⟩
        go_region_law (first
          | (go_simp; go_at_call 123; refine (nodeOf_any p h _ (by have := HZ.out; omega) (by have := HZ.out; omega) KD.out.1 KD.out.2).mono ?_; rintro e w3 ⟨rfl, b3⟩; have g3 := (ordB rfl b3).1; clear b3; try go_simp)
          | (go_simp; go_at_call 98; refine (HI2.out _ _ _ (HR.out.below g3) HZ.out.2.1 (by rw [← HS.out]; exact HSZ.out) (GK.out.1.below g3 GK.out.2) (Nat.lt_of_lt_of_le GK.out.2 g3.size)).mono ?_; rintro e w4 ⟨rfl, b4⟩; have g4 := g3.trans (b4.mono g3.size); clear b4; try go_simp))
        all_goals
          go_wp2_with fail
          go_ret
          exact ⟨Tx.ret_str (by rw [HE.out, HS.out]), g4⟩
    · rw [if_neg hc1] at HR
      by_cases hpar : k % 2 = 0
      · have hpar' : (k : Int) % 2 = 0 := by omega
        rw [if_pos hpar] at HS
        go_enter Tryz.func98, Tryz.ntmps98
        go_wp2_with (first | (go_at_call 122; go_in) | fail)
        have KD : Hid (KTab w.drew ∧ 0 < w.drew.heap.size) := ⟨GK.out.1.below (Below.refl w.heap.size w).drew GK.out.2, GK.out.2⟩
        go_region_law (first
          | (go_simp; go_at_call 123; refine (nodeOf_any h p _ (by have := HZ.out; omega) (by have := HZ.out; omega) KD.out.1 KD.out.2).mono ?_; rintro e w3 ⟨rfl, b3⟩; have g3 := (ordB rfl b3).1; clear b3; try go_simp)
          | (go_simp; go_at_call 98; refine (HI2.out _ _ _ (HR.out.below g3) HZ.out.2.1 (by rw [← HS.out]; exact HSZ.out) (GK.out.1.below g3 GK.out.2) (Nat.lt_of_lt_of_le GK.out.2 g3.size)).mono ?_; rintro e w4 ⟨rfl, b4⟩; have g4 := g3.trans (b4.mono g3.size); clear b4; try go_simp))
        all_goals
          go_wp2_with fail
          go_ret
          exact ⟨Tx.ret_str (by rw [HE.out, HS.out]), g4⟩
      · have hpar' : (k : Int) % 2 = 1 := by omega
        rw [if_neg hpar] at HS
        go_enter Tryz.func98, Tryz.ntmps98
        go_wp2_with (first | (go_at_call 122; go_in) | fail)
        have KD : Hid (KTab w.drew ∧ 0 < w.drew.heap.size) := ⟨GK.out.1.below (Below.refl w.heap.size w).drew GK.out.2, GK.out.2⟩
        go_region_law (first
          | (go_simp; go_at_call 123; refine (nodeOf_any p h _ (by have := HZ.out; omega) (by have := HZ.out; omega) KD.out.1 KD.out.2).mono ?_; rintro e w3 ⟨rfl, b3⟩; have g3 := (ordB rfl b3).1; clear b3; try go_simp)
          | (go_simp; go_at_call 98; refine (HI2.out _ _ _ (HR.out.below g3) HZ.out.2.1 (by rw [← HS.out]; exact HSZ.out) (GK.out.1.below g3 GK.out.2) (Nat.lt_of_lt_of_le GK.out.2 g3.size)).mono ?_; rintro e w4 ⟨rfl, b4⟩; have g4 := g3.trans (b4.mono g3.size); clear b4; try go_simp))
        all_goals
          go_wp2_with fail
          go_ret
          exact ⟨Tx.ret_str (by rw [HE.out, HS.out]), g4⟩
end Go.Proofs.YtimmeclclilpdaaGreatDoor.Cs

/- impl.signedKey: the key that a signature shows. -/
namespace Go.Proofs.YtimmeclclilpdaaGreatDoor.Cs
open Go.RowKit Go.Proofs.YtimmeclclilpdaaGreatDoor.Sl Go.Proofs.YtimmeclclilpdaaGreatDoor.By Go.Proofs.YtimmeclclilpdaaGreatDoor.Ap Go.Proofs.YtimmeclclilpdaaGreatDoor.Tx Go.Proofs.YtimmeclclilpdaaGreatDoor.Sh Go.Proofs.YtimmeclclilpdaaGreatDoor.Ho Go.Proofs.YtimmeclclilpdaaGreatDoor.Se Go.Proofs.YtimmeclclilpdaaGreatDoor.Ka Go.Proofs.YtimmeclclilpdaaGreatDoor.Sx Go.Proofs.YtimmeclclilpdaaGreatDoor.Hf Go.Proofs.YtimmeclclilpdaaGreatDoor.Sa Go.Proofs.YtimmeclclilpdaaGreatDoor.Kx Go.Proofs.YtimmeclclilpdaaGreatDoor.Mb Go.Proofs.YtimmeclclilpdaaGreatDoor.Sg

/-- Two hashes, in the order that a bit tells. -/
def pl0 (a c : ByteArray) (b : Nat) : ByteArray := if b = 0 then a else c
def pl1 (a c : ByteArray) (b : Nat) : ByteArray := if b = 0 then c else a
def pairTo (d : ByteArray) (ta tb : List ByteArray) : Nat → List ByteArray
  | 0 => []
  | k + 1 => pairTo d ta tb k ++ [pl0 (hashS (bys (tnth ta k))) (tnth tb k) (bn d k), pl1 (hashS (bys (tnth ta k))) (tnth tb k) (bn d k)]
theorem pairTo_length (d : ByteArray) (ta tb : List ByteArray) : ∀ k, (pairTo d ta tb k).length = 2 * k
  | 0 => rfl
  | k + 1 => by unfold pairTo; rw [List.length_append, pairTo_length d ta tb k]; rfl
theorem pl_size {a c : ByteArray} (b : Nat) (ha : a.size = 32) (hc : c.size = 32) : (pl0 a c b).size = 32 ∧ (pl1 a c b).size = 32 := by
  unfold pl0 pl1
  split
  · exact ⟨ha, hc⟩
  · exact ⟨hc, ha⟩
theorem hash32 {t : ByteArray} (h : t.size = 32) : (hashS (bys t)).size = 32 := hash_size _ (by rw [bys_length, h]; decide)
theorem pairTo_all (d : ByteArray) (ta tb : List ByteArray) (ha : ∀ t ∈ ta, t.size = 32) (hb : ∀ t ∈ tb, t.size = 32) : ∀ k, k ≤ ta.length → k ≤ tb.length → ∀ t ∈ pairTo d ta tb k, t.size = 32
  | 0, _, _, t, ht => by cases ht
  | k + 1, h1, h2, t, ht => by
    unfold pairTo at ht
    have e := pl_size (bn d k) (hash32 (ha _ (tnth_mem (show k < ta.length by omega)))) (hb _ (tnth_mem (show k < tb.length by omega)))
    rcases List.mem_append.1 ht with ht | ht
    · exact pairTo_all d ta tb ha hb k (by omega) (by omega) t ht
    · rcases List.mem_cons.1 ht with e1 | ht
      · rw [e1]; exact e.1
      · rw [List.mem_singleton.1 ht]; exact e.2
set_option maxRecDepth 100000 in
theorem placed_any (a c : ByteArray) (b : Nat) (w : World) : Calls Tryz.prog 122 #[.string a, .string c, .int .i64 b] w fun e w' => e = .returned (.tuple #[.string (pl0 a c b), .string (pl1 a c b)]) ∧ w = w' := by
  by_cases h : b = 0
  · have HE : Hid (pl0 a c b = a ∧ pl1 a c b = c) := ⟨if_pos h, if_pos h⟩
    have h' : ((b : Int) == 0) = true := by simp; omega
    clear h
    go_enter Tryz.func122, Tryz.ntmps122
    go_wp2
    go_ret2
    rw [HE.out.1, HE.out.2]
    exact ⟨rfl, rfl⟩
  · have HE : Hid (pl0 a c b = c ∧ pl1 a c b = a) := ⟨if_neg h, if_neg h⟩
    have h' : ((b : Int) == 0) = false := by simp; omega
    clear h
    go_enter Tryz.func122, Tryz.ntmps122
    go_wp2
    go_ret2
    rw [HE.out.1, HE.out.2]
    exact ⟨rfl, rfl⟩
theorem RowT.drew' {w : World} {v : Value} {ts : List ByteArray} (h : RowT w v ts) : RowT w.drew v ts := h

set_option maxRecDepth 100000 in
set_option maxHeartbeats 3200000 in
theorem signedKey_any (msg bs : ByteArray) (i : Int) (ua ub uc : Value) (ta tb tc : List ByteArray) (w : World) (hbs : bs = mbits msg) (ra : RowT w ua ta) (rb : RowT w ub tb) (rc : RowT w uc tc) (la : ta.length = 32) (lb : tb.length = 32) (za : ∀ t ∈ ta, t.size = 32) (zb : ∀ t ∈ tb, t.size = 32) (hK : KTab w) (hp : 0 < w.heap.size) :
    Calls Tryz.prog 99 #[.string bs, .agg #[.int .i64 i, ua, ub, uc]] w fun e w' => e = .returned (.string (keyH (pairTo (dig msg) ta tb 32))) ∧ Below w.heap.size w w' := by
  obtain ⟨i0, hi0, hz0, hz1, hz2⟩ := info_parts info9
  have HBS : Hid (bs = mbits msg) := hbs
  obtain ⟨a1, c1, rfl, ra⟩ := ra
  obtain ⟨a2, c2, rfl, rb⟩ := rb
  obtain ⟨a3, c3, rfl, _⟩ := rc
  rcases ra with ra | ⟨b1, o1, rfl, hc1, hw1, hcell1⟩
  · rw [ra] at la; cases la
  rcases rb with rb | ⟨b2, o2, rfl, hc2, hw2, hcell2⟩
  · rw [rb] at lb; cases lb
  have HC : Hid ((∀ j, j < 32 → w.cell? ⟨b1, o1 + j, none⟩ = some (.string (tnth ta j))) ∧ (∀ j, j < 32 → w.cell? ⟨b2, o2 + j, none⟩ = some (.string (tnth tb j))) ∧ b1 < w.heap.size ∧ b2 < w.heap.size) := ⟨fun j hj => hcell1 j (by omega), fun j hj => hcell2 j (by omega), hw1, hw2⟩
  have HZ : Hid ((∀ t ∈ ta, t.size = 32) ∧ (∀ t ∈ tb, t.size = 32) ∧ ta.length = 32 ∧ tb.length = 32) := ⟨za, zb, la, lb⟩
  have GK : Hid (KTab w ∧ 0 < w.heap.size) := ⟨hK, hp⟩
  rw [la, lb]
  have HB : Hid (∀ W, Below (w.heap.size + 1) (w.alloc (.cells #[.int .i64 i, .slice (some ⟨b1, o1, none⟩) 32 c1, .slice (some ⟨b2, o2, none⟩) 32 c2, .slice a3 tc.length c3] 37)) W → W.heap[w.heap.size]? = some (.cells #[.int .i64 i, .slice (some ⟨b1, o1, none⟩) 32 c1, .slice (some ⟨b2, o2, none⟩) 32 c2, .slice a3 tc.length c3] 37 (0, 0)) ∧ Below w.heap.size w W ∧ w.heap.size + 1 ≤ W.heap.size) := fun W hW => by
    have hs := hW.size
    rw [size_new] at hs
    exact ⟨(hW.block _ (by omega)).trans (blk_new _ _ _), (bel_new w _).trans (hW.mono (by omega)), hs⟩
  have H0 : Hid (Below (w.heap.size + 1) (w.alloc (.cells #[.int .i64 i, .slice (some ⟨b1, o1, none⟩) 32 c1, .slice (some ⟨b2, o2, none⟩) 32 c2, .slice a3 tc.length c3] 37)) (w.alloc (.cells #[.int .i64 i, .slice (some ⟨b1, o1, none⟩) 32 c1, .slice (some ⟨b2, o2, none⟩) 32 c2, .slice a3 tc.length c3] 37))) := Below.refl _ _
  clear hbs hcell1 hcell2 hw1 hw2 za zb hK hp la lb hc1 hc2
  go_enter Tryz.func99, Tryz.ntmps99
  go_wp2_with fail
  generalize w.alloc (.cells #[.int .i64 i, .slice (some ⟨b1, o1, none⟩) 32 c1, .slice (some ⟨b2, o2, none⟩) 32 c2, .slice a3 tc.length c3] 37) = wz at HB H0 ⊢
  go_loopw [5, 9] (fun u j wr => ∃ k : Nat, k ≤ 32 ∧ j = .int .i64 k ∧ OwnS wr (w.heap.size + 1) u (pairTo (dig msg) ta tb k) ∧ Below (w.heap.size + 1) wz wr) (fun _ j _ => 32 - (intOf j).toNat)
  case atStart => exact ⟨0, by omega, rfl, OwnS.nil _ _, H0.out⟩
  case round =>
    obtain ⟨k, hk, rfl, ho, hb⟩ := hrel
    obtain ⟨X0, G0, L0⟩ := HB.out wr hb
    by_cases hlt : k < 32
    · have hlt' : decide ((k : Int) < 32) = true := by rw [decide_eq_true_eq]; omega
      have hk32 : (k : Int) < 32 := by omega
      have HF : Hid (∀ W, Below (w.heap.size + 1) wz W → W.cell? ⟨w.heap.size, 1, none⟩ = some (.slice (some ⟨b1, o1, none⟩) 32 c1) ∧ W.cell? ⟨w.heap.size, 2, none⟩ = some (.slice (some ⟨b2, o2, none⟩) 32 c2) ∧ W.cell? ⟨b1, o1 + k, none⟩ = some (.string (tnth ta k)) ∧ W.cell? ⟨b2, o2 + k, none⟩ = some (.string (tnth tb k))) := fun W hW => by
        obtain ⟨Y0, Y1, _⟩ := HB.out W hW
        exact ⟨(blk_cell Y0 1 rfl).1, (blk_cell Y0 2 rfl).1, (Y1.cell (p := ⟨b1, o1 + k, none⟩) HC.out.2.2.1).trans (HC.out.1 k hlt), (Y1.cell (p := ⟨b2, o2 + k, none⟩) HC.out.2.2.2).trans (HC.out.2.1 k hlt)⟩
      have HE : Hid (pairTo (dig msg) ta tb (k + 1) = pairTo (dig msg) ta tb k ++ [pl0 (hashS (bys (tnth ta k))) (tnth tb k) (bn (dig msg) k), pl1 (hashS (bys (tnth ta k))) (tnth tb k) (bn (dig msg) k)]) := rfl
      have HL : Hid ((pairTo (dig msg) ta tb k).length ≤ 1000000) := by show _ ≤ _; rw [pairTo_length]; omega
      have HT : Hid (cat [tnth ta k] = bys (tnth ta k) ∧ (bys (tnth ta k)).length ≤ 1000000000) := ⟨by unfold cat; simp only [List.flatMap_cons, List.flatMap_nil, List.append_nil], by rw [bys_length, HZ.out.1 _ (tnth_mem (show k < ta.length by have := HZ.out; omega))]; decide⟩
      have HBT : Hid (∀ W, Calls Tryz.prog 102 #[.string bs, .int .i64 k] W fun e w' => e = .returned (.int .i64 (bn (dig msg) k : Int)) ∧ W = w') := fun W => bitAt_any msg bs k W HBS.out hlt
      obtain ⟨x1, x2, x3, x4⟩ := HF.out wr hb
      have x1a : ∀ o, (wr.alloc o).cell? ⟨w.heap.size, 1, none⟩ = some (.slice (some ⟨b1, o1, none⟩) 32 c1) := fun o => (HF.out _ (hb.alloc L0 o)).1
      have x2a : ∀ o, (wr.alloc o).cell? ⟨w.heap.size, 2, none⟩ = some (.slice (some ⟨b2, o2, none⟩) 32 c2) := fun o => (HF.out _ (hb.alloc L0 o)).2.1
      have x4a : ∀ o, (wr.alloc o).cell? ⟨b2, o2 + k, none⟩ = some (.string (tnth tb k)) := fun o => (HF.out _ (hb.alloc L0 o)).2.2.2
      generalize bn (dig msg) k = bb at HE HBT
      generalize tnth ta k = t1 at x3 HF HE HT
      generalize tnth tb k = t2 at x4 x4a HF HE
      have HH : Hid (∀ o : Unit, Calls Tryz.prog 36 #[.slice (some ⟨wr.heap.size, 0, none⟩) 1 1] (wr.alloc (.cells #[.string t1] 9)).drew fun e w' => e = .returned (.string (hashS (bys t1))) ∧ Below wr.heap.size wr w') := fun _ => by
        have hd := (bel_new wr (.cells #[.string t1] 9)).drew
        have hKd : KTab (wr.alloc (.cells #[.string t1] 9)).drew := GK.out.1.below (G0.trans (hd.mono G0.size)) GK.out.2
        refine (hashOf_any _ [t1] _ (RowT.drew' (row_lit wr 9 [t1] _ 1 rfl rfl)) (by simp) (by simp) (by rw [HT.out.1]; exact HT.out.2) hKd (Nat.lt_of_lt_of_le GK.out.2 (G0.trans (hd.mono G0.size)).size)).mono ?_
        rintro e w' ⟨rfl, b'⟩
        rw [HT.out.1]
        exact ⟨rfl, hd.trans (b'.mono hd.size)⟩
      clear X0
      go_wp2_with fail
      go_region_law (first
        | (go_simp; go_at_call 36; refine (HH.out ()).mono ?_; rintro e w3 ⟨rfl, b3⟩; have g3 := hb.trans (b3.mono L0); have q3 := OwnS.below ho b3; obtain ⟨y1, y2, y3, y4⟩ := HF.out w3 g3; clear b3; try go_simp)
        | (go_simp; go_at_call 102; refine (HBT.out _).mono ?_; rintro e w9 ⟨rfl, rfl⟩; try go_simp)
        | (go_simp; go_at_call 122; refine (placed_any _ _ _ _).mono ?_; rintro e w9 ⟨rfl, rfl⟩; try go_simp))
      all_goals
        go_wp2_with (at_builtin; go_must (refine list_texts (by rfl) _ _ 35 (by rfl) i0 Tryz.underlying35 hi0 hz0 hz1 hz2 (w.heap.size + 1) wz w3 _ _ [pl0 (hashS (bys t1)) t2 bb, pl1 (hashS (bys t1)) t2 bb] _ 2 rfl rfl (by decide) (by rfl) q3 g3 (HB.out w3 g3).2.2 (by rfl) HL.out ?_; intro v5 w5 o5 b5 _ _))
        rw [← HE.out] at o5
        exact ⟨⟨k + 1, by omega, by go_num, o5, b5⟩, by simp [intOf]; omega⟩
    · obtain rfl : k = 32 := by omega
      have HN : Hid ((pairTo (dig msg) ta tb 32).length = 64 ∧ (cat (pairTo (dig msg) ta tb 32)).length ≤ 60000) := ⟨pairTo_length _ _ _ 32, by rw [cat_len _ (pairTo_all _ ta tb HZ.out.1 HZ.out.2.1 32 (by have := HZ.out; omega) (by have := HZ.out; omega)), pairTo_length]; decide⟩
      obtain ⟨ts, HTS⟩ : ∃ ts, Hid (pairTo (dig msg) ta tb 32 = ts) := ⟨_, rfl⟩
      rw [HTS.out] at ho HN
      go_wp2_with fail
      refine (keyOf_any _ ts _ ho.row (fun e => by have := HN.out.1; rw [e] at this; simp at this) (by have := HN.out.1; omega) HN.out.2 (GK.out.1.below G0 GK.out.2) (Nat.lt_of_lt_of_le GK.out.2 G0.size)).mono ?_
      rintro e w3 ⟨rfl, b3⟩
      go_wp2_with fail
      go_ret
      exact ⟨Tx.ret_str (by rw [HTS.out]), G0.trans (b3.mono G0.size)⟩
end Go.Proofs.YtimmeclclilpdaaGreatDoor.Cs

/- What CheckSignature answers. -/
namespace Go.Proofs.YtimmeclclilpdaaGreatDoor.Cs
open Go.RowKit Go.Proofs.YtimmeclclilpdaaGreatDoor.Sl Go.Proofs.YtimmeclclilpdaaGreatDoor.By Go.Proofs.YtimmeclclilpdaaGreatDoor.Ap Go.Proofs.YtimmeclclilpdaaGreatDoor.Tx Go.Proofs.YtimmeclclilpdaaGreatDoor.Sh Go.Proofs.YtimmeclclilpdaaGreatDoor.Ho Go.Proofs.YtimmeclclilpdaaGreatDoor.Se Go.Proofs.YtimmeclclilpdaaGreatDoor.Ka Go.Proofs.YtimmeclclilpdaaGreatDoor.Sx Go.Proofs.YtimmeclclilpdaaGreatDoor.Hf Go.Proofs.YtimmeclclilpdaaGreatDoor.Sa Go.Proofs.YtimmeclclilpdaaGreatDoor.Kx Go.Proofs.YtimmeclclilpdaaGreatDoor.Mb Go.Proofs.YtimmeclclilpdaaGreatDoor.Sg

/-- The root that a signature leads to. -/
def upR (msg : ByteArray) (k : Nat) (ta tb tc : List ByteArray) : ByteArray := climb (keyH (pairTo (dig msg) ta tb 32)) k tc
/-- What CheckSignature answers. -/
def vC (root msg : ByteArray) (i : Int) (ta tb tc : List ByteArray) : Int :=
  if 65530 < msg.size ∨ 65536 < root.size then 2 else if root.size = 32 ∧ hsB ta 32 = true ∧ hsB tb 32 = true ∧ hsB tc 3 = true then (if inR i 0 7 = true then (if (upR msg i.toNat ta tb tc).toList = root.toList then 0 else 12) else 4) else 1
theorem key_size (msg : ByteArray) {ta tb : List ByteArray} (ha : hsB ta 32 = true) (hb : hsB tb 32 = true) : (keyH (pairTo (dig msg) ta tb 32)).size = 32 := by
  obtain ⟨h1, h2⟩ := hs_get ha
  obtain ⟨h3, h4⟩ := hs_get hb
  exact keyH_size _ (by rw [cat_len _ (pairTo_all _ ta tb h2 h4 32 (by omega) (by omega)), pairTo_length]; decide)

end Go.Proofs.YtimmeclclilpdaaGreatDoor.Cs

/- impl.CheckSignature. -/
namespace Go.Proofs.YtimmeclclilpdaaGreatDoor.Cs
open Go.RowKit Go.Proofs.YtimmeclclilpdaaGreatDoor.Sl Go.Proofs.YtimmeclclilpdaaGreatDoor.By Go.Proofs.YtimmeclclilpdaaGreatDoor.Ap Go.Proofs.YtimmeclclilpdaaGreatDoor.Tx Go.Proofs.YtimmeclclilpdaaGreatDoor.Sh Go.Proofs.YtimmeclclilpdaaGreatDoor.Ho Go.Proofs.YtimmeclclilpdaaGreatDoor.Se Go.Proofs.YtimmeclclilpdaaGreatDoor.Ka Go.Proofs.YtimmeclclilpdaaGreatDoor.Sx Go.Proofs.YtimmeclclilpdaaGreatDoor.Hf Go.Proofs.YtimmeclclilpdaaGreatDoor.Sa Go.Proofs.YtimmeclclilpdaaGreatDoor.Kx Go.Proofs.YtimmeclclilpdaaGreatDoor.Mb Go.Proofs.YtimmeclclilpdaaGreatDoor.Sg

/-- The box of the signature. -/
def bxo (i : Int) (ua ub uc : Value) : Obj := .cells #[.int .i64 i, ua, ub, uc] 37
set_option maxRecDepth 100000 in
set_option maxHeartbeats 1600000 in
theorem implCheckSignature_any (root msg : ByteArray) (i : Int) (ua ub uc : Value) (ta tb tc : List ByteArray) (w : World) (ra : RowT w ua ta) (rb : RowT w ub tb) (rc : RowT w uc tc) (la : ta.length ≤ maxLen) (lb : tb.length ≤ maxLen) (lc : tc.length ≤ maxLen) (za : ∀ t ∈ ta, t.size ≤ maxLen) (zb : ∀ t ∈ tb, t.size ≤ maxLen) (zc : ∀ t ∈ tc, t.size ≤ maxLen) (hK : KTab w) (hp : 0 < w.heap.size) :
    Calls Tryz.prog 64 #[.string root, .string msg, .agg #[.int .i64 i, ua, ub, uc]] w fun e w' => e = .returned (.int .i64 (vC root msg i ta tb tc)) ∧ Below w.heap.size w w' := by
  have HR : Hid (RowT w ua ta ∧ RowT w ub tb ∧ RowT w uc tc) := ⟨ra, rb, rc⟩
  have HLZ : Hid ((ta.length ≤ maxLen ∧ tb.length ≤ maxLen ∧ tc.length ≤ maxLen) ∧ (∀ t ∈ ta, t.size ≤ maxLen) ∧ (∀ t ∈ tb, t.size ≤ maxLen) ∧ ∀ t ∈ tc, t.size ≤ maxLen) := ⟨⟨la, lb, lc⟩, za, zb, zc⟩
  obtain ⟨a1, c1, rfl, _⟩ := ra
  obtain ⟨a2, c2, rfl, _⟩ := rb
  obtain ⟨a3, c3, rfl, _⟩ := rc
  have H0 : Hid (KTab (w.alloc (bxo i (.slice a1 ta.length c1) (.slice a2 tb.length c2) (.slice a3 tc.length c3))) ∧ 0 < (w.alloc (bxo i (.slice a1 ta.length c1) (.slice a2 tb.length c2) (.slice a3 tc.length c3))).heap.size) := ⟨hK.below (bel_new _ _) hp, by rw [size_new]; omega⟩
  have HB : Hid (∀ W, Below (w.alloc (bxo i (.slice a1 ta.length c1) (.slice a2 tb.length c2) (.slice a3 tc.length c3))).heap.size (w.alloc (bxo i (.slice a1 ta.length c1) (.slice a2 tb.length c2) (.slice a3 tc.length c3))) W → W.heap[w.heap.size]? = some (.cells #[.int .i64 i, .slice a1 ta.length c1, .slice a2 tb.length c2, .slice a3 tc.length c3] 37 (0, 0)) ∧ Below w.heap.size w W ∧ KTab W ∧ 0 < W.heap.size) := fun W hW => by
    have hb := (bel_new w (bxo i (.slice a1 ta.length c1) (.slice a2 tb.length c2) (.slice a3 tc.length c3))).trans (hW.mono (by rw [size_new]; omega))
    exact ⟨(hW.block _ (by rw [size_new]; omega)).trans (blk_new _ _ _), hb, hK.below hb hp, Nat.lt_of_lt_of_le hp hb.size⟩
  clear la lb lc za zb zc hK hp
  unfold bxo at H0 HB
  by_cases hm : 65530 < msg.size
  · have HE : Hid (vC root msg i ta tb tc = 2) := if_pos (.inl hm)
    have HM : Hid (mbOut msg = ⟨#[]⟩ ∧ mbCode msg = 2) := ⟨if_pos hm, if_pos hm⟩
    clear hm
    go_enter Tryz.func64, Tryz.ntmps64
    go_wp2_with fail
    refine (implMessageBits_any msg _ H0.out.1 H0.out.2).mono ?_
    rintro e w1 ⟨rfl, b1⟩
    rw [HM.out.1, HM.out.2]
    obtain ⟨_, G1, _⟩ := HB.out w1 b1
    clear b1
    go_wp2_with fail
    go_ret
    exact ⟨Hf.ret_int HE.out.symm, G1⟩
  have HM : Hid (mbOut msg = mbits msg ∧ mbCode msg = 0) := ⟨if_neg hm, if_neg hm⟩
  by_cases hr : 65536 < root.size
  · have HE : Hid (vC root msg i ta tb tc = 2) := if_pos (.inr hr)
    have HF : Hid (hf root = 2) := hf_long hr
    clear hm hr
    go_enter Tryz.func64, Tryz.ntmps64
    go_wp2_with fail
    refine (implMessageBits_any msg _ H0.out.1 H0.out.2).mono ?_
    rintro e w1 ⟨rfl, b1⟩
    rw [HM.out.1, HM.out.2]
    obtain ⟨_, G1, _⟩ := HB.out w1 b1
    clear b1
    go_wp2_with fail
    refine (hashFault_any root w1).mono ?_
    rintro e w2 ⟨rfl, rfl⟩
    rw [HF.out]
    go_wp2_with fail
    go_ret
    exact ⟨Hf.ret_int HE.out.symm, G1⟩
  have hno : ¬ (65530 < msg.size ∨ 65536 < root.size) := fun h => h.elim hm hr
  by_cases h32 : root.size = 32
  · have HF : Hid (hf root = 0) := hf_ok h32
    obtain ⟨ba, HA⟩ : ∃ ba, Hid (hsB ta 32 = ba) := ⟨_, rfl⟩
    obtain ⟨bb, HBB⟩ : ∃ bb, Hid (hsB tb 32 = bb) := ⟨_, rfl⟩
    obtain ⟨bc, HCC⟩ : ∃ bc, Hid (hsB tc 3 = bc) := ⟨_, rfl⟩
    have HOK : Hid (∀ W, Below w.heap.size w W → (Calls Tryz.prog 97 #[.slice a1 ta.length c1, .int .i64 32] W fun e w' => e = .returned (.bool ba) ∧ W = w') ∧ (Calls Tryz.prog 97 #[.slice a2 tb.length c2, .int .i64 32] W fun e w' => e = .returned (.bool bb) ∧ W = w') ∧ (Calls Tryz.prog 97 #[.slice a3 tc.length c3, .int .i64 3] W fun e w' => e = .returned (.bool bc) ∧ W = w')) := fun W hW => by
      rw [← HA.out, ← HBB.out, ← HCC.out]
      exact ⟨hashesOK_any _ ta 32 W (HR.out.1.below hW) HLZ.out.1.1 HLZ.out.2.1, hashesOK_any _ tb 32 W (HR.out.2.1.below hW) HLZ.out.1.2.1 HLZ.out.2.2.1, hashesOK_any _ tc 3 W (HR.out.2.2.below hW) HLZ.out.1.2.2 HLZ.out.2.2.2⟩
    cases ba with
    | false =>
      have HE : Hid (vC root msg i ta tb tc = 1) := by show _ = _; unfold vC; rw [if_neg hno, if_neg (fun h => by rw [HA.out] at h; exact absurd h.2.1 (by decide))]
      clear hm hr hno h32
      go_enter Tryz.func64, Tryz.ntmps64
      go_wp2_with fail
      refine (implMessageBits_any msg _ H0.out.1 H0.out.2).mono ?_
      rintro e w1 ⟨rfl, b1⟩
      rw [HM.out.1, HM.out.2]
      obtain ⟨X1, G1, _⟩ := HB.out w1 b1
      have x1 := (blk_cell X1 1 (x := .slice a1 ta.length c1) rfl).1
      clear b1 X1
      go_wp2_with fail
      refine (hashFault_any root w1).mono ?_
      rintro e w2 ⟨rfl, rfl⟩
      rw [HF.out]
      go_wp2_with fail
      refine (HOK.out w1 G1).1.mono ?_
      rintro e w2 ⟨rfl, rfl⟩
      go_wp2_with fail
      go_ret
      exact ⟨Hf.ret_int HE.out.symm, G1⟩
    | true =>
    cases bb with
    | false =>
      have HE : Hid (vC root msg i ta tb tc = 1) := by show _ = _; unfold vC; rw [if_neg hno, if_neg (fun h => by rw [HBB.out] at h; exact absurd h.2.2.1 (by decide))]
      clear hm hr hno h32
      go_enter Tryz.func64, Tryz.ntmps64
      go_wp2_with fail
      refine (implMessageBits_any msg _ H0.out.1 H0.out.2).mono ?_
      rintro e w1 ⟨rfl, b1⟩
      rw [HM.out.1, HM.out.2]
      obtain ⟨X1, G1, _⟩ := HB.out w1 b1
      have x1 := (blk_cell X1 1 (x := .slice a1 ta.length c1) rfl).1
      have x2 := (blk_cell X1 2 (x := .slice a2 tb.length c2) rfl).1
      clear b1 X1
      go_wp2_with fail
      refine (hashFault_any root w1).mono ?_
      rintro e w2 ⟨rfl, rfl⟩
      rw [HF.out]
      go_wp2_with fail
      refine (HOK.out w1 G1).1.mono ?_
      rintro e w2 ⟨rfl, rfl⟩
      go_wp2_with fail
      refine (HOK.out w1 G1).2.1.mono ?_
      rintro e w2 ⟨rfl, rfl⟩
      go_wp2_with fail
      go_ret
      exact ⟨Hf.ret_int HE.out.symm, G1⟩
    | true =>
    cases bc with
    | false =>
      have HE : Hid (vC root msg i ta tb tc = 1) := by show _ = _; unfold vC; rw [if_neg hno, if_neg (fun h => by rw [HCC.out] at h; exact absurd h.2.2.2 (by decide))]
      clear hm hr hno h32
      go_enter Tryz.func64, Tryz.ntmps64
      go_wp2_with fail
      refine (implMessageBits_any msg _ H0.out.1 H0.out.2).mono ?_
      rintro e w1 ⟨rfl, b1⟩
      rw [HM.out.1, HM.out.2]
      obtain ⟨X1, G1, _⟩ := HB.out w1 b1
      have x1 := (blk_cell X1 1 (x := .slice a1 ta.length c1) rfl).1
      have x2 := (blk_cell X1 2 (x := .slice a2 tb.length c2) rfl).1
      have x3 := (blk_cell X1 3 (x := .slice a3 tc.length c3) rfl).1
      clear b1 X1
      go_wp2_with fail
      refine (hashFault_any root w1).mono ?_
      rintro e w2 ⟨rfl, rfl⟩
      rw [HF.out]
      go_wp2_with fail
      refine (HOK.out w1 G1).1.mono ?_
      rintro e w2 ⟨rfl, rfl⟩
      go_wp2_with fail
      refine (HOK.out w1 G1).2.1.mono ?_
      rintro e w2 ⟨rfl, rfl⟩
      go_wp2_with fail
      refine (HOK.out w1 G1).2.2.mono ?_
      rintro e w2 ⟨rfl, rfl⟩
      go_wp2_with fail
      go_ret
      exact ⟨Hf.ret_int HE.out.symm, G1⟩
    | true =>
    have hyes : root.size = 32 ∧ hsB ta 32 = true ∧ hsB tb 32 = true ∧ hsB tc 3 = true := ⟨h32, HA.out, HBB.out, HCC.out⟩
    obtain ⟨bi, HII⟩ : ∃ bi, Hid (inR i 0 7 = bi) := ⟨_, rfl⟩
    cases bi with
    | false =>
      have HE : Hid (vC root msg i ta tb tc = 4) := by show _ = _; unfold vC; rw [if_neg hno, if_pos hyes, if_neg (by rw [HII.out]; decide)]
      clear hm hr hno h32 hyes
      go_enter Tryz.func64, Tryz.ntmps64
      go_wp2_with fail
      refine (implMessageBits_any msg _ H0.out.1 H0.out.2).mono ?_
      rintro e w1 ⟨rfl, b1⟩
      rw [HM.out.1, HM.out.2]
      obtain ⟨X1, G1, _⟩ := HB.out w1 b1
      have x0 := (blk_cell X1 0 (x := .int .i64 i) rfl).1
      have x1 := (blk_cell X1 1 (x := .slice a1 ta.length c1) rfl).1
      have x2 := (blk_cell X1 2 (x := .slice a2 tb.length c2) rfl).1
      have x3 := (blk_cell X1 3 (x := .slice a3 tc.length c3) rfl).1
      clear b1 X1
      go_wp2_with fail
      refine (hashFault_any root w1).mono ?_
      rintro e w2 ⟨rfl, rfl⟩
      rw [HF.out]
      go_wp2_with fail
      refine (HOK.out w1 G1).1.mono ?_
      rintro e w2 ⟨rfl, rfl⟩
      go_wp2_with fail
      refine (HOK.out w1 G1).2.1.mono ?_
      rintro e w2 ⟨rfl, rfl⟩
      go_wp2_with fail
      refine (HOK.out w1 G1).2.2.mono ?_
      rintro e w2 ⟨rfl, rfl⟩
      go_wp2_with fail
      refine (keyIndexOK_any i w1).mono ?_
      rintro e w2 ⟨rfl, rfl⟩
      rw [HII.out]
      go_wp2_with fail
      go_ret
      exact ⟨Hf.ret_int HE.out.symm, G1⟩
    | true =>
      obtain ⟨i1, i2⟩ := inR_nat HII.out
      obtain ⟨i, rfl⟩ := Int.eq_ofNat_of_zero_le i1
      obtain ⟨cc, HCV⟩ : ∃ cc : Int, Hid ((if (upR msg i ta tb tc).toList = root.toList then (0 : Int) else 12) = cc) := ⟨_, rfl⟩
      have HE : Hid (vC root msg i ta tb tc = cc) := by show _ = _; unfold vC; rw [if_neg hno, if_pos hyes, if_pos HII.out, Int.toNat_natCast]; exact HCV.out
      have HK : Hid (i < 8 ∧ (keyH (pairTo (dig msg) ta tb 32)).size = 32) := ⟨by omega, key_size msg HA.out HBB.out⟩
      have HUP : Hid (upR msg i ta tb tc = climb (keyH (pairTo (dig msg) ta tb 32)) i tc) := rfl
      clear hm hr hno h32 hyes i1 i2
      go_enter Tryz.func64, Tryz.ntmps64
      go_wp2_with fail
      refine (implMessageBits_any msg _ H0.out.1 H0.out.2).mono ?_
      rintro e w1 ⟨rfl, b1⟩
      rw [HM.out.1, HM.out.2]
      obtain ⟨X1, G1, K1, P1⟩ := HB.out w1 b1
      have x0 := (blk_cell X1 0 (x := .int .i64 (i : Int)) rfl).1
      have x1 := (blk_cell X1 1 (x := .slice a1 ta.length c1) rfl).1
      have x2 := (blk_cell X1 2 (x := .slice a2 tb.length c2) rfl).1
      have x3 := (blk_cell X1 3 (x := .slice a3 tc.length c3) rfl).1
      have HX1 : Hid (w1.heap[w.heap.size]? = some (.cells #[.int .i64 (i : Int), .slice a1 ta.length c1, .slice a2 tb.length c2, .slice a3 tc.length c3] 37 (0, 0))) := X1
      clear b1 X1
      go_wp2_with fail
      refine (hashFault_any root w1).mono ?_
      rintro e w2 ⟨rfl, rfl⟩
      rw [HF.out]
      go_wp2_with fail
      refine (HOK.out w1 G1).1.mono ?_
      rintro e w2 ⟨rfl, rfl⟩
      go_wp2_with fail
      refine (HOK.out w1 G1).2.1.mono ?_
      rintro e w2 ⟨rfl, rfl⟩
      go_wp2_with fail
      refine (HOK.out w1 G1).2.2.mono ?_
      rintro e w2 ⟨rfl, rfl⟩
      go_wp2_with fail
      refine (keyIndexOK_any i w1).mono ?_
      rintro e w2 ⟨rfl, rfl⟩
      rw [HII.out]
      have G1d := G1.drew
      have HSK : Hid (Calls Tryz.prog 99 #[.string (mbits msg), .agg #[.int .i64 (i : Int), .slice a1 ta.length c1, .slice a2 tb.length c2, .slice a3 tc.length c3]] w1.drew fun e w' => e = .returned (.string (keyH (pairTo (dig msg) ta tb 32))) ∧ Below w1.drew.heap.size w1.drew w') :=
        signedKey_any msg (mbits msg) i _ _ _ ta tb tc w1.drew rfl (HR.out.1.below G1d) (HR.out.2.1.below G1d) (HR.out.2.2.below G1d) (hs_get HA.out).1 (hs_get HBB.out).1 (hs_get HA.out).2 (hs_get HBB.out).2 K1 P1
      have HRA : Hid (∀ (h : ByteArray) (W : World), Below w.heap.size w W → KTab W → 0 < W.heap.size → h.size = 32 → Calls Tryz.prog 98 #[.string h, .int .i64 (i : Int), .slice a3 tc.length c3] W fun e w' => e = .returned (.string (climb h i tc)) ∧ Below W.heap.size W w') := fun h W hW h1 h2 h3 => rootAbove_any tc h i _ W (HR.out.2.2.below hW) (hs_get HCC.out).2 h3 HK.out.1 h1 h2
      generalize keyH (pairTo (dig msg) ta tb 32) = kk at HSK HK HUP
      have hpx : w.heap.size < w1.heap.size := by have := HX1.out; exact (Array.getElem?_eq_some_iff.1 this).1
      by_cases hq : (upR msg i ta tb tc).toList = root.toList
      · rw [if_pos hq] at HCV
        have hqq : ((climb kk i tc).toList == root.toList) = true := by rw [← HUP.out]; simpa using hq
        go_wp2_with fail
        go_region_law (first
          | (go_simp; go_at_call 99; refine HSK.out.mono ?_; rintro e w3 ⟨rfl, b3⟩; have g3 := (ordB rfl b3).1; have y0 := (blk_cell ((g3.block _ hpx).trans HX1.out) 0 (x := .int .i64 (i : Int)) rfl).1; have y3 := (blk_cell ((g3.block _ hpx).trans HX1.out) 3 (x := .slice a3 tc.length c3) rfl).1; have g4 := G1.trans (g3.mono G1.size); clear b3; try go_simp)
          | (go_simp; go_at_call 98; refine (HRA.out kk _ g4 (K1.below g3 P1) (Nat.lt_of_lt_of_le P1 g3.size) HK.out.2).mono ?_; rintro e w5 ⟨rfl, b5⟩; have g5 := g4.trans (b5.mono g4.size); clear b5; try go_simp))
        all_goals
          go_wp2_with fail
          go_ret
          exact ⟨Hf.ret_int (by rw [HE.out]; exact HCV.out), g5⟩
      · rw [if_neg hq] at HCV
        have hqq : ((climb kk i tc).toList == root.toList) = false := by rw [← HUP.out]; simpa using hq
        go_wp2_with fail
        go_region_law (first
          | (go_simp; go_at_call 99; refine HSK.out.mono ?_; rintro e w3 ⟨rfl, b3⟩; have g3 := (ordB rfl b3).1; have y0 := (blk_cell ((g3.block _ hpx).trans HX1.out) 0 (x := .int .i64 (i : Int)) rfl).1; have y3 := (blk_cell ((g3.block _ hpx).trans HX1.out) 3 (x := .slice a3 tc.length c3) rfl).1; have g4 := G1.trans (g3.mono G1.size); clear b3; try go_simp)
          | (go_simp; go_at_call 98; refine (HRA.out kk _ g4 (K1.below g3 P1) (Nat.lt_of_lt_of_le P1 g3.size) HK.out.2).mono ?_; rintro e w5 ⟨rfl, b5⟩; have g5 := g4.trans (b5.mono g4.size); clear b5; try go_simp))
        all_goals
          go_wp2_with fail
          go_ret
          exact ⟨Hf.ret_int (by rw [HE.out]; exact HCV.out), g5⟩
  · have HE : Hid (vC root msg i ta tb tc = 1) := by show _ = _; unfold vC; rw [if_neg hno, if_neg (fun h => h32 h.1)]
    have HF : Hid (hf root = 1) := hf_bad hr h32
    clear hm hr hno h32
    go_enter Tryz.func64, Tryz.ntmps64
    go_wp2_with fail
    refine (implMessageBits_any msg _ H0.out.1 H0.out.2).mono ?_
    rintro e w1 ⟨rfl, b1⟩
    rw [HM.out.1, HM.out.2]
    obtain ⟨_, G1, _⟩ := HB.out w1 b1
    clear b1
    go_wp2_with fail
    refine (hashFault_any root w1).mono ?_
    rintro e w2 ⟨rfl, rfl⟩
    rw [HF.out]
    go_wp2_with fail
    go_ret
    exact ⟨Hf.ret_int HE.out.symm, G1⟩
end Go.Proofs.YtimmeclclilpdaaGreatDoor.Cs

/- The specification's CheckSignature. -/
namespace Go.Proofs.YtimmeclclilpdaaGreatDoor.Cs
open Go.RowKit Go.Proofs.YtimmeclclilpdaaGreatDoor.Sl Go.Proofs.YtimmeclclilpdaaGreatDoor.By Go.Proofs.YtimmeclclilpdaaGreatDoor.Ap Go.Proofs.YtimmeclclilpdaaGreatDoor.Tx Go.Proofs.YtimmeclclilpdaaGreatDoor.Sh Go.Proofs.YtimmeclclilpdaaGreatDoor.Ho Go.Proofs.YtimmeclclilpdaaGreatDoor.Se Go.Proofs.YtimmeclclilpdaaGreatDoor.Ka Go.Proofs.YtimmeclclilpdaaGreatDoor.Sx Go.Proofs.YtimmeclclilpdaaGreatDoor.Hf Go.Proofs.YtimmeclclilpdaaGreatDoor.Sa Go.Proofs.YtimmeclclilpdaaGreatDoor.Kx Go.Proofs.YtimmeclclilpdaaGreatDoor.Mb Go.Proofs.YtimmeclclilpdaaGreatDoor.Sg Go.Proofs.YtimmeclclilpdaaGreatDoor.Fu

theorem OwnF.mono {w : World} {B B' : Nat} {v : Value} {zs : List Int} (h : OwnF w B v zs) (hb : B' ≤ B) : OwnF w B' v zs := by
  rcases h with h | ⟨g, e, hB, hg, hc⟩
  · exact .inl (own_le h hb)
  · exact .inr ⟨g, e, by omega, hg, hc⟩
theorem allTo_two (ts : List ByteArray) (a c : ByteArray) : allTo (ts ++ [a, c]) = allTo ts ++ bys a ++ bys c := by
  rw [show ts ++ [a, c] = (ts ++ [a]) ++ [c] by rw [List.append_assoc]; rfl, allTo_snoc, allTo_snoc]
/-- The way up, step by step. -/
def clTo (h : ByteArray) (i : Nat) (tc : List ByteArray) : Nat → ByteArray
  | 0 => h
  | m + 1 => stepUp (clTo h i tc m) (i / 2 ^ m) (tnth tc m)
theorem clTo_size (h : ByteArray) (i : Nat) (tc : List ByteArray) (h1 : h.size = 32) (h2 : ∀ t ∈ tc, t.size = 32) : ∀ m, m ≤ tc.length → (clTo h i tc m).size = 32
  | 0, _ => h1
  | m + 1, hm => stepUp_size _ _ _ (clTo_size h i tc h1 h2 m (by omega)) (h2 _ (tnth_mem (by omega)))
theorem clTo_all (h : ByteArray) (i : Nat) (tc : List ByteArray) (h3 : tc.length = 3) : clTo h i tc 3 = climb h i tc := by
  match tc, h3 with
  | [p, q, r], _ =>
    show stepUp (stepUp (stepUp h (i / 2 ^ 0) p) (i / 2 ^ 1) q) (i / 2 ^ 2) r = stepUp (stepUp (stepUp h i p) (i / 2) q) (i / 2 / 2) r
    rw [Nat.pow_zero, Nat.div_one, Nat.pow_one, Nat.div_div_eq_div_mul]
set_option maxRecDepth 100000 in
set_option maxHeartbeats 3200000 in
/-- Where all is well formed: the way up is taken. -/
theorem specCheck_go (root msg : ByteArray) (i : Nat) (ua ub uc : Value) (ta tb tc : List ByteArray) (w : World) (ra : RowT w ua ta) (rb : RowT w ub tb) (rc : RowT w uc tc) (hm : msg.size ≤ 65530) (h32 : root.size = 32) (hA : hsB ta 32 = true) (hB : hsB tb 32 = true) (hC : hsB tc 3 = true) (hi : i < 8) (la : ta.length ≤ maxLen) (lb : tb.length ≤ maxLen) (lc : tc.length ≤ maxLen) (za : ∀ t ∈ ta, t.size ≤ maxLen) (zb : ∀ t ∈ tb, t.size ≤ maxLen) (zc : ∀ t ∈ tc, t.size ≤ maxLen) (cc : Int) (hcc : (if (upR msg i ta tb tc).toList = root.toList then (0 : Int) else 12) = cc) :
    Calls Tryz.prog 44 #[.string root, .string msg, .agg #[.int .i64 i, ua, ub, uc]] w fun e w' => e = .returned (.int .i64 cc) ∧ Below w.heap.size w w' := by
  obtain ⟨i0, hi0, hz0, hz1, hz2⟩ := info_parts info5
  obtain ⟨lA, sA⟩ := hs_get hA
  obtain ⟨lB, sB⟩ := hs_get hB
  obtain ⟨lC, sC⟩ := hs_get hC
  have HR : Hid (RowT w ua ta ∧ RowT w ub tb ∧ RowT w uc tc) := ⟨ra, rb, rc⟩
  have HLZ : Hid ((ta.length ≤ maxLen ∧ tb.length ≤ maxLen ∧ tc.length ≤ maxLen) ∧ (∀ t ∈ ta, t.size ≤ maxLen) ∧ (∀ t ∈ tb, t.size ≤ maxLen) ∧ ∀ t ∈ tc, t.size ≤ maxLen) := ⟨⟨la, lb, lc⟩, za, zb, zc⟩
  obtain ⟨a1, c1, rfl, ra⟩ := ra
  obtain ⟨a2, c2, rfl, rb⟩ := rb
  obtain ⟨a3, c3, rfl, rc⟩ := rc
  rcases ra with ra | ⟨b1, o1, rfl, _, hw1, hcell1⟩
  · rw [ra] at lA; cases lA
  rcases rb with rb | ⟨b2, o2, rfl, _, hw2, hcell2⟩
  · rw [rb] at lB; cases lB
  rcases rc with rc | ⟨b3, o3, rfl, _, hw3, hcell3⟩
  · rw [rc] at lC; cases lC
  rw [lA] at HR ⊢
  rw [lB] at HR ⊢
  rw [lC] at HR ⊢
  have HC : Hid ((∀ j, j < 32 → w.cell? ⟨b1, o1 + j, none⟩ = some (.string (tnth ta j))) ∧ (∀ j, j < 32 → w.cell? ⟨b2, o2 + j, none⟩ = some (.string (tnth tb j))) ∧ (∀ j, j < 3 → w.cell? ⟨b3, o3 + j, none⟩ = some (.string (tnth tc j))) ∧ b1 < w.heap.size ∧ b2 < w.heap.size ∧ b3 < w.heap.size) := ⟨fun j hj => hcell1 j (by omega), fun j hj => hcell2 j (by omega), fun j hj => hcell3 j (by omega), hw1, hw2, hw3⟩
  have HZ : Hid ((∀ t ∈ ta, t.size = 32) ∧ (∀ t ∈ tb, t.size = 32) ∧ (∀ t ∈ tc, t.size = 32) ∧ ta.length = 32 ∧ tb.length = 32 ∧ tc.length = 3 ∧ i < 8 ∧ msg.size ≤ 65530) := ⟨sA, sB, sC, lA, lB, lC, hi, hm⟩
  have HKZ : Hid ((keyH (pairTo (dig msg) ta tb 32)).size = 32) := key_size msg hA hB
  have HOK : Hid (∀ W, Below w.heap.size w W → (Calls Tryz.prog 78 #[.slice (some ⟨b1, o1, none⟩) 32 c1, .int .i64 32] W fun e w' => e = .returned (.bool true) ∧ W = w') ∧ (Calls Tryz.prog 78 #[.slice (some ⟨b2, o2, none⟩) 32 c2, .int .i64 32] W fun e w' => e = .returned (.bool true) ∧ W = w') ∧ (Calls Tryz.prog 78 #[.slice (some ⟨b3, o3, none⟩) 3 c3, .int .i64 3] W fun e w' => e = .returned (.bool true) ∧ W = w')) := fun W hW => by
    have h1 := l03Hashes_any _ ta 32 W (HR.out.1.below hW) HLZ.out.1.1 HLZ.out.2.1
    have h2 := l03Hashes_any _ tb 32 W (HR.out.2.1.below hW) HLZ.out.1.2.1 HLZ.out.2.2.1
    have h3 := l03Hashes_any _ tc 3 W (HR.out.2.2.below hW) HLZ.out.1.2.2 HLZ.out.2.2.2
    rw [hA] at h1
    rw [hB] at h2
    rw [hC] at h3
    exact ⟨h1, h2, h3⟩
  have HCV : Hid ((if (upR msg i ta tb tc).toList = root.toList then (0 : Int) else 12) = cc) := hcc
  have hm1 : ¬ (65530 : Int) < (msg.size : Int) := by omega
  have hr1 : ¬ (65536 : Int) < (root.size : Int) := by omega
  have hr2 : ((root.size : Int) != 32) = false := by simp; omega
  have hi7 : (i : Int) ≤ 7 := by omega
  have hi0' : (0 : Int) ≤ (i : Int) := by omega
  have HIN : Hid (inR (i : Int) 0 7 = true) := by show _ = _; unfold inR; rw [decide_eq_true hi0', decide_eq_true hi7]; rfl
  have HB : Hid (∀ W, Below (w.heap.size + 1) (w.alloc (.cells #[.int .i64 (i : Int), .slice (some ⟨b1, o1, none⟩) 32 c1, .slice (some ⟨b2, o2, none⟩) 32 c2, .slice (some ⟨b3, o3, none⟩) 3 c3] 37)) W → W.heap[w.heap.size]? = some (.cells #[.int .i64 (i : Int), .slice (some ⟨b1, o1, none⟩) 32 c1, .slice (some ⟨b2, o2, none⟩) 32 c2, .slice (some ⟨b3, o3, none⟩) 3 c3] 37 (0, 0)) ∧ Below w.heap.size w W ∧ w.heap.size + 1 ≤ W.heap.size) := fun W hW => by
    have hs := hW.size
    rw [size_new] at hs
    exact ⟨(hW.block _ (by omega)).trans (blk_new _ _ _), (bel_new w _).trans (hW.mono (by omega)), hs⟩
  have H0 : Hid (Below (w.heap.size + 1) (w.alloc (.cells #[.int .i64 (i : Int), .slice (some ⟨b1, o1, none⟩) 32 c1, .slice (some ⟨b2, o2, none⟩) 32 c2, .slice (some ⟨b3, o3, none⟩) 3 c3] 37)) (w.alloc (.cells #[.int .i64 (i : Int), .slice (some ⟨b1, o1, none⟩) 32 c1, .slice (some ⟨b2, o2, none⟩) 32 c2, .slice (some ⟨b3, o3, none⟩) 3 c3] 37)) ∧ (w.alloc (.cells #[.int .i64 (i : Int), .slice (some ⟨b1, o1, none⟩) 32 c1, .slice (some ⟨b2, o2, none⟩) 32 c2, .slice (some ⟨b3, o3, none⟩) 3 c3] 37)).heap.size = w.heap.size + 1) := ⟨Below.refl _ _, size_new _ _⟩
  clear hcell1 hcell2 hcell3 hw1 hw2 hw3 hA hB hC sA sB sC lA lB lC la lb lc za zb zc hm h32 hi hcc
  go_enter Tryz.func44, Tryz.ntmps44
  go_wp2_with fail
  refine (HOK.out _ (bel_new w _)).1.mono ?_
  rintro e w9 ⟨rfl, rfl⟩
  go_wp2_with fail
  refine (HOK.out _ (bel_new w _)).2.1.mono ?_
  rintro e w9 ⟨rfl, rfl⟩
  go_wp2_with fail
  refine (HOK.out _ (bel_new w _)).2.2.mono ?_
  rintro e w9 ⟨rfl, rfl⟩
  go_wp2_with fail
  refine (l01In_any (i : Int) 0 7 _).mono ?_
  rintro e w9 ⟨rfl, rfl⟩
  rw [HIN.out]
  go_wp2_with fail
  refine (l03Bits_any msg _ HZ.out.2.2.2.2.2.2.2).mono ?_
  rintro e w1 ⟨rfl, bl1⟩
  rw [H0.out.2] at bl1
  obtain ⟨bs, HBS⟩ : ∃ bs, Hid (bs = mbits msg) := ⟨_, rfl⟩
  rw [← HBS.out]
  generalize w.alloc (.cells #[.int .i64 (i : Int), .slice (some ⟨b1, o1, none⟩) 32 c1, .slice (some ⟨b2, o2, none⟩) 32 c2, .slice (some ⟨b3, o3, none⟩) 3 c3] 37) = wz at HB H0 bl1
  have hk0 := Lib.run_convert_bytes_const (P := Tryz.prog) w1 22 5 #[.int .u8 107, .int .u8 101, .int .u8 121] 3 3 Tryz.underlying22 Tryz.underlying5
  have F1 : Hid (OwnF (w1.alloc (.cells #[.int .u8 107, .int .u8 101, .int .u8 121] 5 (3, 4))) (w.heap.size + 1) (.slice (some ⟨w1.heap.size, 0, none⟩) 3 3) (allTo (pairTo (dig msg) ta tb 0))) := OwnF.mono (full_lit w1 [107, 101, 121] 3 rfl _ rfl _) (HB.out w1 bl1).2.2
  have G1 : Hid (Below (w.heap.size + 1) wz (w1.alloc (.cells #[.int .u8 107, .int .u8 101, .int .u8 121] 5 (3, 4))))   := bl1.alloc (HB.out w1 bl1).2.2 _
  clear bl1
  go_wp2_with fail
  clear hk0
  go_loopw [8, 9] (fun u j wr => ∃ k : Nat, k ≤ 32 ∧ j = .int .i64 k ∧ OwnF wr (w.heap.size + 1) u (allTo (pairTo (dig msg) ta tb k)) ∧ Below (w.heap.size + 1) wz wr) (fun _ j _ => 32 - (intOf j).toNat)
  case atStart => exact ⟨0, by omega, rfl, F1.out, G1.out⟩
  case round =>
    clear F1 G1
    obtain ⟨k, hk, rfl, ho, hb⟩ := hrel
    obtain ⟨X0, G0, L0⟩ := HB.out wr hb
    by_cases hlt : k < 32
    · have hlt' : decide ((k : Int) < 32) = true := by rw [decide_eq_true_eq]; omega
      have hk32 : (k : Int) < 32 := by omega
      have HF : Hid (∀ W, Below (w.heap.size + 1) wz W → W.cell? ⟨w.heap.size, 1, none⟩ = some (.slice (some ⟨b1, o1, none⟩) 32 c1) ∧ W.cell? ⟨w.heap.size, 2, none⟩ = some (.slice (some ⟨b2, o2, none⟩) 32 c2) ∧ W.cell? ⟨b1, o1 + k, none⟩ = some (.string (tnth ta k)) ∧ W.cell? ⟨b2, o2 + k, none⟩ = some (.string (tnth tb k))) := fun W hW => by
        obtain ⟨Y0, Y1, _⟩ := HB.out W hW
        exact ⟨(blk_cell Y0 1 rfl).1, (blk_cell Y0 2 rfl).1, (Y1.cell (p := ⟨b1, o1 + k, none⟩) HC.out.2.2.2.1).trans (HC.out.1 k hlt), (Y1.cell (p := ⟨b2, o2 + k, none⟩) HC.out.2.2.2.2.1).trans (HC.out.2.1 k hlt)⟩
      have HE : Hid (allTo (pairTo (dig msg) ta tb (k + 1)) = allTo (pairTo (dig msg) ta tb k) ++ bys (pl0 (hashS (bys (tnth ta k))) (tnth tb k) (bn (dig msg) k)) ++ bys (pl1 (hashS (bys (tnth ta k))) (tnth tb k) (bn (dig msg) k))) := allTo_two _ _ _
      have s1 : (tnth ta k).size = 32 := HZ.out.1 _ (tnth_mem (by have := HZ.out; omega))
      have s2 : (tnth tb k).size = 32 := HZ.out.2.1 _ (tnth_mem (by have := HZ.out; omega))
      have HT : Hid ((bys (tnth ta k)).length ≤ 65536 ∧ (hashS (bys (tnth ta k))).size = 32 ∧ (tnth tb k).size = 32) := ⟨by rw [bys_length, s1]; decide, hash32 s1, s2⟩
      have HL : Hid ((allTo (pairTo (dig msg) ta tb k)).length ≤ 100000) := by
        show _ ≤ _
        rw [allTo_len _ (pairTo_all _ ta tb HZ.out.1 HZ.out.2.1 k (by have := HZ.out; omega) (by have := HZ.out; omega)), pairTo_length]
        omega
      have hsz : bs.size = 32 := by rw [HBS.out]; exact mbits_size msg
      have hb1' : k < bs.size := by omega
      have hb2' : (k : Int) < (bs.size : Int) := by omega
      have h3 := mb_at msg bs HBS.out k hlt hb1'
      have h4 := bn_two (dig msg) k
      rw [h4.2] at h3
      have h5 := h4.1
      obtain ⟨x1, x2, x3, x4⟩ := HF.out wr hb
      clear s1 s2 hsz h4 X0
      generalize bn (dig msg) k = bb at HE h3 h5
      generalize tnth ta k = t1 at x3 HF HE HT
      generalize tnth tb k = t2 at x4 HF HE HT
      obtain ⟨v4, w4, hcv, r4, b4⟩ := bytes_run t1 wr
      have R4 : Hid (RowB w4 v4 (bys t1)) := r4
      have B4 : Hid (Below wr.heap.size wr w4) := b4
      clear r4 b4
      go_wp2_with fail
      refine (hash1_any v4 _ w4 R4.out HT.out.1).mono ?_
      rintro e w5 ⟨rfl, b5⟩
      have B5 := B4.out.trans (b5.mono B4.out.size)
      have g5 := hb.trans (B5.mono L0)
      have q5 := OwnF.below ho B5
      have L5 := (HB.out w5 g5).2.2
      obtain ⟨y1, y2, y3, y4⟩ := HF.out w5 g5
      clear b5 B5 x1 x2 x3 x4 ho hb hcv B4 R4 L0 G0
      generalize hashS (bys t1) = t3 at HE HT
      rcases h5 with e0 | e1
      · subst e0
        have hbv : (((bs[k]'hb1').toNat : Int) == 48) = true := by rw [h3]; decide
        have HE2 : Hid (allTo (pairTo (dig msg) ta tb (k + 1)) = allTo (pairTo (dig msg) ta tb k) ++ bys t3 ++ bys t2) := HE.out
        clear h3
        go_wp2_with fail
        go_region_law (first
          | (refine step_strF (by rfl) _ _ 22 9 (by rfl) Tryz.underlying22 Tryz.underlying9 hi0 hz0 hz1 hz2 (w.heap.size + 1) _ _ t3 _ (by rfl) (by rfl) (OwnF.drew q5) L5 (by have := HL.out; have := HT.out; omega) (by have := HT.out; omega) ?_; intro v6 w6 q6 b6; have g6 := g5.drew.trans b6; obtain ⟨z1, z2, z3, z4⟩ := HF.out w6 g6; have L6 := (HB.out w6 g6).2.2)
          | (refine step_strF (by rfl) _ _ 22 9 (by rfl) Tryz.underlying22 Tryz.underlying9 hi0 hz0 hz1 hz2 (w.heap.size + 1) _ _ t2 _ (by rfl) (by rfl) q6 L6 (by rw [List.length_append, bys_length]; have := HL.out; have := HT.out; omega) (by have := HT.out; omega) ?_; intro v7 w7 q7 b7; have g7 := g6.trans b7))
        all_goals
          rw [← HE2.out] at q7
          go_wp2_with fail
          exact ⟨⟨k + 1, by omega, by go_num, q7, g7⟩, by simp [intOf]; omega⟩
      · subst e1
        have hbv : (((bs[k]'hb1').toNat : Int) == 48) = false := by rw [h3]; decide
        have HE2 : Hid (allTo (pairTo (dig msg) ta tb (k + 1)) = allTo (pairTo (dig msg) ta tb k) ++ bys t2 ++ bys t3) := HE.out
        clear h3
        go_wp2_with (at_builtin; first
          | (refine list_strF (by rfl) _ _ 22 9 (by rfl) Tryz.underlying22 Tryz.underlying9 hi0 hz0 hz1 hz2 (w.heap.size + 1) w5 _ t2 _ (by rfl) (by rfl) q5 L5 (by have := HL.out; have := HT.out; omega) (by have := HT.out; omega) ?_; intro v6 w6 q6 b6; have g6 := g5.trans b6; have L6 := (HB.out w6 g6).2.2)
          | (refine list_strF (by rfl) _ _ 22 9 (by rfl) Tryz.underlying22 Tryz.underlying9 hi0 hz0 hz1 hz2 (w.heap.size + 1) w6 _ t3 _ (by rfl) (by rfl) q6 L6 (by rw [List.length_append, bys_length]; have := HL.out; have := HT.out; omega) (by have := HT.out; omega) ?_; intro v7 w7 q7 b7; have g7 := g6.trans b7))
        rw [← HE2.out] at q7
        exact ⟨⟨k + 1, by omega, by go_num, q7, g7⟩, by simp [intOf]; omega⟩
    · obtain rfl : k = 32 := by omega
      have HN : Hid ((allTo (pairTo (dig msg) ta tb 32)).length ≤ 65536 ∧ ∀ z ∈ allTo (pairTo (dig msg) ta tb 32), 0 ≤ z ∧ z ≤ 255) := ⟨by rw [allTo_len _ (pairTo_all _ ta tb HZ.out.1 HZ.out.2.1 32 (by have := HZ.out; omega) (by have := HZ.out; omega)), pairTo_length]; decide, allTo_range _⟩
      have HKE : Hid (hashS (allTo (pairTo (dig msg) ta tb 32)) = keyH (pairTo (dig msg) ta tb 32)) := rfl
      have HUP : Hid (upR msg i ta tb tc = clTo (keyH (pairTo (dig msg) ta tb 32)) i tc 3) := (clTo_all _ i tc HZ.out.2.2.2.2.2.1).symm
      clear X0
      go_wp2_with fail
      refine (hash1_any _ _ wr (OwnF.rowB ho HN.out.2) HN.out.1).mono ?_
      rintro e w3 ⟨rfl, bl3⟩
      rw [HKE.out]
      have g3 := hb.trans (bl3.mono L0)
      obtain ⟨X3, G3, L3⟩ := HB.out w3 g3
      have x0 := (blk_cell X3 0 (x := .int .i64 (i : Int)) rfl).1
      clear bl3 HN HKE ho hb G0 L0 X3
      generalize keyH (pairTo (dig msg) ta tb 32) = kk at HUP HKZ
      have G3' : Hid (Below (w.heap.size + 1) wz w3) := g3
      clear g3 G3 L3
      go_wp2_with fail
      clear x0
      go_loopw [11, 12, 13] (fun h q j wr => ∃ m : Nat, m ≤ 3 ∧ h = .string (clTo kk i tc m) ∧ q = .int .i64 ((i / 2 ^ m : Nat) : Int) ∧ j = .int .i64 m ∧ Below (w.heap.size + 1) wz wr) (fun _ _ j _ => 3 - (intOf j).toNat)
      case atStart => exact ⟨0, by omega, rfl, val_eq (by rw [Nat.pow_zero, Nat.div_one]), rfl, G3'.out⟩
      case round =>
        clear G3'
        obtain ⟨m, hm, rfl, rfl, rfl, hb⟩ := hrel
        obtain ⟨X0, G0, L0⟩ := HB.out wr hb
        by_cases hlt : m < 3
        · have x3 := (blk_cell X0 3 (x := .slice (some ⟨b3, o3, none⟩) 3 c3) rfl).1
          have x4 : wr.cell? ⟨b3, o3 + m, none⟩ = some (.string (tnth tc m)) := (G0.cell (p := ⟨b3, o3 + m, none⟩) HC.out.2.2.2.2.2).trans (HC.out.2.2.1 m hlt)
          have hm3 : (m : Int) < 3 := by omega
          have HS : Hid (clTo kk i tc (m + 1) = if (i / 2 ^ m) % 2 = 0 then node (clTo kk i tc m) (tnth tc m) else node (tnth tc m) (clTo kk i tc m)) := rfl
          have HSZ : Hid ((clTo kk i tc m).size ≤ 30000 ∧ (tnth tc m).size ≤ 30000) := ⟨by rw [clTo_size kk i tc HKZ.out HZ.out.2.2.1 m (by have := HZ.out; omega)]; decide, by rw [HZ.out.2.2.1 _ (tnth_mem (by have := HZ.out; omega))]; decide⟩
          have HD : Hid (i / 2 ^ m / 2 = i / 2 ^ (m + 1)) := by show _ = _; rw [Nat.div_div_eq_div_mul, ← Nat.pow_succ]
          have hq8 : i / 2 ^ m < 8 := Nat.lt_of_le_of_lt (Nat.div_le_self _ _) HZ.out.2.2.2.2.2.2.1
          clear X0
          generalize clTo kk i tc m = hh1 at HS HSZ
          generalize tnth tc m = pp at x4 HS HSZ
          generalize i / 2 ^ m = qq at HS HD hq8
          have hq8' : (qq : Int) < 8 := by omega
          by_cases hpar : qq % 2 = 0
          · have hpar' : ((qq : Int) % 2 == 0) = true := by simp; omega
            rw [if_pos hpar] at HS
            clear hpar
            go_wp2_with fail
            refine (l03Node_any hh1 pp wr HSZ.out.1 HSZ.out.2).mono ?_
            rintro e w5 ⟨rfl, b5⟩
            have g5 := hb.trans (b5.mono L0)
            rw [← HS.out]
            clear b5
            go_wp2_with fail
            exact ⟨⟨m + 1, by omega, rfl, val_eq (by rw [← HD.out]; omega), by go_num, g5⟩, by simp [intOf]; omega⟩
          · have hpar' : ((qq : Int) % 2 == 0) = false := by simp; omega
            rw [if_neg hpar] at HS
            clear hpar
            go_wp2_with fail
            refine (l03Node_any pp hh1 wr HSZ.out.2 HSZ.out.1).mono ?_
            rintro e w5 ⟨rfl, b5⟩
            have g5 := hb.trans (b5.mono L0)
            rw [← HS.out]
            clear b5
            go_wp2_with fail
            exact ⟨⟨m + 1, by omega, rfl, val_eq (by rw [← HD.out]; omega), by go_num, g5⟩, by simp [intOf]; omega⟩
        · obtain rfl : m = 3 := by omega
          obtain ⟨hf3, HH3⟩ : ∃ hf3, Hid (clTo kk i tc 3 = hf3) := ⟨_, rfl⟩
          rw [HH3.out]
          by_cases hq : (upR msg i ta tb tc).toList = root.toList
          · have hqq : (hf3.toList == root.toList) = true := by rw [← HH3.out, ← HUP.out]; simpa using hq
            rw [if_pos hq] at HCV
            clear hq X0
            go_wp2_with fail
            go_ret
            exact ⟨Hf.ret_int HCV.out, G0⟩
          · have hqq : (hf3.toList == root.toList) = false := by rw [← HH3.out, ← HUP.out]; simpa using hq
            rw [if_neg hq] at HCV
            clear hq X0
            go_wp2_with fail
            go_ret
            exact ⟨Hf.ret_int HCV.out, G0⟩
end Go.Proofs.YtimmeclclilpdaaGreatDoor.Cs

/- The specification's CheckSignature, at every argument. -/
namespace Go.Proofs.YtimmeclclilpdaaGreatDoor.Cs
open Go.RowKit Go.Proofs.YtimmeclclilpdaaGreatDoor.Sl Go.Proofs.YtimmeclclilpdaaGreatDoor.By Go.Proofs.YtimmeclclilpdaaGreatDoor.Ap Go.Proofs.YtimmeclclilpdaaGreatDoor.Tx Go.Proofs.YtimmeclclilpdaaGreatDoor.Sh Go.Proofs.YtimmeclclilpdaaGreatDoor.Ho Go.Proofs.YtimmeclclilpdaaGreatDoor.Se Go.Proofs.YtimmeclclilpdaaGreatDoor.Ka Go.Proofs.YtimmeclclilpdaaGreatDoor.Sx Go.Proofs.YtimmeclclilpdaaGreatDoor.Hf Go.Proofs.YtimmeclclilpdaaGreatDoor.Sa Go.Proofs.YtimmeclclilpdaaGreatDoor.Kx Go.Proofs.YtimmeclclilpdaaGreatDoor.Mb Go.Proofs.YtimmeclclilpdaaGreatDoor.Sg

set_option maxRecDepth 100000 in
set_option maxHeartbeats 1600000 in
theorem specCheckSignature_any (root msg : ByteArray) (i : Int) (ua ub uc : Value) (ta tb tc : List ByteArray) (w : World) (ra : RowT w ua ta) (rb : RowT w ub tb) (rc : RowT w uc tc) (la : ta.length ≤ maxLen) (lb : tb.length ≤ maxLen) (lc : tc.length ≤ maxLen) (za : ∀ t ∈ ta, t.size ≤ maxLen) (zb : ∀ t ∈ tb, t.size ≤ maxLen) (zc : ∀ t ∈ tc, t.size ≤ maxLen) :
    Calls Tryz.prog 44 #[.string root, .string msg, .agg #[.int .i64 i, ua, ub, uc]] w fun e w' => e = .returned (.int .i64 (vC root msg i ta tb tc)) ∧ Below w.heap.size w w' := by
  by_cases hm : 65530 < msg.size
  · have HE : Hid (vC root msg i ta tb tc = 2) := if_pos (.inl hm)
    have hm' : (65530 : Int) < (msg.size : Int) := by omega
    obtain ⟨a1, c1, rfl, _⟩ := ra
    obtain ⟨a2, c2, rfl, _⟩ := rb
    obtain ⟨a3, c3, rfl, _⟩ := rc
    go_enter Tryz.func44, Tryz.ntmps44
    go_wp2_with fail
    go_ret
    exact ⟨Hf.ret_int HE.out.symm, bel_new _ _⟩
  have hm' : ¬ (65530 : Int) < (msg.size : Int) := by omega
  by_cases hr : 65536 < root.size
  · have HE : Hid (vC root msg i ta tb tc = 2) := if_pos (.inr hr)
    have hr' : (65536 : Int) < (root.size : Int) := by omega
    obtain ⟨a1, c1, rfl, _⟩ := ra
    obtain ⟨a2, c2, rfl, _⟩ := rb
    obtain ⟨a3, c3, rfl, _⟩ := rc
    go_enter Tryz.func44, Tryz.ntmps44
    go_wp2_with fail
    go_ret
    exact ⟨Hf.ret_int HE.out.symm, bel_new _ _⟩
  have hr' : ¬ (65536 : Int) < (root.size : Int) := by omega
  have hno : ¬ (65530 < msg.size ∨ 65536 < root.size) := fun h => h.elim hm hr
  by_cases h32 : root.size = 32
  · have h32' : ((root.size : Int) != 32) = false := by simp; omega
    cases hA : hsB ta 32 with
    | false =>
      have HE : Hid (vC root msg i ta tb tc = 1) := by show _ = _; unfold vC; rw [if_neg hno, if_neg (fun h => by rw [hA] at h; exact absurd h.2.1 (by decide))]
      have HO : Hid (∀ o, Calls Tryz.prog 78 #[ua, .int .i64 32] (w.alloc o) fun e w' => e = .returned (.bool false) ∧ (w.alloc o) = w') := fun o => by have := l03Hashes_any ua ta 32 (w.alloc o) (ra.below (bel_new _ _)) la za; rw [hA] at this; exact this
      obtain ⟨a1, c1, rfl, _⟩ := ra
      obtain ⟨a2, c2, rfl, _⟩ := rb
      obtain ⟨a3, c3, rfl, _⟩ := rc
      clear la lb lc za zb zc hA h32 hno hm hr
      go_enter Tryz.func44, Tryz.ntmps44
      go_wp2_with fail
      refine (HO.out _).mono ?_
      rintro e w9 ⟨rfl, rfl⟩
      go_wp2_with fail
      go_ret
      exact ⟨Hf.ret_int HE.out.symm, bel_new _ _⟩
    | true =>
    have HO1 : Hid (∀ o, Calls Tryz.prog 78 #[ua, .int .i64 32] (w.alloc o) fun e w' => e = .returned (.bool true) ∧ (w.alloc o) = w') := fun o => by have := l03Hashes_any ua ta 32 (w.alloc o) (ra.below (bel_new _ _)) la za; rw [hA] at this; exact this
    cases hB : hsB tb 32 with
    | false =>
      have HE : Hid (vC root msg i ta tb tc = 1) := by show _ = _; unfold vC; rw [if_neg hno, if_neg (fun h => by rw [hB] at h; exact absurd h.2.2.1 (by decide))]
      have HO : Hid (∀ o, Calls Tryz.prog 78 #[ub, .int .i64 32] (w.alloc o) fun e w' => e = .returned (.bool false) ∧ (w.alloc o) = w') := fun o => by have := l03Hashes_any ub tb 32 (w.alloc o) (rb.below (bel_new _ _)) lb zb; rw [hB] at this; exact this
      obtain ⟨a1, c1, rfl, _⟩ := ra
      obtain ⟨a2, c2, rfl, _⟩ := rb
      obtain ⟨a3, c3, rfl, _⟩ := rc
      clear la lb lc za zb zc hA hB h32 hno hm hr
      go_enter Tryz.func44, Tryz.ntmps44
      go_wp2_with fail
      refine (HO1.out _).mono ?_
      rintro e w9 ⟨rfl, rfl⟩
      go_wp2_with fail
      refine (HO.out _).mono ?_
      rintro e w9 ⟨rfl, rfl⟩
      go_wp2_with fail
      go_ret
      exact ⟨Hf.ret_int HE.out.symm, bel_new _ _⟩
    | true =>
    have HO2 : Hid (∀ o, Calls Tryz.prog 78 #[ub, .int .i64 32] (w.alloc o) fun e w' => e = .returned (.bool true) ∧ (w.alloc o) = w') := fun o => by have := l03Hashes_any ub tb 32 (w.alloc o) (rb.below (bel_new _ _)) lb zb; rw [hB] at this; exact this
    cases hC : hsB tc 3 with
    | false =>
      have HE : Hid (vC root msg i ta tb tc = 1) := by show _ = _; unfold vC; rw [if_neg hno, if_neg (fun h => by rw [hC] at h; exact absurd h.2.2.2 (by decide))]
      have HO : Hid (∀ o, Calls Tryz.prog 78 #[uc, .int .i64 3] (w.alloc o) fun e w' => e = .returned (.bool false) ∧ (w.alloc o) = w') := fun o => by have := l03Hashes_any uc tc 3 (w.alloc o) (rc.below (bel_new _ _)) lc zc; rw [hC] at this; exact this
      obtain ⟨a1, c1, rfl, _⟩ := ra
      obtain ⟨a2, c2, rfl, _⟩ := rb
      obtain ⟨a3, c3, rfl, _⟩ := rc
      clear la lb lc za zb zc hA hB hC h32 hno hm hr
      go_enter Tryz.func44, Tryz.ntmps44
      go_wp2_with fail
      refine (HO1.out _).mono ?_
      rintro e w9 ⟨rfl, rfl⟩
      go_wp2_with fail
      refine (HO2.out _).mono ?_
      rintro e w9 ⟨rfl, rfl⟩
      go_wp2_with fail
      refine (HO.out _).mono ?_
      rintro e w9 ⟨rfl, rfl⟩
      go_wp2_with fail
      go_ret
      exact ⟨Hf.ret_int HE.out.symm, bel_new _ _⟩
    | true =>
    have hyes : root.size = 32 ∧ hsB ta 32 = true ∧ hsB tb 32 = true ∧ hsB tc 3 = true := ⟨h32, hA, hB, hC⟩
    cases hI : inR i 0 7 with
    | false =>
      have HE : Hid (vC root msg i ta tb tc = 4) := by show _ = _; unfold vC; rw [if_neg hno, if_pos hyes, if_neg (by rw [hI]; decide)]
      have HO3 : Hid (∀ o, Calls Tryz.prog 78 #[uc, .int .i64 3] (w.alloc o) fun e w' => e = .returned (.bool true) ∧ (w.alloc o) = w') := fun o => by have := l03Hashes_any uc tc 3 (w.alloc o) (rc.below (bel_new _ _)) lc zc; rw [hC] at this; exact this
      obtain ⟨a1, c1, rfl, _⟩ := ra
      obtain ⟨a2, c2, rfl, _⟩ := rb
      obtain ⟨a3, c3, rfl, _⟩ := rc
      have HI : Hid (inR i 0 7 = false) := hI
      clear la lb lc za zb zc hA hB hC h32 hno hm hr hyes hI
      go_enter Tryz.func44, Tryz.ntmps44
      go_wp2_with fail
      refine (HO1.out _).mono ?_
      rintro e w9 ⟨rfl, rfl⟩
      go_wp2_with fail
      refine (HO2.out _).mono ?_
      rintro e w9 ⟨rfl, rfl⟩
      go_wp2_with fail
      refine (HO3.out _).mono ?_
      rintro e w9 ⟨rfl, rfl⟩
      go_wp2_with fail
      refine (l01In_any i 0 7 _).mono ?_
      rintro e w9 ⟨rfl, rfl⟩
      rw [HI.out]
      go_wp2_with fail
      go_ret
      exact ⟨Hf.ret_int HE.out.symm, bel_new _ _⟩
    | true =>
      obtain ⟨i1, i2⟩ := inR_nat hI
      obtain ⟨i, rfl⟩ := Int.eq_ofNat_of_zero_le i1
      refine specCheck_go root msg i ua ub uc ta tb tc w ra rb rc (by omega) h32 hA hB hC (by omega) la lb lc za zb zc _ ?_
      unfold vC
      rw [if_neg hno, if_pos hyes, if_pos hI, Int.toNat_natCast]
  · have HE : Hid (vC root msg i ta tb tc = 1) := by show _ = _; unfold vC; rw [if_neg hno, if_neg (fun h => h32 h.1)]
    have h32' : ((root.size : Int) != 32) = true := by simp; omega
    obtain ⟨a1, c1, rfl, _⟩ := ra
    obtain ⟨a2, c2, rfl, _⟩ := rb
    obtain ⟨a3, c3, rfl, _⟩ := rc
    clear h32
    go_enter Tryz.func44, Tryz.ntmps44
    go_wp2_with fail
    go_ret
    exact ⟨Hf.ret_int HE.out.symm, bel_new _ _⟩
end Go.Proofs.YtimmeclclilpdaaGreatDoor.Cs
