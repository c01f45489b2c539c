/- Signatures that are checked: lists of hashes, the way up. -/
import Derived.Test.YtiflfcpoajijaaaGreatDoorJMakeCertificate13
import Derived.Deep.RegionLaw
import Derived.Deep.RegionWith
namespace Go.Proofs.YtiflfcpoajijaaaGreatDoor.Cs
open Go.RowKit Go.Proofs.YtiflfcpoajijaaaGreatDoor.Sl Go.Proofs.YtiflfcpoajijaaaGreatDoor.By Go.Proofs.YtiflfcpoajijaaaGreatDoor.Ap Go.Proofs.YtiflfcpoajijaaaGreatDoor.Tx Go.Proofs.YtiflfcpoajijaaaGreatDoor.Sh Go.Proofs.YtiflfcpoajijaaaGreatDoor.Ho Go.Proofs.YtiflfcpoajijaaaGreatDoor.Se Go.Proofs.YtiflfcpoajijaaaGreatDoor.Ka Go.Proofs.YtiflfcpoajijaaaGreatDoor.Sx Go.Proofs.YtiflfcpoajijaaaGreatDoor.Hf Go.Proofs.YtiflfcpoajijaaaGreatDoor.Sa Go.Proofs.YtiflfcpoajijaaaGreatDoor.Kx Go.Proofs.YtiflfcpoajijaaaGreatDoor.Mb Go.Proofs.YtiflfcpoajijaaaGreatDoor.Sg

/-- Whether a list is of n hashes. -/
def hsB (ts : List ByteArray) (n : Nat) : Bool := decide (ts.length = n) && ts.all (fun t => decide (t.size = 32))
theorem hs_yes {ts : List ByteArray} {n : Nat} (hn : ts.length = n) (h : ∀ j, j < ts.length → (tnth ts j).size = 32) : hsB ts n = true := by
  unfold hsB
  rw [decide_eq_true hn, Bool.true_and, List.all_eq_true]
  intro t ht
  obtain ⟨i, hi, rfl⟩ := List.getElem_of_mem ht
  have := h i hi
  rw [decide_eq_true_eq]
  have e : tnth ts i = ts[i] := by unfold tnth; rw [List.getD_eq_getElem?_getD, List.getElem?_eq_getElem hi]; rfl
  rw [← e]; exact this
theorem hs_len {ts : List ByteArray} {n : Nat} (hn : ts.length ≠ n) : hsB ts n = false := by unfold hsB; rw [decide_eq_false hn]; rfl
theorem hs_bad {ts : List ByteArray} {n k : Nat} (hk : k < ts.length) (h : (tnth ts k).size ≠ 32) : hsB ts n = false := by
  unfold hsB
  have : ts.all (fun t => decide (t.size = 32)) = false := by
    rw [List.all_eq_false]
    exact ⟨tnth ts k, tnth_mem hk, by simpa using h⟩
  rw [this, Bool.and_false]
theorem hs_get {ts : List ByteArray} {n : Nat} (h : hsB ts n = true) : ts.length = n ∧ ∀ t ∈ ts, t.size = 32 := by
  unfold hsB at h
  rw [Bool.and_eq_true, decide_eq_true_eq, List.all_eq_true] at h
  exact ⟨h.1, fun t ht => of_decide_eq_true (h.2 t ht)⟩
/-- Whether all of a list are hashes. -/
def haB (ts : List ByteArray) : Bool := ts.all (fun t => decide (t.size = 32))
theorem hs_ha (ts : List ByteArray) (n : Nat) : hsB ts n = (decide (ts.length = n) && haB ts) := rfl
theorem ha_yes {ts : List ByteArray} (h : ∀ j, j < ts.length → (tnth ts j).size = 32) : haB ts = true := by
  have := hs_yes rfl h
  rw [hs_ha, decide_eq_true rfl, Bool.true_and] at this
  exact this
theorem ha_bad {ts : List ByteArray} {k : Nat} (hk : k < ts.length) (h : (tnth ts k).size ≠ 32) : haB ts = false := by
  have := hs_bad (n := ts.length) hk h
  rw [hs_ha, decide_eq_true rfl, Bool.true_and] at this
  exact this
theorem ha_get {ts : List ByteArray} (h : haB ts = true) : ∀ t ∈ ts, t.size = 32 := by
  have : hsB ts ts.length = true := by rw [hs_ha, decide_eq_true rfl, Bool.true_and]; exact h
  exact (hs_get this).2
set_option maxRecDepth 100000 in
set_option maxHeartbeats 400000 in
theorem allHashes_any (v : Value) (ts : List ByteArray) (w : World) (h : RowT w v ts) (hl : ts.length ≤ maxLen) (hz : ∀ t ∈ ts, t.size ≤ maxLen) :
    Calls Tryz.prog 111 #[v] w fun e w' => e = .returned (.bool (haB ts)) ∧ w = w' := by
  obtain ⟨a, cap, rfl, h⟩ := h
  unfold maxLen at hl
  have HM : Hid (∀ i, i < ts.length → (tnth ts i).size ≤ maxLen) := fun i hi => hz _ (tnth_mem hi)
  clear hz
  go_enter Tryz.func111, Tryz.ntmps111
  go_wp2_with fail
  go_loop [7] (fun i => ∃ k : Nat, k ≤ ts.length ∧ i = .int .i64 k ∧ Hid (∀ j, j < k → (tnth ts j).size = 32)) (fun i => ts.length - (intOf i).toNat)
  case atStart => exact ⟨0, by omega, rfl, fun j hj => absurd hj (by omega)⟩
  case round =>
    obtain ⟨k, hk, rfl, HI⟩ := hrel
    by_cases hlt : k < ts.length
    · rcases h with h | ⟨b, off, rfl, hc, hb, hcell⟩
      · exact absurd hlt (by rw [h]; simp)
      have c1 := hcell k hlt
      have hp1 : (k : Int) < (ts.length : Int) := by omega
      by_cases h32 : (tnth ts k).size = 32
      · have HJ : Hid (∀ j, j < k + 1 → (tnth ts j).size = 32) := fun j hj => by
          by_cases e : j = k
          · subst e; exact h32
          · exact HI.out j (by omega)
        have h32' : (((tnth ts k).size : Int) != 32) = false := by simp; omega
        clear hcell h32
        generalize tnth ts k = t at c1 h32'
        go_wp2_with fail
        go_round
        case rel => exact ⟨k + 1, by omega, by go_num, HJ⟩
        case measure => simp [intOf]; omega
      · have HE : Hid (haB ts = false) := ha_bad hlt h32
        have h32' : (((tnth ts k).size : Int) != 32) = true := by simp; omega
        clear hcell h32
        generalize tnth ts k = t at c1 h32'
        go_wp2_with fail
        go_ret
        exact ⟨Hf.ret_bool HE.out.symm, rfl⟩
    · obtain rfl : k = ts.length := by omega
      have HE : Hid (haB ts = true) := ha_yes HI.out
      go_wp2_with fail
      go_ret
      exact ⟨Hf.ret_bool HE.out.symm, rfl⟩
set_option maxRecDepth 100000 in
set_option maxHeartbeats 400000 in
theorem hashesOK_any (v : Value) (ts : List ByteArray) (n : Nat) (w : World) (h : RowT w v ts) (hl : ts.length ≤ maxLen) (hz : ∀ t ∈ ts, t.size ≤ maxLen) :
    Calls Tryz.prog 89 #[v, .int .i64 n] w fun e w' => e = .returned (.bool (hsB ts n)) ∧ w = w' := by
  have HA : Hid (Calls Tryz.prog 111 #[v] w fun e w' => e = .returned (.bool (haB ts)) ∧ w = w') := allHashes_any v ts w h hl hz
  have HE : Hid (hsB ts n = (decide (ts.length = n) && haB ts)) := rfl
  obtain ⟨a, cap, rfl, h⟩ := h
  generalize haB ts = hb at HA HE
  by_cases hn : ts.length = n
  · have hne : ((ts.length : Int) == (n : Int)) = true := by simp; omega
    rw [decide_eq_true hn, Bool.true_and] at HE
    clear hn h hz hl
    go_enter Tryz.func89, Tryz.ntmps89
    go_wp2_with (first | (go_at_call 111; refine HA.out.mono ?_; rintro e w3 ⟨rfl, rfl⟩) | fail)
    go_ret
    exact ⟨Hf.ret_bool HE.out.symm, rfl⟩
  · have hne : ((ts.length : Int) == (n : Int)) = false := by simp; omega
    rw [decide_eq_false hn, Bool.false_and] at HE
    clear hn h hz hl
    go_enter Tryz.func89, Tryz.ntmps89
    go_wp2_with fail
    go_ret
    exact ⟨Hf.ret_bool HE.out.symm, rfl⟩
set_option maxRecDepth 100000 in
set_option maxHeartbeats 400000 in
theorem l03Hashes_any (v : Value) (ts : List ByteArray) (n : Nat) (w : World) (h : RowT w v ts) (hl : ts.length ≤ maxLen) (_hz : ∀ t ∈ ts, t.size ≤ maxLen) :
    Calls Tryz.prog 72 #[v, .int .i64 n] w fun e w' => e = .returned (.bool (hsB ts n)) ∧ w = w' := by
  obtain ⟨a, cap, rfl, h⟩ := h
  unfold maxLen at hl
  by_cases hn : ts.length = n
  · subst hn
    have hne : ((ts.length : Int) != (ts.length : Int)) = false := by simp
    go_enter Tryz.func72, Tryz.ntmps72
    go_wp2_with fail
    go_loop [5] (fun i => ∃ k : Nat, k ≤ ts.length ∧ i = .int .i64 k ∧ Hid (∀ j, j < k → (tnth ts j).size = 32)) (fun i => ts.length - (intOf i).toNat)
    case atStart => exact ⟨0, by omega, rfl, fun j hj => absurd hj (by omega)⟩
    case round =>
      obtain ⟨k, hk, rfl, HI⟩ := hrel
      by_cases hlt : k < ts.length
      · rcases h with h | ⟨b, off, rfl, hc, hb, hcell⟩
        · exact absurd hlt (by rw [h]; simp)
        have c1 := hcell k hlt
        have hp1 : (k : Int) < (ts.length : Int) := by omega
        by_cases h32 : (tnth ts k).size = 32
        · have HJ : Hid (∀ j, j < k + 1 → (tnth ts j).size = 32) := fun j hj => by
            by_cases e : j = k
            · subst e; exact h32
            · exact HI.out j (by omega)
          have h32' : (((tnth ts k).size : Int) != 32) = false := by simp; omega
          clear hcell h32
          generalize tnth ts k = t at c1 h32'
          go_wp2_with fail
          go_round
          case rel => exact ⟨k + 1, by omega, by go_num, HJ⟩
          case measure => simp [intOf]; omega
        · have HE : Hid (hsB ts ts.length = false) := hs_bad hlt h32
          have h32' : (((tnth ts k).size : Int) != 32) = true := by simp; omega
          clear hcell h32
          generalize tnth ts k = t at c1 h32'
          go_wp2_with fail
          go_ret
          exact ⟨Hf.ret_bool HE.out.symm, rfl⟩
      · obtain rfl : k = ts.length := by omega
        have HE : Hid (hsB ts ts.length = true) := hs_yes rfl HI.out
        go_wp2_with fail
        go_ret
        exact ⟨Hf.ret_bool HE.out.symm, rfl⟩
  · have HE : Hid (hsB ts n = false) := hs_len hn
    have hne : ((ts.length : Int) != (n : Int)) = true := by simp; omega
    clear hn
    go_enter Tryz.func72, Tryz.ntmps72
    go_wp2_with fail
    go_ret
    exact ⟨Hf.ret_bool HE.out.symm, rfl⟩

/-- The way up from a hash, beside which a path's hashes stand. -/
def stepUp (h : ByteArray) (k : Nat) (p : ByteArray) : ByteArray := if k % 2 = 0 then node h p else node p h
def climb : ByteArray → Nat → List ByteArray → ByteArray
  | h, _, [] => h
  | h, k, p :: ps => climb (stepUp h k p) (k / 2) ps
theorem stepUp_size (h : ByteArray) (k : Nat) (p : ByteArray) (h1 : h.size = 32) (h2 : p.size = 32) : (stepUp h k p).size = 32 := by
  unfold stepUp
  split
  · exact node_size _ _ (by omega) (by omega)
  · exact node_size _ _ (by omega) (by omega)
theorem row_tail {w : World} {a : Option Addr} {cap : Nat} {p : ByteArray} {ps : List ByteArray} (h : RowT w (.slice a (ps.length + 1) cap) (p :: ps)) : RowT w (.slice (if cap = 1 then a else a.map (·.add 1)) ps.length (cap - 1)) ps ∧ (∃ b off, a = some ⟨b, off, none⟩ ∧ w.cell? ⟨b, off, none⟩ = some (.string p)) ∧ 1 ≤ cap := by
  obtain ⟨a', cap', e, h⟩ := h
  simp only [List.length_cons, Value.slice.injEq, true_and] at e
  obtain ⟨rfl, rfl⟩ := e
  rcases h with h | ⟨b, off, rfl, hc, hlt, h⟩
  · cases h
  · simp only [List.length_cons] at hc
    refine ⟨⟨_, _, rfl, ?_⟩, ⟨b, off, rfl, ?_⟩, by omega⟩
    · by_cases h0 : ps = []
      · exact .inl h0
      · have hpos : 0 < ps.length := List.length_pos_iff.2 h0
        rw [if_neg (by omega)]
        refine .inr ⟨b, off + 1, by simp [Ap.addr_add], by omega, hlt, fun i hi => ?_⟩
        have := h (i + 1) (by simp; omega)
        rw [Nat.add_assoc, Nat.add_comm 1 i]
        exact this
    · have := h 0 (by simp)
      rw [Nat.add_zero] at this
      exact this
set_option maxRecDepth 100000 in
set_option maxHeartbeats 800000 in
theorem rootAbove_any : ∀ (ps : List ByteArray) (h : ByteArray) (k : Nat) (v : Value) (w : World), RowT w v ps → (∀ p ∈ ps, p.size = 32) → h.size = 32 → k < 8 → KTab w → 0 < w.heap.size →
    Calls Tryz.prog 90 #[.string h, .int .i64 k, v] w fun e w' => e = .returned (.string (climb h k ps)) ∧ Below w.heap.size w w'
  | [], h, k, v, w, hr, _, _, _, _, _ => by
    obtain ⟨a, cap, rfl, _⟩ := hr
    have HE : Hid (climb h k [] = h) := rfl
    go_enter Tryz.func90, Tryz.ntmps90
    go_wp2_with fail
    go_ret
    exact ⟨Tx.ret_str HE.out.symm, Below.refl _ _⟩
  | p :: ps, h, k, v, w, hr, hz, h32, hk, hK, hp => by
    have HI : Hid (∀ (h : ByteArray) (k : Nat) (v : Value) (w : World), RowT w v ps → (∀ p ∈ ps, p.size = 32) → h.size = 32 → k < 8 → KTab w → 0 < w.heap.size → Calls Tryz.prog 90 #[.string h, .int .i64 k, v] w fun e w' => e = .returned (.string (climb h k ps)) ∧ Below w.heap.size w w') := rootAbove_any ps
    have HE : Hid (climb h k (p :: ps) = climb (stepUp h k p) (k / 2) ps) := rfl
    have GK : Hid (KTab w ∧ 0 < w.heap.size) := ⟨hK, hp⟩
    obtain ⟨a, cap, rfl, _⟩ := id hr
    simp only [List.length_cons] at hr ⊢
    obtain ⟨r2, ⟨b, off, rfl, c1⟩, hcap⟩ := row_tail hr
    have HR : Hid (RowT w (.slice (if cap = 1 then some ⟨b, off, none⟩ else some ⟨b, off + 1, none⟩) ps.length (cap - 1)) ps) := by
      have := r2
      simp only [Option.map_some, Ap.addr_add] at this
      exact this
    have hle : (1 : Int) ≤ (ps.length : Int) + 1 := by omega
    have hwr : IntKind.i64.wrap ((k : Int) / 2) = (k : Int) / 2 := by rw [IntKind.wrap_i64]; omega
    have HI2 : Hid (∀ (h : ByteArray) (v : Value) (w : World), RowT w v ps → (∀ p ∈ ps, p.size = 32) → h.size = 32 → KTab w → 0 < w.heap.size → Calls Tryz.prog 90 #[.string h, .int .i64 ((k : Int) / 2), v] w fun e w' => e = .returned (.string (climb h (k / 2) ps)) ∧ Below w.heap.size w w') := fun h v w h1 h2 h3 h4 h5 => by
      have := HI.out h (k / 2) v w h1 h2 h3 (by omega) h4 h5
      rwa [show ((k / 2 : Nat) : Int) = (k : Int) / 2 by omega] at this
    have HZ : Hid (p.size = 32 ∧ (∀ q ∈ ps, q.size = 32) ∧ h.size = 32) := ⟨hz p List.mem_cons_self, fun q hq => hz q (List.mem_cons_of_mem _ hq), h32⟩
    have hk8 : (k : Int) < 8 := by omega
    have hk0 : ¬ ((ps.length : Int) + 1 = 0) := by omega
    have hk1 : (((ps.length : Int) + 1) == 0) = false := by simp; omega
    have hps : (ps.length + 1 : Nat) ≤ cap := by
      obtain ⟨a', cap', e, h'⟩ := hr
      simp only [List.length_cons, Value.slice.injEq, true_and] at e
      obtain ⟨_, rfl⟩ := e
      rcases h' with h' | ⟨_, _, _, hc, _⟩
      · cases h'
      · simpa using hc
    have HS : Hid (stepUp h k p = if k % 2 = 0 then node h p else node p h) := rfl
    have HSZ : Hid ((stepUp h k p).size = 32) := stepUp_size h k p h32 (hz p List.mem_cons_self)
    clear hr hz h32 hK hp r2
    by_cases hc1 : cap = 1
    · subst hc1
      rw [if_pos rfl] at HR
      obtain rfl : ps = [] := List.length_eq_zero_iff.1 (by omega)
      change Hid (RowT w (.slice (some ⟨b, off, none⟩) 0 0) []) at HR
      by_cases hpar : k % 2 = 0
      · have hpar' : (k : Int) % 2 = 0 := by omega
        rw [if_pos hpar] at HS
        go_enter Tryz.func90, Tryz.ntmps90
        go_wp2_with (first | (go_at_call 112; go_in) | fail)
        have KD : Hid (KTab w.drew ∧ 0 < w.drew.heap.size) := ⟨GK.out.1.below (Below.refl w.heap.size w).drew GK.out.2, GK.out.2⟩
        go_region_law (first
          | (go_simp; go_at_call 113; refine (nodeOf_any h p _ (by have := HZ.out; omega) (by have := HZ.out; omega) KD.out.1 KD.out.2).mono ?_; rintro e w3 ⟨rfl, b3⟩; have g3 := (ordB rfl b3).1; clear b3; try go_simp)
          | (go_simp; go_at_call 90; refine (HI2.out _ _ _ (HR.out.below g3) HZ.out.2.1 (by rw [← HS.out]; exact HSZ.out) (GK.out.1.below g3 GK.out.2) (Nat.lt_of_lt_of_le GK.out.2 g3.size)).mono ?_; rintro e w4 ⟨rfl, b4⟩; have g4 := g3.trans (b4.mono g3.size); clear b4; try go_simp))
        all_goals
          go_wp2_with fail
          go_ret
          exact ⟨Tx.ret_str (by rw [HE.out, HS.out]), g4⟩
      · have hpar' : (k : Int) % 2 = 1 := by omega
        rw [if_neg hpar] at HS
        go_enter Tryz.func90, Tryz.ntmps90
        go_wp2_with (first | (go_at_call 112; go_in) | fail)
        have KD : Hid (KTab w.drew ∧ 0 < w.drew.heap.size) := ⟨GK.out.1.below (Below.refl w.heap.size w).drew GK.out.2, GK.out.2⟩
        go_region_law (first
          | (go_simp; go_at_call 113; refine (nodeOf_any p h _ (by have := HZ.out; omega) (by have := HZ.out; omega) KD.out.1 KD.out.2).mono ?_; rintro e w3 ⟨rfl, b3⟩; have g3 := (ordB rfl b3).1; clear b3; try go_simp)
          | (go_simp; go_at_call 90; refine (HI2.out _ _ _ (HR.out.below g3) HZ.out.2.1 (by rw [← HS.out]; exact HSZ.out) (GK.out.1.below g3 GK.out.2) (Nat.lt_of_lt_of_le GK.out.2 g3.size)).mono ?_; rintro e w4 ⟨rfl, b4⟩; have g4 := g3.trans (b4.mono g3.size); clear b4; try go_simp))
        all_goals
          go_wp2_with fail
          go_ret
          exact ⟨Tx.ret_str (by rw [HE.out, HS.out]), g4⟩
    · rw [if_neg hc1] at HR
      by_cases hpar : k % 2 = 0
      · have hpar' : (k : Int) % 2 = 0 := by omega
        rw [if_pos hpar] at HS
        go_enter Tryz.func90, Tryz.ntmps90
        go_wp2_with (first | (go_at_call 112; go_in) | fail)
        have KD : Hid (KTab w.drew ∧ 0 < w.drew.heap.size) := ⟨GK.out.1.below (Below.refl w.heap.size w).drew GK.out.2, GK.out.2⟩
        go_region_law (first
          | (go_simp; go_at_call 113; refine (nodeOf_any h p _ (by have := HZ.out; omega) (by have := HZ.out; omega) KD.out.1 KD.out.2).mono ?_; rintro e w3 ⟨rfl, b3⟩; have g3 := (ordB rfl b3).1; clear b3; try go_simp)
          | (go_simp; go_at_call 90; refine (HI2.out _ _ _ (HR.out.below g3) HZ.out.2.1 (by rw [← HS.out]; exact HSZ.out) (GK.out.1.below g3 GK.out.2) (Nat.lt_of_lt_of_le GK.out.2 g3.size)).mono ?_; rintro e w4 ⟨rfl, b4⟩; have g4 := g3.trans (b4.mono g3.size); clear b4; try go_simp))
        all_goals
          go_wp2_with fail
          go_ret
          exact ⟨Tx.ret_str (by rw [HE.out, HS.out]), g4⟩
      · have hpar' : (k : Int) % 2 = 1 := by omega
        rw [if_neg hpar] at HS
        go_enter Tryz.func90, Tryz.ntmps90
        go_wp2_with (first | (go_at_call 112; go_in) | fail)
        have KD : Hid (KTab w.drew ∧ 0 < w.drew.heap.size) := ⟨GK.out.1.below (Below.refl w.heap.size w).drew GK.out.2, GK.out.2⟩
        go_region_law (first
          | (go_simp; go_at_call 113; refine (nodeOf_any p h _ (by have := HZ.out; omega) (by have := HZ.out; omega) KD.out.1 KD.out.2).mono ?_; rintro e w3 ⟨rfl, b3⟩; have g3 := (ordB rfl b3).1; clear b3; try go_simp)
          | (go_simp; go_at_call 90; refine (HI2.out _ _ _ (HR.out.below g3) HZ.out.2.1 (by rw [← HS.out]; exact HSZ.out) (GK.out.1.below g3 GK.out.2) (Nat.lt_of_lt_of_le GK.out.2 g3.size)).mono ?_; rintro e w4 ⟨rfl, b4⟩; have g4 := g3.trans (b4.mono g3.size); clear b4; try go_simp))
        all_goals
          go_wp2_with fail
          go_ret
          exact ⟨Tx.ret_str (by rw [HE.out, HS.out]), g4⟩
end Go.Proofs.YtiflfcpoajijaaaGreatDoor.Cs
