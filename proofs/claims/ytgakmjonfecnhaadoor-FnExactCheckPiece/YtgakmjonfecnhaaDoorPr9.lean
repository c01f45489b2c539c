/- CheckPiece: what both functions answer. -/
import Derived.Test.YtgakmjonfecnhaaDoorPq9
namespace Go.Proofs.YtgakmjonfecnhaaDoor.Pw
open Go.RowKit Go.Proofs.YtgakmjonfecnhaaDoor.Sl Go.Proofs.YtgakmjonfecnhaaDoor.By Go.Proofs.YtgakmjonfecnhaaDoor.Ap Go.Proofs.YtgakmjonfecnhaaDoor.Tx Go.Proofs.YtgakmjonfecnhaaDoor.Sh Go.Proofs.YtgakmjonfecnhaaDoor.Ho Go.Proofs.YtgakmjonfecnhaaDoor.Se Go.Proofs.YtgakmjonfecnhaaDoor.Ka Go.Proofs.YtgakmjonfecnhaaDoor.Sx Go.Proofs.YtgakmjonfecnhaaDoor.Pf Go.Proofs.YtgakmjonfecnhaaDoor.Px Go.Proofs.YtgakmjonfecnhaaDoor.Py

theorem toList_ne {a b : ByteArray} (h : a ≠ b) : (a.toList == b.toList) = false := by
  rw [beq_eq_false_iff_ne]
  intro e
  apply h
  rw [Lib.toList_data, Lib.toList_data] at e
  exact ByteArray.ext (Array.toList_inj.1 e)
theorem toList_eq {a b : ByteArray} (h : a = b) : (a.toList == b.toList) = true := by rw [h]; simp
theorem inP_get {n a b : Int} (h : inP n a b = true) : a ≤ n ∧ n ≤ b := by
  unfold inP at h
  rw [Bool.and_eq_true, decide_eq_true_eq, decide_eq_true_eq] at h
  exact h
/-- Whether all of a list are hashes. -/
def haP (ts : List ByteArray) : Bool := ts.all (fun t => decide (t.size = 32))
theorem ha_yes {ts : List ByteArray} (h : ∀ j, j < ts.length → (tnth ts j).size = 32) : haP ts = true := by
  unfold haP
  rw [List.all_eq_true]
  intro t ht
  obtain ⟨i, hi, rfl⟩ := List.getElem_of_mem ht
  have := h i hi
  rw [decide_eq_true_eq]
  have e : tnth ts i = ts[i] := by unfold tnth; rw [List.getD_eq_getElem?_getD, List.getElem?_eq_getElem hi]; rfl
  rw [← e]; exact this
theorem ha_bad {ts : List ByteArray} {k : Nat} (hk : k < ts.length) (h : (tnth ts k).size ≠ 32) : haP ts = false := by
  unfold haP
  rw [List.all_eq_false]
  exact ⟨tnth ts k, tnth_mem hk, by simpa using h⟩
theorem ha_get {ts : List ByteArray} (h : haP ts = true) : ∀ t ∈ ts, t.size = 32 := by
  unfold haP at h
  rw [List.all_eq_true] at h
  exact fun t ht => of_decide_eq_true (h t ht)
set_option maxRecDepth 100000 in
set_option maxHeartbeats 400000 in
theorem allHashes_any (v : Value) (ts : List ByteArray) (w : World) (h : RowT w v ts) (hl : ts.length ≤ 1048576) :
    Calls Tryd.prog 74 #[v] w fun e w' => e = .returned (.bool (haP ts)) ∧ w = w' := by
  obtain ⟨a, cap, rfl, h⟩ := h
  go_enter Tryd.func74, Tryd.ntmps74
  go_wp2_with fail
  go_loop [7] (fun i => ∃ k : Nat, k ≤ ts.length ∧ i = .int .i64 k ∧ Hid (∀ j, j < k → (tnth ts j).size = 32)) (fun i => ts.length - (intOf i).toNat)
  case atStart => exact ⟨0, by omega, rfl, fun j hj => absurd hj (by omega)⟩
  case round =>
    obtain ⟨k, hk, rfl, HI⟩ := hrel
    by_cases hlt : k < ts.length
    · rcases h with h | ⟨b, off, rfl, hc, hb, hcell⟩
      · exact absurd hlt (by rw [h]; simp)
      have c1 := hcell k hlt
      have hp1 : (k : Int) < (ts.length : Int) := by omega
      by_cases h32 : (tnth ts k).size = 32
      · have HJ : Hid (∀ j, j < k + 1 → (tnth ts j).size = 32) := fun j hj => by
          by_cases e : j = k
          · subst e; exact h32
          · exact HI.out j (by omega)
        have h32' : (((tnth ts k).size : Int) != 32) = false := by simp; omega
        clear hcell h32
        generalize tnth ts k = t at c1 h32'
        go_wp2_with fail
        go_round
        case rel => exact ⟨k + 1, by omega, by go_num, HJ⟩
        case measure => simp [intOf]; omega
      · have HE : Hid (haP ts = false) := ha_bad hlt h32
        have h32' : (((tnth ts k).size : Int) != 32) = true := by simp; omega
        clear hcell h32
        generalize tnth ts k = t at c1 h32'
        go_wp2_with fail
        go_ret
        exact ⟨retB HE.out.symm, rfl⟩
    · obtain rfl : k = ts.length := by omega
      have HE : Hid (haP ts = true) := ha_yes HI.out
      go_wp2_with fail
      go_ret
      exact ⟨retB HE.out.symm, rfl⟩
open Classical in
/-- What CheckPiece answers. -/
noncomputable def ckC (root piece : ByteArray) (i n : Int) (ps : List ByteArray) : Int :=
  if 65536 < root.size ∨ 65536 < piece.size ∨ 4096 < ps.length then 2
  else if root.size ≠ 32 ∨ haP ps = false ∨ 32 < piece.size then 1
  else if inP n 1 64 = true ∧ inP i 0 (n - 1) = true then
    (if ps.length = szP 64 i.toNat n.toNat then (if upF 64 (leaf piece) i.toNat n.toNat ps = root then 0 else 11) else 10)
  else 4
section
variable {root piece : ByteArray} {i n : Int} {ps : List ByteArray}
theorem ck_long (h : 65536 < root.size ∨ 65536 < piece.size ∨ 4096 < ps.length) : ckC root piece i n ps = 2 := if_pos h
theorem ck_bad (h0 : ¬ (65536 < root.size ∨ 65536 < piece.size ∨ 4096 < ps.length)) (h : root.size ≠ 32 ∨ haP ps = false ∨ 32 < piece.size) : ckC root piece i n ps = 1 := by unfold ckC; rw [if_neg h0, if_pos h]
theorem ck_range (h0 : ¬ (65536 < root.size ∨ 65536 < piece.size ∨ 4096 < ps.length)) (h1 : ¬ (root.size ≠ 32 ∨ haP ps = false ∨ 32 < piece.size)) (h : ¬ (inP n 1 64 = true ∧ inP i 0 (n - 1) = true)) : ckC root piece i n ps = 4 := by unfold ckC; rw [if_neg h0, if_neg h1, if_neg h]
theorem ck_proof (h0 : ¬ (65536 < root.size ∨ 65536 < piece.size ∨ 4096 < ps.length)) (h1 : ¬ (root.size ≠ 32 ∨ haP ps = false ∨ 32 < piece.size)) (h2 : inP n 1 64 = true ∧ inP i 0 (n - 1) = true) (h : ps.length ≠ szP 64 i.toNat n.toNat) : ckC root piece i n ps = 10 := by unfold ckC; rw [if_neg h0, if_neg h1, if_pos h2, if_neg h]
theorem ck_root (h0 : ¬ (65536 < root.size ∨ 65536 < piece.size ∨ 4096 < ps.length)) (h1 : ¬ (root.size ≠ 32 ∨ haP ps = false ∨ 32 < piece.size)) (h2 : inP n 1 64 = true ∧ inP i 0 (n - 1) = true) (h3 : ps.length = szP 64 i.toNat n.toNat) (h : upF 64 (leaf piece) i.toNat n.toNat ps ≠ root) : ckC root piece i n ps = 11 := by unfold ckC; rw [if_neg h0, if_neg h1, if_pos h2, if_pos h3, if_neg h]
theorem ck_ok (h0 : ¬ (65536 < root.size ∨ 65536 < piece.size ∨ 4096 < ps.length)) (h1 : ¬ (root.size ≠ 32 ∨ haP ps = false ∨ 32 < piece.size)) (h2 : inP n 1 64 = true ∧ inP i 0 (n - 1) = true) (h3 : ps.length = szP 64 i.toNat n.toNat) (h : upF 64 (leaf piece) i.toNat n.toNat ps = root) : ckC root piece i n ps = 0 := by unfold ckC; rw [if_neg h0, if_neg h1, if_pos h2, if_pos h3, if_pos h]
end
set_option maxRecDepth 100000 in
set_option maxHeartbeats 3200000 in
theorem implCheckPiece_any (root piece : ByteArray) (i n : Int) (v : Value) (ps : List ByteArray) (w : World) (h : RowT w v ps) (hl : ps.length ≤ 1048576) (hK : KTab w) (hp : 0 < w.heap.size) :
    Calls Tryd.prog 34 #[.string root, .string piece, .int .i64 i, .int .i64 n, v] w fun e w' => e = .returned (.int .i64 (ckC root piece i n ps)) ∧ Below w.heap.size w w' := by
  have HA : Hid (Calls Tryd.prog 74 #[v] w fun e w' => e = .returned (.bool (haP ps)) ∧ w = w') := allHashes_any v ps w h hl
  have hrow := h
  obtain ⟨a, cap, rfl, _⟩ := h
  by_cases c1 : 65536 < root.size
  · have HE : Hid (ckC root piece i n ps = 2) := ck_long (.inl c1)
    have c1' : (65536 : Int) < (root.size : Int) := by omega
    clear hrow hK HA
    go_enter Tryd.func34, Tryd.ntmps34
    go_wp2_with fail
    go_ret
    exact ⟨retI HE.out.symm, Below.refl _ _⟩
  have c1' : ¬ (65536 : Int) < (root.size : Int) := by omega
  by_cases c2 : 65536 < piece.size
  · have HE : Hid (ckC root piece i n ps = 2) := ck_long (.inr (.inl c2))
    have c2' : (65536 : Int) < (piece.size : Int) := by omega
    clear hrow hK HA
    go_enter Tryd.func34, Tryd.ntmps34
    go_wp2_with fail
    go_ret
    exact ⟨retI HE.out.symm, Below.refl _ _⟩
  have c2' : ¬ (65536 : Int) < (piece.size : Int) := by omega
  by_cases c3 : 4096 < ps.length
  · have HE : Hid (ckC root piece i n ps = 2) := ck_long (.inr (.inr c3))
    have c3' : (4096 : Int) < (ps.length : Int) := by omega
    clear hrow hK HA
    go_enter Tryd.func34, Tryd.ntmps34
    go_wp2_with fail
    go_ret
    exact ⟨retI HE.out.symm, Below.refl _ _⟩
  have c3' : ¬ (4096 : Int) < (ps.length : Int) := by omega
  have h0 : ¬ (65536 < root.size ∨ 65536 < piece.size ∨ 4096 < ps.length) := by omega
  by_cases d1 : root.size = 32
  case neg =>
    have HE : Hid (ckC root piece i n ps = 1) := ck_bad h0 (.inl d1)
    have d1' : ((root.size : Int) != 32) = true := by simp; omega
    clear hrow hK HA h0 c1 c2 c3 d1
    go_enter Tryd.func34, Tryd.ntmps34
    go_wp2_with fail
    go_ret
    exact ⟨retI HE.out.symm, Below.refl _ _⟩
  have d1' : ((root.size : Int) != 32) = false := by simp; omega
  cases d2 : haP ps
  case false =>
    have HE : Hid (ckC root piece i n ps = 1) := ck_bad h0 (.inr (.inl d2))
    rw [d2] at HA
    clear hrow hK h0 c1 c2 c3 d1 d2
    go_enter Tryd.func34, Tryd.ntmps34
    go_wp2_with (first | (go_at_call 74; refine HA.out.mono ?_; rintro e w1 ⟨rfl, rfl⟩) | fail)
    go_ret
    exact ⟨retI HE.out.symm, Below.refl _ _⟩
  rw [d2] at HA
  by_cases d3 : 32 < piece.size
  · have HE : Hid (ckC root piece i n ps = 1) := ck_bad h0 (.inr (.inr d3))
    have d3' : (32 : Int) < (piece.size : Int) := by omega
    clear hrow hK h0 c1 c2 c3 d1 d2
    go_enter Tryd.func34, Tryd.ntmps34
    go_wp2_with (first | (go_at_call 74; refine HA.out.mono ?_; rintro e w1 ⟨rfl, rfl⟩) | fail)
    go_ret
    exact ⟨retI HE.out.symm, Below.refl _ _⟩
  have d3' : ¬ (32 : Int) < (piece.size : Int) := by omega
  have h1 : ¬ (root.size ≠ 32 ∨ haP ps = false ∨ 32 < piece.size) := by
    rintro (h | h | h)
    · exact h d1
    · rw [d2] at h; cases h
    · exact d3 h
  have HI1 : Hid (∀ W, Calls Tryd.prog 56 #[.int .i64 n, .int .i64 1, .int .i64 64] W fun e w' => e = .returned (.bool (inP n 1 64)) ∧ W = w') := fun W => within_any _ _ _ W
  cases e1 : inP n 1 64
  case false =>
    have HE : Hid (ckC root piece i n ps = 4) := ck_range h0 h1 (by rw [e1]; rintro ⟨h, _⟩; cases h)
    rw [e1] at HI1
    clear hrow hK h0 h1 c1 c2 c3 d1 d2 d3 e1
    go_enter Tryd.func34, Tryd.ntmps34
    go_wp2_with (first | (go_at_call 74; refine HA.out.mono ?_; rintro e w1 ⟨rfl, rfl⟩) | (go_at_call 56; refine (HI1.out _).mono ?_; rintro e w1 ⟨rfl, rfl⟩) | fail)
    go_ret
    exact ⟨retI HE.out.symm, Below.refl _ _⟩
  rw [e1] at HI1
  obtain ⟨n1, n2⟩ := inP_get e1
  have hwr : IntKind.i64.wrap (n - 1) = n - 1 := by rw [IntKind.wrap_i64]; omega
  have hwr2 : wrap64 (n - 1) = n - 1 := by unfold wrap64; omega
  have HI2 : Hid (∀ W, Calls Tryd.prog 56 #[.int .i64 i, .int .i64 0, .int .i64 (n - 1)] W fun e w' => e = .returned (.bool (inP i 0 (n - 1))) ∧ W = w') := fun W => within_any _ _ _ W
  cases e2 : inP i 0 (n - 1)
  case false =>
    have HE : Hid (ckC root piece i n ps = 4) := ck_range h0 h1 (by rw [e2]; rintro ⟨_, h⟩; cases h)
    rw [e2] at HI2
    clear hrow hK h0 h1 c1 c2 c3 d1 d2 d3 e1 e2
    go_enter Tryd.func34, Tryd.ntmps34
    go_wp2_with (first | (go_at_call 74; refine HA.out.mono ?_; rintro e w1 ⟨rfl, rfl⟩) | (go_at_call 56; (with_reducible refine (HI1.out _).mono ?_); rintro e w1 ⟨rfl, rfl⟩) | (go_at_call 56; (with_reducible refine (HI2.out _).mono ?_); rintro e w1 ⟨rfl, rfl⟩) | fail)
    go_ret
    exact ⟨retI HE.out.symm, Below.refl _ _⟩
  rw [e2] at HI2
  obtain ⟨i1, i2⟩ := inP_get e2
  obtain ⟨k, rfl⟩ : ∃ k : Nat, i = (k : Int) := ⟨i.toNat, by omega⟩
  obtain ⟨m, rfl⟩ : ∃ m : Nat, n = (m : Int) := ⟨n.toNat, by omega⟩
  have HZP : Hid (∀ W, Calls Tryd.prog 75 #[.int .i64 k, .int .i64 m] W fun e w' => e = .returned (.int .i64 (szP 64 k m)) ∧ W = w') := fun W => proofSize_any 64 k m W (by omega) (by omega) (by decide)
  have hall := ha_get d2
  by_cases f1 : ps.length = szP 64 k m
  case neg =>
    have HE : Hid (ckC root piece k m ps = 10) := ck_proof h0 h1 ⟨e1, e2⟩ f1
    have f1' : ((ps.length : Int) != (szP 64 k m : Int)) = true := by rw [bne_iff_ne]; omega
    generalize szP 64 k m = z at HZP f1'
    clear hrow hK h0 h1 c1 c2 c3 d1 d2 d3 e1 e2 hall f1
    go_enter Tryd.func34, Tryd.ntmps34
    go_wp2_with (first | (go_at_call 74; refine HA.out.mono ?_; rintro e w1 ⟨rfl, rfl⟩) | (go_at_call 56; (with_reducible refine (HI1.out _).mono ?_); rintro e w1 ⟨rfl, rfl⟩) | (go_at_call 56; (with_reducible refine (HI2.out _).mono ?_); rintro e w1 ⟨rfl, rfl⟩) | (go_at_call 75; refine (HZP.out _).mono ?_; rintro e w1 ⟨rfl, rfl⟩) | fail)
    go_ret
    exact ⟨retI HE.out.symm, Below.refl _ _⟩
  have f1' : ((ps.length : Int) != (szP 64 k m : Int)) = false := by rw [bne_eq_false_iff_eq]; omega
  have HPR : Hid (Calls Tryd.prog 77 #[.string piece] w fun e w' => e = .returned (.string (leaf piece)) ∧ Below w.heap.size w w') := pieceRoot_any piece w (by omega) hK hp
  have HUP : Hid (∀ W, Below w.heap.size w W → Calls Tryd.prog 76 #[.string (leaf piece), .int .i64 k, .int .i64 m, .slice a ps.length cap] W fun e w' => e = .returned (.string (upF 64 (leaf piece) k m ps)) ∧ Below W.heap.size W w') := fun W hW =>
    provedRoot_any 64 (leaf piece) k m ps _ W (hrow.below hW) (by omega) (by omega) (by decide) (leaf_size _ (by omega)) hall f1 (hK.below hW hp) (Nat.lt_of_lt_of_le hp hW.size)
  have HCK : Hid (ckC root piece k m ps = if (upF 64 (leaf piece) k m ps).toList == root.toList then 0 else 11) := by
    show _ = _
    by_cases hq : upF 64 (leaf piece) k m ps = root
    · rw [ck_ok h0 h1 ⟨e1, e2⟩ f1 hq, toList_eq hq]; rfl
    · rw [ck_root h0 h1 ⟨e1, e2⟩ f1 hq, toList_ne hq]; rfl
  generalize upF 64 (leaf piece) k m ps = x at HUP HCK
  generalize szP 64 k m = z at HZP f1' f1
  generalize leaf piece = lf at HPR HUP
  clear hrow hK h0 h1 c1 c2 c3 d1 d2 d3 e1 e2 hall f1
  go_enter Tryd.func34, Tryd.ntmps34
  go_wp2_with (first | (go_at_call 74; refine HA.out.mono ?_; rintro e w1 ⟨rfl, rfl⟩) | (go_at_call 56; (with_reducible refine (HI1.out _).mono ?_); rintro e w1 ⟨rfl, rfl⟩) | (go_at_call 56; (with_reducible refine (HI2.out _).mono ?_); rintro e w1 ⟨rfl, rfl⟩) | (go_at_call 75; refine (HZP.out _).mono ?_; rintro e w1 ⟨rfl, rfl⟩) | fail)
  refine HPR.out.mono ?_
  rintro e w2 ⟨rfl, b2⟩
  go_wp2_with fail
  refine (HUP.out w2 b2).mono ?_
  rintro e w3 ⟨rfl, b3⟩
  have B3 := b2.trans (b3.mono b2.size)
  clear b2 b3
  cases hq : x.toList == root.toList
  case false =>
    rw [hq] at HCK
    go_wp2_with fail
    go_ret
    exact ⟨retI HCK.out.symm, B3⟩
  case true =>
    rw [hq] at HCK
    go_wp2_with fail
    go_ret
    exact ⟨retI HCK.out.symm, B3⟩
end Go.Proofs.YtgakmjonfecnhaaDoor.Pw
