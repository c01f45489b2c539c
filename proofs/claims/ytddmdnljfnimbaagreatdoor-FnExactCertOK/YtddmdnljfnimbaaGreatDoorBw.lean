/- Bodies that are right, of the program and of the specification. -/
import Derived.Test.YtddmdnljfnimbaaGreatDoorTs
import Derived.Test.YtddmdnljfnimbaaGreatDoorSbt
import Derived.Test.YtddmdnljfnimbaaGreatDoorWb
import Derived.Test.YtddmdnljfnimbaaGreatDoorHo
namespace Go.Proofs.YtddmdnljfnimbaaGreatDoor.Bw
open Go.RowKit Go.Proofs.YtddmdnljfnimbaaGreatDoor.Sl Go.Proofs.YtddmdnljfnimbaaGreatDoor.By Go.Proofs.YtddmdnljfnimbaaGreatDoor.Ap Go.Proofs.YtddmdnljfnimbaaGreatDoor.Sh Go.Proofs.YtddmdnljfnimbaaGreatDoor.Ho Go.Proofs.YtddmdnljfnimbaaGreatDoor.Tm Go.Proofs.YtddmdnljfnimbaaGreatDoor.Tkb
open Go.Proofs.YtddmdnljfnimbaaGreatDoor.Ti (implReadingsTime_any tCode tOut t_cases)
open Go.Proofs.YtddmdnljfnimbaaGreatDoor.Ts (good l04Time_any lOut)
open Go.Proofs.YtddmdnljfnimbaaGreatDoor.Wb (bat_again)
open Go.Proofs.YtddmdnljfnimbaaGreatDoor.Rg (RowG RowG.slice RowG.at lt_at mem_at bel_new blk_cell)

theorem ret_b {a b : Bool} (h : a = b) : Ending.returned (.bool a) = .returned (.bool b) := by rw [h]
def cv (x : Gr.Rd) : Rw.Rd := ⟨x.f, x.x, x.m⟩
theorem row_r {w : World} {v : Value} {xs : List Gr.Rd} (h : Gr.Row w v xs) : Rw.RowR w v (xs.map cv) := by
  obtain ⟨a, cap, rfl, h⟩ := h
  refine ⟨a, cap, by rw [List.length_map], ?_⟩
  rcases h with rfl | ⟨b, off, rfl, hc, hlt, h⟩
  · exact .inl rfl
  · refine .inr ⟨b, off, rfl, by rw [List.length_map]; exact hc, hlt, fun i hi => ?_⟩
    rw [List.length_map] at hi
    have e : xs[i]? = some xs[i] := List.getElem?_eq_getElem hi
    have r : Rw.rn (xs.map cv) i = cv xs[i] := by unfold Rw.rn; rw [List.getD_eq_getElem?_getD, List.getElem?_map, e]; rfl
    rw [r]
    exact h i _ e
/-- A body is right; it is, and is not too long. -/
def bdB (n : Int) (s : ByteArray) : Bool := rbOK (bys s) && ((tbX (bys s)).nl || good n ((tbX (bys s)).rs.map cv))
def bdP (n : Int) (s : ByteArray) : Bool := decide (s.size ≤ 20000) && bdB n s
theorem ok_small {s : ByteArray} (hs : s.size ≤ 65536) (h : rbOK (bys s) = true) : s.size ≤ 20000 := by
  have hl := bys_length s
  have hc : rbC (bys s) = 0 := by unfold rbC rjC; rw [decide_eq_false (by omega), h]; rfl
  obtain ⟨h1, h2⟩ := bat_again (bys_range s) hc
  rw [← hl, ← h2]
  unfold bOKx at h1
  generalize rbX (bys s) = X at h1
  obtain ⟨nl, c, st, k, l, nm, rs⟩ := X
  unfold Bt.batBs
  cases nl with
  | true => show (1 : Nat) ≤ 20000; decide
  | false =>
    obtain ⟨p1, p2, p3, _, _⟩ : nm.size ≤ 12 ∧ rs.length ≤ 7 ∧ (∀ x ∈ rs, x.m.size = 8) ∧ Rq.reqB c st k l nm = true ∧ Bo.rOK 0 rs = true := Bt.bOK_parts h1
    simp only [Bool.false_eq_true, if_false, List.length_append, Pu.nums_length, Bt.rsBs_len _ p3, Rp.reqBs_length]
    omega
theorem c_zero {s : ByteArray} : rbC (bys s) = 0 ↔ s.size ≤ 65536 ∧ rbOK (bys s) = true := by
  have hl := bys_length s
  unfold rbC rjC
  by_cases h : 65536 < (bys s).length
  · rw [decide_eq_true h]; simp; omega
  · rw [decide_eq_false h]
    cases rbOK (bys s) <;> simp; omega
theorem x_ok {s : ByteArray} (h : rbC (bys s) = 0) : rbX (bys s) = tbX (bys s) := by
  obtain ⟨h1, h2⟩ := c_zero.1 h
  have hl := bys_length s
  unfold rbX rjX
  rw [decide_eq_false (by omega), h2]; rfl
theorem t_good {n : Int} {rs : List Rw.Rd} (hf : fCode n = 0) (hl : rs.length ≤ 4096) : ((tCode n rs == 0) : Bool) = good n rs := by
  unfold tCode good
  rw [if_neg (by omega), if_neg (by omega)]
  by_cases h1 : (rs.length : Int) = 2 * fOut n + 1
  · rw [decide_eq_true h1]
    cases h2 : (Rs.okAll rs && Rs.mkAll n rs) with
    | true => rw [if_pos ⟨h1, rfl⟩]; rfl
    | false => rw [if_neg (by simp)]; rfl
  · rw [decide_eq_false h1, if_neg (by intro h; exact h1 h.1)]; rfl
set_option maxRecDepth 100000 in
set_option maxHeartbeats 1600000 in
theorem l06Body_any (n : Int) (s : ByteArray) (w : World) (hf : fCode n = 0) (hs : s.size ≤ 20000) :
    Calls Tryz.prog 47 #[.int .i64 n, .string s] w fun e w' => e = .returned (.bool (bdB n s)) ∧ Below w.heap.size w w' := by
  have HRB := l02ReadBatch_any s w (by omega)
  have HSM : Hid ((tbX (bys s)).rs.length ≤ 255) := (tbX_small (bys s) (bys_range s) (by rw [bys_length]; omega)).2
  have HE : Hid (bdB n s = (rbOK (bys s) && ((tbX (bys s)).nl || good n ((tbX (bys s)).rs.map cv)))) := rfl
  have HF : Hid (fCode n = 0) := hf
  clear hf hs
  generalize bdB n s = out at HE ⊢
  generalize rbOK (bys s) = ok at HRB HE
  generalize tbX (bys s) = Y at HRB HE HSM
  have HR : Hid (Calls Tryz.prog 61 #[.string s] w fun e w' => ∃ (x : Bv) (u : Value), e = .returned (.tuple #[.agg #[.bool x.nl, .int .i64 x.c, .int .i64 x.st, .int .i64 x.k, .int .i64 x.l, .string x.n, u], .bool ok]) ∧ (ok = true → x = Y) ∧ OwnR w' w.heap.size u x.rs ∧ Below w.heap.size w w') := HRB
  clear HRB
  go_enter Tryz.func47, Tryz.ntmps47
  go_wp2_with fail
  refine HR.out.mono ?_
  rintro e w1 ⟨X, u, rfl, hX, o1, b1⟩
  have HA : Hid (∀ o, Below w.heap.size w (w1.alloc o)) := fun o => b1.alloc b1.size o
  obtain ⟨ua, ucap, rfl⟩ := RowG.slice (OwnR.row o1)
  cases ok with
  | false =>
    clear hX o1 b1
    go_wp2_with fail
    go_ret
    exact ⟨ret_b (by rw [HE.out]; rfl), HA.out _⟩
  | true =>
    obtain rfl := hX rfl
    obtain ⟨nl, c, st, k, l, nm, rs⟩ := X
    have HO : Hid (∀ o, Gr.Row (w1.alloc o) (.slice ua rs.length ucap) rs) := fun o => (OwnR.row o1).below (bel_new _ _)
    have HLT : Hid (∀ o, Calls Tryz.prog 62 #[.int .i64 n, .slice ua rs.length ucap] (w1.alloc o) fun e w' => e = .returned (.tuple #[.int .i64 (lOut n (rs.map cv)), .bool (good n (rs.map cv))]) ∧ Below (w1.alloc o).heap.size (w1.alloc o) w') := fun o => l04Time_any n _ (rs.map cv) _ HF.out (row_r (HO.out o)) (by rw [List.length_map]; have h2 : rs.length ≤ 255 := HSM.out; omega)
    clear HO o1 b1 HSM
    generalize good n (rs.map cv) = gd at HLT HE
    generalize lOut n (rs.map cv) = lo at HLT
    cases nl with
    | true =>
      go_wp2_with fail
      go_ret
      exact ⟨ret_b (by rw [HE.out]; rfl), HA.out _⟩
    | false =>
      go_wp2_with fail
      refine (HLT.out _).mono ?_
      rintro e w2 ⟨rfl, b2⟩
      have B2 : Hid (Below w.heap.size w w2) := (HA.out _).trans (b2.mono (HA.out _).size)
      clear b2
      go_wp2_with fail
      go_ret
      exact ⟨ret_b (by rw [HE.out]; rfl), B2.out⟩
set_option maxRecDepth 100000 in
set_option maxHeartbeats 1600000 in
theorem implBodyOK_any (n : Int) (s : ByteArray) (w : World) (hf : fCode n = 0) (hs : s.size ≤ 1048576) (hK : KTab w) (hp : 0 < w.heap.size) :
    Calls Tryz.prog 30 #[.int .i64 n, .string s] w fun e w' => e = .returned (.bool (bdP n s)) ∧ Below w.heap.size w w' := by
  obtain ⟨v2, w2, hcv, r2, b2⟩ := bytes_run s w
  have HRB := implReadBatch_any v2 (bys s) w2 r2 (by rw [bys_length]; omega)
  have GK : Hid (KTab w ∧ 0 < w.heap.size) := ⟨hK, hp⟩
  have B2 : Hid (Below w.heap.size w w2) := b2
  have HF : Hid (fCode n = 0) := hf
  clear hK hp b2 r2 hf
  by_cases hc : rbC (bys s) = 0
  · obtain ⟨h65, hok⟩ := c_zero.1 hc
    have h20 := ok_small h65 hok
    have HSM : Hid ((tbX (bys s)).rs.length ≤ 255) := (tbX_small (bys s) (bys_range s) (by rw [bys_length]; omega)).2
    have HE : Hid (bdP n s = ((tbX (bys s)).nl || good n ((tbX (bys s)).rs.map cv))) := by show _ = _; unfold bdP bdB; rw [decide_eq_true h20, hok]; rfl
    rw [x_ok hc, hc] at HRB
    generalize bdP n s = out at HE ⊢
    generalize tbX (bys s) = Y at HRB HE HSM
    obtain ⟨nl, c, st, k, l, nm, rs⟩ := Y
    have HR : Hid (Calls Tryz.prog 53 #[v2] w2 fun e w' => ∃ u, e = .returned (.tuple #[.agg #[.bool nl, .int .i64 c, .int .i64 st, .int .i64 k, .int .i64 l, .string nm, u], .int .i64 0]) ∧ OwnR w' w2.heap.size u rs ∧ Below w2.heap.size w2 w') := HRB
    clear HRB hc h65 hok h20 hs
    go_enter Tryz.func30, Tryz.ntmps30
    go_wp2_with fail
    refine HR.out.mono ?_
    rintro e w3 ⟨u, rfl, o3, b3⟩
    have HA : Hid (∀ o, Below w.heap.size w (w3.alloc o)) := fun o => (B2.out.trans (b3.mono B2.out.size)).alloc (B2.out.trans (b3.mono B2.out.size)).size o
    obtain ⟨ua, ucap, rfl⟩ := RowG.slice (OwnR.row o3)
    have HO : Hid (∀ o, Gr.Row (w3.alloc o) (.slice ua rs.length ucap) rs) := fun o => (OwnR.row o3).below (bel_new _ _)
    have HL : Hid ((rs.map cv).length ≤ 4096) := by show _ ≤ _; rw [List.length_map]; have h2 : rs.length ≤ 255 := HSM.out; omega
    have HRT : Hid (∀ o, Calls Tryz.prog 54 #[.int .i64 n, .slice ua rs.length ucap] (w3.alloc o) fun e w' => e = .returned (.tuple #[.int .i64 (tOut n (rs.map cv)), .int .i64 (tCode n (rs.map cv))]) ∧ Below (w3.alloc o).heap.size (w3.alloc o) w') := fun o => implReadingsTime_any n _ (rs.map cv) _ (row_r (HO.out o)) (by have := HL.out; omega) (GK.out.1.below (HA.out o) GK.out.2) (Nat.lt_of_lt_of_le GK.out.2 (HA.out o).size)
    have HTG : Hid (((tCode n (rs.map cv) == 0) : Bool) = good n (rs.map cv)) := t_good HF.out HL.out
    clear HO HL o3 b3 HSM
    generalize good n (rs.map cv) = gd at HTG HE
    generalize tCode n (rs.map cv) = tc at HRT HTG
    generalize tOut n (rs.map cv) = lo at HRT
    cases nl with
    | true =>
      go_wp2_with fail
      go_ret
      exact ⟨ret_b (by rw [HE.out]; rfl), HA.out _⟩
    | false =>
      go_wp2_with fail
      refine (HRT.out _).mono ?_
      rintro e w4 ⟨rfl, b4⟩
      have B4 : Hid (Below w.heap.size w w4) := (HA.out _).trans (b4.mono (HA.out _).size)
      clear b4
      go_wp2_with fail
      go_ret
      exact ⟨ret_b (by rw [HE.out, HTG.out]; rfl), B4.out⟩
  · have HE : Hid (bdP n s = false) := by
      show _ = _
      unfold bdP bdB
      by_cases h20 : s.size ≤ 20000
      · have : rbOK (bys s) = false := by
          cases e : rbOK (bys s) with
          | false => rfl
          | true => exact absurd (c_zero.2 ⟨by omega, e⟩) hc
        rw [this, Bool.false_and, Bool.and_false]
      · rw [decide_eq_false h20]; rfl
    have hc' : (rbC (bys s) != 0) = true := by simp [hc]
    generalize bdP n s = out at HE ⊢
    generalize rbC (bys s) = C at HRB hc hc'
    generalize rbX (bys s) = Y at HRB
    obtain ⟨nl, c, st, k, l, nm, rs⟩ := Y
    have HR : Hid (Calls Tryz.prog 53 #[v2] w2 fun e w' => ∃ u, e = .returned (.tuple #[.agg #[.bool nl, .int .i64 c, .int .i64 st, .int .i64 k, .int .i64 l, .string nm, u], .int .i64 C]) ∧ OwnR w' w2.heap.size u rs ∧ Below w2.heap.size w2 w') := HRB
    clear HRB hc hs
    go_enter Tryz.func30, Tryz.ntmps30
    go_wp2_with fail
    refine HR.out.mono ?_
    rintro e w3 ⟨u, rfl, o3, b3⟩
    have HA : Hid (∀ o, Below w.heap.size w (w3.alloc o)) := fun o => (B2.out.trans (b3.mono B2.out.size)).alloc (B2.out.trans (b3.mono B2.out.size)).size o
    obtain ⟨ua, ucap, rfl⟩ := RowG.slice (OwnR.row o3)
    clear o3 b3
    go_wp2_with fail
    go_ret
    exact ⟨ret_b HE.out.symm, HA.out _⟩
end Go.Proofs.YtddmdnljfnimbaaGreatDoor.Bw
