/- Batches that are right: the specification. -/
import Derived.Test.YtkmnjnblacmjlaaBo2
namespace Go.Proofs.Ytkmnjnblacmjlaa.Bo
open Go.RowKit Go.Proofs.Ytkmnjnblacmjlaa.Rg Go.Proofs.Ytkmnjnblacmjlaa.Gr Go.Proofs.Ytkmnjnblacmjlaa.Rq

/-- The least number that the next node may have. -/
def lst (rs : List Rd) (k : Nat) : Int := if k = 0 then 0 else (match rs[k - 1]? with | some x => x.f + 1 | none => 0)
theorem lst_zero (rs : List Rd) : lst rs 0 = 0 := rfl
theorem lst_succ {rs : List Rd} {k : Nat} {x : Rd} (h : rs[k]? = some x) : lst rs (k + 1) = x.f + 1 := by
  unfold lst
  rw [if_neg (by omega), Nat.add_sub_cancel, h]
set_option maxRecDepth 100000 in
set_option maxHeartbeats 1600000 in
theorem l02BatchOK_any (nl : Bool) (c st k l : Int) (n : ByteArray) (vr : Value) (rs : List Rd) (w : World) (h : Row w vr rs) (hl : rs.length ≤ 1048576) (hn : n.size ≤ maxLen) :
    Calls Try.prog 16 #[batV nl c st k l n vr] w fun e w' => e = .returned (.bool (bOK nl c st k l n rs)) ∧ Below w.heap.size w w' := by
  have HR : Hid (Row w vr rs) := h
  obtain ⟨a, cap, rfl⟩ := RowG.slice h
  clear h
  have HN : Hid (n.size ≤ maxLen) := hn
  clear hn
  unfold batV
  have HB : Hid (Below w.heap.size w (w.alloc (.cells #[.bool nl, .int .i64 c, .int .i64 st, .int .i64 k, .int .i64 l, .string n, .slice a rs.length cap] 35))) := bel_new _ _
  cases nl with
  | true =>
    have HE : Hid (bOK true c st k l n rs = (zB c st k l n && ((rs.length : Int) == 0))) := rfl
    have hq1 := eqlR c st k l n
    have hq2 := guardR
    cases hz : zB c st k l n with
    | false =>
      rw [hz] at hq1 HE
      go_enter Try.func16, Try.ntmps16
      go_wp2_with fail
      go_ret
      exact ⟨ret_b (by rw [HE.out]; rfl), HB.out⟩
    | true =>
      rw [hz] at hq1 HE
      go_enter Try.func16, Try.ntmps16
      go_wp2_with fail
      go_ret
      exact ⟨ret_b (by rw [HE.out]; simp), HB.out⟩
  | false =>
    have HE : Hid (bOK false c st k l n rs = (reqB c st k l n && rOK 0 rs)) := rfl
    have C := specRequestOK_any c st k l n (w.alloc (.cells #[.bool false, .int .i64 c, .int .i64 st, .int .i64 k, .int .i64 l, .string n, .slice a rs.length cap] 35)) HN.out
    unfold reqV at C
    have HC : Hid (Calls Try.prog 19 #[.agg #[.int .i64 c, .int .i64 st, .int .i64 k, .int .i64 l, .string n]] (w.alloc (.cells #[.bool false, .int .i64 c, .int .i64 st, .int .i64 k, .int .i64 l, .string n, .slice a rs.length cap] 35)) fun e w' => e = .returned (.bool (reqB c st k l n)) ∧ Below (w.alloc (.cells #[.bool false, .int .i64 c, .int .i64 st, .int .i64 k, .int .i64 l, .string n, .slice a rs.length cap] 35)).heap.size (w.alloc (.cells #[.bool false, .int .i64 c, .int .i64 st, .int .i64 k, .int .i64 l, .string n, .slice a rs.length cap] 35)) w') := C
    clear C
    go_enter Try.func16, Try.ntmps16
    go_wp2_with fail
    refine HC.out.mono ?_
    rintro e w1 ⟨rfl, b1⟩
    have HX : Hid (∀ W, Below w1.heap.size w1 W → (W.cell? ⟨w.heap.size, 6, none⟩ = some (.slice a rs.length cap) ∧ Below w.heap.size w W)) := fun W hW => by
      obtain ⟨_, _, _, _, _, _, q6, b0⟩ := bat_box b1
      exact ⟨(hW.cell (p := ⟨w.heap.size, 6, none⟩) (World.block_lt_of_cell? _ _ q6)).trans q6, b0.trans (hW.mono b0.size)⟩
    obtain ⟨q6, _⟩ := HX.out w1 (Below.refl _ _)
    clear b1 HC
    cases hq : reqB c st k l n with
    | false =>
      rw [hq] at HE
      go_wp2_with fail
      go_ret
      exact ⟨ret_b (by rw [HE.out]; rfl), (HX.out _ (Below.refl _ _)).2⟩
    | true =>
      rw [hq] at HE
      by_cases h7 : (7 : Int) < (rs.length : Int)
      · have HF : Hid (rOK 0 rs = false) := by
          show _ = _
          cases h : rOK 0 rs with
          | false => rfl
          | true => have := rOK_seven h; omega
        go_wp2_with fail
        go_ret
        exact ⟨ret_b (by rw [HE.out, HF.out]; rfl), (HX.out _ (Below.refl _ _)).2⟩
      have hl7 : rs.length ≤ 7 := by omega
      go_wp2_with fail
      clear q6
      go_loopw [3] (fun i wr => ∃ k : Nat, k ≤ rs.length ∧ i = .int .i64 k ∧ Hid (rOK 0 rs = rOK (lst rs k) (rs.drop k) ∧ 0 ≤ lst rs k ∧ Below w1.heap.size w1 wr)) (fun i _ => rs.length - (intOf i).toNat)
      case atStart => exact ⟨0, by omega, rfl, ⟨by rw [List.drop_zero, lst_zero], Int.le_refl _, Below.refl _ _⟩⟩
      case round =>
        obtain ⟨k, hk, rfl, HZ⟩ := hrel
        obtain ⟨q6, bw⟩ := HX.out wr HZ.out.2.2
        by_cases hlt : k < rs.length
        · obtain ⟨x, hx⟩ := Rg.get_at hlt
          obtain ⟨b, off, rfl, hbl, c0, c1, c2⟩ := RowG.at (HR.out.below bw) rfl hx
          have HS : Hid (rOK 0 rs = ((r1 0 x && decide (lst rs k ≤ x.f)) && rOK (lst rs (k + 1)) (rs.drop (k + 1)))) := by show _ = _; rw [HZ.out.1, rOK_step hx, lst_succ hx, r1_split HZ.out.2.1]
          have HL1 : Hid (lst rs (k + 1) = x.f + 1) := lst_succ hx
          have HW : Hid (Below w1.heap.size w1 wr ∧ Below w.heap.size w wr ∧ 0 ≤ lst rs k) := ⟨HZ.out.2.2, bw, HZ.out.2.1⟩
          have HP : k = 0 ∨ ∃ (y : Rd), Hid (lst rs k = y.f + 1) ∧ wr.cell? ⟨b, off + (k - 1) * 3, none⟩ = some (.int .i64 y.f) := by
            by_cases h0 : k = 0
            · exact .inl h0
            · obtain ⟨y, hy⟩ := Rg.get_at (xs := rs) (k := k - 1) (by omega)
              obtain ⟨b', off', e', _, d0, _, _⟩ := RowG.at (HR.out.below bw) rfl hy
              cases e'
              refine .inr ⟨y, ?_, d0⟩
              have := lst_succ hy
              rwa [show k - 1 + 1 = k by omega] at this
          clear hx HZ bw
          have hp0 : (0 : Int) ≤ (k : Int) := by omega
          have hp1 : (k : Int) < (rs.length : Int) := by omega
          go_upto_region 8 with fail
          obtain ⟨X, hX, W, QI0, QO0⟩ := Qc.klass wr
          have QI : Hid (∀ w', Below wr.heap.size wr w' → ∃ x, w' = W x) := QI0
          have QO : Hid (∀ x, Below wr.heap.size wr (W x)) := QO0
          clear QI0 QO0
          have y0 := Qc.cell_all QO.out c0
          have y1 := Qc.cell_all QO.out c1
          have y2 := Qc.cell_all QO.out c2
          have y6 := Qc.cell_all QO.out q6
          have HRD : Hid (∀ q, Calls Try.prog 20 #[.agg #[.int .i64 x.f, .int .i64 x.x, .string x.m]] (W q) fun e w' => e = .returned (.bool (r1 0 x)) ∧ Below (W q).heap.size (W q) w') := fun q => l02Reading_any x (W q)
          cases g1 : r1 0 x with
          | false =>
            rw [g1] at HRD HS
            clear HP
            refine Qc.region_class (W := W) (by kernel_rfl) (by kernel_rfl) (QI.out _ Qc.from_drew) ?_
            repeat (go_big_quiet_step (first | (go_at_call 20; refine (HRD.out _).mono ?_; rintro e w2 ⟨rfl, b2⟩; exact ⟨rfl, Qc.back QI.out QO.out b2⟩)))
            refine wpQuiet_nil ?_
            rintro _ ⟨xq, rfl⟩
            have G2 : Hid (Below w1.heap.size w1 (W xq) ∧ Below w.heap.size w (W xq)) := ⟨HW.out.1.trans ((QO.out xq).mono HW.out.1.size), HW.out.2.1.trans ((QO.out xq).mono HW.out.2.1.size)⟩
            clear y0 y1 y2 y6
            generalize W xq = wq at G2 ⊢
            go_wp2_with fail
            go_ret
            exact ⟨ret_b (by rw [HE.out, HS.out]; rfl), G2.out.2⟩
          | true =>
            rw [g1] at HRD HS
            have HFX : Hid (0 ≤ x.f) := by unfold r1 inB at g1; simp only [Bool.and_eq_true, decide_eq_true_eq] at g1; exact g1.1.1
            by_cases hk0 : k = 0
            · subst hk0
              clear HP
              simp only [Nat.zero_mul, Nat.add_zero] at y0 y1 y2
              have HS : Hid (rOK 0 rs = rOK (lst rs (0 + 1)) (rs.drop (0 + 1))) := by show _ = _; rw [HS.out, lst_zero, decide_eq_true HFX.out]; rfl
              refine Qc.region_class (W := W) (by kernel_rfl) (by kernel_rfl) (QI.out _ Qc.from_drew) ?_
              repeat (go_big_quiet_step (first | (go_at_call 20; refine (HRD.out _).mono ?_; rintro e w2 ⟨rfl, b2⟩; exact ⟨rfl, Qc.back QI.out QO.out b2⟩)))
              refine wpQuiet_nil ?_
              rintro _ ⟨xq, rfl⟩
              have G2 : Hid (Below w1.heap.size w1 (W xq) ∧ Below w.heap.size w (W xq)) := ⟨HW.out.1.trans ((QO.out xq).mono HW.out.1.size), HW.out.2.1.trans ((QO.out xq).mono HW.out.2.1.size)⟩
              clear y0 y1 y2 y6
              generalize W xq = wq at G2 ⊢
              go_wp2_with fail
              exact ⟨⟨0 + 1, by omega, by go_num, ⟨HS.out, by rw [HL1.out]; have := HFX.out; omega, G2.out.1⟩⟩, by simp [intOf]; omega⟩
            · obtain ⟨y, HY, d0⟩ : ∃ (y : Rd), Hid (lst rs k = y.f + 1) ∧ wr.cell? ⟨b, off + (k - 1) * 3, none⟩ = some (.int .i64 y.f) := by rcases HP with h | h; exact absurd h hk0; exact h
              clear HP
              obtain ⟨j, rfl⟩ : ∃ j, k = j + 1 := ⟨k - 1, by omega⟩
              rw [Nat.add_sub_cancel] at d0
              have y7 := Qc.cell_all QO.out d0
              have s1 : (0 : Int) < (j : Int) + 1 := by omega
              have s2 : (j : Int) + 1 < (rs.length : Int) := by omega
              have s3 : (j : Int) < (rs.length : Int) := by omega
              clear d0
              by_cases hlt2 : y.f < x.f
              · have hd : decide (x.f ≤ y.f) = false := decide_eq_false (by omega)
                have HS : Hid (rOK 0 rs = rOK (lst rs (j + 1 + 1)) (rs.drop (j + 1 + 1))) := by show _ = _; rw [HS.out, HY.out, decide_eq_true (by omega : y.f + 1 ≤ x.f)]; rfl
                refine Qc.region_class (W := W) (by kernel_rfl) (by kernel_rfl) (QI.out _ Qc.from_drew) ?_
                repeat (go_big_quiet_step (first | (go_at_call 20; refine (HRD.out _).mono ?_; rintro e w2 ⟨rfl, b2⟩; exact ⟨rfl, Qc.back QI.out QO.out b2⟩)))
                refine wpQuiet_nil ?_
                rintro _ ⟨xq, rfl⟩
                have G2 : Hid (Below w1.heap.size w1 (W xq) ∧ Below w.heap.size w (W xq)) := ⟨HW.out.1.trans ((QO.out xq).mono HW.out.1.size), HW.out.2.1.trans ((QO.out xq).mono HW.out.2.1.size)⟩
                clear y0 y1 y2 y6 y7
                generalize W xq = wq at G2 ⊢
                go_wp2_with fail
                exact ⟨⟨j + 1 + 1, by omega, by go_num, ⟨HS.out, by rw [HL1.out]; have := HFX.out; omega, G2.out.1⟩⟩, by simp [intOf]; omega⟩
              · have hd : decide (x.f ≤ y.f) = true := decide_eq_true (by omega)
                have HS : Hid (rOK 0 rs = false) := by show _ = _; rw [HS.out, HY.out, decide_eq_false (by omega : ¬ y.f + 1 ≤ x.f)]; rfl
                refine Qc.region_class (W := W) (by kernel_rfl) (by kernel_rfl) (QI.out _ Qc.from_drew) ?_
                repeat (go_big_quiet_step (first | (go_at_call 20; refine (HRD.out _).mono ?_; rintro e w2 ⟨rfl, b2⟩; exact ⟨rfl, Qc.back QI.out QO.out b2⟩)))
                refine wpQuiet_nil ?_
                rintro _ ⟨xq, rfl⟩
                have G2 : Hid (Below w1.heap.size w1 (W xq) ∧ Below w.heap.size w (W xq)) := ⟨HW.out.1.trans ((QO.out xq).mono HW.out.1.size), HW.out.2.1.trans ((QO.out xq).mono HW.out.2.1.size)⟩
                clear y0 y1 y2 y6 y7
                generalize W xq = wq at G2 ⊢
                go_wp2_with fail
                go_ret
                exact ⟨ret_b (by rw [HE.out, HS.out]; rfl), G2.out.2⟩
        · obtain rfl : k = rs.length := by omega
          have HF : Hid (rOK 0 rs = true) := HZ.out.1.trans rOK_end
          go_wp2_with fail
          go_ret
          exact ⟨ret_b (by rw [HE.out, HF.out]; rfl), bw⟩
end Go.Proofs.Ytkmnjnblacmjlaa.Bo
