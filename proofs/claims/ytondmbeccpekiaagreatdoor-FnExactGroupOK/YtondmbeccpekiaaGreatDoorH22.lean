/- Texts put together: Bo, Bo2. -/
import Derived.Test.YtondmbeccpekiaaGreatDoorH2
import Derived.Test.YtondmbeccpekiaaGreatDoorH21
import Derived.Laws.StructEq
/- Batches: what is right, of the program and of the specification. -/
namespace Go.Proofs.YtondmbeccpekiaaGreatDoor.Bo
open Go.RowKit Go.Proofs.YtondmbeccpekiaaGreatDoor.Rg Go.Proofs.YtondmbeccpekiaaGreatDoor.Gr Go.Proofs.YtondmbeccpekiaaGreatDoor.Rq

def r1 (least : Int) (x : Rd) : Bool := inB x.f least 6 && (inB x.x 0 1000000000 && ((x.m.size : Int) == 8))
def rOK : Int → List Rd → Bool
  | _, [] => true
  | least, x :: xs => r1 least x && rOK (x.f + 1) xs
def zB (c st k l : Int) (n : ByteArray) : Bool := (c == 0) && ((st == 0) && ((k == 0) && ((l == 0) && (n.toList == (⟨#[]⟩ : ByteArray).toList))))
def bOK (nl : Bool) (c st k l : Int) (n : ByteArray) (rs : List Rd) : Bool := if nl then zB c st k l n && ((rs.length : Int) == 0) else reqB c st k l n && rOK 0 rs
def batV (nl : Bool) (c st k l : Int) (n : ByteArray) (vr : Value) : Value := .agg #[.bool nl, .int .i64 c, .int .i64 st, .int .i64 k, .int .i64 l, .string n, vr]
theorem drop_at {rs : List Rd} {k : Nat} {x : Rd} (h : rs[k]? = some x) : rs.drop k = x :: rs.drop (k + 1) := by
  obtain ⟨hk, rfl⟩ := List.getElem?_eq_some_iff.1 h
  exact List.drop_eq_getElem_cons hk
theorem rOK_step {rs : List Rd} {k : Nat} {x : Rd} {l : Int} (h : rs[k]? = some x) : rOK l (rs.drop k) = (r1 l x && rOK (x.f + 1) (rs.drop (k + 1))) := by rw [drop_at h]; rfl
theorem rOK_end {rs : List Rd} {l : Int} : rOK l (rs.drop rs.length) = true := by rw [List.drop_length]; rfl
theorem rOK_len : ∀ (rs : List Rd) (l : Int), 0 ≤ l → rOK l rs = true → l + rs.length ≤ 7 ∨ rs = []
  | [], _, _, _ => .inr rfl
  | x :: xs, l, hl, h => by
    unfold rOK at h
    rw [Bool.and_eq_true] at h
    obtain ⟨h1, h2⟩ := h
    have hx : l ≤ x.f ∧ x.f ≤ 6 := by unfold r1 inB at h1; simp only [Bool.and_eq_true, decide_eq_true_eq] at h1; exact h1.1
    rcases rOK_len xs (x.f + 1) (by omega) h2 with h3 | h3
    · left; simp only [List.length_cons]; omega
    · left; rw [h3]; simp; omega
theorem rOK_seven {rs : List Rd} (h : rOK 0 rs = true) : rs.length ≤ 7 := by
  rcases rOK_len rs 0 (by omega) h with h | h
  · omega
  · rw [h]; simp
theorem rOK_small : ∀ (rs : List Rd) (l : Int), rOK l rs = true → ∀ x ∈ rs, x.m.size = 8 ∧ x.f ≤ 6 ∧ 0 ≤ x.x ∧ x.x ≤ 1000000000
  | [], _, _, _, hx => by cases hx
  | y :: ys, l, h, x, hx => by
    unfold rOK at h
    rw [Bool.and_eq_true] at h
    rcases List.mem_cons.1 hx with rfl | hx
    · have h1 := h.1
      unfold r1 inB at h1
      simp only [Bool.and_eq_true, decide_eq_true_eq, beq_iff_eq] at h1
      omega
    · exact rOK_small ys _ h.2 x hx
theorem ret_b {a b : Bool} (h : a = b) : Ending.returned (.bool a) = .returned (.bool b) := by rw [h]
theorem with_any (x a b : Int) (w : World) : Calls Tryz.prog 73 #[.int .i64 x, .int .i64 a, .int .i64 b] w fun e w' => e = .returned (.bool (inB x a b)) ∧ w = w' := (within_any x a b w).mono fun _ _ ⟨h1, h2⟩ => ⟨h1, h2.symm⟩
theorem in_any (x a b : Int) (w : World) : Calls Tryz.prog 29 #[.int .i64 x, .int .i64 a, .int .i64 b] w fun e w' => e = .returned (.bool (inB x a b)) ∧ w = w' := (l01In_any x a b w).mono fun _ _ ⟨h1, h2⟩ => ⟨h1, h2.symm⟩
set_option maxRecDepth 100000 in
set_option maxHeartbeats 800000 in
theorem readingsOK_any (v : Value) (rs : List Rd) (w : World) (h : Row w v rs) (hl : rs.length ≤ 1048576) :
    Calls Tryz.prog 179 #[v] w fun e w' => e = .returned (.bool (rOK 0 rs)) ∧ Below w.heap.size w w' := by
  have HR : Hid (Row w v rs) := h
  obtain ⟨a, cap, rfl⟩ := RowG.slice h
  clear h
  go_enter Tryz.func179, Tryz.ntmps179
  go_wp2_with fail
  go_loopw [3, 8] (fun l i wr => ∃ (k : Nat) (z : Int), k ≤ rs.length ∧ i = .int .i64 k ∧ l = .int .i64 z ∧ Hid (rOK 0 rs = rOK z (rs.drop k) ∧ 0 ≤ z ∧ Below w.heap.size w wr)) (fun _ i _ => rs.length - (intOf i).toNat)
  case atStart => exact ⟨0, 0, by omega, rfl, rfl, ⟨by rw [List.drop_zero], Int.le_refl _, Below.refl _ _⟩⟩
  case round =>
    obtain ⟨k, z, hk, rfl, rfl, HZ⟩ := hrel
    by_cases hlt : k < rs.length
    · obtain ⟨x, hx⟩ := Rg.get_at hlt
      obtain ⟨b, off, rfl, hbl, c0, c1, c2⟩ := RowG.at (HR.out.below HZ.out.2.2) rfl hx
      have HX : Hid (rOK 0 rs = (r1 z x && rOK (x.f + 1) (rs.drop (k + 1)))) := HZ.out.1.trans (rOK_step hx)
      have HB : Hid (Below w.heap.size w (wr.alloc (.cells #[.int .i64 x.f, .int .i64 x.x, .string x.m] 158))) := HZ.out.2.2.alloc HZ.out.2.2.size _
      have HK0 : Hid (0 ≤ z) := HZ.out.2.1
      clear hx HZ
      cases g1 : inB x.f z 6 with
      | false =>
        have HE : Hid (rOK 0 rs = false) := by show _ = _; rw [HX.out]; unfold r1; rw [g1]; rfl
        go_wp2_with (go_at_call 73; refine (with_any _ _ _ _).mono ?_; rintro e w1 ⟨rfl, rfl⟩; rw [g1])
        go_ret
        exact ⟨ret_b HE.out.symm, HB.out⟩
      | true =>
        have hf6 : x.f ≤ 6 := by unfold inB at g1; simp only [decide_eq_true_eq] at g1; exact g1.2
        cases g2 : inB x.x 0 1000000000 with
        | false =>
          have HE : Hid (rOK 0 rs = false) := by show _ = _; rw [HX.out]; unfold r1; rw [g1, g2]; rfl
          go_wp2_with (go_at_call 73; refine (with_any _ _ _ _).mono ?_; rintro e w1 ⟨rfl, rfl⟩; first | rw [g1] | rw [g2])
          go_ret
          exact ⟨ret_b HE.out.symm, HB.out⟩
        | true =>
          by_cases g3 : x.m.size = 8
          · have g4 : ((x.m.size : Int) != 8) = false := by rw [g3]; rfl
            have g5 : ((x.m.size : Int) == 8) = true := by rw [g3]; rfl
            have HE : Hid (rOK 0 rs = rOK (x.f + 1) (rs.drop (k + 1))) := by show _ = _; rw [HX.out]; unfold r1; rw [g1, g2, g5]; rfl
            have hwr : z ≤ x.f := by unfold inB at g1; simp only [decide_eq_true_eq] at g1; exact g1.1
            have hfl : 0 ≤ x.f := by have := HK0.out; omega
            clear g3
            go_wp2_with (go_at_call 73; refine (with_any _ _ _ _).mono ?_; rintro e w1 ⟨rfl, rfl⟩; first | rw [g1] | rw [g2])
            exact ⟨⟨k + 1, x.f + 1, by omega, by go_num, by go_num, ⟨HE.out, by omega, HB.out⟩⟩, by simp [intOf]; omega⟩
          · have g4 : ((x.m.size : Int) != 8) = true := by simp; omega
            have g5 : ((x.m.size : Int) == 8) = false := by simp; omega
            have HE : Hid (rOK 0 rs = false) := by show _ = _; rw [HX.out]; unfold r1; rw [g1, g2, g5]; rfl
            clear g3
            go_wp2_with (go_at_call 73; refine (with_any _ _ _ _).mono ?_; rintro e w1 ⟨rfl, rfl⟩; first | rw [g1] | rw [g2])
            go_ret
            exact ⟨ret_b HE.out.symm, HB.out⟩
    · obtain rfl : k = rs.length := by omega
      have HE : Hid (rOK 0 rs = true) := HZ.out.1.trans rOK_end
      go_wp2_with fail
      go_ret
      exact ⟨ret_b HE.out.symm, HZ.out.2.2⟩
end Go.Proofs.YtondmbeccpekiaaGreatDoor.Bo

/- Batches that are right: batchOK, l02BatchOK. -/
namespace Go.Proofs.YtondmbeccpekiaaGreatDoor.Bo
open Go.RowKit Go.Proofs.YtondmbeccpekiaaGreatDoor.Rg Go.Proofs.YtondmbeccpekiaaGreatDoor.Gr Go.Proofs.YtondmbeccpekiaaGreatDoor.Rq

theorem guardR (op : BinOp) (a b : Operand) (xs ys : Array Value) (W : World) : (eqGuard op 126 a b (.agg xs) (.agg ys)).run Tryz.prog W = .ok () W := run_eqGuard_agg W op 126 a b xs ys (by kernel_rfl)
set_option maxRecDepth 100000 in
theorem eqlR (c st k l : Int) (n : ByteArray) (W : World) : (binOp .eql 126 (.agg #[.int .i64 c, .int .i64 st, .int .i64 k, .int .i64 l, .string n]) (.agg #[.int .i64 0, .int .i64 0, .int .i64 0, .int .i64 0, .string ⟨#[]⟩])).run Tryz.prog W = .ok (.bool (zB c st k l n)) W := by
  unfold zB
  rw [run_eql_struct, run_equalIn_struct W 9999 126 _ _ (by kernel_rfl) (by kernel_rfl)]
  simp [go_sem, Program.fieldsOf, Tryz.underlying126, Tryz.underlying3, Tryz.underlying9]
  repeat' split
  all_goals simp_all
theorem bat_box {w w1 : World} {nl : Bool} {c st k l : Int} {n : ByteArray} {vr : Value} (b : Below (w.alloc (.cells #[.bool nl, .int .i64 c, .int .i64 st, .int .i64 k, .int .i64 l, .string n, vr] 129)).heap.size (w.alloc (.cells #[.bool nl, .int .i64 c, .int .i64 st, .int .i64 k, .int .i64 l, .string n, vr] 129)) w1) :
    w1.cell? ⟨w.heap.size, 0, none⟩ = some (.bool nl) ∧ w1.cell? ⟨w.heap.size, 1, none⟩ = some (.int .i64 c) ∧ w1.cell? ⟨w.heap.size, 2, none⟩ = some (.int .i64 st) ∧ w1.cell? ⟨w.heap.size, 3, none⟩ = some (.int .i64 k) ∧ w1.cell? ⟨w.heap.size, 4, none⟩ = some (.int .i64 l) ∧ w1.cell? ⟨w.heap.size, 5, none⟩ = some (.string n) ∧ w1.cell? ⟨w.heap.size, 6, none⟩ = some vr ∧ Below w.heap.size w w1 := by
  have h := (b.block w.heap.size (by simp)).trans (heap_alloc_new w _)
  exact ⟨(blk_cell h 0 rfl).1, (blk_cell h 1 rfl).1, (blk_cell h 2 rfl).1, (blk_cell h 3 rfl).1, (blk_cell h 4 rfl).1, (blk_cell h 5 rfl).1, (blk_cell h 6 rfl).1, (bel_new w _).trans (b.mono (by simp))⟩
set_option maxRecDepth 100000 in
set_option maxHeartbeats 800000 in
theorem batchOK_any (nl : Bool) (c st k l : Int) (n : ByteArray) (vr : Value) (rs : List Rd) (w : World) (h : Row w vr rs) (hl : rs.length ≤ 1048576) (hn : n.size ≤ maxLen) :
    Calls Tryz.prog 162 #[batV nl c st k l n vr] w fun e w' => e = .returned (.bool (bOK nl c st k l n rs)) ∧ Below w.heap.size w w' := by
  have HR : Hid (Row w vr rs) := h
  obtain ⟨a, cap, rfl⟩ := RowG.slice h
  clear h
  have HN : Hid (n.size ≤ maxLen) := hn
  clear hn
  unfold batV
  have HB : Hid (Below w.heap.size w (w.alloc (.cells #[.bool nl, .int .i64 c, .int .i64 st, .int .i64 k, .int .i64 l, .string n, .slice a rs.length cap] 129))) := bel_new _ _
  cases nl with
  | true =>
    have HE : Hid (bOK true c st k l n rs = (zB c st k l n && ((rs.length : Int) == 0))) := rfl
    have hq1 := eqlR c st k l n
    have hq2 := guardR
    cases hz : zB c st k l n with
    | false =>
      rw [hz] at hq1 HE
      go_enter Tryz.func162, Tryz.ntmps162
      go_wp2_with fail
      go_ret
      exact ⟨ret_b (by rw [HE.out]; rfl), HB.out⟩
    | true =>
      rw [hz] at hq1 HE
      go_enter Tryz.func162, Tryz.ntmps162
      go_wp2_with fail
      go_ret
      exact ⟨ret_b (by rw [HE.out]; simp), HB.out⟩
  | false =>
    have HE : Hid (bOK false c st k l n rs = (reqB c st k l n && rOK 0 rs)) := rfl
    have C := implRequestOK_any c st k l n (w.alloc (.cells #[.bool false, .int .i64 c, .int .i64 st, .int .i64 k, .int .i64 l, .string n, .slice a rs.length cap] 129)) HN.out
    unfold reqV at C
    have HC : Hid (Calls Tryz.prog 178 #[.agg #[.int .i64 c, .int .i64 st, .int .i64 k, .int .i64 l, .string n]] (w.alloc (.cells #[.bool false, .int .i64 c, .int .i64 st, .int .i64 k, .int .i64 l, .string n, .slice a rs.length cap] 129)) fun e w' => e = .returned (.bool (reqB c st k l n)) ∧ Below (w.alloc (.cells #[.bool false, .int .i64 c, .int .i64 st, .int .i64 k, .int .i64 l, .string n, .slice a rs.length cap] 129)).heap.size (w.alloc (.cells #[.bool false, .int .i64 c, .int .i64 st, .int .i64 k, .int .i64 l, .string n, .slice a rs.length cap] 129)) w') := C
    clear C
    go_enter Tryz.func162, Tryz.ntmps162
    go_wp2_with fail
    refine HC.out.mono ?_
    rintro e w1 ⟨rfl, b1⟩
    obtain ⟨q0, q1, q2, q3, q4, q5, q6, b0⟩ := bat_box b1
    have HB1 : Hid (Below w.heap.size w w1) := b0
    clear b1 b0 HC
    cases hq : reqB c st k l n with
    | false =>
      rw [hq] at HE
      go_wp2_with fail
      go_ret
      exact ⟨ret_b (by rw [HE.out]; rfl), HB1.out⟩
    | true =>
      rw [hq] at HE
      go_wp2_with fail
      refine (readingsOK_any _ rs w1 (HR.out.below HB1.out) hl).mono ?_
      rintro e w2 ⟨rfl, b2⟩
      have HB2 : Hid (Below w.heap.size w w2) := HB1.out.trans (b2.mono HB1.out.size)
      clear b2 q0 q1 q2 q3 q4 q5 q6
      generalize rOK 0 rs = o at HE
      go_wp2_with fail
      go_ret
      exact ⟨ret_b (by rw [HE.out]; rfl), HB2.out⟩
set_option maxRecDepth 100000 in
set_option maxHeartbeats 800000 in
theorem l02Reading_any (x : Rd) (w : World) :
    Calls Tryz.prog 118 #[oneV x] w fun e w' => e = .returned (.bool (r1 0 x)) ∧ Below w.heap.size w w' := by
  have HB : Hid (Below w.heap.size w (w.alloc (.cells #[.int .i64 x.f, .int .i64 x.x, .string x.m] 158))) := bel_new _ _
  have HE : Hid (r1 0 x = (inB x.f 0 6 && (inB x.x 0 1000000000 && ((x.m.size : Int) == 8)))) := rfl
  unfold oneV
  cases g1 : inB x.f 0 6 with
  | false =>
    rw [g1] at HE
    go_enter Tryz.func118, Tryz.ntmps118
    go_wp2_with (go_at_call 29; refine (in_any _ _ _ _).mono ?_; rintro e w1 ⟨rfl, rfl⟩; rw [g1])
    go_ret
    exact ⟨ret_b (by rw [HE.out]; rfl), HB.out⟩
  | true =>
    cases g2 : inB x.x 0 1000000000 with
    | false =>
      rw [g1, g2] at HE
      go_enter Tryz.func118, Tryz.ntmps118
      go_wp2_with (go_at_call 29; refine (in_any _ _ _ _).mono ?_; rintro e w1 ⟨rfl, rfl⟩; first | rw [g1] | rw [g2])
      go_ret
      exact ⟨ret_b (by rw [HE.out]; rfl), HB.out⟩
    | true =>
      rw [g1, g2] at HE
      go_enter Tryz.func118, Tryz.ntmps118
      go_wp2_with (go_at_call 29; refine (in_any _ _ _ _).mono ?_; rintro e w1 ⟨rfl, rfl⟩; first | rw [g1] | rw [g2])
      go_ret
      exact ⟨ret_b (by rw [HE.out]; rfl), HB.out⟩
theorem r1_split {l : Int} {x : Rd} (hl : 0 ≤ l) : r1 l x = (r1 0 x && decide (l ≤ x.f)) := by
  unfold r1 inB
  rw [Bool.eq_iff_iff]
  simp only [Bool.and_eq_true, decide_eq_true_eq]
  constructor
  · rintro ⟨⟨h1, h2⟩, h3⟩; exact ⟨⟨⟨by omega, h2⟩, h3⟩, h1⟩
  · rintro ⟨⟨⟨_, h2⟩, h3⟩, h1⟩; exact ⟨⟨h1, h2⟩, h3⟩
end Go.Proofs.YtondmbeccpekiaaGreatDoor.Bo
