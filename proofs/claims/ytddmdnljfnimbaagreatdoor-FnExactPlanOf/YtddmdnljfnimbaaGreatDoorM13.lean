/- Texts put together: Gr, Bo, Bo2, Rdr. -/
import Derived.Test.YtddmdnljfnimbaaGreatDoorM1
import Derived.Test.YtddmdnljfnimbaaGreatDoorM2
import Derived.Laws.StructEq
import Derived.Test.YtddmdnljfnimbaaGreatDoorM0
import Derived.Lib.SmallJoins
/- Readings in a slice: read, measured, copied, compared. -/
namespace Go.Proofs.YtddmdnljfnimbaaGreatDoor.Gr
open Go.RowKit Go.Proofs.YtddmdnljfnimbaaGreatDoor.Sl Go.Proofs.YtddmdnljfnimbaaGreatDoor.Ap Go.Proofs.YtddmdnljfnimbaaGreatDoor.Rg

structure Rd where
  f : Int
  x : Int
  m : ByteArray
instance : Inhabited Rd := ⟨⟨0, 0, ⟨#[]⟩⟩⟩
def E1 (w : World) (b o : Nat) (x : Rd) : Prop := w.cell? ⟨b, o, none⟩ = some (.int .i64 x.f) ∧ w.cell? ⟨b, o + 1, none⟩ = some (.int .i64 x.x) ∧ w.cell? ⟨b, o + 2, none⟩ = some (.string x.m)
/-- The slice v holds the things xs. -/
def Row (w : World) (v : Value) (xs : List Rd) : Prop := RowG 3 E1 w v xs
def oneV (x : Rd) : Value := .agg #[.int .i64 x.f, .int .i64 x.x, .string x.m]
theorem stays1 : Stays E1 := fun _ _ b _ _ hb hlt ⟨h0, h1, h2⟩ => ⟨(hb.cell (p := ⟨b, _, none⟩) hlt).trans h0, (hb.cell (p := ⟨b, _, none⟩) hlt).trans h1, (hb.cell (p := ⟨b, _, none⟩) hlt).trans h2⟩
theorem Row.below {w w' : World} {v : Value} {xs : List Rd} (h : Row w v xs) (hb : Below w.heap.size w w') : Row w' v xs := RowG.below stays1 h hb
/-- Its texts are no longer than n. -/
def Tz (n : Nat) (x : Rd) : Prop := x.m.size ≤ n
end Go.Proofs.YtddmdnljfnimbaaGreatDoor.Gr
namespace Go.Proofs.YtddmdnljfnimbaaGreatDoor.Op
open Go.ChangeShapes Go.WideShapes Go.ChangeAt Go.RowKit Go.Deep Go.Proofs.YtddmdnljfnimbaaGreatDoor.Rg Go.Proofs.YtddmdnljfnimbaaGreatDoor.Gr
end Go.Proofs.YtddmdnljfnimbaaGreatDoor.Op

/- Batches: what is right, of the program and of the specification. -/
namespace Go.Proofs.YtddmdnljfnimbaaGreatDoor.Bo
open Go.RowKit Go.Proofs.YtddmdnljfnimbaaGreatDoor.Rg Go.Proofs.YtddmdnljfnimbaaGreatDoor.Gr Go.Proofs.YtddmdnljfnimbaaGreatDoor.Rq

/-- A reading is right, of a node from least on; readings rise. -/
def r1 (least : Int) (x : Rd) : Bool := inB x.f least 6 && (inB x.x 0 1000000000 && ((x.m.size : Int) == 8))
def rOK : Int → List Rd → Bool
  | _, [] => true
  | least, x :: xs => r1 least x && rOK (x.f + 1) xs
/-- A request of noughts. -/
def zB (c st k l : Int) (n : ByteArray) : Bool := (c == 0) && ((st == 0) && ((k == 0) && ((l == 0) && (n.toList == (⟨#[]⟩ : ByteArray).toList))))
/-- A batch is right. -/
def bOK (nl : Bool) (c st k l : Int) (n : ByteArray) (rs : List Rd) : Bool := if nl then zB c st k l n && ((rs.length : Int) == 0) else reqB c st k l n && rOK 0 rs
def batV (nl : Bool) (c st k l : Int) (n : ByteArray) (vr : Value) : Value := .agg #[.bool nl, .int .i64 c, .int .i64 st, .int .i64 k, .int .i64 l, .string n, vr]
theorem drop_at {rs : List Rd} {k : Nat} {x : Rd} (h : rs[k]? = some x) : rs.drop k = x :: rs.drop (k + 1) := by
  obtain ⟨hk, rfl⟩ := List.getElem?_eq_some_iff.1 h
  exact List.drop_eq_getElem_cons hk
theorem rOK_step {rs : List Rd} {k : Nat} {x : Rd} {l : Int} (h : rs[k]? = some x) : rOK l (rs.drop k) = (r1 l x && rOK (x.f + 1) (rs.drop (k + 1))) := by rw [drop_at h]; rfl
theorem rOK_end {rs : List Rd} {l : Int} : rOK l (rs.drop rs.length) = true := by rw [List.drop_length]; rfl
theorem rOK_len : ∀ (rs : List Rd) (l : Int), 0 ≤ l → rOK l rs = true → l + rs.length ≤ 7 ∨ rs = []
  | [], _, _, _ => .inr rfl
  | x :: xs, l, hl, h => by
    unfold rOK at h
    rw [Bool.and_eq_true] at h
    obtain ⟨h1, h2⟩ := h
    have hx : l ≤ x.f ∧ x.f ≤ 6 := by unfold r1 inB at h1; simp only [Bool.and_eq_true, decide_eq_true_eq] at h1; exact h1.1
    rcases rOK_len xs (x.f + 1) (by omega) h2 with h3 | h3
    · left; simp only [List.length_cons]; omega
    · left; rw [h3]; simp; omega
theorem rOK_seven {rs : List Rd} (h : rOK 0 rs = true) : rs.length ≤ 7 := by
  rcases rOK_len rs 0 (by omega) h with h | h
  · omega
  · rw [h]; simp
theorem rOK_small : ∀ (rs : List Rd) (l : Int), rOK l rs = true → ∀ x ∈ rs, x.m.size = 8 ∧ x.f ≤ 6 ∧ 0 ≤ x.x ∧ x.x ≤ 1000000000
  | [], _, _, _, hx => by cases hx
  | y :: ys, l, h, x, hx => by
    unfold rOK at h
    rw [Bool.and_eq_true] at h
    rcases List.mem_cons.1 hx with rfl | hx
    · have h1 := h.1
      unfold r1 inB at h1
      simp only [Bool.and_eq_true, decide_eq_true_eq, beq_iff_eq] at h1
      omega
    · exact rOK_small ys _ h.2 x hx
theorem ret_b {a b : Bool} (h : a = b) : Ending.returned (.bool a) = .returned (.bool b) := by rw [h]
theorem with_any (x a b : Int) (w : World) : Calls Tryz.prog 43 #[.int .i64 x, .int .i64 a, .int .i64 b] w fun e w' => e = .returned (.bool (inB x a b)) ∧ w = w' := (within_any x a b w).mono fun _ _ ⟨h1, h2⟩ => ⟨h1, h2.symm⟩
theorem in_any (x a b : Int) (w : World) : Calls Tryz.prog 39 #[.int .i64 x, .int .i64 a, .int .i64 b] w fun e w' => e = .returned (.bool (inB x a b)) ∧ w = w' := (l01In_any x a b w).mono fun _ _ ⟨h1, h2⟩ => ⟨h1, h2.symm⟩
theorem one_kept {w w1 : World} {x : Rd} (b : Below (w.alloc (.cells #[.int .i64 x.f, .int .i64 x.x, .string x.m] 122)).heap.size (w.alloc (.cells #[.int .i64 x.f, .int .i64 x.x, .string x.m] 122)) w1) : E1 w1 w.heap.size 0 x := by
  have h := (b.block w.heap.size (by simp)).trans (heap_alloc_new w _)
  exact ⟨(blk_cell h 0 rfl).1, (blk_cell h 1 rfl).1, (blk_cell h 2 rfl).1⟩

set_option maxRecDepth 100000 in
set_option maxHeartbeats 800000 in
theorem readingsOK_any (v : Value) (rs : List Rd) (w : World) (h : Row w v rs) (hl : rs.length ≤ 1048576) :
    Calls Tryz.prog 96 #[v] w fun e w' => e = .returned (.bool (rOK 0 rs)) ∧ Below w.heap.size w w' := by
  have HR : Hid (Row w v rs) := h
  obtain ⟨a, cap, rfl⟩ := RowG.slice h
  clear h
  go_enter Tryz.func96, Tryz.ntmps96
  go_wp2_with fail
  go_loopw [3, 8] (fun l i wr => ∃ (k : Nat) (z : Int), k ≤ rs.length ∧ i = .int .i64 k ∧ l = .int .i64 z ∧ Hid (rOK 0 rs = rOK z (rs.drop k) ∧ 0 ≤ z ∧ Below w.heap.size w wr)) (fun _ i _ => rs.length - (intOf i).toNat)
  case atStart => exact ⟨0, 0, by omega, rfl, rfl, ⟨by rw [List.drop_zero], Int.le_refl _, Below.refl _ _⟩⟩
  case round =>
    obtain ⟨k, z, hk, rfl, rfl, HZ⟩ := hrel
    by_cases hlt : k < rs.length
    · obtain ⟨x, hx⟩ := Rg.get_at hlt
      obtain ⟨b, off, rfl, hbl, c0, c1, c2⟩ := RowG.at (HR.out.below HZ.out.2.2) rfl hx
      have HX : Hid (rOK 0 rs = (r1 z x && rOK (x.f + 1) (rs.drop (k + 1)))) := HZ.out.1.trans (rOK_step hx)
      have HB : Hid (Below w.heap.size w (wr.alloc (.cells #[.int .i64 x.f, .int .i64 x.x, .string x.m] 122))) := HZ.out.2.2.alloc HZ.out.2.2.size _
      have HK0 : Hid (0 ≤ z) := HZ.out.2.1
      clear hx HZ
      cases g1 : inB x.f z 6 with
      | false =>
        have HE : Hid (rOK 0 rs = false) := by show _ = _; rw [HX.out]; unfold r1; rw [g1]; rfl
        go_wp2_with (go_at_call 43; refine (with_any _ _ _ _).mono ?_; rintro e w1 ⟨rfl, rfl⟩; rw [g1])
        go_ret
        exact ⟨ret_b HE.out.symm, HB.out⟩
      | true =>
        have hf6 : x.f ≤ 6 := by unfold inB at g1; simp only [decide_eq_true_eq] at g1; exact g1.2
        cases g2 : inB x.x 0 1000000000 with
        | false =>
          have HE : Hid (rOK 0 rs = false) := by show _ = _; rw [HX.out]; unfold r1; rw [g1, g2]; rfl
          go_wp2_with (go_at_call 43; refine (with_any _ _ _ _).mono ?_; rintro e w1 ⟨rfl, rfl⟩; first | rw [g1] | rw [g2])
          go_ret
          exact ⟨ret_b HE.out.symm, HB.out⟩
        | true =>
          by_cases g3 : x.m.size = 8
          · have g4 : ((x.m.size : Int) != 8) = false := by rw [g3]; rfl
            have g5 : ((x.m.size : Int) == 8) = true := by rw [g3]; rfl
            have HE : Hid (rOK 0 rs = rOK (x.f + 1) (rs.drop (k + 1))) := by show _ = _; rw [HX.out]; unfold r1; rw [g1, g2, g5]; rfl
            have hwr : z ≤ x.f := by unfold inB at g1; simp only [decide_eq_true_eq] at g1; exact g1.1
            have hfl : 0 ≤ x.f := by have := HK0.out; omega
            clear g3
            go_wp2_with (go_at_call 43; refine (with_any _ _ _ _).mono ?_; rintro e w1 ⟨rfl, rfl⟩; first | rw [g1] | rw [g2])
            exact ⟨⟨k + 1, x.f + 1, by omega, by go_num, by go_num, ⟨HE.out, by omega, HB.out⟩⟩, by simp [intOf]; omega⟩
          · have g4 : ((x.m.size : Int) != 8) = true := by simp; omega
            have g5 : ((x.m.size : Int) == 8) = false := by simp; omega
            have HE : Hid (rOK 0 rs = false) := by show _ = _; rw [HX.out]; unfold r1; rw [g1, g2, g5]; rfl
            clear g3
            go_wp2_with (go_at_call 43; refine (with_any _ _ _ _).mono ?_; rintro e w1 ⟨rfl, rfl⟩; first | rw [g1] | rw [g2])
            go_ret
            exact ⟨ret_b HE.out.symm, HB.out⟩
    · obtain rfl : k = rs.length := by omega
      have HE : Hid (rOK 0 rs = true) := HZ.out.1.trans rOK_end
      go_wp2_with fail
      go_ret
      exact ⟨ret_b HE.out.symm, HZ.out.2.2⟩
end Go.Proofs.YtddmdnljfnimbaaGreatDoor.Bo

/- Batches that are right: batchOK, l02BatchOK. -/
namespace Go.Proofs.YtddmdnljfnimbaaGreatDoor.Bo
open Go.RowKit Go.Proofs.YtddmdnljfnimbaaGreatDoor.Rg Go.Proofs.YtddmdnljfnimbaaGreatDoor.Gr Go.Proofs.YtddmdnljfnimbaaGreatDoor.Rq

theorem guardR (op : BinOp) (a b : Operand) (xs ys : Array Value) (W : World) : (eqGuard op 85 a b (.agg xs) (.agg ys)).run Tryz.prog W = .ok () W := run_eqGuard_agg W op 85 a b xs ys (by kernel_rfl)
set_option maxRecDepth 100000 in
theorem eqlR (c st k l : Int) (n : ByteArray) (W : World) : (binOp .eql 85 (.agg #[.int .i64 c, .int .i64 st, .int .i64 k, .int .i64 l, .string n]) (.agg #[.int .i64 0, .int .i64 0, .int .i64 0, .int .i64 0, .string ⟨#[]⟩])).run Tryz.prog W = .ok (.bool (zB c st k l n)) W := by
  unfold zB
  rw [run_eql_struct, run_equalIn_struct W 9999 85 _ _ (by kernel_rfl) (by kernel_rfl)]
  simp [go_sem, Program.fieldsOf, Tryz.underlying85, Tryz.underlying3, Tryz.underlying9]
  repeat' split
  all_goals simp_all
/-- The block of a boxed batch. -/
theorem bat_box {w w1 : World} {nl : Bool} {c st k l : Int} {n : ByteArray} {vr : Value} (b : Below (w.alloc (.cells #[.bool nl, .int .i64 c, .int .i64 st, .int .i64 k, .int .i64 l, .string n, vr] 88)).heap.size (w.alloc (.cells #[.bool nl, .int .i64 c, .int .i64 st, .int .i64 k, .int .i64 l, .string n, vr] 88)) w1) :
    w1.cell? ⟨w.heap.size, 0, none⟩ = some (.bool nl) ∧ w1.cell? ⟨w.heap.size, 1, none⟩ = some (.int .i64 c) ∧ w1.cell? ⟨w.heap.size, 2, none⟩ = some (.int .i64 st) ∧ w1.cell? ⟨w.heap.size, 3, none⟩ = some (.int .i64 k) ∧ w1.cell? ⟨w.heap.size, 4, none⟩ = some (.int .i64 l) ∧ w1.cell? ⟨w.heap.size, 5, none⟩ = some (.string n) ∧ w1.cell? ⟨w.heap.size, 6, none⟩ = some vr ∧ Below w.heap.size w w1 := by
  have h := (b.block w.heap.size (by simp)).trans (heap_alloc_new w _)
  exact ⟨(blk_cell h 0 rfl).1, (blk_cell h 1 rfl).1, (blk_cell h 2 rfl).1, (blk_cell h 3 rfl).1, (blk_cell h 4 rfl).1, (blk_cell h 5 rfl).1, (blk_cell h 6 rfl).1, (bel_new w _).trans (b.mono (by simp))⟩
set_option maxRecDepth 100000 in
set_option maxHeartbeats 800000 in
theorem batchOK_any (nl : Bool) (c st k l : Int) (n : ByteArray) (vr : Value) (rs : List Rd) (w : World) (h : Row w vr rs) (hl : rs.length ≤ 1048576) (hn : n.size ≤ maxLen) :
    Calls Tryz.prog 70 #[batV nl c st k l n vr] w fun e w' => e = .returned (.bool (bOK nl c st k l n rs)) ∧ Below w.heap.size w w' := by
  have HR : Hid (Row w vr rs) := h
  obtain ⟨a, cap, rfl⟩ := RowG.slice h
  clear h
  have HN : Hid (n.size ≤ maxLen) := hn
  clear hn
  unfold batV
  have HB : Hid (Below w.heap.size w (w.alloc (.cells #[.bool nl, .int .i64 c, .int .i64 st, .int .i64 k, .int .i64 l, .string n, .slice a rs.length cap] 88))) := bel_new _ _
  cases nl with
  | true =>
    have HE : Hid (bOK true c st k l n rs = (zB c st k l n && ((rs.length : Int) == 0))) := rfl
    have hq1 := eqlR c st k l n
    have hq2 := guardR
    cases hz : zB c st k l n with
    | false =>
      rw [hz] at hq1 HE
      go_enter Tryz.func70, Tryz.ntmps70
      go_wp2_with fail
      go_ret
      exact ⟨ret_b (by rw [HE.out]; rfl), HB.out⟩
    | true =>
      rw [hz] at hq1 HE
      go_enter Tryz.func70, Tryz.ntmps70
      go_wp2_with fail
      go_ret
      exact ⟨ret_b (by rw [HE.out]; simp), HB.out⟩
  | false =>
    have HE : Hid (bOK false c st k l n rs = (reqB c st k l n && rOK 0 rs)) := rfl
    have C := implRequestOK_any c st k l n (w.alloc (.cells #[.bool false, .int .i64 c, .int .i64 st, .int .i64 k, .int .i64 l, .string n, .slice a rs.length cap] 88)) HN.out
    unfold reqV at C
    have HC : Hid (Calls Tryz.prog 95 #[.agg #[.int .i64 c, .int .i64 st, .int .i64 k, .int .i64 l, .string n]] (w.alloc (.cells #[.bool false, .int .i64 c, .int .i64 st, .int .i64 k, .int .i64 l, .string n, .slice a rs.length cap] 88)) fun e w' => e = .returned (.bool (reqB c st k l n)) ∧ Below (w.alloc (.cells #[.bool false, .int .i64 c, .int .i64 st, .int .i64 k, .int .i64 l, .string n, .slice a rs.length cap] 88)).heap.size (w.alloc (.cells #[.bool false, .int .i64 c, .int .i64 st, .int .i64 k, .int .i64 l, .string n, .slice a rs.length cap] 88)) w') := C
    clear C
    go_enter Tryz.func70, Tryz.ntmps70
    go_wp2_with fail
    refine HC.out.mono ?_
    rintro e w1 ⟨rfl, b1⟩
    obtain ⟨q0, q1, q2, q3, q4, q5, q6, b0⟩ := bat_box b1
    have HB1 : Hid (Below w.heap.size w w1) := b0
    clear b1 b0 HC
    cases hq : reqB c st k l n with
    | false =>
      rw [hq] at HE
      go_wp2_with fail
      go_ret
      exact ⟨ret_b (by rw [HE.out]; rfl), HB1.out⟩
    | true =>
      rw [hq] at HE
      go_wp2_with fail
      refine (readingsOK_any _ rs w1 (HR.out.below HB1.out) hl).mono ?_
      rintro e w2 ⟨rfl, b2⟩
      have HB2 : Hid (Below w.heap.size w w2) := HB1.out.trans (b2.mono HB1.out.size)
      clear b2 q0 q1 q2 q3 q4 q5 q6
      generalize rOK 0 rs = o at HE
      go_wp2_with fail
      go_ret
      exact ⟨ret_b (by rw [HE.out]; rfl), HB2.out⟩
set_option maxRecDepth 100000 in
set_option maxHeartbeats 800000 in
theorem l02Reading_any (x : Rd) (w : World) :
    Calls Tryz.prog 85 #[oneV x] w fun e w' => e = .returned (.bool (r1 0 x)) ∧ Below w.heap.size w w' := by
  have HB : Hid (Below w.heap.size w (w.alloc (.cells #[.int .i64 x.f, .int .i64 x.x, .string x.m] 122))) := bel_new _ _
  have HE : Hid (r1 0 x = (inB x.f 0 6 && (inB x.x 0 1000000000 && ((x.m.size : Int) == 8)))) := rfl
  unfold oneV
  cases g1 : inB x.f 0 6 with
  | false =>
    rw [g1] at HE
    go_enter Tryz.func85, Tryz.ntmps85
    go_wp2_with (go_at_call 39; refine (in_any _ _ _ _).mono ?_; rintro e w1 ⟨rfl, rfl⟩; rw [g1])
    go_ret
    exact ⟨ret_b (by rw [HE.out]; rfl), HB.out⟩
  | true =>
    cases g2 : inB x.x 0 1000000000 with
    | false =>
      rw [g1, g2] at HE
      go_enter Tryz.func85, Tryz.ntmps85
      go_wp2_with (go_at_call 39; refine (in_any _ _ _ _).mono ?_; rintro e w1 ⟨rfl, rfl⟩; first | rw [g1] | rw [g2])
      go_ret
      exact ⟨ret_b (by rw [HE.out]; rfl), HB.out⟩
    | true =>
      rw [g1, g2] at HE
      go_enter Tryz.func85, Tryz.ntmps85
      go_wp2_with (go_at_call 39; refine (in_any _ _ _ _).mono ?_; rintro e w1 ⟨rfl, rfl⟩; first | rw [g1] | rw [g2])
      go_ret
      exact ⟨ret_b (by rw [HE.out]; rfl), HB.out⟩
/-- Readings rise: the specification's way to say it. -/
theorem r1_split {l : Int} {x : Rd} (hl : 0 ≤ l) : r1 l x = (r1 0 x && decide (l ≤ x.f)) := by
  unfold r1 inB
  rw [Bool.eq_iff_iff]
  simp only [Bool.and_eq_true, decide_eq_true_eq]
  constructor
  · rintro ⟨⟨h1, h2⟩, h3⟩; exact ⟨⟨⟨by omega, h2⟩, h3⟩, h1⟩
  · rintro ⟨⟨⟨_, h2⟩, h3⟩, h1⟩; exact ⟨⟨h1, h2⟩, h3⟩
end Go.Proofs.YtddmdnljfnimbaaGreatDoor.Bo

/- The reader of the wire: what it takes, what is left. -/
namespace Go.Proofs.YtddmdnljfnimbaaGreatDoor.Rr
open Go.RowKit Go.Proofs.YtddmdnljfnimbaaGreatDoor.Sl Go.Proofs.YtddmdnljfnimbaaGreatDoor.By Go.Proofs.YtddmdnljfnimbaaGreatDoor.Ap Go.Proofs.YtddmdnljfnimbaaGreatDoor.Rq

/-- The slice v holds the bytes xs, in blocks below B. -/
def RowU (B : Nat) (w : World) (v : Value) (xs : List Int) : Prop :=
  ∃ a cap, v = .slice a xs.length cap ∧ xs.length ≤ cap ∧ (xs = [] ∨ ∃ b off, a = some ⟨b, off, none⟩ ∧ b < B ∧ ∀ i, i < xs.length → w.cell? ⟨b, off + i, none⟩ = some (.int .u8 (nth xs i))) ∧ ∀ x ∈ xs, 0 ≤ x ∧ x ≤ 255
theorem RowU.of {w : World} {v : Value} {xs : List Int} (h : RowB w v xs) : RowU w.heap.size w v xs := by
  obtain ⟨a, cap, rfl, h, hr⟩ := h
  rcases h with rfl | ⟨b, off, rfl, hc, hlt, h⟩
  · exact ⟨a, cap, rfl, Nat.zero_le _, .inl rfl, hr⟩
  · exact ⟨_, cap, rfl, hc, .inr ⟨b, off, rfl, hlt, h⟩, hr⟩
theorem RowU.row {B : Nat} {w : World} {v : Value} {xs : List Int} (h : RowU B w v xs) (hB : B ≤ w.heap.size) : RowB w v xs := by
  obtain ⟨a, cap, rfl, hc, h, hr⟩ := h
  rcases h with rfl | ⟨b, off, rfl, hlt, h⟩
  · exact ⟨a, cap, rfl, .inl rfl, hr⟩
  · exact ⟨_, cap, rfl, .inr ⟨b, off, rfl, hc, Nat.lt_of_lt_of_le hlt hB, h⟩, hr⟩
theorem RowU.kept {B : Nat} {w w' : World} {v : Value} {xs : List Int} (h : RowU B w v xs) (hb : ∀ k, k < B → w'.heap[k]? = w.heap[k]?) : RowU B w' v xs := by
  obtain ⟨a, cap, rfl, hc, h, hr⟩ := h
  refine ⟨a, cap, rfl, hc, ?_, hr⟩
  rcases h with h | ⟨b, off, rfl, hlt, h⟩
  · exact .inl h
  · exact .inr ⟨b, off, rfl, hlt, fun i hi => (World.cell?_of_block (a := ⟨b, off + i, none⟩) (hb b hlt)).trans (h i hi)⟩

/-- A reader in block p: what is left, and whether it fell short. -/
def Rdr (B : Nat) (w : World) (p : Nat) (xs : List Int) (sh : Bool) : Prop := ∃ v, w.heap[p]? = some (.cells #[v, .bool sh] 147 (0, 0)) ∧ RowU B w v xs
theorem Rdr.kept {B p : Nat} {w w' : World} {xs : List Int} {sh : Bool} (h : Rdr B w p xs sh) (hp : w'.heap[p]? = w.heap[p]?) (hb : ∀ k, k < B → w'.heap[k]? = w.heap[k]?) : Rdr B w' p xs sh := by
  obtain ⟨v, h1, h2⟩ := h
  exact ⟨v, hp.trans h1, h2.kept hb⟩
theorem Rdr.lt {B p : Nat} {w : World} {xs : List Int} {sh : Bool} (h : Rdr B w p xs sh) : p < w.heap.size := by
  obtain ⟨v, h1, _⟩ := h
  exact (Array.getElem?_eq_some_iff.1 h1).1

/-- What is taken; what is left. -/
def tkB (n : Nat) (xs : List Int) : List Int := if xs.length < n then [] else xs.take n
def tkR (n : Nat) (xs : List Int) : List Int := if xs.length < n then [] else xs.drop n
def tkS (n : Nat) (xs : List Int) (sh : Bool) : Bool := sh || decide (xs.length < n)

theorem grown_set {w : World} {p : Nat} (i : Nat) (x : Value) : w.grownBy (w.setCell ⟨p, i, none⟩ x) (some p) :=
  ⟨rfl, rfl, rfl, by simp, fun k _ hk => Below.heap_setCell w ⟨p, i, none⟩ x k (fun e => hk (by rw [e]))⟩
theorem grown_trans {w w1 w2 : World} {r : Option Nat} (h : w.grownBy w1 r) (g : w1.grownBy w2 r) : w.grownBy w2 r :=
  ⟨g.os.trans h.os, g.tape.trans h.tape, g.output.trans h.output, Nat.le_trans h.size g.size, fun k hk hn => (g.block k (Nat.lt_of_lt_of_le hk h.size) hn).trans (h.block k hk hn)⟩
theorem grown_refl (w : World) (r : Option Nat) : w.grownBy w r := ⟨rfl, rfl, rfl, Nat.le_refl _, fun _ _ _ => rfl⟩
theorem below_kept {B p : Nat} {w w' : World} (h : w.grownBy w' (some p)) (hB : B ≤ p) (hp : p < w.heap.size) : ∀ k, k < B → w'.heap[k]? = w.heap[k]? :=
  fun k hk => h.block k (by omega) (by simp; omega)
theorem nth_take {xs : List Int} {n i : Nat} (h : i < n) : nth (xs.take n) i = nth xs i := by
  unfold nth; rw [List.getD_eq_getElem?_getD, List.getD_eq_getElem?_getD, List.getElem?_take_of_lt h]
theorem nth_drop {xs : List Int} {n i : Nat} : nth (xs.drop n) i = nth xs (n + i) := by
  unfold nth; rw [List.getD_eq_getElem?_getD, List.getD_eq_getElem?_getD, List.getElem?_drop]

theorem set0 {w : World} {p : Nat} {v x y : Value} {t : TypeId} (h : w.heap[p]? = some (.cells #[v, y] t (0, 0))) : (w.setCell ⟨p, 0, none⟩ x).heap[p]? = some (.cells #[x, y] t (0, 0)) := Joins.block_setCell (i := 0) h x
theorem set1 {w : World} {p : Nat} {v x y : Value} {t : TypeId} (h : w.heap[p]? = some (.cells #[v, y] t (0, 0))) : (w.setCell ⟨p, 1, none⟩ x).heap[p]? = some (.cells #[v, x] t (0, 0)) := Joins.block_setCell (i := 1) h x
theorem len_take {xs : List Int} {n : Nat} (h : n ≤ xs.length) : (xs.take n).length = n := by rw [List.length_take]; omega
theorem row_take {B : Nat} {w : World} {a : Option Addr} {cap n : Nat} {xs : List Int} (h : RowU B w (.slice a xs.length cap) xs) (hn : n ≤ xs.length) : RowU B w (.slice a n cap) (xs.take n) := by
  obtain ⟨a', cap', e, hc, h, hr⟩ := h
  simp only [Value.slice.injEq, true_and] at e
  obtain ⟨rfl, rfl⟩ := e
  refine ⟨a, cap, by rw [len_take hn], by rw [len_take hn]; omega, ?_, fun x hx => hr x (List.mem_of_mem_take hx)⟩
  rcases h with rfl | ⟨b, off, rfl, hlt, h⟩
  · exact .inl (by simp)
  · refine .inr ⟨b, off, rfl, hlt, fun i hi => ?_⟩
    rw [len_take hn] at hi
    rw [nth_take hi]
    exact h i (by omega)
theorem row_drop {B : Nat} {w : World} {a : Option Addr} {cap n : Nat} {xs : List Int} (h : RowU B w (.slice a xs.length cap) xs) (hn : n ≤ xs.length) : RowU B w (.slice (if cap = n then a else a.map (·.add n)) (xs.length - n) (cap - n)) (xs.drop n) := by
  obtain ⟨a', cap', e, hc, h, hr⟩ := h
  simp only [Value.slice.injEq, true_and] at e
  obtain ⟨rfl, rfl⟩ := e
  refine ⟨_, cap - n, by rw [List.length_drop], by rw [List.length_drop]; omega, ?_, fun x hx => hr x (List.mem_of_mem_drop hx)⟩
  by_cases he : xs.length = n
  · exact .inl (List.drop_eq_nil_of_le (by omega))
  · rcases h with rfl | ⟨b, off, rfl, hlt, h⟩
    · exact .inl (by simp)
    · rw [if_neg (by omega)]
      refine .inr ⟨b, off + n, by simp [addr_add], hlt, fun i hi => ?_⟩
      rw [List.length_drop] at hi
      rw [nth_drop, Nat.add_assoc]
      exact h (n + i) (by omega)

set_option maxHeartbeats 800000 in
theorem take_any (n p B : Nat) (xs : List Int) (sh : Bool) (w : World) (h : Rdr B w p xs sh) (hB : B ≤ p) (hn : n ≤ 70000) (_hx : xs.length ≤ 70000) :
    Calls Tryz.prog 109 #[.pointer (some ⟨p, 0, none⟩), .int .i64 n] w fun e w' => ∃ v', e = .returned v' ∧ RowU B w' v' (tkB n xs) ∧ Rdr B w' p (tkR n xs) (tkS n xs sh) ∧ w.grownBy w' (some p) := by
  have hp := h.lt
  obtain ⟨v, h1, hu⟩ := h
  have c0 := Joins.cell_of_block h1 0
  have c1 := Joins.cell_of_block h1 1
  have f0 := Joins.unfrozen_of_block h1 0
  have f1 := Joins.unfrozen_of_block h1 1
  have HU : Hid (RowU B w v xs) := hu
  obtain ⟨a, cap, rfl, hcap, hc, hr⟩ := hu
  simp at c0 c1
  have H1 : Hid (w.heap[p]? = some (.cells #[.slice a xs.length cap, .bool sh] 147 (0, 0))) := h1
  clear h1 hc hr
  by_cases hlt : xs.length < n
  · have hlt' : (xs.length : Int) < (n : Int) := by omega
    have e1 : Hid (tkB n xs = [] ∧ tkR n xs = [] ∧ tkS n xs sh = true) := ⟨if_pos hlt, if_pos hlt, by unfold tkS; simp [hlt]⟩
    clear hlt
    go_enter Tryz.func109, Tryz.ntmps109
    go_wp2
    go_ret
    rw [e1.out.1, e1.out.2.1, e1.out.2.2]
    exact ⟨_, rfl, ⟨none, 0, rfl, Nat.le_refl _, .inl rfl, fun x hx => by cases hx⟩, ⟨_, set1 (set0 H1.out), none, 0, rfl, Nat.le_refl _, .inl rfl, fun x hx => by cases hx⟩, grown_trans (grown_set _ _) (grown_set _ _)⟩
  · have hlt' : (n : Int) ≤ (xs.length : Int) := by omega
    have e1 : Hid (tkB n xs = xs.take n ∧ tkR n xs = xs.drop n ∧ tkS n xs sh = sh) := ⟨if_neg hlt, if_neg hlt, by unfold tkS; simp [hlt]⟩
    have HT : Hid (RowU B w (.slice a n cap) (xs.take n)) := row_take HU.out (show n ≤ xs.length by omega)
    have HD := row_drop HU.out (show n ≤ xs.length by omega)
    by_cases hcn : cap = n
    · subst hcn
      rw [if_pos rfl, Nat.sub_self] at HD
      rw [show xs.length - cap = 0 by omega] at HD
      have HD' : Hid (RowU B w (.slice a 0 0) (xs.drop cap)) := HD
      clear hlt HD
      go_enter Tryz.func109, Tryz.ntmps109
      go_wp2
      go_ret
      rw [e1.out.1, e1.out.2.1, e1.out.2.2]
      refine ⟨_, rfl, RowU.kept HT.out (below_kept (grown_set _ _) hB hp), ⟨_, set0 H1.out, RowU.kept HD'.out (below_kept (grown_set _ _) hB hp)⟩, grown_set _ _⟩
    · rw [if_neg hcn] at HD
      have HD' : Hid (RowU B w (.slice (a.map (·.add n)) (xs.length - n) (cap - n)) (xs.drop n)) := HD
      clear hlt HD
      go_enter Tryz.func109, Tryz.ntmps109
      go_wp2
      go_ret
      rw [e1.out.1, e1.out.2.1, e1.out.2.2]
      refine ⟨_, rfl, RowU.kept HT.out (below_kept (grown_set _ _) hB hp), ⟨_, set0 H1.out, RowU.kept HD'.out (below_kept (grown_set _ _) hB hp)⟩, grown_set _ _⟩

/-- The number that some bytes make, the higher ones first. -/
def beN : List Int → Int := fun xs => xs.foldl (fun n x => n * 256 + x) 0
theorem beN_snoc (xs : List Int) (x : Int) : beN (xs ++ [x]) = beN xs * 256 + x := by unfold beN; rw [List.foldl_append]; rfl
theorem fold_range : ∀ (xs : List Int) (a : Int), (∀ x ∈ xs, 0 ≤ x ∧ x ≤ 255) → 0 ≤ a → 0 ≤ xs.foldl (fun n x => n * 256 + x) a ∧ xs.foldl (fun n x => n * 256 + x) a < (a + 1) * 256 ^ xs.length
  | [], a, _, h => by simp; omega
  | x :: xs, a, hr, h => by
    have hx := hr x (by simp)
    have ih := fold_range xs (a * 256 + x) (fun y hy => hr y (by simp [hy])) (by omega)
    refine ⟨ih.1, Int.lt_of_lt_of_le ih.2 ?_⟩
    rw [List.length_cons, Int.pow_succ, Int.mul_comm (256 ^ xs.length) 256, ← Int.mul_assoc]
    exact Int.mul_le_mul_of_nonneg_right (by omega) (Int.le_of_lt (Int.pow_pos (by decide)))
theorem beN_range (xs : List Int) (h : ∀ x ∈ xs, 0 ≤ x ∧ x ≤ 255) : 0 ≤ beN xs ∧ beN xs < 256 ^ xs.length := by
  have := fold_range xs 0 h (by decide)
  unfold beN
  simpa using this
theorem take_succ_nth {xs : List Int} {k : Nat} (h : k < xs.length) : xs.take (k + 1) = xs.take k ++ [nth xs k] := by
  rw [List.take_add_one, List.getElem?_eq_getElem h]; simp [nth, List.getElem?_eq_getElem h]

theorem or64 (m x : Int) (h0 : 0 ≤ m) (h1 : m < 16777216) (h2 : 0 ≤ x) (h3 : x ≤ 255) : bits .or .i64 (m * 256) x = m * 256 + x := by
  obtain ⟨M, rfl⟩ : ∃ M : Nat, m = M := ⟨m.toNat, by omega⟩
  obtain ⟨X, rfl⟩ : ∃ X : Nat, x = X := ⟨x.toNat, by omega⟩
  have e : bits .or .i64 ((M : Int) * 256) (X : Int) = IntKind.i64.wrap (((BitVec.ofInt 64 ((M : Int) * 256) ||| BitVec.ofInt 64 (X : Int)).toNat : Nat) : Int) := rfl
  have e1 := ofInt_u64 (M * 256) (by omega)
  have e2 := ofInt_u64 X (by omega)
  have e3 : ((M : Int) * 256) = ((M * 256 : Nat) : Int) := by omega
  have e4 : M * 256 ||| X = M * 256 + X := by
    have := Nat.two_pow_add_eq_or_of_lt (i := 8) (b := X) (by omega) M
    rw [Nat.mul_comm]
    exact this.symm
  rw [e, e3, BitVec.toNat_or, e1, e2, e4, IntKind.wrap_i64]
  omega
theorem val_eq {k : IntKind} {a b : Int} (h : a = b) : Value.int k a = .int k b := by rw [h]
theorem tkB_len (n : Nat) (xs : List Int) : (tkB n xs).length ≤ n := by unfold tkB; split; simp; rw [List.length_take]; omega
theorem tkB_range {n : Nat} {xs : List Int} (h : ∀ x ∈ xs, 0 ≤ x ∧ x ≤ 255) : ∀ x ∈ tkB n xs, 0 ≤ x ∧ x ≤ 255 := by
  unfold tkB; split
  · intro x hx; cases hx
  · exact fun x hx => h x (List.mem_of_mem_take hx)
theorem tkR_range {n : Nat} {xs : List Int} (h : ∀ x ∈ xs, 0 ≤ x ∧ x ≤ 255) : ∀ x ∈ tkR n xs, 0 ≤ x ∧ x ≤ 255 := by
  unfold tkR; split
  · intro x hx; cases hx
  · exact fun x hx => h x (List.mem_of_mem_drop hx)
theorem tkR_len (n : Nat) (xs : List Int) : (tkR n xs).length ≤ xs.length := by unfold tkR; split; simp; rw [List.length_drop]; omega

set_option maxHeartbeats 800000 in
theorem number_any (n p B : Nat) (xs : List Int) (sh : Bool) (w : World) (h : Rdr B w p xs sh) (hB : B ≤ p) (hn : n ≤ 4) (hx : xs.length ≤ 70000) (hr : ∀ x ∈ xs, 0 ≤ x ∧ x ≤ 255) :
    Calls Tryz.prog 92 #[.pointer (some ⟨p, 0, none⟩), .int .i64 n] w fun e w' => e = .returned (.int .i64 (beN (tkB n xs))) ∧ Rdr B w' p (tkR n xs) (tkS n xs sh) ∧ w.grownBy w' (some p) := by
  have hp := h.lt
  have hl4 := tkB_len n xs
  have hrg := tkB_range (n := n) hr
  go_enter Tryz.func92, Tryz.ntmps92
  go_wp2_with fail
  refine (take_any n p B xs sh _ h hB (by omega) hx).mono ?_
  rintro e w1 ⟨v1, rfl, u1, r1, g1⟩
  obtain ⟨ys, HY⟩ : ∃ ys, Hid (tkB n xs = ys) := ⟨_, rfl⟩
  rw [HY.out] at u1 hl4 hrg
  have R1 : Hid (Rdr B w1 p (tkR n xs) (tkS n xs sh)) := r1
  obtain ⟨a, cap, rfl, hcap, hc, _⟩ := u1
  clear r1 h
  go_wp2_with fail
  go_loop [5, 7, 12] (fun v _ i => ∃ k : Nat, k ≤ ys.length ∧ i = .int .i64 k ∧ v = .int .i64 (beN (ys.take k))) (fun _ _ i => ys.length - (intOf i).toNat)
  case atStart => exact ⟨0, by omega, rfl, rfl⟩
  case round =>
    obtain ⟨k, hk, rfl, rfl⟩ := hrel
    by_cases hlt : k < ys.length
    · rcases hc with hc | ⟨b, off, rfl, hb, hcell⟩
      · exact absurd hlt (by rw [hc]; simp)
      have hc1 := hcell k hlt
      have hx1 := range_at hrg k
      have HM : Hid (beN (ys.take (k + 1)) = beN (ys.take k) * 256 + nth ys k) := by show _ = _; rw [take_succ_nth hlt, beN_snoc]
      have hbn := beN_range (ys.take k) (fun x hx => hrg x (List.mem_of_mem_take hx))
      have hb2 : beN (ys.take k) < 16777216 := by
        have : (256 : Int) ^ (ys.take k).length ≤ 256 ^ 3 := by
          have h3 : (ys.take k).length ≤ 3 := by rw [List.length_take]; omega
          generalize (ys.take k).length = q at h3
          match q, h3 with
          | 0, _ => decide
          | 1, _ => decide
          | 2, _ => decide
          | 3, _ => decide
        have e : (256 : Int) ^ 3 = 16777216 := rfl
        omega
      generalize beN (ys.take k) = m at hbn hb2 HM
      have hb0 := hbn.1
      clear hcell hbn
      go_wp2
      exact ⟨⟨k + 1, by omega, by go_num, val_eq (by rw [or64 _ _ hb0 hb2 hx1.1 hx1.2, HM.out])⟩, by simp [intOf]; omega⟩
    · obtain rfl : k = ys.length := by omega
      go_wp2
      go_ret
      exact ⟨by rw [HY.out]; rfl, R1.out, g1⟩

/-- A text that is taken: its length first. -/
def txtN (n : Nat) (xs : List Int) : Nat := (beN (tkB n xs)).toNat
def txtB (n : Nat) (xs : List Int) : ByteArray := strOfNums (tkB (txtN n xs) (tkR n xs))
def txtR (n : Nat) (xs : List Int) : List Int := tkR (txtN n xs) (tkR n xs)
def txtS (n : Nat) (xs : List Int) (sh : Bool) : Bool := tkS (txtN n xs) (tkR n xs) (tkS n xs sh)
theorem txtN_le (n : Nat) (xs : List Int) (hn : n ≤ 2) (hr : ∀ x ∈ xs, 0 ≤ x ∧ x ≤ 255) : txtN n xs ≤ 65535 ∧ beN (tkB n xs) = (txtN n xs : Int) := by
  have h1 := beN_range _ (tkB_range (n := n) hr)
  have h2 := tkB_len n xs
  have h3 : (256 : Int) ^ (tkB n xs).length ≤ 65536 := by
    generalize (tkB n xs).length = q at h2
    have h3 : q ≤ 2 := by omega
    match q, h3 with
    | 0, _ => decide
    | 1, _ => decide
    | 2, _ => decide
  unfold txtN
  omega
theorem run_convert_zero {P : Program} (w : World) (src e : TypeId) (hs : P.underlying src = some (.slice e)) (he : P.underlying e = some (.int .u8)) (a : Option Addr) (c : Nat) (dst : TypeId) (hd : P.underlying dst = some .string) :
    (convert src dst (.slice a 0 c)).run P w = .ok (.string (strOfNums [])) w := by
  cases a with
  | none => rw [run_convert_bytes_nil w src e hs he 0 c dst hd]; rfl
  | some ad =>
    unfold convert
    simp [run_underlying hs, run_underlying he, run_underlying hd]
    rfl
theorem run_convert_row {P : Program} (w : World) (B : Nat) (src e dst : TypeId) (hs : P.underlying src = some (.slice e)) (he : P.underlying e = some (.int .u8)) (hd : P.underlying dst = some .string)
    (v : Value) (zs : List Int) (h : RowU B w v zs) : (convert src dst v).run P w = .ok (.string (strOfNums zs)) w := by
  obtain ⟨a, cap, rfl, hc, h, _⟩ := h
  rcases h with rfl | ⟨b, off, rfl, hb, h⟩
  · exact run_convert_zero w src e hs he a cap dst hd
  · refine run_convert_bytes_arg w src e hs he b off zs.length cap zs rfl (fun i hi => ?_) dst hd
    exact h i hi

set_option maxHeartbeats 800000 in
theorem text_any (n p B : Nat) (xs : List Int) (sh : Bool) (w : World) (h : Rdr B w p xs sh) (hB : B ≤ p) (hn : n ≤ 2) (hx : xs.length ≤ 70000) (hr : ∀ x ∈ xs, 0 ≤ x ∧ x ≤ 255) :
    Calls Tryz.prog 100 #[.pointer (some ⟨p, 0, none⟩), .int .i64 n] w fun e w' => e = .returned (.string (txtB n xs)) ∧ Rdr B w' p (txtR n xs) (txtS n xs sh) ∧ w.grownBy w' (some p) := by
  have hp := h.lt
  obtain ⟨t1, t2⟩ := txtN_le n xs hn hr
  have T2 : Hid (_) := t2
  clear t2
  go_enter Tryz.func100, Tryz.ntmps100
  go_wp2_with fail
  refine (number_any n p B xs sh _ h hB (by omega) hx hr).mono ?_
  rintro e w1 ⟨rfl, r1, g1⟩
  rw [T2.out]
  go_wp2_with fail
  refine (take_any (txtN n xs) p B _ _ _ r1 hB (by omega) (Nat.le_trans (tkR_len _ _) hx)).mono ?_
  rintro e w2 ⟨v2, rfl, u2, r2, g2⟩
  have hcv := run_convert_row (P := Tryz.prog) w2 B 91 5 9 Tryz.underlying91 Tryz.underlying5 Tryz.underlying9 v2 _ u2
  clear u2 r1
  go_wp2
  go_ret
  exact ⟨rfl, r2, grown_trans g1 g2⟩
end Go.Proofs.YtddmdnljfnimbaaGreatDoor.Rr
