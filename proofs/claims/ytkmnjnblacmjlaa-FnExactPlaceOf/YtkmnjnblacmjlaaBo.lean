/- Batches: what is right, of the program and of the specification. -/
import Derived.Test.YtkmnjnblacmjlaaReq
import Derived.Test.YtkmnjnblacmjlaaGr
import Derived.Laws.StructEq
namespace Go.Proofs.Ytkmnjnblacmjlaa.Bo
open Go.RowKit Go.Proofs.Ytkmnjnblacmjlaa.Rg Go.Proofs.Ytkmnjnblacmjlaa.Gr Go.Proofs.Ytkmnjnblacmjlaa.Rq

/-- A reading is right, of a node from least on; readings rise. -/
def r1 (least : Int) (x : Rd) : Bool := inB x.f least 6 && (inB x.x 0 1000000000 && ((x.m.size : Int) == 8))
def rOK : Int → List Rd → Bool
  | _, [] => true
  | least, x :: xs => r1 least x && rOK (x.f + 1) xs
/-- A request of noughts. -/
def zB (c st k l : Int) (n : ByteArray) : Bool := (c == 0) && ((st == 0) && ((k == 0) && ((l == 0) && (n.toList == (⟨#[]⟩ : ByteArray).toList))))
/-- A batch is right. -/
def bOK (nl : Bool) (c st k l : Int) (n : ByteArray) (rs : List Rd) : Bool := if nl then zB c st k l n && ((rs.length : Int) == 0) else reqB c st k l n && rOK 0 rs
def batV (nl : Bool) (c st k l : Int) (n : ByteArray) (vr : Value) : Value := .agg #[.bool nl, .int .i64 c, .int .i64 st, .int .i64 k, .int .i64 l, .string n, vr]
theorem drop_at {rs : List Rd} {k : Nat} {x : Rd} (h : rs[k]? = some x) : rs.drop k = x :: rs.drop (k + 1) := by
  obtain ⟨hk, rfl⟩ := List.getElem?_eq_some_iff.1 h
  exact List.drop_eq_getElem_cons hk
theorem rOK_step {rs : List Rd} {k : Nat} {x : Rd} {l : Int} (h : rs[k]? = some x) : rOK l (rs.drop k) = (r1 l x && rOK (x.f + 1) (rs.drop (k + 1))) := by rw [drop_at h]; rfl
theorem rOK_end {rs : List Rd} {l : Int} : rOK l (rs.drop rs.length) = true := by rw [List.drop_length]; rfl
theorem rOK_len : ∀ (rs : List Rd) (l : Int), 0 ≤ l → rOK l rs = true → l + rs.length ≤ 7 ∨ rs = []
  | [], _, _, _ => .inr rfl
  | x :: xs, l, hl, h => by
    unfold rOK at h
    rw [Bool.and_eq_true] at h
    obtain ⟨h1, h2⟩ := h
    have hx : l ≤ x.f ∧ x.f ≤ 6 := by unfold r1 inB at h1; simp only [Bool.and_eq_true, decide_eq_true_eq] at h1; exact h1.1
    rcases rOK_len xs (x.f + 1) (by omega) h2 with h3 | h3
    · left; simp only [List.length_cons]; omega
    · left; rw [h3]; simp; omega
theorem rOK_seven {rs : List Rd} (h : rOK 0 rs = true) : rs.length ≤ 7 := by
  rcases rOK_len rs 0 (by omega) h with h | h
  · omega
  · rw [h]; simp
theorem rOK_small : ∀ (rs : List Rd) (l : Int), rOK l rs = true → ∀ x ∈ rs, x.m.size = 8 ∧ x.f ≤ 6 ∧ 0 ≤ x.x ∧ x.x ≤ 1000000000
  | [], _, _, _, hx => by cases hx
  | y :: ys, l, h, x, hx => by
    unfold rOK at h
    rw [Bool.and_eq_true] at h
    rcases List.mem_cons.1 hx with rfl | hx
    · have h1 := h.1
      unfold r1 inB at h1
      simp only [Bool.and_eq_true, decide_eq_true_eq, beq_iff_eq] at h1
      omega
    · exact rOK_small ys _ h.2 x hx
theorem ret_b {a b : Bool} (h : a = b) : Ending.returned (.bool a) = .returned (.bool b) := by rw [h]
theorem with_any (x a b : Int) (w : World) : Calls Try.prog 34 #[.int .i64 x, .int .i64 a, .int .i64 b] w fun e w' => e = .returned (.bool (inB x a b)) ∧ w = w' := (within_any x a b w).mono fun _ _ ⟨h1, h2⟩ => ⟨h1, h2.symm⟩
theorem in_any (x a b : Int) (w : World) : Calls Try.prog 24 #[.int .i64 x, .int .i64 a, .int .i64 b] w fun e w' => e = .returned (.bool (inB x a b)) ∧ w = w' := (l01In_any x a b w).mono fun _ _ ⟨h1, h2⟩ => ⟨h1, h2.symm⟩
theorem one_kept {w w1 : World} {x : Rd} (b : Below (w.alloc (.cells #[.int .i64 x.f, .int .i64 x.x, .string x.m] 43)).heap.size (w.alloc (.cells #[.int .i64 x.f, .int .i64 x.x, .string x.m] 43)) w1) : E1 w1 w.heap.size 0 x := by
  have h := (b.block w.heap.size (by simp)).trans (heap_alloc_new w _)
  exact ⟨(blk_cell h 0 rfl).1, (blk_cell h 1 rfl).1, (blk_cell h 2 rfl).1⟩

set_option maxRecDepth 100000 in
set_option maxHeartbeats 800000 in
theorem readingsOK_any (v : Value) (rs : List Rd) (w : World) (h : Row w v rs) (hl : rs.length ≤ 1048576) :
    Calls Try.prog 30 #[v] w fun e w' => e = .returned (.bool (rOK 0 rs)) ∧ Below w.heap.size w w' := by
  have HR : Hid (Row w v rs) := h
  obtain ⟨a, cap, rfl⟩ := RowG.slice h
  clear h
  go_enter Try.func30, Try.ntmps30
  go_wp2_with fail
  go_loopw [3, 8] (fun l i wr => ∃ (k : Nat) (z : Int), k ≤ rs.length ∧ i = .int .i64 k ∧ l = .int .i64 z ∧ Hid (rOK 0 rs = rOK z (rs.drop k) ∧ 0 ≤ z ∧ Below w.heap.size w wr)) (fun _ i _ => rs.length - (intOf i).toNat)
  case atStart => exact ⟨0, 0, by omega, rfl, rfl, ⟨by rw [List.drop_zero], Int.le_refl _, Below.refl _ _⟩⟩
  case round =>
    obtain ⟨k, z, hk, rfl, rfl, HZ⟩ := hrel
    by_cases hlt : k < rs.length
    · obtain ⟨x, hx⟩ := Rg.get_at hlt
      obtain ⟨b, off, rfl, hbl, c0, c1, c2⟩ := RowG.at (HR.out.below HZ.out.2.2) rfl hx
      have HX : Hid (rOK 0 rs = (r1 z x && rOK (x.f + 1) (rs.drop (k + 1)))) := HZ.out.1.trans (rOK_step hx)
      have HB : Hid (Below w.heap.size w (wr.alloc (.cells #[.int .i64 x.f, .int .i64 x.x, .string x.m] 43))) := HZ.out.2.2.alloc HZ.out.2.2.size _
      have HK0 : Hid (0 ≤ z) := HZ.out.2.1
      clear hx HZ
      cases g1 : inB x.f z 6 with
      | false =>
        have HE : Hid (rOK 0 rs = false) := by show _ = _; rw [HX.out]; unfold r1; rw [g1]; rfl
        go_wp2_with (go_at_call 34; refine (with_any _ _ _ _).mono ?_; rintro e w1 ⟨rfl, rfl⟩; rw [g1])
        go_ret
        exact ⟨ret_b HE.out.symm, HB.out⟩
      | true =>
        have hf6 : x.f ≤ 6 := by unfold inB at g1; simp only [decide_eq_true_eq] at g1; exact g1.2
        cases g2 : inB x.x 0 1000000000 with
        | false =>
          have HE : Hid (rOK 0 rs = false) := by show _ = _; rw [HX.out]; unfold r1; rw [g1, g2]; rfl
          go_wp2_with (go_at_call 34; refine (with_any _ _ _ _).mono ?_; rintro e w1 ⟨rfl, rfl⟩; first | rw [g1] | rw [g2])
          go_ret
          exact ⟨ret_b HE.out.symm, HB.out⟩
        | true =>
          by_cases g3 : x.m.size = 8
          · have g4 : ((x.m.size : Int) != 8) = false := by rw [g3]; rfl
            have g5 : ((x.m.size : Int) == 8) = true := by rw [g3]; rfl
            have HE : Hid (rOK 0 rs = rOK (x.f + 1) (rs.drop (k + 1))) := by show _ = _; rw [HX.out]; unfold r1; rw [g1, g2, g5]; rfl
            have hwr : z ≤ x.f := by unfold inB at g1; simp only [decide_eq_true_eq] at g1; exact g1.1
            have hfl : 0 ≤ x.f := by have := HK0.out; omega
            clear g3
            go_wp2_with (go_at_call 34; refine (with_any _ _ _ _).mono ?_; rintro e w1 ⟨rfl, rfl⟩; first | rw [g1] | rw [g2])
            exact ⟨⟨k + 1, x.f + 1, by omega, by go_num, by go_num, ⟨HE.out, by omega, HB.out⟩⟩, by simp [intOf]; omega⟩
          · have g4 : ((x.m.size : Int) != 8) = true := by simp; omega
            have g5 : ((x.m.size : Int) == 8) = false := by simp; omega
            have HE : Hid (rOK 0 rs = false) := by show _ = _; rw [HX.out]; unfold r1; rw [g1, g2, g5]; rfl
            clear g3
            go_wp2_with (go_at_call 34; refine (with_any _ _ _ _).mono ?_; rintro e w1 ⟨rfl, rfl⟩; first | rw [g1] | rw [g2])
            go_ret
            exact ⟨ret_b HE.out.symm, HB.out⟩
    · obtain rfl : k = rs.length := by omega
      have HE : Hid (rOK 0 rs = true) := HZ.out.1.trans rOK_end
      go_wp2_with fail
      go_ret
      exact ⟨ret_b HE.out.symm, HZ.out.2.2⟩
end Go.Proofs.Ytkmnjnblacmjlaa.Bo
