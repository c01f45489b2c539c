/- SignMessage, of the program and of the specification. -/
import Derived.Test.YtdeologdmdimoaaDoorSm6
namespace Go.Proofs.YtdeologdmdimoaaDoor.Si
open Go.RowKit Go.Proofs.YtdeologdmdimoaaDoor.Sl Go.Proofs.YtdeologdmdimoaaDoor.By Go.Proofs.YtdeologdmdimoaaDoor.Rq Go.Proofs.YtdeologdmdimoaaDoor.Ap Go.Proofs.YtdeologdmdimoaaDoor.Sh Go.Proofs.YtdeologdmdimoaaDoor.Ho Go.Proofs.YtdeologdmdimoaaDoor.Mr Go.Proofs.YtdeologdmdimoaaDoor.Ms Go.Proofs.YtdeologdmdimoaaDoor.Mp Go.Proofs.YtdeologdmdimoaaDoor.Rp Go.Proofs.YtdeologdmdimoaaDoor.Pu
open Go.Proofs.YtdeologdmdimoaaDoor.Tx (blk_cell blk_set blk_far blk_new bel_new)

theorem two {w w1 : World} {o0 o1 : Obj} (b : Below ((w.alloc o0).alloc o1).heap.size ((w.alloc o0).alloc o1) w1) : w1.heap[w.heap.size]? = some o0 ∧ w1.heap[w.heap.size + 1]? = some o1 ∧ Below w.heap.size w w1 := by
  have e1 : (w.alloc o0).heap.size = w.heap.size + 1 := by simp
  have e2 : ((w.alloc o0).alloc o1).heap.size = w.heap.size + 1 + 1 := by simp
  have b1 : Below w.heap.size w ((w.alloc o0).alloc o1) := ((Below.refl _ _).alloc (Nat.le_refl _) _).alloc (by rw [e1]; omega) _
  rw [e2] at b
  refine ⟨?_, ?_, b1.trans (b.mono (by omega))⟩
  · rw [b.block _ (by omega), Below.heap_alloc _ _ _ (by omega)]; exact heap_alloc_new w _
  · rw [b.block _ (by omega), ← e1]; exact heap_alloc_new _ _
def b8 : ByteArray := ⟨#[46, 46, 46, 46, 46, 46, 46, 46]⟩
theorem msgB_mac (kd vw sq fr : Int) (dg bd : ByteArray) {mc mc' : ByteArray} (h : mc.size = mc'.size) : msgB kd vw sq fr dg bd mc = msgB kd vw sq fr dg bd mc' := by
  unfold msgB; rw [h]
/-- What SignMessage answers. -/
def sOK (id kd vw sq : Int) (dg bd : ByteArray) : Bool := msgB kd vw sq id dg bd b8
def sCode (id kd vw sq : Int) (dg bd : ByteArray) : Int := if inB id 0 6 then (if sOK id kd vw sq dg bd then 0 else 1) else 4
def sV (id kd vw sq : Int) (dg bd : ByteArray) : Value := if inB id 0 6 && sOK id kd vw sq dg bd then msgV kd vw sq id dg bd (mmk kd vw sq id.toNat dg bd) else msgV 0 0 0 0 ⟨#[]⟩ ⟨#[]⟩ ⟨#[]⟩
theorem s_cases (id kd vw sq : Int) (dg bd : ByteArray) : (inB id 0 6 = false ∧ sCode id kd vw sq dg bd = 4 ∧ sV id kd vw sq dg bd = msgV 0 0 0 0 ⟨#[]⟩ ⟨#[]⟩ ⟨#[]⟩) ∨ (inB id 0 6 = true ∧ msgB kd vw sq id dg bd b8 = false ∧ sCode id kd vw sq dg bd = 1 ∧ sV id kd vw sq dg bd = msgV 0 0 0 0 ⟨#[]⟩ ⟨#[]⟩ ⟨#[]⟩) ∨
    (∃ i : Nat, id = i ∧ i < 7 ∧ inB id 0 6 = true ∧ msgB kd vw sq i dg bd b8 = true ∧ sCode id kd vw sq dg bd = 0 ∧ sV id kd vw sq dg bd = msgV kd vw sq i dg bd (mmk kd vw sq i dg bd)) := by
  unfold sCode sV sOK
  cases h1 : inB id 0 6 with
  | false => exact .inl ⟨rfl, rfl, rfl⟩
  | true =>
    cases h2 : msgB kd vw sq id dg bd b8 with
    | false => exact .inr (.inl ⟨rfl, rfl, rfl, rfl⟩)
    | true =>
      unfold inB at h1
      simp only [decide_eq_true_eq] at h1
      obtain ⟨i, rfl⟩ := Int.eq_ofNat_of_zero_le h1.1
      exact .inr (.inr ⟨i, rfl, by omega, rfl, h2, rfl, rfl⟩)
theorem node_any (n : Int) (w : World) : Calls Tryd.prog 22 #[.int .i64 n] w fun e w' => e = .returned (.bool (inB n 0 6)) ∧ w = w' := (nodeOK_any n w).mono fun _ _ h => ⟨h.1, h.2.symm⟩
theorem in_any (x a b : Int) (w : World) : Calls Tryd.prog 25 #[.int .i64 x, .int .i64 a, .int .i64 b] w fun e w' => e = .returned (.bool (inB x a b)) ∧ w = w' := (Rq.l01In_any x a b w).mono fun _ _ h => ⟨h.1, h.2.symm⟩
theorem ret_mc {a b : Value} {c d : Int} (h : a = b ∧ c = d) : Ending.returned (.tuple #[a, .int .i64 c]) = .returned (.tuple #[b, .int .i64 d]) := by rw [h.1, h.2]
set_option maxRecDepth 100000 in
set_option maxHeartbeats 800000 in
theorem implSignMessage_any (id kd vw sq fr : Int) (dg bd mc : ByteArray) (w : World) (hK : KTab w) (hp : 0 < w.heap.size) :
    Calls Tryd.prog 7 #[.int .i64 id, msgV kd vw sq fr dg bd mc] w fun e w' => e = .returned (.tuple #[sV id kd vw sq dg bd, .int .i64 (sCode id kd vw sq dg bd)]) ∧ Below w.heap.size w w' := by
  have GK : Hid (KTab w) := hK
  clear hK
  have HB0 : Hid (∀ o0 o1, Below w.heap.size w ((w.alloc o0).alloc o1)) := fun o0 o1 => ((Below.refl _ _).alloc (Nat.le_refl _) _).alloc (by simp) _
  rcases s_cases id kd vw sq dg bd with ⟨h1, e1, e2⟩ | ⟨h1, h2, e1, e2⟩ | ⟨i, rfl, hi, h1, h2, e1, e2⟩
  · have HE : Hid (sV id kd vw sq dg bd = msgV 0 0 0 0 ⟨#[]⟩ ⟨#[]⟩ ⟨#[]⟩ ∧ sCode id kd vw sq dg bd = 4) := ⟨e2, e1⟩
    clear e1 e2
    unfold msgV at HE ⊢
    go_enter Tryd.func7, Tryd.ntmps7
    go_wp2_with (go_at_call 22; refine (node_any _ _).mono ?_; rintro e w1 ⟨rfl, rfl⟩; rw [h1])
    refine bodyPost_ret (v := .tuple #[.agg #[.int .i64 0, .int .i64 0, .int .i64 0, .int .i64 0, .string ⟨#[]⟩, .string ⟨#[]⟩, .string ⟨#[]⟩], .int .i64 4]) (by simp [results, Tryd.results7, go_sem]) rfl ⟨ret_mc ⟨HE.out.1.symm, HE.out.2.symm⟩, HB0.out _ _⟩
  · have HE : Hid (sV id kd vw sq dg bd = msgV 0 0 0 0 ⟨#[]⟩ ⟨#[]⟩ ⟨#[]⟩ ∧ sCode id kd vw sq dg bd = 1) := ⟨e2, e1⟩
    clear e1 e2
    unfold msgV at HE ⊢
    go_enter Tryd.func7, Tryd.ntmps7
    go_wp2_with (first | (go_at_call 22; refine (node_any _ _).mono ?_; rintro e w1 ⟨rfl, rfl⟩; rw [h1]) | fail)
    refine (implMessageOK_any kd vw sq id dg bd b8 _).mono ?_
    rintro e w1 ⟨rfl, b1⟩
    rw [h2]
    obtain ⟨k0, k1, kB⟩ := two b1
    have K1 : Hid (w1.heap[w.heap.size + 1]? = some (.cells #[.int .i64 0, .int .i64 0, .int .i64 0, .int .i64 0, .string ⟨#[]⟩, .string ⟨#[]⟩, .string ⟨#[]⟩] 24 (0, 0))) := k1
    have KB : Hid (Below w.heap.size w w1) := kB
    clear b1 k0 k1 kB
    obtain ⟨m0, n0⟩ := blk_cell K1.out 0 (x := .int .i64 0) rfl
    obtain ⟨m1, n1⟩ := blk_cell K1.out 1 (x := .int .i64 0) rfl
    obtain ⟨m2, n2⟩ := blk_cell K1.out 2 (x := .int .i64 0) rfl
    obtain ⟨m3, n3⟩ := blk_cell K1.out 3 (x := .int .i64 0) rfl
    obtain ⟨m4, n4⟩ := blk_cell K1.out 4 (x := .string ⟨#[]⟩) rfl
    obtain ⟨m5, n5⟩ := blk_cell K1.out 5 (x := .string ⟨#[]⟩) rfl
    obtain ⟨m6, n6⟩ := blk_cell K1.out 6 (x := .string ⟨#[]⟩) rfl
    have AF : (((((((w1.setCell ⟨w.heap.size + 1, 0, none⟩ (.int .i64 0)).setCell ⟨w.heap.size + 1, 1, none⟩ (.int .i64 0)).setCell ⟨w.heap.size + 1, 2, none⟩ (.int .i64 0)).setCell ⟨w.heap.size + 1, 3, none⟩ (.int .i64 0)).setCell ⟨w.heap.size + 1, 4, none⟩ (.string ⟨#[]⟩)).setCell ⟨w.heap.size + 1, 5, none⟩ (.string ⟨#[]⟩)).setCell ⟨w.heap.size + 1, 6, none⟩ (.string ⟨#[]⟩)).heap[w.heap.size + 1]? = some (.cells #[.int .i64 0, .int .i64 0, .int .i64 0, .int .i64 0, .string ⟨#[]⟩, .string ⟨#[]⟩, .string ⟨#[]⟩] 24 (0, 0)) := (blk_set (blk_set (blk_set (blk_set (blk_set (blk_set (blk_set K1.out 0 (.int .i64 0)) 1 (.int .i64 0)) 2 (.int .i64 0)) 3 (.int .i64 0)) 4 (.string ⟨#[]⟩)) 5 (.string ⟨#[]⟩)) 6 (.string ⟨#[]⟩))
    have GF : Hid (Below w.heap.size w (((((((w1.setCell ⟨w.heap.size + 1, 0, none⟩ (.int .i64 0)).setCell ⟨w.heap.size + 1, 1, none⟩ (.int .i64 0)).setCell ⟨w.heap.size + 1, 2, none⟩ (.int .i64 0)).setCell ⟨w.heap.size + 1, 3, none⟩ (.int .i64 0)).setCell ⟨w.heap.size + 1, 4, none⟩ (.string ⟨#[]⟩)).setCell ⟨w.heap.size + 1, 5, none⟩ (.string ⟨#[]⟩)).setCell ⟨w.heap.size + 1, 6, none⟩ (.string ⟨#[]⟩))) := (Below.setCell (Below.setCell (Below.setCell (Below.setCell (Below.setCell (Below.setCell (Below.setCell KB.out (p := ⟨w.heap.size + 1, 0, none⟩) (by show _ ≤ w.heap.size + 1; omega) (.int .i64 0)) (p := ⟨w.heap.size + 1, 1, none⟩) (by show _ ≤ w.heap.size + 1; omega) (.int .i64 0)) (p := ⟨w.heap.size + 1, 2, none⟩) (by show _ ≤ w.heap.size + 1; omega) (.int .i64 0)) (p := ⟨w.heap.size + 1, 3, none⟩) (by show _ ≤ w.heap.size + 1; omega) (.int .i64 0)) (p := ⟨w.heap.size + 1, 4, none⟩) (by show _ ≤ w.heap.size + 1; omega) (.string ⟨#[]⟩)) (p := ⟨w.heap.size + 1, 5, none⟩) (by show _ ≤ w.heap.size + 1; omega) (.string ⟨#[]⟩)) (p := ⟨w.heap.size + 1, 6, none⟩) (by show _ ≤ w.heap.size + 1; omega) (.string ⟨#[]⟩))
    go_wp2_with fail
    generalize (((((((w1.setCell ⟨w.heap.size + 1, 0, none⟩ (.int .i64 0)).setCell ⟨w.heap.size + 1, 1, none⟩ (.int .i64 0)).setCell ⟨w.heap.size + 1, 2, none⟩ (.int .i64 0)).setCell ⟨w.heap.size + 1, 3, none⟩ (.int .i64 0)).setCell ⟨w.heap.size + 1, 4, none⟩ (.string ⟨#[]⟩)).setCell ⟨w.heap.size + 1, 5, none⟩ (.string ⟨#[]⟩)).setCell ⟨w.heap.size + 1, 6, none⟩ (.string ⟨#[]⟩)) = wf at AF GF ⊢
    have d0 := (blk_cell AF 0 (x := .int .i64 0) rfl).1
    have d1 := (blk_cell AF 1 (x := .int .i64 0) rfl).1
    have d2 := (blk_cell AF 2 (x := .int .i64 0) rfl).1
    have d3 := (blk_cell AF 3 (x := .int .i64 0) rfl).1
    have d4 := (blk_cell AF 4 (x := .string ⟨#[]⟩) rfl).1
    have d5 := (blk_cell AF 5 (x := .string ⟨#[]⟩) rfl).1
    have d6 := (blk_cell AF 6 (x := .string ⟨#[]⟩) rfl).1
    exact bodyPost_ret (v := .tuple #[.agg #[.int .i64 0, .int .i64 0, .int .i64 0, .int .i64 0, .string ⟨#[]⟩, .string ⟨#[]⟩, .string ⟨#[]⟩], .int .i64 1]) (by simp [results, Tryd.results7, go_sem, d0, d1, d2, d3, d4, d5, d6]) rfl ⟨ret_mc ⟨HE.out.1.symm, HE.out.2.symm⟩, GF.out⟩
  · have HE : Hid (sV i kd vw sq dg bd = msgV kd vw sq i dg bd (mmk kd vw sq i dg bd) ∧ sCode i kd vw sq dg bd = 0) := ⟨e2, e1⟩
    have HB8 : Hid (msgB kd vw sq i dg bd b8 = true) := h2
    clear e1 e2
    unfold msgV at HE ⊢
    go_enter Tryd.func7, Tryd.ntmps7
    go_wp2_with (first | (go_at_call 22; refine (node_any _ _).mono ?_; rintro e w1 ⟨rfl, rfl⟩; rw [h1]) | fail)
    refine (implMessageOK_any kd vw sq i dg bd b8 _).mono ?_
    rintro e w1 ⟨rfl, b1⟩
    rw [h2]
    obtain ⟨k0, k1, kB⟩ := two b1
    have K0 : Hid (w1.heap[w.heap.size]? = some (.cells #[.int .i64 kd, .int .i64 vw, .int .i64 sq, .int .i64 i, .string dg, .string bd, .string ⟨#[46, 46, 46, 46, 46, 46, 46, 46]⟩] 24 (0, 0))) := k0
    have K1 : Hid (w1.heap[w.heap.size + 1]? = some (.cells #[.int .i64 0, .int .i64 0, .int .i64 0, .int .i64 0, .string ⟨#[]⟩, .string ⟨#[]⟩, .string ⟨#[]⟩] 24 (0, 0))) := k1
    have KB : Hid (Below w.heap.size w w1) := kB
    clear b1 k0 k1 kB h2
    have HMM := messageMark_any kd vw sq i dg bd b8 w1 hi HB8.out (GK.out.below KB.out hp) (Nat.lt_of_lt_of_le hp KB.out.size)
    unfold msgV b8 at HMM
    have HM : Hid (Calls Tryd.prog 24 #[.agg #[.int .i64 kd, .int .i64 vw, .int .i64 sq, .int .i64 i, .string dg, .string bd, .string ⟨#[46, 46, 46, 46, 46, 46, 46, 46]⟩]] w1 fun e w' => e = .returned (.string (mmk kd vw sq i dg bd)) ∧ Below w1.heap.size w1 w') := HMM
    clear HMM
    have q0 := (blk_cell K0.out 0 (x := .int .i64 kd) rfl).1
    have q1 := (blk_cell K0.out 1 (x := .int .i64 vw) rfl).1
    have q2 := (blk_cell K0.out 2 (x := .int .i64 sq) rfl).1
    have q3 := (blk_cell K0.out 3 (x := .int .i64 i) rfl).1
    have q4 := (blk_cell K0.out 4 (x := .string dg) rfl).1
    have q5 := (blk_cell K0.out 5 (x := .string bd) rfl).1
    have q6 := (blk_cell K0.out 6 (x := .string ⟨#[46, 46, 46, 46, 46, 46, 46, 46]⟩) rfl).1
    go_wp2_with fail
    refine HM.out.mono ?_
    rintro e w2 ⟨rfl, b2⟩
    have s1 := (Array.getElem?_eq_some_iff.1 K1.out).1
    have K02 : Hid (w2.heap[w.heap.size]? = some (.cells #[.int .i64 kd, .int .i64 vw, .int .i64 sq, .int .i64 i, .string dg, .string bd, .string ⟨#[46, 46, 46, 46, 46, 46, 46, 46]⟩] 24 (0, 0))) := (b2.block _ (by omega)).trans K0.out
    have K12 : Hid (w2.heap[w.heap.size + 1]? = some (.cells #[.int .i64 0, .int .i64 0, .int .i64 0, .int .i64 0, .string ⟨#[]⟩, .string ⟨#[]⟩, .string ⟨#[]⟩] 24 (0, 0))) := (b2.block _ s1).trans K1.out
    have KB2 : Hid (Below w.heap.size w w2) := KB.out.trans (b2.mono KB.out.size)
    clear b2 K0 K1 KB HM s1 q0 q1 q2 q3 q4 q5 q6
    generalize mmk kd vw sq i dg bd = mk at HE
    obtain ⟨s6, t6⟩ := blk_cell K02.out 6 (x := .string ⟨#[46, 46, 46, 46, 46, 46, 46, 46]⟩) rfl
    have K03 : Hid ((w2.setCell ⟨w.heap.size, 6, none⟩ (.string mk)).heap[w.heap.size]? = some (.cells #[.int .i64 kd, .int .i64 vw, .int .i64 sq, .int .i64 i, .string dg, .string bd, .string mk] 24 (0, 0))) := blk_set K02.out 6 (.string mk)
    have K13 : Hid ((w2.setCell ⟨w.heap.size, 6, none⟩ (.string mk)).heap[w.heap.size + 1]? = some (.cells #[.int .i64 0, .int .i64 0, .int .i64 0, .int .i64 0, .string ⟨#[]⟩, .string ⟨#[]⟩, .string ⟨#[]⟩] 24 (0, 0))) := (blk_far (by omega) 6 (.string mk)).trans K12.out
    have KB3 : Hid (Below w.heap.size w (w2.setCell ⟨w.heap.size, 6, none⟩ (.string mk))) := Below.setCell KB2.out (p := ⟨w.heap.size, 6, none⟩) (Nat.le_refl _) (.string mk)
    clear K02 K12 KB2
    go_upto_region 7 with fail
    generalize w2.setCell ⟨w.heap.size, 6, none⟩ (.string mk) = w9 at K03 K13 KB3 ⊢
    clear s6 t6
    have p0 := (blk_cell K03.out 0 (x := .int .i64 kd) rfl).1
    have p1 := (blk_cell K03.out 1 (x := .int .i64 vw) rfl).1
    have p2 := (blk_cell K03.out 2 (x := .int .i64 sq) rfl).1
    have p3 := (blk_cell K03.out 3 (x := .int .i64 i) rfl).1
    have p4 := (blk_cell K03.out 4 (x := .string dg) rfl).1
    have p5 := (blk_cell K03.out 5 (x := .string bd) rfl).1
    have p6 := (blk_cell K03.out 6 (x := .string mk) rfl).1
    obtain ⟨m0, n0⟩ := blk_cell K13.out 0 (x := .int .i64 0) rfl
    obtain ⟨m1, n1⟩ := blk_cell K13.out 1 (x := .int .i64 0) rfl
    obtain ⟨m2, n2⟩ := blk_cell K13.out 2 (x := .int .i64 0) rfl
    obtain ⟨m3, n3⟩ := blk_cell K13.out 3 (x := .int .i64 0) rfl
    obtain ⟨m4, n4⟩ := blk_cell K13.out 4 (x := .string ⟨#[]⟩) rfl
    obtain ⟨m5, n5⟩ := blk_cell K13.out 5 (x := .string ⟨#[]⟩) rfl
    obtain ⟨m6, n6⟩ := blk_cell K13.out 6 (x := .string ⟨#[]⟩) rfl
    have AF : (((((((w9.setCell ⟨w.heap.size + 1, 0, none⟩ (.int .i64 kd)).setCell ⟨w.heap.size + 1, 1, none⟩ (.int .i64 vw)).setCell ⟨w.heap.size + 1, 2, none⟩ (.int .i64 sq)).setCell ⟨w.heap.size + 1, 3, none⟩ (.int .i64 i)).setCell ⟨w.heap.size + 1, 4, none⟩ (.string dg)).setCell ⟨w.heap.size + 1, 5, none⟩ (.string bd)).setCell ⟨w.heap.size + 1, 6, none⟩ (.string mk)).heap[w.heap.size + 1]? = some (.cells #[.int .i64 kd, .int .i64 vw, .int .i64 sq, .int .i64 i, .string dg, .string bd, .string mk] 24 (0, 0)) := (blk_set (blk_set (blk_set (blk_set (blk_set (blk_set (blk_set K13.out 0 (.int .i64 kd)) 1 (.int .i64 vw)) 2 (.int .i64 sq)) 3 (.int .i64 i)) 4 (.string dg)) 5 (.string bd)) 6 (.string mk))
    have GF : Hid (Below w.heap.size w (((((((w9.setCell ⟨w.heap.size + 1, 0, none⟩ (.int .i64 kd)).setCell ⟨w.heap.size + 1, 1, none⟩ (.int .i64 vw)).setCell ⟨w.heap.size + 1, 2, none⟩ (.int .i64 sq)).setCell ⟨w.heap.size + 1, 3, none⟩ (.int .i64 i)).setCell ⟨w.heap.size + 1, 4, none⟩ (.string dg)).setCell ⟨w.heap.size + 1, 5, none⟩ (.string bd)).setCell ⟨w.heap.size + 1, 6, none⟩ (.string mk))) := (Below.setCell (Below.setCell (Below.setCell (Below.setCell (Below.setCell (Below.setCell (Below.setCell KB3.out (p := ⟨w.heap.size + 1, 0, none⟩) (by show _ ≤ w.heap.size + 1; omega) (.int .i64 kd)) (p := ⟨w.heap.size + 1, 1, none⟩) (by show _ ≤ w.heap.size + 1; omega) (.int .i64 vw)) (p := ⟨w.heap.size + 1, 2, none⟩) (by show _ ≤ w.heap.size + 1; omega) (.int .i64 sq)) (p := ⟨w.heap.size + 1, 3, none⟩) (by show _ ≤ w.heap.size + 1; omega) (.int .i64 i)) (p := ⟨w.heap.size + 1, 4, none⟩) (by show _ ≤ w.heap.size + 1; omega) (.string dg)) (p := ⟨w.heap.size + 1, 5, none⟩) (by show _ ≤ w.heap.size + 1; omega) (.string bd)) (p := ⟨w.heap.size + 1, 6, none⟩) (by show _ ≤ w.heap.size + 1; omega) (.string mk))
    go_wp2_with fail
    generalize (((((((w9.setCell ⟨w.heap.size + 1, 0, none⟩ (.int .i64 kd)).setCell ⟨w.heap.size + 1, 1, none⟩ (.int .i64 vw)).setCell ⟨w.heap.size + 1, 2, none⟩ (.int .i64 sq)).setCell ⟨w.heap.size + 1, 3, none⟩ (.int .i64 i)).setCell ⟨w.heap.size + 1, 4, none⟩ (.string dg)).setCell ⟨w.heap.size + 1, 5, none⟩ (.string bd)).setCell ⟨w.heap.size + 1, 6, none⟩ (.string mk)) = wf at AF GF ⊢
    have d0 := (blk_cell AF 0 (x := .int .i64 kd) rfl).1
    have d1 := (blk_cell AF 1 (x := .int .i64 vw) rfl).1
    have d2 := (blk_cell AF 2 (x := .int .i64 sq) rfl).1
    have d3 := (blk_cell AF 3 (x := .int .i64 i) rfl).1
    have d4 := (blk_cell AF 4 (x := .string dg) rfl).1
    have d5 := (blk_cell AF 5 (x := .string bd) rfl).1
    have d6 := (blk_cell AF 6 (x := .string mk) rfl).1
    exact bodyPost_ret (v := .tuple #[.agg #[.int .i64 kd, .int .i64 vw, .int .i64 sq, .int .i64 i, .string dg, .string bd, .string mk], .int .i64 0]) (by simp [results, Tryd.results7, go_sem, d0, d1, d2, d3, d4, d5, d6]) rfl ⟨ret_mc ⟨HE.out.1.symm, HE.out.2.symm⟩, GF.out⟩
end Go.Proofs.YtdeologdmdimoaaDoor.Si
