/- SignMessage of the specification. -/
import Derived.Test.YtdeologdmdimoaaDoorSi2
namespace Go.Proofs.YtdeologdmdimoaaDoor.Si
open Go.RowKit Go.Proofs.YtdeologdmdimoaaDoor.Sl Go.Proofs.YtdeologdmdimoaaDoor.By Go.Proofs.YtdeologdmdimoaaDoor.Rq Go.Proofs.YtdeologdmdimoaaDoor.Ap Go.Proofs.YtdeologdmdimoaaDoor.Sh Go.Proofs.YtdeologdmdimoaaDoor.Ho Go.Proofs.YtdeologdmdimoaaDoor.Mr Go.Proofs.YtdeologdmdimoaaDoor.Ms Go.Proofs.YtdeologdmdimoaaDoor.Mp Go.Proofs.YtdeologdmdimoaaDoor.Rp Go.Proofs.YtdeologdmdimoaaDoor.Pu
open Go.Proofs.YtdeologdmdimoaaDoor.Tx (blk_cell blk_set blk_far blk_new bel_new)

def b9 : ByteArray := ⟨#[49, 50, 51, 52, 53, 54, 55, 56]⟩
theorem b9_b8 (kd vw sq fr : Int) (dg bd : ByteArray) : msgB kd vw sq fr dg bd b9 = msgB kd vw sq fr dg bd b8 := msgB_mac kd vw sq fr dg bd rfl
set_option maxRecDepth 100000 in
set_option maxHeartbeats 800000 in
theorem l06Sign_any (kd vw sq : Int) (i : Nat) (fr : Int) (dg bd mc : ByteArray) (w : World) (hi : i < 7) (hd : dg.size ≤ 32) (hb : bd.size ≤ 20000) :
    Calls Tryd.prog 27 #[.int .i64 i, msgV kd vw sq fr dg bd mc] w fun e w' => e = .returned (msgV kd vw sq i dg bd (mmk kd vw sq i dg bd)) ∧ Below w.heap.size w w' := by
  have HP := l02Plain_any kd vw sq i dg bd mc
  have HPL : Hid ((plainBs kd vw sq i dg bd).length ≤ 60000) := by show _ ≤ _; rw [plainBs_length]; omega
  unfold msgV at HP ⊢
  go_enter Tryd.func27, Tryd.ntmps27
  go_wp2_with fail
  refine (HP _ (by omega) (by omega)).mono ?_
  rintro e w1 ⟨v1, rfl, o1, b1⟩
  have b0 := box_old b1
  obtain ⟨k0, k1, kB⟩ := two b0
  have K0 : Hid (w1.heap[w.heap.size]? = some (.cells #[.int .i64 kd, .int .i64 vw, .int .i64 sq, .int .i64 i, .string dg, .string bd, .string mc] 24 (0, 0))) := k0
  have K1 : Hid (w1.heap[w.heap.size + 1]? = some (.cells #[.int .i64 0, .int .i64 0, .int .i64 0, .int .i64 0, .string ⟨#[]⟩, .string ⟨#[]⟩, .string ⟨#[]⟩] 24 (0, 0))) := k1
  have KB : Hid (Below w.heap.size w w1) := kB
  have R1 : Hid (RowB w1 v1 (plainBs kd vw sq i dg bd)) := own_rowB o1 (plainBs_range kd vw sq i dg bd)
  clear b1 b0 k0 k1 kB o1 HP
  have HM : Hid (Calls Tryd.prog 50 #[.int .i64 i, v1] w1 fun e w' => e = .returned (.string (mmk kd vw sq i dg bd)) ∧ Below w1.heap.size w1 w') := l04Mac_any i v1 _ w1 (by omega) R1.out (plain_ne kd vw sq i dg bd) HPL.out
  go_wp2_with fail
  refine HM.out.mono ?_
  rintro e w2 ⟨rfl, b2⟩
  have s1 := (Array.getElem?_eq_some_iff.1 K1.out).1
  have K02 : Hid (w2.heap[w.heap.size]? = some (.cells #[.int .i64 kd, .int .i64 vw, .int .i64 sq, .int .i64 i, .string dg, .string bd, .string mc] 24 (0, 0))) := (b2.block _ (by omega)).trans K0.out
  have K12 : Hid (w2.heap[w.heap.size + 1]? = some (.cells #[.int .i64 0, .int .i64 0, .int .i64 0, .int .i64 0, .string ⟨#[]⟩, .string ⟨#[]⟩, .string ⟨#[]⟩] 24 (0, 0))) := (b2.block _ s1).trans K1.out
  have KB2 : Hid (Below w.heap.size w w2) := KB.out.trans (b2.mono KB.out.size)
  clear b2 K0 K1 KB HM s1 R1
  obtain ⟨mk, HE⟩ : ∃ mk, Hid (mk = mmk kd vw sq i dg bd) := ⟨_, rfl⟩
  rw [← HE.out]
  obtain ⟨s6, t6⟩ := blk_cell K02.out 6 (x := .string mc) rfl
  have K03 : Hid ((w2.setCell ⟨w.heap.size, 6, none⟩ (.string mk)).heap[w.heap.size]? = some (.cells #[.int .i64 kd, .int .i64 vw, .int .i64 sq, .int .i64 i, .string dg, .string bd, .string mk] 24 (0, 0))) := blk_set K02.out 6 (.string mk)
  have K13 : Hid ((w2.setCell ⟨w.heap.size, 6, none⟩ (.string mk)).heap[w.heap.size + 1]? = some (.cells #[.int .i64 0, .int .i64 0, .int .i64 0, .int .i64 0, .string ⟨#[]⟩, .string ⟨#[]⟩, .string ⟨#[]⟩] 24 (0, 0))) := (blk_far (by omega) 6 (.string mk)).trans K12.out
  have KB3 : Hid (Below w.heap.size w (w2.setCell ⟨w.heap.size, 6, none⟩ (.string mk))) := Below.setCell KB2.out (p := ⟨w.heap.size, 6, none⟩) (Nat.le_refl _) (.string mk)
  clear K02 K12 KB2
  go_upto_region 3 with fail
  generalize w2.setCell ⟨w.heap.size, 6, none⟩ (.string mk) = w9 at K03 K13 KB3 ⊢
  clear s6 t6
  have p0 := (blk_cell K03.out 0 (x := .int .i64 kd) rfl).1
  have p1 := (blk_cell K03.out 1 (x := .int .i64 vw) rfl).1
  have p2 := (blk_cell K03.out 2 (x := .int .i64 sq) rfl).1
  have p3 := (blk_cell K03.out 3 (x := .int .i64 i) rfl).1
  have p4 := (blk_cell K03.out 4 (x := .string dg) rfl).1
  have p5 := (blk_cell K03.out 5 (x := .string bd) rfl).1
  have p6 := (blk_cell K03.out 6 (x := .string mk) rfl).1
  obtain ⟨m0, n0⟩ := blk_cell K13.out 0 (x := .int .i64 0) rfl
  obtain ⟨m1, n1⟩ := blk_cell K13.out 1 (x := .int .i64 0) rfl
  obtain ⟨m2, n2⟩ := blk_cell K13.out 2 (x := .int .i64 0) rfl
  obtain ⟨m3, n3⟩ := blk_cell K13.out 3 (x := .int .i64 0) rfl
  obtain ⟨m4, n4⟩ := blk_cell K13.out 4 (x := .string ⟨#[]⟩) rfl
  obtain ⟨m5, n5⟩ := blk_cell K13.out 5 (x := .string ⟨#[]⟩) rfl
  obtain ⟨m6, n6⟩ := blk_cell K13.out 6 (x := .string ⟨#[]⟩) rfl
  have AF : (((((((w9.setCell ⟨w.heap.size + 1, 0, none⟩ (.int .i64 kd)).setCell ⟨w.heap.size + 1, 1, none⟩ (.int .i64 vw)).setCell ⟨w.heap.size + 1, 2, none⟩ (.int .i64 sq)).setCell ⟨w.heap.size + 1, 3, none⟩ (.int .i64 i)).setCell ⟨w.heap.size + 1, 4, none⟩ (.string dg)).setCell ⟨w.heap.size + 1, 5, none⟩ (.string bd)).setCell ⟨w.heap.size + 1, 6, none⟩ (.string mk)).heap[w.heap.size + 1]? = some (.cells #[.int .i64 kd, .int .i64 vw, .int .i64 sq, .int .i64 i, .string dg, .string bd, .string mk] 24 (0, 0)) := (blk_set (blk_set (blk_set (blk_set (blk_set (blk_set (blk_set K13.out 0 (.int .i64 kd)) 1 (.int .i64 vw)) 2 (.int .i64 sq)) 3 (.int .i64 i)) 4 (.string dg)) 5 (.string bd)) 6 (.string mk))
  have GF : Hid (Below w.heap.size w (((((((w9.setCell ⟨w.heap.size + 1, 0, none⟩ (.int .i64 kd)).setCell ⟨w.heap.size + 1, 1, none⟩ (.int .i64 vw)).setCell ⟨w.heap.size + 1, 2, none⟩ (.int .i64 sq)).setCell ⟨w.heap.size + 1, 3, none⟩ (.int .i64 i)).setCell ⟨w.heap.size + 1, 4, none⟩ (.string dg)).setCell ⟨w.heap.size + 1, 5, none⟩ (.string bd)).setCell ⟨w.heap.size + 1, 6, none⟩ (.string mk))) := (Below.setCell (Below.setCell (Below.setCell (Below.setCell (Below.setCell (Below.setCell (Below.setCell KB3.out (p := ⟨w.heap.size + 1, 0, none⟩) (by show _ ≤ w.heap.size + 1; omega) (.int .i64 kd)) (p := ⟨w.heap.size + 1, 1, none⟩) (by show _ ≤ w.heap.size + 1; omega) (.int .i64 vw)) (p := ⟨w.heap.size + 1, 2, none⟩) (by show _ ≤ w.heap.size + 1; omega) (.int .i64 sq)) (p := ⟨w.heap.size + 1, 3, none⟩) (by show _ ≤ w.heap.size + 1; omega) (.int .i64 i)) (p := ⟨w.heap.size + 1, 4, none⟩) (by show _ ≤ w.heap.size + 1; omega) (.string dg)) (p := ⟨w.heap.size + 1, 5, none⟩) (by show _ ≤ w.heap.size + 1; omega) (.string bd)) (p := ⟨w.heap.size + 1, 6, none⟩) (by show _ ≤ w.heap.size + 1; omega) (.string mk))
  go_wp2_with fail
  generalize (((((((w9.setCell ⟨w.heap.size + 1, 0, none⟩ (.int .i64 kd)).setCell ⟨w.heap.size + 1, 1, none⟩ (.int .i64 vw)).setCell ⟨w.heap.size + 1, 2, none⟩ (.int .i64 sq)).setCell ⟨w.heap.size + 1, 3, none⟩ (.int .i64 i)).setCell ⟨w.heap.size + 1, 4, none⟩ (.string dg)).setCell ⟨w.heap.size + 1, 5, none⟩ (.string bd)).setCell ⟨w.heap.size + 1, 6, none⟩ (.string mk)) = wf at AF GF ⊢
  have d0 := (blk_cell AF 0 (x := .int .i64 kd) rfl).1
  have d1 := (blk_cell AF 1 (x := .int .i64 vw) rfl).1
  have d2 := (blk_cell AF 2 (x := .int .i64 sq) rfl).1
  have d3 := (blk_cell AF 3 (x := .int .i64 i) rfl).1
  have d4 := (blk_cell AF 4 (x := .string dg) rfl).1
  have d5 := (blk_cell AF 5 (x := .string bd) rfl).1
  have d6 := (blk_cell AF 6 (x := .string mk) rfl).1
  exact bodyPost_ret (v := .agg #[.int .i64 kd, .int .i64 vw, .int .i64 sq, .int .i64 i, .string dg, .string bd, .string mk]) (by simp [results, Tryd.results27, go_sem, d0, d1, d2, d3, d4, d5, d6]) rfl ⟨by rw [HE.out], GF.out⟩
set_option maxRecDepth 100000 in
set_option maxHeartbeats 800000 in
theorem specSignMessage_any (id kd vw sq fr : Int) (dg bd mc : ByteArray) (w : World) :
    Calls Tryd.prog 8 #[.int .i64 id, msgV kd vw sq fr dg bd mc] w fun e w' => e = .returned (.tuple #[sV id kd vw sq dg bd, .int .i64 (sCode id kd vw sq dg bd)]) ∧ Below w.heap.size w w' := by
  have HB0 : Hid (∀ o0 o1, Below w.heap.size w ((w.alloc o0).alloc o1)) := fun o0 o1 => ((Below.refl _ _).alloc (Nat.le_refl _) _).alloc (by simp) _
  rcases s_cases id kd vw sq dg bd with ⟨h1, e1, e2⟩ | ⟨h1, h2, e1, e2⟩ | ⟨i, rfl, hi, h1, h2, e1, e2⟩
  · have HE : Hid (sV id kd vw sq dg bd = msgV 0 0 0 0 ⟨#[]⟩ ⟨#[]⟩ ⟨#[]⟩ ∧ sCode id kd vw sq dg bd = 4) := ⟨e2, e1⟩
    clear e1 e2
    unfold msgV at HE ⊢
    go_enter Tryd.func8, Tryd.ntmps8
    go_wp2_with (go_at_call 25; refine (in_any _ _ _ _).mono ?_; rintro e w1 ⟨rfl, rfl⟩; rw [h1])
    refine bodyPost_ret (v := .tuple #[.agg #[.int .i64 0, .int .i64 0, .int .i64 0, .int .i64 0, .string ⟨#[]⟩, .string ⟨#[]⟩, .string ⟨#[]⟩], .int .i64 4]) (by simp [results, Tryd.results8, go_sem]) rfl ⟨ret_mc ⟨HE.out.1.symm, HE.out.2.symm⟩, HB0.out _ _⟩
  · have HE : Hid (sV id kd vw sq dg bd = msgV 0 0 0 0 ⟨#[]⟩ ⟨#[]⟩ ⟨#[]⟩ ∧ sCode id kd vw sq dg bd = 1) := ⟨e2, e1⟩
    clear e1 e2
    rw [← b9_b8] at h2
    unfold msgV at HE ⊢
    go_enter Tryd.func8, Tryd.ntmps8
    go_wp2_with (first | (go_at_call 25; refine (in_any _ _ _ _).mono ?_; rintro e w1 ⟨rfl, rfl⟩; rw [h1]) | fail)
    refine (specMessageOK_any kd vw sq id dg bd b9 _).mono ?_
    rintro e w1 ⟨rfl, b1⟩
    rw [h2]
    obtain ⟨k0, k1, kB⟩ := two b1
    have K1 : Hid (w1.heap[w.heap.size + 1]? = some (.cells #[.int .i64 0, .int .i64 0, .int .i64 0, .int .i64 0, .string ⟨#[]⟩, .string ⟨#[]⟩, .string ⟨#[]⟩] 24 (0, 0))) := k1
    have KB : Hid (Below w.heap.size w w1) := kB
    clear b1 k0 k1 kB
    obtain ⟨m0, n0⟩ := blk_cell K1.out 0 (x := .int .i64 0) rfl
    obtain ⟨m1, n1⟩ := blk_cell K1.out 1 (x := .int .i64 0) rfl
    obtain ⟨m2, n2⟩ := blk_cell K1.out 2 (x := .int .i64 0) rfl
    obtain ⟨m3, n3⟩ := blk_cell K1.out 3 (x := .int .i64 0) rfl
    obtain ⟨m4, n4⟩ := blk_cell K1.out 4 (x := .string ⟨#[]⟩) rfl
    obtain ⟨m5, n5⟩ := blk_cell K1.out 5 (x := .string ⟨#[]⟩) rfl
    obtain ⟨m6, n6⟩ := blk_cell K1.out 6 (x := .string ⟨#[]⟩) rfl
    have AF : (((((((w1.setCell ⟨w.heap.size + 1, 0, none⟩ (.int .i64 0)).setCell ⟨w.heap.size + 1, 1, none⟩ (.int .i64 0)).setCell ⟨w.heap.size + 1, 2, none⟩ (.int .i64 0)).setCell ⟨w.heap.size + 1, 3, none⟩ (.int .i64 0)).setCell ⟨w.heap.size + 1, 4, none⟩ (.string ⟨#[]⟩)).setCell ⟨w.heap.size + 1, 5, none⟩ (.string ⟨#[]⟩)).setCell ⟨w.heap.size + 1, 6, none⟩ (.string ⟨#[]⟩)).heap[w.heap.size + 1]? = some (.cells #[.int .i64 0, .int .i64 0, .int .i64 0, .int .i64 0, .string ⟨#[]⟩, .string ⟨#[]⟩, .string ⟨#[]⟩] 24 (0, 0)) := (blk_set (blk_set (blk_set (blk_set (blk_set (blk_set (blk_set K1.out 0 (.int .i64 0)) 1 (.int .i64 0)) 2 (.int .i64 0)) 3 (.int .i64 0)) 4 (.string ⟨#[]⟩)) 5 (.string ⟨#[]⟩)) 6 (.string ⟨#[]⟩))
    have GF : Hid (Below w.heap.size w (((((((w1.setCell ⟨w.heap.size + 1, 0, none⟩ (.int .i64 0)).setCell ⟨w.heap.size + 1, 1, none⟩ (.int .i64 0)).setCell ⟨w.heap.size + 1, 2, none⟩ (.int .i64 0)).setCell ⟨w.heap.size + 1, 3, none⟩ (.int .i64 0)).setCell ⟨w.heap.size + 1, 4, none⟩ (.string ⟨#[]⟩)).setCell ⟨w.heap.size + 1, 5, none⟩ (.string ⟨#[]⟩)).setCell ⟨w.heap.size + 1, 6, none⟩ (.string ⟨#[]⟩))) := (Below.setCell (Below.setCell (Below.setCell (Below.setCell (Below.setCell (Below.setCell (Below.setCell KB.out (p := ⟨w.heap.size + 1, 0, none⟩) (by show _ ≤ w.heap.size + 1; omega) (.int .i64 0)) (p := ⟨w.heap.size + 1, 1, none⟩) (by show _ ≤ w.heap.size + 1; omega) (.int .i64 0)) (p := ⟨w.heap.size + 1, 2, none⟩) (by show _ ≤ w.heap.size + 1; omega) (.int .i64 0)) (p := ⟨w.heap.size + 1, 3, none⟩) (by show _ ≤ w.heap.size + 1; omega) (.int .i64 0)) (p := ⟨w.heap.size + 1, 4, none⟩) (by show _ ≤ w.heap.size + 1; omega) (.string ⟨#[]⟩)) (p := ⟨w.heap.size + 1, 5, none⟩) (by show _ ≤ w.heap.size + 1; omega) (.string ⟨#[]⟩)) (p := ⟨w.heap.size + 1, 6, none⟩) (by show _ ≤ w.heap.size + 1; omega) (.string ⟨#[]⟩))
    go_wp2_with fail
    generalize (((((((w1.setCell ⟨w.heap.size + 1, 0, none⟩ (.int .i64 0)).setCell ⟨w.heap.size + 1, 1, none⟩ (.int .i64 0)).setCell ⟨w.heap.size + 1, 2, none⟩ (.int .i64 0)).setCell ⟨w.heap.size + 1, 3, none⟩ (.int .i64 0)).setCell ⟨w.heap.size + 1, 4, none⟩ (.string ⟨#[]⟩)).setCell ⟨w.heap.size + 1, 5, none⟩ (.string ⟨#[]⟩)).setCell ⟨w.heap.size + 1, 6, none⟩ (.string ⟨#[]⟩)) = wf at AF GF ⊢
    have d0 := (blk_cell AF 0 (x := .int .i64 0) rfl).1
    have d1 := (blk_cell AF 1 (x := .int .i64 0) rfl).1
    have d2 := (blk_cell AF 2 (x := .int .i64 0) rfl).1
    have d3 := (blk_cell AF 3 (x := .int .i64 0) rfl).1
    have d4 := (blk_cell AF 4 (x := .string ⟨#[]⟩) rfl).1
    have d5 := (blk_cell AF 5 (x := .string ⟨#[]⟩) rfl).1
    have d6 := (blk_cell AF 6 (x := .string ⟨#[]⟩) rfl).1
    exact bodyPost_ret (v := .tuple #[.agg #[.int .i64 0, .int .i64 0, .int .i64 0, .int .i64 0, .string ⟨#[]⟩, .string ⟨#[]⟩, .string ⟨#[]⟩], .int .i64 1]) (by simp [results, Tryd.results8, go_sem, d0, d1, d2, d3, d4, d5, d6]) rfl ⟨ret_mc ⟨HE.out.1.symm, HE.out.2.symm⟩, GF.out⟩
  · have HE : Hid (sV i kd vw sq dg bd = msgV kd vw sq i dg bd (mmk kd vw sq i dg bd) ∧ sCode i kd vw sq dg bd = 0) := ⟨e2, e1⟩
    obtain ⟨hd, hb, _⟩ := msg_small h2
    clear e1 e2
    rw [← b9_b8] at h2
    unfold msgV at HE ⊢
    go_enter Tryd.func8, Tryd.ntmps8
    go_wp2_with (first | (go_at_call 25; refine (in_any _ _ _ _).mono ?_; rintro e w1 ⟨rfl, rfl⟩; rw [h1]) | fail)
    refine (specMessageOK_any kd vw sq i dg bd b9 _).mono ?_
    rintro e w1 ⟨rfl, b1⟩
    rw [h2]
    obtain ⟨k0, k1, kB⟩ := two b1
    have K0 : Hid (w1.heap[w.heap.size]? = some (.cells #[.int .i64 kd, .int .i64 vw, .int .i64 sq, .int .i64 i, .string dg, .string bd, .string ⟨#[49, 50, 51, 52, 53, 54, 55, 56]⟩] 24 (0, 0))) := k0
    have K1 : Hid (w1.heap[w.heap.size + 1]? = some (.cells #[.int .i64 0, .int .i64 0, .int .i64 0, .int .i64 0, .string ⟨#[]⟩, .string ⟨#[]⟩, .string ⟨#[]⟩] 24 (0, 0))) := k1
    have KB : Hid (Below w.heap.size w w1) := kB
    clear b1 k0 k1 kB h2
    have HMM := l06Sign_any kd vw sq i i dg bd b9 w1 hi hd hb
    unfold msgV b9 at HMM
    have HM : Hid (Calls Tryd.prog 27 #[.int .i64 i, .agg #[.int .i64 kd, .int .i64 vw, .int .i64 sq, .int .i64 i, .string dg, .string bd, .string ⟨#[49, 50, 51, 52, 53, 54, 55, 56]⟩]] w1 fun e w' => e = .returned (.agg #[.int .i64 kd, .int .i64 vw, .int .i64 sq, .int .i64 i, .string dg, .string bd, .string (mmk kd vw sq i dg bd)]) ∧ Below w1.heap.size w1 w') := HMM
    clear HMM
    have q0 := (blk_cell K0.out 0 (x := .int .i64 kd) rfl).1
    have q1 := (blk_cell K0.out 1 (x := .int .i64 vw) rfl).1
    have q2 := (blk_cell K0.out 2 (x := .int .i64 sq) rfl).1
    have q3 := (blk_cell K0.out 3 (x := .int .i64 i) rfl).1
    have q4 := (blk_cell K0.out 4 (x := .string dg) rfl).1
    have q5 := (blk_cell K0.out 5 (x := .string bd) rfl).1
    have q6 := (blk_cell K0.out 6 (x := .string ⟨#[49, 50, 51, 52, 53, 54, 55, 56]⟩) rfl).1
    go_wp2_with fail
    refine HM.out.mono ?_
    rintro e w2 ⟨rfl, b2⟩
    have s1 := (Array.getElem?_eq_some_iff.1 K1.out).1
    have K12 : Hid (w2.heap[w.heap.size + 1]? = some (.cells #[.int .i64 0, .int .i64 0, .int .i64 0, .int .i64 0, .string ⟨#[]⟩, .string ⟨#[]⟩, .string ⟨#[]⟩] 24 (0, 0))) := (b2.block _ s1).trans K1.out
    have KB2 : Hid (Below w.heap.size w w2) := KB.out.trans (b2.mono KB.out.size)
    clear b2 K0 K1 KB HM s1 q0 q1 q2 q3 q4 q5 q6
    generalize mmk kd vw sq i dg bd = mk at HE ⊢
    obtain ⟨m0, n0⟩ := blk_cell K12.out 0 (x := .int .i64 0) rfl
    obtain ⟨m1, n1⟩ := blk_cell K12.out 1 (x := .int .i64 0) rfl
    obtain ⟨m2, n2⟩ := blk_cell K12.out 2 (x := .int .i64 0) rfl
    obtain ⟨m3, n3⟩ := blk_cell K12.out 3 (x := .int .i64 0) rfl
    obtain ⟨m4, n4⟩ := blk_cell K12.out 4 (x := .string ⟨#[]⟩) rfl
    obtain ⟨m5, n5⟩ := blk_cell K12.out 5 (x := .string ⟨#[]⟩) rfl
    obtain ⟨m6, n6⟩ := blk_cell K12.out 6 (x := .string ⟨#[]⟩) rfl
    have AF : (((((((w2.setCell ⟨w.heap.size + 1, 0, none⟩ (.int .i64 kd)).setCell ⟨w.heap.size + 1, 1, none⟩ (.int .i64 vw)).setCell ⟨w.heap.size + 1, 2, none⟩ (.int .i64 sq)).setCell ⟨w.heap.size + 1, 3, none⟩ (.int .i64 i)).setCell ⟨w.heap.size + 1, 4, none⟩ (.string dg)).setCell ⟨w.heap.size + 1, 5, none⟩ (.string bd)).setCell ⟨w.heap.size + 1, 6, none⟩ (.string mk)).heap[w.heap.size + 1]? = some (.cells #[.int .i64 kd, .int .i64 vw, .int .i64 sq, .int .i64 i, .string dg, .string bd, .string mk] 24 (0, 0)) := (blk_set (blk_set (blk_set (blk_set (blk_set (blk_set (blk_set K12.out 0 (.int .i64 kd)) 1 (.int .i64 vw)) 2 (.int .i64 sq)) 3 (.int .i64 i)) 4 (.string dg)) 5 (.string bd)) 6 (.string mk))
    have GF : Hid (Below w.heap.size w (((((((w2.setCell ⟨w.heap.size + 1, 0, none⟩ (.int .i64 kd)).setCell ⟨w.heap.size + 1, 1, none⟩ (.int .i64 vw)).setCell ⟨w.heap.size + 1, 2, none⟩ (.int .i64 sq)).setCell ⟨w.heap.size + 1, 3, none⟩ (.int .i64 i)).setCell ⟨w.heap.size + 1, 4, none⟩ (.string dg)).setCell ⟨w.heap.size + 1, 5, none⟩ (.string bd)).setCell ⟨w.heap.size + 1, 6, none⟩ (.string mk))) := (Below.setCell (Below.setCell (Below.setCell (Below.setCell (Below.setCell (Below.setCell (Below.setCell KB2.out (p := ⟨w.heap.size + 1, 0, none⟩) (by show _ ≤ w.heap.size + 1; omega) (.int .i64 kd)) (p := ⟨w.heap.size + 1, 1, none⟩) (by show _ ≤ w.heap.size + 1; omega) (.int .i64 vw)) (p := ⟨w.heap.size + 1, 2, none⟩) (by show _ ≤ w.heap.size + 1; omega) (.int .i64 sq)) (p := ⟨w.heap.size + 1, 3, none⟩) (by show _ ≤ w.heap.size + 1; omega) (.int .i64 i)) (p := ⟨w.heap.size + 1, 4, none⟩) (by show _ ≤ w.heap.size + 1; omega) (.string dg)) (p := ⟨w.heap.size + 1, 5, none⟩) (by show _ ≤ w.heap.size + 1; omega) (.string bd)) (p := ⟨w.heap.size + 1, 6, none⟩) (by show _ ≤ w.heap.size + 1; omega) (.string mk))
    go_wp2_with fail
    generalize (((((((w2.setCell ⟨w.heap.size + 1, 0, none⟩ (.int .i64 kd)).setCell ⟨w.heap.size + 1, 1, none⟩ (.int .i64 vw)).setCell ⟨w.heap.size + 1, 2, none⟩ (.int .i64 sq)).setCell ⟨w.heap.size + 1, 3, none⟩ (.int .i64 i)).setCell ⟨w.heap.size + 1, 4, none⟩ (.string dg)).setCell ⟨w.heap.size + 1, 5, none⟩ (.string bd)).setCell ⟨w.heap.size + 1, 6, none⟩ (.string mk)) = wf at AF GF ⊢
    have d0 := (blk_cell AF 0 (x := .int .i64 kd) rfl).1
    have d1 := (blk_cell AF 1 (x := .int .i64 vw) rfl).1
    have d2 := (blk_cell AF 2 (x := .int .i64 sq) rfl).1
    have d3 := (blk_cell AF 3 (x := .int .i64 i) rfl).1
    have d4 := (blk_cell AF 4 (x := .string dg) rfl).1
    have d5 := (blk_cell AF 5 (x := .string bd) rfl).1
    have d6 := (blk_cell AF 6 (x := .string mk) rfl).1
    exact bodyPost_ret (v := .tuple #[.agg #[.int .i64 kd, .int .i64 vw, .int .i64 sq, .int .i64 i, .string dg, .string bd, .string mk], .int .i64 0]) (by simp [results, Tryd.results8, go_sem, d0, d1, d2, d3, d4, d5, d6]) rfl ⟨ret_mc ⟨HE.out.1.symm, HE.out.2.symm⟩, GF.out⟩
end Go.Proofs.YtdeologdmdimoaaDoor.Si
