/- Texts put together: Si3, Si4, Sn, SlRow. -/
import Derived.Test.YtdeologdmdimoaaDoorJFnSigned2
import Derived.Test.YtdeologdmdimoaaDoorSl
import Derived.OpenShut
/- SignMessage of the specification. -/
namespace Go.Proofs.YtdeologdmdimoaaDoor.Si
open Go.RowKit Go.Proofs.YtdeologdmdimoaaDoor.Sl Go.Proofs.YtdeologdmdimoaaDoor.By Go.Proofs.YtdeologdmdimoaaDoor.Rq Go.Proofs.YtdeologdmdimoaaDoor.Ap Go.Proofs.YtdeologdmdimoaaDoor.Sh Go.Proofs.YtdeologdmdimoaaDoor.Ho Go.Proofs.YtdeologdmdimoaaDoor.Mr Go.Proofs.YtdeologdmdimoaaDoor.Ms Go.Proofs.YtdeologdmdimoaaDoor.Mp Go.Proofs.YtdeologdmdimoaaDoor.Rp Go.Proofs.YtdeologdmdimoaaDoor.Pu
open Go.Proofs.YtdeologdmdimoaaDoor.Tx (blk_cell blk_set blk_far blk_new bel_new)

def b9 : ByteArray := ⟨#[49, 50, 51, 52, 53, 54, 55, 56]⟩
theorem b9_b8 (kd vw sq fr : Int) (dg bd : ByteArray) : msgB kd vw sq fr dg bd b9 = msgB kd vw sq fr dg bd b8 := msgB_mac kd vw sq fr dg bd rfl
set_option maxRecDepth 100000 in
set_option maxHeartbeats 800000 in
theorem l06Sign_any (kd vw sq : Int) (i : Nat) (fr : Int) (dg bd mc : ByteArray) (w : World) (hi : i < 7) (hd : dg.size ≤ 32) (hb : bd.size ≤ 20000) :
    Calls Tryd.prog 27 #[.int .i64 i, msgV kd vw sq fr dg bd mc] w fun e w' => e = .returned (msgV kd vw sq i dg bd (mmk kd vw sq i dg bd)) ∧ Below w.heap.size w w' := by
  have HP := l02Plain_any kd vw sq i dg bd mc
  have HPL : Hid ((plainBs kd vw sq i dg bd).length ≤ 60000) := by show _ ≤ _; rw [plainBs_length]; omega
  unfold msgV at HP ⊢
  go_enter Tryd.func27, Tryd.ntmps27
  go_wp2_with fail
  refine (HP _ (by omega) (by omega)).mono ?_
  rintro e w1 ⟨v1, rfl, o1, b1⟩
  have b0 := box_old b1
  obtain ⟨k0, k1, kB⟩ := two b0
  have K0 : Hid (w1.heap[w.heap.size]? = some (.cells #[.int .i64 kd, .int .i64 vw, .int .i64 sq, .int .i64 i, .string dg, .string bd, .string mc] 24 (0, 0))) := k0
  have K1 : Hid (w1.heap[w.heap.size + 1]? = some (.cells #[.int .i64 0, .int .i64 0, .int .i64 0, .int .i64 0, .string ⟨#[]⟩, .string ⟨#[]⟩, .string ⟨#[]⟩] 24 (0, 0))) := k1
  have KB : Hid (Below w.heap.size w w1) := kB
  have R1 : Hid (RowB w1 v1 (plainBs kd vw sq i dg bd)) := own_rowB o1 (plainBs_range kd vw sq i dg bd)
  clear b1 b0 k0 k1 kB o1 HP
  have HM : Hid (Calls Tryd.prog 50 #[.int .i64 i, v1] w1 fun e w' => e = .returned (.string (mmk kd vw sq i dg bd)) ∧ Below w1.heap.size w1 w') := l04Mac_any i v1 _ w1 (by omega) R1.out (plain_ne kd vw sq i dg bd) HPL.out
  go_wp2_with fail
  refine HM.out.mono ?_
  rintro e w2 ⟨rfl, b2⟩
  have s1 := (Array.getElem?_eq_some_iff.1 K1.out).1
  have K02 : Hid (w2.heap[w.heap.size]? = some (.cells #[.int .i64 kd, .int .i64 vw, .int .i64 sq, .int .i64 i, .string dg, .string bd, .string mc] 24 (0, 0))) := (b2.block _ (by omega)).trans K0.out
  have K12 : Hid (w2.heap[w.heap.size + 1]? = some (.cells #[.int .i64 0, .int .i64 0, .int .i64 0, .int .i64 0, .string ⟨#[]⟩, .string ⟨#[]⟩, .string ⟨#[]⟩] 24 (0, 0))) := (b2.block _ s1).trans K1.out
  have KB2 : Hid (Below w.heap.size w w2) := KB.out.trans (b2.mono KB.out.size)
  clear b2 K0 K1 KB HM s1 R1
  obtain ⟨mk, HE⟩ : ∃ mk, Hid (mk = mmk kd vw sq i dg bd) := ⟨_, rfl⟩
  rw [← HE.out]
  obtain ⟨s6, t6⟩ := blk_cell K02.out 6 (x := .string mc) rfl
  have K03 : Hid ((w2.setCell ⟨w.heap.size, 6, none⟩ (.string mk)).heap[w.heap.size]? = some (.cells #[.int .i64 kd, .int .i64 vw, .int .i64 sq, .int .i64 i, .string dg, .string bd, .string mk] 24 (0, 0))) := blk_set K02.out 6 (.string mk)
  have K13 : Hid ((w2.setCell ⟨w.heap.size, 6, none⟩ (.string mk)).heap[w.heap.size + 1]? = some (.cells #[.int .i64 0, .int .i64 0, .int .i64 0, .int .i64 0, .string ⟨#[]⟩, .string ⟨#[]⟩, .string ⟨#[]⟩] 24 (0, 0))) := (blk_far (by omega) 6 (.string mk)).trans K12.out
  have KB3 : Hid (Below w.heap.size w (w2.setCell ⟨w.heap.size, 6, none⟩ (.string mk))) := Below.setCell KB2.out (p := ⟨w.heap.size, 6, none⟩) (Nat.le_refl _) (.string mk)
  clear K02 K12 KB2
  go_upto_region 3 with fail
  generalize w2.setCell ⟨w.heap.size, 6, none⟩ (.string mk) = w9 at K03 K13 KB3 ⊢
  clear s6 t6
  have p0 := (blk_cell K03.out 0 (x := .int .i64 kd) rfl).1
  have p1 := (blk_cell K03.out 1 (x := .int .i64 vw) rfl).1
  have p2 := (blk_cell K03.out 2 (x := .int .i64 sq) rfl).1
  have p3 := (blk_cell K03.out 3 (x := .int .i64 i) rfl).1
  have p4 := (blk_cell K03.out 4 (x := .string dg) rfl).1
  have p5 := (blk_cell K03.out 5 (x := .string bd) rfl).1
  have p6 := (blk_cell K03.out 6 (x := .string mk) rfl).1
  obtain ⟨m0, n0⟩ := blk_cell K13.out 0 (x := .int .i64 0) rfl
  obtain ⟨m1, n1⟩ := blk_cell K13.out 1 (x := .int .i64 0) rfl
  obtain ⟨m2, n2⟩ := blk_cell K13.out 2 (x := .int .i64 0) rfl
  obtain ⟨m3, n3⟩ := blk_cell K13.out 3 (x := .int .i64 0) rfl
  obtain ⟨m4, n4⟩ := blk_cell K13.out 4 (x := .string ⟨#[]⟩) rfl
  obtain ⟨m5, n5⟩ := blk_cell K13.out 5 (x := .string ⟨#[]⟩) rfl
  obtain ⟨m6, n6⟩ := blk_cell K13.out 6 (x := .string ⟨#[]⟩) rfl
  have AF : (((((((w9.setCell ⟨w.heap.size + 1, 0, none⟩ (.int .i64 kd)).setCell ⟨w.heap.size + 1, 1, none⟩ (.int .i64 vw)).setCell ⟨w.heap.size + 1, 2, none⟩ (.int .i64 sq)).setCell ⟨w.heap.size + 1, 3, none⟩ (.int .i64 i)).setCell ⟨w.heap.size + 1, 4, none⟩ (.string dg)).setCell ⟨w.heap.size + 1, 5, none⟩ (.string bd)).setCell ⟨w.heap.size + 1, 6, none⟩ (.string mk)).heap[w.heap.size + 1]? = some (.cells #[.int .i64 kd, .int .i64 vw, .int .i64 sq, .int .i64 i, .string dg, .string bd, .string mk] 24 (0, 0)) := (blk_set (blk_set (blk_set (blk_set (blk_set (blk_set (blk_set K13.out 0 (.int .i64 kd)) 1 (.int .i64 vw)) 2 (.int .i64 sq)) 3 (.int .i64 i)) 4 (.string dg)) 5 (.string bd)) 6 (.string mk))
  have GF : Hid (Below w.heap.size w (((((((w9.setCell ⟨w.heap.size + 1, 0, none⟩ (.int .i64 kd)).setCell ⟨w.heap.size + 1, 1, none⟩ (.int .i64 vw)).setCell ⟨w.heap.size + 1, 2, none⟩ (.int .i64 sq)).setCell ⟨w.heap.size + 1, 3, none⟩ (.int .i64 i)).setCell ⟨w.heap.size + 1, 4, none⟩ (.string dg)).setCell ⟨w.heap.size + 1, 5, none⟩ (.string bd)).setCell ⟨w.heap.size + 1, 6, none⟩ (.string mk))) := (Below.setCell (Below.setCell (Below.setCell (Below.setCell (Below.setCell (Below.setCell (Below.setCell KB3.out (p := ⟨w.heap.size + 1, 0, none⟩) (by show _ ≤ w.heap.size + 1; omega) (.int .i64 kd)) (p := ⟨w.heap.size + 1, 1, none⟩) (by show _ ≤ w.heap.size + 1; omega) (.int .i64 vw)) (p := ⟨w.heap.size + 1, 2, none⟩) (by show _ ≤ w.heap.size + 1; omega) (.int .i64 sq)) (p := ⟨w.heap.size + 1, 3, none⟩) (by show _ ≤ w.heap.size + 1; omega) (.int .i64 i)) (p := ⟨w.heap.size + 1, 4, none⟩) (by show _ ≤ w.heap.size + 1; omega) (.string dg)) (p := ⟨w.heap.size + 1, 5, none⟩) (by show _ ≤ w.heap.size + 1; omega) (.string bd)) (p := ⟨w.heap.size + 1, 6, none⟩) (by show _ ≤ w.heap.size + 1; omega) (.string mk))
  go_wp2_with fail
  generalize (((((((w9.setCell ⟨w.heap.size + 1, 0, none⟩ (.int .i64 kd)).setCell ⟨w.heap.size + 1, 1, none⟩ (.int .i64 vw)).setCell ⟨w.heap.size + 1, 2, none⟩ (.int .i64 sq)).setCell ⟨w.heap.size + 1, 3, none⟩ (.int .i64 i)).setCell ⟨w.heap.size + 1, 4, none⟩ (.string dg)).setCell ⟨w.heap.size + 1, 5, none⟩ (.string bd)).setCell ⟨w.heap.size + 1, 6, none⟩ (.string mk)) = wf at AF GF ⊢
  have d0 := (blk_cell AF 0 (x := .int .i64 kd) rfl).1
  have d1 := (blk_cell AF 1 (x := .int .i64 vw) rfl).1
  have d2 := (blk_cell AF 2 (x := .int .i64 sq) rfl).1
  have d3 := (blk_cell AF 3 (x := .int .i64 i) rfl).1
  have d4 := (blk_cell AF 4 (x := .string dg) rfl).1
  have d5 := (blk_cell AF 5 (x := .string bd) rfl).1
  have d6 := (blk_cell AF 6 (x := .string mk) rfl).1
  exact bodyPost_ret (v := .agg #[.int .i64 kd, .int .i64 vw, .int .i64 sq, .int .i64 i, .string dg, .string bd, .string mk]) (by simp [results, Tryd.results27, go_sem, d0, d1, d2, d3, d4, d5, d6]) rfl ⟨by rw [HE.out], GF.out⟩
set_option maxRecDepth 100000 in
set_option maxHeartbeats 800000 in
theorem specSignMessage_any (id kd vw sq fr : Int) (dg bd mc : ByteArray) (w : World) :
    Calls Tryd.prog 8 #[.int .i64 id, msgV kd vw sq fr dg bd mc] w fun e w' => e = .returned (.tuple #[sV id kd vw sq dg bd, .int .i64 (sCode id kd vw sq dg bd)]) ∧ Below w.heap.size w w' := by
  have HB0 : Hid (∀ o0 o1, Below w.heap.size w ((w.alloc o0).alloc o1)) := fun o0 o1 => ((Below.refl _ _).alloc (Nat.le_refl _) _).alloc (by simp) _
  rcases s_cases id kd vw sq dg bd with ⟨h1, e1, e2⟩ | ⟨h1, h2, e1, e2⟩ | ⟨i, rfl, hi, h1, h2, e1, e2⟩
  · have HE : Hid (sV id kd vw sq dg bd = msgV 0 0 0 0 ⟨#[]⟩ ⟨#[]⟩ ⟨#[]⟩ ∧ sCode id kd vw sq dg bd = 4) := ⟨e2, e1⟩
    clear e1 e2
    unfold msgV at HE ⊢
    go_enter Tryd.func8, Tryd.ntmps8
    go_wp2_with (go_at_call 25; refine (in_any _ _ _ _).mono ?_; rintro e w1 ⟨rfl, rfl⟩; rw [h1])
    refine bodyPost_ret (v := .tuple #[.agg #[.int .i64 0, .int .i64 0, .int .i64 0, .int .i64 0, .string ⟨#[]⟩, .string ⟨#[]⟩, .string ⟨#[]⟩], .int .i64 4]) (by simp [results, Tryd.results8, go_sem]) rfl ⟨ret_mc ⟨HE.out.1.symm, HE.out.2.symm⟩, HB0.out _ _⟩
  · have HE : Hid (sV id kd vw sq dg bd = msgV 0 0 0 0 ⟨#[]⟩ ⟨#[]⟩ ⟨#[]⟩ ∧ sCode id kd vw sq dg bd = 1) := ⟨e2, e1⟩
    clear e1 e2
    rw [← b9_b8] at h2
    unfold msgV at HE ⊢
    go_enter Tryd.func8, Tryd.ntmps8
    go_wp2_with (first | (go_at_call 25; refine (in_any _ _ _ _).mono ?_; rintro e w1 ⟨rfl, rfl⟩; rw [h1]) | fail)
    refine (specMessageOK_any kd vw sq id dg bd b9 _).mono ?_
    rintro e w1 ⟨rfl, b1⟩
    rw [h2]
    obtain ⟨k0, k1, kB⟩ := two b1
    have K1 : Hid (w1.heap[w.heap.size + 1]? = some (.cells #[.int .i64 0, .int .i64 0, .int .i64 0, .int .i64 0, .string ⟨#[]⟩, .string ⟨#[]⟩, .string ⟨#[]⟩] 24 (0, 0))) := k1
    have KB : Hid (Below w.heap.size w w1) := kB
    clear b1 k0 k1 kB
    obtain ⟨m0, n0⟩ := blk_cell K1.out 0 (x := .int .i64 0) rfl
    obtain ⟨m1, n1⟩ := blk_cell K1.out 1 (x := .int .i64 0) rfl
    obtain ⟨m2, n2⟩ := blk_cell K1.out 2 (x := .int .i64 0) rfl
    obtain ⟨m3, n3⟩ := blk_cell K1.out 3 (x := .int .i64 0) rfl
    obtain ⟨m4, n4⟩ := blk_cell K1.out 4 (x := .string ⟨#[]⟩) rfl
    obtain ⟨m5, n5⟩ := blk_cell K1.out 5 (x := .string ⟨#[]⟩) rfl
    obtain ⟨m6, n6⟩ := blk_cell K1.out 6 (x := .string ⟨#[]⟩) rfl
    have AF : (((((((w1.setCell ⟨w.heap.size + 1, 0, none⟩ (.int .i64 0)).setCell ⟨w.heap.size + 1, 1, none⟩ (.int .i64 0)).setCell ⟨w.heap.size + 1, 2, none⟩ (.int .i64 0)).setCell ⟨w.heap.size + 1, 3, none⟩ (.int .i64 0)).setCell ⟨w.heap.size + 1, 4, none⟩ (.string ⟨#[]⟩)).setCell ⟨w.heap.size + 1, 5, none⟩ (.string ⟨#[]⟩)).setCell ⟨w.heap.size + 1, 6, none⟩ (.string ⟨#[]⟩)).heap[w.heap.size + 1]? = some (.cells #[.int .i64 0, .int .i64 0, .int .i64 0, .int .i64 0, .string ⟨#[]⟩, .string ⟨#[]⟩, .string ⟨#[]⟩] 24 (0, 0)) := (blk_set (blk_set (blk_set (blk_set (blk_set (blk_set (blk_set K1.out 0 (.int .i64 0)) 1 (.int .i64 0)) 2 (.int .i64 0)) 3 (.int .i64 0)) 4 (.string ⟨#[]⟩)) 5 (.string ⟨#[]⟩)) 6 (.string ⟨#[]⟩))
    have GF : Hid (Below w.heap.size w (((((((w1.setCell ⟨w.heap.size + 1, 0, none⟩ (.int .i64 0)).setCell ⟨w.heap.size + 1, 1, none⟩ (.int .i64 0)).setCell ⟨w.heap.size + 1, 2, none⟩ (.int .i64 0)).setCell ⟨w.heap.size + 1, 3, none⟩ (.int .i64 0)).setCell ⟨w.heap.size + 1, 4, none⟩ (.string ⟨#[]⟩)).setCell ⟨w.heap.size + 1, 5, none⟩ (.string ⟨#[]⟩)).setCell ⟨w.heap.size + 1, 6, none⟩ (.string ⟨#[]⟩))) := (Below.setCell (Below.setCell (Below.setCell (Below.setCell (Below.setCell (Below.setCell (Below.setCell KB.out (p := ⟨w.heap.size + 1, 0, none⟩) (by show _ ≤ w.heap.size + 1; omega) (.int .i64 0)) (p := ⟨w.heap.size + 1, 1, none⟩) (by show _ ≤ w.heap.size + 1; omega) (.int .i64 0)) (p := ⟨w.heap.size + 1, 2, none⟩) (by show _ ≤ w.heap.size + 1; omega) (.int .i64 0)) (p := ⟨w.heap.size + 1, 3, none⟩) (by show _ ≤ w.heap.size + 1; omega) (.int .i64 0)) (p := ⟨w.heap.size + 1, 4, none⟩) (by show _ ≤ w.heap.size + 1; omega) (.string ⟨#[]⟩)) (p := ⟨w.heap.size + 1, 5, none⟩) (by show _ ≤ w.heap.size + 1; omega) (.string ⟨#[]⟩)) (p := ⟨w.heap.size + 1, 6, none⟩) (by show _ ≤ w.heap.size + 1; omega) (.string ⟨#[]⟩))
    go_wp2_with fail
    generalize (((((((w1.setCell ⟨w.heap.size + 1, 0, none⟩ (.int .i64 0)).setCell ⟨w.heap.size + 1, 1, none⟩ (.int .i64 0)).setCell ⟨w.heap.size + 1, 2, none⟩ (.int .i64 0)).setCell ⟨w.heap.size + 1, 3, none⟩ (.int .i64 0)).setCell ⟨w.heap.size + 1, 4, none⟩ (.string ⟨#[]⟩)).setCell ⟨w.heap.size + 1, 5, none⟩ (.string ⟨#[]⟩)).setCell ⟨w.heap.size + 1, 6, none⟩ (.string ⟨#[]⟩)) = wf at AF GF ⊢
    have d0 := (blk_cell AF 0 (x := .int .i64 0) rfl).1
    have d1 := (blk_cell AF 1 (x := .int .i64 0) rfl).1
    have d2 := (blk_cell AF 2 (x := .int .i64 0) rfl).1
    have d3 := (blk_cell AF 3 (x := .int .i64 0) rfl).1
    have d4 := (blk_cell AF 4 (x := .string ⟨#[]⟩) rfl).1
    have d5 := (blk_cell AF 5 (x := .string ⟨#[]⟩) rfl).1
    have d6 := (blk_cell AF 6 (x := .string ⟨#[]⟩) rfl).1
    exact bodyPost_ret (v := .tuple #[.agg #[.int .i64 0, .int .i64 0, .int .i64 0, .int .i64 0, .string ⟨#[]⟩, .string ⟨#[]⟩, .string ⟨#[]⟩], .int .i64 1]) (by simp [results, Tryd.results8, go_sem, d0, d1, d2, d3, d4, d5, d6]) rfl ⟨ret_mc ⟨HE.out.1.symm, HE.out.2.symm⟩, GF.out⟩
  · have HE : Hid (sV i kd vw sq dg bd = msgV kd vw sq i dg bd (mmk kd vw sq i dg bd) ∧ sCode i kd vw sq dg bd = 0) := ⟨e2, e1⟩
    obtain ⟨hd, hb, _⟩ := msg_small h2
    clear e1 e2
    rw [← b9_b8] at h2
    unfold msgV at HE ⊢
    go_enter Tryd.func8, Tryd.ntmps8
    go_wp2_with (first | (go_at_call 25; refine (in_any _ _ _ _).mono ?_; rintro e w1 ⟨rfl, rfl⟩; rw [h1]) | fail)
    refine (specMessageOK_any kd vw sq i dg bd b9 _).mono ?_
    rintro e w1 ⟨rfl, b1⟩
    rw [h2]
    obtain ⟨k0, k1, kB⟩ := two b1
    have K0 : Hid (w1.heap[w.heap.size]? = some (.cells #[.int .i64 kd, .int .i64 vw, .int .i64 sq, .int .i64 i, .string dg, .string bd, .string ⟨#[49, 50, 51, 52, 53, 54, 55, 56]⟩] 24 (0, 0))) := k0
    have K1 : Hid (w1.heap[w.heap.size + 1]? = some (.cells #[.int .i64 0, .int .i64 0, .int .i64 0, .int .i64 0, .string ⟨#[]⟩, .string ⟨#[]⟩, .string ⟨#[]⟩] 24 (0, 0))) := k1
    have KB : Hid (Below w.heap.size w w1) := kB
    clear b1 k0 k1 kB h2
    have HMM := l06Sign_any kd vw sq i i dg bd b9 w1 hi hd hb
    unfold msgV b9 at HMM
    have HM : Hid (Calls Tryd.prog 27 #[.int .i64 i, .agg #[.int .i64 kd, .int .i64 vw, .int .i64 sq, .int .i64 i, .string dg, .string bd, .string ⟨#[49, 50, 51, 52, 53, 54, 55, 56]⟩]] w1 fun e w' => e = .returned (.agg #[.int .i64 kd, .int .i64 vw, .int .i64 sq, .int .i64 i, .string dg, .string bd, .string (mmk kd vw sq i dg bd)]) ∧ Below w1.heap.size w1 w') := HMM
    clear HMM
    have q0 := (blk_cell K0.out 0 (x := .int .i64 kd) rfl).1
    have q1 := (blk_cell K0.out 1 (x := .int .i64 vw) rfl).1
    have q2 := (blk_cell K0.out 2 (x := .int .i64 sq) rfl).1
    have q3 := (blk_cell K0.out 3 (x := .int .i64 i) rfl).1
    have q4 := (blk_cell K0.out 4 (x := .string dg) rfl).1
    have q5 := (blk_cell K0.out 5 (x := .string bd) rfl).1
    have q6 := (blk_cell K0.out 6 (x := .string ⟨#[49, 50, 51, 52, 53, 54, 55, 56]⟩) rfl).1
    go_wp2_with fail
    refine HM.out.mono ?_
    rintro e w2 ⟨rfl, b2⟩
    have s1 := (Array.getElem?_eq_some_iff.1 K1.out).1
    have K12 : Hid (w2.heap[w.heap.size + 1]? = some (.cells #[.int .i64 0, .int .i64 0, .int .i64 0, .int .i64 0, .string ⟨#[]⟩, .string ⟨#[]⟩, .string ⟨#[]⟩] 24 (0, 0))) := (b2.block _ s1).trans K1.out
    have KB2 : Hid (Below w.heap.size w w2) := KB.out.trans (b2.mono KB.out.size)
    clear b2 K0 K1 KB HM s1 q0 q1 q2 q3 q4 q5 q6
    generalize mmk kd vw sq i dg bd = mk at HE ⊢
    obtain ⟨m0, n0⟩ := blk_cell K12.out 0 (x := .int .i64 0) rfl
    obtain ⟨m1, n1⟩ := blk_cell K12.out 1 (x := .int .i64 0) rfl
    obtain ⟨m2, n2⟩ := blk_cell K12.out 2 (x := .int .i64 0) rfl
    obtain ⟨m3, n3⟩ := blk_cell K12.out 3 (x := .int .i64 0) rfl
    obtain ⟨m4, n4⟩ := blk_cell K12.out 4 (x := .string ⟨#[]⟩) rfl
    obtain ⟨m5, n5⟩ := blk_cell K12.out 5 (x := .string ⟨#[]⟩) rfl
    obtain ⟨m6, n6⟩ := blk_cell K12.out 6 (x := .string ⟨#[]⟩) rfl
    have AF : (((((((w2.setCell ⟨w.heap.size + 1, 0, none⟩ (.int .i64 kd)).setCell ⟨w.heap.size + 1, 1, none⟩ (.int .i64 vw)).setCell ⟨w.heap.size + 1, 2, none⟩ (.int .i64 sq)).setCell ⟨w.heap.size + 1, 3, none⟩ (.int .i64 i)).setCell ⟨w.heap.size + 1, 4, none⟩ (.string dg)).setCell ⟨w.heap.size + 1, 5, none⟩ (.string bd)).setCell ⟨w.heap.size + 1, 6, none⟩ (.string mk)).heap[w.heap.size + 1]? = some (.cells #[.int .i64 kd, .int .i64 vw, .int .i64 sq, .int .i64 i, .string dg, .string bd, .string mk] 24 (0, 0)) := (blk_set (blk_set (blk_set (blk_set (blk_set (blk_set (blk_set K12.out 0 (.int .i64 kd)) 1 (.int .i64 vw)) 2 (.int .i64 sq)) 3 (.int .i64 i)) 4 (.string dg)) 5 (.string bd)) 6 (.string mk))
    have GF : Hid (Below w.heap.size w (((((((w2.setCell ⟨w.heap.size + 1, 0, none⟩ (.int .i64 kd)).setCell ⟨w.heap.size + 1, 1, none⟩ (.int .i64 vw)).setCell ⟨w.heap.size + 1, 2, none⟩ (.int .i64 sq)).setCell ⟨w.heap.size + 1, 3, none⟩ (.int .i64 i)).setCell ⟨w.heap.size + 1, 4, none⟩ (.string dg)).setCell ⟨w.heap.size + 1, 5, none⟩ (.string bd)).setCell ⟨w.heap.size + 1, 6, none⟩ (.string mk))) := (Below.setCell (Below.setCell (Below.setCell (Below.setCell (Below.setCell (Below.setCell (Below.setCell KB2.out (p := ⟨w.heap.size + 1, 0, none⟩) (by show _ ≤ w.heap.size + 1; omega) (.int .i64 kd)) (p := ⟨w.heap.size + 1, 1, none⟩) (by show _ ≤ w.heap.size + 1; omega) (.int .i64 vw)) (p := ⟨w.heap.size + 1, 2, none⟩) (by show _ ≤ w.heap.size + 1; omega) (.int .i64 sq)) (p := ⟨w.heap.size + 1, 3, none⟩) (by show _ ≤ w.heap.size + 1; omega) (.int .i64 i)) (p := ⟨w.heap.size + 1, 4, none⟩) (by show _ ≤ w.heap.size + 1; omega) (.string dg)) (p := ⟨w.heap.size + 1, 5, none⟩) (by show _ ≤ w.heap.size + 1; omega) (.string bd)) (p := ⟨w.heap.size + 1, 6, none⟩) (by show _ ≤ w.heap.size + 1; omega) (.string mk))
    go_wp2_with fail
    generalize (((((((w2.setCell ⟨w.heap.size + 1, 0, none⟩ (.int .i64 kd)).setCell ⟨w.heap.size + 1, 1, none⟩ (.int .i64 vw)).setCell ⟨w.heap.size + 1, 2, none⟩ (.int .i64 sq)).setCell ⟨w.heap.size + 1, 3, none⟩ (.int .i64 i)).setCell ⟨w.heap.size + 1, 4, none⟩ (.string dg)).setCell ⟨w.heap.size + 1, 5, none⟩ (.string bd)).setCell ⟨w.heap.size + 1, 6, none⟩ (.string mk)) = wf at AF GF ⊢
    have d0 := (blk_cell AF 0 (x := .int .i64 kd) rfl).1
    have d1 := (blk_cell AF 1 (x := .int .i64 vw) rfl).1
    have d2 := (blk_cell AF 2 (x := .int .i64 sq) rfl).1
    have d3 := (blk_cell AF 3 (x := .int .i64 i) rfl).1
    have d4 := (blk_cell AF 4 (x := .string dg) rfl).1
    have d5 := (blk_cell AF 5 (x := .string bd) rfl).1
    have d6 := (blk_cell AF 6 (x := .string mk) rfl).1
    exact bodyPost_ret (v := .tuple #[.agg #[.int .i64 kd, .int .i64 vw, .int .i64 sq, .int .i64 i, .string dg, .string bd, .string mk], .int .i64 0]) (by simp [results, Tryd.results8, go_sem, d0, d1, d2, d3, d4, d5, d6]) rfl ⟨ret_mc ⟨HE.out.1.symm, HE.out.2.symm⟩, GF.out⟩
end Go.Proofs.YtdeologdmdimoaaDoor.Si

/- MessageSigned, of the program and of the specification. -/
namespace Go.Proofs.YtdeologdmdimoaaDoor.Si
open Go.RowKit Go.Proofs.YtdeologdmdimoaaDoor.Sl Go.Proofs.YtdeologdmdimoaaDoor.By Go.Proofs.YtdeologdmdimoaaDoor.Rq Go.Proofs.YtdeologdmdimoaaDoor.Ap Go.Proofs.YtdeologdmdimoaaDoor.Sh Go.Proofs.YtdeologdmdimoaaDoor.Ho Go.Proofs.YtdeologdmdimoaaDoor.Mr Go.Proofs.YtdeologdmdimoaaDoor.Ms Go.Proofs.YtdeologdmdimoaaDoor.Mp Go.Proofs.YtdeologdmdimoaaDoor.Rp Go.Proofs.YtdeologdmdimoaaDoor.Pu Go.Proofs.YtdeologdmdimoaaDoor.Tm
open Go.Proofs.YtdeologdmdimoaaDoor.Tx (blk_cell blk_set blk_far blk_new bel_new)

/-- What MessageSigned answers. -/
def lB (n kd vw sq fr : Int) (dg bd mc : ByteArray) : Bool := msgB kd vw sq fr dg bd mc && (decide (fr < n) && ((mmk kd vw sq fr.toNat dg bd).toList == mc.toList))
def gB (n kd vw sq fr : Int) (dg bd mc : ByteArray) : Bool := decide (fCode n = 0) && lB n kd vw sq fr dg bd mc
theorem ret_bool {a b : Bool} (h : a = b) : Ending.returned (.bool a) = .returned (.bool b) := by rw [h]
theorem beq_sym (a b : List UInt8) : (a == b) = (b == a) := by rw [Bool.eq_iff_iff, beq_iff_eq, beq_iff_eq]; exact eq_comm
theorem from_nat {kd vw sq fr : Int} {dg bd mc : ByteArray} (h : msgB kd vw sq fr dg bd mc = true) : ∃ i : Nat, fr = i ∧ i < 7 := by
  rw [msg_eq] at h
  simp only [Bool.and_eq_true] at h
  have h2 := h.2.1
  unfold inB at h2
  simp only [decide_eq_true_eq] at h2
  obtain ⟨i, rfl⟩ := Int.eq_ofNat_of_zero_le h2.1
  exact ⟨i, rfl, by omega⟩
set_option maxRecDepth 100000 in
set_option maxHeartbeats 1600000 in
theorem l06Signed_any (n kd vw sq fr : Int) (dg bd mc : ByteArray) (w : World) :
    Calls Tryd.prog 33 #[.int .i64 n, msgV kd vw sq fr dg bd mc] w fun e w' => e = .returned (.bool (lB n kd vw sq fr dg bd mc)) ∧ Below w.heap.size w w' := by
  unfold msgV
  have HX : Hid (∀ W, Below (w.alloc (.cells #[.int .i64 kd, .int .i64 vw, .int .i64 sq, .int .i64 fr, .string dg, .string bd, .string mc] 24)).heap.size (w.alloc (.cells #[.int .i64 kd, .int .i64 vw, .int .i64 sq, .int .i64 fr, .string dg, .string bd, .string mc] 24)) W → (W.cell? ⟨w.heap.size, 0, none⟩ = some (.int .i64 kd) ∧ W.cell? ⟨w.heap.size, 1, none⟩ = some (.int .i64 vw) ∧ W.cell? ⟨w.heap.size, 2, none⟩ = some (.int .i64 sq) ∧ W.cell? ⟨w.heap.size, 3, none⟩ = some (.int .i64 fr) ∧ W.cell? ⟨w.heap.size, 4, none⟩ = some (.string dg) ∧ W.cell? ⟨w.heap.size, 5, none⟩ = some (.string bd) ∧ W.cell? ⟨w.heap.size, 6, none⟩ = some (.string mc)) ∧ Below w.heap.size w W) := fun W hW => by
    have h1 := (hW.block w.heap.size (by simp)).trans (heap_alloc_new w _)
    exact ⟨⟨(blk_cell h1 0 rfl).1, (blk_cell h1 1 rfl).1, (blk_cell h1 2 rfl).1, (blk_cell h1 3 rfl).1, (blk_cell h1 4 rfl).1, (blk_cell h1 5 rfl).1, (blk_cell h1 6 rfl).1⟩, (bel_new w _).trans (hW.mono (by simp))⟩
  have HOK : Hid (∀ W, Calls Tryd.prog 26 #[.agg #[.int .i64 kd, .int .i64 vw, .int .i64 sq, .int .i64 fr, .string dg, .string bd, .string mc]] W fun e w' => e = .returned (.bool (msgB kd vw sq fr dg bd mc)) ∧ Below W.heap.size W w') := fun W => specMessageOK_any kd vw sq fr dg bd mc W
  cases hq : msgB kd vw sq fr dg bd mc with
  | false =>
    have HE : Hid (lB n kd vw sq fr dg bd mc = false) := by show _ = _; unfold lB; rw [hq]; rfl
    rw [hq] at HOK
    go_enter Tryd.func33, Tryd.ntmps33
    go_upto_region 1 with fail
    generalize w.alloc (.cells #[.int .i64 kd, .int .i64 vw, .int .i64 sq, .int .i64 fr, .string dg, .string bd, .string mc] 24) = wb at HX ⊢
    obtain ⟨X, hX, W, QI0, QO0⟩ := Qc.klass wb
    have QI : Hid (∀ w', Below wb.heap.size wb w' → ∃ x, w' = W x) := QI0
    have QO : Hid (∀ x, Below wb.heap.size wb (W x)) := QO0
    clear QI0 QO0
    have y0 := fun q => (HX.out _ (QO.out q)).1.1
    have y1 := fun q => (HX.out _ (QO.out q)).1.2.1
    have y2 := fun q => (HX.out _ (QO.out q)).1.2.2.1
    have y3 := fun q => (HX.out _ (QO.out q)).1.2.2.2.1
    have y4 := fun q => (HX.out _ (QO.out q)).1.2.2.2.2.1
    have y5 := fun q => (HX.out _ (QO.out q)).1.2.2.2.2.2.1
    have y6 := fun q => (HX.out _ (QO.out q)).1.2.2.2.2.2.2
    refine Qc.region_class (W := W) (by kernel_rfl) (by kernel_rfl) (QI.out _ Qc.from_drew) ?_
    repeat (go_big_quiet_step (first | (go_at_call 26; refine (HOK.out _).mono ?_; rintro e w2 ⟨rfl, b2⟩; exact ⟨rfl, Qc.back QI.out QO.out b2⟩)))
    refine wpQuiet_nil ?_
    rintro _ ⟨xq, rfl⟩
    have G2 : Hid (Below w.heap.size w (W xq)) := (HX.out _ (QO.out xq)).2
    clear y0 y1 y2 y3 y4 y5 y6
    generalize W xq = wq at G2 ⊢
    go_wp2_with fail
    go_ret
    exact ⟨ret_bool HE.out.symm, G2.out⟩
  | true =>
    rw [hq] at HOK
    obtain ⟨i, rfl, hi⟩ := from_nat hq
    obtain ⟨hd, hb, hm⟩ := msg_small hq
    by_cases hn : (i : Int) < n
    · have HE : Hid (lB n kd vw sq i dg bd mc = ((mmk kd vw sq i dg bd).toList == mc.toList)) := by show _ = _; unfold lB; rw [hq, decide_eq_true hn]; rfl
      have HPL : Hid ((plainBs kd vw sq i dg bd).length ≤ 60000) := by show _ ≤ _; rw [plainBs_length]; omega
      have HPL2 : Hid (∀ W, Calls Tryd.prog 51 #[.agg #[.int .i64 kd, .int .i64 vw, .int .i64 sq, .int .i64 i, .string dg, .string bd, .string mc]] W fun e w' => ∃ v, e = .returned v ∧ RowB w' v (plainBs kd vw sq i dg bd) ∧ Below W.heap.size W w') := fun W => (l02Plain_any kd vw sq i dg bd mc W (by omega) (by omega)).mono fun e w' ⟨v, h1, h2, h3⟩ => ⟨v, h1, own_rowB h2 (plainBs_range kd vw sq i dg bd), box_old h3⟩
      have HMC : Hid (∀ W v, RowB W v (plainBs kd vw sq i dg bd) → Calls Tryd.prog 50 #[.int .i64 i, v] W fun e w' => e = .returned (.string (mmk kd vw sq i dg bd)) ∧ Below W.heap.size W w') := fun W v h => l04Mac_any i v _ W (by omega) h (plain_ne kd vw sq i dg bd) HPL.out
      obtain ⟨mk, HMK⟩ : ∃ mk, Hid (mmk kd vw sq i dg bd = mk) := ⟨_, rfl⟩
      rw [HMK.out] at HMC HE
      clear HPL hm hd hb hq
      go_enter Tryd.func33, Tryd.ntmps33
      go_upto_region 1 with fail
      generalize w.alloc (.cells #[.int .i64 kd, .int .i64 vw, .int .i64 sq, .int .i64 i, .string dg, .string bd, .string mc] 24) = wb at HX ⊢
      obtain ⟨⟨y0, y1, y2, y3, y4, y5, y6⟩, _⟩ := HX.out wb (Below.refl _ _)
      go_region_held (fun W => W.cell? ⟨w.heap.size, 0, none⟩ = some (.int .i64 kd) ∧ W.cell? ⟨w.heap.size, 1, none⟩ = some (.int .i64 vw) ∧ W.cell? ⟨w.heap.size, 2, none⟩ = some (.int .i64 sq) ∧ W.cell? ⟨w.heap.size, 3, none⟩ = some (.int .i64 i) ∧ W.cell? ⟨w.heap.size, 4, none⟩ = some (.string dg) ∧ W.cell? ⟨w.heap.size, 5, none⟩ = some (.string bd) ∧ W.cell? ⟨w.heap.size, 6, none⟩ = some (.string mc)) (first | exact (HX.out _ Qc.from_drew).1 | exact (HX.out _ B2.out).1 | exact (HX.out _ B3.out).1 | exact (HX.out _ B4.out).1)
        (first | (go_at_call 26; refine (HOK.out _).mono ?_; rintro e w2 ⟨rfl, b2⟩; have B2 : Hid (Below wb.heap.size wb w2) := Qc.from_drew.trans b2; clear b2) | (go_at_call 51; refine (HPL2.out _).mono ?_; rintro e w3 ⟨v3, rfl, r3, b3⟩; have B3 : Hid (Below wb.heap.size wb w3) := B2.out.trans (b3.mono B2.out.size); have R3 : Hid (RowB w3 v3 (plainBs kd vw sq i dg bd)) := r3; clear b3 r3) | (go_at_call 50; refine (HMC.out _ _ R3.out).mono ?_; rintro e w4 ⟨rfl, b4⟩; have B4 : Hid (Below wb.heap.size wb w4) := B3.out.trans (b4.mono B3.out.size); clear b4))
      all_goals
        have G4 : Hid (Below w.heap.size w w4) := (HX.out _ B4.out).2
        clear y0 y1 y2 y3 y4 y5 y6
        go_wp2_with fail
        go_ret
        exact ⟨ret_bool HE.out.symm, G4.out⟩
    · have HE : Hid (lB n kd vw sq i dg bd mc = false) := by show _ = _; unfold lB; rw [hq, decide_eq_false hn]; rfl
      clear hm hd hb hq
      have hn' : decide ((i : Int) < n) = false := decide_eq_false hn
      go_enter Tryd.func33, Tryd.ntmps33
      go_upto_region 1 with fail
      generalize w.alloc (.cells #[.int .i64 kd, .int .i64 vw, .int .i64 sq, .int .i64 i, .string dg, .string bd, .string mc] 24) = wb at HX ⊢
      obtain ⟨X, hX, W, QI0, QO0⟩ := Qc.klass wb
      have QI : Hid (∀ w', Below wb.heap.size wb w' → ∃ x, w' = W x) := QI0
      have QO : Hid (∀ x, Below wb.heap.size wb (W x)) := QO0
      clear QI0 QO0
      have y0 := fun q => (HX.out _ (QO.out q)).1.1
      have y1 := fun q => (HX.out _ (QO.out q)).1.2.1
      have y2 := fun q => (HX.out _ (QO.out q)).1.2.2.1
      have y3 := fun q => (HX.out _ (QO.out q)).1.2.2.2.1
      have y4 := fun q => (HX.out _ (QO.out q)).1.2.2.2.2.1
      have y5 := fun q => (HX.out _ (QO.out q)).1.2.2.2.2.2.1
      have y6 := fun q => (HX.out _ (QO.out q)).1.2.2.2.2.2.2
      refine Qc.region_class (W := W) (by kernel_rfl) (by kernel_rfl) (QI.out _ Qc.from_drew) ?_
      repeat (go_big_quiet_step (first | (go_at_call 26; refine (HOK.out _).mono ?_; rintro e w2 ⟨rfl, b2⟩; exact ⟨rfl, Qc.back QI.out QO.out b2⟩)))
      refine wpQuiet_nil ?_
      rintro _ ⟨xq, rfl⟩
      have G2 : Hid (Below w.heap.size w (W xq)) := (HX.out _ (QO.out xq)).2
      clear y0 y1 y2 y3 y4 y5 y6
      generalize W xq = wq at G2 ⊢
      go_wp2_with fail
      go_ret
      exact ⟨ret_bool HE.out.symm, G2.out⟩
set_option maxRecDepth 100000 in
set_option maxHeartbeats 800000 in
theorem specMessageSigned_any (n kd vw sq fr : Int) (dg bd mc : ByteArray) (w : World) :
    Calls Tryd.prog 11 #[.int .i64 n, msgV kd vw sq fr dg bd mc] w fun e w' => e = .returned (.bool (gB n kd vw sq fr dg bd mc)) ∧ Below w.heap.size w w' := by
  have C := Qm.l04Nodes_any n
  have D := l06Signed_any n kd vw sq fr dg bd mc
  have HB : Hid (∀ o, Below w.heap.size w (w.alloc o)) := fun o => bel_new w o
  have HE : Hid (gB n kd vw sq fr dg bd mc = (decide (fCode n = 0) && lB n kd vw sq fr dg bd mc)) := rfl
  unfold msgV at D ⊢
  cases hc : decide (fCode n = 0) with
  | false =>
    rw [hc] at C HE
    go_enter Tryd.func11, Tryd.ntmps11
    go_wp2_with fail
    refine (C _).mono ?_
    rintro e w1 ⟨rfl, rfl⟩
    go_wp2_with fail
    go_ret
    exact ⟨ret_bool (by rw [HE.out]; rfl), HB.out _⟩
  | true =>
    rw [hc] at C HE
    go_enter Tryd.func11, Tryd.ntmps11
    go_wp2_with fail
    refine (C _).mono ?_
    rintro e w1 ⟨rfl, rfl⟩
    go_wp2_with fail
    refine (D _).mono ?_
    rintro e w1 ⟨rfl, b1⟩
    have B1 : Hid (Below w.heap.size w w1) := (HB.out _).trans (b1.mono (by simp))
    clear b1
    generalize lB n kd vw sq fr dg bd mc = o at HE
    go_wp2_with fail
    go_ret
    exact ⟨ret_bool (by rw [HE.out]; rfl), B1.out⟩
set_option maxRecDepth 100000 in
set_option maxHeartbeats 1600000 in
theorem implMessageSigned_any (n kd vw sq fr : Int) (dg bd mc : ByteArray) (w : World) (hK : KTab w) (hp : 0 < w.heap.size) :
    Calls Tryd.prog 9 #[.int .i64 n, msgV kd vw sq fr dg bd mc] w fun e w' => e = .returned (.bool (gB n kd vw sq fr dg bd mc)) ∧ Below w.heap.size w w' := by
  unfold msgV
  have HX : Hid (∀ W, Below (w.alloc (.cells #[.int .i64 kd, .int .i64 vw, .int .i64 sq, .int .i64 fr, .string dg, .string bd, .string mc] 24)).heap.size (w.alloc (.cells #[.int .i64 kd, .int .i64 vw, .int .i64 sq, .int .i64 fr, .string dg, .string bd, .string mc] 24)) W → (W.cell? ⟨w.heap.size, 0, none⟩ = some (.int .i64 kd) ∧ W.cell? ⟨w.heap.size, 1, none⟩ = some (.int .i64 vw) ∧ W.cell? ⟨w.heap.size, 2, none⟩ = some (.int .i64 sq) ∧ W.cell? ⟨w.heap.size, 3, none⟩ = some (.int .i64 fr) ∧ W.cell? ⟨w.heap.size, 4, none⟩ = some (.string dg) ∧ W.cell? ⟨w.heap.size, 5, none⟩ = some (.string bd) ∧ W.cell? ⟨w.heap.size, 6, none⟩ = some (.string mc)) ∧ Below w.heap.size w W) := fun W hW => by
    have h1 := (hW.block w.heap.size (by simp)).trans (heap_alloc_new w _)
    exact ⟨⟨(blk_cell h1 0 rfl).1, (blk_cell h1 1 rfl).1, (blk_cell h1 2 rfl).1, (blk_cell h1 3 rfl).1, (blk_cell h1 4 rfl).1, (blk_cell h1 5 rfl).1, (blk_cell h1 6 rfl).1⟩, (bel_new w _).trans (hW.mono (by simp))⟩
  have GK : Hid (KTab w ∧ 0 < w.heap.size) := ⟨hK, hp⟩
  clear hK hp
  have HOK : Hid (∀ W, Calls Tryd.prog 23 #[.agg #[.int .i64 kd, .int .i64 vw, .int .i64 sq, .int .i64 fr, .string dg, .string bd, .string mc]] W fun e w' => e = .returned (.bool (msgB kd vw sq fr dg bd mc)) ∧ Below W.heap.size W w') := fun W => implMessageOK_any kd vw sq fr dg bd mc W
  have HE : Hid (gB n kd vw sq fr dg bd mc = (decide (fCode n = 0) && lB n kd vw sq fr dg bd mc)) := rfl
  have HF : Hid (∀ W, Calls Tryd.prog 12 #[.int .i64 n] W fun e w' => e = .returned (.tuple #[.int .i64 (fOut n), .int .i64 (fCode n)]) ∧ W = w') := fun W => (implFaultsOf_any n W).mono fun _ _ h => ⟨h.1, h.2.symm⟩
  generalize fOut n = fo at HF
  by_cases hc : fCode n = 0
  · rw [decide_eq_true hc] at HE
    rw [hc] at HF
    clear hc
    by_cases hn : fr < n
    · have hn' : decide (fr < n) = true := decide_eq_true hn
      cases hq : msgB kd vw sq fr dg bd mc with
      | false =>
        have HE2 : Hid (gB n kd vw sq fr dg bd mc = false) := by show _ = _; rw [HE.out]; unfold lB; rw [hq]; rfl
        rw [hq] at HOK
        clear HE GK
        go_enter Tryd.func9, Tryd.ntmps9
        go_upto_region 2 with (go_at_call 12; refine (HF.out _).mono ?_; rintro e w1 ⟨rfl, rfl⟩)
        generalize w.alloc (.cells #[.int .i64 kd, .int .i64 vw, .int .i64 sq, .int .i64 fr, .string dg, .string bd, .string mc] 24) = wb at HX ⊢
        obtain ⟨X, hX, W, QI0, QO0⟩ := Qc.klass wb
        have QI : Hid (∀ w', Below wb.heap.size wb w' → ∃ x, w' = W x) := QI0
        have QO : Hid (∀ x, Below wb.heap.size wb (W x)) := QO0
        clear QI0 QO0
        have y0 := fun q => (HX.out _ (QO.out q)).1.1
        have y1 := fun q => (HX.out _ (QO.out q)).1.2.1
        have y2 := fun q => (HX.out _ (QO.out q)).1.2.2.1
        have y3 := fun q => (HX.out _ (QO.out q)).1.2.2.2.1
        have y4 := fun q => (HX.out _ (QO.out q)).1.2.2.2.2.1
        have y5 := fun q => (HX.out _ (QO.out q)).1.2.2.2.2.2.1
        have y6 := fun q => (HX.out _ (QO.out q)).1.2.2.2.2.2.2
        refine Qc.region_class (W := W) (by kernel_rfl) (by kernel_rfl) (QI.out _ Qc.from_drew) ?_
        repeat (go_big_quiet_step (first | (go_at_call 23; refine (HOK.out _).mono ?_; rintro e w2 ⟨rfl, b2⟩; exact ⟨rfl, Qc.back QI.out QO.out b2⟩)))
        refine wpQuiet_nil ?_
        rintro _ ⟨xq, rfl⟩
        have G2 : Hid (Below w.heap.size w (W xq)) := (HX.out _ (QO.out xq)).2
        clear y0 y1 y2 y3 y4 y5 y6
        generalize W xq = wq at G2 ⊢
        go_wp2_with fail
        go_ret
        exact ⟨ret_bool HE2.out.symm, G2.out⟩
      | true =>
        rw [hq] at HOK
        obtain ⟨i, rfl, hi⟩ := from_nat hq
        have HE2 : Hid (gB n kd vw sq i dg bd mc = (mc.toList == (mmk kd vw sq i dg bd).toList)) := by show _ = _; rw [HE.out]; unfold lB; rw [hq, hn', beq_sym]; rfl
        have HMM : Hid (∀ W, Below w.heap.size w W → Calls Tryd.prog 24 #[.agg #[.int .i64 kd, .int .i64 vw, .int .i64 sq, .int .i64 i, .string dg, .string bd, .string mc]] W fun e w' => e = .returned (.string (mmk kd vw sq i dg bd)) ∧ Below W.heap.size W w') := fun W hW => messageMark_any kd vw sq i dg bd mc W hi hq (GK.out.1.below hW GK.out.2) (Nat.lt_of_lt_of_le GK.out.2 hW.size)
        obtain ⟨mk, HMK⟩ : ∃ mk, Hid (mmk kd vw sq i dg bd = mk) := ⟨_, rfl⟩
        rw [HMK.out] at HMM HE2
        clear HE GK hq
        go_enter Tryd.func9, Tryd.ntmps9
        go_upto_region 2 with (go_at_call 12; refine (HF.out _).mono ?_; rintro e w1 ⟨rfl, rfl⟩)
        generalize w.alloc (.cells #[.int .i64 kd, .int .i64 vw, .int .i64 sq, .int .i64 i, .string dg, .string bd, .string mc] 24) = wb at HX ⊢
        obtain ⟨X, hX, W, QI0, QO0⟩ := Qc.klass wb
        have QI : Hid (∀ w', Below wb.heap.size wb w' → ∃ x, w' = W x) := QI0
        have QO : Hid (∀ x, Below wb.heap.size wb (W x)) := QO0
        clear QI0 QO0
        have y0 := fun q => (HX.out _ (QO.out q)).1.1
        have y1 := fun q => (HX.out _ (QO.out q)).1.2.1
        have y2 := fun q => (HX.out _ (QO.out q)).1.2.2.1
        have y3 := fun q => (HX.out _ (QO.out q)).1.2.2.2.1
        have y4 := fun q => (HX.out _ (QO.out q)).1.2.2.2.2.1
        have y5 := fun q => (HX.out _ (QO.out q)).1.2.2.2.2.2.1
        have y6 := fun q => (HX.out _ (QO.out q)).1.2.2.2.2.2.2
        have HM2 : Hid (∀ q, Calls Tryd.prog 24 #[.agg #[.int .i64 kd, .int .i64 vw, .int .i64 sq, .int .i64 i, .string dg, .string bd, .string mc]] (W q) fun e w' => e = .returned (.string mk) ∧ Below (W q).heap.size (W q) w') := fun q => HMM.out _ (HX.out _ (QO.out q)).2
        clear HMM
        refine Qc.region_class (W := W) (by kernel_rfl) (by kernel_rfl) (QI.out _ Qc.from_drew) ?_
        repeat (go_big_quiet_step (first | (go_at_call 23; refine (HOK.out _).mono ?_; rintro e w2 ⟨rfl, b2⟩; exact ⟨rfl, Qc.back QI.out QO.out b2⟩) | (go_at_call 24; refine (HM2.out _).mono ?_; rintro e w2 ⟨rfl, b2⟩; exact ⟨rfl, Qc.back QI.out QO.out b2⟩)))
        refine wpQuiet_nil ?_
        rintro _ ⟨xq, rfl⟩
        have G2 : Hid (Below w.heap.size w (W xq)) := (HX.out _ (QO.out xq)).2
        clear y0 y1 y2 y3 y4 y5 y6
        generalize W xq = wq at G2 ⊢
        go_wp2_with fail
        go_ret
        exact ⟨ret_bool HE2.out.symm, G2.out⟩
    · have hn' : decide (fr < n) = false := decide_eq_false hn
      have HE2 : Hid (gB n kd vw sq fr dg bd mc = false) := by show _ = _; rw [HE.out]; unfold lB; rw [hn']; cases msgB kd vw sq fr dg bd mc <;> rfl
      clear HE GK HOK
      go_enter Tryd.func9, Tryd.ntmps9
      go_upto_region 2 with (go_at_call 12; refine (HF.out _).mono ?_; rintro e w1 ⟨rfl, rfl⟩)
      generalize w.alloc (.cells #[.int .i64 kd, .int .i64 vw, .int .i64 sq, .int .i64 fr, .string dg, .string bd, .string mc] 24) = wb at HX ⊢
      obtain ⟨X, hX, W, QI0, QO0⟩ := Qc.klass wb
      have QI : Hid (∀ w', Below wb.heap.size wb w' → ∃ x, w' = W x) := QI0
      have QO : Hid (∀ x, Below wb.heap.size wb (W x)) := QO0
      clear QI0 QO0
      have y0 := fun q => (HX.out _ (QO.out q)).1.1
      have y1 := fun q => (HX.out _ (QO.out q)).1.2.1
      have y2 := fun q => (HX.out _ (QO.out q)).1.2.2.1
      have y3 := fun q => (HX.out _ (QO.out q)).1.2.2.2.1
      have y4 := fun q => (HX.out _ (QO.out q)).1.2.2.2.2.1
      have y5 := fun q => (HX.out _ (QO.out q)).1.2.2.2.2.2.1
      have y6 := fun q => (HX.out _ (QO.out q)).1.2.2.2.2.2.2
      refine Qc.region_class (W := W) (by kernel_rfl) (by kernel_rfl) (QI.out _ Qc.from_drew) ?_
      repeat (go_big_quiet_step (first | (go_at_call 23; refine (HX.out _).mono ?_; rintro e w2 ⟨rfl, b2⟩; exact ⟨rfl, Qc.back QI.out QO.out b2⟩)))
      refine wpQuiet_nil ?_
      rintro _ ⟨xq, rfl⟩
      have G2 : Hid (Below w.heap.size w (W xq)) := (HX.out _ (QO.out xq)).2
      clear y0 y1 y2 y3 y4 y5 y6
      generalize W xq = wq at G2 ⊢
      go_wp2_with fail
      go_ret
      exact ⟨ret_bool HE2.out.symm, G2.out⟩
  · rw [decide_eq_false hc] at HE
    have HE2 : Hid (gB n kd vw sq fr dg bd mc = false) := HE.out
    have h4 : fCode n = 4 := by
      rcases f_cases n with rfl | rfl | rfl | ⟨_, _, _, _, hd⟩
      · exact absurd rfl hc
      · exact absurd rfl hc
      · exact absurd rfl hc
      · exact hd
    rw [h4] at HF
    clear hc h4 HE GK HOK
    go_enter Tryd.func9, Tryd.ntmps9
    go_upto_region 2 with (go_at_call 12; refine (HF.out _).mono ?_; rintro e w1 ⟨rfl, rfl⟩)
    generalize w.alloc (.cells #[.int .i64 kd, .int .i64 vw, .int .i64 sq, .int .i64 fr, .string dg, .string bd, .string mc] 24) = wb at HX ⊢
    obtain ⟨X, hX, W, QI0, QO0⟩ := Qc.klass wb
    have QI : Hid (∀ w', Below wb.heap.size wb w' → ∃ x, w' = W x) := QI0
    have QO : Hid (∀ x, Below wb.heap.size wb (W x)) := QO0
    clear QI0 QO0
    have y0 := fun q => (HX.out _ (QO.out q)).1.1
    have y1 := fun q => (HX.out _ (QO.out q)).1.2.1
    have y2 := fun q => (HX.out _ (QO.out q)).1.2.2.1
    have y3 := fun q => (HX.out _ (QO.out q)).1.2.2.2.1
    have y4 := fun q => (HX.out _ (QO.out q)).1.2.2.2.2.1
    have y5 := fun q => (HX.out _ (QO.out q)).1.2.2.2.2.2.1
    have y6 := fun q => (HX.out _ (QO.out q)).1.2.2.2.2.2.2
    refine Qc.region_class (W := W) (by kernel_rfl) (by kernel_rfl) (QI.out _ Qc.from_drew) ?_
    repeat (go_big_quiet_step (first | (go_at_call 23; refine (HX.out _).mono ?_; rintro e w2 ⟨rfl, b2⟩; exact ⟨rfl, Qc.back QI.out QO.out b2⟩)))
    refine wpQuiet_nil ?_
    rintro _ ⟨xq, rfl⟩
    have G2 : Hid (Below w.heap.size w (W xq)) := (HX.out _ (QO.out xq)).2
    clear y0 y1 y2 y3 y4 y5 y6
    generalize W xq = wq at G2 ⊢
    go_wp2_with fail
    go_ret
    exact ⟨ret_bool HE2.out.symm, G2.out⟩
end Go.Proofs.YtdeologdmdimoaaDoor.Si

/- What a drawn message is when it is signed. -/
namespace Go.Proofs.YtdeologdmdimoaaDoor.Si
open Go.RowKit Go.Proofs.YtdeologdmdimoaaDoor.Sl Go.Proofs.YtdeologdmdimoaaDoor.By Go.Proofs.YtdeologdmdimoaaDoor.Rq Go.Proofs.YtdeologdmdimoaaDoor.Ap Go.Proofs.YtdeologdmdimoaaDoor.Sh Go.Proofs.YtdeologdmdimoaaDoor.Ho Go.Proofs.YtdeologdmdimoaaDoor.Mr Go.Proofs.YtdeologdmdimoaaDoor.Ms Go.Proofs.YtdeologdmdimoaaDoor.Mp Go.Proofs.YtdeologdmdimoaaDoor.Rp Go.Proofs.YtdeologdmdimoaaDoor.Pu

theorem sgn_ok {kd vw sq fr : Int} {dg bd mc : ByteArray} {i : Nat} (h : msgB kd vw sq fr dg bd mc = true) (hi : i < 4) :
    sCode (i : Int) kd vw sq dg bd = 0 ∧ sV (i : Int) kd vw sq dg bd = msgV kd vw sq i dg bd (mmk kd vw sq i dg bd) ∧ gB 4 kd vw sq i dg bd (mmk kd vw sq i dg bd) = true := by
  obtain ⟨hd, hb, _⟩ := Mp.msg_small h
  have h8 : msgB kd vw sq i dg bd b8 = true := by
    have e : inB (i : Int) 0 6 = true := decide_eq_true ⟨by omega, by omega⟩
    unfold msgB at h ⊢
    simp only [Bool.and_eq_true] at h
    rw [h.1, e, h.2.2.2.1, h.2.2.2.2]
    rfl
  have hi6 : inB (i : Int) 0 6 = true := decide_eq_true ⟨by omega, by omega⟩
  have ho : sOK (i : Int) kd vw sq dg bd = true := h8
  refine ⟨?_, ?_, ?_⟩
  · unfold sCode; rw [hi6, ho]; rfl
  · unfold sV; rw [hi6, ho]; rfl
  · unfold gB lB
    rw [msgB_mac kd vw sq i dg bd (mc' := b8) (mmk_size kd vw sq i dg bd hd hb), h8, decide_eq_true (show (i : Int) < 4 by omega)]
    show (decide _ && (true && (true && (_ == _)))) = true
    rw [decide_eq_true (show Tm.fCode 4 = 0 from rfl)]
    simp
end Go.Proofs.YtdeologdmdimoaaDoor.Si

/- From a slice of bytes that came in, as the row opens it, to what the walks ask. -/
namespace Go.Proofs.YtdeologdmdimoaaDoor.Sl
open Go.RowKit

/-- A slice of integers that came in: it is nil; or it leads to a row of 'cap' cells, the numbers 'zs' (the first 'len' are its elements), each fitting its kind. -/
def IsRow (k : IntKind) (w : World) (a : Option Addr) (len cap : Nat) (zs : List Int) : Prop :=
  (a = none ∧ len = 0 ∧ cap = 0 ∧ zs = []) ∨
  ∃ x, a = some x ∧ len ≤ cap ∧ cap ≤ maxLen ∧ zs.length = cap ∧ (∀ i, i < zs.length → w.cell? (x.add i) = some (.int k (zs.getD i 0))) ∧ ∀ n ∈ zs, (Lit.int k n).wf = true

theorem rowB_of {w : World} {a : Option Addr} {len cap : Nat} {zs : List Int} (h : IsRow .u8 w a len cap zs) : ∃ xs : List Int, xs.length = len ∧ RowB w (.slice a len cap) xs := by
  rcases h with ⟨rfl, rfl, rfl, rfl⟩ | ⟨x, rfl, hl, _, hz, hcell, hwz⟩
  · exact ⟨[], rfl, none, 0, rfl, .inl rfl, fun x hx => by cases hx⟩
  · have hlen : (zs.take len).length = len := by rw [List.length_take]; omega
    refine ⟨zs.take len, hlen, some x, cap, by rw [hlen], ?_, ?_⟩
    · by_cases h0 : len = 0
      · exact .inl (by rw [h0]; rfl)
      · obtain ⟨b, off, spot⟩ := x
        have hc := hcell 0 (by omega)
        have hspot : spot = none := by simpa [Addr.add] using World.cell?_spot hc
        subst hspot
        have hc0 : w.cell? ⟨b, off, none⟩ = some (.int .u8 (zs.getD 0 0)) := by simpa [Addr.add] using hc
        refine .inr ⟨b, off, rfl, by omega, World.block_lt_of_cell? w _ hc0, fun i hi => ?_⟩
        have h1 := hcell i (by omega)
        have h2 : (⟨b, off, none⟩ : Addr).add i = ⟨b, off + i, none⟩ := by unfold Addr.add; split <;> simp_all
        rw [h2] at h1
        rw [h1]
        unfold nth
        rw [List.getD_eq_getElem?_getD, List.getD_eq_getElem?_getD, List.getElem?_take_of_lt (by omega)]
    · intro n hn
      have := hwz n (List.mem_of_mem_take hn)
      simpa [Lit.wf, IntKind.min, IntKind.max, IntKind.signed, IntKind.bits] using this
end Go.Proofs.YtdeologdmdimoaaDoor.Sl
