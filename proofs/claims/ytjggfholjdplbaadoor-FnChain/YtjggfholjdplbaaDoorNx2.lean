/- The specification's SignNext. -/
import Derived.Test.YtjggfholjdplbaaDoorNx
import Derived.Deep.CutRange
import Derived.Deep.DeepCutAuto
namespace Go.Proofs.YtjggfholjdplbaaDoor.Nx
open Go.RowKit Go.Proofs.YtjggfholjdplbaaDoor.Sl Go.Proofs.YtjggfholjdplbaaDoor.By Go.Proofs.YtjggfholjdplbaaDoor.Ap Go.Proofs.YtjggfholjdplbaaDoor.Tx Go.Proofs.YtjggfholjdplbaaDoor.Sh Go.Proofs.YtjggfholjdplbaaDoor.Ho Go.Proofs.YtjggfholjdplbaaDoor.Se Go.Proofs.YtjggfholjdplbaaDoor.Ka Go.Proofs.YtjggfholjdplbaaDoor.Sx Go.Proofs.YtjggfholjdplbaaDoor.Hf Go.Proofs.YtjggfholjdplbaaDoor.Sa Go.Proofs.YtjggfholjdplbaaDoor.Kx Go.Proofs.YtjggfholjdplbaaDoor.Lv Go.Proofs.YtjggfholjdplbaaDoor.Cr Go.Proofs.YtjggfholjdplbaaDoor.Pa Go.Proofs.YtjggfholjdplbaaDoor.Mb Go.Proofs.YtjggfholjdplbaaDoor.Sg Go.Proofs.YtjggfholjdplbaaDoor.Ck

set_option maxRecDepth 100000 in
set_option maxHeartbeats 1600000 in
theorem specSignNext_any (s : ByteArray) (n : Int) (msg : ByteArray) (w : World) :
    Calls Tryd.prog 30 #[.agg #[.string s, .int .i64 n], .string msg] w fun e w' => ∃ va vb vc, e = .returned (.tuple #[.agg #[.string (nS s n msg), .int .i64 (nN s n msg)], .agg #[.int .i64 (nI s n msg), va, vb, vc], .int .i64 (nC s n msg)]) ∧ SigV w' w.heap.size va vb vc (nA s n msg) (nB s n msg) (nP s n msg) ∧ Below w.heap.size w w' := by
  by_cases hm : 65530 < msg.size
  · have HC : Hid (NC s n msg 2 ⟨#[]⟩ 0 0 [] [] []) := n_bad (if_pos hm) (by decide) (by decide)
    have hm' : (65530 : Int) < (msg.size : Int) := by omega
    go_enter Tryd.func30, Tryd.ntmps30
    go_wp2_with fail
    refine bodyPost_ret (v := .tuple #[.agg #[.string ⟨#[]⟩, .int .i64 0], .agg #[.int .i64 0, .slice none 0 0, .slice none 0 0, .slice none 0 0], .int .i64 2]) (by simp [results, Tryd.results30, go_sem]) rfl ⟨_, _, _, by rw [HC.out.1, HC.out.2.1, HC.out.2.2.1, HC.out.2.2.2.1], by rw [HC.out.2.2.2.2.1, HC.out.2.2.2.2.2.1, HC.out.2.2.2.2.2.2]; exact SigV.nil _ _, w3_bel w s n⟩
  · have hm' : ¬ (65530 : Int) < (msg.size : Int) := by omega
    have HM : Hid (msg.size ≤ 65530) := by show _ ≤ _; omega
    cases hc : ckB s n with
    | false =>
      have HC : Hid (NC s n msg 1 ⟨#[]⟩ 0 0 [] [] []) := n_bad (by unfold nC; rw [if_neg hm, hc]; rfl) (by decide) (by decide)
      go_enter Tryd.func30, Tryd.ntmps30
      go_wp2_with fail
      refine (specKeyChainOK_any s n (w3b w s n)).mono ?_
      rintro e w2 ⟨rfl, b2⟩
      rw [hc]
      obtain ⟨A0, A1, A2, G0, _⟩ := up3 b2
      clear b2
      obtain ⟨yc0, yf0⟩ := blk_cell A1 0 (x := .string ⟨#[]⟩) rfl
      obtain ⟨yc1, yf1⟩ := blk_cell A1 1 (x := .int .i64 0) rfl
      obtain ⟨zc0, zf0⟩ := blk_cell A2 0 (x := .int .i64 0) rfl
      obtain ⟨zc1, zf1⟩ := blk_cell A2 1 (x := .slice none 0 0) rfl
      obtain ⟨zc2, zf2⟩ := blk_cell A2 2 (x := .slice none 0 0) rfl
      obtain ⟨zc3, zf3⟩ := blk_cell A2 3 (x := .slice none 0 0) rfl
      have AF : ((((((w2.setCell ⟨w.heap.size + 1, 0, none⟩ (.string ⟨#[]⟩)).setCell ⟨w.heap.size + 1, 1, none⟩ (.int .i64 0)).setCell ⟨w.heap.size + 1 + 1, 0, none⟩ (.int .i64 0)).setCell ⟨w.heap.size + 1 + 1, 1, none⟩ (.slice none 0 0)).setCell ⟨w.heap.size + 1 + 1, 2, none⟩ (.slice none 0 0)).setCell ⟨w.heap.size + 1 + 1, 3, none⟩ (.slice none 0 0)).heap[w.heap.size + 1]? = some (.cells #[.string ⟨#[]⟩, .int .i64 0] 45 (0, 0)) := ((blk_far (by omega) 3 (.slice none 0 0)).trans ((blk_far (by omega) 2 (.slice none 0 0)).trans ((blk_far (by omega) 1 (.slice none 0 0)).trans ((blk_far (by omega) 0 (.int .i64 0)).trans (blk_set (blk_set A1 0 (.string ⟨#[]⟩)) 1 (.int .i64 0))))))
      have BF : ((((((w2.setCell ⟨w.heap.size + 1, 0, none⟩ (.string ⟨#[]⟩)).setCell ⟨w.heap.size + 1, 1, none⟩ (.int .i64 0)).setCell ⟨w.heap.size + 1 + 1, 0, none⟩ (.int .i64 0)).setCell ⟨w.heap.size + 1 + 1, 1, none⟩ (.slice none 0 0)).setCell ⟨w.heap.size + 1 + 1, 2, none⟩ (.slice none 0 0)).setCell ⟨w.heap.size + 1 + 1, 3, none⟩ (.slice none 0 0)).heap[w.heap.size + 1 + 1]? = some (.cells #[.int .i64 0, .slice none 0 0, .slice none 0 0, .slice none 0 0] 31 (0, 0)) := (blk_set (blk_set (blk_set (blk_set ((blk_far (by omega) 1 (.int .i64 0)).trans ((blk_far (by omega) 0 (.string ⟨#[]⟩)).trans A2)) 0 (.int .i64 0)) 1 (.slice none 0 0)) 2 (.slice none 0 0)) 3 (.slice none 0 0))
      have GF : Below w.heap.size w ((((((w2.setCell ⟨w.heap.size + 1, 0, none⟩ (.string ⟨#[]⟩)).setCell ⟨w.heap.size + 1, 1, none⟩ (.int .i64 0)).setCell ⟨w.heap.size + 1 + 1, 0, none⟩ (.int .i64 0)).setCell ⟨w.heap.size + 1 + 1, 1, none⟩ (.slice none 0 0)).setCell ⟨w.heap.size + 1 + 1, 2, none⟩ (.slice none 0 0)).setCell ⟨w.heap.size + 1 + 1, 3, none⟩ (.slice none 0 0)) := (Below.setCell (Below.setCell (Below.setCell (Below.setCell (Below.setCell (Below.setCell G0 (p := ⟨w.heap.size + 1, 0, none⟩) (by simp <;> omega) (.string ⟨#[]⟩)) (p := ⟨w.heap.size + 1, 1, none⟩) (by simp <;> omega) (.int .i64 0)) (p := ⟨w.heap.size + 1 + 1, 0, none⟩) (by simp <;> omega) (.int .i64 0)) (p := ⟨w.heap.size + 1 + 1, 1, none⟩) (by simp <;> omega) (.slice none 0 0)) (p := ⟨w.heap.size + 1 + 1, 2, none⟩) (by simp <;> omega) (.slice none 0 0)) (p := ⟨w.heap.size + 1 + 1, 3, none⟩) (by simp <;> omega) (.slice none 0 0))
      go_wp2_with fail
      generalize ((((((w2.setCell ⟨w.heap.size + 1, 0, none⟩ (.string ⟨#[]⟩)).setCell ⟨w.heap.size + 1, 1, none⟩ (.int .i64 0)).setCell ⟨w.heap.size + 1 + 1, 0, none⟩ (.int .i64 0)).setCell ⟨w.heap.size + 1 + 1, 1, none⟩ (.slice none 0 0)).setCell ⟨w.heap.size + 1 + 1, 2, none⟩ (.slice none 0 0)).setCell ⟨w.heap.size + 1 + 1, 3, none⟩ (.slice none 0 0)) = wf at AF BF GF ⊢
      have d0 := (blk_cell AF 0 (x := .string ⟨#[]⟩) rfl).1
      have d1 := (blk_cell AF 1 (x := .int .i64 0) rfl).1
      have e0 := (blk_cell BF 0 (x := .int .i64 0) rfl).1
      have e1 := (blk_cell BF 1 (x := .slice none 0 0) rfl).1
      have e2 := (blk_cell BF 2 (x := .slice none 0 0) rfl).1
      have e3 := (blk_cell BF 3 (x := .slice none 0 0) rfl).1
      refine bodyPost_ret (v := .tuple #[.agg #[.string ⟨#[]⟩, .int .i64 0], .agg #[.int .i64 0, .slice none 0 0, .slice none 0 0, .slice none 0 0], .int .i64 1]) (by simp [results, Tryd.results30, go_sem, d0, d1, e0, e1, e2, e3]) rfl ⟨_, _, _, by rw [HC.out.1, HC.out.2.1, HC.out.2.2.1, HC.out.2.2.2.1], by rw [HC.out.2.2.2.2.1, HC.out.2.2.2.2.2.1, HC.out.2.2.2.2.2.2]; exact SigV.nil _ _, GF⟩
    | true =>
      obtain ⟨c1, c2, c3⟩ := ck_good hc
      by_cases h8 : n = 8
      · have HC : Hid (NC s n msg 13 s n 0 [] [] []) := n_used (by unfold nC; rw [if_neg hm, hc, if_pos rfl, if_pos h8])
        have h8' : (n == 8) = true := by simpa using h8
        clear h8 c1 c2 c3
        go_enter Tryd.func30, Tryd.ntmps30
        go_wp2_with fail
        refine (specKeyChainOK_any s n (w3b w s n)).mono ?_
        rintro e w2 ⟨rfl, b2⟩
        rw [hc]
        obtain ⟨A0, A1, A2, G0, _⟩ := up3 b2
        have k0 := (blk_cell A0 0 (x := .string s) rfl).1
        have k1 := (blk_cell A0 1 (x := .int .i64 n) rfl).1
        clear b2
        obtain ⟨yc0, yf0⟩ := blk_cell A1 0 (x := .string ⟨#[]⟩) rfl
        obtain ⟨yc1, yf1⟩ := blk_cell A1 1 (x := .int .i64 0) rfl
        obtain ⟨zc0, zf0⟩ := blk_cell A2 0 (x := .int .i64 0) rfl
        obtain ⟨zc1, zf1⟩ := blk_cell A2 1 (x := .slice none 0 0) rfl
        obtain ⟨zc2, zf2⟩ := blk_cell A2 2 (x := .slice none 0 0) rfl
        obtain ⟨zc3, zf3⟩ := blk_cell A2 3 (x := .slice none 0 0) rfl
        have AF : ((((((w2.setCell ⟨w.heap.size + 1, 0, none⟩ (.string s)).setCell ⟨w.heap.size + 1, 1, none⟩ (.int .i64 n)).setCell ⟨w.heap.size + 1 + 1, 0, none⟩ (.int .i64 0)).setCell ⟨w.heap.size + 1 + 1, 1, none⟩ (.slice none 0 0)).setCell ⟨w.heap.size + 1 + 1, 2, none⟩ (.slice none 0 0)).setCell ⟨w.heap.size + 1 + 1, 3, none⟩ (.slice none 0 0)).heap[w.heap.size + 1]? = some (.cells #[.string s, .int .i64 n] 45 (0, 0)) := ((blk_far (by omega) 3 (.slice none 0 0)).trans ((blk_far (by omega) 2 (.slice none 0 0)).trans ((blk_far (by omega) 1 (.slice none 0 0)).trans ((blk_far (by omega) 0 (.int .i64 0)).trans (blk_set (blk_set A1 0 (.string s)) 1 (.int .i64 n))))))
        have BF : ((((((w2.setCell ⟨w.heap.size + 1, 0, none⟩ (.string s)).setCell ⟨w.heap.size + 1, 1, none⟩ (.int .i64 n)).setCell ⟨w.heap.size + 1 + 1, 0, none⟩ (.int .i64 0)).setCell ⟨w.heap.size + 1 + 1, 1, none⟩ (.slice none 0 0)).setCell ⟨w.heap.size + 1 + 1, 2, none⟩ (.slice none 0 0)).setCell ⟨w.heap.size + 1 + 1, 3, none⟩ (.slice none 0 0)).heap[w.heap.size + 1 + 1]? = some (.cells #[.int .i64 0, .slice none 0 0, .slice none 0 0, .slice none 0 0] 31 (0, 0)) := (blk_set (blk_set (blk_set (blk_set ((blk_far (by omega) 1 (.int .i64 n)).trans ((blk_far (by omega) 0 (.string s)).trans A2)) 0 (.int .i64 0)) 1 (.slice none 0 0)) 2 (.slice none 0 0)) 3 (.slice none 0 0))
        have GF : Below w.heap.size w ((((((w2.setCell ⟨w.heap.size + 1, 0, none⟩ (.string s)).setCell ⟨w.heap.size + 1, 1, none⟩ (.int .i64 n)).setCell ⟨w.heap.size + 1 + 1, 0, none⟩ (.int .i64 0)).setCell ⟨w.heap.size + 1 + 1, 1, none⟩ (.slice none 0 0)).setCell ⟨w.heap.size + 1 + 1, 2, none⟩ (.slice none 0 0)).setCell ⟨w.heap.size + 1 + 1, 3, none⟩ (.slice none 0 0)) := (Below.setCell (Below.setCell (Below.setCell (Below.setCell (Below.setCell (Below.setCell G0 (p := ⟨w.heap.size + 1, 0, none⟩) (by simp <;> omega) (.string s)) (p := ⟨w.heap.size + 1, 1, none⟩) (by simp <;> omega) (.int .i64 n)) (p := ⟨w.heap.size + 1 + 1, 0, none⟩) (by simp <;> omega) (.int .i64 0)) (p := ⟨w.heap.size + 1 + 1, 1, none⟩) (by simp <;> omega) (.slice none 0 0)) (p := ⟨w.heap.size + 1 + 1, 2, none⟩) (by simp <;> omega) (.slice none 0 0)) (p := ⟨w.heap.size + 1 + 1, 3, none⟩) (by simp <;> omega) (.slice none 0 0))
        go_wp2_with fail
        generalize ((((((w2.setCell ⟨w.heap.size + 1, 0, none⟩ (.string s)).setCell ⟨w.heap.size + 1, 1, none⟩ (.int .i64 n)).setCell ⟨w.heap.size + 1 + 1, 0, none⟩ (.int .i64 0)).setCell ⟨w.heap.size + 1 + 1, 1, none⟩ (.slice none 0 0)).setCell ⟨w.heap.size + 1 + 1, 2, none⟩ (.slice none 0 0)).setCell ⟨w.heap.size + 1 + 1, 3, none⟩ (.slice none 0 0)) = wf at AF BF GF ⊢
        have d0 := (blk_cell AF 0 (x := .string s) rfl).1
        have d1 := (blk_cell AF 1 (x := .int .i64 n) rfl).1
        have e0 := (blk_cell BF 0 (x := .int .i64 0) rfl).1
        have e1 := (blk_cell BF 1 (x := .slice none 0 0) rfl).1
        have e2 := (blk_cell BF 2 (x := .slice none 0 0) rfl).1
        have e3 := (blk_cell BF 3 (x := .slice none 0 0) rfl).1
        refine bodyPost_ret (v := .tuple #[.agg #[.string s, .int .i64 n], .agg #[.int .i64 0, .slice none 0 0, .slice none 0 0, .slice none 0 0], .int .i64 13]) (by simp [results, Tryd.results30, go_sem, d0, d1, e0, e1, e2, e3]) rfl ⟨_, _, _, by rw [HC.out.1, HC.out.2.1, HC.out.2.2.1, HC.out.2.2.2.1], by rw [HC.out.2.2.2.2.1, HC.out.2.2.2.2.2.1, HC.out.2.2.2.2.2.2]; exact SigV.nil _ _, GF⟩
      · have HC0 : NC s n msg 0 s (n + 1) n (onesTo s n.toNat (dig msg) 32) (restTo s n.toNat (dig msg) 32) (pathN 3 (keysTo s 8) n.toNat) := n_good (by unfold nC; rw [if_neg hm, hc, if_pos rfl, if_neg h8])
        have h8' : (n == 8) = false := by simpa using h8
        obtain ⟨n, rfl⟩ := Int.eq_ofNat_of_zero_le c2
        rw [Int.toNat_natCast] at HC0
        have HC : Hid (NC s n msg 0 s ((n : Int) + 1) n (onesTo s n (dig msg) 32) (restTo s n (dig msg) 32) (pathN 3 (keysTo s 8) n)) := HC0
        have HS : Hid (s.size ≤ 60000 ∧ n < 8) := ⟨by omega, by omega⟩
        have hn8 : (n : Int) < 8 := by omega
        clear h8 c1 c2 c3 HC0
        go_enter Tryd.func30, Tryd.ntmps30
        go_wp2_with fail
        refine (specKeyChainOK_any s n (w3b w s n)).mono ?_
        rintro e w2 ⟨rfl, b2⟩
        rw [hc]
        have B2 : Hid (Below (w3b w s n).heap.size (w3b w s n) w2) := b2
        obtain ⟨A0, A1, A2, G0, L2⟩ := up3 B2.out
        have k0 := (blk_cell A0 0 (x := .string s) rfl).1
        have k1 := (blk_cell A0 1 (x := .int .i64 (n : Int)) rfl).1
        clear b2 A1 A2 G0
        go_wp2_with fail
        refine (l03Sign_any s msg n w2 HS.out.1 HM.out HS.out.2).mono ?_
        rintro e w3 ⟨va, vb, vc, rfl, s3, b3⟩
        clear A0 k0 k1
        obtain ⟨A0, A1, A2, G0, _⟩ := up3 (B2.out.trans (b3.mono B2.out.size))
        have S2 := s3.mono (B' := w.heap.size + 1 + 1 + 1) L2
        obtain ⟨a1, c1, e1, _⟩ := s3.oa.row
        obtain ⟨a2, c2, e2, _⟩ := s3.ob.row
        obtain ⟨a3, c3, e3, _⟩ := s3.oc.row
        rw [onesTo_length] at e1
        rw [restTo_length] at e2
        rw [pathN_length] at e3
        subst e1 e2 e3
        have X3 := blk_new w3 #[.int .i64 (n : Int), .slice a1 32 c1, .slice a2 32 c2, .slice a3 3 c3] 31
        have L3 : w.heap.size + 1 + 1 + 1 ≤ w3.heap.size := Nat.le_trans L2 b3.size
        have M0 := (Below.heap_alloc w3 (.cells #[.int .i64 (n : Int), .slice a1 32 c1, .slice a2 32 c2, .slice a3 3 c3] 31) w.heap.size (by omega)).trans A0
        have M1 := (Below.heap_alloc w3 (.cells #[.int .i64 (n : Int), .slice a1 32 c1, .slice a2 32 c2, .slice a3 3 c3] 31) (w.heap.size + 1) (by omega)).trans A1
        have M2 := (Below.heap_alloc w3 (.cells #[.int .i64 (n : Int), .slice a1 32 c1, .slice a2 32 c2, .slice a3 3 c3] 31) (w.heap.size + 1 + 1) (by omega)).trans A2
        have G3 := G0.alloc (by omega) (.cells #[.int .i64 (n : Int), .slice a1 32 c1, .slice a2 32 c2, .slice a3 3 c3] 31)
        have S3 := S2.below (bel_new w3 (.cells #[.int .i64 (n : Int), .slice a1 32 c1, .slice a2 32 c2, .slice a3 3 c3] 31))
        obtain ⟨p, hpe⟩ : ∃ p, p = w3.heap.size := ⟨_, rfl⟩
        rw [← hpe] at X3 L3
        clear b3 s3 S2 G0 A0 A1 A2
        go_upto_region 8 with fail
        rw [← hpe]
        generalize (w3.alloc (.cells #[.int .i64 (n : Int), .slice a1 32 c1, .slice a2 32 c2, .slice a3 3 c3] 31)) = w4 at X3 M0 M1 M2 G3 S3 ⊢
        clear hpe
        obtain ⟨k0, kf0⟩ := blk_cell M0 0 (x := .string s) rfl
        obtain ⟨k1, kf1⟩ := blk_cell M0 1 (x := .int .i64 (n : Int)) rfl
        have N0 := blk_set M0 1 (.int .i64 ((n : Int) + 1))
        have N1 := (blk_far (w := w4) (b := w.heap.size) (k := w.heap.size + 1) (by omega) 1 (.int .i64 ((n : Int) + 1))).trans M1
        have N2 := (blk_far (w := w4) (b := w.heap.size) (k := w.heap.size + 1 + 1) (by omega) 1 (.int .i64 ((n : Int) + 1))).trans M2
        have NX := (blk_far (w := w4) (b := w.heap.size) (k := p) (by omega) 1 (.int .i64 ((n : Int) + 1))).trans X3
        have NG := Below.setCell G3 (p := ⟨w.heap.size, 1, none⟩) (Nat.le_refl _) (.int .i64 ((n : Int) + 1))
        have NS := SigV.set (j := 1) (x := .int .i64 ((n : Int) + 1)) S3 (p := w.heap.size) (by omega)
        clear G3 S3 M0 M1 M2 X3
        go_upto_region 9 with fail
        generalize w4.setCell ⟨w.heap.size, 1, none⟩ (.int .i64 ((n : Int) + 1)) = w5 at N0 N1 N2 NX NG NS ⊢
        have k0 := (blk_cell N0 0 (x := .string s) rfl).1
        have k1 := (blk_cell N0 1 (x := .int .i64 ((n : Int) + 1)) rfl).1
        have r0 := (blk_cell NX 0 (x := .int .i64 (n : Int)) rfl).1
        have r1 := (blk_cell NX 1 (x := .slice a1 32 c1) rfl).1
        have r2 := (blk_cell NX 2 (x := .slice a2 32 c2) rfl).1
        have r3 := (blk_cell NX 3 (x := .slice a3 3 c3) rfl).1
        obtain ⟨yc0, yf0⟩ := blk_cell N1 0 (x := .string ⟨#[]⟩) rfl
        obtain ⟨yc1, yf1⟩ := blk_cell N1 1 (x := .int .i64 0) rfl
        obtain ⟨zc0, zf0⟩ := blk_cell N2 0 (x := .int .i64 0) rfl
        obtain ⟨zc1, zf1⟩ := blk_cell N2 1 (x := .slice none 0 0) rfl
        obtain ⟨zc2, zf2⟩ := blk_cell N2 2 (x := .slice none 0 0) rfl
        obtain ⟨zc3, zf3⟩ := blk_cell N2 3 (x := .slice none 0 0) rfl
        have AF0 : ((((((w5.setCell ⟨w.heap.size + 1, 0, none⟩ (.string s)).setCell ⟨w.heap.size + 1, 1, none⟩ (.int .i64 ((n : Int) + 1))).setCell ⟨w.heap.size + 1 + 1, 0, none⟩ (.int .i64 (n : Int))).setCell ⟨w.heap.size + 1 + 1, 1, none⟩ (.slice a1 32 c1)).setCell ⟨w.heap.size + 1 + 1, 2, none⟩ (.slice a2 32 c2)).setCell ⟨w.heap.size + 1 + 1, 3, none⟩ (.slice a3 3 c3)).heap[w.heap.size + 1]? = some (.cells #[.string s, .int .i64 ((n : Int) + 1)] 45 (0, 0)) := ((blk_far (by omega) 3 (.slice a3 3 c3)).trans ((blk_far (by omega) 2 (.slice a2 32 c2)).trans ((blk_far (by omega) 1 (.slice a1 32 c1)).trans ((blk_far (by omega) 0 (.int .i64 (n : Int))).trans (blk_set (blk_set N1 0 (.string s)) 1 (.int .i64 ((n : Int) + 1)))))))
        have BF0 : ((((((w5.setCell ⟨w.heap.size + 1, 0, none⟩ (.string s)).setCell ⟨w.heap.size + 1, 1, none⟩ (.int .i64 ((n : Int) + 1))).setCell ⟨w.heap.size + 1 + 1, 0, none⟩ (.int .i64 (n : Int))).setCell ⟨w.heap.size + 1 + 1, 1, none⟩ (.slice a1 32 c1)).setCell ⟨w.heap.size + 1 + 1, 2, none⟩ (.slice a2 32 c2)).setCell ⟨w.heap.size + 1 + 1, 3, none⟩ (.slice a3 3 c3)).heap[w.heap.size + 1 + 1]? = some (.cells #[.int .i64 (n : Int), .slice a1 32 c1, .slice a2 32 c2, .slice a3 3 c3] 31 (0, 0)) := (blk_set (blk_set (blk_set (blk_set ((blk_far (by omega) 1 (.int .i64 ((n : Int) + 1))).trans ((blk_far (by omega) 0 (.string s)).trans N2)) 0 (.int .i64 (n : Int))) 1 (.slice a1 32 c1)) 2 (.slice a2 32 c2)) 3 (.slice a3 3 c3))
        have AF := drew_blk AF0
        have BF := drew_blk BF0
        have GF : Below w.heap.size w ((((((w5.setCell ⟨w.heap.size + 1, 0, none⟩ (.string s)).setCell ⟨w.heap.size + 1, 1, none⟩ (.int .i64 ((n : Int) + 1))).setCell ⟨w.heap.size + 1 + 1, 0, none⟩ (.int .i64 (n : Int))).setCell ⟨w.heap.size + 1 + 1, 1, none⟩ (.slice a1 32 c1)).setCell ⟨w.heap.size + 1 + 1, 2, none⟩ (.slice a2 32 c2)).setCell ⟨w.heap.size + 1 + 1, 3, none⟩ (.slice a3 3 c3)).drew := Below.drew (Below.setCell (Below.setCell (Below.setCell (Below.setCell (Below.setCell (Below.setCell NG (p := ⟨w.heap.size + 1, 0, none⟩) (by simp <;> omega) (.string s)) (p := ⟨w.heap.size + 1, 1, none⟩) (by simp <;> omega) (.int .i64 ((n : Int) + 1))) (p := ⟨w.heap.size + 1 + 1, 0, none⟩) (by simp <;> omega) (.int .i64 (n : Int))) (p := ⟨w.heap.size + 1 + 1, 1, none⟩) (by simp <;> omega) (.slice a1 32 c1)) (p := ⟨w.heap.size + 1 + 1, 2, none⟩) (by simp <;> omega) (.slice a2 32 c2)) (p := ⟨w.heap.size + 1 + 1, 3, none⟩) (by simp <;> omega) (.slice a3 3 c3))
        have SF : SigV ((((((w5.setCell ⟨w.heap.size + 1, 0, none⟩ (.string s)).setCell ⟨w.heap.size + 1, 1, none⟩ (.int .i64 ((n : Int) + 1))).setCell ⟨w.heap.size + 1 + 1, 0, none⟩ (.int .i64 (n : Int))).setCell ⟨w.heap.size + 1 + 1, 1, none⟩ (.slice a1 32 c1)).setCell ⟨w.heap.size + 1 + 1, 2, none⟩ (.slice a2 32 c2)).setCell ⟨w.heap.size + 1 + 1, 3, none⟩ (.slice a3 3 c3)).drew (w.heap.size + 1 + 1 + 1) (.slice a1 32 c1) (.slice a2 32 c2) (.slice a3 3 c3) (onesTo s n (dig msg) 32) (restTo s n (dig msg) 32) (pathN 3 (keysTo s 8) n) := SigV.drew (SigV.set (j := 3) (x := .slice a3 3 c3) (SigV.set (j := 2) (x := .slice a2 32 c2) (SigV.set (j := 1) (x := .slice a1 32 c1) (SigV.set (j := 0) (x := .int .i64 (n : Int)) (SigV.set (j := 1) (x := .int .i64 ((n : Int) + 1)) (SigV.set (j := 0) (x := .string s) NS (p := w.heap.size + 1) (by omega)) (p := w.heap.size + 1) (by omega)) (p := w.heap.size + 1 + 1) (by omega)) (p := w.heap.size + 1 + 1) (by omega)) (p := w.heap.size + 1 + 1) (by omega)) (p := w.heap.size + 1 + 1) (by omega))
        clear N0 N1 N2 NX NG NS AF0 BF0
        go_region
        all_goals
          go_wp2_with fail
          generalize ((((((w5.setCell ⟨w.heap.size + 1, 0, none⟩ (.string s)).setCell ⟨w.heap.size + 1, 1, none⟩ (.int .i64 ((n : Int) + 1))).setCell ⟨w.heap.size + 1 + 1, 0, none⟩ (.int .i64 (n : Int))).setCell ⟨w.heap.size + 1 + 1, 1, none⟩ (.slice a1 32 c1)).setCell ⟨w.heap.size + 1 + 1, 2, none⟩ (.slice a2 32 c2)).setCell ⟨w.heap.size + 1 + 1, 3, none⟩ (.slice a3 3 c3)).drew = wf at AF BF GF SF ⊢
          have d0 := (blk_cell AF 0 (x := .string s) rfl).1
          have d1 := (blk_cell AF 1 (x := .int .i64 ((n : Int) + 1)) rfl).1
          have e0 := (blk_cell BF 0 (x := .int .i64 (n : Int)) rfl).1
          have e1 := (blk_cell BF 1 (x := .slice a1 32 c1) rfl).1
          have e2 := (blk_cell BF 2 (x := .slice a2 32 c2) rfl).1
          have e3 := (blk_cell BF 3 (x := .slice a3 3 c3) rfl).1
          refine bodyPost_ret (v := .tuple #[.agg #[.string s, .int .i64 ((n : Int) + 1)], .agg #[.int .i64 (n : Int), .slice a1 32 c1, .slice a2 32 c2, .slice a3 3 c3], .int .i64 0]) (by simp [results, Tryd.results30, go_sem, d0, d1, e0, e1, e2, e3]) rfl ⟨_, _, _, by rw [HC.out.1, HC.out.2.1, HC.out.2.2.1, HC.out.2.2.2.1], by rw [HC.out.2.2.2.2.1, HC.out.2.2.2.2.2.1, HC.out.2.2.2.2.2.2]; exact SF.mono (by omega), GF⟩
end Go.Proofs.YtjggfholjdplbaaDoor.Nx
