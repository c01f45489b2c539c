/- SignAt, of the program and of the specification. -/
import Derived.Test.YtiflfcpoajijaaaGreatDoorJMakeCertificate23
namespace Go.Proofs.YtiflfcpoajijaaaGreatDoor.Sg
open Go.RowKit Go.Proofs.YtiflfcpoajijaaaGreatDoor.Sl Go.Proofs.YtiflfcpoajijaaaGreatDoor.By Go.Proofs.YtiflfcpoajijaaaGreatDoor.Ap Go.Proofs.YtiflfcpoajijaaaGreatDoor.Tx Go.Proofs.YtiflfcpoajijaaaGreatDoor.Sh Go.Proofs.YtiflfcpoajijaaaGreatDoor.Ho Go.Proofs.YtiflfcpoajijaaaGreatDoor.Se Go.Proofs.YtiflfcpoajijaaaGreatDoor.Ka Go.Proofs.YtiflfcpoajijaaaGreatDoor.Sx Go.Proofs.YtiflfcpoajijaaaGreatDoor.Hf Go.Proofs.YtiflfcpoajijaaaGreatDoor.Sa Go.Proofs.YtiflfcpoajijaaaGreatDoor.Kx Go.Proofs.YtiflfcpoajijaaaGreatDoor.Lv Go.Proofs.YtiflfcpoajijaaaGreatDoor.Cr Go.Proofs.YtiflfcpoajijaaaGreatDoor.Pa Go.Proofs.YtiflfcpoajijaaaGreatDoor.Mb Go.Proofs.YtiflfcpoajijaaaGreatDoor.Sg

/-- What SignAt answers. -/
def gC (s : ByteArray) (i : Int) (msg : ByteArray) : Int := if mbCode msg = 0 then kf s i else mbCode msg
def gI (s : ByteArray) (i : Int) (msg : ByteArray) : Int := if gC s i msg = 0 then i else 0
def gA (s : ByteArray) (i : Int) (msg : ByteArray) : List ByteArray := if gC s i msg = 0 then onesTo s i.toNat (dig msg) 32 else []
def gB (s : ByteArray) (i : Int) (msg : ByteArray) : List ByteArray := if gC s i msg = 0 then restTo s i.toNat (dig msg) 32 else []
def gP (s : ByteArray) (i : Int) (msg : ByteArray) : List ByteArray := if gC s i msg = 0 then pathN 3 (keysTo s 8) i.toNat else []
theorem g_bad {s : ByteArray} {i : Int} {msg : ByteArray} {c : Int} (h : gC s i msg = c) (hc : c ≠ 0) : gC s i msg = c ∧ gI s i msg = 0 ∧ gA s i msg = [] ∧ gB s i msg = [] ∧ gP s i msg = [] := by
  have h0 : ¬ gC s i msg = 0 := by rw [h]; exact hc
  exact ⟨h, if_neg h0, if_neg h0, if_neg h0, if_neg h0⟩
theorem g_good {s : ByteArray} {i : Int} {msg : ByteArray} (h : gC s i msg = 0) : gC s i msg = 0 ∧ gI s i msg = i ∧ gA s i msg = onesTo s i.toNat (dig msg) 32 ∧ gB s i msg = restTo s i.toNat (dig msg) 32 ∧ gP s i msg = pathN 3 (keysTo s 8) i.toNat :=
  ⟨h, if_pos h, if_pos h, if_pos h, if_pos h⟩
theorem gA_len (s : ByteArray) (i : Int) (msg : ByteArray) : (gA s i msg).length ≤ 32 := by unfold gA; split; rw [onesTo_length]; exact Nat.le_refl _; decide
theorem gB_len (s : ByteArray) (i : Int) (msg : ByteArray) : (gB s i msg).length ≤ 32 := by unfold gB; split; rw [restTo_length]; exact Nat.le_refl _; decide
theorem gP_len (s : ByteArray) (i : Int) (msg : ByteArray) : (gP s i msg).length ≤ 32 := by unfold gP; split; rw [pathN_length]; decide; decide
theorem w0_blk (w : World) : (w0 w).heap[w.heap.size]? = some (.cells #[.int .i64 0, .slice none 0 0, .slice none 0 0, .slice none 0 0] 37 (0, 0)) := blk_new _ _ _
theorem up0 {w w1 : World} (b : Below (w0 w).heap.size (w0 w) w1) : w1.heap[w.heap.size]? = some (.cells #[.int .i64 0, .slice none 0 0, .slice none 0 0, .slice none 0 0] 37 (0, 0)) ∧ Below w.heap.size w w1 :=
  ⟨(b.block w.heap.size (by rw [w0_size]; omega)).trans (w0_blk w), (w0_bel w).trans (b.mono (by rw [w0_size]; omega))⟩

set_option maxRecDepth 100000 in
set_option maxHeartbeats 800000 in
theorem implSignAt_any (s msg : ByteArray) (i : Int) (w : World) (hK : KTab w) (hp : 0 < w.heap.size) :
    Calls Tryz.prog 31 #[.string s, .int .i64 i, .string msg] w fun e w' => ∃ va vb vc, e = .returned (.tuple #[.agg #[.int .i64 (gI s i msg), va, vb, vc], .int .i64 (gC s i msg)]) ∧ SigV w' w.heap.size va vb vc (gA s i msg) (gB s i msg) (gP s i msg) ∧ Below w.heap.size w w' := by
  have H0 : Hid (KTab (w0 w) ∧ 0 < (w0 w).heap.size) := ⟨hK.below (w0_bel w) hp, by rw [w0_size]; omega⟩
  clear hK
  by_cases hm : 65530 < msg.size
  · have HC : Hid (gC s i msg = 2 ∧ gI s i msg = 0 ∧ gA s i msg = [] ∧ gB s i msg = [] ∧ gP s i msg = []) := g_bad (by unfold gC mbCode; rw [if_pos hm]; rfl) (by decide)
    have HM : Hid (mbOut msg = ⟨#[]⟩ ∧ mbCode msg = 2) := ⟨if_pos hm, if_pos hm⟩
    clear hm
    go_enter Tryz.func31, Tryz.ntmps31
    go_wp2_with fail
    refine (implMessageBits_any msg (w0 w) H0.out.1 H0.out.2).mono ?_
    rintro e w1 ⟨rfl, b1⟩
    rw [HM.out.1, HM.out.2]
    obtain ⟨A6, G6⟩ := up0 b1
    clear b1
    obtain ⟨zc0, zf0⟩ := blk_cell A6 0 (x := .int .i64 0) rfl
    obtain ⟨zc1, zf1⟩ := blk_cell A6 1 (x := .slice none 0 0) rfl
    obtain ⟨zc2, zf2⟩ := blk_cell A6 2 (x := .slice none 0 0) rfl
    obtain ⟨zc3, zf3⟩ := blk_cell A6 3 (x := .slice none 0 0) rfl
    have AF : ((((w1.setCell ⟨w.heap.size, 0, none⟩ (.int .i64 0)).setCell ⟨w.heap.size, 1, none⟩ (.slice none 0 0)).setCell ⟨w.heap.size, 2, none⟩ (.slice none 0 0)).setCell ⟨w.heap.size, 3, none⟩ (.slice none 0 0)).heap[w.heap.size]? = some (.cells #[.int .i64 0, .slice none 0 0, .slice none 0 0, .slice none 0 0] 37 (0, 0)) := (blk_set (blk_set (blk_set (blk_set A6 0 (.int .i64 0)) 1 (.slice none 0 0)) 2 (.slice none 0 0)) 3 (.slice none 0 0))
    have GF : Below w.heap.size w ((((w1.setCell ⟨w.heap.size, 0, none⟩ (.int .i64 0)).setCell ⟨w.heap.size, 1, none⟩ (.slice none 0 0)).setCell ⟨w.heap.size, 2, none⟩ (.slice none 0 0)).setCell ⟨w.heap.size, 3, none⟩ (.slice none 0 0)) := (Below.setCell (Below.setCell (Below.setCell (Below.setCell G6 (p := ⟨w.heap.size, 0, none⟩) (Nat.le_refl _) (.int .i64 0)) (p := ⟨w.heap.size, 1, none⟩) (Nat.le_refl _) (.slice none 0 0)) (p := ⟨w.heap.size, 2, none⟩) (Nat.le_refl _) (.slice none 0 0)) (p := ⟨w.heap.size, 3, none⟩) (Nat.le_refl _) (.slice none 0 0))
    go_wp2_with fail
    generalize ((((w1.setCell ⟨w.heap.size, 0, none⟩ (.int .i64 0)).setCell ⟨w.heap.size, 1, none⟩ (.slice none 0 0)).setCell ⟨w.heap.size, 2, none⟩ (.slice none 0 0)).setCell ⟨w.heap.size, 3, none⟩ (.slice none 0 0)) = wf at AF GF ⊢
    have d0 := (blk_cell AF 0 (x := .int .i64 0) rfl).1
    have d1 := (blk_cell AF 1 (x := .slice none 0 0) rfl).1
    have d2 := (blk_cell AF 2 (x := .slice none 0 0) rfl).1
    have d3 := (blk_cell AF 3 (x := .slice none 0 0) rfl).1
    refine bodyPost_ret (v := .tuple #[.agg #[.int .i64 0, .slice none 0 0, .slice none 0 0, .slice none 0 0], .int .i64 2]) (by simp [results, Tryz.results31, go_sem, d0, d1, d2, d3]) rfl ⟨_, _, _, by rw [HC.out.1, HC.out.2.1], by rw [HC.out.2.2.1, HC.out.2.2.2.1, HC.out.2.2.2.2]; exact SigV.nil _ _, GF⟩
  · have HM : Hid (mbOut msg = mbits msg ∧ mbCode msg = 0) := ⟨if_neg hm, if_neg hm⟩
    by_cases hk : kf s i = 0
    · obtain ⟨hsz, hi⟩ := kf_good hk
      have HC : Hid (gC s i msg = 0 ∧ gI s i msg = i ∧ gA s i msg = onesTo s i.toNat (dig msg) 32 ∧ gB s i msg = restTo s i.toNat (dig msg) 32 ∧ gP s i msg = pathN 3 (keysTo s 8) i.toNat) := g_good (by unfold gC; rw [HM.out.2, if_pos rfl]; exact hk)
      obtain ⟨i1, i2⟩ := inR_nat hi
      obtain ⟨i, rfl⟩ := Int.eq_ofNat_of_zero_le i1
      simp only [Int.toNat_natCast] at HC
      have HS : Hid (s.size ≤ 60000 ∧ i < 8) := ⟨by omega, by omega⟩
      clear hm hsz hi i1 i2
      go_enter Tryz.func31, Tryz.ntmps31
      go_wp2_with fail
      refine (implMessageBits_any msg (w0 w) H0.out.1 H0.out.2).mono ?_
      rintro e w1 ⟨rfl, b1⟩
      rw [HM.out.1, HM.out.2]
      have B1 : Hid (Below (w0 w).heap.size (w0 w) w1) := b1
      clear b1
      go_wp2_with fail
      refine (keyFault_any s _ w1).mono ?_
      rintro e w2 ⟨rfl, rfl⟩
      rw [hk]
      go_wp2_with fail
      refine (signBits_any s msg i w1 HS.out.1 HS.out.2 (H0.out.1.below B1.out H0.out.2) (Nat.lt_of_lt_of_le H0.out.2 B1.out.size)).mono ?_
      rintro e w2 ⟨va, vb, vc, rfl, s2, b2⟩
      obtain ⟨A6, G6⟩ := up0 (B1.out.trans (b2.mono B1.out.size))
      have S2 := s2.mono (B' := w.heap.size + 1) (by have := B1.out.size; rw [w0_size] at this; exact this)
      obtain ⟨a1, c1, e1, _⟩ := s2.oa.row
      obtain ⟨a2, c2, e2, _⟩ := s2.ob.row
      obtain ⟨a3, c3, e3, _⟩ := s2.oc.row
      rw [onesTo_length] at e1
      rw [restTo_length] at e2
      rw [pathN_length] at e3
      subst e1 e2 e3
      clear b2 s2
      obtain ⟨zc0, zf0⟩ := blk_cell A6 0 (x := .int .i64 0) rfl
      obtain ⟨zc1, zf1⟩ := blk_cell A6 1 (x := .slice none 0 0) rfl
      obtain ⟨zc2, zf2⟩ := blk_cell A6 2 (x := .slice none 0 0) rfl
      obtain ⟨zc3, zf3⟩ := blk_cell A6 3 (x := .slice none 0 0) rfl
      have AF : ((((w2.setCell ⟨w.heap.size, 0, none⟩ (.int .i64 (i : Int))).setCell ⟨w.heap.size, 1, none⟩ (.slice a1 32 c1)).setCell ⟨w.heap.size, 2, none⟩ (.slice a2 32 c2)).setCell ⟨w.heap.size, 3, none⟩ (.slice a3 3 c3)).heap[w.heap.size]? = some (.cells #[.int .i64 (i : Int), .slice a1 32 c1, .slice a2 32 c2, .slice a3 3 c3] 37 (0, 0)) := (blk_set (blk_set (blk_set (blk_set A6 0 (.int .i64 (i : Int))) 1 (.slice a1 32 c1)) 2 (.slice a2 32 c2)) 3 (.slice a3 3 c3))
      have GF : Below w.heap.size w ((((w2.setCell ⟨w.heap.size, 0, none⟩ (.int .i64 (i : Int))).setCell ⟨w.heap.size, 1, none⟩ (.slice a1 32 c1)).setCell ⟨w.heap.size, 2, none⟩ (.slice a2 32 c2)).setCell ⟨w.heap.size, 3, none⟩ (.slice a3 3 c3)) := (Below.setCell (Below.setCell (Below.setCell (Below.setCell G6 (p := ⟨w.heap.size, 0, none⟩) (Nat.le_refl _) (.int .i64 (i : Int))) (p := ⟨w.heap.size, 1, none⟩) (Nat.le_refl _) (.slice a1 32 c1)) (p := ⟨w.heap.size, 2, none⟩) (Nat.le_refl _) (.slice a2 32 c2)) (p := ⟨w.heap.size, 3, none⟩) (Nat.le_refl _) (.slice a3 3 c3))
      have SF := (SigV.set (j := 3) (x := .slice a3 3 c3) (SigV.set (j := 2) (x := .slice a2 32 c2) (SigV.set (j := 1) (x := .slice a1 32 c1) (SigV.set (j := 0) (x := .int .i64 (i : Int)) S2 (Nat.lt_succ_self _)) (Nat.lt_succ_self _)) (Nat.lt_succ_self _)) (Nat.lt_succ_self _))
      go_wp2_with fail
      generalize ((((w2.setCell ⟨w.heap.size, 0, none⟩ (.int .i64 (i : Int))).setCell ⟨w.heap.size, 1, none⟩ (.slice a1 32 c1)).setCell ⟨w.heap.size, 2, none⟩ (.slice a2 32 c2)).setCell ⟨w.heap.size, 3, none⟩ (.slice a3 3 c3)) = wf at AF GF SF ⊢
      have d0 := (blk_cell AF 0 (x := .int .i64 (i : Int)) rfl).1
      have d1 := (blk_cell AF 1 (x := .slice a1 32 c1) rfl).1
      have d2 := (blk_cell AF 2 (x := .slice a2 32 c2) rfl).1
      have d3 := (blk_cell AF 3 (x := .slice a3 3 c3) rfl).1
      refine bodyPost_ret (v := .tuple #[.agg #[.int .i64 (i : Int), .slice a1 32 c1, .slice a2 32 c2, .slice a3 3 c3], .int .i64 0]) (by simp [results, Tryz.results31, go_sem, d0, d1, d2, d3]) rfl ⟨_, _, _, by rw [HC.out.1, HC.out.2.1], by rw [HC.out.2.2.1, HC.out.2.2.2.1, HC.out.2.2.2.2]; exact SF.mono (by omega), GF⟩
    · have HC : Hid (gC s i msg = kf s i ∧ gI s i msg = 0 ∧ gA s i msg = [] ∧ gB s i msg = [] ∧ gP s i msg = []) := g_bad (by unfold gC; rw [HM.out.2, if_pos rfl]) hk
      have hk' : (kf s i != 0) = true := by simpa using hk
      clear hm hk
      go_enter Tryz.func31, Tryz.ntmps31
      go_wp2_with fail
      refine (implMessageBits_any msg (w0 w) H0.out.1 H0.out.2).mono ?_
      rintro e w1 ⟨rfl, b1⟩
      rw [HM.out.1, HM.out.2]
      obtain ⟨A6, G6⟩ := up0 b1
      clear b1
      go_wp2_with fail
      refine (keyFault_any s _ w1).mono ?_
      rintro e w2 ⟨rfl, rfl⟩
      obtain ⟨zc0, zf0⟩ := blk_cell A6 0 (x := .int .i64 0) rfl
      obtain ⟨zc1, zf1⟩ := blk_cell A6 1 (x := .slice none 0 0) rfl
      obtain ⟨zc2, zf2⟩ := blk_cell A6 2 (x := .slice none 0 0) rfl
      obtain ⟨zc3, zf3⟩ := blk_cell A6 3 (x := .slice none 0 0) rfl
      have AF : ((((w1.setCell ⟨w.heap.size, 0, none⟩ (.int .i64 0)).setCell ⟨w.heap.size, 1, none⟩ (.slice none 0 0)).setCell ⟨w.heap.size, 2, none⟩ (.slice none 0 0)).setCell ⟨w.heap.size, 3, none⟩ (.slice none 0 0)).heap[w.heap.size]? = some (.cells #[.int .i64 0, .slice none 0 0, .slice none 0 0, .slice none 0 0] 37 (0, 0)) := (blk_set (blk_set (blk_set (blk_set A6 0 (.int .i64 0)) 1 (.slice none 0 0)) 2 (.slice none 0 0)) 3 (.slice none 0 0))
      have GF : Below w.heap.size w ((((w1.setCell ⟨w.heap.size, 0, none⟩ (.int .i64 0)).setCell ⟨w.heap.size, 1, none⟩ (.slice none 0 0)).setCell ⟨w.heap.size, 2, none⟩ (.slice none 0 0)).setCell ⟨w.heap.size, 3, none⟩ (.slice none 0 0)) := (Below.setCell (Below.setCell (Below.setCell (Below.setCell G6 (p := ⟨w.heap.size, 0, none⟩) (Nat.le_refl _) (.int .i64 0)) (p := ⟨w.heap.size, 1, none⟩) (Nat.le_refl _) (.slice none 0 0)) (p := ⟨w.heap.size, 2, none⟩) (Nat.le_refl _) (.slice none 0 0)) (p := ⟨w.heap.size, 3, none⟩) (Nat.le_refl _) (.slice none 0 0))
      go_wp2_with fail
      generalize ((((w1.setCell ⟨w.heap.size, 0, none⟩ (.int .i64 0)).setCell ⟨w.heap.size, 1, none⟩ (.slice none 0 0)).setCell ⟨w.heap.size, 2, none⟩ (.slice none 0 0)).setCell ⟨w.heap.size, 3, none⟩ (.slice none 0 0)) = wf at AF GF ⊢
      have d0 := (blk_cell AF 0 (x := .int .i64 0) rfl).1
      have d1 := (blk_cell AF 1 (x := .slice none 0 0) rfl).1
      have d2 := (blk_cell AF 2 (x := .slice none 0 0) rfl).1
      have d3 := (blk_cell AF 3 (x := .slice none 0 0) rfl).1
      refine bodyPost_ret (v := .tuple #[.agg #[.int .i64 0, .slice none 0 0, .slice none 0 0, .slice none 0 0], .int .i64 (kf s i)]) (by simp [results, Tryz.results31, go_sem, d0, d1, d2, d3]) rfl ⟨_, _, _, by rw [HC.out.1, HC.out.2.1], by rw [HC.out.2.2.1, HC.out.2.2.2.1, HC.out.2.2.2.2]; exact SigV.nil _ _, GF⟩

end Go.Proofs.YtiflfcpoajijaaaGreatDoor.Sg
