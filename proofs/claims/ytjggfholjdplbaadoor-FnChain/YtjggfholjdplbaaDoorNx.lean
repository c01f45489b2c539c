/- SignNext, of the program and of the specification. -/
import Derived.Test.YtjggfholjdplbaaDoorAt
import Derived.Test.YtjggfholjdplbaaDoorCk
import Derived.Deep.CutRange
import Derived.Deep.DeepCutAuto
namespace Go.Proofs.YtjggfholjdplbaaDoor.Nx
open Go.RowKit Go.Proofs.YtjggfholjdplbaaDoor.Sl Go.Proofs.YtjggfholjdplbaaDoor.By Go.Proofs.YtjggfholjdplbaaDoor.Ap Go.Proofs.YtjggfholjdplbaaDoor.Tx Go.Proofs.YtjggfholjdplbaaDoor.Sh Go.Proofs.YtjggfholjdplbaaDoor.Ho Go.Proofs.YtjggfholjdplbaaDoor.Se Go.Proofs.YtjggfholjdplbaaDoor.Ka Go.Proofs.YtjggfholjdplbaaDoor.Sx Go.Proofs.YtjggfholjdplbaaDoor.Hf Go.Proofs.YtjggfholjdplbaaDoor.Sa Go.Proofs.YtjggfholjdplbaaDoor.Kx Go.Proofs.YtjggfholjdplbaaDoor.Lv Go.Proofs.YtjggfholjdplbaaDoor.Cr Go.Proofs.YtjggfholjdplbaaDoor.Pa Go.Proofs.YtjggfholjdplbaaDoor.Mb Go.Proofs.YtjggfholjdplbaaDoor.Sg Go.Proofs.YtjggfholjdplbaaDoor.Ck

/-- What SignNext answers. -/
def nC (s : ByteArray) (n : Int) (msg : ByteArray) : Int := if 65530 < msg.size then 2 else if ckB s n then (if n = 8 then 13 else 0) else 1
def nS (s : ByteArray) (n : Int) (msg : ByteArray) : ByteArray := if nC s n msg = 0 ∨ nC s n msg = 13 then s else ⟨#[]⟩
def nN (s : ByteArray) (n : Int) (msg : ByteArray) : Int := if nC s n msg = 0 then n + 1 else if nC s n msg = 13 then n else 0
def nI (s : ByteArray) (n : Int) (msg : ByteArray) : Int := if nC s n msg = 0 then n else 0
def nA (s : ByteArray) (n : Int) (msg : ByteArray) : List ByteArray := if nC s n msg = 0 then onesTo s n.toNat (dig msg) 32 else []
def nB (s : ByteArray) (n : Int) (msg : ByteArray) : List ByteArray := if nC s n msg = 0 then restTo s n.toNat (dig msg) 32 else []
def nP (s : ByteArray) (n : Int) (msg : ByteArray) : List ByteArray := if nC s n msg = 0 then pathN 3 (keysTo s 8) n.toNat else []
theorem nA_len (s : ByteArray) (i : Int) (msg : ByteArray) : (nA s i msg).length ≤ 32 := by unfold nA; split; rw [onesTo_length]; exact Nat.le_refl _; decide
theorem nB_len (s : ByteArray) (i : Int) (msg : ByteArray) : (nB s i msg).length ≤ 32 := by unfold nB; split; rw [restTo_length]; exact Nat.le_refl _; decide
theorem nP_len (s : ByteArray) (i : Int) (msg : ByteArray) : (nP s i msg).length ≤ 32 := by unfold nP; split; rw [pathN_length]; decide; decide
def NC (s : ByteArray) (n : Int) (msg : ByteArray) (c : Int) (s' : ByteArray) (n' i' : Int) (ta tb tc : List ByteArray) : Prop := nS s n msg = s' ∧ nN s n msg = n' ∧ nI s n msg = i' ∧ nC s n msg = c ∧ nA s n msg = ta ∧ nB s n msg = tb ∧ nP s n msg = tc
theorem n_bad {s : ByteArray} {n : Int} {msg : ByteArray} {c : Int} (h : nC s n msg = c) (h0 : c ≠ 0) (h1 : c ≠ 13) : NC s n msg c ⟨#[]⟩ 0 0 [] [] [] := by
  have e0 : ¬ nC s n msg = 0 := by rw [h]; exact h0
  have e1 : ¬ nC s n msg = 13 := by rw [h]; exact h1
  refine ⟨if_neg (fun x => x.elim e0 e1), ?_, if_neg e0, h, if_neg e0, if_neg e0, if_neg e0⟩
  unfold nN
  rw [if_neg e0, if_neg e1]
theorem n_used {s : ByteArray} {n : Int} {msg : ByteArray} (h : nC s n msg = 13) : NC s n msg 13 s n 0 [] [] [] := by
  have e0 : ¬ nC s n msg = 0 := by rw [h]; decide
  refine ⟨if_pos (.inr h), ?_, if_neg e0, h, if_neg e0, if_neg e0, if_neg e0⟩
  unfold nN
  rw [if_neg e0, if_pos h]
theorem n_good {s : ByteArray} {n : Int} {msg : ByteArray} (h : nC s n msg = 0) : NC s n msg 0 s (n + 1) n (onesTo s n.toNat (dig msg) 32) (restTo s n.toNat (dig msg) 32) (pathN 3 (keysTo s 8) n.toNat) :=
  ⟨if_pos (.inl h), if_pos h, if_pos h, h, if_pos h, if_pos h, if_pos h⟩
/-- The chain's box and the two results' blocks. -/
def w3b (w : World) (s : ByteArray) (n : Int) : World := ((w.alloc (.cells #[.string s, .int .i64 n] 45)).alloc (.cells #[.string ⟨#[]⟩, .int .i64 0] 45)).alloc (.cells #[.int .i64 0, .slice none 0 0, .slice none 0 0, .slice none 0 0] 31)
theorem w3_size (w : World) (s : ByteArray) (n : Int) : (w3b w s n).heap.size = w.heap.size + 1 + 1 + 1 := by unfold w3b; rw [size_new, size_new, size_new]
theorem w3_bel (w : World) (s : ByteArray) (n : Int) : Below w.heap.size w (w3b w s n) := by
  have h1 := bel_new w (.cells #[.string s, .int .i64 n] 45)
  have h2 := h1.alloc h1.size (.cells #[.string ⟨#[]⟩, .int .i64 0] 45)
  exact h2.alloc h2.size _
theorem w3_blk (w : World) (s : ByteArray) (n : Int) : (w3b w s n).heap[w.heap.size]? = some (.cells #[.string s, .int .i64 n] 45 (0, 0)) ∧ (w3b w s n).heap[w.heap.size + 1]? = some (.cells #[.string ⟨#[]⟩, .int .i64 0] 45 (0, 0)) ∧ (w3b w s n).heap[w.heap.size + 1 + 1]? = some (.cells #[.int .i64 0, .slice none 0 0, .slice none 0 0, .slice none 0 0] 31 (0, 0)) := by
  have s1 := size_new w (.cells #[.string s, .int .i64 n] 45)
  have s2 := size_new (w.alloc (.cells #[.string s, .int .i64 n] 45)) (.cells #[.string ⟨#[]⟩, .int .i64 0] 45)
  have e1 := blk_new w #[.string s, .int .i64 n] 45
  have e2 := blk_new (w.alloc (.cells #[.string s, .int .i64 n] 45)) #[.string ⟨#[]⟩, .int .i64 0] 45
  have e3 := blk_new ((w.alloc (.cells #[.string s, .int .i64 n] 45)).alloc (.cells #[.string ⟨#[]⟩, .int .i64 0] 45)) #[.int .i64 0, .slice none 0 0, .slice none 0 0, .slice none 0 0] 31
  rw [s1] at e2
  rw [s2, s1] at e3
  exact ⟨(Below.heap_alloc _ _ _ (by omega)).trans ((Below.heap_alloc _ _ _ (by omega)).trans e1), (Below.heap_alloc _ _ _ (by omega)).trans e2, e3⟩
theorem up3 {w w1 : World} {s : ByteArray} {n : Int} (b : Below (w3b w s n).heap.size (w3b w s n) w1) : w1.heap[w.heap.size]? = some (.cells #[.string s, .int .i64 n] 45 (0, 0)) ∧ w1.heap[w.heap.size + 1]? = some (.cells #[.string ⟨#[]⟩, .int .i64 0] 45 (0, 0)) ∧ w1.heap[w.heap.size + 1 + 1]? = some (.cells #[.int .i64 0, .slice none 0 0, .slice none 0 0, .slice none 0 0] 31 (0, 0)) ∧ Below w.heap.size w w1 ∧ w.heap.size + 1 + 1 + 1 ≤ w1.heap.size := by
  have hs := w3_size w s n
  obtain ⟨h1, h2, h3⟩ := w3_blk w s n
  exact ⟨(b.block _ (by omega)).trans h1, (b.block _ (by omega)).trans h2, (b.block _ (by omega)).trans h3, (w3_bel w s n).trans (b.mono (by omega)), by have := b.size; omega⟩
theorem ck_good {s : ByteArray} {n : Int} (h : ckB s n = true) : s.size = 32 ∧ 0 ≤ n ∧ n ≤ 8 := by
  rcases ck_cases s n with ⟨_, e⟩ | ⟨_, _, e⟩ | ⟨_, _, _, e⟩ | ⟨h1, h2, h3, _⟩
  · rw [e] at h; cases h
  · rw [e] at h; cases h
  · rw [e] at h; cases h
  · exact ⟨h1, h2, h3⟩

theorem drew_blk {w : World} {b : Nat} {o : Obj} (h : w.heap[b]? = some o) : w.drew.heap[b]? = some o := h
theorem SigV.drew {w : World} {B : Nat} {va vb vc : Value} {ta tb tc : List ByteArray} (h : SigV w B va vb vc ta tb tc) : SigV w.drew B va vb vc ta tb tc := ⟨h.oa, h.ob, h.oc, h.ab, h.ac, h.bc⟩
set_option maxRecDepth 100000 in
set_option maxHeartbeats 1600000 in
theorem implSignNext_any (s : ByteArray) (n : Int) (msg : ByteArray) (w : World) (hK : KTab w) (hp : 0 < w.heap.size) :
    Calls Tryd.prog 32 #[.agg #[.string s, .int .i64 n], .string msg] w fun e w' => ∃ va vb vc, e = .returned (.tuple #[.agg #[.string (nS s n msg), .int .i64 (nN s n msg)], .agg #[.int .i64 (nI s n msg), va, vb, vc], .int .i64 (nC s n msg)]) ∧ SigV w' w.heap.size va vb vc (nA s n msg) (nB s n msg) (nP s n msg) ∧ Below w.heap.size w w' := by
  have H0 : Hid (KTab (w3b w s n) ∧ 0 < (w3b w s n).heap.size) := ⟨hK.below (w3_bel w s n) hp, by rw [w3_size]; omega⟩
  clear hK
  by_cases hm : 65530 < msg.size
  · have HC : Hid (NC s n msg 2 ⟨#[]⟩ 0 0 [] [] []) := n_bad (if_pos hm) (by decide) (by decide)
    have HM : Hid (mbOut msg = ⟨#[]⟩ ∧ mbCode msg = 2) := ⟨if_pos hm, if_pos hm⟩
    clear hm
    go_enter Tryd.func32, Tryd.ntmps32
    go_wp2_with fail
    refine (implMessageBits_any msg (w3b w s n) H0.out.1 H0.out.2).mono ?_
    rintro e w1 ⟨rfl, b1⟩
    rw [HM.out.1, HM.out.2]
    obtain ⟨A0, A1, A2, G0, _⟩ := up3 b1
    clear b1
    obtain ⟨yc0, yf0⟩ := blk_cell A1 0 (x := .string ⟨#[]⟩) rfl
    obtain ⟨yc1, yf1⟩ := blk_cell A1 1 (x := .int .i64 0) rfl
    obtain ⟨zc0, zf0⟩ := blk_cell A2 0 (x := .int .i64 0) rfl
    obtain ⟨zc1, zf1⟩ := blk_cell A2 1 (x := .slice none 0 0) rfl
    obtain ⟨zc2, zf2⟩ := blk_cell A2 2 (x := .slice none 0 0) rfl
    obtain ⟨zc3, zf3⟩ := blk_cell A2 3 (x := .slice none 0 0) rfl
    have AF : ((((((w1.setCell ⟨w.heap.size + 1, 0, none⟩ (.string ⟨#[]⟩)).setCell ⟨w.heap.size + 1, 1, none⟩ (.int .i64 0)).setCell ⟨w.heap.size + 1 + 1, 0, none⟩ (.int .i64 0)).setCell ⟨w.heap.size + 1 + 1, 1, none⟩ (.slice none 0 0)).setCell ⟨w.heap.size + 1 + 1, 2, none⟩ (.slice none 0 0)).setCell ⟨w.heap.size + 1 + 1, 3, none⟩ (.slice none 0 0)).heap[w.heap.size + 1]? = some (.cells #[.string ⟨#[]⟩, .int .i64 0] 45 (0, 0)) := ((blk_far (by omega) 3 (.slice none 0 0)).trans ((blk_far (by omega) 2 (.slice none 0 0)).trans ((blk_far (by omega) 1 (.slice none 0 0)).trans ((blk_far (by omega) 0 (.int .i64 0)).trans (blk_set (blk_set A1 0 (.string ⟨#[]⟩)) 1 (.int .i64 0))))))
    have BF : ((((((w1.setCell ⟨w.heap.size + 1, 0, none⟩ (.string ⟨#[]⟩)).setCell ⟨w.heap.size + 1, 1, none⟩ (.int .i64 0)).setCell ⟨w.heap.size + 1 + 1, 0, none⟩ (.int .i64 0)).setCell ⟨w.heap.size + 1 + 1, 1, none⟩ (.slice none 0 0)).setCell ⟨w.heap.size + 1 + 1, 2, none⟩ (.slice none 0 0)).setCell ⟨w.heap.size + 1 + 1, 3, none⟩ (.slice none 0 0)).heap[w.heap.size + 1 + 1]? = some (.cells #[.int .i64 0, .slice none 0 0, .slice none 0 0, .slice none 0 0] 31 (0, 0)) := (blk_set (blk_set (blk_set (blk_set ((blk_far (by omega) 1 (.int .i64 0)).trans ((blk_far (by omega) 0 (.string ⟨#[]⟩)).trans A2)) 0 (.int .i64 0)) 1 (.slice none 0 0)) 2 (.slice none 0 0)) 3 (.slice none 0 0))
    have GF : Below w.heap.size w ((((((w1.setCell ⟨w.heap.size + 1, 0, none⟩ (.string ⟨#[]⟩)).setCell ⟨w.heap.size + 1, 1, none⟩ (.int .i64 0)).setCell ⟨w.heap.size + 1 + 1, 0, none⟩ (.int .i64 0)).setCell ⟨w.heap.size + 1 + 1, 1, none⟩ (.slice none 0 0)).setCell ⟨w.heap.size + 1 + 1, 2, none⟩ (.slice none 0 0)).setCell ⟨w.heap.size + 1 + 1, 3, none⟩ (.slice none 0 0)) := (Below.setCell (Below.setCell (Below.setCell (Below.setCell (Below.setCell (Below.setCell G0 (p := ⟨w.heap.size + 1, 0, none⟩) (by simp <;> omega) (.string ⟨#[]⟩)) (p := ⟨w.heap.size + 1, 1, none⟩) (by simp <;> omega) (.int .i64 0)) (p := ⟨w.heap.size + 1 + 1, 0, none⟩) (by simp <;> omega) (.int .i64 0)) (p := ⟨w.heap.size + 1 + 1, 1, none⟩) (by simp <;> omega) (.slice none 0 0)) (p := ⟨w.heap.size + 1 + 1, 2, none⟩) (by simp <;> omega) (.slice none 0 0)) (p := ⟨w.heap.size + 1 + 1, 3, none⟩) (by simp <;> omega) (.slice none 0 0))
    go_wp2_with fail
    generalize ((((((w1.setCell ⟨w.heap.size + 1, 0, none⟩ (.string ⟨#[]⟩)).setCell ⟨w.heap.size + 1, 1, none⟩ (.int .i64 0)).setCell ⟨w.heap.size + 1 + 1, 0, none⟩ (.int .i64 0)).setCell ⟨w.heap.size + 1 + 1, 1, none⟩ (.slice none 0 0)).setCell ⟨w.heap.size + 1 + 1, 2, none⟩ (.slice none 0 0)).setCell ⟨w.heap.size + 1 + 1, 3, none⟩ (.slice none 0 0)) = wf at AF BF GF ⊢
    have d0 := (blk_cell AF 0 (x := .string ⟨#[]⟩) rfl).1
    have d1 := (blk_cell AF 1 (x := .int .i64 0) rfl).1
    have e0 := (blk_cell BF 0 (x := .int .i64 0) rfl).1
    have e1 := (blk_cell BF 1 (x := .slice none 0 0) rfl).1
    have e2 := (blk_cell BF 2 (x := .slice none 0 0) rfl).1
    have e3 := (blk_cell BF 3 (x := .slice none 0 0) rfl).1
    refine bodyPost_ret (v := .tuple #[.agg #[.string ⟨#[]⟩, .int .i64 0], .agg #[.int .i64 0, .slice none 0 0, .slice none 0 0, .slice none 0 0], .int .i64 2]) (by simp [results, Tryd.results32, go_sem, d0, d1, e0, e1, e2, e3]) rfl ⟨_, _, _, by rw [HC.out.1, HC.out.2.1, HC.out.2.2.1, HC.out.2.2.2.1], by rw [HC.out.2.2.2.2.1, HC.out.2.2.2.2.2.1, HC.out.2.2.2.2.2.2]; exact SigV.nil _ _, GF⟩
  · have HM : Hid (mbOut msg = mbits msg ∧ mbCode msg = 0) := ⟨if_neg hm, if_neg hm⟩
    cases hc : ckB s n with
    | false =>
      have HC : Hid (NC s n msg 1 ⟨#[]⟩ 0 0 [] [] []) := n_bad (by unfold nC; rw [if_neg hm, hc]; rfl) (by decide) (by decide)
      clear hm
      go_enter Tryd.func32, Tryd.ntmps32
      go_wp2_with fail
      refine (implMessageBits_any msg (w3b w s n) H0.out.1 H0.out.2).mono ?_
      rintro e w1 ⟨rfl, b1⟩
      rw [HM.out.1, HM.out.2]
      obtain ⟨A0, A1, A2, G0, L1⟩ := up3 b1
      have B1 : Hid (Below (w3b w s n).heap.size (w3b w s n) w1) := b1
      clear b1
      have k0 := (blk_cell A0 0 (x := .string s) rfl).1
      have k1 := (blk_cell A0 1 (x := .int .i64 n) rfl).1
      go_wp2_with fail
      refine (implKeyChainOK_any s n w1).mono ?_
      rintro e w2 ⟨rfl, b2⟩
      rw [hc]
      clear A0 A1 A2 G0 k0 k1 L1
      obtain ⟨A0, A1, A2, G0, _⟩ := up3 (B1.out.trans (b2.mono B1.out.size))
      clear b2
      obtain ⟨yc0, yf0⟩ := blk_cell A1 0 (x := .string ⟨#[]⟩) rfl
      obtain ⟨yc1, yf1⟩ := blk_cell A1 1 (x := .int .i64 0) rfl
      obtain ⟨zc0, zf0⟩ := blk_cell A2 0 (x := .int .i64 0) rfl
      obtain ⟨zc1, zf1⟩ := blk_cell A2 1 (x := .slice none 0 0) rfl
      obtain ⟨zc2, zf2⟩ := blk_cell A2 2 (x := .slice none 0 0) rfl
      obtain ⟨zc3, zf3⟩ := blk_cell A2 3 (x := .slice none 0 0) rfl
      have AF : ((((((w2.setCell ⟨w.heap.size + 1, 0, none⟩ (.string ⟨#[]⟩)).setCell ⟨w.heap.size + 1, 1, none⟩ (.int .i64 0)).setCell ⟨w.heap.size + 1 + 1, 0, none⟩ (.int .i64 0)).setCell ⟨w.heap.size + 1 + 1, 1, none⟩ (.slice none 0 0)).setCell ⟨w.heap.size + 1 + 1, 2, none⟩ (.slice none 0 0)).setCell ⟨w.heap.size + 1 + 1, 3, none⟩ (.slice none 0 0)).heap[w.heap.size + 1]? = some (.cells #[.string ⟨#[]⟩, .int .i64 0] 45 (0, 0)) := ((blk_far (by omega) 3 (.slice none 0 0)).trans ((blk_far (by omega) 2 (.slice none 0 0)).trans ((blk_far (by omega) 1 (.slice none 0 0)).trans ((blk_far (by omega) 0 (.int .i64 0)).trans (blk_set (blk_set A1 0 (.string ⟨#[]⟩)) 1 (.int .i64 0))))))
      have BF : ((((((w2.setCell ⟨w.heap.size + 1, 0, none⟩ (.string ⟨#[]⟩)).setCell ⟨w.heap.size + 1, 1, none⟩ (.int .i64 0)).setCell ⟨w.heap.size + 1 + 1, 0, none⟩ (.int .i64 0)).setCell ⟨w.heap.size + 1 + 1, 1, none⟩ (.slice none 0 0)).setCell ⟨w.heap.size + 1 + 1, 2, none⟩ (.slice none 0 0)).setCell ⟨w.heap.size + 1 + 1, 3, none⟩ (.slice none 0 0)).heap[w.heap.size + 1 + 1]? = some (.cells #[.int .i64 0, .slice none 0 0, .slice none 0 0, .slice none 0 0] 31 (0, 0)) := (blk_set (blk_set (blk_set (blk_set ((blk_far (by omega) 1 (.int .i64 0)).trans ((blk_far (by omega) 0 (.string ⟨#[]⟩)).trans A2)) 0 (.int .i64 0)) 1 (.slice none 0 0)) 2 (.slice none 0 0)) 3 (.slice none 0 0))
      have GF : Below w.heap.size w ((((((w2.setCell ⟨w.heap.size + 1, 0, none⟩ (.string ⟨#[]⟩)).setCell ⟨w.heap.size + 1, 1, none⟩ (.int .i64 0)).setCell ⟨w.heap.size + 1 + 1, 0, none⟩ (.int .i64 0)).setCell ⟨w.heap.size + 1 + 1, 1, none⟩ (.slice none 0 0)).setCell ⟨w.heap.size + 1 + 1, 2, none⟩ (.slice none 0 0)).setCell ⟨w.heap.size + 1 + 1, 3, none⟩ (.slice none 0 0)) := (Below.setCell (Below.setCell (Below.setCell (Below.setCell (Below.setCell (Below.setCell G0 (p := ⟨w.heap.size + 1, 0, none⟩) (by simp <;> omega) (.string ⟨#[]⟩)) (p := ⟨w.heap.size + 1, 1, none⟩) (by simp <;> omega) (.int .i64 0)) (p := ⟨w.heap.size + 1 + 1, 0, none⟩) (by simp <;> omega) (.int .i64 0)) (p := ⟨w.heap.size + 1 + 1, 1, none⟩) (by simp <;> omega) (.slice none 0 0)) (p := ⟨w.heap.size + 1 + 1, 2, none⟩) (by simp <;> omega) (.slice none 0 0)) (p := ⟨w.heap.size + 1 + 1, 3, none⟩) (by simp <;> omega) (.slice none 0 0))
      go_wp2_with fail
      generalize ((((((w2.setCell ⟨w.heap.size + 1, 0, none⟩ (.string ⟨#[]⟩)).setCell ⟨w.heap.size + 1, 1, none⟩ (.int .i64 0)).setCell ⟨w.heap.size + 1 + 1, 0, none⟩ (.int .i64 0)).setCell ⟨w.heap.size + 1 + 1, 1, none⟩ (.slice none 0 0)).setCell ⟨w.heap.size + 1 + 1, 2, none⟩ (.slice none 0 0)).setCell ⟨w.heap.size + 1 + 1, 3, none⟩ (.slice none 0 0)) = wf at AF BF GF ⊢
      have d0 := (blk_cell AF 0 (x := .string ⟨#[]⟩) rfl).1
      have d1 := (blk_cell AF 1 (x := .int .i64 0) rfl).1
      have e0 := (blk_cell BF 0 (x := .int .i64 0) rfl).1
      have e1 := (blk_cell BF 1 (x := .slice none 0 0) rfl).1
      have e2 := (blk_cell BF 2 (x := .slice none 0 0) rfl).1
      have e3 := (blk_cell BF 3 (x := .slice none 0 0) rfl).1
      refine bodyPost_ret (v := .tuple #[.agg #[.string ⟨#[]⟩, .int .i64 0], .agg #[.int .i64 0, .slice none 0 0, .slice none 0 0, .slice none 0 0], .int .i64 1]) (by simp [results, Tryd.results32, go_sem, d0, d1, e0, e1, e2, e3]) rfl ⟨_, _, _, by rw [HC.out.1, HC.out.2.1, HC.out.2.2.1, HC.out.2.2.2.1], by rw [HC.out.2.2.2.2.1, HC.out.2.2.2.2.2.1, HC.out.2.2.2.2.2.2]; exact SigV.nil _ _, GF⟩
    | true =>
      obtain ⟨c1, c2, c3⟩ := ck_good hc
      by_cases h8 : n = 8
      · have HC : Hid (NC s n msg 13 s n 0 [] [] []) := n_used (by unfold nC; rw [if_neg hm, hc, if_pos rfl, if_pos h8])
        have h8' : (n == 8) = true := by simpa using h8
        clear hm h8 c1 c2 c3
        go_enter Tryd.func32, Tryd.ntmps32
        go_wp2_with fail
        refine (implMessageBits_any msg (w3b w s n) H0.out.1 H0.out.2).mono ?_
        rintro e w1 ⟨rfl, b1⟩
        rw [HM.out.1, HM.out.2]
        obtain ⟨A0, A1, A2, G0, L1⟩ := up3 b1
        have B1 : Hid (Below (w3b w s n).heap.size (w3b w s n) w1) := b1
        clear b1
        have k0 := (blk_cell A0 0 (x := .string s) rfl).1
        have k1 := (blk_cell A0 1 (x := .int .i64 n) rfl).1
        go_wp2_with fail
        refine (implKeyChainOK_any s n w1).mono ?_
        rintro e w2 ⟨rfl, b2⟩
        rw [hc]
        clear A0 A1 A2 G0 k0 k1 L1
        obtain ⟨A0, A1, A2, G0, _⟩ := up3 (B1.out.trans (b2.mono B1.out.size))
        have k0 := (blk_cell A0 0 (x := .string s) rfl).1
        have k1 := (blk_cell A0 1 (x := .int .i64 n) rfl).1
        clear b2
        obtain ⟨yc0, yf0⟩ := blk_cell A1 0 (x := .string ⟨#[]⟩) rfl
        obtain ⟨yc1, yf1⟩ := blk_cell A1 1 (x := .int .i64 0) rfl
        obtain ⟨zc0, zf0⟩ := blk_cell A2 0 (x := .int .i64 0) rfl
        obtain ⟨zc1, zf1⟩ := blk_cell A2 1 (x := .slice none 0 0) rfl
        obtain ⟨zc2, zf2⟩ := blk_cell A2 2 (x := .slice none 0 0) rfl
        obtain ⟨zc3, zf3⟩ := blk_cell A2 3 (x := .slice none 0 0) rfl
        have AF : ((((((w2.setCell ⟨w.heap.size + 1, 0, none⟩ (.string s)).setCell ⟨w.heap.size + 1, 1, none⟩ (.int .i64 n)).setCell ⟨w.heap.size + 1 + 1, 0, none⟩ (.int .i64 0)).setCell ⟨w.heap.size + 1 + 1, 1, none⟩ (.slice none 0 0)).setCell ⟨w.heap.size + 1 + 1, 2, none⟩ (.slice none 0 0)).setCell ⟨w.heap.size + 1 + 1, 3, none⟩ (.slice none 0 0)).heap[w.heap.size + 1]? = some (.cells #[.string s, .int .i64 n] 45 (0, 0)) := ((blk_far (by omega) 3 (.slice none 0 0)).trans ((blk_far (by omega) 2 (.slice none 0 0)).trans ((blk_far (by omega) 1 (.slice none 0 0)).trans ((blk_far (by omega) 0 (.int .i64 0)).trans (blk_set (blk_set A1 0 (.string s)) 1 (.int .i64 n))))))
        have BF : ((((((w2.setCell ⟨w.heap.size + 1, 0, none⟩ (.string s)).setCell ⟨w.heap.size + 1, 1, none⟩ (.int .i64 n)).setCell ⟨w.heap.size + 1 + 1, 0, none⟩ (.int .i64 0)).setCell ⟨w.heap.size + 1 + 1, 1, none⟩ (.slice none 0 0)).setCell ⟨w.heap.size + 1 + 1, 2, none⟩ (.slice none 0 0)).setCell ⟨w.heap.size + 1 + 1, 3, none⟩ (.slice none 0 0)).heap[w.heap.size + 1 + 1]? = some (.cells #[.int .i64 0, .slice none 0 0, .slice none 0 0, .slice none 0 0] 31 (0, 0)) := (blk_set (blk_set (blk_set (blk_set ((blk_far (by omega) 1 (.int .i64 n)).trans ((blk_far (by omega) 0 (.string s)).trans A2)) 0 (.int .i64 0)) 1 (.slice none 0 0)) 2 (.slice none 0 0)) 3 (.slice none 0 0))
        have GF : Below w.heap.size w ((((((w2.setCell ⟨w.heap.size + 1, 0, none⟩ (.string s)).setCell ⟨w.heap.size + 1, 1, none⟩ (.int .i64 n)).setCell ⟨w.heap.size + 1 + 1, 0, none⟩ (.int .i64 0)).setCell ⟨w.heap.size + 1 + 1, 1, none⟩ (.slice none 0 0)).setCell ⟨w.heap.size + 1 + 1, 2, none⟩ (.slice none 0 0)).setCell ⟨w.heap.size + 1 + 1, 3, none⟩ (.slice none 0 0)) := (Below.setCell (Below.setCell (Below.setCell (Below.setCell (Below.setCell (Below.setCell G0 (p := ⟨w.heap.size + 1, 0, none⟩) (by simp <;> omega) (.string s)) (p := ⟨w.heap.size + 1, 1, none⟩) (by simp <;> omega) (.int .i64 n)) (p := ⟨w.heap.size + 1 + 1, 0, none⟩) (by simp <;> omega) (.int .i64 0)) (p := ⟨w.heap.size + 1 + 1, 1, none⟩) (by simp <;> omega) (.slice none 0 0)) (p := ⟨w.heap.size + 1 + 1, 2, none⟩) (by simp <;> omega) (.slice none 0 0)) (p := ⟨w.heap.size + 1 + 1, 3, none⟩) (by simp <;> omega) (.slice none 0 0))
        go_wp2_with fail
        generalize ((((((w2.setCell ⟨w.heap.size + 1, 0, none⟩ (.string s)).setCell ⟨w.heap.size + 1, 1, none⟩ (.int .i64 n)).setCell ⟨w.heap.size + 1 + 1, 0, none⟩ (.int .i64 0)).setCell ⟨w.heap.size + 1 + 1, 1, none⟩ (.slice none 0 0)).setCell ⟨w.heap.size + 1 + 1, 2, none⟩ (.slice none 0 0)).setCell ⟨w.heap.size + 1 + 1, 3, none⟩ (.slice none 0 0)) = wf at AF BF GF ⊢
        have d0 := (blk_cell AF 0 (x := .string s) rfl).1
        have d1 := (blk_cell AF 1 (x := .int .i64 n) rfl).1
        have e0 := (blk_cell BF 0 (x := .int .i64 0) rfl).1
        have e1 := (blk_cell BF 1 (x := .slice none 0 0) rfl).1
        have e2 := (blk_cell BF 2 (x := .slice none 0 0) rfl).1
        have e3 := (blk_cell BF 3 (x := .slice none 0 0) rfl).1
        refine bodyPost_ret (v := .tuple #[.agg #[.string s, .int .i64 n], .agg #[.int .i64 0, .slice none 0 0, .slice none 0 0, .slice none 0 0], .int .i64 13]) (by simp [results, Tryd.results32, go_sem, d0, d1, e0, e1, e2, e3]) rfl ⟨_, _, _, by rw [HC.out.1, HC.out.2.1, HC.out.2.2.1, HC.out.2.2.2.1], by rw [HC.out.2.2.2.2.1, HC.out.2.2.2.2.2.1, HC.out.2.2.2.2.2.2]; exact SigV.nil _ _, GF⟩
      · have HC0 : NC s n msg 0 s (n + 1) n (onesTo s n.toNat (dig msg) 32) (restTo s n.toNat (dig msg) 32) (pathN 3 (keysTo s 8) n.toNat) := n_good (by unfold nC; rw [if_neg hm, hc, if_pos rfl, if_neg h8])
        have h8' : (n == 8) = false := by simpa using h8
        obtain ⟨n, rfl⟩ := Int.eq_ofNat_of_zero_le c2
        rw [Int.toNat_natCast] at HC0
        have HC : Hid (NC s n msg 0 s ((n : Int) + 1) n (onesTo s n (dig msg) 32) (restTo s n (dig msg) 32) (pathN 3 (keysTo s 8) n)) := HC0
        have HS : Hid (s.size ≤ 60000 ∧ n < 8) := ⟨by omega, by omega⟩
        have hn8 : (n : Int) < 8 := by omega
        clear hm h8 c1 c2 c3 HC0
        go_enter Tryd.func32, Tryd.ntmps32
        go_wp2_with fail
        refine (implMessageBits_any msg (w3b w s n) H0.out.1 H0.out.2).mono ?_
        rintro e w1 ⟨rfl, b1⟩
        rw [HM.out.1, HM.out.2]
        obtain ⟨A0, A1, A2, G0, L1⟩ := up3 b1
        have B1 : Hid (Below (w3b w s n).heap.size (w3b w s n) w1) := b1
        clear b1
        have k0 := (blk_cell A0 0 (x := .string s) rfl).1
        have k1 := (blk_cell A0 1 (x := .int .i64 (n : Int)) rfl).1
        go_wp2_with fail
        refine (implKeyChainOK_any s n w1).mono ?_
        rintro e w2 ⟨rfl, b2⟩
        rw [hc]
        clear A0 A1 A2 G0 k0 k1 L1
        have B2 : Hid (Below (w3b w s n).heap.size (w3b w s n) w2) := B1.out.trans (b2.mono B1.out.size)
        obtain ⟨A0, A1, A2, G0, L2⟩ := up3 B2.out
        have k0 := (blk_cell A0 0 (x := .string s) rfl).1
        have k1 := (blk_cell A0 1 (x := .int .i64 (n : Int)) rfl).1
        clear b2 A1 A2 G0
        go_wp2_with fail
        refine (signBits_any s msg n w2 HS.out.1 HS.out.2 (H0.out.1.below B2.out H0.out.2) (Nat.lt_of_lt_of_le H0.out.2 B2.out.size)).mono ?_
        rintro e w3 ⟨va, vb, vc, rfl, s3, b3⟩
        clear A0 k0 k1
        obtain ⟨A0, A1, A2, G0, _⟩ := up3 (B2.out.trans (b3.mono B2.out.size))
        have S2 := s3.mono (B' := w.heap.size + 1 + 1 + 1) L2
        obtain ⟨a1, c1, e1, _⟩ := s3.oa.row
        obtain ⟨a2, c2, e2, _⟩ := s3.ob.row
        obtain ⟨a3, c3, e3, _⟩ := s3.oc.row
        rw [onesTo_length] at e1
        rw [restTo_length] at e2
        rw [pathN_length] at e3
        subst e1 e2 e3
        have X3 := blk_new w3 #[.int .i64 (n : Int), .slice a1 32 c1, .slice a2 32 c2, .slice a3 3 c3] 31
        have L3 : w.heap.size + 1 + 1 + 1 ≤ w3.heap.size := Nat.le_trans L2 b3.size
        have M0 := (Below.heap_alloc w3 (.cells #[.int .i64 (n : Int), .slice a1 32 c1, .slice a2 32 c2, .slice a3 3 c3] 31) w.heap.size (by omega)).trans A0
        have M1 := (Below.heap_alloc w3 (.cells #[.int .i64 (n : Int), .slice a1 32 c1, .slice a2 32 c2, .slice a3 3 c3] 31) (w.heap.size + 1) (by omega)).trans A1
        have M2 := (Below.heap_alloc w3 (.cells #[.int .i64 (n : Int), .slice a1 32 c1, .slice a2 32 c2, .slice a3 3 c3] 31) (w.heap.size + 1 + 1) (by omega)).trans A2
        have G3 := G0.alloc (by omega) (.cells #[.int .i64 (n : Int), .slice a1 32 c1, .slice a2 32 c2, .slice a3 3 c3] 31)
        have S3 := S2.below (bel_new w3 (.cells #[.int .i64 (n : Int), .slice a1 32 c1, .slice a2 32 c2, .slice a3 3 c3] 31))
        obtain ⟨p, hpe⟩ : ∃ p, p = w3.heap.size := ⟨_, rfl⟩
        rw [← hpe] at X3 L3
        clear b3 s3 S2 G0 A0 A1 A2
        go_upto_region 9 with fail
        rw [← hpe]
        generalize (w3.alloc (.cells #[.int .i64 (n : Int), .slice a1 32 c1, .slice a2 32 c2, .slice a3 3 c3] 31)) = w4 at X3 M0 M1 M2 G3 S3 ⊢
        clear hpe
        obtain ⟨k0, kf0⟩ := blk_cell M0 0 (x := .string s) rfl
        obtain ⟨k1, kf1⟩ := blk_cell M0 1 (x := .int .i64 (n : Int)) rfl
        have N0 := blk_set M0 1 (.int .i64 ((n : Int) + 1))
        have N1 := (blk_far (w := w4) (b := w.heap.size) (k := w.heap.size + 1) (by omega) 1 (.int .i64 ((n : Int) + 1))).trans M1
        have N2 := (blk_far (w := w4) (b := w.heap.size) (k := w.heap.size + 1 + 1) (by omega) 1 (.int .i64 ((n : Int) + 1))).trans M2
        have NX := (blk_far (w := w4) (b := w.heap.size) (k := p) (by omega) 1 (.int .i64 ((n : Int) + 1))).trans X3
        have NG := Below.setCell G3 (p := ⟨w.heap.size, 1, none⟩) (Nat.le_refl _) (.int .i64 ((n : Int) + 1))
        have NS := SigV.set (j := 1) (x := .int .i64 ((n : Int) + 1)) S3 (p := w.heap.size) (by omega)
        clear G3 S3 M0 M1 M2 X3
        go_upto_region 10 with fail
        generalize w4.setCell ⟨w.heap.size, 1, none⟩ (.int .i64 ((n : Int) + 1)) = w5 at N0 N1 N2 NX NG NS ⊢
        have k0 := (blk_cell N0 0 (x := .string s) rfl).1
        have k1 := (blk_cell N0 1 (x := .int .i64 ((n : Int) + 1)) rfl).1
        have r0 := (blk_cell NX 0 (x := .int .i64 (n : Int)) rfl).1
        have r1 := (blk_cell NX 1 (x := .slice a1 32 c1) rfl).1
        have r2 := (blk_cell NX 2 (x := .slice a2 32 c2) rfl).1
        have r3 := (blk_cell NX 3 (x := .slice a3 3 c3) rfl).1
        obtain ⟨yc0, yf0⟩ := blk_cell N1 0 (x := .string ⟨#[]⟩) rfl
        obtain ⟨yc1, yf1⟩ := blk_cell N1 1 (x := .int .i64 0) rfl
        obtain ⟨zc0, zf0⟩ := blk_cell N2 0 (x := .int .i64 0) rfl
        obtain ⟨zc1, zf1⟩ := blk_cell N2 1 (x := .slice none 0 0) rfl
        obtain ⟨zc2, zf2⟩ := blk_cell N2 2 (x := .slice none 0 0) rfl
        obtain ⟨zc3, zf3⟩ := blk_cell N2 3 (x := .slice none 0 0) rfl
        have AF0 : ((((((w5.setCell ⟨w.heap.size + 1, 0, none⟩ (.string s)).setCell ⟨w.heap.size + 1, 1, none⟩ (.int .i64 ((n : Int) + 1))).setCell ⟨w.heap.size + 1 + 1, 0, none⟩ (.int .i64 (n : Int))).setCell ⟨w.heap.size + 1 + 1, 1, none⟩ (.slice a1 32 c1)).setCell ⟨w.heap.size + 1 + 1, 2, none⟩ (.slice a2 32 c2)).setCell ⟨w.heap.size + 1 + 1, 3, none⟩ (.slice a3 3 c3)).heap[w.heap.size + 1]? = some (.cells #[.string s, .int .i64 ((n : Int) + 1)] 45 (0, 0)) := ((blk_far (by omega) 3 (.slice a3 3 c3)).trans ((blk_far (by omega) 2 (.slice a2 32 c2)).trans ((blk_far (by omega) 1 (.slice a1 32 c1)).trans ((blk_far (by omega) 0 (.int .i64 (n : Int))).trans (blk_set (blk_set N1 0 (.string s)) 1 (.int .i64 ((n : Int) + 1)))))))
        have BF0 : ((((((w5.setCell ⟨w.heap.size + 1, 0, none⟩ (.string s)).setCell ⟨w.heap.size + 1, 1, none⟩ (.int .i64 ((n : Int) + 1))).setCell ⟨w.heap.size + 1 + 1, 0, none⟩ (.int .i64 (n : Int))).setCell ⟨w.heap.size + 1 + 1, 1, none⟩ (.slice a1 32 c1)).setCell ⟨w.heap.size + 1 + 1, 2, none⟩ (.slice a2 32 c2)).setCell ⟨w.heap.size + 1 + 1, 3, none⟩ (.slice a3 3 c3)).heap[w.heap.size + 1 + 1]? = some (.cells #[.int .i64 (n : Int), .slice a1 32 c1, .slice a2 32 c2, .slice a3 3 c3] 31 (0, 0)) := (blk_set (blk_set (blk_set (blk_set ((blk_far (by omega) 1 (.int .i64 ((n : Int) + 1))).trans ((blk_far (by omega) 0 (.string s)).trans N2)) 0 (.int .i64 (n : Int))) 1 (.slice a1 32 c1)) 2 (.slice a2 32 c2)) 3 (.slice a3 3 c3))
        have AF := drew_blk AF0
        have BF := drew_blk BF0
        have GF : Below w.heap.size w ((((((w5.setCell ⟨w.heap.size + 1, 0, none⟩ (.string s)).setCell ⟨w.heap.size + 1, 1, none⟩ (.int .i64 ((n : Int) + 1))).setCell ⟨w.heap.size + 1 + 1, 0, none⟩ (.int .i64 (n : Int))).setCell ⟨w.heap.size + 1 + 1, 1, none⟩ (.slice a1 32 c1)).setCell ⟨w.heap.size + 1 + 1, 2, none⟩ (.slice a2 32 c2)).setCell ⟨w.heap.size + 1 + 1, 3, none⟩ (.slice a3 3 c3)).drew := Below.drew (Below.setCell (Below.setCell (Below.setCell (Below.setCell (Below.setCell (Below.setCell NG (p := ⟨w.heap.size + 1, 0, none⟩) (by simp <;> omega) (.string s)) (p := ⟨w.heap.size + 1, 1, none⟩) (by simp <;> omega) (.int .i64 ((n : Int) + 1))) (p := ⟨w.heap.size + 1 + 1, 0, none⟩) (by simp <;> omega) (.int .i64 (n : Int))) (p := ⟨w.heap.size + 1 + 1, 1, none⟩) (by simp <;> omega) (.slice a1 32 c1)) (p := ⟨w.heap.size + 1 + 1, 2, none⟩) (by simp <;> omega) (.slice a2 32 c2)) (p := ⟨w.heap.size + 1 + 1, 3, none⟩) (by simp <;> omega) (.slice a3 3 c3))
        have SF : SigV ((((((w5.setCell ⟨w.heap.size + 1, 0, none⟩ (.string s)).setCell ⟨w.heap.size + 1, 1, none⟩ (.int .i64 ((n : Int) + 1))).setCell ⟨w.heap.size + 1 + 1, 0, none⟩ (.int .i64 (n : Int))).setCell ⟨w.heap.size + 1 + 1, 1, none⟩ (.slice a1 32 c1)).setCell ⟨w.heap.size + 1 + 1, 2, none⟩ (.slice a2 32 c2)).setCell ⟨w.heap.size + 1 + 1, 3, none⟩ (.slice a3 3 c3)).drew (w.heap.size + 1 + 1 + 1) (.slice a1 32 c1) (.slice a2 32 c2) (.slice a3 3 c3) (onesTo s n (dig msg) 32) (restTo s n (dig msg) 32) (pathN 3 (keysTo s 8) n) := SigV.drew (SigV.set (j := 3) (x := .slice a3 3 c3) (SigV.set (j := 2) (x := .slice a2 32 c2) (SigV.set (j := 1) (x := .slice a1 32 c1) (SigV.set (j := 0) (x := .int .i64 (n : Int)) (SigV.set (j := 1) (x := .int .i64 ((n : Int) + 1)) (SigV.set (j := 0) (x := .string s) NS (p := w.heap.size + 1) (by omega)) (p := w.heap.size + 1) (by omega)) (p := w.heap.size + 1 + 1) (by omega)) (p := w.heap.size + 1 + 1) (by omega)) (p := w.heap.size + 1 + 1) (by omega)) (p := w.heap.size + 1 + 1) (by omega))
        clear N0 N1 N2 NX NG NS AF0 BF0
        go_region
        all_goals
          go_wp2_with fail
          generalize ((((((w5.setCell ⟨w.heap.size + 1, 0, none⟩ (.string s)).setCell ⟨w.heap.size + 1, 1, none⟩ (.int .i64 ((n : Int) + 1))).setCell ⟨w.heap.size + 1 + 1, 0, none⟩ (.int .i64 (n : Int))).setCell ⟨w.heap.size + 1 + 1, 1, none⟩ (.slice a1 32 c1)).setCell ⟨w.heap.size + 1 + 1, 2, none⟩ (.slice a2 32 c2)).setCell ⟨w.heap.size + 1 + 1, 3, none⟩ (.slice a3 3 c3)).drew = wf at AF BF GF SF ⊢
          have d0 := (blk_cell AF 0 (x := .string s) rfl).1
          have d1 := (blk_cell AF 1 (x := .int .i64 ((n : Int) + 1)) rfl).1
          have e0 := (blk_cell BF 0 (x := .int .i64 (n : Int)) rfl).1
          have e1 := (blk_cell BF 1 (x := .slice a1 32 c1) rfl).1
          have e2 := (blk_cell BF 2 (x := .slice a2 32 c2) rfl).1
          have e3 := (blk_cell BF 3 (x := .slice a3 3 c3) rfl).1
          refine bodyPost_ret (v := .tuple #[.agg #[.string s, .int .i64 ((n : Int) + 1)], .agg #[.int .i64 (n : Int), .slice a1 32 c1, .slice a2 32 c2, .slice a3 3 c3], .int .i64 0]) (by simp [results, Tryd.results32, go_sem, d0, d1, e0, e1, e2, e3]) rfl ⟨_, _, _, by rw [HC.out.1, HC.out.2.1, HC.out.2.2.1, HC.out.2.2.2.1], by rw [HC.out.2.2.2.2.1, HC.out.2.2.2.2.2.1, HC.out.2.2.2.2.2.2]; exact SF.mono (by omega), GF⟩
end Go.Proofs.YtjggfholjdplbaaDoor.Nx
