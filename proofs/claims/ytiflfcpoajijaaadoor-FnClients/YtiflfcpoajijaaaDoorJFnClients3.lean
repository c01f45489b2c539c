/- Replies: ReplyMac, MakeReply, ReplyOK: of the program. -/
import Derived.Test.YtiflfcpoajijaaaDoorJFnClients2
import Derived.BigQuiet
namespace Go.Proofs.YtiflfcpoajijaaaDoor.Ry
open Go.RowKit Go.Proofs.YtiflfcpoajijaaaDoor.Sl Go.Proofs.YtiflfcpoajijaaaDoor.By Go.Proofs.YtiflfcpoajijaaaDoor.Ap Go.Proofs.YtiflfcpoajijaaaDoor.Tx Go.Proofs.YtiflfcpoajijaaaDoor.Sh Go.Proofs.YtiflfcpoajijaaaDoor.Ho Go.Proofs.YtiflfcpoajijaaaDoor.Fz Go.Proofs.YtiflfcpoajijaaaDoor.Pu Go.Proofs.YtiflfcpoajijaaaDoor.Fu Go.Proofs.YtiflfcpoajijaaaDoor.Mr Go.Proofs.YtiflfcpoajijaaaDoor.Rm Go.Proofs.YtiflfcpoajijaaaDoor.Fq
open Go.Proofs.YtiflfcpoajijaaaDoor.Gy (Re oneV)
open Go.Proofs.YtiflfcpoajijaaaDoor.Tm (fCode fOut f_cases implFaultsOf_any)

/-- What ReplyMac answers. -/
def rmC (x : Re) : Int := if foB x then 0 else 1
def rmO (x : Re) : ByteArray := if foB x then rymk x else ⟨#[]⟩
theorem rm_no {x : Re} (h : foB x = false) : rmO x = ⟨#[]⟩ ∧ rmC x = 1 := by unfold rmO rmC; rw [h]; exact ⟨rfl, rfl⟩
theorem rm_yes {x : Re} (h : foB x = true) : rmO x = rymk x ∧ rmC x = 0 := by unfold rmO rmC; rw [h]; exact ⟨rfl, rfl⟩
/-- What MakeReply answers. -/
def r0 (n c s k t h e0 : Int) : Re := ⟨n, c, s, k, t, h, e0, ⟨#[]⟩⟩
def mkR (n c s k t h e0 : Int) : Re := if foB (r0 n c s k t h e0) then ⟨n, c, s, k, t, h, e0, rymk (r0 n c s k t h e0)⟩ else ⟨0, 0, 0, 0, 0, 0, 0, ⟨#[]⟩⟩
def mkC (n c s k t h e0 : Int) : Int := if foB (r0 n c s k t h e0) then 0 else 1
theorem mk_no {n c s k t h e0 : Int} (hf : foB (r0 n c s k t h e0) = false) : mkR n c s k t h e0 = ⟨0, 0, 0, 0, 0, 0, 0, ⟨#[]⟩⟩ ∧ mkC n c s k t h e0 = 1 := by unfold mkR mkC; rw [hf]; exact ⟨rfl, rfl⟩
theorem mk_yes {n c s k t h e0 : Int} (hf : foB (r0 n c s k t h e0) = true) : mkR n c s k t h e0 = ⟨n, c, s, k, t, h, e0, rymk (r0 n c s k t h e0)⟩ ∧ mkC n c s k t h e0 = 0 := by unfold mkR mkC; rw [hf]; exact ⟨rfl, rfl⟩
theorem mk_ret {x y : Re} {a b : Int} (h : x = y ∧ a = b) : Ending.returned (.tuple #[oneV x, .int .i64 a]) = .returned (.tuple #[oneV y, .int .i64 b]) := by rw [h.1, h.2]
set_option maxRecDepth 100000 in
set_option maxHeartbeats 1600000 in
theorem implMakeReply_any (n c s k t h e0 : Int) (w : World) (hK : KTab w) (hp : 0 < w.heap.size) :
    Calls Tryd.prog 9 #[.int .i64 n, .int .i64 c, .int .i64 s, .agg #[.int .i64 k, .int .i64 t, .int .i64 h, .int .i64 e0]] w fun e w' => e = .returned (.tuple #[oneV (mkR n c s k t h e0), .int .i64 (mkC n c s k t h e0)]) ∧ Below w.heap.size w w' := by
  have HO : Hid (∀ W, Calls Tryd.prog 18 #[.agg #[.int .i64 n, .int .i64 c, .int .i64 s, .int .i64 k, .int .i64 t, .int .i64 h, .int .i64 e0, .string ⟨#[]⟩]] W fun e w' => e = .returned (.bool (foB (r0 n c s k t h e0))) ∧ Below W.heap.size W w') := fun W => markable_any (r0 n c s k t h e0) W
  have GK : Hid (KTab w ∧ 0 < w.heap.size) := ⟨hK, hp⟩
  clear hK hp
  cases hf : foB (r0 n c s k t h e0) with
  | false =>
    rw [hf] at HO
    have HE : Hid (mkR n c s k t h e0 = ⟨0, 0, 0, 0, 0, 0, 0, ⟨#[]⟩⟩ ∧ mkC n c s k t h e0 = 1) := mk_no hf
    clear hf
    go_enter Tryd.func9, Tryd.ntmps9
    go_wp2_with fail
    refine (HO.out _).mono ?_
    rintro e w1 ⟨rfl, b1⟩
    obtain ⟨k0, k1, k2, kS, kB⟩ := Rg.three b1
    have K1 : Hid (w1.heap[w.heap.size + 1]? = some (.cells #[.int .i64 0, .int .i64 0, .int .i64 0, .int .i64 0, .int .i64 0, .int .i64 0, .int .i64 0, .string ⟨#[]⟩] 39 (0, 0))) := k1
    have KB : Hid (Below w.heap.size w w1) := kB
    clear b1 k0 k1 k2 kB kS
    obtain ⟨m0, n0⟩ := Rg.blk_cell K1.out 0 (x := .int .i64 0) rfl
    obtain ⟨m1, n1⟩ := Rg.blk_cell K1.out 1 (x := .int .i64 0) rfl
    obtain ⟨m2, n2⟩ := Rg.blk_cell K1.out 2 (x := .int .i64 0) rfl
    obtain ⟨m3, n3⟩ := Rg.blk_cell K1.out 3 (x := .int .i64 0) rfl
    obtain ⟨m4, n4⟩ := Rg.blk_cell K1.out 4 (x := .int .i64 0) rfl
    obtain ⟨m5, n5⟩ := Rg.blk_cell K1.out 5 (x := .int .i64 0) rfl
    obtain ⟨m6, n6⟩ := Rg.blk_cell K1.out 6 (x := .int .i64 0) rfl
    obtain ⟨m7, n7⟩ := Rg.blk_cell K1.out 7 (x := .string ⟨#[]⟩) rfl
    have AF : ((((((((w1.setCell ⟨w.heap.size + 1, 0, none⟩ (.int .i64 0)).setCell ⟨w.heap.size + 1, 1, none⟩ (.int .i64 0)).setCell ⟨w.heap.size + 1, 2, none⟩ (.int .i64 0)).setCell ⟨w.heap.size + 1, 3, none⟩ (.int .i64 0)).setCell ⟨w.heap.size + 1, 4, none⟩ (.int .i64 0)).setCell ⟨w.heap.size + 1, 5, none⟩ (.int .i64 0)).setCell ⟨w.heap.size + 1, 6, none⟩ (.int .i64 0)).setCell ⟨w.heap.size + 1, 7, none⟩ (.string ⟨#[]⟩)).heap[w.heap.size + 1]? = some (.cells #[.int .i64 0, .int .i64 0, .int .i64 0, .int .i64 0, .int .i64 0, .int .i64 0, .int .i64 0, .string ⟨#[]⟩] 39 (0, 0)) := (Rg.blk_set (Rg.blk_set (Rg.blk_set (Rg.blk_set (Rg.blk_set (Rg.blk_set (Rg.blk_set (Rg.blk_set K1.out _ _) _ _) _ _) _ _) _ _) _ _) _ _) _ _)
    have GF : Below w.heap.size w ((((((((w1.setCell ⟨w.heap.size + 1, 0, none⟩ (.int .i64 0)).setCell ⟨w.heap.size + 1, 1, none⟩ (.int .i64 0)).setCell ⟨w.heap.size + 1, 2, none⟩ (.int .i64 0)).setCell ⟨w.heap.size + 1, 3, none⟩ (.int .i64 0)).setCell ⟨w.heap.size + 1, 4, none⟩ (.int .i64 0)).setCell ⟨w.heap.size + 1, 5, none⟩ (.int .i64 0)).setCell ⟨w.heap.size + 1, 6, none⟩ (.int .i64 0)).setCell ⟨w.heap.size + 1, 7, none⟩ (.string ⟨#[]⟩)) := (Below.setCell (Below.setCell (Below.setCell (Below.setCell (Below.setCell (Below.setCell (Below.setCell (Below.setCell KB.out (p := ⟨w.heap.size + 1, 0, none⟩) (by first | omega | (simp; done) | (simp; omega)) (.int .i64 0)) (p := ⟨w.heap.size + 1, 1, none⟩) (by first | omega | (simp; done) | (simp; omega)) (.int .i64 0)) (p := ⟨w.heap.size + 1, 2, none⟩) (by first | omega | (simp; done) | (simp; omega)) (.int .i64 0)) (p := ⟨w.heap.size + 1, 3, none⟩) (by first | omega | (simp; done) | (simp; omega)) (.int .i64 0)) (p := ⟨w.heap.size + 1, 4, none⟩) (by first | omega | (simp; done) | (simp; omega)) (.int .i64 0)) (p := ⟨w.heap.size + 1, 5, none⟩) (by first | omega | (simp; done) | (simp; omega)) (.int .i64 0)) (p := ⟨w.heap.size + 1, 6, none⟩) (by first | omega | (simp; done) | (simp; omega)) (.int .i64 0)) (p := ⟨w.heap.size + 1, 7, none⟩) (by first | omega | (simp; done) | (simp; omega)) (.string ⟨#[]⟩))
    go_wp2_with fail
    generalize ((((((((w1.setCell ⟨w.heap.size + 1, 0, none⟩ (.int .i64 0)).setCell ⟨w.heap.size + 1, 1, none⟩ (.int .i64 0)).setCell ⟨w.heap.size + 1, 2, none⟩ (.int .i64 0)).setCell ⟨w.heap.size + 1, 3, none⟩ (.int .i64 0)).setCell ⟨w.heap.size + 1, 4, none⟩ (.int .i64 0)).setCell ⟨w.heap.size + 1, 5, none⟩ (.int .i64 0)).setCell ⟨w.heap.size + 1, 6, none⟩ (.int .i64 0)).setCell ⟨w.heap.size + 1, 7, none⟩ (.string ⟨#[]⟩)) = wf at AF GF ⊢
    have d0 := (Rg.blk_cell AF 0 (x := .int .i64 0) rfl).1
    have d1 := (Rg.blk_cell AF 1 (x := .int .i64 0) rfl).1
    have d2 := (Rg.blk_cell AF 2 (x := .int .i64 0) rfl).1
    have d3 := (Rg.blk_cell AF 3 (x := .int .i64 0) rfl).1
    have d4 := (Rg.blk_cell AF 4 (x := .int .i64 0) rfl).1
    have d5 := (Rg.blk_cell AF 5 (x := .int .i64 0) rfl).1
    have d6 := (Rg.blk_cell AF 6 (x := .int .i64 0) rfl).1
    have d7 := (Rg.blk_cell AF 7 (x := .string ⟨#[]⟩) rfl).1
    exact bodyPost_ret (v := .tuple #[.agg #[.int .i64 0, .int .i64 0, .int .i64 0, .int .i64 0, .int .i64 0, .int .i64 0, .int .i64 0, .string ⟨#[]⟩], .int .i64 1]) (by simp [results, Tryd.results9, go_sem, d0, d1, d2, d3, d4, d5, d6, d7]) rfl ⟨mk_ret (x := ⟨0, 0, 0, 0, 0, 0, 0, ⟨#[]⟩⟩) ⟨HE.out.1.symm, HE.out.2.symm⟩, GF⟩
  | true =>
    rw [hf] at HO
    have HE : Hid (mkR n c s k t h e0 = ⟨n, c, s, k, t, h, e0, rymk (r0 n c s k t h e0)⟩ ∧ mkC n c s k t h e0 = 0) := mk_yes hf
    have HM : Hid (∀ W, Below w.heap.size w W → Calls Tryd.prog 19 #[.agg #[.int .i64 n, .int .i64 c, .int .i64 s, .int .i64 k, .int .i64 t, .int .i64 h, .int .i64 e0, .string ⟨#[]⟩]] W fun e w' => e = .returned (.string (rymk (r0 n c s k t h e0))) ∧ Below W.heap.size W w') := fun W hW => replyMark_any (r0 n c s k t h e0) W hf (GK.out.1.below hW GK.out.2) (Nat.lt_of_lt_of_le GK.out.2 hW.size)
    clear hf
    generalize rymk (r0 n c s k t h e0) = o at HE HM
    go_enter Tryd.func9, Tryd.ntmps9
    go_wp2_with fail
    refine (HO.out _).mono ?_
    rintro e w1 ⟨rfl, b1⟩
    obtain ⟨k0, k1, k2, kS, kB⟩ := Rg.three b1
    have K1 : Hid (w1.heap[w.heap.size + 1]? = some (.cells #[.int .i64 0, .int .i64 0, .int .i64 0, .int .i64 0, .int .i64 0, .int .i64 0, .int .i64 0, .string ⟨#[]⟩] 39 (0, 0))) := k1
    have K2 : Hid (w1.heap[w.heap.size + 1 + 1]? = some (.cells #[.int .i64 n, .int .i64 c, .int .i64 s, .int .i64 k, .int .i64 t, .int .i64 h, .int .i64 e0, .string ⟨#[]⟩] 39 (0, 0))) := k2
    have KB : Hid (Below w.heap.size w w1) := kB
    clear b1 k0 k1 k2 kB kS
    have c0 := (Rg.blk_cell K2.out 0 (x := .int .i64 n) rfl).1
    have c1 := (Rg.blk_cell K2.out 1 (x := .int .i64 c) rfl).1
    have c2 := (Rg.blk_cell K2.out 2 (x := .int .i64 s) rfl).1
    have c3 := (Rg.blk_cell K2.out 3 (x := .int .i64 k) rfl).1
    have c4 := (Rg.blk_cell K2.out 4 (x := .int .i64 t) rfl).1
    have c5 := (Rg.blk_cell K2.out 5 (x := .int .i64 h) rfl).1
    have c6 := (Rg.blk_cell K2.out 6 (x := .int .i64 e0) rfl).1
    have c7 := (Rg.blk_cell K2.out 7 (x := .string ⟨#[]⟩) rfl).1
    go_wp2_with fail
    refine (HM.out _ KB.out).mono ?_
    rintro e w2 ⟨rfl, b2⟩
    have K1b : Hid (w2.heap[w.heap.size + 1]? = some (.cells #[.int .i64 0, .int .i64 0, .int .i64 0, .int .i64 0, .int .i64 0, .int .i64 0, .int .i64 0, .string ⟨#[]⟩] 39 (0, 0))) := (b2.block _ (Array.getElem?_eq_some_iff.1 K1.out).1).trans K1.out
    have K2b : Hid (w2.heap[w.heap.size + 1 + 1]? = some (.cells #[.int .i64 n, .int .i64 c, .int .i64 s, .int .i64 k, .int .i64 t, .int .i64 h, .int .i64 e0, .string ⟨#[]⟩] 39 (0, 0))) := (b2.block _ (Array.getElem?_eq_some_iff.1 K2.out).1).trans K2.out
    have KB2 : Hid (Below w.heap.size w w2) := KB.out.trans (b2.mono KB.out.size)
    clear b2 K1 K2 KB c0 c1 c2 c3 c4 c5 c6 c7
    obtain ⟨s7, t7⟩ := Rg.blk_cell K2b.out 7 (x := .string ⟨#[]⟩) rfl
    have B3 : Hid ((w2.setCell ⟨w.heap.size + 1 + 1, 7, none⟩ (.string o)).heap[w.heap.size + 1 + 1]? = some (.cells #[.int .i64 n, .int .i64 c, .int .i64 s, .int .i64 k, .int .i64 t, .int .i64 h, .int .i64 e0, .string o] 39 (0, 0))) := Rg.blk_set K2b.out _ _
    have A3 : Hid ((w2.setCell ⟨w.heap.size + 1 + 1, 7, none⟩ (.string o)).heap[w.heap.size + 1]? = some (.cells #[.int .i64 0, .int .i64 0, .int .i64 0, .int .i64 0, .int .i64 0, .int .i64 0, .int .i64 0, .string ⟨#[]⟩] 39 (0, 0))) := (Rg.blk_far (by omega) _ _).trans K1b.out
    have G3 : Hid (Below w.heap.size w (w2.setCell ⟨w.heap.size + 1 + 1, 7, none⟩ (.string o))) := Below.setCell KB2.out (p := ⟨w.heap.size + 1 + 1, 7, none⟩) (by first | omega | (simp; done) | (simp; omega)) (.string o)
    clear K1b K2b KB2
    go_upto_region 5 with fail
    generalize w2.setCell ⟨w.heap.size + 1 + 1, 7, none⟩ (.string o) = w9 at B3 A3 G3 ⊢
    clear s7 t7
    have p0 := (Rg.blk_cell B3.out 0 (x := .int .i64 n) rfl).1
    have p1 := (Rg.blk_cell B3.out 1 (x := .int .i64 c) rfl).1
    have p2 := (Rg.blk_cell B3.out 2 (x := .int .i64 s) rfl).1
    have p3 := (Rg.blk_cell B3.out 3 (x := .int .i64 k) rfl).1
    have p4 := (Rg.blk_cell B3.out 4 (x := .int .i64 t) rfl).1
    have p5 := (Rg.blk_cell B3.out 5 (x := .int .i64 h) rfl).1
    have p6 := (Rg.blk_cell B3.out 6 (x := .int .i64 e0) rfl).1
    have p7 := (Rg.blk_cell B3.out 7 (x := .string o) rfl).1
    obtain ⟨m0, n0⟩ := Rg.blk_cell A3.out 0 (x := .int .i64 0) rfl
    obtain ⟨m1, n1⟩ := Rg.blk_cell A3.out 1 (x := .int .i64 0) rfl
    obtain ⟨m2, n2⟩ := Rg.blk_cell A3.out 2 (x := .int .i64 0) rfl
    obtain ⟨m3, n3⟩ := Rg.blk_cell A3.out 3 (x := .int .i64 0) rfl
    obtain ⟨m4, n4⟩ := Rg.blk_cell A3.out 4 (x := .int .i64 0) rfl
    obtain ⟨m5, n5⟩ := Rg.blk_cell A3.out 5 (x := .int .i64 0) rfl
    obtain ⟨m6, n6⟩ := Rg.blk_cell A3.out 6 (x := .int .i64 0) rfl
    obtain ⟨m7, n7⟩ := Rg.blk_cell A3.out 7 (x := .string ⟨#[]⟩) rfl
    have AF : ((((((((w9.setCell ⟨w.heap.size + 1, 0, none⟩ (.int .i64 n)).setCell ⟨w.heap.size + 1, 1, none⟩ (.int .i64 c)).setCell ⟨w.heap.size + 1, 2, none⟩ (.int .i64 s)).setCell ⟨w.heap.size + 1, 3, none⟩ (.int .i64 k)).setCell ⟨w.heap.size + 1, 4, none⟩ (.int .i64 t)).setCell ⟨w.heap.size + 1, 5, none⟩ (.int .i64 h)).setCell ⟨w.heap.size + 1, 6, none⟩ (.int .i64 e0)).setCell ⟨w.heap.size + 1, 7, none⟩ (.string o)).heap[w.heap.size + 1]? = some (.cells #[.int .i64 n, .int .i64 c, .int .i64 s, .int .i64 k, .int .i64 t, .int .i64 h, .int .i64 e0, .string o] 39 (0, 0)) := (Rg.blk_set (Rg.blk_set (Rg.blk_set (Rg.blk_set (Rg.blk_set (Rg.blk_set (Rg.blk_set (Rg.blk_set A3.out _ _) _ _) _ _) _ _) _ _) _ _) _ _) _ _)
    have GF : Below w.heap.size w ((((((((w9.setCell ⟨w.heap.size + 1, 0, none⟩ (.int .i64 n)).setCell ⟨w.heap.size + 1, 1, none⟩ (.int .i64 c)).setCell ⟨w.heap.size + 1, 2, none⟩ (.int .i64 s)).setCell ⟨w.heap.size + 1, 3, none⟩ (.int .i64 k)).setCell ⟨w.heap.size + 1, 4, none⟩ (.int .i64 t)).setCell ⟨w.heap.size + 1, 5, none⟩ (.int .i64 h)).setCell ⟨w.heap.size + 1, 6, none⟩ (.int .i64 e0)).setCell ⟨w.heap.size + 1, 7, none⟩ (.string o)) := (Below.setCell (Below.setCell (Below.setCell (Below.setCell (Below.setCell (Below.setCell (Below.setCell (Below.setCell G3.out (p := ⟨w.heap.size + 1, 0, none⟩) (by first | omega | (simp; done) | (simp; omega)) (.int .i64 n)) (p := ⟨w.heap.size + 1, 1, none⟩) (by first | omega | (simp; done) | (simp; omega)) (.int .i64 c)) (p := ⟨w.heap.size + 1, 2, none⟩) (by first | omega | (simp; done) | (simp; omega)) (.int .i64 s)) (p := ⟨w.heap.size + 1, 3, none⟩) (by first | omega | (simp; done) | (simp; omega)) (.int .i64 k)) (p := ⟨w.heap.size + 1, 4, none⟩) (by first | omega | (simp; done) | (simp; omega)) (.int .i64 t)) (p := ⟨w.heap.size + 1, 5, none⟩) (by first | omega | (simp; done) | (simp; omega)) (.int .i64 h)) (p := ⟨w.heap.size + 1, 6, none⟩) (by first | omega | (simp; done) | (simp; omega)) (.int .i64 e0)) (p := ⟨w.heap.size + 1, 7, none⟩) (by first | omega | (simp; done) | (simp; omega)) (.string o))
    go_wp2_with fail
    generalize ((((((((w9.setCell ⟨w.heap.size + 1, 0, none⟩ (.int .i64 n)).setCell ⟨w.heap.size + 1, 1, none⟩ (.int .i64 c)).setCell ⟨w.heap.size + 1, 2, none⟩ (.int .i64 s)).setCell ⟨w.heap.size + 1, 3, none⟩ (.int .i64 k)).setCell ⟨w.heap.size + 1, 4, none⟩ (.int .i64 t)).setCell ⟨w.heap.size + 1, 5, none⟩ (.int .i64 h)).setCell ⟨w.heap.size + 1, 6, none⟩ (.int .i64 e0)).setCell ⟨w.heap.size + 1, 7, none⟩ (.string o)) = wf at AF GF ⊢
    have d0 := (Rg.blk_cell AF 0 (x := .int .i64 n) rfl).1
    have d1 := (Rg.blk_cell AF 1 (x := .int .i64 c) rfl).1
    have d2 := (Rg.blk_cell AF 2 (x := .int .i64 s) rfl).1
    have d3 := (Rg.blk_cell AF 3 (x := .int .i64 k) rfl).1
    have d4 := (Rg.blk_cell AF 4 (x := .int .i64 t) rfl).1
    have d5 := (Rg.blk_cell AF 5 (x := .int .i64 h) rfl).1
    have d6 := (Rg.blk_cell AF 6 (x := .int .i64 e0) rfl).1
    have d7 := (Rg.blk_cell AF 7 (x := .string o) rfl).1
    exact bodyPost_ret (v := .tuple #[.agg #[.int .i64 n, .int .i64 c, .int .i64 s, .int .i64 k, .int .i64 t, .int .i64 h, .int .i64 e0, .string o], .int .i64 0]) (by simp [results, Tryd.results9, go_sem, d0, d1, d2, d3, d4, d5, d6, d7]) rfl ⟨mk_ret (x := ⟨n, c, s, k, t, h, e0, o⟩) ⟨HE.out.1.symm, HE.out.2.symm⟩, GF⟩
/-- Whether a reply is right; whether it is one of these nodes' own. -/
def lokB (n : Int) (x : Re) : Bool := foB x && (decide (x.nd < n) && ((rymk x).toList == x.mc.toList))
def rokB (n : Int) (x : Re) : Bool := decide (fCode n = 0) && lokB n x
def ndB (n i : Int) : Bool := decide (fCode n = 0) && inR i 0 (n - 1)
theorem f_in {n : Int} (h : fCode n = 0) : 1 ≤ n ∧ n ≤ 7 := by
  rcases f_cases n with rfl | rfl | rfl | ⟨_, _, _, _, hc⟩
  · decide
  · decide
  · decide
  · rw [hc] at h; cases h
theorem rok_nd {n : Int} {x : Re} (h : ndB n x.nd = false) : rokB n x = false := by
  unfold rokB lokB
  unfold ndB at h
  cases h1 : decide (fCode n = 0) with
  | false => rfl
  | true =>
    rw [h1] at h
    cases h2 : foB x with
    | false => rfl
    | true =>
      have := (fo_nat h2).1
      have hn : ¬ x.nd < n := fun hn => by
        have : inR x.nd 0 (n - 1) = true := by unfold inR; simp; omega
        rw [this] at h; cases h
      rw [decide_eq_false hn]; rfl
theorem rok_fo {n : Int} {x : Re} (h : foB x = false) : rokB n x = false := by unfold rokB lokB; rw [h]; simp
theorem rok_eq {n : Int} {x : Re} (h1 : ndB n x.nd = true) (h2 : foB x = true) : rokB n x = (x.mc.toList == (rymk x).toList) := by
  unfold rokB lokB
  unfold ndB at h1
  rw [Bool.and_eq_true] at h1
  have := inR_nat h1.2
  rw [h1.1, h2, decide_eq_true (by omega : x.nd < n)]
  simp only [Bool.true_and]
  exact Bool.beq_comm
set_option maxRecDepth 100000 in
set_option maxHeartbeats 1600000 in
theorem isNodeOf_any (id n : Int) (w : World) : Calls Tryd.prog 29 #[.int .i64 n, .int .i64 id] w fun e w' => e = .returned (.bool (ndB n id)) ∧ w = w' := by
  by_cases h : fCode n = 0
  · have hb := f_in h
    have HO : Hid (ndB n id = inR id 0 (n - 1)) := by show _ = _; unfold ndB; rw [decide_eq_true h]; rfl
    rw [HO.out]
    have HF := implFaultsOf_any n w
    rw [h] at HF
    clear h
    go_enter Tryd.func29, Tryd.ntmps29
    go_wp2_with fail
    refine HF.mono ?_
    rintro e w1 ⟨rfl, hw⟩
    rw [hw]
    clear hw
    go_wp2_with fail
    refine (within_any id 0 (n - 1) w).mono ?_
    rintro e w2 ⟨rfl, rfl⟩
    go_wp2_with fail
    go_ret
    exact ⟨rfl, rfl⟩
  · have HO : Hid (ndB n id = false) := by show _ = _; unfold ndB; rw [decide_eq_false h]; rfl
    rw [HO.out]
    have HF := implFaultsOf_any n w
    have hc : fCode n = 4 := by
      rcases f_cases n with rfl | rfl | rfl | ⟨_, _, _, _, hc⟩
      · exact absurd (by decide) h
      · exact absurd (by decide) h
      · exact absurd (by decide) h
      · exact hc
    rw [hc] at HF
    clear h hc
    go_enter Tryd.func29, Tryd.ntmps29
    go_wp2_with fail
    refine HF.mono ?_
    rintro e w1 ⟨rfl, hw⟩
    rw [hw]
    clear hw
    go_wp2_with fail
    go_ret
    exact ⟨rfl, rfl⟩
set_option maxRecDepth 100000 in
set_option maxHeartbeats 1600000 in
theorem implReplyOK_any (n : Int) (x : Re) (w : World) (hK : KTab w) (hp : 0 < w.heap.size) :
    Calls Tryd.prog 20 #[.int .i64 n, oneV x] w fun e w' => e = .returned (.bool (rokB n x)) ∧ Below w.heap.size w w' := by
  have HX : Hid (∀ W, Below (w.alloc (.cells #[.int .i64 x.nd, .int .i64 x.cl, .int .i64 x.st, .int .i64 x.kd, .int .i64 x.tk, .int .i64 x.hd, .int .i64 x.ex, .string x.mc] 39)).heap.size (w.alloc (.cells #[.int .i64 x.nd, .int .i64 x.cl, .int .i64 x.st, .int .i64 x.kd, .int .i64 x.tk, .int .i64 x.hd, .int .i64 x.ex, .string x.mc] 39)) W → (W.cell? ⟨w.heap.size, 0, none⟩ = some (.int .i64 x.nd) ∧ W.cell? ⟨w.heap.size, 1, none⟩ = some (.int .i64 x.cl) ∧ W.cell? ⟨w.heap.size, 2, none⟩ = some (.int .i64 x.st) ∧ W.cell? ⟨w.heap.size, 3, none⟩ = some (.int .i64 x.kd) ∧ W.cell? ⟨w.heap.size, 4, none⟩ = some (.int .i64 x.tk) ∧ W.cell? ⟨w.heap.size, 5, none⟩ = some (.int .i64 x.hd) ∧ W.cell? ⟨w.heap.size, 6, none⟩ = some (.int .i64 x.ex) ∧ W.cell? ⟨w.heap.size, 7, none⟩ = some (.string x.mc)) ∧ Below w.heap.size w W) := fun W hW => by
    have h1 := (hW.block w.heap.size (by simp)).trans (heap_alloc_new w _)
    exact ⟨⟨(Rg.blk_cell h1 0 rfl).1, (Rg.blk_cell h1 1 rfl).1, (Rg.blk_cell h1 2 rfl).1, (Rg.blk_cell h1 3 rfl).1, (Rg.blk_cell h1 4 rfl).1, (Rg.blk_cell h1 5 rfl).1, (Rg.blk_cell h1 6 rfl).1, (Rg.blk_cell h1 7 rfl).1⟩, (bel_new w _).trans (hW.mono (by simp))⟩
  have HN : Hid (∀ W, Calls Tryd.prog 29 #[.int .i64 n, .int .i64 x.nd] W fun e w' => e = .returned (.bool (ndB n x.nd)) ∧ Below W.heap.size W w') := fun W => (isNodeOf_any x.nd n W).mono fun e w' ⟨h1, h2⟩ => ⟨h1, h2 ▸ Below.refl _ _⟩
  have HO : Hid (∀ W, Calls Tryd.prog 18 #[.agg #[.int .i64 x.nd, .int .i64 x.cl, .int .i64 x.st, .int .i64 x.kd, .int .i64 x.tk, .int .i64 x.hd, .int .i64 x.ex, .string x.mc]] W fun e w' => e = .returned (.bool (foB x)) ∧ Below W.heap.size W w') := fun W => markable_any x W
  have GK : Hid (KTab w ∧ 0 < w.heap.size) := ⟨hK, hp⟩
  clear hK hp
  cases h1 : ndB n x.nd with
  | false =>
    rw [h1] at HN
    have HE : Hid (rokB n x = false) := rok_nd h1
    clear h1
    unfold oneV
    go_enter Tryd.func20, Tryd.ntmps20
    go_upto_region 1 with fail
    generalize w.alloc (.cells #[.int .i64 x.nd, .int .i64 x.cl, .int .i64 x.st, .int .i64 x.kd, .int .i64 x.tk, .int .i64 x.hd, .int .i64 x.ex, .string x.mc] 39) = wb at HX ⊢
    obtain ⟨X, hX, W, QI0, QO0⟩ := Qc.klass wb
    have QI : Hid (∀ w', Below wb.heap.size wb w' → ∃ x, w' = W x) := QI0
    have QO : Hid (∀ x, Below wb.heap.size wb (W x)) := QO0
    clear QI0 QO0
    have y0 := fun q => (HX.out _ (QO.out q)).1.1
    have y1 := fun q => (HX.out _ (QO.out q)).1.2.1
    have y2 := fun q => (HX.out _ (QO.out q)).1.2.2.1
    have y3 := fun q => (HX.out _ (QO.out q)).1.2.2.2.1
    have y4 := fun q => (HX.out _ (QO.out q)).1.2.2.2.2.1
    have y5 := fun q => (HX.out _ (QO.out q)).1.2.2.2.2.2.1
    have y6 := fun q => (HX.out _ (QO.out q)).1.2.2.2.2.2.2.1
    have y7 := fun q => (HX.out _ (QO.out q)).1.2.2.2.2.2.2.2
    refine Qc.region_class (W := W) (by kernel_rfl) (by kernel_rfl) (QI.out _ Qc.from_drew) ?_
    repeat (go_big_quiet_step (first | (go_at_call 29; refine (HN.out _).mono ?_; rintro e w2 ⟨rfl, b2⟩; exact ⟨rfl, Qc.back QI.out QO.out b2⟩)))
    refine wpQuiet_nil ?_
    rintro _ ⟨xq, rfl⟩
    have G2 : Hid (Below w.heap.size w (W xq)) := (HX.out _ (QO.out xq)).2
    clear y0 y1 y2 y3 y4 y5 y6 y7
    generalize W xq = wq at G2 ⊢
    go_wp2_with fail
    go_ret
    exact ⟨ret_bool HE.out.symm, G2.out⟩
  | true =>
    rw [h1] at HN
    cases h2 : foB x with
    | false =>
      rw [h2] at HO
      have HE : Hid (rokB n x = false) := rok_fo h2
      clear h1 h2
      unfold oneV
      go_enter Tryd.func20, Tryd.ntmps20
      go_upto_region 1 with fail
      generalize w.alloc (.cells #[.int .i64 x.nd, .int .i64 x.cl, .int .i64 x.st, .int .i64 x.kd, .int .i64 x.tk, .int .i64 x.hd, .int .i64 x.ex, .string x.mc] 39) = wb at HX ⊢
      obtain ⟨X, hX, W, QI0, QO0⟩ := Qc.klass wb
      have QI : Hid (∀ w', Below wb.heap.size wb w' → ∃ x, w' = W x) := QI0
      have QO : Hid (∀ x, Below wb.heap.size wb (W x)) := QO0
      clear QI0 QO0
      have y0 := fun q => (HX.out _ (QO.out q)).1.1
      have y1 := fun q => (HX.out _ (QO.out q)).1.2.1
      have y2 := fun q => (HX.out _ (QO.out q)).1.2.2.1
      have y3 := fun q => (HX.out _ (QO.out q)).1.2.2.2.1
      have y4 := fun q => (HX.out _ (QO.out q)).1.2.2.2.2.1
      have y5 := fun q => (HX.out _ (QO.out q)).1.2.2.2.2.2.1
      have y6 := fun q => (HX.out _ (QO.out q)).1.2.2.2.2.2.2.1
      have y7 := fun q => (HX.out _ (QO.out q)).1.2.2.2.2.2.2.2
      refine Qc.region_class (W := W) (by kernel_rfl) (by kernel_rfl) (QI.out _ Qc.from_drew) ?_
      repeat (go_big_quiet_step (first | (go_at_call 29; refine (HN.out _).mono ?_; rintro e w2 ⟨rfl, b2⟩; exact ⟨rfl, Qc.back QI.out QO.out b2⟩) | (go_at_call 18; refine (HO.out _).mono ?_; rintro e w2 ⟨rfl, b2⟩; exact ⟨rfl, Qc.back QI.out QO.out b2⟩)))
      refine wpQuiet_nil ?_
      rintro _ ⟨xq, rfl⟩
      have G2 : Hid (Below w.heap.size w (W xq)) := (HX.out _ (QO.out xq)).2
      clear y0 y1 y2 y3 y4 y5 y6 y7
      generalize W xq = wq at G2 ⊢
      go_wp2_with fail
      go_ret
      exact ⟨ret_bool HE.out.symm, G2.out⟩
    | true =>
      rw [h2] at HO
      have HE : Hid (rokB n x = (x.mc.toList == (rymk x).toList)) := rok_eq h1 h2
      have HM0 : Hid (∀ W, Below w.heap.size w W → Calls Tryd.prog 19 #[.agg #[.int .i64 x.nd, .int .i64 x.cl, .int .i64 x.st, .int .i64 x.kd, .int .i64 x.tk, .int .i64 x.hd, .int .i64 x.ex, .string x.mc]] W fun e w' => e = .returned (.string (rymk x)) ∧ Below W.heap.size W w') := fun W hW => replyMark_any x W h2 (GK.out.1.below hW GK.out.2) (Nat.lt_of_lt_of_le GK.out.2 hW.size)
      clear h1 h2
      generalize rymk x = o at HE HM0
      unfold oneV
      go_enter Tryd.func20, Tryd.ntmps20
      go_upto_region 1 with fail
      generalize w.alloc (.cells #[.int .i64 x.nd, .int .i64 x.cl, .int .i64 x.st, .int .i64 x.kd, .int .i64 x.tk, .int .i64 x.hd, .int .i64 x.ex, .string x.mc] 39) = wb at HX ⊢
      obtain ⟨X, hX, W, QI0, QO0⟩ := Qc.klass wb
      have QI : Hid (∀ w', Below wb.heap.size wb w' → ∃ x, w' = W x) := QI0
      have QO : Hid (∀ x, Below wb.heap.size wb (W x)) := QO0
      clear QI0 QO0
      have HM : Hid (∀ q, Calls Tryd.prog 19 #[.agg #[.int .i64 x.nd, .int .i64 x.cl, .int .i64 x.st, .int .i64 x.kd, .int .i64 x.tk, .int .i64 x.hd, .int .i64 x.ex, .string x.mc]] (W q) fun e w' => e = .returned (.string o) ∧ Below (W q).heap.size (W q) w') := fun q => HM0.out _ (HX.out _ (QO.out q)).2
      have y0 := fun q => (HX.out _ (QO.out q)).1.1
      have y1 := fun q => (HX.out _ (QO.out q)).1.2.1
      have y2 := fun q => (HX.out _ (QO.out q)).1.2.2.1
      have y3 := fun q => (HX.out _ (QO.out q)).1.2.2.2.1
      have y4 := fun q => (HX.out _ (QO.out q)).1.2.2.2.2.1
      have y5 := fun q => (HX.out _ (QO.out q)).1.2.2.2.2.2.1
      have y6 := fun q => (HX.out _ (QO.out q)).1.2.2.2.2.2.2.1
      have y7 := fun q => (HX.out _ (QO.out q)).1.2.2.2.2.2.2.2
      refine Qc.region_class (W := W) (by kernel_rfl) (by kernel_rfl) (QI.out _ Qc.from_drew) ?_
      repeat (go_big_quiet_step (first | (go_at_call 29; refine (HN.out _).mono ?_; rintro e w2 ⟨rfl, b2⟩; exact ⟨rfl, Qc.back QI.out QO.out b2⟩) | (go_at_call 18; refine (HO.out _).mono ?_; rintro e w2 ⟨rfl, b2⟩; exact ⟨rfl, Qc.back QI.out QO.out b2⟩) | (go_at_call 19; refine (HM.out _).mono ?_; rintro e w2 ⟨rfl, b2⟩; exact ⟨rfl, Qc.back QI.out QO.out b2⟩)))
      refine wpQuiet_nil ?_
      rintro _ ⟨xq, rfl⟩
      have G2 : Hid (Below w.heap.size w (W xq)) := (HX.out _ (QO.out xq)).2
      clear y0 y1 y2 y3 y4 y5 y6 y7
      generalize W xq = wq at G2 ⊢
      go_wp2_with fail
      go_ret
      exact ⟨ret_bool HE.out.symm, G2.out⟩
end Go.Proofs.YtiflfcpoajijaaaDoor.Ry
