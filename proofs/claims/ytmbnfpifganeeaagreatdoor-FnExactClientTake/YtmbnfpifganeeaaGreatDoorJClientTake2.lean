/- Texts put together: Cln, Clo, Clp, Clq. -/
import Derived.Test.YtmbnfpifganeeaaGreatDoorJClientTake1
import Derived.BigQuiet
import Derived.Laws.StructEq
import Derived.Test.YtmbnfpifganeeaaGreatDoorJClientTake0
import Derived.Test.YtmbnfpifganeeaaGreatDoorQc
/- ClientTake of the specification. -/
namespace Go.Proofs.YtmbnfpifganeeaaGreatDoor.Cl
open Go.RowKit Go.Proofs.YtmbnfpifganeeaaGreatDoor.Sl Go.Proofs.YtmbnfpifganeeaaGreatDoor.Rg
open Go.Proofs.YtmbnfpifganeeaaGreatDoor.Gy (Re)
open Go.Proofs.YtmbnfpifganeeaaGreatDoor.Rk (An anV ccR ccA ccC cc_cases implCountReplies_any)
open Go.Proofs.YtmbnfpifganeeaaGreatDoor.Rq (reqB implRequestOK_any)
open Go.Proofs.YtmbnfpifganeeaaGreatDoor.Ry (anB answerOK_any rokB lokB implReplyOK_any)
open Go.Proofs.YtmbnfpifganeeaaGreatDoor.Rm (inR within_any)
open Go.Proofs.YtmbnfpifganeeaaGreatDoor.Tm (fCode fOut f_cases implFaultsOf_any)
open Go.Proofs.YtmbnfpifganeeaaGreatDoor.Sh (KTab KTab.below)

open Go.Proofs.YtmbnfpifganeeaaGreatDoor.Rr11 (OwnR)
open Go.Proofs.YtmbnfpifganeeaaGreatDoor.Ox (OwnX)
theorem tk_ts {n : Int} {c : Cd} {x : Re} (h : okB n c = true) : tkR n c x = tsR n c x ∧ tkC n c x = tsC n c x := by unfold tkR tkC; rw [h]; exact ⟨rfl, rfl⟩
theorem ok_parts {n : Int} {c : Cd} (h : okB n c = true) : fCode n = 0 ∧ c.re.length ≤ 40 := by
  refine ⟨?_, ?_⟩
  · by_cases h1 : fCode n = 0
    · exact h1
    · rw [ok_n h1] at h; cases h
  · by_cases h1 : c.re.length ≤ 40
    · exact h1
    · rw [ok_long h1] at h; cases h
theorem ts_len (n : Int) (c : Cd) (x : Re) : (tsR n c x).re.length ≤ c.re.length + 1 ∧ (tsR n c x).ac.length ≤ c.ac.length + 1 := by
  have a1 : (addR c x).re.length = c.re.length + 1 := by show (c.re ++ [x]).length = _; rw [List.length_append]; rfl
  have a2 : (addR c x).ac.length = c.ac.length := rfl
  have b1 : ∀ a, (fin c a).re.length = 0 := fun a => rfl
  have b2 : ∀ a, (fin c a).ac.length = c.ac.length + 1 := fun a => by show (c.ac ++ [a]).length = _; rw [List.length_append]; rfl
  unfold tsR hdR
  repeat' split
  all_goals (refine ⟨?_, ?_⟩ <;> first | exact Nat.le_succ _ | exact Nat.le_of_eq a1 | exact Nat.le_of_eq (b2 _) | exact Nat.le_trans (Nat.le_of_eq a2) (Nat.le_succ _) | exact Nat.le_trans (Nat.le_of_eq (b1 _)) (Nat.zero_le _))
set_option maxRecDepth 100000 in
set_option maxHeartbeats 1600000 in
theorem specClientTake_any (n : Int) (c : Cd) (vr va : Value) (x : Re) (w : World) (h : Has w c vr va) (hz : Tc 1048576 c) :
    Calls Tryz.prog 6 #[.int .i64 n, clV c vr va, Gy.oneV x] w fun e w' => ∃ vr' va', e = .returned (.tuple #[clV (tkR n c x) vr' va', .int .i64 (tkC n c x)]) ∧ Hid (Mine w' w.heap.size (tkR n c x) vr' va') ∧ Below w.heap.size w w' := by
  have HR : Hid (∀ W, Below w.heap.size w W → Has W c vr va) := fun W hW => h.below hW
  have HZ : Hid (Tc 1048576 c) := hz
  obtain ⟨ar, kr, rfl⟩ := RowG.slice h.1
  obtain ⟨aa, ka, rfl⟩ := RowG.slice h.2
  clear h hz
  have HX : Hid (∀ W, Below (((w.alloc (.cells #[.int .i64 c.id, .int .i64 c.st, .bool c.bu, .int .i64 c.rc, .int .i64 c.rs, .int .i64 c.rk, .int .i64 c.rl, .string c.rn, .slice ar c.re.length kr, .slice aa c.ac.length ka] 38)).alloc (.cells #[.int .i64 x.nd, .int .i64 x.cl, .int .i64 x.st, .int .i64 x.kd, .int .i64 x.tk, .int .i64 x.hd, .int .i64 x.ex, .string x.mc] 44)).alloc (.cells #[.int .i64 0, .int .i64 0, .bool false, .int .i64 0, .int .i64 0, .int .i64 0, .int .i64 0, .string ⟨#[]⟩, .slice none 0 0, .slice none 0 0] 38)).heap.size (((w.alloc (.cells #[.int .i64 c.id, .int .i64 c.st, .bool c.bu, .int .i64 c.rc, .int .i64 c.rs, .int .i64 c.rk, .int .i64 c.rl, .string c.rn, .slice ar c.re.length kr, .slice aa c.ac.length ka] 38)).alloc (.cells #[.int .i64 x.nd, .int .i64 x.cl, .int .i64 x.st, .int .i64 x.kd, .int .i64 x.tk, .int .i64 x.hd, .int .i64 x.ex, .string x.mc] 44)).alloc (.cells #[.int .i64 0, .int .i64 0, .bool false, .int .i64 0, .int .i64 0, .int .i64 0, .int .i64 0, .string ⟨#[]⟩, .slice none 0 0, .slice none 0 0] 38)) W → (W.heap[w.heap.size]? = some (.cells #[.int .i64 c.id, .int .i64 c.st, .bool c.bu, .int .i64 c.rc, .int .i64 c.rs, .int .i64 c.rk, .int .i64 c.rl, .string c.rn, .slice ar c.re.length kr, .slice aa c.ac.length ka] 38) ∧ W.heap[w.heap.size + 1]? = some (.cells #[.int .i64 x.nd, .int .i64 x.cl, .int .i64 x.st, .int .i64 x.kd, .int .i64 x.tk, .int .i64 x.hd, .int .i64 x.ex, .string x.mc] 44) ∧ W.heap[w.heap.size + 1 + 1]? = some (.cells #[.int .i64 0, .int .i64 0, .bool false, .int .i64 0, .int .i64 0, .int .i64 0, .int .i64 0, .string ⟨#[]⟩, .slice none 0 0, .slice none 0 0] 38)) ∧ Below w.heap.size w W ∧ w.heap.size + 1 + 1 + 1 ≤ W.heap.size) := fun W hW => three hW
  have HOK : Hid (∀ W, Below w.heap.size w W → Calls Tryz.prog 16 #[.int .i64 n, .agg #[.int .i64 c.id, .int .i64 c.st, .bool c.bu, .int .i64 c.rc, .int .i64 c.rs, .int .i64 c.rk, .int .i64 c.rl, .string c.rn, .slice ar c.re.length kr, .slice aa c.ac.length ka]] W fun e w' => e = .returned (.bool (okB n c)) ∧ Below W.heap.size W w') := fun W hW => specClientOK_any n c _ _ W (HR.out W hW) HZ.out
  unfold clV Gy.oneV
  go_enter Tryz.func6, Tryz.ntmps6
  go_upto_region 1 with fail
  generalize (((w.alloc (.cells #[.int .i64 c.id, .int .i64 c.st, .bool c.bu, .int .i64 c.rc, .int .i64 c.rs, .int .i64 c.rk, .int .i64 c.rl, .string c.rn, .slice ar c.re.length kr, .slice aa c.ac.length ka] 38)).alloc (.cells #[.int .i64 x.nd, .int .i64 x.cl, .int .i64 x.st, .int .i64 x.kd, .int .i64 x.tk, .int .i64 x.hd, .int .i64 x.ex, .string x.mc] 44)).alloc (.cells #[.int .i64 0, .int .i64 0, .bool false, .int .i64 0, .int .i64 0, .int .i64 0, .int .i64 0, .string ⟨#[]⟩, .slice none 0 0, .slice none 0 0] 38)) = wb at HX ⊢
  have X0 := HX.out wb (Below.refl _ _)
  have c0 := (Rg.blk_cell X0.1.1 0 (x := .int .i64 c.id) rfl).1
  have c1 := (Rg.blk_cell X0.1.1 1 (x := .int .i64 c.st) rfl).1
  have c2 := (Rg.blk_cell X0.1.1 2 (x := .bool c.bu) rfl).1
  have c3 := (Rg.blk_cell X0.1.1 3 (x := .int .i64 c.rc) rfl).1
  have c4 := (Rg.blk_cell X0.1.1 4 (x := .int .i64 c.rs) rfl).1
  have c5 := (Rg.blk_cell X0.1.1 5 (x := .int .i64 c.rk) rfl).1
  have c6 := (Rg.blk_cell X0.1.1 6 (x := .int .i64 c.rl) rfl).1
  have c7 := (Rg.blk_cell X0.1.1 7 (x := .string c.rn) rfl).1
  have c8 := (Rg.blk_cell X0.1.1 8 (x := .slice ar c.re.length kr) rfl).1
  have c9 := (Rg.blk_cell X0.1.1 9 (x := .slice aa c.ac.length ka) rfl).1
  have HK := HOK.out wb X0.2.1
  clear X0 HOK
  go_wp2_with fail
  refine HK.mono ?_
  rintro e w2 ⟨rfl, b2⟩
  have B2 : Hid (Below wb.heap.size wb w2) := b2
  clear b2 HK c0 c1 c2 c3 c4 c5 c6 c7 c8 c9
  cases hok : okB n c with
  | false =>
    have HV : Hid (tkR n c x = zC ∧ tkC n c x = 1) := tk_bad hok
    clear hok
    have Z9 := HX.out w2 (B2.out)
    obtain ⟨z0, fz0⟩ := Rg.blk_cell Z9.1.2.2 0 (x := .int .i64 0) rfl
    obtain ⟨z1, fz1⟩ := Rg.blk_cell Z9.1.2.2 1 (x := .int .i64 0) rfl
    obtain ⟨z2, fz2⟩ := Rg.blk_cell Z9.1.2.2 2 (x := .bool false) rfl
    obtain ⟨z3, fz3⟩ := Rg.blk_cell Z9.1.2.2 3 (x := .int .i64 0) rfl
    obtain ⟨z4, fz4⟩ := Rg.blk_cell Z9.1.2.2 4 (x := .int .i64 0) rfl
    obtain ⟨z5, fz5⟩ := Rg.blk_cell Z9.1.2.2 5 (x := .int .i64 0) rfl
    obtain ⟨z6, fz6⟩ := Rg.blk_cell Z9.1.2.2 6 (x := .int .i64 0) rfl
    obtain ⟨z7, fz7⟩ := Rg.blk_cell Z9.1.2.2 7 (x := .string ⟨#[]⟩) rfl
    obtain ⟨z8, fz8⟩ := Rg.blk_cell Z9.1.2.2 8 (x := .slice none 0 0) rfl
    obtain ⟨z9, fz9⟩ := Rg.blk_cell Z9.1.2.2 9 (x := .slice none 0 0) rfl
    obtain ⟨AF, HFB, GF0⟩ := set10 (.int .i64 0) (.int .i64 0) (.bool false) (.int .i64 0) (.int .i64 0) (.int .i64 0) (.int .i64 0) (.string ⟨#[]⟩) (.slice none 0 0) (.slice none 0 0) (.int .i64 0) (.int .i64 0) (.bool false) (.int .i64 0) (.int .i64 0) (.int .i64 0) (.int .i64 0) (.string ⟨#[]⟩) (.slice none 0 0) (.slice none 0 0) Z9.1.2.2
    have GF := GF0 (Z9.2.1) (Nat.le_trans (Nat.le_succ _) (Nat.le_succ _))
    have KF : Hid (Mine ((((((((((w2.setCell ⟨w.heap.size + 1 + 1, 0, none⟩ (.int .i64 0)).setCell ⟨w.heap.size + 1 + 1, 1, none⟩ (.int .i64 0)).setCell ⟨w.heap.size + 1 + 1, 2, none⟩ (.bool false)).setCell ⟨w.heap.size + 1 + 1, 3, none⟩ (.int .i64 0)).setCell ⟨w.heap.size + 1 + 1, 4, none⟩ (.int .i64 0)).setCell ⟨w.heap.size + 1 + 1, 5, none⟩ (.int .i64 0)).setCell ⟨w.heap.size + 1 + 1, 6, none⟩ (.int .i64 0)).setCell ⟨w.heap.size + 1 + 1, 7, none⟩ (.string ⟨#[]⟩)).setCell ⟨w.heap.size + 1 + 1, 8, none⟩ (.slice none 0 0)).setCell ⟨w.heap.size + 1 + 1, 9, none⟩ (.slice none 0 0)) w.heap.size zC (.slice none 0 0) (.slice none 0 0)) := ⟨Rr11.OwnR.nil _ _, Ox.OwnX.nil _ _⟩
    clear GF0 HFB Z9 
    go_wp2_with fail
    generalize ((((((((((w2.setCell ⟨w.heap.size + 1 + 1, 0, none⟩ (.int .i64 0)).setCell ⟨w.heap.size + 1 + 1, 1, none⟩ (.int .i64 0)).setCell ⟨w.heap.size + 1 + 1, 2, none⟩ (.bool false)).setCell ⟨w.heap.size + 1 + 1, 3, none⟩ (.int .i64 0)).setCell ⟨w.heap.size + 1 + 1, 4, none⟩ (.int .i64 0)).setCell ⟨w.heap.size + 1 + 1, 5, none⟩ (.int .i64 0)).setCell ⟨w.heap.size + 1 + 1, 6, none⟩ (.int .i64 0)).setCell ⟨w.heap.size + 1 + 1, 7, none⟩ (.string ⟨#[]⟩)).setCell ⟨w.heap.size + 1 + 1, 8, none⟩ (.slice none 0 0)).setCell ⟨w.heap.size + 1 + 1, 9, none⟩ (.slice none 0 0)) = wf at AF GF KF ⊢
    have d0 := (Rg.blk_cell AF 0 (x := .int .i64 0) rfl).1
    have d1 := (Rg.blk_cell AF 1 (x := .int .i64 0) rfl).1
    have d2 := (Rg.blk_cell AF 2 (x := .bool false) rfl).1
    have d3 := (Rg.blk_cell AF 3 (x := .int .i64 0) rfl).1
    have d4 := (Rg.blk_cell AF 4 (x := .int .i64 0) rfl).1
    have d5 := (Rg.blk_cell AF 5 (x := .int .i64 0) rfl).1
    have d6 := (Rg.blk_cell AF 6 (x := .int .i64 0) rfl).1
    have d7 := (Rg.blk_cell AF 7 (x := .string ⟨#[]⟩) rfl).1
    have d8 := (Rg.blk_cell AF 8 (x := .slice none 0 0) rfl).1
    have d9 := (Rg.blk_cell AF 9 (x := .slice none 0 0) rfl).1
    exact bodyPost_ret (v := .tuple #[.agg #[.int .i64 0, .int .i64 0, .bool false, .int .i64 0, .int .i64 0, .int .i64 0, .int .i64 0, .string ⟨#[]⟩, .slice none 0 0, .slice none 0 0], .int .i64 1]) (by simp [results, Tryz.results6, go_sem, d0, d1, d2, d3, d4, d5, d6, d7, d8, d9]) rfl ⟨_, _, ret_tup (by rw [HV.out.1] <;> rfl) HV.out.2.symm, by rw [HV.out.1]; exact KF, GF⟩
  | true =>
  have HV : Hid (tkR n c x = tsR n c x ∧ tkC n c x = tsC n c x) := tk_ts hok
  have HP := ok_parts hok
  have HLN : Hid ((tsR n c x).re.length ≤ c.re.length + 1 ∧ (tsR n c x).ac.length ≤ c.ac.length + 1) := ts_len n c x
  clear hok
  have X2 := HX.out w2 B2.out
  have c0 := (Rg.blk_cell X2.1.1 0 (x := .int .i64 c.id) rfl).1
  have c1 := (Rg.blk_cell X2.1.1 1 (x := .int .i64 c.st) rfl).1
  have c2 := (Rg.blk_cell X2.1.1 2 (x := .bool c.bu) rfl).1
  have c3 := (Rg.blk_cell X2.1.1 3 (x := .int .i64 c.rc) rfl).1
  have c4 := (Rg.blk_cell X2.1.1 4 (x := .int .i64 c.rs) rfl).1
  have c5 := (Rg.blk_cell X2.1.1 5 (x := .int .i64 c.rk) rfl).1
  have c6 := (Rg.blk_cell X2.1.1 6 (x := .int .i64 c.rl) rfl).1
  have c7 := (Rg.blk_cell X2.1.1 7 (x := .string c.rn) rfl).1
  have c8 := (Rg.blk_cell X2.1.1 8 (x := .slice ar c.re.length kr) rfl).1
  have c9 := (Rg.blk_cell X2.1.1 9 (x := .slice aa c.ac.length ka) rfl).1
  have e0 := (Rg.blk_cell X2.1.2.1 0 (x := .int .i64 x.nd) rfl).1
  have e1 := (Rg.blk_cell X2.1.2.1 1 (x := .int .i64 x.cl) rfl).1
  have e2 := (Rg.blk_cell X2.1.2.1 2 (x := .int .i64 x.st) rfl).1
  have e3 := (Rg.blk_cell X2.1.2.1 3 (x := .int .i64 x.kd) rfl).1
  have e4 := (Rg.blk_cell X2.1.2.1 4 (x := .int .i64 x.tk) rfl).1
  have e5 := (Rg.blk_cell X2.1.2.1 5 (x := .int .i64 x.hd) rfl).1
  have e6 := (Rg.blk_cell X2.1.2.1 6 (x := .int .i64 x.ex) rfl).1
  have e7 := (Rg.blk_cell X2.1.2.1 7 (x := .string x.mc) rfl).1
  have HK := l13Take_any n c _ _ x w2 (HR.out _ X2.2.1) HZ.out HP.1 HP.2
  clear X2 HP
  unfold clV Gy.oneV at HK
  generalize tsR n c x = d at HK HV HLN
  generalize tsC n c x = kk at HK HV
  go_wp2_with fail
  refine HK.mono ?_
  rintro e w3 ⟨vr3, va3, rfl, hm3, b3⟩
  obtain ⟨a3, k3, rfl⟩ := RowG.slice hm3.out.1
  obtain ⟨a4, k4, rfl⟩ := RowG.slice hm3.out.2
  have Y3 : Hid ((w3.alloc (.cells #[.int .i64 d.id, .int .i64 d.st, .bool d.bu, .int .i64 d.rc, .int .i64 d.rs, .int .i64 d.rk, .int .i64 d.rl, .string d.rn, .slice a3 d.re.length k3, .slice a4 d.ac.length k4] 38)).heap[w3.heap.size]? = some (.cells #[.int .i64 d.id, .int .i64 d.st, .bool d.bu, .int .i64 d.rc, .int .i64 d.rs, .int .i64 d.rk, .int .i64 d.rl, .string d.rn, .slice a3 d.re.length k3, .slice a4 d.ac.length k4] 38) ∧ Has (w3.alloc (.cells #[.int .i64 d.id, .int .i64 d.st, .bool d.bu, .int .i64 d.rc, .int .i64 d.rs, .int .i64 d.rk, .int .i64 d.rl, .string d.rn, .slice a3 d.re.length k3, .slice a4 d.ac.length k4] 38)) d (.slice a3 d.re.length k3) (.slice a4 d.ac.length k4) ∧ Below wb.heap.size wb (w3.alloc (.cells #[.int .i64 d.id, .int .i64 d.st, .bool d.bu, .int .i64 d.rc, .int .i64 d.rs, .int .i64 d.rk, .int .i64 d.rl, .string d.rn, .slice a3 d.re.length k3, .slice a4 d.ac.length k4] 38))) := ⟨heap_alloc_new _ _, hm3.out.below (bel_new _ _), B2.out.trans ((b3.alloc b3.size _).mono B2.out.size)⟩
  clear b3 HK hm3 c0 c1 c2 c3 c4 c5 c6 c7 c8 c9
  go_upto_region 4 with fail
  generalize w3.alloc (.cells #[.int .i64 d.id, .int .i64 d.st, .bool d.bu, .int .i64 d.rc, .int .i64 d.rs, .int .i64 d.rk, .int .i64 d.rl, .string d.rn, .slice a3 d.re.length k3, .slice a4 d.ac.length k4] 38) = u3 at Y3 ⊢
  generalize w3.heap.size = b3 at Y3 ⊢
  have c0 := (Rg.blk_cell Y3.out.1 0 (x := .int .i64 d.id) rfl).1
  have c1 := (Rg.blk_cell Y3.out.1 1 (x := .int .i64 d.st) rfl).1
  have c2 := (Rg.blk_cell Y3.out.1 2 (x := .bool d.bu) rfl).1
  have c3 := (Rg.blk_cell Y3.out.1 3 (x := .int .i64 d.rc) rfl).1
  have c4 := (Rg.blk_cell Y3.out.1 4 (x := .int .i64 d.rs) rfl).1
  have c5 := (Rg.blk_cell Y3.out.1 5 (x := .int .i64 d.rk) rfl).1
  have c6 := (Rg.blk_cell Y3.out.1 6 (x := .int .i64 d.rl) rfl).1
  have c7 := (Rg.blk_cell Y3.out.1 7 (x := .string d.rn) rfl).1
  have c8 := (Rg.blk_cell Y3.out.1 8 (x := .slice a3 d.re.length k3) rfl).1
  have c9 := (Rg.blk_cell Y3.out.1 9 (x := .slice a4 d.ac.length k4) rfl).1
  have HK := l13Own_any d _ _ u3 Y3.out.2.1 (by have := HLN.out.1; have := HZ.out.2.1; omega) (by have := HLN.out.2; have := HZ.out.2.2.1; omega)
  unfold clV at HK
  go_wp2_with fail
  refine HK.mono ?_
  rintro e w4 ⟨vr4, va4, rfl, hm4, b4⟩
  obtain ⟨a5, k5, rfl⟩ := hm4.out.1.slice
  obtain ⟨a6, k6, rfl⟩ := hm4.out.2.slice
  have B4 : Hid (Below wb.heap.size wb w4) := Y3.out.2.2.trans (b4.mono Y3.out.2.2.size)
  have HM4 : Hid (Mine w4 u3.heap.size d (.slice a5 d.re.length k5) (.slice a6 d.ac.length k6)) := hm4.out
  have HS : Hid (w.heap.size + 1 + 1 + 1 ≤ u3.heap.size) := (HX.out _ Y3.out.2.2).2.2
  clear b4 HK hm4 Y3 c0 c1 c2 c3 c4 c5 c6 c7 c8 c9
  have Z9 := HX.out w4 (B4.out)
  obtain ⟨z0, fz0⟩ := Rg.blk_cell Z9.1.2.2 0 (x := .int .i64 0) rfl
  obtain ⟨z1, fz1⟩ := Rg.blk_cell Z9.1.2.2 1 (x := .int .i64 0) rfl
  obtain ⟨z2, fz2⟩ := Rg.blk_cell Z9.1.2.2 2 (x := .bool false) rfl
  obtain ⟨z3, fz3⟩ := Rg.blk_cell Z9.1.2.2 3 (x := .int .i64 0) rfl
  obtain ⟨z4, fz4⟩ := Rg.blk_cell Z9.1.2.2 4 (x := .int .i64 0) rfl
  obtain ⟨z5, fz5⟩ := Rg.blk_cell Z9.1.2.2 5 (x := .int .i64 0) rfl
  obtain ⟨z6, fz6⟩ := Rg.blk_cell Z9.1.2.2 6 (x := .int .i64 0) rfl
  obtain ⟨z7, fz7⟩ := Rg.blk_cell Z9.1.2.2 7 (x := .string ⟨#[]⟩) rfl
  obtain ⟨z8, fz8⟩ := Rg.blk_cell Z9.1.2.2 8 (x := .slice none 0 0) rfl
  obtain ⟨z9, fz9⟩ := Rg.blk_cell Z9.1.2.2 9 (x := .slice none 0 0) rfl
  obtain ⟨AF, HFB, GF0⟩ := set10 (.int .i64 0) (.int .i64 0) (.bool false) (.int .i64 0) (.int .i64 0) (.int .i64 0) (.int .i64 0) (.string ⟨#[]⟩) (.slice none 0 0) (.slice none 0 0) (.int .i64 d.id) (.int .i64 d.st) (.bool d.bu) (.int .i64 d.rc) (.int .i64 d.rs) (.int .i64 d.rk) (.int .i64 d.rl) (.string d.rn) (.slice a5 d.re.length k5) (.slice a6 d.ac.length k6) Z9.1.2.2
  have GF := GF0 (Z9.2.1) (Nat.le_trans (Nat.le_succ _) (Nat.le_succ _))
  have KF : Hid (Mine ((((((((((w4.setCell ⟨w.heap.size + 1 + 1, 0, none⟩ (.int .i64 d.id)).setCell ⟨w.heap.size + 1 + 1, 1, none⟩ (.int .i64 d.st)).setCell ⟨w.heap.size + 1 + 1, 2, none⟩ (.bool d.bu)).setCell ⟨w.heap.size + 1 + 1, 3, none⟩ (.int .i64 d.rc)).setCell ⟨w.heap.size + 1 + 1, 4, none⟩ (.int .i64 d.rs)).setCell ⟨w.heap.size + 1 + 1, 5, none⟩ (.int .i64 d.rk)).setCell ⟨w.heap.size + 1 + 1, 6, none⟩ (.int .i64 d.rl)).setCell ⟨w.heap.size + 1 + 1, 7, none⟩ (.string d.rn)).setCell ⟨w.heap.size + 1 + 1, 8, none⟩ (.slice a5 d.re.length k5)).setCell ⟨w.heap.size + 1 + 1, 9, none⟩ (.slice a6 d.ac.length k6)) w.heap.size d (.slice a5 d.re.length k5) (.slice a6 d.ac.length k6)) := (HM4.out.kept (fun g hg _ => HFB g (by have := HS.out; omega))).mono (by have := HS.out; omega)
  clear GF0 HFB Z9 
  go_wp2_with fail
  generalize ((((((((((w4.setCell ⟨w.heap.size + 1 + 1, 0, none⟩ (.int .i64 d.id)).setCell ⟨w.heap.size + 1 + 1, 1, none⟩ (.int .i64 d.st)).setCell ⟨w.heap.size + 1 + 1, 2, none⟩ (.bool d.bu)).setCell ⟨w.heap.size + 1 + 1, 3, none⟩ (.int .i64 d.rc)).setCell ⟨w.heap.size + 1 + 1, 4, none⟩ (.int .i64 d.rs)).setCell ⟨w.heap.size + 1 + 1, 5, none⟩ (.int .i64 d.rk)).setCell ⟨w.heap.size + 1 + 1, 6, none⟩ (.int .i64 d.rl)).setCell ⟨w.heap.size + 1 + 1, 7, none⟩ (.string d.rn)).setCell ⟨w.heap.size + 1 + 1, 8, none⟩ (.slice a5 d.re.length k5)).setCell ⟨w.heap.size + 1 + 1, 9, none⟩ (.slice a6 d.ac.length k6)) = wf at AF GF KF ⊢
  have d0 := (Rg.blk_cell AF 0 (x := .int .i64 d.id) rfl).1
  have d1 := (Rg.blk_cell AF 1 (x := .int .i64 d.st) rfl).1
  have d2 := (Rg.blk_cell AF 2 (x := .bool d.bu) rfl).1
  have d3 := (Rg.blk_cell AF 3 (x := .int .i64 d.rc) rfl).1
  have d4 := (Rg.blk_cell AF 4 (x := .int .i64 d.rs) rfl).1
  have d5 := (Rg.blk_cell AF 5 (x := .int .i64 d.rk) rfl).1
  have d6 := (Rg.blk_cell AF 6 (x := .int .i64 d.rl) rfl).1
  have d7 := (Rg.blk_cell AF 7 (x := .string d.rn) rfl).1
  have d8 := (Rg.blk_cell AF 8 (x := .slice a5 d.re.length k5) rfl).1
  have d9 := (Rg.blk_cell AF 9 (x := .slice a6 d.ac.length k6) rfl).1
  exact bodyPost_ret (v := .tuple #[.agg #[.int .i64 d.id, .int .i64 d.st, .bool d.bu, .int .i64 d.rc, .int .i64 d.rs, .int .i64 d.rk, .int .i64 d.rl, .string d.rn, .slice a5 d.re.length k5, .slice a6 d.ac.length k6], .int .i64 kk]) (by simp [results, Tryz.results6, go_sem, d0, d1, d2, d3, d4, d5, d6, d7, d8, d9]) rfl ⟨_, _, ret_tup (by rw [HV.out.1] <;> rfl) HV.out.2.symm, by rw [HV.out.1]; exact KF, GF⟩
end Go.Proofs.YtmbnfpifganeeaaGreatDoor.Cl

/- The laws' marks on a client that was handed out. -/
namespace Go.Proofs.YtmbnfpifganeeaaGreatDoor.Mkr
open Go.RowKit Go.Proofs.YtmbnfpifganeeaaGreatDoor.Sl Go.Proofs.YtmbnfpifganeeaaGreatDoor.By Go.Proofs.YtmbnfpifganeeaaGreatDoor.Ap
open Go.Proofs.YtmbnfpifganeeaaGreatDoor.Rr11 (OwnR)
open Go.Proofs.YtmbnfpifganeeaaGreatDoor.Gy (Re)
open Go.Proofs.YtmbnfpifganeeaaGreatDoor.Rg (RowG RowG.slice RowG.at bel_new Wr Mid markText_any mtext)
/-- The mark in cell i of the row, counted from a. -/
def mv (a i : Nat) : Value := if i % 8 < 7 then .int .i64 ((a + i : Nat) : Int) else .string (mtext (a + i))
def Up (w : World) (g a n : Nat) : Prop := ∀ i, i < n → w.cell? ⟨g, i, none⟩ = some (mv a i)
theorem Up.below {w w' : World} {g a n : Nat} (h : Up w g a n) (hg : g < w.heap.size) (hb : Below w.heap.size w w') : Up w' g a n := fun i hi => (hb.cell (p := ⟨g, _, none⟩) hg).trans (h i hi)
theorem set_eq {w : World} {g n j : Nat} (h : Wr w g n) (hj : j < n) (x : Value) : (w.setCell ⟨g, j, none⟩ x).cell? ⟨g, j, none⟩ = some x := by
  obtain ⟨A, t, h, hn⟩ := h
  have h1 := Rg.blk_set h j x
  exact (Rg.blk_cell h1 j (x := x) (by rw [Array.getElem?_setIfInBounds, if_pos rfl, if_pos (by omega)])).1
theorem set_ne {w : World} {g i j : Nat} (hne : i ≠ j) (x : Value) : (w.setCell ⟨g, i, none⟩ x).cell? ⟨g, j, none⟩ = w.cell? ⟨g, j, none⟩ :=
  World.cell?_setCell_other _ _ _ _ (fun e => hne (by have := congrArg Addr.off e; exact this))
theorem Up.next {w : World} {g a n N : Nat} (h : Up w g a n) (hw : Wr w g N) (hn : n < N) {x : Value} (hx : x = mv a n) : Up (w.setCell ⟨g, n, none⟩ x) g a (n + 1) := fun i hi => by
  by_cases e : i = n
  · subst e
    rw [set_eq hw hn, hx]
  · exact (set_ne (fun h => e h.symm) _).trans (h i (by omega))
theorem mv_int {a q j : Nat} (hj : j < 7) {r : Int} (hr : r = ((a + (q * 8 + j) : Nat) : Int)) : Value.int .i64 r = mv a (q * 8 + j) := by unfold mv; rw [if_pos (by omega)]; rw [hr]
theorem mv_str {a q j : Nat} (h1 : 7 ≤ j) (h2 : j < 8) {r : Nat} (hr : r = a + (q * 8 + j)) : Value.string (mtext r) = mv a (q * 8 + j) := by unfold mv; rw [if_neg (by omega), hr]
set_option maxRecDepth 100000 in
set_option maxHeartbeats 1600000 in
theorem markM_any (g n cap : Nat) (a : Nat) (w : World) (h : Wr w g (n * 8)) (hn : n ≤ 1048577) (ha : a ≤ 100000000) (ha0 : 0 < a) :
    Calls Tryz.prog 30 #[.slice (some ⟨g, 0, none⟩) n cap, .int .i64 a] w fun e w' => e = .returned (.int .i64 ((a + n * 8 : Nat) : Int)) ∧ Up w' g a (n * 8) ∧ Wr w' g (n * 8) ∧ Mid g (g + 1) w w' := by
  have hB : g ≤ g := Nat.le_refl _
  have hC : g < g + 1 := Nat.lt_succ_self _
  have H : Hid (Wr w g (n * 8)) := h
  clear h
  go_enter Tryz.func30, Tryz.ntmps30
  go_wp2_with fail
  go_loopw [1, 5] (fun k i wr => ∃ q r : Nat, q ≤ n ∧ k = .int .i64 (r : Int) ∧ (r ≤ a + q * 8 ∧ 0 < r) ∧ i = .int .i64 q ∧ Hid (r = a + q * 8) ∧ Hid (Wr wr g (n * 8) ∧ Mid g (g + 1) w wr ∧ Up wr g a (q * 8))) (fun _ i _ => n - (intOf i).toNat)
  case atStart => exact ⟨0, a, by omega, rfl, by omega, rfl, (by show _ = _; omega), H.out, Mid.refl _ _ _, fun i hi => absurd hi (by omega)⟩
  case round =>
    obtain ⟨q, r, hq, rfl, hrb, rfl, HRR, HA⟩ := hrel
    by_cases hlt : q < n
    · have hsz : q * 8 + 7 < n * 8 := by omega
      obtain ⟨⟨x0, c0⟩, f0⟩ := HA.out.1.cell (j := q * 8) (by omega)
      obtain ⟨⟨x1, c1⟩, f1⟩ := HA.out.1.cell (j := q * 8 + 1) (by omega)
      obtain ⟨⟨x2, c2⟩, f2⟩ := HA.out.1.cell (j := q * 8 + 2) (by omega)
      obtain ⟨⟨x3, c3⟩, f3⟩ := HA.out.1.cell (j := q * 8 + 3) (by omega)
      obtain ⟨⟨x4, c4⟩, f4⟩ := HA.out.1.cell (j := q * 8 + 4) (by omega)
      obtain ⟨⟨x5, c5⟩, f5⟩ := HA.out.1.cell (j := q * 8 + 5) (by omega)
      obtain ⟨⟨x6, c6⟩, f6⟩ := HA.out.1.cell (j := q * 8 + 6) (by omega)
      have HC : Hid (Wr (((((((wr.setCell ⟨g, q * 8, none⟩ (.int .i64 ((r : Int)))).setCell ⟨g, q * 8 + 1, none⟩ (.int .i64 ((r : Int) + 1))).setCell ⟨g, q * 8 + 2, none⟩ (.int .i64 ((r : Int) + 1 + 1))).setCell ⟨g, q * 8 + 3, none⟩ (.int .i64 ((r : Int) + 1 + 1 + 1))).setCell ⟨g, q * 8 + 4, none⟩ (.int .i64 ((r : Int) + 1 + 1 + 1 + 1))).setCell ⟨g, q * 8 + 5, none⟩ (.int .i64 ((r : Int) + 1 + 1 + 1 + 1 + 1))).setCell ⟨g, q * 8 + 6, none⟩ (.int .i64 ((r : Int) + 1 + 1 + 1 + 1 + 1 + 1))) g (n * 8) ∧ Mid g (g + 1) w (((((((wr.setCell ⟨g, q * 8, none⟩ (.int .i64 ((r : Int)))).setCell ⟨g, q * 8 + 1, none⟩ (.int .i64 ((r : Int) + 1))).setCell ⟨g, q * 8 + 2, none⟩ (.int .i64 ((r : Int) + 1 + 1))).setCell ⟨g, q * 8 + 3, none⟩ (.int .i64 ((r : Int) + 1 + 1 + 1))).setCell ⟨g, q * 8 + 4, none⟩ (.int .i64 ((r : Int) + 1 + 1 + 1 + 1))).setCell ⟨g, q * 8 + 5, none⟩ (.int .i64 ((r : Int) + 1 + 1 + 1 + 1 + 1))).setCell ⟨g, q * 8 + 6, none⟩ (.int .i64 ((r : Int) + 1 + 1 + 1 + 1 + 1 + 1))) ∧ Up (((((((wr.setCell ⟨g, q * 8, none⟩ (.int .i64 ((r : Int)))).setCell ⟨g, q * 8 + 1, none⟩ (.int .i64 ((r : Int) + 1))).setCell ⟨g, q * 8 + 2, none⟩ (.int .i64 ((r : Int) + 1 + 1))).setCell ⟨g, q * 8 + 3, none⟩ (.int .i64 ((r : Int) + 1 + 1 + 1))).setCell ⟨g, q * 8 + 4, none⟩ (.int .i64 ((r : Int) + 1 + 1 + 1 + 1))).setCell ⟨g, q * 8 + 5, none⟩ (.int .i64 ((r : Int) + 1 + 1 + 1 + 1 + 1))).setCell ⟨g, q * 8 + 6, none⟩ (.int .i64 ((r : Int) + 1 + 1 + 1 + 1 + 1 + 1))) g a (q * 8 + 7)) := ⟨(((((((HA.out.1.set _ _ _).set _ _ _).set _ _ _).set _ _ _).set _ _ _).set _ _ _).set _ _ _), (((((((HA.out.2.1.trans (Mid.set hB hC _ _)).trans (Mid.set hB hC _ _)).trans (Mid.set hB hC _ _)).trans (Mid.set hB hC _ _)).trans (Mid.set hB hC _ _)).trans (Mid.set hB hC _ _)).trans (Mid.set hB hC _ _)),
        (((((((HA.out.2.2.next HA.out.1 (by omega) (mv_int (q := q) (j := 0) (by decide) (by have := HRR.out; omega))).next (HA.out.1.set _ _ _) (by omega) (mv_int (q := q) (j := 1) (by decide) (by have := HRR.out; omega))).next ((HA.out.1.set _ _ _).set _ _ _) (by omega) (mv_int (q := q) (j := 2) (by decide) (by have := HRR.out; omega))).next (((HA.out.1.set _ _ _).set _ _ _).set _ _ _) (by omega) (mv_int (q := q) (j := 3) (by decide) (by have := HRR.out; omega))).next ((((HA.out.1.set _ _ _).set _ _ _).set _ _ _).set _ _ _) (by omega) (mv_int (q := q) (j := 4) (by decide) (by have := HRR.out; omega))).next (((((HA.out.1.set _ _ _).set _ _ _).set _ _ _).set _ _ _).set _ _ _) (by omega) (mv_int (q := q) (j := 5) (by decide) (by have := HRR.out; omega))).next ((((((HA.out.1.set _ _ _).set _ _ _).set _ _ _).set _ _ _).set _ _ _).set _ _ _) (by omega) (mv_int (q := q) (j := 6) (by decide) (by have := HRR.out; omega)))⟩
      go_wp2_with fail
      generalize (((((((wr.setCell ⟨g, q * 8, none⟩ (.int .i64 ((r : Int)))).setCell ⟨g, q * 8 + 1, none⟩ (.int .i64 ((r : Int) + 1))).setCell ⟨g, q * 8 + 2, none⟩ (.int .i64 ((r : Int) + 1 + 1))).setCell ⟨g, q * 8 + 3, none⟩ (.int .i64 ((r : Int) + 1 + 1 + 1))).setCell ⟨g, q * 8 + 4, none⟩ (.int .i64 ((r : Int) + 1 + 1 + 1 + 1))).setCell ⟨g, q * 8 + 5, none⟩ (.int .i64 ((r : Int) + 1 + 1 + 1 + 1 + 1))).setCell ⟨g, q * 8 + 6, none⟩ (.int .i64 ((r : Int) + 1 + 1 + 1 + 1 + 1 + 1))) = v0 at HC ⊢
      clear HA c0 f0 c1 f1 c2 f2 c3 f3 c4 f4 c5 f5 c6 f6
      obtain ⟨r0, HR0⟩ : ∃ r0 : Nat, Hid (r + 7 = r0) := ⟨_, rfl⟩
      have ER : Hid ((r : Int) + 1 + 1 + 1 + 1 + 1 + 1 + 1 = (r0 : Int)) := by show _ = _; have := HR0.out; omega
      rw [ER.out]
      have l0 : 0 < r0 ∧ r0 ≤ a + q * 8 + 7 := by have := HR0.out; omega
      have HL0 : Hid (r0 = a + (q * 8 + 7)) := by show _ = _; have := HR0.out; have := HRR.out; omega
      refine (markText_any r0 v0 (by omega) (by omega)).mono ?_
      rintro e u0 ⟨rfl, b0⟩
      have HD0 : Hid (Wr u0 g (n * 8) ∧ Mid g (g + 1) w u0 ∧ Up u0 g a (q * 8 + 7)) := ⟨HC.out.1.below b0, HC.out.2.1.trans (Mid.of_below b0), HC.out.2.2.below HC.out.1.lt b0⟩
      have HV0 : Hid (Value.string (mtext r0) = mv a (q * 8 + 7)) := mv_str (by decide) (by decide) HL0.out
      generalize mtext r0 = mt0 at HV0 ⊢
      obtain ⟨⟨y0, d0⟩, g0⟩ := HD0.out.1.cell (j := q * 8 + 7) (by omega)
      have HE : Hid (Wr (u0.setCell ⟨g, q * 8 + 7, none⟩ (.string mt0)) g (n * 8) ∧ Mid g (g + 1) w (u0.setCell ⟨g, q * 8 + 7, none⟩ (.string mt0)) ∧ Up (u0.setCell ⟨g, q * 8 + 7, none⟩ (.string mt0)) g a (q * 8 + 8)) := ⟨HD0.out.1.set _ _ _, HD0.out.2.1.trans (Mid.set hB hC _ _), HD0.out.2.2.next HD0.out.1 (by omega) HV0.out⟩
      clear HC b0 HV0
      go_wp2_with fail
      exact ⟨⟨q + 1, r0 + 1, by omega, by go_num, by omega, by go_num, (by show _ = _; have := HL0.out; omega), ⟨HE.out.1, HE.out.2.1, by rw [show (q + 1) * 8 = q * 8 + 8 by omega]; exact HE.out.2.2⟩⟩, by simp [intOf]; omega⟩
    · obtain rfl : q = n := by omega
      go_wp2_with fail
      go_ret
      exact ⟨Rg.ret_i (by have := HRR.out; omega), HA.out.2.2, HA.out.1, HA.out.2.1⟩
set_option maxRecDepth 100000 in
set_option maxHeartbeats 1600000 in
theorem heldM_any (g n cap : Nat) (a : Nat) (w : World) (h : Up w g a (n * 8)) (hg : g < w.heap.size) (hcap : n ≤ cap) (hn : n ≤ 1048577) (ha : a ≤ 100000000) (ha0 : 0 < a) :
    Calls Tryz.prog 32 #[.slice (some ⟨g, 0, none⟩) n cap, .int .i64 a] w fun e w' => e = .returned (.int .i64 ((a + n * 8 : Nat) : Int)) ∧ Below w.heap.size w w' := by
  have H : Hid (Up w g a (n * 8)) := h
  clear h
  go_enter Tryz.func32, Tryz.ntmps32
  go_wp2_with fail
  go_loopw [1, 5] (fun k i wr => ∃ q r : Nat, q ≤ n ∧ k = .int .i64 (r : Int) ∧ (r ≤ a + q * 8 ∧ 0 < r) ∧ i = .int .i64 q ∧ Hid (r = a + q * 8) ∧ Hid (Below w.heap.size w wr)) (fun _ i _ => n - (intOf i).toNat)
  case atStart => exact ⟨0, a, by omega, rfl, by omega, rfl, (by show _ = _; omega), Below.refl _ _⟩
  case round =>
    obtain ⟨q, r, hq, rfl, hrb, rfl, HRR, HB⟩ := hrel
    by_cases hlt : q < n
    · have HU : Hid (∀ W, Below w.heap.size w W → Up W g a (n * 8)) := fun W hW => H.out.below hg hW
      have c0 : wr.cell? ⟨g, q * 8, none⟩ = some (.int .i64 ((r : Int))) := (HU.out wr HB.out (q * 8 + 0) (by omega)).trans (congrArg some (mv_int (q := q) (j := 0) (by decide) (by have := HRR.out; omega)).symm)
      have e0 : (((r : Int)) != ((r : Int))) = false := by simp
      have c1 : wr.cell? ⟨g, q * 8 + 1, none⟩ = some (.int .i64 ((r : Int) + 1)) := (HU.out wr HB.out (q * 8 + 1) (by omega)).trans (congrArg some (mv_int (q := q) (j := 1) (by decide) (by have := HRR.out; omega)).symm)
      have e1 : (((r : Int) + 1) != ((r : Int) + 1)) = false := by simp
      have c2 : wr.cell? ⟨g, q * 8 + 2, none⟩ = some (.int .i64 ((r : Int) + 1 + 1)) := (HU.out wr HB.out (q * 8 + 2) (by omega)).trans (congrArg some (mv_int (q := q) (j := 2) (by decide) (by have := HRR.out; omega)).symm)
      have e2 : (((r : Int) + 1 + 1) != ((r : Int) + 1 + 1)) = false := by simp
      have c3 : wr.cell? ⟨g, q * 8 + 3, none⟩ = some (.int .i64 ((r : Int) + 1 + 1 + 1)) := (HU.out wr HB.out (q * 8 + 3) (by omega)).trans (congrArg some (mv_int (q := q) (j := 3) (by decide) (by have := HRR.out; omega)).symm)
      have e3 : (((r : Int) + 1 + 1 + 1) != ((r : Int) + 1 + 1 + 1)) = false := by simp
      have c4 : wr.cell? ⟨g, q * 8 + 4, none⟩ = some (.int .i64 ((r : Int) + 1 + 1 + 1 + 1)) := (HU.out wr HB.out (q * 8 + 4) (by omega)).trans (congrArg some (mv_int (q := q) (j := 4) (by decide) (by have := HRR.out; omega)).symm)
      have e4 : (((r : Int) + 1 + 1 + 1 + 1) != ((r : Int) + 1 + 1 + 1 + 1)) = false := by simp
      have c5 : wr.cell? ⟨g, q * 8 + 5, none⟩ = some (.int .i64 ((r : Int) + 1 + 1 + 1 + 1 + 1)) := (HU.out wr HB.out (q * 8 + 5) (by omega)).trans (congrArg some (mv_int (q := q) (j := 5) (by decide) (by have := HRR.out; omega)).symm)
      have e5 : (((r : Int) + 1 + 1 + 1 + 1 + 1) != ((r : Int) + 1 + 1 + 1 + 1 + 1)) = false := by simp
      have c6 : wr.cell? ⟨g, q * 8 + 6, none⟩ = some (.int .i64 ((r : Int) + 1 + 1 + 1 + 1 + 1 + 1)) := (HU.out wr HB.out (q * 8 + 6) (by omega)).trans (congrArg some (mv_int (q := q) (j := 6) (by decide) (by have := HRR.out; omega)).symm)
      have e6 : (((r : Int) + 1 + 1 + 1 + 1 + 1 + 1) != ((r : Int) + 1 + 1 + 1 + 1 + 1 + 1)) = false := by simp
      have HT : Hid (∀ W : World, Calls Tryz.prog 47 #[.int .i64 ((r : Int) + 1 + 1 + 1 + 1 + 1 + 1 + 1)] W fun e w' => e = .returned (.string (mtext (r + 7))) ∧ Below W.heap.size W w') := fun W => by
        rw [show (r : Int) + 1 + 1 + 1 + 1 + 1 + 1 + 1 = ((r + 7 : Nat) : Int) by omega]; exact markText_any (r + 7) W (by omega) (by omega)
      have HV : Hid (Value.string (mtext (r + 7)) = mv a (q * 8 + 7)) := mv_str (by decide) (by decide) (by have := HRR.out; omega)
      have n1 : ((mtext (r + 7)).toList == (mtext (r + 7)).toList) = true := by simp
      have nn1 : ((mtext (r + 7)).toList != (mtext (r + 7)).toList) = false := by simp
      generalize mtext (r + 7) = mt1 at HT HV n1 nn1
      have hp0 : (0 : Int) ≤ (q : Int) := by omega
      have hp1 : (q : Int) < (n : Int) := by omega
      have cs : wr.cell? ⟨g, q * 8 + 7, none⟩ = some (.string mt1) := (HU.out wr HB.out (q * 8 + 7) (by omega)).trans (congrArg some HV.out.symm)
      go_wp2
      obtain ⟨X1, hX1, W1, QI0, QO0⟩ := Qc.klass wr
      have QI1 : Hid (∀ w', Below wr.heap.size wr w' → ∃ x, w' = W1 x) := QI0
      have QO1 : Hid (∀ x, Below wr.heap.size wr (W1 x)) := QO0
      clear QI0 QO0
      have y1 := Qc.cell_all QO1.out cs
      refine Qc.region_class (W := W1) (by kernel_rfl) (by kernel_rfl) (QI1.out _ Qc.from_drew) ?_
      repeat (go_big_quiet_step (first | (go_at_call 47; refine (HT.out _).mono ?_; rintro e w2 ⟨rfl, b2⟩; exact ⟨rfl, Qc.back QI1.out QO1.out b2⟩)))
      refine wpQuiet_nil ?_
      rintro _ ⟨xq, rfl⟩
      have G1 : Hid (Below w.heap.size w (W1 xq)) := HB.out.trans ((QO1.out xq).mono HB.out.size)
      generalize W1 xq = w1 at G1 ⊢
      clear QI1 QO1 y1 cs c0 e0 c1 e1 c2 e2 c3 e3 c4 e4 c5 e5 c6 e6
      go_wp2
      exact ⟨⟨q + 1, r + 8, by omega, by go_num, by omega, by go_num, (by show _ = _; have := HRR.out; omega), G1⟩, by simp [intOf]; omega⟩
    · obtain rfl : q = n := by omega
      go_wp2
      go_ret
      exact ⟨Rg.ret_i (by have := HRR.out; omega), HB.out⟩
set_option maxHeartbeats 400000 in
theorem markNilM_any (a : Nat) (ad : Option Addr) (cap : Nat) (w : World) : Calls Tryz.prog 30 #[.slice ad 0 cap, .int .i64 a] w fun e w' => e = .returned (.int .i64 (a : Int)) ∧ w' = w := by
  go_enter Tryz.func30, Tryz.ntmps30
  go_wp2_with fail
  go_loopw [1, 5] (fun k i wr => k = .int .i64 (a : Int) ∧ i = .int .i64 0 ∧ wr = w) (fun _ _ _ => 0)
  case atStart => exact ⟨rfl, rfl, rfl⟩
  case round =>
    obtain ⟨rfl, rfl, rfl⟩ := hrel
    go_wp2
    go_ret
    exact ⟨rfl, rfl⟩
set_option maxHeartbeats 400000 in
theorem heldNilM_any (a : Nat) (ad : Option Addr) (cap : Nat) (w : World) : Calls Tryz.prog 32 #[.slice ad 0 cap, .int .i64 a] w fun e w' => e = .returned (.int .i64 (a : Int)) ∧ w' = w := by
  go_enter Tryz.func32, Tryz.ntmps32
  go_wp2_with fail
  go_loopw [1, 5] (fun k i wr => k = .int .i64 (a : Int) ∧ i = .int .i64 0 ∧ wr = w) (fun _ _ _ => 0)
  case atStart => exact ⟨rfl, rfl, rfl⟩
  case round =>
    obtain ⟨rfl, rfl, rfl⟩ := hrel
    go_wp2
    go_ret
    exact ⟨rfl, rfl⟩
theorem dest {w : World} {B : Nat} {v : Value} {ms : List Re} (h : OwnR w B v ms) : ∃ ad cap, v = .slice ad ms.length cap ∧ (ms.length = 0 ∨ ∃ g, ad = some ⟨g, 0, none⟩ ∧ B ≤ g ∧ ms.length ≤ cap ∧ Wr w g (ms.length * 8)) := by
  obtain ⟨_, h⟩ := h
  rcases h with ⟨rfl, h0⟩ | ⟨g, cap, cur, rfl, hB, hg, hc, _, hs, _⟩
  · exact ⟨none, 0, by rw [h0], .inl h0⟩
  · exact ⟨_, cap, rfl, .inr ⟨g, rfl, hB, hc, cur, _, hg, by rw [hs]; exact Nat.mul_le_mul_right 8 hc⟩⟩
/-- What lies in v bears the marks from a on. -/
def HeldM (w : World) (v : Value) (a n : Nat) : Prop := ∃ ad cap, v = .slice ad n cap ∧ (n = 0 ∨ ∃ g, ad = some ⟨g, 0, none⟩ ∧ g < w.heap.size ∧ n ≤ cap ∧ Up w g a (n * 8))
theorem HeldM.keep {w w' : World} {v : Value} {a n : Nat} (h : HeldM w v a n) (hk : ∀ g, v.ownBlock = some g → g < w.heap.size → w'.heap[g]? = w.heap[g]? ∧ g < w'.heap.size) : HeldM w' v a n := by
  obtain ⟨ad, cap, rfl, h⟩ := h
  refine ⟨ad, cap, rfl, ?_⟩
  rcases h with h | ⟨g, rfl, h2, h3, h4⟩
  · exact .inl h
  · obtain ⟨k1, k2⟩ := hk g rfl h2
    exact .inr ⟨g, rfl, k2, h3, fun i hi => by rw [Cl.cell_blk k1]; exact h4 i hi⟩
theorem HeldM.below {w w' : World} {v : Value} {a n : Nat} (h : HeldM w v a n) (hb : Below w.heap.size w w') : HeldM w' v a n := h.keep fun g _ hg => ⟨hb.block g hg, Nat.lt_of_lt_of_le hg hb.size⟩
theorem kp_mid {w w' : World} {g n cap : Nat} (h : Mid g (g + 1) w w') : Kp w w' (.slice (some ⟨g, 0, none⟩) n cap) (.slice (some ⟨g, 0, none⟩) n cap) :=
  ⟨h.os, h.tape, h.output, h.size, fun k hk hne => h.block k hk (by simp [Value.ownBlock] at hne; omega), fun _ _ hne => hne⟩
theorem mark_own (v : Value) (ms : List Re) (a B : Nat) (w : World) (h : OwnR w B v ms) (hn : ms.length ≤ 1048577) (ha : a ≤ 100000000) (ha0 : 0 < a) :
    Calls Tryz.prog 30 #[v, .int .i64 a] w fun e w' => e = .returned (.int .i64 ((a + ms.length * 8 : Nat) : Int)) ∧ HeldM w' v a ms.length ∧ Kp w w' v v := by
  obtain ⟨ad, cap, hv, hd⟩ := dest h
  clear h
  subst hv
  rcases hd with h | ⟨g, rfl, h1, h2, h3⟩
  · rw [h]
    refine (markNilM_any a ad cap w).mono ?_
    rintro e w' ⟨rfl, rfl⟩
    exact ⟨by simp, ⟨ad, cap, rfl, .inl rfl⟩, Kp.of_below _ (Below.refl _ _)⟩
  · refine (markM_any g ms.length cap a w h3 hn ha ha0).mono ?_
    rintro e w' ⟨rfl, m, m2, mm⟩
    exact ⟨rfl, ⟨_, cap, rfl, .inr ⟨g, rfl, m2.lt, h2, m⟩⟩, kp_mid mm⟩
theorem held_own (v : Value) (a n : Nat) (w : World) (h : HeldM w v a n) (hn : n ≤ 1048577) (ha : a ≤ 100000000) (ha0 : 0 < a) :
    Calls Tryz.prog 32 #[v, .int .i64 a] w fun e w' => e = .returned (.int .i64 ((a + n * 8 : Nat) : Int)) ∧ Below w.heap.size w w' := by
  obtain ⟨ad, cap, rfl, h⟩ := h
  rcases h with h | ⟨g, rfl, h2, h3, h4⟩
  · rw [h]
    refine (heldNilM_any a ad cap w).mono ?_
    rintro e w' ⟨rfl, rfl⟩
    exact ⟨by simp, Below.refl _ _⟩
  · exact heldM_any g n cap a w h4 h2 h3 hn ha ha0
end Go.Proofs.YtmbnfpifganeeaaGreatDoor.Mkr
namespace Go.Proofs.YtmbnfpifganeeaaGreatDoor.Mka
open Go.RowKit Go.Proofs.YtmbnfpifganeeaaGreatDoor.Sl Go.Proofs.YtmbnfpifganeeaaGreatDoor.By Go.Proofs.YtmbnfpifganeeaaGreatDoor.Ap
open Go.Proofs.YtmbnfpifganeeaaGreatDoor.Ox (OwnX)
open Go.Proofs.YtmbnfpifganeeaaGreatDoor.Rk (An)
open Go.Proofs.YtmbnfpifganeeaaGreatDoor.Rg (RowG RowG.slice RowG.at bel_new Wr Mid markText_any mtext)
/-- The mark in cell i of the row, counted from a. -/
def mv (a i : Nat) : Value := .int .i64 ((a + i : Nat) : Int)
def Up (w : World) (g a n : Nat) : Prop := ∀ i, i < n → w.cell? ⟨g, i, none⟩ = some (mv a i)
theorem Up.below {w w' : World} {g a n : Nat} (h : Up w g a n) (hg : g < w.heap.size) (hb : Below w.heap.size w w') : Up w' g a n := fun i hi => (hb.cell (p := ⟨g, _, none⟩) hg).trans (h i hi)
theorem set_eq {w : World} {g n j : Nat} (h : Wr w g n) (hj : j < n) (x : Value) : (w.setCell ⟨g, j, none⟩ x).cell? ⟨g, j, none⟩ = some x := by
  obtain ⟨A, t, h, hn⟩ := h
  have h1 := Rg.blk_set h j x
  exact (Rg.blk_cell h1 j (x := x) (by rw [Array.getElem?_setIfInBounds, if_pos rfl, if_pos (by omega)])).1
theorem set_ne {w : World} {g i j : Nat} (hne : i ≠ j) (x : Value) : (w.setCell ⟨g, i, none⟩ x).cell? ⟨g, j, none⟩ = w.cell? ⟨g, j, none⟩ :=
  World.cell?_setCell_other _ _ _ _ (fun e => hne (by have := congrArg Addr.off e; exact this))
theorem Up.next {w : World} {g a n N : Nat} (h : Up w g a n) (hw : Wr w g N) (hn : n < N) {x : Value} (hx : x = mv a n) : Up (w.setCell ⟨g, n, none⟩ x) g a (n + 1) := fun i hi => by
  by_cases e : i = n
  · subst e
    rw [set_eq hw hn, hx]
  · exact (set_ne (fun h => e h.symm) _).trans (h i (by omega))
theorem mv_int {a q j : Nat} (_hj : j < 4) {r : Int} (hr : r = ((a + (q * 4 + j) : Nat) : Int)) : Value.int .i64 r = mv a (q * 4 + j) := by unfold mv; rw [hr]
set_option maxRecDepth 100000 in
set_option maxHeartbeats 1600000 in
theorem markM_any (g n cap : Nat) (a : Nat) (w : World) (h : Wr w g (n * 4)) (hn : n ≤ 1048577) (ha : a ≤ 100000000) (ha0 : 0 < a) :
    Calls Tryz.prog 31 #[.slice (some ⟨g, 0, none⟩) n cap, .int .i64 a] w fun e w' => e = .returned (.int .i64 ((a + n * 4 : Nat) : Int)) ∧ Up w' g a (n * 4) ∧ Wr w' g (n * 4) ∧ Mid g (g + 1) w w' := by
  have hB : g ≤ g := Nat.le_refl _
  have hC : g < g + 1 := Nat.lt_succ_self _
  have H : Hid (Wr w g (n * 4)) := h
  clear h
  go_enter Tryz.func31, Tryz.ntmps31
  go_wp2_with fail
  go_loopw [1, 5] (fun k i wr => ∃ q r : Nat, q ≤ n ∧ k = .int .i64 (r : Int) ∧ (r ≤ a + q * 4 ∧ 0 < r) ∧ i = .int .i64 q ∧ Hid (r = a + q * 4) ∧ Hid (Wr wr g (n * 4) ∧ Mid g (g + 1) w wr ∧ Up wr g a (q * 4))) (fun _ i _ => n - (intOf i).toNat)
  case atStart => exact ⟨0, a, by omega, rfl, by omega, rfl, (by show _ = _; omega), H.out, Mid.refl _ _ _, fun i hi => absurd hi (by omega)⟩
  case round =>
    obtain ⟨q, r, hq, rfl, hrb, rfl, HRR, HA⟩ := hrel
    by_cases hlt : q < n
    · have hsz : q * 4 + 3 < n * 4 := by omega
      obtain ⟨⟨x0, c0⟩, f0⟩ := HA.out.1.cell (j := q * 4) (by omega)
      obtain ⟨⟨x1, c1⟩, f1⟩ := HA.out.1.cell (j := q * 4 + 1) (by omega)
      obtain ⟨⟨x2, c2⟩, f2⟩ := HA.out.1.cell (j := q * 4 + 2) (by omega)
      obtain ⟨⟨x3, c3⟩, f3⟩ := HA.out.1.cell (j := q * 4 + 3) (by omega)
      have HC : Hid (Wr ((((wr.setCell ⟨g, q * 4, none⟩ (.int .i64 ((r : Int)))).setCell ⟨g, q * 4 + 1, none⟩ (.int .i64 ((r : Int) + 1))).setCell ⟨g, q * 4 + 2, none⟩ (.int .i64 ((r : Int) + 1 + 1))).setCell ⟨g, q * 4 + 3, none⟩ (.int .i64 ((r : Int) + 1 + 1 + 1))) g (n * 4) ∧ Mid g (g + 1) w ((((wr.setCell ⟨g, q * 4, none⟩ (.int .i64 ((r : Int)))).setCell ⟨g, q * 4 + 1, none⟩ (.int .i64 ((r : Int) + 1))).setCell ⟨g, q * 4 + 2, none⟩ (.int .i64 ((r : Int) + 1 + 1))).setCell ⟨g, q * 4 + 3, none⟩ (.int .i64 ((r : Int) + 1 + 1 + 1))) ∧ Up ((((wr.setCell ⟨g, q * 4, none⟩ (.int .i64 ((r : Int)))).setCell ⟨g, q * 4 + 1, none⟩ (.int .i64 ((r : Int) + 1))).setCell ⟨g, q * 4 + 2, none⟩ (.int .i64 ((r : Int) + 1 + 1))).setCell ⟨g, q * 4 + 3, none⟩ (.int .i64 ((r : Int) + 1 + 1 + 1))) g a (q * 4 + 4)) := ⟨((((HA.out.1.set _ _ _).set _ _ _).set _ _ _).set _ _ _), ((((HA.out.2.1.trans (Mid.set hB hC _ _)).trans (Mid.set hB hC _ _)).trans (Mid.set hB hC _ _)).trans (Mid.set hB hC _ _)),
        ((((HA.out.2.2.next HA.out.1 (by omega) (mv_int (q := q) (j := 0) (by decide) (by have := HRR.out; omega))).next (HA.out.1.set _ _ _) (by omega) (mv_int (q := q) (j := 1) (by decide) (by have := HRR.out; omega))).next ((HA.out.1.set _ _ _).set _ _ _) (by omega) (mv_int (q := q) (j := 2) (by decide) (by have := HRR.out; omega))).next (((HA.out.1.set _ _ _).set _ _ _).set _ _ _) (by omega) (mv_int (q := q) (j := 3) (by decide) (by have := HRR.out; omega)))⟩
      go_wp2_with fail
      generalize ((((wr.setCell ⟨g, q * 4, none⟩ (.int .i64 ((r : Int)))).setCell ⟨g, q * 4 + 1, none⟩ (.int .i64 ((r : Int) + 1))).setCell ⟨g, q * 4 + 2, none⟩ (.int .i64 ((r : Int) + 1 + 1))).setCell ⟨g, q * 4 + 3, none⟩ (.int .i64 ((r : Int) + 1 + 1 + 1))) = v0 at HC ⊢
      clear HA c0 f0 c1 f1 c2 f2 c3 f3
      obtain ⟨r0, HR0⟩ : ∃ r0 : Nat, Hid (r + 4 = r0) := ⟨_, rfl⟩
      have ER : Hid ((r : Int) + 1 + 1 + 1 + 1 = (r0 : Int)) := by show _ = _; have := HR0.out; omega
      rw [ER.out]
      have l0 : 0 < r0 ∧ r0 ≤ a + q * 4 + 4 := by have := HR0.out; omega
      have HL0 : Hid (r0 = a + (q * 4 + 4)) := by show _ = _; have := HR0.out; have := HRR.out; omega
      go_wp2_with fail
      exact ⟨⟨q + 1, r0, by omega, rfl, by omega, by go_num, (by show _ = _; have := HL0.out; omega), ⟨HC.out.1, HC.out.2.1, by rw [show (q + 1) * 4 = q * 4 + 4 by omega]; exact HC.out.2.2⟩⟩, by simp [intOf]; omega⟩
    · obtain rfl : q = n := by omega
      go_wp2_with fail
      go_ret
      exact ⟨Rg.ret_i (by have := HRR.out; omega), HA.out.2.2, HA.out.1, HA.out.2.1⟩
set_option maxRecDepth 100000 in
set_option maxHeartbeats 1600000 in
theorem heldM_any (g n cap : Nat) (a : Nat) (w : World) (h : Up w g a (n * 4)) (hg : g < w.heap.size) (hcap : n ≤ cap) (hn : n ≤ 1048577) (ha : a ≤ 100000000) (ha0 : 0 < a) :
    Calls Tryz.prog 33 #[.slice (some ⟨g, 0, none⟩) n cap, .int .i64 a] w fun e w' => e = .returned (.int .i64 ((a + n * 4 : Nat) : Int)) ∧ Below w.heap.size w w' := by
  have H : Hid (Up w g a (n * 4)) := h
  clear h
  go_enter Tryz.func33, Tryz.ntmps33
  go_wp2_with fail
  go_loopw [1, 5] (fun k i wr => ∃ q r : Nat, q ≤ n ∧ k = .int .i64 (r : Int) ∧ (r ≤ a + q * 4 ∧ 0 < r) ∧ i = .int .i64 q ∧ Hid (r = a + q * 4) ∧ Hid (Below w.heap.size w wr)) (fun _ i _ => n - (intOf i).toNat)
  case atStart => exact ⟨0, a, by omega, rfl, by omega, rfl, (by show _ = _; omega), Below.refl _ _⟩
  case round =>
    obtain ⟨q, r, hq, rfl, hrb, rfl, HRR, HB⟩ := hrel
    by_cases hlt : q < n
    · have HU : Hid (∀ W, Below w.heap.size w W → Up W g a (n * 4)) := fun W hW => H.out.below hg hW
      have c0 : wr.cell? ⟨g, q * 4, none⟩ = some (.int .i64 ((r : Int))) := (HU.out wr HB.out (q * 4 + 0) (by omega)).trans (congrArg some (mv_int (q := q) (j := 0) (by decide) (by have := HRR.out; omega)).symm)
      have e0 : (((r : Int)) != ((r : Int))) = false := by simp
      have c1 : wr.cell? ⟨g, q * 4 + 1, none⟩ = some (.int .i64 ((r : Int) + 1)) := (HU.out wr HB.out (q * 4 + 1) (by omega)).trans (congrArg some (mv_int (q := q) (j := 1) (by decide) (by have := HRR.out; omega)).symm)
      have e1 : (((r : Int) + 1) != ((r : Int) + 1)) = false := by simp
      have c2 : wr.cell? ⟨g, q * 4 + 2, none⟩ = some (.int .i64 ((r : Int) + 1 + 1)) := (HU.out wr HB.out (q * 4 + 2) (by omega)).trans (congrArg some (mv_int (q := q) (j := 2) (by decide) (by have := HRR.out; omega)).symm)
      have e2 : (((r : Int) + 1 + 1) != ((r : Int) + 1 + 1)) = false := by simp
      have c3 : wr.cell? ⟨g, q * 4 + 3, none⟩ = some (.int .i64 ((r : Int) + 1 + 1 + 1)) := (HU.out wr HB.out (q * 4 + 3) (by omega)).trans (congrArg some (mv_int (q := q) (j := 3) (by decide) (by have := HRR.out; omega)).symm)
      have e3 : (((r : Int) + 1 + 1 + 1) != ((r : Int) + 1 + 1 + 1)) = false := by simp
      go_wp2_with fail
      exact ⟨⟨q + 1, r + 4, by omega, by go_num, by omega, by go_num, (by show _ = _; have := HRR.out; omega), HB⟩, by simp [intOf]; omega⟩
    · obtain rfl : q = n := by omega
      go_wp2
      go_ret
      exact ⟨Rg.ret_i (by have := HRR.out; omega), HB.out⟩
set_option maxHeartbeats 400000 in
theorem markNilM_any (a : Nat) (ad : Option Addr) (cap : Nat) (w : World) : Calls Tryz.prog 31 #[.slice ad 0 cap, .int .i64 a] w fun e w' => e = .returned (.int .i64 (a : Int)) ∧ w' = w := by
  go_enter Tryz.func31, Tryz.ntmps31
  go_wp2_with fail
  go_loopw [1, 5] (fun k i wr => k = .int .i64 (a : Int) ∧ i = .int .i64 0 ∧ wr = w) (fun _ _ _ => 0)
  case atStart => exact ⟨rfl, rfl, rfl⟩
  case round =>
    obtain ⟨rfl, rfl, rfl⟩ := hrel
    go_wp2
    go_ret
    exact ⟨rfl, rfl⟩
set_option maxHeartbeats 400000 in
theorem heldNilM_any (a : Nat) (ad : Option Addr) (cap : Nat) (w : World) : Calls Tryz.prog 33 #[.slice ad 0 cap, .int .i64 a] w fun e w' => e = .returned (.int .i64 (a : Int)) ∧ w' = w := by
  go_enter Tryz.func33, Tryz.ntmps33
  go_wp2_with fail
  go_loopw [1, 5] (fun k i wr => k = .int .i64 (a : Int) ∧ i = .int .i64 0 ∧ wr = w) (fun _ _ _ => 0)
  case atStart => exact ⟨rfl, rfl, rfl⟩
  case round =>
    obtain ⟨rfl, rfl, rfl⟩ := hrel
    go_wp2
    go_ret
    exact ⟨rfl, rfl⟩
theorem dest {w : World} {B : Nat} {v : Value} {ms : List An} (h : OwnX w B v ms) : ∃ ad cap, v = .slice ad ms.length cap ∧ (ms.length = 0 ∨ ∃ g, ad = some ⟨g, 0, none⟩ ∧ B ≤ g ∧ ms.length ≤ cap ∧ Wr w g (ms.length * 4)) := by
  obtain ⟨_, h⟩ := h
  rcases h with ⟨rfl, h0⟩ | ⟨g, cap, cur, rfl, hB, hg, hc, _, hs, _⟩
  · exact ⟨none, 0, by rw [h0], .inl h0⟩
  · exact ⟨_, cap, rfl, .inr ⟨g, rfl, hB, hc, cur, _, hg, by rw [hs]; exact Nat.mul_le_mul_right 4 hc⟩⟩
/-- What lies in v bears the marks from a on. -/
def HeldM (w : World) (v : Value) (a n : Nat) : Prop := ∃ ad cap, v = .slice ad n cap ∧ (n = 0 ∨ ∃ g, ad = some ⟨g, 0, none⟩ ∧ g < w.heap.size ∧ n ≤ cap ∧ Up w g a (n * 4))
theorem HeldM.keep {w w' : World} {v : Value} {a n : Nat} (h : HeldM w v a n) (hk : ∀ g, v.ownBlock = some g → g < w.heap.size → w'.heap[g]? = w.heap[g]? ∧ g < w'.heap.size) : HeldM w' v a n := by
  obtain ⟨ad, cap, rfl, h⟩ := h
  refine ⟨ad, cap, rfl, ?_⟩
  rcases h with h | ⟨g, rfl, h2, h3, h4⟩
  · exact .inl h
  · obtain ⟨k1, k2⟩ := hk g rfl h2
    exact .inr ⟨g, rfl, k2, h3, fun i hi => by rw [Cl.cell_blk k1]; exact h4 i hi⟩
theorem HeldM.below {w w' : World} {v : Value} {a n : Nat} (h : HeldM w v a n) (hb : Below w.heap.size w w') : HeldM w' v a n := h.keep fun g _ hg => ⟨hb.block g hg, Nat.lt_of_lt_of_le hg hb.size⟩
theorem kp_mid {w w' : World} {g n cap : Nat} (h : Mid g (g + 1) w w') : Kp w w' (.slice (some ⟨g, 0, none⟩) n cap) (.slice (some ⟨g, 0, none⟩) n cap) :=
  ⟨h.os, h.tape, h.output, h.size, fun k hk hne => h.block k hk (by simp [Value.ownBlock] at hne; omega), fun _ _ hne => hne⟩
theorem mark_own (v : Value) (ms : List An) (a B : Nat) (w : World) (h : OwnX w B v ms) (hn : ms.length ≤ 1048577) (ha : a ≤ 100000000) (ha0 : 0 < a) :
    Calls Tryz.prog 31 #[v, .int .i64 a] w fun e w' => e = .returned (.int .i64 ((a + ms.length * 4 : Nat) : Int)) ∧ HeldM w' v a ms.length ∧ Kp w w' v v := by
  obtain ⟨ad, cap, hv, hd⟩ := dest h
  clear h
  subst hv
  rcases hd with h | ⟨g, rfl, h1, h2, h3⟩
  · rw [h]
    refine (markNilM_any a ad cap w).mono ?_
    rintro e w' ⟨rfl, rfl⟩
    exact ⟨by simp, ⟨ad, cap, rfl, .inl rfl⟩, Kp.of_below _ (Below.refl _ _)⟩
  · refine (markM_any g ms.length cap a w h3 hn ha ha0).mono ?_
    rintro e w' ⟨rfl, m, m2, mm⟩
    exact ⟨rfl, ⟨_, cap, rfl, .inr ⟨g, rfl, m2.lt, h2, m⟩⟩, kp_mid mm⟩
theorem held_own (v : Value) (a n : Nat) (w : World) (h : HeldM w v a n) (hn : n ≤ 1048577) (ha : a ≤ 100000000) (ha0 : 0 < a) :
    Calls Tryz.prog 33 #[v, .int .i64 a] w fun e w' => e = .returned (.int .i64 ((a + n * 4 : Nat) : Int)) ∧ Below w.heap.size w w' := by
  obtain ⟨ad, cap, rfl, h⟩ := h
  rcases h with h | ⟨g, rfl, h2, h3, h4⟩
  · rw [h]
    refine (heldNilM_any a ad cap w).mono ?_
    rintro e w' ⟨rfl, rfl⟩
    exact ⟨by simp, Below.refl _ _⟩
  · exact heldM_any g n cap a w h4 h2 h3 hn ha ha0
end Go.Proofs.YtmbnfpifganeeaaGreatDoor.Mka

/- Marks on clients: copies that were handed in, clients that were handed out. -/
namespace Go.Proofs.YtmbnfpifganeeaaGreatDoor.Cl
open Go.RowKit Go.Proofs.YtmbnfpifganeeaaGreatDoor.Sl Go.Proofs.YtmbnfpifganeeaaGreatDoor.Rg
open Go.Proofs.YtmbnfpifganeeaaGreatDoor.Gy (Re)
open Go.Proofs.YtmbnfpifganeeaaGreatDoor.Rk (An anV ccR ccA ccC cc_cases implCountReplies_any)
open Go.Proofs.YtmbnfpifganeeaaGreatDoor.Rq (reqB implRequestOK_any)
open Go.Proofs.YtmbnfpifganeeaaGreatDoor.Ry (anB answerOK_any rokB lokB implReplyOK_any)
open Go.Proofs.YtmbnfpifganeeaaGreatDoor.Rm (inR within_any)
open Go.Proofs.YtmbnfpifganeeaaGreatDoor.Tm (fCode fOut f_cases implFaultsOf_any)
open Go.Proofs.YtmbnfpifganeeaaGreatDoor.Sh (KTab KTab.below)

open Go.Proofs.YtmbnfpifganeeaaGreatDoor.Rr11 (OwnR)
open Go.Proofs.YtmbnfpifganeeaaGreatDoor.Ox (OwnX)
open Go.Proofs.YtmbnfpifganeeaaGreatDoor.Ap (Kp Kp.of_below Kp.trans)
set_option maxRecDepth 100000 in
set_option maxHeartbeats 1600000 in
theorem markC_any (c : Cd) (gr ga B C : Nat) (w : World) (hr : AtR w gr c.re) (ha : AtA w ga c.ac) (h1 : B ≤ gr) (h2 : gr < C) (h3 : B ≤ ga) (h4 : ga < C) (hd : gr ≠ ga) (hz : c.re.length ≤ 1048576 ∧ c.ac.length ≤ 1048576) :
    Calls Tryz.prog 11 #[clV c (.slice (some ⟨gr, 0, none⟩) c.re.length c.re.length) (.slice (some ⟨ga, 0, none⟩) c.ac.length c.ac.length), .int .i64 1] w fun e w' => (∃ r : Nat, e = .returned (.int .i64 (r : Int))) ∧ Mid B C w w' := by
  have HW : Hid (Wr w gr (c.re.length * 8) ∧ Wr w ga (c.ac.length * 4) ∧ c.re.length ≤ 1048576 ∧ c.ac.length ≤ 1048576) := ⟨hr.2, ha.2, hz⟩
  have HL : Hid (gr < w.heap.size ∧ ga < w.heap.size ∧ B ≤ gr ∧ gr < C ∧ B ≤ ga ∧ ga < C) := ⟨hr.lt, ha.lt, h1, h2, h3, h4⟩
  have HB : Hid ((w.alloc (.cells #[.int .i64 c.id, .int .i64 c.st, .bool c.bu, .int .i64 c.rc, .int .i64 c.rs, .int .i64 c.rk, .int .i64 c.rl, .string c.rn, .slice (some ⟨gr, 0, none⟩) c.re.length c.re.length, .slice (some ⟨ga, 0, none⟩) c.ac.length c.ac.length] 38)).heap[w.heap.size]? = some (.cells #[.int .i64 c.id, .int .i64 c.st, .bool c.bu, .int .i64 c.rc, .int .i64 c.rs, .int .i64 c.rk, .int .i64 c.rl, .string c.rn, .slice (some ⟨gr, 0, none⟩) c.re.length c.re.length, .slice (some ⟨ga, 0, none⟩) c.ac.length c.ac.length] 38) ∧ Below w.heap.size w (w.alloc (.cells #[.int .i64 c.id, .int .i64 c.st, .bool c.bu, .int .i64 c.rc, .int .i64 c.rs, .int .i64 c.rk, .int .i64 c.rl, .string c.rn, .slice (some ⟨gr, 0, none⟩) c.re.length c.re.length, .slice (some ⟨ga, 0, none⟩) c.ac.length c.ac.length] 38))) := ⟨heap_alloc_new _ _, bel_new _ _⟩
  have HD : Hid (gr ≠ ga) := hd
  clear hr ha hz h1 h2 h3 h4 hd
  unfold clV
  go_enter Tryz.func11, Tryz.ntmps11
  go_upto_region 1 with fail
  generalize w.alloc (.cells #[.int .i64 c.id, .int .i64 c.st, .bool c.bu, .int .i64 c.rc, .int .i64 c.rs, .int .i64 c.rk, .int .i64 c.rl, .string c.rn, .slice (some ⟨gr, 0, none⟩) c.re.length c.re.length, .slice (some ⟨ga, 0, none⟩) c.ac.length c.ac.length] 38) = wb at HB ⊢
  have c0 := (Rg.blk_cell HB.out.1 0 (x := .int .i64 c.id) rfl).1
  have c1 := (Rg.blk_cell HB.out.1 1 (x := .int .i64 c.st) rfl).1
  have c2 := (Rg.blk_cell HB.out.1 2 (x := .bool c.bu) rfl).1
  have c3 := (Rg.blk_cell HB.out.1 3 (x := .int .i64 c.rc) rfl).1
  have c4 := (Rg.blk_cell HB.out.1 4 (x := .int .i64 c.rs) rfl).1
  have c5 := (Rg.blk_cell HB.out.1 5 (x := .int .i64 c.rk) rfl).1
  have c6 := (Rg.blk_cell HB.out.1 6 (x := .int .i64 c.rl) rfl).1
  have c7 := (Rg.blk_cell HB.out.1 7 (x := .string c.rn) rfl).1
  have c8 := (Rg.blk_cell HB.out.1 8 (x := .slice (some ⟨gr, 0, none⟩) c.re.length c.re.length) rfl).1
  have c9 := (Rg.blk_cell HB.out.1 9 (x := .slice (some ⟨ga, 0, none⟩) c.ac.length c.ac.length) rfl).1
  have HK := Gy.markS_any gr c.re.length c.re.length 1 gr (gr + 1) wb (HW.out.1.below HB.out.2) (Nat.le_refl _) (Nat.lt_succ_self _) HW.out.2.2.1 (by decide) (by decide)
  go_wp2_with fail
  refine HK.mono ?_
  rintro e w1 ⟨r, rfl, hrb, hr0, m1⟩
  have HM1 : Hid (Mid B C w w1 ∧ w1.heap[w.heap.size]? = some (.cells #[.int .i64 c.id, .int .i64 c.st, .bool c.bu, .int .i64 c.rc, .int .i64 c.rs, .int .i64 c.rk, .int .i64 c.rl, .string c.rn, .slice (some ⟨gr, 0, none⟩) c.re.length c.re.length, .slice (some ⟨ga, 0, none⟩) c.ac.length c.ac.length] 38) ∧ Wr w1 ga (c.ac.length * 4)) := by
    have q := HL.out
    obtain ⟨A, t, hA, hn⟩ := HW.out.2.1.below HB.out.2
    refine ⟨(Mid.of_below HB.out.2).trans ⟨m1.os, m1.tape, m1.output, m1.size, fun k hk hne => m1.block k hk (by omega)⟩, (m1.block _ (Array.getElem?_eq_some_iff.1 HB.out.1).1 (by omega)).trans HB.out.1, A, t, (m1.block _ (Array.getElem?_eq_some_iff.1 hA).1 (by have := HD.out; omega)).trans hA, hn⟩
  have HR : Hid (r ≤ 1 + c.re.length * 8 ∧ 0 < r) := ⟨hrb, hr0⟩
  clear HK m1 hrb hr0 c0 c1 c2 c3 c4 c5 c6 c7 c8 c9
  have c0 := (Rg.blk_cell HM1.out.2.1 0 (x := .int .i64 c.id) rfl).1
  have c1 := (Rg.blk_cell HM1.out.2.1 1 (x := .int .i64 c.st) rfl).1
  have c2 := (Rg.blk_cell HM1.out.2.1 2 (x := .bool c.bu) rfl).1
  have c3 := (Rg.blk_cell HM1.out.2.1 3 (x := .int .i64 c.rc) rfl).1
  have c4 := (Rg.blk_cell HM1.out.2.1 4 (x := .int .i64 c.rs) rfl).1
  have c5 := (Rg.blk_cell HM1.out.2.1 5 (x := .int .i64 c.rk) rfl).1
  have c6 := (Rg.blk_cell HM1.out.2.1 6 (x := .int .i64 c.rl) rfl).1
  have c7 := (Rg.blk_cell HM1.out.2.1 7 (x := .string c.rn) rfl).1
  have c8 := (Rg.blk_cell HM1.out.2.1 8 (x := .slice (some ⟨gr, 0, none⟩) c.re.length c.re.length) rfl).1
  have c9 := (Rg.blk_cell HM1.out.2.1 9 (x := .slice (some ⟨ga, 0, none⟩) c.ac.length c.ac.length) rfl).1
  have HK := Ga.markS_any ga c.ac.length c.ac.length r ga (ga + 1) w1 HM1.out.2.2 (Nat.le_refl _) (Nat.lt_succ_self _) HW.out.2.2.2 (by have := HR.out.1; have := HW.out.2.2.1; omega) HR.out.2
  go_wp2_with fail
  refine HK.mono ?_
  rintro e w2 ⟨r2, rfl, hrb, hr0, m2⟩
  have HM2 : Hid (Mid B C w w2) := by
    have q := HL.out
    exact HM1.out.1.trans ⟨m2.os, m2.tape, m2.output, m2.size, fun k hk hne => m2.block k hk (by omega)⟩
  clear HK m2 hrb hr0 HM1 c0 c1 c2 c3 c4 c5 c6 c7 c8 c9
  go_wp2_with fail
  go_ret
  exact ⟨⟨r2, rfl⟩, HM2.out⟩
/-- A client's lists bear the marks. -/
def HeldC (w : World) (c : Cd) (vr va : Value) : Prop := Mkr.HeldM w vr 1 c.re.length ∧ Mka.HeldM w va (1 + c.re.length * 8) c.ac.length
theorem HeldC.below {w w' : World} {c : Cd} {vr va : Value} (h : HeldC w c vr va) (hb : Below w.heap.size w w') : HeldC w' c vr va := ⟨h.1.below hb, h.2.below hb⟩
/-- Nothing but what the two slices own was written. -/
structure Kc (w w' : World) (vr va : Value) : Prop where
  os : w'.os = w.os
  tape : w'.tape = w.tape
  output : w'.output = w.output
  size : w.heap.size ≤ w'.heap.size
  block : ∀ k, k < w.heap.size → some k ≠ vr.ownBlock → some k ≠ va.ownBlock → w'.heap[k]? = w.heap[k]?
theorem Kc.below {w w' : World} {B : Nat} {c : Cd} {vr va : Value} (h : Kc w w' vr va) (hm : Mine w B c vr va) (hB : B ≤ w.heap.size) : Below B w w' :=
  ⟨h.os, h.tape, h.output, h.size, fun k hk => h.block k (Nat.lt_of_lt_of_le hk hB) (fun e => by have := (hm.1.lt k e.symm).1; omega) (fun e => by have := (hm.2.lt k e.symm).1; omega)⟩
theorem Kc.at {w w' : World} {B k : Nat} {c : Cd} {vr va : Value} {A : Array Value} {t : TypeId} {fz : Nat × Nat} (h : Kc w w' vr va) (hm : Mine w B c vr va) (hk : w.heap[k]? = some (.cells A t fz)) (h1 : t ≠ 44) (h2 : t ≠ 42) : w'.heap[k]? = some (.cells A t fz) :=
  (h.block k (Array.getElem?_eq_some_iff.1 hk).1 (fun e => ownR_ne hm.1 hk h1 k e.symm rfl) (fun e => ownX_ne hm.2 hk h2 k e.symm rfl)).trans hk
set_option maxRecDepth 100000 in
set_option maxHeartbeats 1600000 in
theorem markClient_own (c : Cd) (vr va : Value) (B : Nat) (w : World) (h : Mine w B c vr va) (hz : c.re.length ≤ 1048577 ∧ c.ac.length ≤ 1048577) :
    Calls Tryz.prog 11 #[clV c vr va, .int .i64 1] w fun e w' => e = .returned (.int .i64 ((1 + c.re.length * 8 + c.ac.length * 4 : Nat) : Int)) ∧ HeldC w' c vr va ∧ Kc w w' vr va := by
  have HM : Hid (Mine w B c vr va) := h
  have HZ : Hid (c.re.length ≤ 1048577 ∧ c.ac.length ≤ 1048577) := hz
  obtain ⟨ar, kr, rfl⟩ := h.1.slice
  obtain ⟨aa, ka, rfl⟩ := h.2.slice
  clear h hz
  have HB : Hid ((w.alloc (.cells #[.int .i64 c.id, .int .i64 c.st, .bool c.bu, .int .i64 c.rc, .int .i64 c.rs, .int .i64 c.rk, .int .i64 c.rl, .string c.rn, .slice ar c.re.length kr, .slice aa c.ac.length ka] 38)).heap[w.heap.size]? = some (.cells #[.int .i64 c.id, .int .i64 c.st, .bool c.bu, .int .i64 c.rc, .int .i64 c.rs, .int .i64 c.rk, .int .i64 c.rl, .string c.rn, .slice ar c.re.length kr, .slice aa c.ac.length ka] 38) ∧ Below w.heap.size w (w.alloc (.cells #[.int .i64 c.id, .int .i64 c.st, .bool c.bu, .int .i64 c.rc, .int .i64 c.rs, .int .i64 c.rk, .int .i64 c.rl, .string c.rn, .slice ar c.re.length kr, .slice aa c.ac.length ka] 38))) := ⟨heap_alloc_new _ _, bel_new _ _⟩
  unfold clV
  go_enter Tryz.func11, Tryz.ntmps11
  go_upto_region 1 with fail
  generalize w.alloc (.cells #[.int .i64 c.id, .int .i64 c.st, .bool c.bu, .int .i64 c.rc, .int .i64 c.rs, .int .i64 c.rk, .int .i64 c.rl, .string c.rn, .slice ar c.re.length kr, .slice aa c.ac.length ka] 38) = wb at HB ⊢
  have HMb : Hid (Mine wb B c (.slice ar c.re.length kr) (.slice aa c.ac.length ka)) := HM.out.below HB.out.2
  have c0 := (Rg.blk_cell HB.out.1 0 (x := .int .i64 c.id) rfl).1
  have c1 := (Rg.blk_cell HB.out.1 1 (x := .int .i64 c.st) rfl).1
  have c2 := (Rg.blk_cell HB.out.1 2 (x := .bool c.bu) rfl).1
  have c3 := (Rg.blk_cell HB.out.1 3 (x := .int .i64 c.rc) rfl).1
  have c4 := (Rg.blk_cell HB.out.1 4 (x := .int .i64 c.rs) rfl).1
  have c5 := (Rg.blk_cell HB.out.1 5 (x := .int .i64 c.rk) rfl).1
  have c6 := (Rg.blk_cell HB.out.1 6 (x := .int .i64 c.rl) rfl).1
  have c7 := (Rg.blk_cell HB.out.1 7 (x := .string c.rn) rfl).1
  have c8 := (Rg.blk_cell HB.out.1 8 (x := .slice ar c.re.length kr) rfl).1
  have c9 := (Rg.blk_cell HB.out.1 9 (x := .slice aa c.ac.length ka) rfl).1
  have HK := Mkr.mark_own (.slice ar c.re.length kr) c.re 1 B wb HMb.out.1 HZ.out.1 (by decide) (by decide)
  go_wp2_with fail
  refine HK.mono ?_
  rintro e w1 ⟨rfl, h1, m1⟩
  have HH1 : Hid (Mkr.HeldM w1 (.slice ar c.re.length kr) 1 c.re.length ∧ Kp wb w1 (.slice ar c.re.length kr) (.slice ar c.re.length kr)) := ⟨h1, m1⟩
  have HB1 : Hid (w1.heap[w.heap.size]? = some (.cells #[.int .i64 c.id, .int .i64 c.st, .bool c.bu, .int .i64 c.rc, .int .i64 c.rs, .int .i64 c.rk, .int .i64 c.rl, .string c.rn, .slice ar c.re.length kr, .slice aa c.ac.length ka] 38)) := (m1.block _ (Array.getElem?_eq_some_iff.1 HB.out.1).1 (fun e => ownR_ne HMb.out.1 HB.out.1 (by decide) _ e.symm rfl)).trans HB.out.1
  have HX1 : Hid (OwnX w1 B (.slice aa c.ac.length ka) c.ac) := HMb.out.2.kept fun g hg => m1.block g (HMb.out.2.lt g hg).2 (fun e => kinds HMb.out.1 HMb.out.2 g hg e.symm)
  clear HK h1 m1 c0 c1 c2 c3 c4 c5 c6 c7 c8 c9
  have c0 := (Rg.blk_cell HB1.out 0 (x := .int .i64 c.id) rfl).1
  have c1 := (Rg.blk_cell HB1.out 1 (x := .int .i64 c.st) rfl).1
  have c2 := (Rg.blk_cell HB1.out 2 (x := .bool c.bu) rfl).1
  have c3 := (Rg.blk_cell HB1.out 3 (x := .int .i64 c.rc) rfl).1
  have c4 := (Rg.blk_cell HB1.out 4 (x := .int .i64 c.rs) rfl).1
  have c5 := (Rg.blk_cell HB1.out 5 (x := .int .i64 c.rk) rfl).1
  have c6 := (Rg.blk_cell HB1.out 6 (x := .int .i64 c.rl) rfl).1
  have c7 := (Rg.blk_cell HB1.out 7 (x := .string c.rn) rfl).1
  have c8 := (Rg.blk_cell HB1.out 8 (x := .slice ar c.re.length kr) rfl).1
  have c9 := (Rg.blk_cell HB1.out 9 (x := .slice aa c.ac.length ka) rfl).1
  obtain ⟨aN, HA⟩ : ∃ aN : Nat, Hid (1 + c.re.length * 8 = aN) := ⟨_, rfl⟩
  have HK := Mka.mark_own (.slice aa c.ac.length ka) c.ac aN B w1 HX1.out HZ.out.2 (by have := HA.out; have := HZ.out.1; omega) (by have := HA.out; omega)
  rw [HA.out]
  go_wp2_with fail
  refine HK.mono ?_
  rintro e w2 ⟨rfl, h2, m2⟩
  have HF : Hid (HeldC w2 c (.slice ar c.re.length kr) (.slice aa c.ac.length ka) ∧ Kc w w2 (.slice ar c.re.length kr) (.slice aa c.ac.length ka)) := by
    refine ⟨⟨HH1.out.1.keep fun g hg hlt => ⟨m2.block g hlt (fun e => kinds HMb.out.1 HMb.out.2 g e.symm hg), Nat.lt_of_lt_of_le hlt m2.size⟩, by rw [HA.out]; exact h2⟩, ?_⟩
    have q := HH1.out.2
    exact ⟨m2.os.trans (q.os.trans HB.out.2.os), m2.tape.trans (q.tape.trans HB.out.2.tape), m2.output.trans (q.output.trans HB.out.2.output), Nat.le_trans HB.out.2.size (Nat.le_trans q.size m2.size), fun k hk n1 n2 => (m2.block k (Nat.lt_of_lt_of_le hk (Nat.le_trans HB.out.2.size q.size)) n2).trans ((q.block k (Nat.lt_of_lt_of_le hk HB.out.2.size) n1).trans (HB.out.2.block k hk))⟩
  clear HK h2 m2 HB1 HX1 HH1 c0 c1 c2 c3 c4 c5 c6 c7 c8 c9
  go_wp2_with fail
  go_ret
  exact ⟨Rg.ret_i (by have := HA.out; omega), HF.out⟩
set_option maxRecDepth 100000 in
set_option maxHeartbeats 1600000 in
theorem heldClient_own (c : Cd) (vr va : Value) (w : World) (h : HeldC w c vr va) (hz : c.re.length ≤ 1048577 ∧ c.ac.length ≤ 1048577) :
    Calls Tryz.prog 12 #[clV c vr va, .int .i64 1] w fun e w' => e = .returned (.int .i64 ((1 + c.re.length * 8 + c.ac.length * 4 : Nat) : Int)) ∧ Below w.heap.size w w' := by
  have HM : Hid (∀ W, Below w.heap.size w W → HeldC W c vr va) := fun W hW => h.below hW
  have HZ : Hid (c.re.length ≤ 1048577 ∧ c.ac.length ≤ 1048577) := hz
  obtain ⟨ar, kr, rfl, _⟩ := h.1
  obtain ⟨aa, ka, rfl, _⟩ := h.2
  clear h hz
  have HB : Hid ((w.alloc (.cells #[.int .i64 c.id, .int .i64 c.st, .bool c.bu, .int .i64 c.rc, .int .i64 c.rs, .int .i64 c.rk, .int .i64 c.rl, .string c.rn, .slice ar c.re.length kr, .slice aa c.ac.length ka] 38)).heap[w.heap.size]? = some (.cells #[.int .i64 c.id, .int .i64 c.st, .bool c.bu, .int .i64 c.rc, .int .i64 c.rs, .int .i64 c.rk, .int .i64 c.rl, .string c.rn, .slice ar c.re.length kr, .slice aa c.ac.length ka] 38) ∧ Below w.heap.size w (w.alloc (.cells #[.int .i64 c.id, .int .i64 c.st, .bool c.bu, .int .i64 c.rc, .int .i64 c.rs, .int .i64 c.rk, .int .i64 c.rl, .string c.rn, .slice ar c.re.length kr, .slice aa c.ac.length ka] 38))) := ⟨heap_alloc_new _ _, bel_new _ _⟩
  unfold clV
  go_enter Tryz.func12, Tryz.ntmps12
  go_upto_region 1 with fail
  generalize w.alloc (.cells #[.int .i64 c.id, .int .i64 c.st, .bool c.bu, .int .i64 c.rc, .int .i64 c.rs, .int .i64 c.rk, .int .i64 c.rl, .string c.rn, .slice ar c.re.length kr, .slice aa c.ac.length ka] 38) = wb at HB ⊢
  have c0 := (Rg.blk_cell HB.out.1 0 (x := .int .i64 c.id) rfl).1
  have c1 := (Rg.blk_cell HB.out.1 1 (x := .int .i64 c.st) rfl).1
  have c2 := (Rg.blk_cell HB.out.1 2 (x := .bool c.bu) rfl).1
  have c3 := (Rg.blk_cell HB.out.1 3 (x := .int .i64 c.rc) rfl).1
  have c4 := (Rg.blk_cell HB.out.1 4 (x := .int .i64 c.rs) rfl).1
  have c5 := (Rg.blk_cell HB.out.1 5 (x := .int .i64 c.rk) rfl).1
  have c6 := (Rg.blk_cell HB.out.1 6 (x := .int .i64 c.rl) rfl).1
  have c7 := (Rg.blk_cell HB.out.1 7 (x := .string c.rn) rfl).1
  have c8 := (Rg.blk_cell HB.out.1 8 (x := .slice ar c.re.length kr) rfl).1
  have c9 := (Rg.blk_cell HB.out.1 9 (x := .slice aa c.ac.length ka) rfl).1
  have HK := Mkr.held_own (.slice ar c.re.length kr) 1 c.re.length wb (HM.out _ HB.out.2).1 HZ.out.1 (by decide) (by decide)
  go_wp2_with fail
  refine HK.mono ?_
  rintro e w1 ⟨rfl, b1⟩
  have HB1 : Hid (w1.heap[w.heap.size]? = some (.cells #[.int .i64 c.id, .int .i64 c.st, .bool c.bu, .int .i64 c.rc, .int .i64 c.rs, .int .i64 c.rk, .int .i64 c.rl, .string c.rn, .slice ar c.re.length kr, .slice aa c.ac.length ka] 38) ∧ Below w.heap.size w w1) := ⟨(b1.block _ (Array.getElem?_eq_some_iff.1 HB.out.1).1).trans HB.out.1, HB.out.2.trans (b1.mono HB.out.2.size)⟩
  clear HK b1 c0 c1 c2 c3 c4 c5 c6 c7 c8 c9
  have c0 := (Rg.blk_cell HB1.out.1 0 (x := .int .i64 c.id) rfl).1
  have c1 := (Rg.blk_cell HB1.out.1 1 (x := .int .i64 c.st) rfl).1
  have c2 := (Rg.blk_cell HB1.out.1 2 (x := .bool c.bu) rfl).1
  have c3 := (Rg.blk_cell HB1.out.1 3 (x := .int .i64 c.rc) rfl).1
  have c4 := (Rg.blk_cell HB1.out.1 4 (x := .int .i64 c.rs) rfl).1
  have c5 := (Rg.blk_cell HB1.out.1 5 (x := .int .i64 c.rk) rfl).1
  have c6 := (Rg.blk_cell HB1.out.1 6 (x := .int .i64 c.rl) rfl).1
  have c7 := (Rg.blk_cell HB1.out.1 7 (x := .string c.rn) rfl).1
  have c8 := (Rg.blk_cell HB1.out.1 8 (x := .slice ar c.re.length kr) rfl).1
  have c9 := (Rg.blk_cell HB1.out.1 9 (x := .slice aa c.ac.length ka) rfl).1
  obtain ⟨aN, HA⟩ : ∃ aN : Nat, Hid (1 + c.re.length * 8 = aN) := ⟨_, rfl⟩
  have hn1 : ¬ (aN : Int) < 0 := by omega
  have HK := Mka.held_own (.slice aa c.ac.length ka) aN c.ac.length w1 (by have := (HM.out _ HB1.out.2).2; rw [HA.out] at this; exact this) HZ.out.2 (by have := HA.out; have := HZ.out.1; omega) (by have := HA.out; omega)
  rw [HA.out]
  go_wp2_with fail
  refine HK.mono ?_
  rintro e w2 ⟨rfl, b2⟩
  have G2 : Hid (Below w.heap.size w w2) := HB1.out.2.trans (b2.mono HB1.out.2.size)
  have hn2 : ¬ ((aN + c.ac.length * 4 : Nat) : Int) < 0 := by omega
  clear HK b2 HB1 c0 c1 c2 c3 c4 c5 c6 c7 c8 c9
  go_wp2_with fail
  go_ret
  exact ⟨Rg.ret_i (by have := HA.out; omega), G2.out⟩
end Go.Proofs.YtmbnfpifganeeaaGreatDoor.Cl

/- Copies of clients whose lists lie apart; a region is cut behind its end. -/
namespace Go.Proofs.YtmbnfpifganeeaaGreatDoor.Cl
open Go.RowKit Go.Proofs.YtmbnfpifganeeaaGreatDoor.Sl Go.Proofs.YtmbnfpifganeeaaGreatDoor.Rg
open Go.Proofs.YtmbnfpifganeeaaGreatDoor.Gy (Re)
open Go.Proofs.YtmbnfpifganeeaaGreatDoor.Rk (An)
open Go.Proofs.YtmbnfpifganeeaaGreatDoor.Rq (reqV szRequest_any toRequest_any eqRequest_same)

def putAll (a : Act) : List Nat → List Value → Act
  | k :: ks, t :: ts => putAll (a.put (some k) t) ks ts
  | _, _ => a
theorem cutL {P : Program} {id : Nat} {ops : Array Oper} {b : Bool} {Q : Exit → Act → World → Prop} {a : Act} {w : World} (ks : List Nat) (R : List Value → World → Prop)
    (h1 : (Code.region id ops b).wp P (fun e a' w' => match e with | .normal => ∃ ts : List Value, a' = putAll a ks ts ∧ R ts w' | _ => False) a w)
    (h2 : ∀ ts w', R ts w' → Q .normal (putAll a ks ts) w') : (Code.region id ops b).wp P Q a w :=
  Code.wp_mono (fun e a' w' h => by
    cases e with
    | normal =>
      obtain ⟨ts, rfl, h⟩ := h
      exact h2 ts w' h
    | _ => exact h.elim) h1
set_option maxRecDepth 100000 in
set_option maxHeartbeats 1600000 in
theorem toC2_any (c : Cd) (vr va : Value) (w : World) (h : Has w c vr va) (hz : Tc 1048576 c) :
    Calls Tryz.prog 7 #[clV c vr va] w fun e w' => ∃ gr ga, e = .returned (clV c (.slice (some ⟨gr, 0, none⟩) c.re.length c.re.length) (.slice (some ⟨ga, 0, none⟩) c.ac.length c.ac.length)) ∧ Hid (w.heap.size ≤ gr ∧ w.heap.size ≤ ga ∧ gr ≠ ga ∧ AtR w' gr c.re ∧ AtA w' ga c.ac) ∧ Below w.heap.size w w' := by
  have HR : Hid (∀ W, Below w.heap.size w W → Has W c vr va) := fun W hW => h.below hW
  have HZ : Hid (Tc 1048576 c) := hz
  obtain ⟨ar, kr, rfl⟩ := RowG.slice h.1
  obtain ⟨aa, ka, rfl⟩ := RowG.slice h.2
  clear h hz
  have S0 : Hid _ := startC w #[.int .i64 c.id, .int .i64 c.st, .bool c.bu, .int .i64 c.rc, .int .i64 c.rs, .int .i64 c.rk, .int .i64 c.rl, .string c.rn, .slice ar c.re.length kr, .slice aa c.ac.length ka] #[.int .i64 c.id, .int .i64 c.st, .bool c.bu, .int .i64 0, .int .i64 0, .int .i64 0, .int .i64 0, .string ByteArray.empty, .slice none 0 0, .slice none 0 0]
  have HG : Hid (∀ W, Calls Tryz.prog 19 #[.agg #[.int .i64 c.rc, .int .i64 c.rs, .int .i64 c.rk, .int .i64 c.rl, .string c.rn]] W fun e w' => e = .returned (.agg #[.int .i64 c.rc, .int .i64 c.rs, .int .i64 c.rk, .int .i64 c.rl, .string c.rn]) ∧ Below W.heap.size W w') := fun W => toRequest_any c.rc c.rs c.rk c.rl c.rn W
  unfold clV
  go_enter Tryz.func7, Tryz.ntmps7
  go_wp2_with fail
  refine (HG.out _).mono ?_
  rintro e w1 ⟨rfl, b1⟩
  have C1 := S0.out.below b1
  obtain ⟨y3, fy3⟩ := Rg.blk_cell C1.ou 3 (x := .int .i64 0) rfl
  obtain ⟨y4, fy4⟩ := Rg.blk_cell C1.ou 4 (x := .int .i64 0) rfl
  obtain ⟨y5, fy5⟩ := Rg.blk_cell C1.ou 5 (x := .int .i64 0) rfl
  obtain ⟨y6, fy6⟩ := Rg.blk_cell C1.ou 6 (x := .int .i64 0) rfl
  obtain ⟨y7, fy7⟩ := Rg.blk_cell C1.ou 7 (x := .string ByteArray.empty) rfl
  have D1 : Hid (Cq w (((((w1.setCell ⟨w.heap.size + 1 + 1, 3, none⟩ (.int .i64 c.rc)).setCell ⟨w.heap.size + 1 + 1, 4, none⟩ (.int .i64 c.rs)).setCell ⟨w.heap.size + 1 + 1, 5, none⟩ (.int .i64 c.rk)).setCell ⟨w.heap.size + 1 + 1, 6, none⟩ (.int .i64 c.rl)).setCell ⟨w.heap.size + 1 + 1, 7, none⟩ (.string c.rn)) #[.int .i64 c.id, .int .i64 c.st, .bool c.bu, .int .i64 c.rc, .int .i64 c.rs, .int .i64 c.rk, .int .i64 c.rl, .string c.rn, .slice ar c.re.length kr, .slice aa c.ac.length ka] #[.int .i64 c.id, .int .i64 c.st, .bool c.bu, .int .i64 c.rc, .int .i64 c.rs, .int .i64 c.rk, .int .i64 c.rl, .string c.rn, .slice none 0 0, .slice none 0 0]) := (((((C1.set 3 (.int .i64 c.rc)).set 4 (.int .i64 c.rs)).set 5 (.int .i64 c.rk)).set 6 (.int .i64 c.rl)).set 7 (.string c.rn))
  have p8 := (Rg.blk_cell D1.out.bx 8 (x := .slice ar c.re.length kr) rfl).1
  clear b1 C1
  go_upto_region 6 with fail
  generalize (((((w1.setCell ⟨w.heap.size + 1 + 1, 3, none⟩ (.int .i64 c.rc)).setCell ⟨w.heap.size + 1 + 1, 4, none⟩ (.int .i64 c.rs)).setCell ⟨w.heap.size + 1 + 1, 5, none⟩ (.int .i64 c.rk)).setCell ⟨w.heap.size + 1 + 1, 6, none⟩ (.int .i64 c.rl)).setCell ⟨w.heap.size + 1 + 1, 7, none⟩ (.string c.rn)) = w2 at D1 p8 ⊢
  clear y3 fy3 y4 fy4 y5 fy5 y6 fy6 y7 fy7
  go_wp2_with fail
  refine (Gy.toS_any _ c.re _ (HR.out _ D1.out.be).1 HZ.out.2.1).mono ?_
  rintro e w3 ⟨gr, rfl, l2, u2, t2, b2, q2⟩
  have RN : Hid (AtR w3 gr c.re ∧ w.heap.size + 1 + 1 + 1 ≤ gr) := ⟨⟨t2, q2⟩, Nat.le_trans D1.out.sz l2⟩
  have C2 := D1.out.below b2
  obtain ⟨f1, f2⟩ := Rg.blk_cell C2.ou 8 (x := .slice none 0 0) rfl
  have D2 : Hid (Cq w (w3.setCell ⟨w.heap.size + 1 + 1, 8, none⟩ (.slice (some ⟨gr, 0, none⟩) c.re.length c.re.length)) #[.int .i64 c.id, .int .i64 c.st, .bool c.bu, .int .i64 c.rc, .int .i64 c.rs, .int .i64 c.rk, .int .i64 c.rl, .string c.rn, .slice ar c.re.length kr, .slice aa c.ac.length ka] #[.int .i64 c.id, .int .i64 c.st, .bool c.bu, .int .i64 c.rc, .int .i64 c.rs, .int .i64 c.rk, .int .i64 c.rl, .string c.rn, .slice (some ⟨gr, 0, none⟩) c.re.length c.re.length, .slice none 0 0]) := C2.set 8 (.slice (some ⟨gr, 0, none⟩) c.re.length c.re.length)
  have R2 : Hid (AtR (w3.setCell ⟨w.heap.size + 1 + 1, 8, none⟩ (.slice (some ⟨gr, 0, none⟩) c.re.length c.re.length)) gr c.re ∧ w.heap.size + 1 + 1 + 1 ≤ gr) := ⟨RN.out.1.keep (Rg.blk_far (by have := RN.out.2; omega) _ _), RN.out.2⟩
  have p9 := (Rg.blk_cell D2.out.bx 9 (x := .slice aa c.ac.length ka) rfl).1
  clear b2 C2 p8 RN l2 u2 t2 q2
  go_upto_region 7 with fail
  generalize (w3.setCell ⟨w.heap.size + 1 + 1, 8, none⟩ (.slice (some ⟨gr, 0, none⟩) c.re.length c.re.length)) = w4 at D2 R2 p9 ⊢
  clear f1 f2
  go_wp2_with fail
  refine (Ga.toS_any _ c.ac _ (HR.out _ D2.out.be).2 HZ.out.2.2.1).mono ?_
  rintro e w5 ⟨ga, rfl, l3, u3, t3, b3, q3⟩
  have HNE : Hid (gr ≠ ga) := by show _ ≠ _; have := R2.out.1.lt; omega
  have RK : Hid (AtA w5 ga c.ac ∧ w.heap.size + 1 + 1 + 1 ≤ ga) := ⟨⟨t3, q3⟩, Nat.le_trans D2.out.sz l3⟩
  have C3 := D2.out.below b3
  obtain ⟨f1, f2⟩ := Rg.blk_cell C3.ou 9 (x := .slice none 0 0) rfl
  have D3 : Hid (Cq w (w5.setCell ⟨w.heap.size + 1 + 1, 9, none⟩ (.slice (some ⟨ga, 0, none⟩) c.ac.length c.ac.length)) #[.int .i64 c.id, .int .i64 c.st, .bool c.bu, .int .i64 c.rc, .int .i64 c.rs, .int .i64 c.rk, .int .i64 c.rl, .string c.rn, .slice ar c.re.length kr, .slice aa c.ac.length ka] #[.int .i64 c.id, .int .i64 c.st, .bool c.bu, .int .i64 c.rc, .int .i64 c.rs, .int .i64 c.rk, .int .i64 c.rl, .string c.rn, .slice (some ⟨gr, 0, none⟩) c.re.length c.re.length, .slice (some ⟨ga, 0, none⟩) c.ac.length c.ac.length]) := C3.set 9 (.slice (some ⟨ga, 0, none⟩) c.ac.length c.ac.length)
  have R3 : Hid ((AtR (w5.setCell ⟨w.heap.size + 1 + 1, 9, none⟩ (.slice (some ⟨ga, 0, none⟩) c.ac.length c.ac.length)) gr c.re ∧ w.heap.size + 1 + 1 + 1 ≤ gr) ∧ AtA (w5.setCell ⟨w.heap.size + 1 + 1, 9, none⟩ (.slice (some ⟨ga, 0, none⟩) c.ac.length c.ac.length)) ga c.ac ∧ w.heap.size + 1 + 1 + 1 ≤ ga) := ⟨⟨(R2.out.1.keep (b3.block _ R2.out.1.lt)).keep (Rg.blk_far (by have := R2.out.2; omega) _ _), R2.out.2⟩, RK.out.1.keep (Rg.blk_far (by have := RK.out.2; omega) _ _), RK.out.2⟩
  clear b3 C3 p9 RK R2 l3 u3 t3 q3
  go_upto_region 8 with fail
  generalize (w5.setCell ⟨w.heap.size + 1 + 1, 9, none⟩ (.slice (some ⟨ga, 0, none⟩) c.ac.length c.ac.length)) = w6 at D3 R3 ⊢
  clear f1 f2
  obtain ⟨k0, _fk0⟩ := Rg.blk_cell D3.out.ou 0 (x := .int .i64 c.id) rfl
  obtain ⟨k1, _fk1⟩ := Rg.blk_cell D3.out.ou 1 (x := .int .i64 c.st) rfl
  obtain ⟨k2, _fk2⟩ := Rg.blk_cell D3.out.ou 2 (x := .bool c.bu) rfl
  obtain ⟨k3, _fk3⟩ := Rg.blk_cell D3.out.ou 3 (x := .int .i64 c.rc) rfl
  obtain ⟨k4, _fk4⟩ := Rg.blk_cell D3.out.ou 4 (x := .int .i64 c.rs) rfl
  obtain ⟨k5, _fk5⟩ := Rg.blk_cell D3.out.ou 5 (x := .int .i64 c.rk) rfl
  obtain ⟨k6, _fk6⟩ := Rg.blk_cell D3.out.ou 6 (x := .int .i64 c.rl) rfl
  obtain ⟨k7, _fk7⟩ := Rg.blk_cell D3.out.ou 7 (x := .string c.rn) rfl
  obtain ⟨k8, _fk8⟩ := Rg.blk_cell D3.out.ou 8 (x := .slice (some ⟨gr, 0, none⟩) c.re.length c.re.length) rfl
  obtain ⟨k9, _fk9⟩ := Rg.blk_cell D3.out.ou 9 (x := .slice (some ⟨ga, 0, none⟩) c.ac.length c.ac.length) rfl
  obtain ⟨z0, fz0⟩ := Rg.blk_cell D3.out.rs 0 (x := .int .i64 0) rfl
  obtain ⟨z1, fz1⟩ := Rg.blk_cell D3.out.rs 1 (x := .int .i64 0) rfl
  obtain ⟨z2, fz2⟩ := Rg.blk_cell D3.out.rs 2 (x := .bool false) rfl
  obtain ⟨z3, fz3⟩ := Rg.blk_cell D3.out.rs 3 (x := .int .i64 0) rfl
  obtain ⟨z4, fz4⟩ := Rg.blk_cell D3.out.rs 4 (x := .int .i64 0) rfl
  obtain ⟨z5, fz5⟩ := Rg.blk_cell D3.out.rs 5 (x := .int .i64 0) rfl
  obtain ⟨z6, fz6⟩ := Rg.blk_cell D3.out.rs 6 (x := .int .i64 0) rfl
  obtain ⟨z7, fz7⟩ := Rg.blk_cell D3.out.rs 7 (x := .string ByteArray.empty) rfl
  obtain ⟨z8, fz8⟩ := Rg.blk_cell D3.out.rs 8 (x := .slice none 0 0) rfl
  obtain ⟨z9, fz9⟩ := Rg.blk_cell D3.out.rs 9 (x := .slice none 0 0) rfl
  obtain ⟨AF, HB, GF0⟩ := set10 (.int .i64 0) (.int .i64 0) (.bool false) (.int .i64 0) (.int .i64 0) (.int .i64 0) (.int .i64 0) (.string ByteArray.empty) (.slice none 0 0) (.slice none 0 0) (.int .i64 c.id) (.int .i64 c.st) (.bool c.bu) (.int .i64 c.rc) (.int .i64 c.rs) (.int .i64 c.rk) (.int .i64 c.rl) (.string c.rn) (.slice (some ⟨gr, 0, none⟩) c.re.length c.re.length) (.slice (some ⟨ga, 0, none⟩) c.ac.length c.ac.length) D3.out.rs
  have GF := GF0 D3.out.be (Nat.le_succ w.heap.size)
  clear GF0
  have KF : Hid (w.heap.size ≤ gr ∧ w.heap.size ≤ ga ∧ gr ≠ ga ∧ AtR ((((((((((w6.setCell ⟨w.heap.size + 1, 0, none⟩ (.int .i64 c.id)).setCell ⟨w.heap.size + 1, 1, none⟩ (.int .i64 c.st)).setCell ⟨w.heap.size + 1, 2, none⟩ (.bool c.bu)).setCell ⟨w.heap.size + 1, 3, none⟩ (.int .i64 c.rc)).setCell ⟨w.heap.size + 1, 4, none⟩ (.int .i64 c.rs)).setCell ⟨w.heap.size + 1, 5, none⟩ (.int .i64 c.rk)).setCell ⟨w.heap.size + 1, 6, none⟩ (.int .i64 c.rl)).setCell ⟨w.heap.size + 1, 7, none⟩ (.string c.rn)).setCell ⟨w.heap.size + 1, 8, none⟩ (.slice (some ⟨gr, 0, none⟩) c.re.length c.re.length)).setCell ⟨w.heap.size + 1, 9, none⟩ (.slice (some ⟨ga, 0, none⟩) c.ac.length c.ac.length)) gr c.re ∧ AtA ((((((((((w6.setCell ⟨w.heap.size + 1, 0, none⟩ (.int .i64 c.id)).setCell ⟨w.heap.size + 1, 1, none⟩ (.int .i64 c.st)).setCell ⟨w.heap.size + 1, 2, none⟩ (.bool c.bu)).setCell ⟨w.heap.size + 1, 3, none⟩ (.int .i64 c.rc)).setCell ⟨w.heap.size + 1, 4, none⟩ (.int .i64 c.rs)).setCell ⟨w.heap.size + 1, 5, none⟩ (.int .i64 c.rk)).setCell ⟨w.heap.size + 1, 6, none⟩ (.int .i64 c.rl)).setCell ⟨w.heap.size + 1, 7, none⟩ (.string c.rn)).setCell ⟨w.heap.size + 1, 8, none⟩ (.slice (some ⟨gr, 0, none⟩) c.re.length c.re.length)).setCell ⟨w.heap.size + 1, 9, none⟩ (.slice (some ⟨ga, 0, none⟩) c.ac.length c.ac.length)) ga c.ac) := by
    have e1 := R3.out.1.2
    have e2 := R3.out.2.2
    exact ⟨by omega, by omega, HNE.out, R3.out.1.1.keep (HB gr (by omega)), R3.out.2.1.keep (HB ga (by omega))⟩
  go_wp2_with fail
  generalize ((((((((((w6.setCell ⟨w.heap.size + 1, 0, none⟩ (.int .i64 c.id)).setCell ⟨w.heap.size + 1, 1, none⟩ (.int .i64 c.st)).setCell ⟨w.heap.size + 1, 2, none⟩ (.bool c.bu)).setCell ⟨w.heap.size + 1, 3, none⟩ (.int .i64 c.rc)).setCell ⟨w.heap.size + 1, 4, none⟩ (.int .i64 c.rs)).setCell ⟨w.heap.size + 1, 5, none⟩ (.int .i64 c.rk)).setCell ⟨w.heap.size + 1, 6, none⟩ (.int .i64 c.rl)).setCell ⟨w.heap.size + 1, 7, none⟩ (.string c.rn)).setCell ⟨w.heap.size + 1, 8, none⟩ (.slice (some ⟨gr, 0, none⟩) c.re.length c.re.length)).setCell ⟨w.heap.size + 1, 9, none⟩ (.slice (some ⟨ga, 0, none⟩) c.ac.length c.ac.length)) = wf at AF GF KF ⊢
  have d0 := (Rg.blk_cell AF 0 (x := .int .i64 c.id) rfl).1
  have d1 := (Rg.blk_cell AF 1 (x := .int .i64 c.st) rfl).1
  have d2 := (Rg.blk_cell AF 2 (x := .bool c.bu) rfl).1
  have d3 := (Rg.blk_cell AF 3 (x := .int .i64 c.rc) rfl).1
  have d4 := (Rg.blk_cell AF 4 (x := .int .i64 c.rs) rfl).1
  have d5 := (Rg.blk_cell AF 5 (x := .int .i64 c.rk) rfl).1
  have d6 := (Rg.blk_cell AF 6 (x := .int .i64 c.rl) rfl).1
  have d7 := (Rg.blk_cell AF 7 (x := .string c.rn) rfl).1
  have d8 := (Rg.blk_cell AF 8 (x := .slice (some ⟨gr, 0, none⟩) c.re.length c.re.length) rfl).1
  have d9 := (Rg.blk_cell AF 9 (x := .slice (some ⟨ga, 0, none⟩) c.ac.length c.ac.length) rfl).1
  exact bodyPost_ret (v := .agg #[.int .i64 c.id, .int .i64 c.st, .bool c.bu, .int .i64 c.rc, .int .i64 c.rs, .int .i64 c.rk, .int .i64 c.rl, .string c.rn, .slice (some ⟨gr, 0, none⟩) c.re.length c.re.length, .slice (some ⟨ga, 0, none⟩) c.ac.length c.ac.length]) (by simp [results, Tryz.results7, go_sem, d0, d1, d2, d3, d4, d5, d6, d7, d8, d9]) rfl ⟨gr, ga, rfl, KF, GF⟩
end Go.Proofs.YtmbnfpifganeeaaGreatDoor.Cl
