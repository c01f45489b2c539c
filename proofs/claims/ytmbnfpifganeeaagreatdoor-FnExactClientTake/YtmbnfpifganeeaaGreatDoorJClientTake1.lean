/- A reply is taken by the specification. -/
import Derived.Test.YtmbnfpifganeeaaGreatDoorJClientTake0
import Derived.Deep.RegionHeldLaw
import Derived.Deep.RegionLaw
import Derived.BigQuiet
import Derived.Laws.StructEq
namespace Go.Proofs.YtmbnfpifganeeaaGreatDoor.Cl
open Go.RowKit Go.Proofs.YtmbnfpifganeeaaGreatDoor.Sl Go.Proofs.YtmbnfpifganeeaaGreatDoor.Rg
open Go.Proofs.YtmbnfpifganeeaaGreatDoor.Gy (Re)
open Go.Proofs.YtmbnfpifganeeaaGreatDoor.Rk (An anV ccR ccA ccC cc_cases implCountReplies_any)
open Go.Proofs.YtmbnfpifganeeaaGreatDoor.Rq (reqB implRequestOK_any)
open Go.Proofs.YtmbnfpifganeeaaGreatDoor.Ry (anB answerOK_any rokB lokB implReplyOK_any)
open Go.Proofs.YtmbnfpifganeeaaGreatDoor.Rm (inR within_any)
open Go.Proofs.YtmbnfpifganeeaaGreatDoor.Tm (fCode fOut f_cases implFaultsOf_any)
open Go.Proofs.YtmbnfpifganeeaaGreatDoor.Sh (KTab KTab.below)

open Go.Proofs.YtmbnfpifganeeaaGreatDoor.Rr11 (OwnR)
open Go.Proofs.YtmbnfpifganeeaaGreatDoor.Ox (OwnX)
open Go.Proofs.YtmbnfpifganeeaaGreatDoor.Rys (l05Answer_any l11OK_any)
open Go.Proofs.YtmbnfpifganeeaaGreatDoor.Rk (l11Count_any foA)
/-- A region is cut behind its end: eight slots are anything. -/
theorem cut8 {P : Program} {id : Nat} {ops : Array Oper} {b : Bool} {Q : Exit → Act → World → Prop} {a : Act} {w : World} (k1 k2 k3 k4 k5 k6 k7 k8 : Nat) (R : World → Prop)
    (h1 : (Code.region id ops b).wp P (fun e a' w' => match e with | .normal => ∃ t1 t2 t3 t4 t5 t6 t7 t8 : Value, a' = ((((((((a.put (some k1) t1).put (some k2) t2).put (some k3) t3).put (some k4) t4).put (some k5) t5).put (some k6) t6).put (some k7) t7).put (some k8) t8) ∧ R w' | _ => False) a w)
    (h2 : ∀ (t1 t2 t3 t4 t5 t6 t7 t8 : Value) w', R w' → Q .normal ((((((((a.put (some k1) t1).put (some k2) t2).put (some k3) t3).put (some k4) t4).put (some k5) t5).put (some k6) t6).put (some k7) t7).put (some k8) t8) w') : (Code.region id ops b).wp P Q a w :=
  Code.wp_mono (fun e a' w' h => by
    cases e with
    | normal =>
      obtain ⟨t1, t2, t3, t4, t5, t6, t7, t8, rfl, h⟩ := h
      exact h2 t1 t2 t3 t4 t5 t6 t7 t8 w' h
    | _ => exact h.elim) h1
theorem row1_keep {W W' : World} {g : Nat} {x : Re} (h : Gy.Row W (.slice (some ⟨g, 0, none⟩) 1 1) [x]) (hk : W'.heap[g]? = W.heap[g]?) : Gy.Row W' (.slice (some ⟨g, 0, none⟩) 1 1) [x] := by
  obtain ⟨b, off, e, hlt, hE⟩ := RowG.at (i := 0) h rfl rfl
  cases e
  have hE2 : Gy.E1 W' g (0 + 0 * 8) x := by
    unfold Gy.E1 at hE ⊢
    simp only [cell_blk hk]
    exact hE
  refine ⟨_, 1, rfl, .inr ⟨g, 0, rfl, Nat.le_refl _, World.block_lt_of_cell? W' _ hE2.1, fun i y hi => ?_⟩⟩
  obtain rfl : i = 0 := by have := (List.getElem?_eq_some_iff.1 hi).1; simp at this; exact this
  simp at hi
  subst hi
  exact hE2
theorem row1X_keep {W W' : World} {g : Nat} {x : An} (h : Ga.Row W (.slice (some ⟨g, 0, none⟩) 1 1) [x]) (hk : W'.heap[g]? = W.heap[g]?) : Ga.Row W' (.slice (some ⟨g, 0, none⟩) 1 1) [x] := by
  obtain ⟨b, off, e, hlt, hE⟩ := RowG.at (i := 0) h rfl rfl
  cases e
  have hE2 : Ga.E1 W' g (0 + 0 * 4) x := by
    unfold Ga.E1 at hE ⊢
    simp only [cell_blk hk]
    exact hE
  refine ⟨_, 1, rfl, .inr ⟨g, 0, rfl, Nat.le_refl _, World.block_lt_of_cell? W' _ hE2.1, fun i y hi => ?_⟩⟩
  obtain rfl : i = 0 := by have := (List.getElem?_eq_some_iff.1 hi).1; simp at this; exact this
  simp at hi
  subst hi
  exact hE2
def tsR (n : Int) (c : Cd) (x : Re) : Cd := if rokB n x = true then (if c.bu = true then hdR n c x else c) else c
def tsC (n : Int) (c : Cd) (x : Re) : Int := if rokB n x = true then (if c.bu = true then hdC c x else 16) else 12
theorem ts_sig {n : Int} {c : Cd} {x : Re} (h2 : rokB n x = false) : tsR n c x = c ∧ tsC n c x = 12 := by unfold tsR tsC; rw [h2]; exact ⟨rfl, rfl⟩
theorem ts_rest {n : Int} {c : Cd} {x : Re} (h2 : rokB n x = true) (h3 : c.bu = false) : tsR n c x = c ∧ tsC n c x = 16 := by unfold tsR tsC; rw [h2, h3]; exact ⟨rfl, rfl⟩
theorem ts_wait {n : Int} {c : Cd} {x : Re} (h2 : rokB n x = true) (h3 : c.bu = true) : tsR n c x = hdR n c x ∧ tsC n c x = hdC c x := by unfold tsR tsC; rw [h2, h3]; exact ⟨rfl, rfl⟩
theorem hd_no {n : Int} {c : Cd} {x : Re} (h : asB c x = false) : hdR n c x = c ∧ hdC c x = 16 := by unfold hdR hdC; rw [h]; exact ⟨rfl, rfl⟩
theorem hd_full {n : Int} {c : Cd} {x : Re} (h : asB c x = true) (h4 : 40 ≤ c.re.length) : hdR n c x = c ∧ hdC c x = 7 := by unfold hdR hdC; rw [h, if_pos rfl, if_pos rfl, if_pos h4, if_pos h4]; exact ⟨rfl, rfl⟩
theorem hd_in {n : Int} {c : Cd} {x : Re} (h : asB c x = true) (h4 : ¬ 40 ≤ c.re.length) : hdR n c x = (if dcB n (addR c x) = true then fin c (ccA n c.id c.st (c.re ++ [x])) else addR c x) ∧ hdC c x = 0 := by unfold hdR hdC; rw [h, if_pos rfl, if_pos rfl, if_neg h4, if_neg h4]; exact ⟨rfl, rfl⟩
theorem cca_foA {n : Int} {i s : Int} {L : List Re} (h : fCode n = 0) (h6 : L.length ≤ 60) : ccA n i s L = foA (ccR n i s L) := by
  unfold ccA
  rw [if_neg (by omega), if_pos h, if_neg (by omega)]
set_option maxRecDepth 100000 in
set_option maxHeartbeats 9600000 in
theorem l13Take_any (n : Int) (c : Cd) (vr va : Value) (x : Re) (w : World) (h : Has w c vr va) (hz : Tc 1048576 c) (hn : fCode n = 0) (h40 : c.re.length ≤ 40) :
    Calls Tryz.prog 17 #[.int .i64 n, clV c vr va, Gy.oneV x] w fun e w' => ∃ vr' va', e = .returned (.tuple #[clV (tsR n c x) vr' va', .int .i64 (tsC n c x)]) ∧ Hid (Has w' (tsR n c x) vr' va') ∧ Below w.heap.size w w' := by
  obtain ⟨i0, hi0, hz0, hz1, hz2⟩ := info_parts Rr11.infoR
  obtain ⟨j0, hj0, hy0, hy1, hy2⟩ := info_parts Ox.infoX
  have HR : Hid (∀ W, Below w.heap.size w W → Has W c vr va) := fun W hW => h.below hW
  have HZ : Hid (Tc 1048576 c ∧ fCode n = 0) := ⟨hz, hn⟩
  obtain ⟨ar, kr, rfl⟩ := RowG.slice h.1
  obtain ⟨aa, ka, rfl⟩ := RowG.slice h.2
  clear h hz hn
  have HX : Hid (∀ W, Below (((w.alloc (.cells #[.int .i64 c.id, .int .i64 c.st, .bool c.bu, .int .i64 c.rc, .int .i64 c.rs, .int .i64 c.rk, .int .i64 c.rl, .string c.rn, .slice ar c.re.length kr, .slice aa c.ac.length ka] 38)).alloc (.cells #[.int .i64 x.nd, .int .i64 x.cl, .int .i64 x.st, .int .i64 x.kd, .int .i64 x.tk, .int .i64 x.hd, .int .i64 x.ex, .string x.mc] 44)).alloc (.cells #[.int .i64 0, .int .i64 0, .bool false, .int .i64 0, .int .i64 0, .int .i64 0, .int .i64 0, .string ⟨#[]⟩, .slice none 0 0, .slice none 0 0] 38)).heap.size (((w.alloc (.cells #[.int .i64 c.id, .int .i64 c.st, .bool c.bu, .int .i64 c.rc, .int .i64 c.rs, .int .i64 c.rk, .int .i64 c.rl, .string c.rn, .slice ar c.re.length kr, .slice aa c.ac.length ka] 38)).alloc (.cells #[.int .i64 x.nd, .int .i64 x.cl, .int .i64 x.st, .int .i64 x.kd, .int .i64 x.tk, .int .i64 x.hd, .int .i64 x.ex, .string x.mc] 44)).alloc (.cells #[.int .i64 0, .int .i64 0, .bool false, .int .i64 0, .int .i64 0, .int .i64 0, .int .i64 0, .string ⟨#[]⟩, .slice none 0 0, .slice none 0 0] 38)) W → (W.heap[w.heap.size]? = some (.cells #[.int .i64 c.id, .int .i64 c.st, .bool c.bu, .int .i64 c.rc, .int .i64 c.rs, .int .i64 c.rk, .int .i64 c.rl, .string c.rn, .slice ar c.re.length kr, .slice aa c.ac.length ka] 38) ∧ W.heap[w.heap.size + 1]? = some (.cells #[.int .i64 x.nd, .int .i64 x.cl, .int .i64 x.st, .int .i64 x.kd, .int .i64 x.tk, .int .i64 x.hd, .int .i64 x.ex, .string x.mc] 44) ∧ W.heap[w.heap.size + 1 + 1]? = some (.cells #[.int .i64 0, .int .i64 0, .bool false, .int .i64 0, .int .i64 0, .int .i64 0, .int .i64 0, .string ⟨#[]⟩, .slice none 0 0, .slice none 0 0] 38)) ∧ Below w.heap.size w W ∧ w.heap.size + 1 + 1 + 1 ≤ W.heap.size) := fun W hW => three hW
  have HRO : Hid (∀ W, Calls Tryz.prog 38 #[.int .i64 n, .agg #[.int .i64 x.nd, .int .i64 x.cl, .int .i64 x.st, .int .i64 x.kd, .int .i64 x.tk, .int .i64 x.hd, .int .i64 x.ex, .string x.mc]] W fun e w' => e = .returned (.bool (rokB n x)) ∧ Below W.heap.size W w') := fun W => by rw [rok_lok HZ.out.2]; exact l11OK_any n x W
  unfold clV Gy.oneV
  go_enter Tryz.func17, Tryz.ntmps17
  go_upto_region 1 with fail
  generalize (((w.alloc (.cells #[.int .i64 c.id, .int .i64 c.st, .bool c.bu, .int .i64 c.rc, .int .i64 c.rs, .int .i64 c.rk, .int .i64 c.rl, .string c.rn, .slice ar c.re.length kr, .slice aa c.ac.length ka] 38)).alloc (.cells #[.int .i64 x.nd, .int .i64 x.cl, .int .i64 x.st, .int .i64 x.kd, .int .i64 x.tk, .int .i64 x.hd, .int .i64 x.ex, .string x.mc] 44)).alloc (.cells #[.int .i64 0, .int .i64 0, .bool false, .int .i64 0, .int .i64 0, .int .i64 0, .int .i64 0, .string ⟨#[]⟩, .slice none 0 0, .slice none 0 0] 38)) = wb at HX ⊢
  have X0 := HX.out wb (Below.refl _ _)
  have e0 := (Rg.blk_cell X0.1.2.1 0 (x := .int .i64 x.nd) rfl).1
  have e1 := (Rg.blk_cell X0.1.2.1 1 (x := .int .i64 x.cl) rfl).1
  have e2 := (Rg.blk_cell X0.1.2.1 2 (x := .int .i64 x.st) rfl).1
  have e3 := (Rg.blk_cell X0.1.2.1 3 (x := .int .i64 x.kd) rfl).1
  have e4 := (Rg.blk_cell X0.1.2.1 4 (x := .int .i64 x.tk) rfl).1
  have e5 := (Rg.blk_cell X0.1.2.1 5 (x := .int .i64 x.hd) rfl).1
  have e6 := (Rg.blk_cell X0.1.2.1 6 (x := .int .i64 x.ex) rfl).1
  have e7 := (Rg.blk_cell X0.1.2.1 7 (x := .string x.mc) rfl).1
  clear X0
  go_wp2_with fail
  refine (HRO.out _).mono ?_
  rintro e w2 ⟨rfl, b2⟩
  have X2 : Hid ((w2.heap[w.heap.size]? = some (.cells #[.int .i64 c.id, .int .i64 c.st, .bool c.bu, .int .i64 c.rc, .int .i64 c.rs, .int .i64 c.rk, .int .i64 c.rl, .string c.rn, .slice ar c.re.length kr, .slice aa c.ac.length ka] 38) ∧ w2.heap[w.heap.size + 1]? = some (.cells #[.int .i64 x.nd, .int .i64 x.cl, .int .i64 x.st, .int .i64 x.kd, .int .i64 x.tk, .int .i64 x.hd, .int .i64 x.ex, .string x.mc] 44) ∧ w2.heap[w.heap.size + 1 + 1]? = some (.cells #[.int .i64 0, .int .i64 0, .bool false, .int .i64 0, .int .i64 0, .int .i64 0, .int .i64 0, .string ⟨#[]⟩, .slice none 0 0, .slice none 0 0] 38)) ∧ Below w.heap.size w w2 ∧ w.heap.size + 1 + 1 + 1 ≤ w2.heap.size) := HX.out w2 b2
  clear b2 HRO HX e0 e1 e2 e3 e4 e5 e6 e7
  have c0 := (Rg.blk_cell X2.out.1.1 0 (x := .int .i64 c.id) rfl).1
  have c1 := (Rg.blk_cell X2.out.1.1 1 (x := .int .i64 c.st) rfl).1
  have c2 := (Rg.blk_cell X2.out.1.1 2 (x := .bool c.bu) rfl).1
  have c3 := (Rg.blk_cell X2.out.1.1 3 (x := .int .i64 c.rc) rfl).1
  have c4 := (Rg.blk_cell X2.out.1.1 4 (x := .int .i64 c.rs) rfl).1
  have c5 := (Rg.blk_cell X2.out.1.1 5 (x := .int .i64 c.rk) rfl).1
  have c6 := (Rg.blk_cell X2.out.1.1 6 (x := .int .i64 c.rl) rfl).1
  have c7 := (Rg.blk_cell X2.out.1.1 7 (x := .string c.rn) rfl).1
  have c8 := (Rg.blk_cell X2.out.1.1 8 (x := .slice ar c.re.length kr) rfl).1
  have c9 := (Rg.blk_cell X2.out.1.1 9 (x := .slice aa c.ac.length ka) rfl).1
  have e0 := (Rg.blk_cell X2.out.1.2.1 0 (x := .int .i64 x.nd) rfl).1
  have e1 := (Rg.blk_cell X2.out.1.2.1 1 (x := .int .i64 x.cl) rfl).1
  have e2 := (Rg.blk_cell X2.out.1.2.1 2 (x := .int .i64 x.st) rfl).1
  have e3 := (Rg.blk_cell X2.out.1.2.1 3 (x := .int .i64 x.kd) rfl).1
  have e4 := (Rg.blk_cell X2.out.1.2.1 4 (x := .int .i64 x.tk) rfl).1
  have e5 := (Rg.blk_cell X2.out.1.2.1 5 (x := .int .i64 x.hd) rfl).1
  have e6 := (Rg.blk_cell X2.out.1.2.1 6 (x := .int .i64 x.ex) rfl).1
  have e7 := (Rg.blk_cell X2.out.1.2.1 7 (x := .string x.mc) rfl).1
  cases hro : rokB n x with
  | false =>
    have HV : Hid (tsR n c x = c ∧ tsC n c x = 12) := ts_sig hro
    clear hro
    have Z9 := X2.out
    obtain ⟨z0, fz0⟩ := Rg.blk_cell Z9.1.2.2 0 (x := .int .i64 0) rfl
    obtain ⟨z1, fz1⟩ := Rg.blk_cell Z9.1.2.2 1 (x := .int .i64 0) rfl
    obtain ⟨z2, fz2⟩ := Rg.blk_cell Z9.1.2.2 2 (x := .bool false) rfl
    obtain ⟨z3, fz3⟩ := Rg.blk_cell Z9.1.2.2 3 (x := .int .i64 0) rfl
    obtain ⟨z4, fz4⟩ := Rg.blk_cell Z9.1.2.2 4 (x := .int .i64 0) rfl
    obtain ⟨z5, fz5⟩ := Rg.blk_cell Z9.1.2.2 5 (x := .int .i64 0) rfl
    obtain ⟨z6, fz6⟩ := Rg.blk_cell Z9.1.2.2 6 (x := .int .i64 0) rfl
    obtain ⟨z7, fz7⟩ := Rg.blk_cell Z9.1.2.2 7 (x := .string ⟨#[]⟩) rfl
    obtain ⟨z8, fz8⟩ := Rg.blk_cell Z9.1.2.2 8 (x := .slice none 0 0) rfl
    obtain ⟨z9, fz9⟩ := Rg.blk_cell Z9.1.2.2 9 (x := .slice none 0 0) rfl
    obtain ⟨AF, HFB, GF0⟩ := set10 (.int .i64 0) (.int .i64 0) (.bool false) (.int .i64 0) (.int .i64 0) (.int .i64 0) (.int .i64 0) (.string ⟨#[]⟩) (.slice none 0 0) (.slice none 0 0) (.int .i64 c.id) (.int .i64 c.st) (.bool c.bu) (.int .i64 c.rc) (.int .i64 c.rs) (.int .i64 c.rk) (.int .i64 c.rl) (.string c.rn) (.slice ar c.re.length kr) (.slice aa c.ac.length ka) Z9.1.2.2
    have GF := GF0 (Z9.2.1) (Nat.le_trans (Nat.le_succ _) (Nat.le_succ _))
    have KF : Hid (Has ((((((((((w2.setCell ⟨w.heap.size + 1 + 1, 0, none⟩ (.int .i64 c.id)).setCell ⟨w.heap.size + 1 + 1, 1, none⟩ (.int .i64 c.st)).setCell ⟨w.heap.size + 1 + 1, 2, none⟩ (.bool c.bu)).setCell ⟨w.heap.size + 1 + 1, 3, none⟩ (.int .i64 c.rc)).setCell ⟨w.heap.size + 1 + 1, 4, none⟩ (.int .i64 c.rs)).setCell ⟨w.heap.size + 1 + 1, 5, none⟩ (.int .i64 c.rk)).setCell ⟨w.heap.size + 1 + 1, 6, none⟩ (.int .i64 c.rl)).setCell ⟨w.heap.size + 1 + 1, 7, none⟩ (.string c.rn)).setCell ⟨w.heap.size + 1 + 1, 8, none⟩ (.slice ar c.re.length kr)).setCell ⟨w.heap.size + 1 + 1, 9, none⟩ (.slice aa c.ac.length ka)) c (.slice ar c.re.length kr) (.slice aa c.ac.length ka)) := HR.out _ GF
    clear GF0 HFB Z9 
    go_wp2_with fail
    generalize ((((((((((w2.setCell ⟨w.heap.size + 1 + 1, 0, none⟩ (.int .i64 c.id)).setCell ⟨w.heap.size + 1 + 1, 1, none⟩ (.int .i64 c.st)).setCell ⟨w.heap.size + 1 + 1, 2, none⟩ (.bool c.bu)).setCell ⟨w.heap.size + 1 + 1, 3, none⟩ (.int .i64 c.rc)).setCell ⟨w.heap.size + 1 + 1, 4, none⟩ (.int .i64 c.rs)).setCell ⟨w.heap.size + 1 + 1, 5, none⟩ (.int .i64 c.rk)).setCell ⟨w.heap.size + 1 + 1, 6, none⟩ (.int .i64 c.rl)).setCell ⟨w.heap.size + 1 + 1, 7, none⟩ (.string c.rn)).setCell ⟨w.heap.size + 1 + 1, 8, none⟩ (.slice ar c.re.length kr)).setCell ⟨w.heap.size + 1 + 1, 9, none⟩ (.slice aa c.ac.length ka)) = wf at AF GF KF ⊢
    have d0 := (Rg.blk_cell AF 0 (x := .int .i64 c.id) rfl).1
    have d1 := (Rg.blk_cell AF 1 (x := .int .i64 c.st) rfl).1
    have d2 := (Rg.blk_cell AF 2 (x := .bool c.bu) rfl).1
    have d3 := (Rg.blk_cell AF 3 (x := .int .i64 c.rc) rfl).1
    have d4 := (Rg.blk_cell AF 4 (x := .int .i64 c.rs) rfl).1
    have d5 := (Rg.blk_cell AF 5 (x := .int .i64 c.rk) rfl).1
    have d6 := (Rg.blk_cell AF 6 (x := .int .i64 c.rl) rfl).1
    have d7 := (Rg.blk_cell AF 7 (x := .string c.rn) rfl).1
    have d8 := (Rg.blk_cell AF 8 (x := .slice ar c.re.length kr) rfl).1
    have d9 := (Rg.blk_cell AF 9 (x := .slice aa c.ac.length ka) rfl).1
    exact bodyPost_ret (v := .tuple #[.agg #[.int .i64 c.id, .int .i64 c.st, .bool c.bu, .int .i64 c.rc, .int .i64 c.rs, .int .i64 c.rk, .int .i64 c.rl, .string c.rn, .slice ar c.re.length kr, .slice aa c.ac.length ka], .int .i64 12]) (by simp [results, Tryz.results17, go_sem, d0, d1, d2, d3, d4, d5, d6, d7, d8, d9]) rfl ⟨_, _, ret_tup (by rw [HV.out.1] <;> rfl) HV.out.2.symm, by rw [HV.out.1]; exact KF, GF⟩
  | true =>
  have HRT : Hid (rokB n x = true) := hro
  clear hro
  by_cases hb : c.bu = true
  case neg =>
    have hb2 : c.bu = false := by simpa using hb
    have HV : Hid (tsR n c x = c ∧ tsC n c x = 16) := ts_rest HRT.out hb2
    have hnb : (!c.bu) = true := by rw [hb2]; rfl
    clear hb hb2
    have Z9 := X2.out
    obtain ⟨z0, fz0⟩ := Rg.blk_cell Z9.1.2.2 0 (x := .int .i64 0) rfl
    obtain ⟨z1, fz1⟩ := Rg.blk_cell Z9.1.2.2 1 (x := .int .i64 0) rfl
    obtain ⟨z2, fz2⟩ := Rg.blk_cell Z9.1.2.2 2 (x := .bool false) rfl
    obtain ⟨z3, fz3⟩ := Rg.blk_cell Z9.1.2.2 3 (x := .int .i64 0) rfl
    obtain ⟨z4, fz4⟩ := Rg.blk_cell Z9.1.2.2 4 (x := .int .i64 0) rfl
    obtain ⟨z5, fz5⟩ := Rg.blk_cell Z9.1.2.2 5 (x := .int .i64 0) rfl
    obtain ⟨z6, fz6⟩ := Rg.blk_cell Z9.1.2.2 6 (x := .int .i64 0) rfl
    obtain ⟨z7, fz7⟩ := Rg.blk_cell Z9.1.2.2 7 (x := .string ⟨#[]⟩) rfl
    obtain ⟨z8, fz8⟩ := Rg.blk_cell Z9.1.2.2 8 (x := .slice none 0 0) rfl
    obtain ⟨z9, fz9⟩ := Rg.blk_cell Z9.1.2.2 9 (x := .slice none 0 0) rfl
    obtain ⟨AF, HFB, GF0⟩ := set10 (.int .i64 0) (.int .i64 0) (.bool false) (.int .i64 0) (.int .i64 0) (.int .i64 0) (.int .i64 0) (.string ⟨#[]⟩) (.slice none 0 0) (.slice none 0 0) (.int .i64 c.id) (.int .i64 c.st) (.bool c.bu) (.int .i64 c.rc) (.int .i64 c.rs) (.int .i64 c.rk) (.int .i64 c.rl) (.string c.rn) (.slice ar c.re.length kr) (.slice aa c.ac.length ka) Z9.1.2.2
    have GF := GF0 (Z9.2.1) (Nat.le_trans (Nat.le_succ _) (Nat.le_succ _))
    have KF : Hid (Has ((((((((((w2.setCell ⟨w.heap.size + 1 + 1, 0, none⟩ (.int .i64 c.id)).setCell ⟨w.heap.size + 1 + 1, 1, none⟩ (.int .i64 c.st)).setCell ⟨w.heap.size + 1 + 1, 2, none⟩ (.bool c.bu)).setCell ⟨w.heap.size + 1 + 1, 3, none⟩ (.int .i64 c.rc)).setCell ⟨w.heap.size + 1 + 1, 4, none⟩ (.int .i64 c.rs)).setCell ⟨w.heap.size + 1 + 1, 5, none⟩ (.int .i64 c.rk)).setCell ⟨w.heap.size + 1 + 1, 6, none⟩ (.int .i64 c.rl)).setCell ⟨w.heap.size + 1 + 1, 7, none⟩ (.string c.rn)).setCell ⟨w.heap.size + 1 + 1, 8, none⟩ (.slice ar c.re.length kr)).setCell ⟨w.heap.size + 1 + 1, 9, none⟩ (.slice aa c.ac.length ka)) c (.slice ar c.re.length kr) (.slice aa c.ac.length ka)) := HR.out _ GF
    clear GF0 HFB Z9 
    go_wp2_with fail
    generalize ((((((((((w2.setCell ⟨w.heap.size + 1 + 1, 0, none⟩ (.int .i64 c.id)).setCell ⟨w.heap.size + 1 + 1, 1, none⟩ (.int .i64 c.st)).setCell ⟨w.heap.size + 1 + 1, 2, none⟩ (.bool c.bu)).setCell ⟨w.heap.size + 1 + 1, 3, none⟩ (.int .i64 c.rc)).setCell ⟨w.heap.size + 1 + 1, 4, none⟩ (.int .i64 c.rs)).setCell ⟨w.heap.size + 1 + 1, 5, none⟩ (.int .i64 c.rk)).setCell ⟨w.heap.size + 1 + 1, 6, none⟩ (.int .i64 c.rl)).setCell ⟨w.heap.size + 1 + 1, 7, none⟩ (.string c.rn)).setCell ⟨w.heap.size + 1 + 1, 8, none⟩ (.slice ar c.re.length kr)).setCell ⟨w.heap.size + 1 + 1, 9, none⟩ (.slice aa c.ac.length ka)) = wf at AF GF KF ⊢
    have d0 := (Rg.blk_cell AF 0 (x := .int .i64 c.id) rfl).1
    have d1 := (Rg.blk_cell AF 1 (x := .int .i64 c.st) rfl).1
    have d2 := (Rg.blk_cell AF 2 (x := .bool c.bu) rfl).1
    have d3 := (Rg.blk_cell AF 3 (x := .int .i64 c.rc) rfl).1
    have d4 := (Rg.blk_cell AF 4 (x := .int .i64 c.rs) rfl).1
    have d5 := (Rg.blk_cell AF 5 (x := .int .i64 c.rk) rfl).1
    have d6 := (Rg.blk_cell AF 6 (x := .int .i64 c.rl) rfl).1
    have d7 := (Rg.blk_cell AF 7 (x := .string c.rn) rfl).1
    have d8 := (Rg.blk_cell AF 8 (x := .slice ar c.re.length kr) rfl).1
    have d9 := (Rg.blk_cell AF 9 (x := .slice aa c.ac.length ka) rfl).1
    exact bodyPost_ret (v := .tuple #[.agg #[.int .i64 c.id, .int .i64 c.st, .bool c.bu, .int .i64 c.rc, .int .i64 c.rs, .int .i64 c.rk, .int .i64 c.rl, .string c.rn, .slice ar c.re.length kr, .slice aa c.ac.length ka], .int .i64 16]) (by simp [results, Tryz.results17, go_sem, d0, d1, d2, d3, d4, d5, d6, d7, d8, d9]) rfl ⟨_, _, ret_tup (by rw [HV.out.1] <;> rfl) HV.out.2.symm, by rw [HV.out.1]; exact KF, GF⟩
  have HBU : Hid (c.bu = true) := hb
  have HV0 : Hid (tsR n c x = hdR n c x ∧ tsC n c x = hdC c x) := ts_wait HRT.out hb
  have hnb : (!c.bu) = false := by rw [hb]; rfl
  clear hb
  cases hd1 : decide (x.cl = c.id) with
  | false =>
    have HV : Hid (tsR n c x = c ∧ tsC n c x = 16) := by
      have := hd_no (n := n) (c := c) (x := x) (by unfold asB; rw [hd1]; rfl)
      exact ⟨HV0.out.1.trans this.1, HV0.out.2.trans this.2⟩
    have e9 : (x.cl != c.id) = true := by simpa using hd1
    clear hd1
    have Z9 := X2.out
    obtain ⟨z0, fz0⟩ := Rg.blk_cell Z9.1.2.2 0 (x := .int .i64 0) rfl
    obtain ⟨z1, fz1⟩ := Rg.blk_cell Z9.1.2.2 1 (x := .int .i64 0) rfl
    obtain ⟨z2, fz2⟩ := Rg.blk_cell Z9.1.2.2 2 (x := .bool false) rfl
    obtain ⟨z3, fz3⟩ := Rg.blk_cell Z9.1.2.2 3 (x := .int .i64 0) rfl
    obtain ⟨z4, fz4⟩ := Rg.blk_cell Z9.1.2.2 4 (x := .int .i64 0) rfl
    obtain ⟨z5, fz5⟩ := Rg.blk_cell Z9.1.2.2 5 (x := .int .i64 0) rfl
    obtain ⟨z6, fz6⟩ := Rg.blk_cell Z9.1.2.2 6 (x := .int .i64 0) rfl
    obtain ⟨z7, fz7⟩ := Rg.blk_cell Z9.1.2.2 7 (x := .string ⟨#[]⟩) rfl
    obtain ⟨z8, fz8⟩ := Rg.blk_cell Z9.1.2.2 8 (x := .slice none 0 0) rfl
    obtain ⟨z9, fz9⟩ := Rg.blk_cell Z9.1.2.2 9 (x := .slice none 0 0) rfl
    obtain ⟨AF, HFB, GF0⟩ := set10 (.int .i64 0) (.int .i64 0) (.bool false) (.int .i64 0) (.int .i64 0) (.int .i64 0) (.int .i64 0) (.string ⟨#[]⟩) (.slice none 0 0) (.slice none 0 0) (.int .i64 c.id) (.int .i64 c.st) (.bool c.bu) (.int .i64 c.rc) (.int .i64 c.rs) (.int .i64 c.rk) (.int .i64 c.rl) (.string c.rn) (.slice ar c.re.length kr) (.slice aa c.ac.length ka) Z9.1.2.2
    have GF := GF0 (Z9.2.1) (Nat.le_trans (Nat.le_succ _) (Nat.le_succ _))
    have KF : Hid (Has ((((((((((w2.setCell ⟨w.heap.size + 1 + 1, 0, none⟩ (.int .i64 c.id)).setCell ⟨w.heap.size + 1 + 1, 1, none⟩ (.int .i64 c.st)).setCell ⟨w.heap.size + 1 + 1, 2, none⟩ (.bool c.bu)).setCell ⟨w.heap.size + 1 + 1, 3, none⟩ (.int .i64 c.rc)).setCell ⟨w.heap.size + 1 + 1, 4, none⟩ (.int .i64 c.rs)).setCell ⟨w.heap.size + 1 + 1, 5, none⟩ (.int .i64 c.rk)).setCell ⟨w.heap.size + 1 + 1, 6, none⟩ (.int .i64 c.rl)).setCell ⟨w.heap.size + 1 + 1, 7, none⟩ (.string c.rn)).setCell ⟨w.heap.size + 1 + 1, 8, none⟩ (.slice ar c.re.length kr)).setCell ⟨w.heap.size + 1 + 1, 9, none⟩ (.slice aa c.ac.length ka)) c (.slice ar c.re.length kr) (.slice aa c.ac.length ka)) := HR.out _ GF
    clear GF0 HFB Z9 
    go_wp2_with fail
    generalize ((((((((((w2.setCell ⟨w.heap.size + 1 + 1, 0, none⟩ (.int .i64 c.id)).setCell ⟨w.heap.size + 1 + 1, 1, none⟩ (.int .i64 c.st)).setCell ⟨w.heap.size + 1 + 1, 2, none⟩ (.bool c.bu)).setCell ⟨w.heap.size + 1 + 1, 3, none⟩ (.int .i64 c.rc)).setCell ⟨w.heap.size + 1 + 1, 4, none⟩ (.int .i64 c.rs)).setCell ⟨w.heap.size + 1 + 1, 5, none⟩ (.int .i64 c.rk)).setCell ⟨w.heap.size + 1 + 1, 6, none⟩ (.int .i64 c.rl)).setCell ⟨w.heap.size + 1 + 1, 7, none⟩ (.string c.rn)).setCell ⟨w.heap.size + 1 + 1, 8, none⟩ (.slice ar c.re.length kr)).setCell ⟨w.heap.size + 1 + 1, 9, none⟩ (.slice aa c.ac.length ka)) = wf at AF GF KF ⊢
    have d0 := (Rg.blk_cell AF 0 (x := .int .i64 c.id) rfl).1
    have d1 := (Rg.blk_cell AF 1 (x := .int .i64 c.st) rfl).1
    have d2 := (Rg.blk_cell AF 2 (x := .bool c.bu) rfl).1
    have d3 := (Rg.blk_cell AF 3 (x := .int .i64 c.rc) rfl).1
    have d4 := (Rg.blk_cell AF 4 (x := .int .i64 c.rs) rfl).1
    have d5 := (Rg.blk_cell AF 5 (x := .int .i64 c.rk) rfl).1
    have d6 := (Rg.blk_cell AF 6 (x := .int .i64 c.rl) rfl).1
    have d7 := (Rg.blk_cell AF 7 (x := .string c.rn) rfl).1
    have d8 := (Rg.blk_cell AF 8 (x := .slice ar c.re.length kr) rfl).1
    have d9 := (Rg.blk_cell AF 9 (x := .slice aa c.ac.length ka) rfl).1
    exact bodyPost_ret (v := .tuple #[.agg #[.int .i64 c.id, .int .i64 c.st, .bool c.bu, .int .i64 c.rc, .int .i64 c.rs, .int .i64 c.rk, .int .i64 c.rl, .string c.rn, .slice ar c.re.length kr, .slice aa c.ac.length ka], .int .i64 16]) (by simp [results, Tryz.results17, go_sem, d0, d1, d2, d3, d4, d5, d6, d7, d8, d9]) rfl ⟨_, _, ret_tup (by rw [HV.out.1] <;> rfl) HV.out.2.symm, by rw [HV.out.1]; exact KF, GF⟩
  | true =>
  have e9 : (x.cl != c.id) = false := by simpa using hd1
  have HD1 : Hid (decide (x.cl = c.id) = true) := hd1
  clear hd1
  cases hd2 : decide (x.st = c.st) with
  | false =>
    have HV : Hid (tsR n c x = c ∧ tsC n c x = 16) := by
      have := hd_no (n := n) (c := c) (x := x) (by unfold asB; rw [HD1.out, hd2]; rfl)
      exact ⟨HV0.out.1.trans this.1, HV0.out.2.trans this.2⟩
    have e8 : (x.st != c.st) = true := by simpa using hd2
    clear hd2
    have Z9 := X2.out
    obtain ⟨z0, fz0⟩ := Rg.blk_cell Z9.1.2.2 0 (x := .int .i64 0) rfl
    obtain ⟨z1, fz1⟩ := Rg.blk_cell Z9.1.2.2 1 (x := .int .i64 0) rfl
    obtain ⟨z2, fz2⟩ := Rg.blk_cell Z9.1.2.2 2 (x := .bool false) rfl
    obtain ⟨z3, fz3⟩ := Rg.blk_cell Z9.1.2.2 3 (x := .int .i64 0) rfl
    obtain ⟨z4, fz4⟩ := Rg.blk_cell Z9.1.2.2 4 (x := .int .i64 0) rfl
    obtain ⟨z5, fz5⟩ := Rg.blk_cell Z9.1.2.2 5 (x := .int .i64 0) rfl
    obtain ⟨z6, fz6⟩ := Rg.blk_cell Z9.1.2.2 6 (x := .int .i64 0) rfl
    obtain ⟨z7, fz7⟩ := Rg.blk_cell Z9.1.2.2 7 (x := .string ⟨#[]⟩) rfl
    obtain ⟨z8, fz8⟩ := Rg.blk_cell Z9.1.2.2 8 (x := .slice none 0 0) rfl
    obtain ⟨z9, fz9⟩ := Rg.blk_cell Z9.1.2.2 9 (x := .slice none 0 0) rfl
    obtain ⟨AF, HFB, GF0⟩ := set10 (.int .i64 0) (.int .i64 0) (.bool false) (.int .i64 0) (.int .i64 0) (.int .i64 0) (.int .i64 0) (.string ⟨#[]⟩) (.slice none 0 0) (.slice none 0 0) (.int .i64 c.id) (.int .i64 c.st) (.bool c.bu) (.int .i64 c.rc) (.int .i64 c.rs) (.int .i64 c.rk) (.int .i64 c.rl) (.string c.rn) (.slice ar c.re.length kr) (.slice aa c.ac.length ka) Z9.1.2.2
    have GF := GF0 (Z9.2.1) (Nat.le_trans (Nat.le_succ _) (Nat.le_succ _))
    have KF : Hid (Has ((((((((((w2.setCell ⟨w.heap.size + 1 + 1, 0, none⟩ (.int .i64 c.id)).setCell ⟨w.heap.size + 1 + 1, 1, none⟩ (.int .i64 c.st)).setCell ⟨w.heap.size + 1 + 1, 2, none⟩ (.bool c.bu)).setCell ⟨w.heap.size + 1 + 1, 3, none⟩ (.int .i64 c.rc)).setCell ⟨w.heap.size + 1 + 1, 4, none⟩ (.int .i64 c.rs)).setCell ⟨w.heap.size + 1 + 1, 5, none⟩ (.int .i64 c.rk)).setCell ⟨w.heap.size + 1 + 1, 6, none⟩ (.int .i64 c.rl)).setCell ⟨w.heap.size + 1 + 1, 7, none⟩ (.string c.rn)).setCell ⟨w.heap.size + 1 + 1, 8, none⟩ (.slice ar c.re.length kr)).setCell ⟨w.heap.size + 1 + 1, 9, none⟩ (.slice aa c.ac.length ka)) c (.slice ar c.re.length kr) (.slice aa c.ac.length ka)) := HR.out _ GF
    clear GF0 HFB Z9 
    go_wp2_with fail
    generalize ((((((((((w2.setCell ⟨w.heap.size + 1 + 1, 0, none⟩ (.int .i64 c.id)).setCell ⟨w.heap.size + 1 + 1, 1, none⟩ (.int .i64 c.st)).setCell ⟨w.heap.size + 1 + 1, 2, none⟩ (.bool c.bu)).setCell ⟨w.heap.size + 1 + 1, 3, none⟩ (.int .i64 c.rc)).setCell ⟨w.heap.size + 1 + 1, 4, none⟩ (.int .i64 c.rs)).setCell ⟨w.heap.size + 1 + 1, 5, none⟩ (.int .i64 c.rk)).setCell ⟨w.heap.size + 1 + 1, 6, none⟩ (.int .i64 c.rl)).setCell ⟨w.heap.size + 1 + 1, 7, none⟩ (.string c.rn)).setCell ⟨w.heap.size + 1 + 1, 8, none⟩ (.slice ar c.re.length kr)).setCell ⟨w.heap.size + 1 + 1, 9, none⟩ (.slice aa c.ac.length ka)) = wf at AF GF KF ⊢
    have d0 := (Rg.blk_cell AF 0 (x := .int .i64 c.id) rfl).1
    have d1 := (Rg.blk_cell AF 1 (x := .int .i64 c.st) rfl).1
    have d2 := (Rg.blk_cell AF 2 (x := .bool c.bu) rfl).1
    have d3 := (Rg.blk_cell AF 3 (x := .int .i64 c.rc) rfl).1
    have d4 := (Rg.blk_cell AF 4 (x := .int .i64 c.rs) rfl).1
    have d5 := (Rg.blk_cell AF 5 (x := .int .i64 c.rk) rfl).1
    have d6 := (Rg.blk_cell AF 6 (x := .int .i64 c.rl) rfl).1
    have d7 := (Rg.blk_cell AF 7 (x := .string c.rn) rfl).1
    have d8 := (Rg.blk_cell AF 8 (x := .slice ar c.re.length kr) rfl).1
    have d9 := (Rg.blk_cell AF 9 (x := .slice aa c.ac.length ka) rfl).1
    exact bodyPost_ret (v := .tuple #[.agg #[.int .i64 c.id, .int .i64 c.st, .bool c.bu, .int .i64 c.rc, .int .i64 c.rs, .int .i64 c.rk, .int .i64 c.rl, .string c.rn, .slice ar c.re.length kr, .slice aa c.ac.length ka], .int .i64 16]) (by simp [results, Tryz.results17, go_sem, d0, d1, d2, d3, d4, d5, d6, d7, d8, d9]) rfl ⟨_, _, ret_tup (by rw [HV.out.1] <;> rfl) HV.out.2.symm, by rw [HV.out.1]; exact KF, GF⟩
  | true =>
  have e8 : (x.st != c.st) = false := by simpa using hd2
  have HAS : Hid (asB c x = true) := by show _ = _; unfold asB; rw [HD1.out, hd2]; rfl
  clear hd2 HD1
  by_cases h4 : 40 ≤ c.re.length
  · have HV : Hid (tsR n c x = c ∧ tsC n c x = 7) := by
      have := hd_full (n := n) HAS.out h4
      exact ⟨HV0.out.1.trans this.1, HV0.out.2.trans this.2⟩
    have e7 : ((c.re.length : Int) == 40) = true := by simp; omega
    have H40 : Hid (c.re.length ≤ 40 ∧ 40 ≤ c.re.length) := ⟨h40, h4⟩
    clear h4 h40
    have Z9 := X2.out
    obtain ⟨z0, fz0⟩ := Rg.blk_cell Z9.1.2.2 0 (x := .int .i64 0) rfl
    obtain ⟨z1, fz1⟩ := Rg.blk_cell Z9.1.2.2 1 (x := .int .i64 0) rfl
    obtain ⟨z2, fz2⟩ := Rg.blk_cell Z9.1.2.2 2 (x := .bool false) rfl
    obtain ⟨z3, fz3⟩ := Rg.blk_cell Z9.1.2.2 3 (x := .int .i64 0) rfl
    obtain ⟨z4, fz4⟩ := Rg.blk_cell Z9.1.2.2 4 (x := .int .i64 0) rfl
    obtain ⟨z5, fz5⟩ := Rg.blk_cell Z9.1.2.2 5 (x := .int .i64 0) rfl
    obtain ⟨z6, fz6⟩ := Rg.blk_cell Z9.1.2.2 6 (x := .int .i64 0) rfl
    obtain ⟨z7, fz7⟩ := Rg.blk_cell Z9.1.2.2 7 (x := .string ⟨#[]⟩) rfl
    obtain ⟨z8, fz8⟩ := Rg.blk_cell Z9.1.2.2 8 (x := .slice none 0 0) rfl
    obtain ⟨z9, fz9⟩ := Rg.blk_cell Z9.1.2.2 9 (x := .slice none 0 0) rfl
    obtain ⟨AF, HFB, GF0⟩ := set10 (.int .i64 0) (.int .i64 0) (.bool false) (.int .i64 0) (.int .i64 0) (.int .i64 0) (.int .i64 0) (.string ⟨#[]⟩) (.slice none 0 0) (.slice none 0 0) (.int .i64 c.id) (.int .i64 c.st) (.bool c.bu) (.int .i64 c.rc) (.int .i64 c.rs) (.int .i64 c.rk) (.int .i64 c.rl) (.string c.rn) (.slice ar c.re.length kr) (.slice aa c.ac.length ka) Z9.1.2.2
    have GF := GF0 (Z9.2.1) (Nat.le_trans (Nat.le_succ _) (Nat.le_succ _))
    have KF : Hid (Has ((((((((((w2.setCell ⟨w.heap.size + 1 + 1, 0, none⟩ (.int .i64 c.id)).setCell ⟨w.heap.size + 1 + 1, 1, none⟩ (.int .i64 c.st)).setCell ⟨w.heap.size + 1 + 1, 2, none⟩ (.bool c.bu)).setCell ⟨w.heap.size + 1 + 1, 3, none⟩ (.int .i64 c.rc)).setCell ⟨w.heap.size + 1 + 1, 4, none⟩ (.int .i64 c.rs)).setCell ⟨w.heap.size + 1 + 1, 5, none⟩ (.int .i64 c.rk)).setCell ⟨w.heap.size + 1 + 1, 6, none⟩ (.int .i64 c.rl)).setCell ⟨w.heap.size + 1 + 1, 7, none⟩ (.string c.rn)).setCell ⟨w.heap.size + 1 + 1, 8, none⟩ (.slice ar c.re.length kr)).setCell ⟨w.heap.size + 1 + 1, 9, none⟩ (.slice aa c.ac.length ka)) c (.slice ar c.re.length kr) (.slice aa c.ac.length ka)) := HR.out _ GF
    clear GF0 HFB Z9 
    go_wp2_with fail
    generalize ((((((((((w2.setCell ⟨w.heap.size + 1 + 1, 0, none⟩ (.int .i64 c.id)).setCell ⟨w.heap.size + 1 + 1, 1, none⟩ (.int .i64 c.st)).setCell ⟨w.heap.size + 1 + 1, 2, none⟩ (.bool c.bu)).setCell ⟨w.heap.size + 1 + 1, 3, none⟩ (.int .i64 c.rc)).setCell ⟨w.heap.size + 1 + 1, 4, none⟩ (.int .i64 c.rs)).setCell ⟨w.heap.size + 1 + 1, 5, none⟩ (.int .i64 c.rk)).setCell ⟨w.heap.size + 1 + 1, 6, none⟩ (.int .i64 c.rl)).setCell ⟨w.heap.size + 1 + 1, 7, none⟩ (.string c.rn)).setCell ⟨w.heap.size + 1 + 1, 8, none⟩ (.slice ar c.re.length kr)).setCell ⟨w.heap.size + 1 + 1, 9, none⟩ (.slice aa c.ac.length ka)) = wf at AF GF KF ⊢
    have d0 := (Rg.blk_cell AF 0 (x := .int .i64 c.id) rfl).1
    have d1 := (Rg.blk_cell AF 1 (x := .int .i64 c.st) rfl).1
    have d2 := (Rg.blk_cell AF 2 (x := .bool c.bu) rfl).1
    have d3 := (Rg.blk_cell AF 3 (x := .int .i64 c.rc) rfl).1
    have d4 := (Rg.blk_cell AF 4 (x := .int .i64 c.rs) rfl).1
    have d5 := (Rg.blk_cell AF 5 (x := .int .i64 c.rk) rfl).1
    have d6 := (Rg.blk_cell AF 6 (x := .int .i64 c.rl) rfl).1
    have d7 := (Rg.blk_cell AF 7 (x := .string c.rn) rfl).1
    have d8 := (Rg.blk_cell AF 8 (x := .slice ar c.re.length kr) rfl).1
    have d9 := (Rg.blk_cell AF 9 (x := .slice aa c.ac.length ka) rfl).1
    exact bodyPost_ret (v := .tuple #[.agg #[.int .i64 c.id, .int .i64 c.st, .bool c.bu, .int .i64 c.rc, .int .i64 c.rs, .int .i64 c.rk, .int .i64 c.rl, .string c.rn, .slice ar c.re.length kr, .slice aa c.ac.length ka], .int .i64 7]) (by simp [results, Tryz.results17, go_sem, d0, d1, d2, d3, d4, d5, d6, d7, d8, d9]) rfl ⟨_, _, ret_tup (by rw [HV.out.1] <;> rfl) HV.out.2.symm, by rw [HV.out.1]; exact KF, GF⟩
  have HV : Hid (tsR n c x = (if dcB n (addR c x) = true then fin c (ccA n c.id c.st (c.re ++ [x])) else addR c x) ∧ tsC n c x = 0) := by
    have := hd_in (n := n) HAS.out h4
    exact ⟨HV0.out.1.trans this.1, HV0.out.2.trans this.2⟩
  have e7 : ((c.re.length : Int) == 40) = false := by simp; omega
  have hl4 : c.re.length ≤ 39 := by omega
  clear h4 h40 HV0
  go_upto_region 7 with fail
  obtain ⟨N, HN⟩ : ∃ N, Hid ((c.re ++ [x]).length = N) := ⟨_, rfl⟩
  have HBR : Hid (w.heap.size + 1 + 1 + 1 ≤ w2.heap.size) := X2.out.2.2
  have K0 : Hid (Below w.heap.size w w2.drew) := X2.out.2.1.drew
  have q2 : w2.drew.heap[w.heap.size + 1]? = some (.cells #[.int .i64 x.nd, .int .i64 x.cl, .int .i64 x.st, .int .i64 x.kd, .int .i64 x.tk, .int .i64 x.hd, .int .i64 x.ex, .string x.mc] 44) := X2.out.1.2.1
  have K1 : Hid (OwnR (w2.drew.alloc (.cells #[] 44)) w2.heap.size (.slice (some ⟨w2.heap.size, 0, none⟩) 0 0) [] ∧ Gy.Row (w2.drew.alloc (.cells #[] 44)) (.slice ar c.re.length kr) c.re ∧ w2.heap.size ≤ (w2.drew.alloc (.cells #[] 44)).heap.size) := ⟨Rr11.OwnR.made w2.drew _ (Nat.le_refl _), (HR.out _ (K0.out.alloc K0.out.size _)).1, by simp⟩
  have K2 : Hid (OwnR ((w2.drew.alloc (.cells #[] 44)).alloc (.cells #[.int .i64 x.nd, .int .i64 x.cl, .int .i64 x.st, .int .i64 x.kd, .int .i64 x.tk, .int .i64 x.hd, .int .i64 x.ex, .string x.mc] 44)) w2.heap.size (.slice (some ⟨w2.heap.size, 0, none⟩) 0 0) [] ∧ Gy.Row ((w2.drew.alloc (.cells #[] 44)).alloc (.cells #[.int .i64 x.nd, .int .i64 x.cl, .int .i64 x.st, .int .i64 x.kd, .int .i64 x.tk, .int .i64 x.hd, .int .i64 x.ex, .string x.mc] 44)) (.slice ar c.re.length kr) c.re ∧ w2.heap.size ≤ ((w2.drew.alloc (.cells #[] 44)).alloc (.cells #[.int .i64 x.nd, .int .i64 x.cl, .int .i64 x.st, .int .i64 x.kd, .int .i64 x.tk, .int .i64 x.hd, .int .i64 x.ex, .string x.mc] 44)).heap.size ∧ Gy.Row ((w2.drew.alloc (.cells #[] 44)).alloc (.cells #[.int .i64 x.nd, .int .i64 x.cl, .int .i64 x.st, .int .i64 x.kd, .int .i64 x.tk, .int .i64 x.hd, .int .i64 x.ex, .string x.mc] 44)) (.slice (some ⟨w2.heap.size + 1, 0, none⟩) 1 1) [x]) := by
    have h := rowOneR (w2.drew.alloc (.cells #[] 44)) x
    rw [Rg.size_new] at h
    exact ⟨K1.out.1.alloc _, K1.out.2.1.below (bel_new _ _), by simp; omega, h⟩
  have K3 : Hid (OwnR ((w2.drew.alloc (.cells #[.int .i64 x.nd, .int .i64 x.cl, .int .i64 x.st, .int .i64 x.kd, .int .i64 x.tk, .int .i64 x.hd, .int .i64 x.ex, .string x.mc] 44)).alloc (.cells #[] 44)) w2.heap.size (.slice (some ⟨w2.heap.size + 1, 0, none⟩) 0 0) [] ∧ Gy.Row ((w2.drew.alloc (.cells #[.int .i64 x.nd, .int .i64 x.cl, .int .i64 x.st, .int .i64 x.kd, .int .i64 x.tk, .int .i64 x.hd, .int .i64 x.ex, .string x.mc] 44)).alloc (.cells #[] 44)) (.slice ar c.re.length kr) c.re ∧ w2.heap.size ≤ ((w2.drew.alloc (.cells #[.int .i64 x.nd, .int .i64 x.cl, .int .i64 x.st, .int .i64 x.kd, .int .i64 x.tk, .int .i64 x.hd, .int .i64 x.ex, .string x.mc] 44)).alloc (.cells #[] 44)).heap.size ∧ Gy.Row ((w2.drew.alloc (.cells #[.int .i64 x.nd, .int .i64 x.cl, .int .i64 x.st, .int .i64 x.kd, .int .i64 x.tk, .int .i64 x.hd, .int .i64 x.ex, .string x.mc] 44)).alloc (.cells #[] 44)) (.slice (some ⟨w2.heap.size, 0, none⟩) 1 1) [x]) := by
    have h := Rr11.OwnR.made (w2.drew.alloc (.cells #[.int .i64 x.nd, .int .i64 x.cl, .int .i64 x.st, .int .i64 x.kd, .int .i64 x.tk, .int .i64 x.hd, .int .i64 x.ex, .string x.mc] 44)) w2.heap.size (by simp)
    rw [Rg.size_new] at h
    exact ⟨h, (HR.out _ ((K0.out.alloc K0.out.size _).alloc (by simp; have := K0.out.size; simp at this; omega) _)).1, by simp; omega, (rowOneR w2.drew x).below (bel_new _ _)⟩
  have HPK : Hid (∀ W, Below w2.heap.size w2 W → (W.heap[w.heap.size]? = some (.cells #[.int .i64 c.id, .int .i64 c.st, .bool c.bu, .int .i64 c.rc, .int .i64 c.rs, .int .i64 c.rk, .int .i64 c.rl, .string c.rn, .slice ar c.re.length kr, .slice aa c.ac.length ka] 38) ∧ W.heap[w.heap.size + 1]? = some (.cells #[.int .i64 x.nd, .int .i64 x.cl, .int .i64 x.st, .int .i64 x.kd, .int .i64 x.tk, .int .i64 x.hd, .int .i64 x.ex, .string x.mc] 44) ∧ W.heap[w.heap.size + 1 + 1]? = some (.cells #[.int .i64 0, .int .i64 0, .bool false, .int .i64 0, .int .i64 0, .int .i64 0, .int .i64 0, .string ⟨#[]⟩, .slice none 0 0, .slice none 0 0] 38)) ∧ Below w.heap.size w W ∧ w.heap.size + 1 + 1 + 1 ≤ W.heap.size) := fun W hW => by
    have q1 := X2.out.2.2
    exact ⟨⟨(hW.block _ (by omega)).trans X2.out.1.1, (hW.block _ (by omega)).trans X2.out.1.2.1, (hW.block _ (by omega)).trans X2.out.1.2.2⟩, X2.out.2.1.trans (hW.mono X2.out.2.1.size), Nat.le_trans q1 hW.size⟩
  have HSK : Hid (∀ W : World, W.heap[w.heap.size + 1]? = some (.cells #[.int .i64 x.nd, .int .i64 x.cl, .int .i64 x.st, .int .i64 x.kd, .int .i64 x.tk, .int .i64 x.hd, .int .i64 x.ex, .string x.mc] 44) → (W.cell? ⟨w.heap.size + 1, 0, none⟩ = some (.int .i64 x.nd) ∧ W.cell? ⟨w.heap.size + 1, 1, none⟩ = some (.int .i64 x.cl) ∧ W.cell? ⟨w.heap.size + 1, 2, none⟩ = some (.int .i64 x.st) ∧ W.cell? ⟨w.heap.size + 1, 3, none⟩ = some (.int .i64 x.kd) ∧ W.cell? ⟨w.heap.size + 1, 4, none⟩ = some (.int .i64 x.tk) ∧ W.cell? ⟨w.heap.size + 1, 5, none⟩ = some (.int .i64 x.hd) ∧ W.cell? ⟨w.heap.size + 1, 6, none⟩ = some (.int .i64 x.ex) ∧ W.cell? ⟨w.heap.size + 1, 7, none⟩ = some (.string x.mc))) := fun W hW => ⟨(Rg.blk_cell hW 0 rfl).1, (Rg.blk_cell hW 1 rfl).1, (Rg.blk_cell hW 2 rfl).1, (Rg.blk_cell hW 3 rfl).1, (Rg.blk_cell hW 4 rfl).1, (Rg.blk_cell hW 5 rfl).1, (Rg.blk_cell hW 6 rfl).1, (Rg.blk_cell hW 7 rfl).1⟩
  have HSA : Hid (∀ (W : World) (o : Obj), W.heap[w.heap.size + 1]? = some (.cells #[.int .i64 x.nd, .int .i64 x.cl, .int .i64 x.st, .int .i64 x.kd, .int .i64 x.tk, .int .i64 x.hd, .int .i64 x.ex, .string x.mc] 44) → (W.alloc o).heap[w.heap.size + 1]? = some (.cells #[.int .i64 x.nd, .int .i64 x.cl, .int .i64 x.st, .int .i64 x.kd, .int .i64 x.tk, .int .i64 x.hd, .int .i64 x.ex, .string x.mc] 44)) := fun W o hW => (Below.heap_alloc _ _ _ (Array.getElem?_eq_some_iff.1 hW).1).trans hW
  have HSC : Hid (∀ (W : World) (j : Nat) (y : Value), W.heap[w.heap.size + 1]? = some (.cells #[.int .i64 x.nd, .int .i64 x.cl, .int .i64 x.st, .int .i64 x.kd, .int .i64 x.tk, .int .i64 x.hd, .int .i64 x.ex, .string x.mc] 44) → (W.setCell ⟨w.heap.size, j, none⟩ y).heap[w.heap.size + 1]? = some (.cells #[.int .i64 x.nd, .int .i64 x.cl, .int .i64 x.st, .int .i64 x.kd, .int .i64 x.tk, .int .i64 x.hd, .int .i64 x.ex, .string x.mc] 44)) := fun W j y hW => (Rg.blk_far (by omega) j y).trans hW
  have dd8 : w2.drew.cell? ⟨w.heap.size, 8, none⟩ = some (.slice ar c.re.length kr) := c8
  have ea8 : ∀ o, (w2.drew.alloc o).cell? ⟨w.heap.size, 8, none⟩ = some (.slice ar c.re.length kr) := fun o => (Rg.blk_cell (HPK.out _ ((Below.refl _ _).drew.alloc (Nat.le_refl _) o)).1.1 8 rfl).1
  have eb8 : ∀ o o', ((w2.drew.alloc o).alloc o').cell? ⟨w.heap.size, 8, none⟩ = some (.slice ar c.re.length kr) := fun o o' => (Rg.blk_cell (HPK.out _ (((Below.refl _ _).drew.alloc (Nat.le_refl _) o).alloc (by simp) o')).1.1 8 rfl).1
  refine cut8 41 42 43 44 45 46 47 48 (fun W => ∃ a6 k6, (W.heap[w.heap.size]? = some (.cells #[.int .i64 c.id, .int .i64 c.st, .bool c.bu, .int .i64 c.rc, .int .i64 c.rs, .int .i64 c.rk, .int .i64 c.rl, .string c.rn, .slice a6 N k6, .slice aa c.ac.length ka] 38) ∧ W.heap[w.heap.size + 1 + 1]? = some (.cells #[.int .i64 0, .int .i64 0, .bool false, .int .i64 0, .int .i64 0, .int .i64 0, .int .i64 0, .string ⟨#[]⟩, .slice none 0 0, .slice none 0 0] 38)) ∧ OwnR W w2.heap.size (.slice a6 N k6) (c.re ++ [x]) ∧ Below w.heap.size w W) ?_ ?_
  · clear K1 K2 K3
    have K1 : Hid (OwnR (w2.alloc (.cells #[] 44)).drew w2.heap.size (.slice (some ⟨w2.heap.size, 0, none⟩) 0 0) [] ∧ Gy.Row (w2.alloc (.cells #[] 44)).drew (.slice ar c.re.length kr) c.re ∧ w2.heap.size ≤ (w2.alloc (.cells #[] 44)).drew.heap.size) := ⟨(Rr11.OwnR.made w2 _ (Nat.le_refl _)).below (Below.refl _ _).drew, (HR.out _ (X2.out.2.1.alloc X2.out.2.1.size _).drew).1, by simp⟩
    have K2 : Hid (OwnR ((w2.alloc (.cells #[] 44)).alloc (.cells #[.int .i64 x.nd, .int .i64 x.cl, .int .i64 x.st, .int .i64 x.kd, .int .i64 x.tk, .int .i64 x.hd, .int .i64 x.ex, .string x.mc] 44)).drew w2.heap.size (.slice (some ⟨w2.heap.size, 0, none⟩) 0 0) [] ∧ Gy.Row ((w2.alloc (.cells #[] 44)).alloc (.cells #[.int .i64 x.nd, .int .i64 x.cl, .int .i64 x.st, .int .i64 x.kd, .int .i64 x.tk, .int .i64 x.hd, .int .i64 x.ex, .string x.mc] 44)).drew (.slice ar c.re.length kr) c.re ∧ w2.heap.size ≤ ((w2.alloc (.cells #[] 44)).alloc (.cells #[.int .i64 x.nd, .int .i64 x.cl, .int .i64 x.st, .int .i64 x.kd, .int .i64 x.tk, .int .i64 x.hd, .int .i64 x.ex, .string x.mc] 44)).drew.heap.size ∧ Gy.Row ((w2.alloc (.cells #[] 44)).alloc (.cells #[.int .i64 x.nd, .int .i64 x.cl, .int .i64 x.st, .int .i64 x.kd, .int .i64 x.tk, .int .i64 x.hd, .int .i64 x.ex, .string x.mc] 44)).drew (.slice (some ⟨w2.heap.size + 1, 0, none⟩) 1 1) [x]) := by
      have h := rowOneR (w2.alloc (.cells #[] 44)) x
      rw [Rg.size_new] at h
      exact ⟨((Rr11.OwnR.made w2 _ (Nat.le_refl _)).alloc _).below (Below.refl _ _).drew, (HR.out _ ((X2.out.2.1.alloc X2.out.2.1.size _).alloc (Nat.le_trans X2.out.2.1.size (by simp)) _).drew).1, by simp; omega, h.below (Below.refl _ _).drew⟩
    have K3 : Hid (OwnR ((w2.alloc (.cells #[.int .i64 x.nd, .int .i64 x.cl, .int .i64 x.st, .int .i64 x.kd, .int .i64 x.tk, .int .i64 x.hd, .int .i64 x.ex, .string x.mc] 44)).alloc (.cells #[] 44)).drew w2.heap.size (.slice (some ⟨w2.heap.size + 1, 0, none⟩) 0 0) [] ∧ Gy.Row ((w2.alloc (.cells #[.int .i64 x.nd, .int .i64 x.cl, .int .i64 x.st, .int .i64 x.kd, .int .i64 x.tk, .int .i64 x.hd, .int .i64 x.ex, .string x.mc] 44)).alloc (.cells #[] 44)).drew (.slice ar c.re.length kr) c.re ∧ w2.heap.size ≤ ((w2.alloc (.cells #[.int .i64 x.nd, .int .i64 x.cl, .int .i64 x.st, .int .i64 x.kd, .int .i64 x.tk, .int .i64 x.hd, .int .i64 x.ex, .string x.mc] 44)).alloc (.cells #[] 44)).drew.heap.size ∧ Gy.Row ((w2.alloc (.cells #[.int .i64 x.nd, .int .i64 x.cl, .int .i64 x.st, .int .i64 x.kd, .int .i64 x.tk, .int .i64 x.hd, .int .i64 x.ex, .string x.mc] 44)).alloc (.cells #[] 44)).drew (.slice (some ⟨w2.heap.size, 0, none⟩) 1 1) [x]) := by
      have h := Rr11.OwnR.made (w2.alloc (.cells #[.int .i64 x.nd, .int .i64 x.cl, .int .i64 x.st, .int .i64 x.kd, .int .i64 x.tk, .int .i64 x.hd, .int .i64 x.ex, .string x.mc] 44)) w2.heap.size (by simp)
      rw [Rg.size_new] at h
      exact ⟨h.below (Below.refl _ _).drew, (HR.out _ ((X2.out.2.1.alloc X2.out.2.1.size _).alloc (Nat.le_trans X2.out.2.1.size (by simp)) _).drew).1, by simp; omega, ((rowOneR w2 x).below (bel_new _ _)).below (Below.refl _ _).drew⟩
    have EA : ∀ o, (w2.alloc o).cell? ⟨w.heap.size, 8, none⟩ = some (.slice ar c.re.length kr) := fun o => (Rg.blk_cell (HPK.out _ ((Below.refl _ _).alloc (Nat.le_refl _) o)).1.1 8 rfl).1
    have EB : ∀ o o', ((w2.alloc o).alloc o').cell? ⟨w.heap.size, 8, none⟩ = some (.slice ar c.re.length kr) := fun o o' => (Rg.blk_cell (HPK.out _ (((Below.refl _ _).alloc (Nat.le_refl _) o).alloc (by simp) o')).1.1 8 rfl).1
    have EC0 : ∀ o, (w2.alloc o).cell? ⟨w.heap.size + 1, 0, none⟩ = some (.int .i64 x.nd) := fun o => (Rg.blk_cell (HPK.out _ ((Below.refl _ _).alloc (Nat.le_refl _) o)).1.2.1 0 rfl).1
    have EC1 : ∀ o, (w2.alloc o).cell? ⟨w.heap.size + 1, 1, none⟩ = some (.int .i64 x.cl) := fun o => (Rg.blk_cell (HPK.out _ ((Below.refl _ _).alloc (Nat.le_refl _) o)).1.2.1 1 rfl).1
    have EC2 : ∀ o, (w2.alloc o).cell? ⟨w.heap.size + 1, 2, none⟩ = some (.int .i64 x.st) := fun o => (Rg.blk_cell (HPK.out _ ((Below.refl _ _).alloc (Nat.le_refl _) o)).1.2.1 2 rfl).1
    have EC3 : ∀ o, (w2.alloc o).cell? ⟨w.heap.size + 1, 3, none⟩ = some (.int .i64 x.kd) := fun o => (Rg.blk_cell (HPK.out _ ((Below.refl _ _).alloc (Nat.le_refl _) o)).1.2.1 3 rfl).1
    have EC4 : ∀ o, (w2.alloc o).cell? ⟨w.heap.size + 1, 4, none⟩ = some (.int .i64 x.tk) := fun o => (Rg.blk_cell (HPK.out _ ((Below.refl _ _).alloc (Nat.le_refl _) o)).1.2.1 4 rfl).1
    have EC5 : ∀ o, (w2.alloc o).cell? ⟨w.heap.size + 1, 5, none⟩ = some (.int .i64 x.hd) := fun o => (Rg.blk_cell (HPK.out _ ((Below.refl _ _).alloc (Nat.le_refl _) o)).1.2.1 5 rfl).1
    have EC6 : ∀ o, (w2.alloc o).cell? ⟨w.heap.size + 1, 6, none⟩ = some (.int .i64 x.ex) := fun o => (Rg.blk_cell (HPK.out _ ((Below.refl _ _).alloc (Nat.le_refl _) o)).1.2.1 6 rfl).1
    have EC7 : ∀ o, (w2.alloc o).cell? ⟨w.heap.size + 1, 7, none⟩ = some (.string x.mc) := fun o => (Rg.blk_cell (HPK.out _ ((Below.refl _ _).alloc (Nat.le_refl _) o)).1.2.1 7 rfl).1
    clear ea8 eb8 dd8 HSK HSA HSC K0 q2
    go_region_law
      (first
        | (refine Rr11.step_app (by rfl) _ _ 35 (by rfl) i0 Tryz.underlying35 hi0 hz0 hz1 hz2 w2.heap.size _ _ _ [] c.re (by rfl) (by rfl) K1.out.1 K1.out.2.1 K1.out.2.2 (by simp; omega) ?_; intro v5 w5 o5 f5 b5; rw [List.nil_append] at o5; have Z5 : Hid (Below w2.heap.size w2 w5) := ((Below.refl _ _).alloc (Nat.le_refl _) _).drew.trans b5; have q5 := (HPK.out _ Z5.out).1.2.1; have r0 := (Rg.blk_cell q5 0 (x := .int .i64 x.nd) rfl).1; have r1 := (Rg.blk_cell q5 1 (x := .int .i64 x.cl) rfl).1; have r2 := (Rg.blk_cell q5 2 (x := .int .i64 x.st) rfl).1; have r3 := (Rg.blk_cell q5 3 (x := .int .i64 x.kd) rfl).1; have r4 := (Rg.blk_cell q5 4 (x := .int .i64 x.tk) rfl).1; have r5 := (Rg.blk_cell q5 5 (x := .int .i64 x.hd) rfl).1; have r6 := (Rg.blk_cell q5 6 (x := .int .i64 x.ex) rfl).1; have r7 := (Rg.blk_cell q5 7 (x := .string x.mc) rfl).1; obtain ⟨a5, k5, rfl⟩ := o5.slice; clear f5 b5; try go_simp)
        | (refine Rr11.step_app (by rfl) _ _ 35 (by rfl) i0 Tryz.underlying35 hi0 hz0 hz1 hz2 w2.heap.size _ _ _ [] c.re (by rfl) (by rfl) K2.out.1 K2.out.2.1 K2.out.2.2.1 (by simp; omega) ?_; intro v5 w5 o5 f5 b5; rw [List.nil_append] at o5; have Z5 : Hid (Below w2.heap.size w2 w5) := (((Below.refl _ _).alloc (Nat.le_refl _) _).alloc (by simp) _).drew.trans b5; have rx := row1_keep K2.out.2.2.2 (f5 (w2.heap.size + 1) (by simp) (by simp [Value.ownBlock])); obtain ⟨a5, k5, rfl⟩ := o5.slice; clear f5 b5; try go_simp)
        | (refine Rr11.step_app (by rfl) _ _ 35 (by rfl) i0 Tryz.underlying35 hi0 hz0 hz1 hz2 w2.heap.size _ _ _ [] c.re (by rfl) (by rfl) K3.out.1 K3.out.2.1 K3.out.2.2.1 (by simp; omega) ?_; intro v5 w5 o5 f5 b5; rw [List.nil_append] at o5; have Z5 : Hid (Below w2.heap.size w2 w5) := (((Below.refl _ _).alloc (Nat.le_refl _) _).alloc (by simp) _).drew.trans b5; have rx := row1_keep K3.out.2.2.2 (f5 w2.heap.size (by simp; omega) (by simp [Value.ownBlock])); obtain ⟨a5, k5, rfl⟩ := o5.slice; clear f5 b5; try go_simp)
        | (refine Rr11.step_app (by rfl) _ _ 35 (by rfl) i0 Tryz.underlying35 hi0 hz0 hz1 hz2 w2.heap.size _ _ _ c.re [x] (by rfl) (by rfl) (by first | exact o5 | exact o5.alloc _ | exact (o5.alloc _).below (Below.refl _ _).drew | exact o5.below (Below.refl _ _).drew) (by first | exact rx | exact rowOneR _ x | exact rx.below (Below.refl _ _).drew | exact (rowOneR _ x).below (Below.refl _ _).drew) (by first | exact Z5.out.size | (simp; have := Z5.out.size; omega)) (by simp; omega) ?_; intro v6 w6 o6 f6 b6; have Z6 : Hid (Below w2.heap.size w2 w6) := (by first | exact Z5.out.trans b6 | exact (Z5.out.alloc Z5.out.size _).trans b6 | exact (Z5.out.alloc Z5.out.size _).drew.trans b6 | exact Z5.out.drew.trans b6); obtain ⟨a6, k6, rfl⟩ := o6.slice; rw [HN.out] at o6 ⊢; obtain ⟨s8, f8⟩ := Rg.blk_cell (HPK.out _ Z6.out).1.1 8 (x := .slice ar c.re.length kr) rfl; clear f6 b6; try go_simp))
    all_goals
      dsimp only
      refine ⟨?_, ?_, ?_, ?_, ?_, ?_, ?_, ?_, ?_, ⟨a6, k6, ⟨?_, ?_⟩, ?_, ?_⟩⟩
      rotate_left 8
      · simp only [Act.put, List.setIfInBounds_toArray, List.set_cons_zero, List.set_cons_succ]
        exact rfl
      · have := Rg.blk_set (HPK.out _ Z6.out).1.1 8 (.slice a6 N k6)
        simpa only [List.setIfInBounds_toArray, List.set_cons_zero, List.set_cons_succ] using this
      · exact (Rg.blk_far (by omega) _ _).trans (HPK.out _ Z6.out).1.2.2
      · exact o6.kept (fun g hg => Rg.blk_far (by have := (o6.lt g hg).1; have := HBR.out; omega) _ _)
      · exact Below.setCell (HPK.out _ Z6.out).2.1 (p := ⟨w.heap.size, 8, none⟩) (Nat.le_refl _) _
  · intro t1 t2 t3 t4 t5 t6 t7 t8 W ⟨a6, k6, ⟨p1, p3⟩, o6, g6⟩
    simp only [Act.put, List.setIfInBounds_toArray, List.set_cons_zero, List.set_cons_succ]
    have Y1 : Hid ((W.heap[w.heap.size]? = some (.cells #[.int .i64 c.id, .int .i64 c.st, .bool c.bu, .int .i64 c.rc, .int .i64 c.rs, .int .i64 c.rk, .int .i64 c.rl, .string c.rn, .slice a6 N k6, .slice aa c.ac.length ka] 38) ∧ W.heap[w.heap.size + 1 + 1]? = some (.cells #[.int .i64 0, .int .i64 0, .bool false, .int .i64 0, .int .i64 0, .int .i64 0, .int .i64 0, .string ⟨#[]⟩, .slice none 0 0, .slice none 0 0] 38)) ∧ OwnR W w2.heap.size (.slice a6 N k6) (c.re ++ [x]) ∧ Below w.heap.size w W) := ⟨⟨p1, p3⟩, o6, g6⟩
    clear p1 p3 o6 g6 HSK HSA HSC ea8 eb8 dd8 K0 K1 K2 K3 q2 c0 c1 c2 c3 c4 c5 c6 c7 c8 c9 e0 e1 e2 e3 e4 e5 e6 e7 HPK X2
    have c0 := (Rg.blk_cell Y1.out.1.1 0 (x := .int .i64 c.id) rfl).1
    have c1 := (Rg.blk_cell Y1.out.1.1 1 (x := .int .i64 c.st) rfl).1
    have c2 := (Rg.blk_cell Y1.out.1.1 2 (x := .bool c.bu) rfl).1
    have c3 := (Rg.blk_cell Y1.out.1.1 3 (x := .int .i64 c.rc) rfl).1
    have c4 := (Rg.blk_cell Y1.out.1.1 4 (x := .int .i64 c.rs) rfl).1
    have c5 := (Rg.blk_cell Y1.out.1.1 5 (x := .int .i64 c.rk) rfl).1
    have c6 := (Rg.blk_cell Y1.out.1.1 6 (x := .int .i64 c.rl) rfl).1
    have c7 := (Rg.blk_cell Y1.out.1.1 7 (x := .string c.rn) rfl).1
    have c8 := (Rg.blk_cell Y1.out.1.1 8 (x := .slice a6 N k6) rfl).1
    have c9 := (Rg.blk_cell Y1.out.1.1 9 (x := .slice aa c.ac.length ka) rfl).1
    have HCK : Hid (∀ W', Gy.Row W' (.slice a6 N k6) (c.re ++ [x]) → Calls Tryz.prog 39 #[.int .i64 n, .int .i64 c.id, .int .i64 c.st, .slice a6 N k6] W' fun e w' => e = .returned (.tuple #[anV (foA (ccR n c.id c.st (c.re ++ [x]))), .bool (ccR n c.id c.st (c.re ++ [x])).isSome]) ∧ Below W'.heap.size W' w') := fun W' h => l11Count_any n c.id c.st _ (c.re ++ [x]) W' h (by rw [List.length_append]; simp; omega) HZ.out.2
    have HK := HCK.out W Y1.out.2.1.row
    have HV2 : Hid (tsR n c x = (if (ccR n c.id c.st (c.re ++ [x])).isSome = true then fin c (foA (ccR n c.id c.st (c.re ++ [x]))) else addR c x) ∧ tsC n c x = 0) := by
      refine ⟨HV.out.1.trans ?_, HV.out.2⟩
      rw [dc_some (c := addR c x) HZ.out.2 (by show (c.re ++ [x]).length ≤ 40; rw [List.length_append]; simp; omega), cca_foA HZ.out.2 (by rw [List.length_append]; simp; omega)]
      rfl
    clear HCK HV
    generalize foA (ccR n c.id c.st (c.re ++ [x])) = A at HK HV2
    generalize (ccR n c.id c.st (c.re ++ [x])).isSome = dd at HK HV2
    unfold anV at HK
    go_wp2_with fail
    refine HK.mono ?_
    rintro e w4 ⟨rfl, b4⟩
    have Y2 : Hid (((w4.alloc (.cells #[.int .i64 A.1, .int .i64 A.2.1, .int .i64 A.2.2.1, .int .i64 A.2.2.2] 42)).heap[w.heap.size]? = some (.cells #[.int .i64 c.id, .int .i64 c.st, .bool c.bu, .int .i64 c.rc, .int .i64 c.rs, .int .i64 c.rk, .int .i64 c.rl, .string c.rn, .slice a6 N k6, .slice aa c.ac.length ka] 38) ∧ (w4.alloc (.cells #[.int .i64 A.1, .int .i64 A.2.1, .int .i64 A.2.2.1, .int .i64 A.2.2.2] 42)).heap[w4.heap.size]? = some (.cells #[.int .i64 A.1, .int .i64 A.2.1, .int .i64 A.2.2.1, .int .i64 A.2.2.2] 42) ∧ (w4.alloc (.cells #[.int .i64 A.1, .int .i64 A.2.1, .int .i64 A.2.2.1, .int .i64 A.2.2.2] 42)).heap[w.heap.size + 1 + 1]? = some (.cells #[.int .i64 0, .int .i64 0, .bool false, .int .i64 0, .int .i64 0, .int .i64 0, .int .i64 0, .string ⟨#[]⟩, .slice none 0 0, .slice none 0 0] 38)) ∧ Below w.heap.size w (w4.alloc (.cells #[.int .i64 A.1, .int .i64 A.2.1, .int .i64 A.2.2.1, .int .i64 A.2.2.2] 42)) ∧ OwnR (w4.alloc (.cells #[.int .i64 A.1, .int .i64 A.2.1, .int .i64 A.2.2.1, .int .i64 A.2.2.2] 42)) w2.heap.size (.slice a6 N k6) (c.re ++ [x]) ∧ w4.heap.size < (w4.alloc (.cells #[.int .i64 A.1, .int .i64 A.2.1, .int .i64 A.2.2.1, .int .i64 A.2.2.2] 42)).heap.size) := by
      have b5 := b4.alloc b4.size (.cells #[.int .i64 A.1, .int .i64 A.2.1, .int .i64 A.2.2.1, .int .i64 A.2.2.2] 42)
      exact ⟨⟨(b5.block _ (Array.getElem?_eq_some_iff.1 Y1.out.1.1).1).trans Y1.out.1.1, heap_alloc_new _ _, (b5.block _ (Array.getElem?_eq_some_iff.1 Y1.out.1.2).1).trans Y1.out.1.2⟩, Y1.out.2.2.trans (b5.mono Y1.out.2.2.size), Y1.out.2.1.below b5, by simp⟩
    have HWB : Hid (w.heap.size + 1 + 1 < w4.heap.size) := Nat.lt_of_lt_of_le (Array.getElem?_eq_some_iff.1 Y1.out.1.2).1 b4.size
    clear b4 HK c0 c1 c2 c3 c4 c5 c6 c7 c8 c9 Y1
    go_upto_region 9 with fail
    generalize w4.alloc (.cells #[.int .i64 A.1, .int .i64 A.2.1, .int .i64 A.2.2.1, .int .i64 A.2.2.2] 42) = u2 at Y2 ⊢
    generalize w4.heap.size = b4 at Y2 HWB ⊢
    have c0 := (Rg.blk_cell Y2.out.1.1 0 (x := .int .i64 c.id) rfl).1
    have c1 := (Rg.blk_cell Y2.out.1.1 1 (x := .int .i64 c.st) rfl).1
    have c2 := (Rg.blk_cell Y2.out.1.1 2 (x := .bool c.bu) rfl).1
    have c3 := (Rg.blk_cell Y2.out.1.1 3 (x := .int .i64 c.rc) rfl).1
    have c4 := (Rg.blk_cell Y2.out.1.1 4 (x := .int .i64 c.rs) rfl).1
    have c5 := (Rg.blk_cell Y2.out.1.1 5 (x := .int .i64 c.rk) rfl).1
    have c6 := (Rg.blk_cell Y2.out.1.1 6 (x := .int .i64 c.rl) rfl).1
    have c7 := (Rg.blk_cell Y2.out.1.1 7 (x := .string c.rn) rfl).1
    have c8 := (Rg.blk_cell Y2.out.1.1 8 (x := .slice a6 N k6) rfl).1
    have c9 := (Rg.blk_cell Y2.out.1.1 9 (x := .slice aa c.ac.length ka) rfl).1
    have e0 := (Rg.blk_cell Y2.out.1.2.1 0 (x := .int .i64 A.1) rfl).1
    have e1 := (Rg.blk_cell Y2.out.1.2.1 1 (x := .int .i64 A.2.1) rfl).1
    have e2 := (Rg.blk_cell Y2.out.1.2.1 2 (x := .int .i64 A.2.2.1) rfl).1
    have e3 := (Rg.blk_cell Y2.out.1.2.1 3 (x := .int .i64 A.2.2.2) rfl).1
    cases dd with
    | false =>
      have HV3 : Hid (tsR n c x = addR c x ∧ tsC n c x = 0) := HV2.out
      have Z9 := (⟨⟨trivial, trivial, Y2.out.1.2.2⟩, Y2.out.2.1, trivial⟩ : (True ∧ True ∧ u2.heap[w.heap.size + 1 + 1]? = some (.cells #[.int .i64 0, .int .i64 0, .bool false, .int .i64 0, .int .i64 0, .int .i64 0, .int .i64 0, .string ⟨#[]⟩, .slice none 0 0, .slice none 0 0] 38)) ∧ Below w.heap.size w u2 ∧ True)
      obtain ⟨z0, fz0⟩ := Rg.blk_cell Z9.1.2.2 0 (x := .int .i64 0) rfl
      obtain ⟨z1, fz1⟩ := Rg.blk_cell Z9.1.2.2 1 (x := .int .i64 0) rfl
      obtain ⟨z2, fz2⟩ := Rg.blk_cell Z9.1.2.2 2 (x := .bool false) rfl
      obtain ⟨z3, fz3⟩ := Rg.blk_cell Z9.1.2.2 3 (x := .int .i64 0) rfl
      obtain ⟨z4, fz4⟩ := Rg.blk_cell Z9.1.2.2 4 (x := .int .i64 0) rfl
      obtain ⟨z5, fz5⟩ := Rg.blk_cell Z9.1.2.2 5 (x := .int .i64 0) rfl
      obtain ⟨z6, fz6⟩ := Rg.blk_cell Z9.1.2.2 6 (x := .int .i64 0) rfl
      obtain ⟨z7, fz7⟩ := Rg.blk_cell Z9.1.2.2 7 (x := .string ⟨#[]⟩) rfl
      obtain ⟨z8, fz8⟩ := Rg.blk_cell Z9.1.2.2 8 (x := .slice none 0 0) rfl
      obtain ⟨z9, fz9⟩ := Rg.blk_cell Z9.1.2.2 9 (x := .slice none 0 0) rfl
      obtain ⟨AF, HFB, GF0⟩ := set10 (.int .i64 0) (.int .i64 0) (.bool false) (.int .i64 0) (.int .i64 0) (.int .i64 0) (.int .i64 0) (.string ⟨#[]⟩) (.slice none 0 0) (.slice none 0 0) (.int .i64 c.id) (.int .i64 c.st) (.bool c.bu) (.int .i64 c.rc) (.int .i64 c.rs) (.int .i64 c.rk) (.int .i64 c.rl) (.string c.rn) (.slice a6 N k6) (.slice aa c.ac.length ka) Z9.1.2.2
      have GF := GF0 (Z9.2.1) (Nat.le_trans (Nat.le_succ _) (Nat.le_succ _))
      have KF : Hid (Has ((((((((((u2.setCell ⟨w.heap.size + 1 + 1, 0, none⟩ (.int .i64 c.id)).setCell ⟨w.heap.size + 1 + 1, 1, none⟩ (.int .i64 c.st)).setCell ⟨w.heap.size + 1 + 1, 2, none⟩ (.bool c.bu)).setCell ⟨w.heap.size + 1 + 1, 3, none⟩ (.int .i64 c.rc)).setCell ⟨w.heap.size + 1 + 1, 4, none⟩ (.int .i64 c.rs)).setCell ⟨w.heap.size + 1 + 1, 5, none⟩ (.int .i64 c.rk)).setCell ⟨w.heap.size + 1 + 1, 6, none⟩ (.int .i64 c.rl)).setCell ⟨w.heap.size + 1 + 1, 7, none⟩ (.string c.rn)).setCell ⟨w.heap.size + 1 + 1, 8, none⟩ (.slice a6 N k6)).setCell ⟨w.heap.size + 1 + 1, 9, none⟩ (.slice aa c.ac.length ka)) (addR c x) (.slice a6 N k6) (.slice aa c.ac.length ka)) := ⟨(Y2.out.2.2.1.kept (fun g hg => HFB g (by have := (Y2.out.2.2.1.lt g hg).1; have := HBR.out; omega))).row, (HR.out _ GF).2⟩
      clear GF0 HFB Z9 
      go_wp2_with fail
      generalize ((((((((((u2.setCell ⟨w.heap.size + 1 + 1, 0, none⟩ (.int .i64 c.id)).setCell ⟨w.heap.size + 1 + 1, 1, none⟩ (.int .i64 c.st)).setCell ⟨w.heap.size + 1 + 1, 2, none⟩ (.bool c.bu)).setCell ⟨w.heap.size + 1 + 1, 3, none⟩ (.int .i64 c.rc)).setCell ⟨w.heap.size + 1 + 1, 4, none⟩ (.int .i64 c.rs)).setCell ⟨w.heap.size + 1 + 1, 5, none⟩ (.int .i64 c.rk)).setCell ⟨w.heap.size + 1 + 1, 6, none⟩ (.int .i64 c.rl)).setCell ⟨w.heap.size + 1 + 1, 7, none⟩ (.string c.rn)).setCell ⟨w.heap.size + 1 + 1, 8, none⟩ (.slice a6 N k6)).setCell ⟨w.heap.size + 1 + 1, 9, none⟩ (.slice aa c.ac.length ka)) = wf at AF GF KF ⊢
      have d0 := (Rg.blk_cell AF 0 (x := .int .i64 c.id) rfl).1
      have d1 := (Rg.blk_cell AF 1 (x := .int .i64 c.st) rfl).1
      have d2 := (Rg.blk_cell AF 2 (x := .bool c.bu) rfl).1
      have d3 := (Rg.blk_cell AF 3 (x := .int .i64 c.rc) rfl).1
      have d4 := (Rg.blk_cell AF 4 (x := .int .i64 c.rs) rfl).1
      have d5 := (Rg.blk_cell AF 5 (x := .int .i64 c.rk) rfl).1
      have d6 := (Rg.blk_cell AF 6 (x := .int .i64 c.rl) rfl).1
      have d7 := (Rg.blk_cell AF 7 (x := .string c.rn) rfl).1
      have d8 := (Rg.blk_cell AF 8 (x := .slice a6 N k6) rfl).1
      have d9 := (Rg.blk_cell AF 9 (x := .slice aa c.ac.length ka) rfl).1
      exact bodyPost_ret (v := .tuple #[.agg #[.int .i64 c.id, .int .i64 c.st, .bool c.bu, .int .i64 c.rc, .int .i64 c.rs, .int .i64 c.rk, .int .i64 c.rl, .string c.rn, .slice a6 N k6, .slice aa c.ac.length ka], .int .i64 0]) (by simp [results, Tryz.results17, go_sem, d0, d1, d2, d3, d4, d5, d6, d7, d8, d9]) rfl ⟨_, _, ret_tup (by rw [HV3.out.1] <;> rfl) HV3.out.2.symm, by rw [HV3.out.1]; exact KF, GF⟩
    | true =>
      have HV3 : Hid (tsR n c x = fin c A ∧ tsC n c x = 0) := HV2.out
      clear HV2
      go_upto_region 11 with fail
      obtain ⟨M, HM⟩ : ∃ M, Hid ((c.ac ++ [A]).length = M) := ⟨_, rfl⟩
      have hla : c.ac.length ≤ 1048576 := HZ.out.1.2.2.1
      have HP2 : Hid (∀ W, Below u2.heap.size u2 W → (W.heap[w.heap.size]? = some (.cells #[.int .i64 c.id, .int .i64 c.st, .bool c.bu, .int .i64 c.rc, .int .i64 c.rs, .int .i64 c.rk, .int .i64 c.rl, .string c.rn, .slice a6 N k6, .slice aa c.ac.length ka] 38) ∧ W.heap[b4]? = some (.cells #[.int .i64 A.1, .int .i64 A.2.1, .int .i64 A.2.2.1, .int .i64 A.2.2.2] 42) ∧ W.heap[w.heap.size + 1 + 1]? = some (.cells #[.int .i64 0, .int .i64 0, .bool false, .int .i64 0, .int .i64 0, .int .i64 0, .int .i64 0, .string ⟨#[]⟩, .slice none 0 0, .slice none 0 0] 38)) ∧ Below w.heap.size w W) := fun W hW => ⟨⟨(hW.block _ (Array.getElem?_eq_some_iff.1 Y2.out.1.1).1).trans Y2.out.1.1, (hW.block _ (Array.getElem?_eq_some_iff.1 Y2.out.1.2.1).1).trans Y2.out.1.2.1, (hW.block _ (Array.getElem?_eq_some_iff.1 Y2.out.1.2.2).1).trans Y2.out.1.2.2⟩, Y2.out.2.1.trans (hW.mono Y2.out.2.1.size)⟩
      refine cut8 63 64 65 66 67 68 69 70 (fun W => ∃ a9 k9, (W.heap[w.heap.size]? = some (.cells #[.int .i64 c.id, .int .i64 c.st, .bool c.bu, .int .i64 c.rc, .int .i64 c.rs, .int .i64 c.rk, .int .i64 c.rl, .string c.rn, .slice a6 N k6, .slice a9 M k9] 38) ∧ W.heap[w.heap.size + 1 + 1]? = some (.cells #[.int .i64 0, .int .i64 0, .bool false, .int .i64 0, .int .i64 0, .int .i64 0, .int .i64 0, .string ⟨#[]⟩, .slice none 0 0, .slice none 0 0] 38)) ∧ OwnX W u2.heap.size (.slice a9 M k9) (c.ac ++ [A]) ∧ Below w.heap.size w W) ?_ ?_
      · have HBR : Hid (w.heap.size < u2.heap.size) := (Array.getElem?_eq_some_iff.1 Y2.out.1.1).1
        have K1 : Hid (OwnX (u2.alloc (.cells #[] 42)).drew u2.heap.size (.slice (some ⟨u2.heap.size, 0, none⟩) 0 0) [] ∧ Ga.Row (u2.alloc (.cells #[] 42)).drew (.slice aa c.ac.length ka) c.ac ∧ u2.heap.size ≤ (u2.alloc (.cells #[] 42)).drew.heap.size) := ⟨(Ox.OwnX.made u2 _ (Nat.le_refl _)).below (Below.refl _ _).drew, (HR.out _ (Y2.out.2.1.alloc Y2.out.2.1.size _).drew).2, by simp⟩
        have K2 : Hid (OwnX ((u2.alloc (.cells #[] 42)).alloc (.cells #[.int .i64 A.1, .int .i64 A.2.1, .int .i64 A.2.2.1, .int .i64 A.2.2.2] 42)).drew u2.heap.size (.slice (some ⟨u2.heap.size, 0, none⟩) 0 0) [] ∧ Ga.Row ((u2.alloc (.cells #[] 42)).alloc (.cells #[.int .i64 A.1, .int .i64 A.2.1, .int .i64 A.2.2.1, .int .i64 A.2.2.2] 42)).drew (.slice aa c.ac.length ka) c.ac ∧ u2.heap.size ≤ ((u2.alloc (.cells #[] 42)).alloc (.cells #[.int .i64 A.1, .int .i64 A.2.1, .int .i64 A.2.2.1, .int .i64 A.2.2.2] 42)).drew.heap.size ∧ Ga.Row ((u2.alloc (.cells #[] 42)).alloc (.cells #[.int .i64 A.1, .int .i64 A.2.1, .int .i64 A.2.2.1, .int .i64 A.2.2.2] 42)).drew (.slice (some ⟨u2.heap.size + 1, 0, none⟩) 1 1) [A]) := by
          have h := rowOneX (u2.alloc (.cells #[] 42)) A
          rw [Rg.size_new] at h
          exact ⟨((Ox.OwnX.made u2 _ (Nat.le_refl _)).alloc _).below (Below.refl _ _).drew, (HR.out _ ((Y2.out.2.1.alloc Y2.out.2.1.size _).alloc (Nat.le_trans Y2.out.2.1.size (by simp)) _).drew).2, by simp; omega, h.below (Below.refl _ _).drew⟩
        have K3 : Hid (OwnX ((u2.alloc (.cells #[.int .i64 A.1, .int .i64 A.2.1, .int .i64 A.2.2.1, .int .i64 A.2.2.2] 42)).alloc (.cells #[] 42)).drew u2.heap.size (.slice (some ⟨u2.heap.size + 1, 0, none⟩) 0 0) [] ∧ Ga.Row ((u2.alloc (.cells #[.int .i64 A.1, .int .i64 A.2.1, .int .i64 A.2.2.1, .int .i64 A.2.2.2] 42)).alloc (.cells #[] 42)).drew (.slice aa c.ac.length ka) c.ac ∧ u2.heap.size ≤ ((u2.alloc (.cells #[.int .i64 A.1, .int .i64 A.2.1, .int .i64 A.2.2.1, .int .i64 A.2.2.2] 42)).alloc (.cells #[] 42)).drew.heap.size ∧ Ga.Row ((u2.alloc (.cells #[.int .i64 A.1, .int .i64 A.2.1, .int .i64 A.2.2.1, .int .i64 A.2.2.2] 42)).alloc (.cells #[] 42)).drew (.slice (some ⟨u2.heap.size, 0, none⟩) 1 1) [A]) := by
          have h := Ox.OwnX.made (u2.alloc (.cells #[.int .i64 A.1, .int .i64 A.2.1, .int .i64 A.2.2.1, .int .i64 A.2.2.2] 42)) u2.heap.size (by simp)
          rw [Rg.size_new] at h
          exact ⟨h.below (Below.refl _ _).drew, (HR.out _ ((Y2.out.2.1.alloc Y2.out.2.1.size _).alloc (Nat.le_trans Y2.out.2.1.size (by simp)) _).drew).2, by simp; omega, ((rowOneX u2 A).below (bel_new _ _)).below (Below.refl _ _).drew⟩
        have EA : ∀ o, (u2.alloc o).cell? ⟨w.heap.size, 9, none⟩ = some (.slice aa c.ac.length ka) := fun o => (Rg.blk_cell (HP2.out _ ((Below.refl _ _).alloc (Nat.le_refl _) o)).1.1 9 rfl).1
        have EB : ∀ o o', ((u2.alloc o).alloc o').cell? ⟨w.heap.size, 9, none⟩ = some (.slice aa c.ac.length ka) := fun o o' => (Rg.blk_cell (HP2.out _ (((Below.refl _ _).alloc (Nat.le_refl _) o).alloc (by simp) o')).1.1 9 rfl).1
        have EC0 : ∀ o, (u2.alloc o).cell? ⟨b4, 0, none⟩ = some (.int .i64 A.1) := fun o => (Rg.blk_cell (HP2.out _ ((Below.refl _ _).alloc (Nat.le_refl _) o)).1.2.1 0 rfl).1
        have EC1 : ∀ o, (u2.alloc o).cell? ⟨b4, 1, none⟩ = some (.int .i64 A.2.1) := fun o => (Rg.blk_cell (HP2.out _ ((Below.refl _ _).alloc (Nat.le_refl _) o)).1.2.1 1 rfl).1
        have EC2 : ∀ o, (u2.alloc o).cell? ⟨b4, 2, none⟩ = some (.int .i64 A.2.2.1) := fun o => (Rg.blk_cell (HP2.out _ ((Below.refl _ _).alloc (Nat.le_refl _) o)).1.2.1 2 rfl).1
        have EC3 : ∀ o, (u2.alloc o).cell? ⟨b4, 3, none⟩ = some (.int .i64 A.2.2.2) := fun o => (Rg.blk_cell (HP2.out _ ((Below.refl _ _).alloc (Nat.le_refl _) o)).1.2.1 3 rfl).1
        go_region_law
          (first
            | (refine Ox.step_app (by rfl) _ _ 36 (by rfl) j0 Tryz.underlying36 hj0 hy0 hy1 hy2 u2.heap.size _ _ _ [] c.ac (by rfl) (by rfl) K1.out.1 K1.out.2.1 K1.out.2.2 (by simp; omega) ?_; intro v5 w5 o5 f5 b5; rw [List.nil_append] at o5; have Z5 : Hid (Below u2.heap.size u2 w5) := ((Below.refl _ _).alloc (Nat.le_refl _) _).drew.trans b5; have q5 := (HP2.out _ Z5.out).1.2.1; have r0 := (Rg.blk_cell q5 0 (x := .int .i64 A.1) rfl).1; have r1 := (Rg.blk_cell q5 1 (x := .int .i64 A.2.1) rfl).1; have r2 := (Rg.blk_cell q5 2 (x := .int .i64 A.2.2.1) rfl).1; have r3 := (Rg.blk_cell q5 3 (x := .int .i64 A.2.2.2) rfl).1; obtain ⟨a5, k5, rfl⟩ := o5.slice; clear f5 b5; try go_simp)
            | (refine Ox.step_app (by rfl) _ _ 36 (by rfl) j0 Tryz.underlying36 hj0 hy0 hy1 hy2 u2.heap.size _ _ _ [] c.ac (by rfl) (by rfl) K2.out.1 K2.out.2.1 K2.out.2.2.1 (by simp; omega) ?_; intro v5 w5 o5 f5 b5; rw [List.nil_append] at o5; have Z5 : Hid (Below u2.heap.size u2 w5) := (((Below.refl _ _).alloc (Nat.le_refl _) _).alloc (by simp) _).drew.trans b5; have rx := row1X_keep K2.out.2.2.2 (f5 (u2.heap.size + 1) (by simp) (by simp [Value.ownBlock])); obtain ⟨a5, k5, rfl⟩ := o5.slice; clear f5 b5; try go_simp)
            | (refine Ox.step_app (by rfl) _ _ 36 (by rfl) j0 Tryz.underlying36 hj0 hy0 hy1 hy2 u2.heap.size _ _ _ [] c.ac (by rfl) (by rfl) K3.out.1 K3.out.2.1 K3.out.2.2.1 (by simp; omega) ?_; intro v5 w5 o5 f5 b5; rw [List.nil_append] at o5; have Z5 : Hid (Below u2.heap.size u2 w5) := (((Below.refl _ _).alloc (Nat.le_refl _) _).alloc (by simp) _).drew.trans b5; have rx := row1X_keep K3.out.2.2.2 (f5 u2.heap.size (by simp; omega) (by simp [Value.ownBlock])); obtain ⟨a5, k5, rfl⟩ := o5.slice; clear f5 b5; try go_simp)
            | (refine Ox.step_app (by rfl) _ _ 36 (by rfl) j0 Tryz.underlying36 hj0 hy0 hy1 hy2 u2.heap.size _ _ _ c.ac [A] (by rfl) (by rfl) (by first | exact o5 | exact o5.alloc _ | exact (o5.alloc _).below (Below.refl _ _).drew | exact o5.below (Below.refl _ _).drew) (by first | exact rx | exact rowOneX _ A | exact rx.below (Below.refl _ _).drew | exact (rowOneX _ A).below (Below.refl _ _).drew) (by first | exact Z5.out.size | (simp; have := Z5.out.size; omega)) (by simp; omega) ?_; intro v6 w6 o6 f6 b6; have Z6 : Hid (Below u2.heap.size u2 w6) := (by first | exact Z5.out.trans b6 | exact (Z5.out.alloc Z5.out.size _).trans b6 | exact (Z5.out.alloc Z5.out.size _).drew.trans b6 | exact Z5.out.drew.trans b6); obtain ⟨a9, k9, rfl⟩ := o6.slice; rw [HM.out] at o6 ⊢; obtain ⟨s8, f8⟩ := Rg.blk_cell (HP2.out _ Z6.out).1.1 9 (x := .slice aa c.ac.length ka) rfl; clear f6 b6; try go_simp))
        all_goals
          dsimp only
          refine ⟨?_, ?_, ?_, ?_, ?_, ?_, ?_, ?_, ?_, ⟨a9, k9, ⟨?_, ?_⟩, ?_, ?_⟩⟩
          rotate_left 8
          · simp only [Act.put, List.setIfInBounds_toArray, List.set_cons_zero, List.set_cons_succ]
            exact rfl
          · have := Rg.blk_set (HP2.out _ Z6.out).1.1 9 (.slice a9 M k9)
            simpa only [List.setIfInBounds_toArray, List.set_cons_zero, List.set_cons_succ] using this
          · exact (Rg.blk_far (by omega) _ _).trans (HP2.out _ Z6.out).1.2.2
          · exact o6.kept (fun g hg => Rg.blk_far (by have := (o6.lt g hg).1; have := HBR.out; omega) _ _)
          · exact Below.setCell (HP2.out _ Z6.out).2 (p := ⟨w.heap.size, 9, none⟩) (Nat.le_refl _) _
      · intro t1 t2 t3 t4 t5 t6 t7 t8 W ⟨a9, k9, ⟨p1, p3⟩, o9, g9⟩
        simp only [Act.put, List.setIfInBounds_toArray, List.set_cons_zero, List.set_cons_succ]
        have HU : Hid (w.heap.size < u2.heap.size ∧ w.heap.size + 1 + 1 < u2.heap.size) := ⟨(Array.getElem?_eq_some_iff.1 Y2.out.1.1).1, (Array.getElem?_eq_some_iff.1 Y2.out.1.2.2).1⟩
        have Y3 : Hid ((W.heap[w.heap.size]? = some (.cells #[.int .i64 c.id, .int .i64 c.st, .bool c.bu, .int .i64 c.rc, .int .i64 c.rs, .int .i64 c.rk, .int .i64 c.rl, .string c.rn, .slice a6 N k6, .slice a9 M k9] 38) ∧ W.heap[w.heap.size + 1 + 1]? = some (.cells #[.int .i64 0, .int .i64 0, .bool false, .int .i64 0, .int .i64 0, .int .i64 0, .int .i64 0, .string ⟨#[]⟩, .slice none 0 0, .slice none 0 0] 38)) ∧ OwnX W u2.heap.size (.slice a9 M k9) (c.ac ++ [A]) ∧ Below w.heap.size w W) := ⟨⟨p1, p3⟩, o9, g9⟩
        clear p1 p3 o9 g9 HP2 Y2 HWB c0 c1 c2 c3 c4 c5 c6 c7 c8 c9 e0 e1 e2 e3
        have c0 := (Rg.blk_cell Y3.out.1.1 0 (x := .int .i64 c.id) rfl).1
        have c1 := (Rg.blk_cell Y3.out.1.1 1 (x := .int .i64 c.st) rfl).1
        have c2 := (Rg.blk_cell Y3.out.1.1 2 (x := .bool c.bu) rfl).1
        have c3 := (Rg.blk_cell Y3.out.1.1 3 (x := .int .i64 c.rc) rfl).1
        have c4 := (Rg.blk_cell Y3.out.1.1 4 (x := .int .i64 c.rs) rfl).1
        have c5 := (Rg.blk_cell Y3.out.1.1 5 (x := .int .i64 c.rk) rfl).1
        have c6 := (Rg.blk_cell Y3.out.1.1 6 (x := .int .i64 c.rl) rfl).1
        have c7 := (Rg.blk_cell Y3.out.1.1 7 (x := .string c.rn) rfl).1
        have c8 := (Rg.blk_cell Y3.out.1.1 8 (x := .slice a6 N k6) rfl).1
        have c9 := (Rg.blk_cell Y3.out.1.1 9 (x := .slice a9 M k9) rfl).1
        have fc2 := (Rg.blk_cell Y3.out.1.1 2 (x := .bool c.bu) rfl).2
        have fc3 := (Rg.blk_cell Y3.out.1.1 3 (x := .int .i64 c.rc) rfl).2
        have fc4 := (Rg.blk_cell Y3.out.1.1 4 (x := .int .i64 c.rs) rfl).2
        have fc5 := (Rg.blk_cell Y3.out.1.1 5 (x := .int .i64 c.rk) rfl).2
        have fc6 := (Rg.blk_cell Y3.out.1.1 6 (x := .int .i64 c.rl) rfl).2
        have fc7 := (Rg.blk_cell Y3.out.1.1 7 (x := .string c.rn) rfl).2
        have Y4 : Hid ((((((((W.setCell ⟨w.heap.size, 2, none⟩ (.bool false)).setCell ⟨w.heap.size, 3, none⟩ (.int .i64 0)).setCell ⟨w.heap.size, 4, none⟩ (.int .i64 0)).setCell ⟨w.heap.size, 5, none⟩ (.int .i64 0)).setCell ⟨w.heap.size, 6, none⟩ (.int .i64 0)).setCell ⟨w.heap.size, 7, none⟩ (.string ⟨#[]⟩)).heap[w.heap.size]? = some (.cells #[.int .i64 c.id, .int .i64 c.st, .bool false, .int .i64 0, .int .i64 0, .int .i64 0, .int .i64 0, .string ⟨#[]⟩, .slice a6 N k6, .slice a9 M k9] 38) ∧ ((((((W.setCell ⟨w.heap.size, 2, none⟩ (.bool false)).setCell ⟨w.heap.size, 3, none⟩ (.int .i64 0)).setCell ⟨w.heap.size, 4, none⟩ (.int .i64 0)).setCell ⟨w.heap.size, 5, none⟩ (.int .i64 0)).setCell ⟨w.heap.size, 6, none⟩ (.int .i64 0)).setCell ⟨w.heap.size, 7, none⟩ (.string ⟨#[]⟩)).heap[w.heap.size + 1 + 1]? = some (.cells #[.int .i64 0, .int .i64 0, .bool false, .int .i64 0, .int .i64 0, .int .i64 0, .int .i64 0, .string ⟨#[]⟩, .slice none 0 0, .slice none 0 0] 38)) ∧ OwnX ((((((W.setCell ⟨w.heap.size, 2, none⟩ (.bool false)).setCell ⟨w.heap.size, 3, none⟩ (.int .i64 0)).setCell ⟨w.heap.size, 4, none⟩ (.int .i64 0)).setCell ⟨w.heap.size, 5, none⟩ (.int .i64 0)).setCell ⟨w.heap.size, 6, none⟩ (.int .i64 0)).setCell ⟨w.heap.size, 7, none⟩ (.string ⟨#[]⟩)) u2.heap.size (.slice a9 M k9) (c.ac ++ [A]) ∧ Below w.heap.size w ((((((W.setCell ⟨w.heap.size, 2, none⟩ (.bool false)).setCell ⟨w.heap.size, 3, none⟩ (.int .i64 0)).setCell ⟨w.heap.size, 4, none⟩ (.int .i64 0)).setCell ⟨w.heap.size, 5, none⟩ (.int .i64 0)).setCell ⟨w.heap.size, 6, none⟩ (.int .i64 0)).setCell ⟨w.heap.size, 7, none⟩ (.string ⟨#[]⟩))) := by
          refine ⟨⟨?_, ((Rg.blk_far (by omega) 7 (.string ⟨#[]⟩)).trans ((Rg.blk_far (by omega) 6 (.int .i64 0)).trans ((Rg.blk_far (by omega) 5 (.int .i64 0)).trans ((Rg.blk_far (by omega) 4 (.int .i64 0)).trans ((Rg.blk_far (by omega) 3 (.int .i64 0)).trans ((Rg.blk_far (by omega) 2 (.bool false)).trans Y3.out.1.2))))))⟩, ?_, (Below.setCell (Below.setCell (Below.setCell (Below.setCell (Below.setCell (Below.setCell Y3.out.2.2 (p := ⟨w.heap.size, 2, none⟩) (Nat.le_refl _) (.bool false)) (p := ⟨w.heap.size, 3, none⟩) (Nat.le_refl _) (.int .i64 0)) (p := ⟨w.heap.size, 4, none⟩) (Nat.le_refl _) (.int .i64 0)) (p := ⟨w.heap.size, 5, none⟩) (Nat.le_refl _) (.int .i64 0)) (p := ⟨w.heap.size, 6, none⟩) (Nat.le_refl _) (.int .i64 0)) (p := ⟨w.heap.size, 7, none⟩) (Nat.le_refl _) (.string ⟨#[]⟩))⟩
          · have := (Rg.blk_set (Rg.blk_set (Rg.blk_set (Rg.blk_set (Rg.blk_set (Rg.blk_set Y3.out.1.1 2 (.bool false)) 3 (.int .i64 0)) 4 (.int .i64 0)) 5 (.int .i64 0)) 6 (.int .i64 0)) 7 (.string ⟨#[]⟩))
            simpa only [List.setIfInBounds_toArray, List.set_cons_zero, List.set_cons_succ] using this
          · exact Y3.out.2.1.kept (fun g hg => by
              have h1 : g ≠ w.heap.size := by have := (Y3.out.2.1.lt g hg).1; have := HU.out.1; omega
              exact ((Rg.blk_far h1 7 (.string ⟨#[]⟩)).trans ((Rg.blk_far h1 6 (.int .i64 0)).trans ((Rg.blk_far h1 5 (.int .i64 0)).trans ((Rg.blk_far h1 4 (.int .i64 0)).trans ((Rg.blk_far h1 3 (.int .i64 0)).trans ((Rg.blk_far h1 2 (.bool false)).trans (Eq.refl _))))))))
        go_upto_region 14 with fail
        generalize ((((((W.setCell ⟨w.heap.size, 2, none⟩ (.bool false)).setCell ⟨w.heap.size, 3, none⟩ (.int .i64 0)).setCell ⟨w.heap.size, 4, none⟩ (.int .i64 0)).setCell ⟨w.heap.size, 5, none⟩ (.int .i64 0)).setCell ⟨w.heap.size, 6, none⟩ (.int .i64 0)).setCell ⟨w.heap.size, 7, none⟩ (.string ⟨#[]⟩)) = u4 at Y4 ⊢
        clear c0 c1 c2 c3 c4 c5 c6 c7 c8 c9 fc2 fc3 fc4 fc5 fc6 fc7 Y3
        have Y5 : Hid (((u4.alloc (.cells #[] 44)).setCell ⟨w.heap.size, 8, none⟩ (.slice (some ⟨u4.heap.size, 0, none⟩) 0 0)).heap[w.heap.size]? = some (.cells #[.int .i64 c.id, .int .i64 c.st, .bool false, .int .i64 0, .int .i64 0, .int .i64 0, .int .i64 0, .string ⟨#[]⟩, .slice (some ⟨u4.heap.size, 0, none⟩) 0 0, .slice a9 M k9] 38) ∧ (True ∧ True ∧ ((u4.alloc (.cells #[] 44)).setCell ⟨w.heap.size, 8, none⟩ (.slice (some ⟨u4.heap.size, 0, none⟩) 0 0)).heap[w.heap.size + 1 + 1]? = some (.cells #[.int .i64 0, .int .i64 0, .bool false, .int .i64 0, .int .i64 0, .int .i64 0, .int .i64 0, .string ⟨#[]⟩, .slice none 0 0, .slice none 0 0] 38)) ∧ OwnX ((u4.alloc (.cells #[] 44)).setCell ⟨w.heap.size, 8, none⟩ (.slice (some ⟨u4.heap.size, 0, none⟩) 0 0)) u2.heap.size (.slice a9 M k9) (c.ac ++ [A]) ∧ Below w.heap.size w ((u4.alloc (.cells #[] 44)).setCell ⟨w.heap.size, 8, none⟩ (.slice (some ⟨u4.heap.size, 0, none⟩) 0 0))) := by
          have k1 : (u4.alloc (.cells #[] 44)).heap[w.heap.size]? = some (.cells #[.int .i64 c.id, .int .i64 c.st, .bool false, .int .i64 0, .int .i64 0, .int .i64 0, .int .i64 0, .string ⟨#[]⟩, .slice a6 N k6, .slice a9 M k9] 38) := (Below.heap_alloc _ _ _ (Array.getElem?_eq_some_iff.1 Y4.out.1.1).1).trans Y4.out.1.1
          have k2 : (u4.alloc (.cells #[] 44)).heap[w.heap.size + 1 + 1]? = some (.cells #[.int .i64 0, .int .i64 0, .bool false, .int .i64 0, .int .i64 0, .int .i64 0, .int .i64 0, .string ⟨#[]⟩, .slice none 0 0, .slice none 0 0] 38) := (Below.heap_alloc _ _ _ (Array.getElem?_eq_some_iff.1 Y4.out.1.2).1).trans Y4.out.1.2
          have k3 := Y4.out.2.1.alloc (.cells #[] 44)
          refine ⟨?_, ⟨trivial, trivial, (Rg.blk_far (by omega) _ _).trans k2⟩, k3.kept (fun g hg => Rg.blk_far (by have := (k3.lt g hg).1; have := HU.out.1; omega) _ _), Below.setCell (Y4.out.2.2.alloc Y4.out.2.2.size _) (p := ⟨w.heap.size, 8, none⟩) (Nat.le_refl _) _⟩
          have := Rg.blk_set k1 8 (.slice (some ⟨u4.heap.size, 0, none⟩) 0 0)
          simpa only [List.setIfInBounds_toArray, List.set_cons_zero, List.set_cons_succ] using this
        have EA8 : (u4.alloc (.cells #[] 44)).cell? ⟨w.heap.size, 8, none⟩ = some (.slice a6 N k6) ∧ (u4.alloc (.cells #[] 44)).frozen? ⟨w.heap.size, 8, none⟩ = false := Rg.blk_cell ((Below.heap_alloc _ _ _ (Array.getElem?_eq_some_iff.1 Y4.out.1.1).1).trans Y4.out.1.1) 8 rfl
        obtain ⟨s8, f8⟩ := EA8
        go_upto_region 15 with fail
        generalize (u4.alloc (.cells #[] 44)).setCell ⟨w.heap.size, 8, none⟩ (.slice (some ⟨u4.heap.size, 0, none⟩) 0 0) = u5 at Y5 ⊢
        generalize u4.heap.size = g5 at Y5 ⊢
        clear s8 f8 Y4
        have c0 := (Rg.blk_cell Y5.out.1 0 (x := .int .i64 c.id) rfl).1
        have c1 := (Rg.blk_cell Y5.out.1 1 (x := .int .i64 c.st) rfl).1
        have c2 := (Rg.blk_cell Y5.out.1 2 (x := .bool false) rfl).1
        have c3 := (Rg.blk_cell Y5.out.1 3 (x := .int .i64 0) rfl).1
        have c4 := (Rg.blk_cell Y5.out.1 4 (x := .int .i64 0) rfl).1
        have c5 := (Rg.blk_cell Y5.out.1 5 (x := .int .i64 0) rfl).1
        have c6 := (Rg.blk_cell Y5.out.1 6 (x := .int .i64 0) rfl).1
        have c7 := (Rg.blk_cell Y5.out.1 7 (x := .string ⟨#[]⟩) rfl).1
        have c8 := (Rg.blk_cell Y5.out.1 8 (x := .slice (some ⟨g5, 0, none⟩) 0 0) rfl).1
        have c9 := (Rg.blk_cell Y5.out.1 9 (x := .slice a9 M k9) rfl).1
        have Z9 := (⟨Y5.out.2.1, Y5.out.2.2.2, trivial⟩ : (True ∧ True ∧ u5.heap[w.heap.size + 1 + 1]? = some (.cells #[.int .i64 0, .int .i64 0, .bool false, .int .i64 0, .int .i64 0, .int .i64 0, .int .i64 0, .string ⟨#[]⟩, .slice none 0 0, .slice none 0 0] 38)) ∧ Below w.heap.size w u5 ∧ True)
        obtain ⟨z0, fz0⟩ := Rg.blk_cell Z9.1.2.2 0 (x := .int .i64 0) rfl
        obtain ⟨z1, fz1⟩ := Rg.blk_cell Z9.1.2.2 1 (x := .int .i64 0) rfl
        obtain ⟨z2, fz2⟩ := Rg.blk_cell Z9.1.2.2 2 (x := .bool false) rfl
        obtain ⟨z3, fz3⟩ := Rg.blk_cell Z9.1.2.2 3 (x := .int .i64 0) rfl
        obtain ⟨z4, fz4⟩ := Rg.blk_cell Z9.1.2.2 4 (x := .int .i64 0) rfl
        obtain ⟨z5, fz5⟩ := Rg.blk_cell Z9.1.2.2 5 (x := .int .i64 0) rfl
        obtain ⟨z6, fz6⟩ := Rg.blk_cell Z9.1.2.2 6 (x := .int .i64 0) rfl
        obtain ⟨z7, fz7⟩ := Rg.blk_cell Z9.1.2.2 7 (x := .string ⟨#[]⟩) rfl
        obtain ⟨z8, fz8⟩ := Rg.blk_cell Z9.1.2.2 8 (x := .slice none 0 0) rfl
        obtain ⟨z9, fz9⟩ := Rg.blk_cell Z9.1.2.2 9 (x := .slice none 0 0) rfl
        obtain ⟨AF, HFB, GF0⟩ := set10 (.int .i64 0) (.int .i64 0) (.bool false) (.int .i64 0) (.int .i64 0) (.int .i64 0) (.int .i64 0) (.string ⟨#[]⟩) (.slice none 0 0) (.slice none 0 0) (.int .i64 c.id) (.int .i64 c.st) (.bool false) (.int .i64 0) (.int .i64 0) (.int .i64 0) (.int .i64 0) (.string ⟨#[]⟩) (.slice (some ⟨g5, 0, none⟩) 0 0) (.slice a9 M k9) Z9.1.2.2
        have GF := GF0 (Z9.2.1) (Nat.le_trans (Nat.le_succ _) (Nat.le_succ _))
        have KF : Hid (Has ((((((((((u5.setCell ⟨w.heap.size + 1 + 1, 0, none⟩ (.int .i64 c.id)).setCell ⟨w.heap.size + 1 + 1, 1, none⟩ (.int .i64 c.st)).setCell ⟨w.heap.size + 1 + 1, 2, none⟩ (.bool false)).setCell ⟨w.heap.size + 1 + 1, 3, none⟩ (.int .i64 0)).setCell ⟨w.heap.size + 1 + 1, 4, none⟩ (.int .i64 0)).setCell ⟨w.heap.size + 1 + 1, 5, none⟩ (.int .i64 0)).setCell ⟨w.heap.size + 1 + 1, 6, none⟩ (.int .i64 0)).setCell ⟨w.heap.size + 1 + 1, 7, none⟩ (.string ⟨#[]⟩)).setCell ⟨w.heap.size + 1 + 1, 8, none⟩ (.slice (some ⟨g5, 0, none⟩) 0 0)).setCell ⟨w.heap.size + 1 + 1, 9, none⟩ (.slice a9 M k9)) (fin c A) (.slice (some ⟨g5, 0, none⟩) 0 0) (.slice a9 M k9)) := ⟨⟨_, 0, rfl, .inl rfl⟩, (Y5.out.2.2.1.kept (fun g hg => HFB g (by have := (Y5.out.2.2.1.lt g hg).1; have := HU.out.2; omega))).row⟩
        clear GF0 HFB Z9 
        go_wp2_with fail
        generalize ((((((((((u5.setCell ⟨w.heap.size + 1 + 1, 0, none⟩ (.int .i64 c.id)).setCell ⟨w.heap.size + 1 + 1, 1, none⟩ (.int .i64 c.st)).setCell ⟨w.heap.size + 1 + 1, 2, none⟩ (.bool false)).setCell ⟨w.heap.size + 1 + 1, 3, none⟩ (.int .i64 0)).setCell ⟨w.heap.size + 1 + 1, 4, none⟩ (.int .i64 0)).setCell ⟨w.heap.size + 1 + 1, 5, none⟩ (.int .i64 0)).setCell ⟨w.heap.size + 1 + 1, 6, none⟩ (.int .i64 0)).setCell ⟨w.heap.size + 1 + 1, 7, none⟩ (.string ⟨#[]⟩)).setCell ⟨w.heap.size + 1 + 1, 8, none⟩ (.slice (some ⟨g5, 0, none⟩) 0 0)).setCell ⟨w.heap.size + 1 + 1, 9, none⟩ (.slice a9 M k9)) = wf at AF GF KF ⊢
        have d0 := (Rg.blk_cell AF 0 (x := .int .i64 c.id) rfl).1
        have d1 := (Rg.blk_cell AF 1 (x := .int .i64 c.st) rfl).1
        have d2 := (Rg.blk_cell AF 2 (x := .bool false) rfl).1
        have d3 := (Rg.blk_cell AF 3 (x := .int .i64 0) rfl).1
        have d4 := (Rg.blk_cell AF 4 (x := .int .i64 0) rfl).1
        have d5 := (Rg.blk_cell AF 5 (x := .int .i64 0) rfl).1
        have d6 := (Rg.blk_cell AF 6 (x := .int .i64 0) rfl).1
        have d7 := (Rg.blk_cell AF 7 (x := .string ⟨#[]⟩) rfl).1
        have d8 := (Rg.blk_cell AF 8 (x := .slice (some ⟨g5, 0, none⟩) 0 0) rfl).1
        have d9 := (Rg.blk_cell AF 9 (x := .slice a9 M k9) rfl).1
        exact bodyPost_ret (v := .tuple #[.agg #[.int .i64 c.id, .int .i64 c.st, .bool false, .int .i64 0, .int .i64 0, .int .i64 0, .int .i64 0, .string ⟨#[]⟩, .slice (some ⟨g5, 0, none⟩) 0 0, .slice a9 M k9], .int .i64 0]) (by simp [results, Tryz.results17, go_sem, d0, d1, d2, d3, d4, d5, d6, d7, d8, d9]) rfl ⟨_, _, ret_tup (by rw [HV3.out.1] <;> rfl) HV3.out.2.symm, by rw [HV3.out.1]; exact KF, GF⟩
end Go.Proofs.YtmbnfpifganeeaaGreatDoor.Cl
