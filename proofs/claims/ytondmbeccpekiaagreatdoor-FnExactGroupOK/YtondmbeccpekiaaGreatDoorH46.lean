/- Texts put together: Zc. -/
import Derived.Test.YtondmbeccpekiaaGreatDoorH7
/- Copies of parcels, of groups: all in new memory. -/
namespace Go.Proofs.YtondmbeccpekiaaGreatDoor.Zg
open Go.RowKit Go.Proofs.YtondmbeccpekiaaGreatDoor.Rg Go.Proofs.YtondmbeccpekiaaGreatDoor.Gm Go.Proofs.YtondmbeccpekiaaGreatDoor.Ty Go.Proofs.YtondmbeccpekiaaGreatDoor.Yr

def EIA (B : Nat) (w : World) (b o : Nat) (x : Int) : Prop := B ≤ b ∧ EI w b o x
def EPA (B : Nat) (w : World) (b o : Nat) (x : Pc) : Prop := B ≤ b ∧ EP w b o x
def ERA (B : Nat) (w : World) (b o : Nat) (x : Rp) : Prop := B ≤ b ∧ ∃ vs vc vl vh, w.cell? ⟨b, o, none⟩ = some (.int .i64 x.id) ∧ w.cell? ⟨b, o + 1, none⟩ = some (.int .i64 x.n) ∧ w.cell? ⟨b, o + 2, none⟩ = some (.int .i64 x.vw) ∧ w.cell? ⟨b, o + 3, none⟩ = some (.bool x.ac) ∧ w.cell? ⟨b, o + 4, none⟩ = some (vs) ∧ w.cell? ⟨b, o + 5, none⟩ = some (vc) ∧ w.cell? ⟨b, o + 6, none⟩ = some (vl) ∧ w.cell? ⟨b, o + 7, none⟩ = some (vh) ∧ RepA B w x vs vc vl vh
def RowNA (B : Nat) (w : World) (v : Value) (xs : List Int) : Prop := RowG 1 (EIA B) w v xs
def RowPA (B : Nat) (w : World) (v : Value) (xs : List Pc) : Prop := RowG 8 (EPA B) w v xs
def RowRA (B : Nat) (w : World) (v : Value) (xs : List Rp) : Prop := RowG 8 (ERA B) w v xs
theorem RowNA.to {B B' : Nat} {w w' : World} {v : Value} {xs : List Int} (h : RowNA B w v xs) (ha : Abv B w w') (hB : B' ≤ B) : RowNA B' w' v xs := row_keep h ha fun _ _ _ _ ⟨hb, h0⟩ => ⟨Nat.le_trans hB hb, ha.cell hb h0⟩
theorem RowNA.keep {B : Nat} {w w' : World} {v : Value} {xs : List Int} (h : RowNA B w v xs) (ha : Abv B w w') : RowNA B w' v xs := h.to ha (Nat.le_refl _)
theorem RowNA.row {B : Nat} {w : World} {v : Value} {xs : List Int} (h : RowNA B w v xs) : RowN w v xs := row_keep h (Abv.refl B w) fun _ _ _ _ h => h.2
theorem RowPA.to {B B' : Nat} {w w' : World} {v : Value} {xs : List Pc} (h : RowPA B w v xs) (ha : Abv B w w') (hB : B' ≤ B) : RowPA B' w' v xs := row_keep h ha fun _ _ _ _ ⟨hb, h0, h1, h2, h3, h4, h5, h6, h7⟩ => ⟨Nat.le_trans hB hb, ha.cell hb h0, ha.cell hb h1, ha.cell hb h2, ha.cell hb h3, ha.cell hb h4, ha.cell hb h5, ha.cell hb h6, ha.cell hb h7⟩
theorem RowPA.keep {B : Nat} {w w' : World} {v : Value} {xs : List Pc} (h : RowPA B w v xs) (ha : Abv B w w') : RowPA B w' v xs := h.to ha (Nat.le_refl _)
theorem RowPA.row {B : Nat} {w : World} {v : Value} {xs : List Pc} (h : RowPA B w v xs) : RowP w v xs := row_keep h (Abv.refl B w) fun _ _ _ _ h => h.2
theorem RowRA.to {B B' : Nat} {w w' : World} {v : Value} {xs : List Rp} (h : RowRA B w v xs) (ha : Abv B w w') (hB : B' ≤ B) : RowRA B' w' v xs := row_keep h ha fun _ _ _ _ ⟨hb, vs, vc, vl, vh, h0, h1, h2, h3, h4, h5, h6, h7, h8⟩ => ⟨Nat.le_trans hB hb, vs, vc, vl, vh, ha.cell hb h0, ha.cell hb h1, ha.cell hb h2, ha.cell hb h3, ha.cell hb h4, ha.cell hb h5, ha.cell hb h6, ha.cell hb h7, h8.to ha hB⟩
theorem RowRA.keep {B : Nat} {w w' : World} {v : Value} {xs : List Rp} (h : RowRA B w v xs) (ha : Abv B w w') : RowRA B w' v xs := h.to ha (Nat.le_refl _)
theorem RowRA.row {B : Nat} {w : World} {v : Value} {xs : List Rp} (h : RowRA B w v xs) : RowR w v xs := row_keep h (Abv.refl B w) fun _ _ _ _ ⟨_, vs, vc, vl, vh, h0, h1, h2, h3, h4, h5, h6, h7, h8⟩ => ⟨vs, vc, vl, vh, h0, h1, h2, h3, h4, h5, h6, h7, h8.rep⟩
structure GrpA (B : Nat) (w : World) (g : Gp) (vf vr vw vs : Value) : Prop where
  f : RowNA B w vf g.fa
  r : RowRA B w vr g.rs
  p : RowPA B w vw g.wi
  s : RowA B w vs g.se
theorem GrpA.grp {B : Nat} {w : World} {g : Gp} {vf vr vw vs : Value} (h : GrpA B w g vf vr vw vs) : GrpR w g vf vr vw vs := ⟨h.f.row, h.r.row, h.p.row, h.s.row⟩
set_option maxRecDepth 100000 in
set_option maxHeartbeats 1600000 in
theorem toParcel_any (x : Pc) (w : World) :
    Calls Tryz.prog 70 #[pcV x] w fun e w' => e = .returned (pcV x) ∧ Below w.heap.size w w' := by
  unfold pcV
  have HTM : Hid (∀ W, Calls Tryz.prog 71 #[.agg #[.int .i64 x.m.kd, .int .i64 x.m.vw, .int .i64 x.m.sq, .int .i64 x.m.fr, .string x.m.dg, .string x.m.bd, .string x.m.mc]] W fun e w' => e = .returned (.agg #[.int .i64 x.m.kd, .int .i64 x.m.vw, .int .i64 x.m.sq, .int .i64 x.m.fr, .string x.m.dg, .string x.m.bd, .string x.m.mc]) ∧ Below W.heap.size W w') := fun W => to1_any x.m W
  go_enter Tryz.func70, Tryz.ntmps70
  go_wp2_with fail
  refine (HTM.out _).mono ?_
  rintro e w1 ⟨rfl, b1⟩
  obtain ⟨k0, k1, k2, kS, kB⟩ := three b1
  have K0 : Hid (w1.heap[w.heap.size]? = some (.cells #[.int .i64 x.t, .int .i64 x.m.kd, .int .i64 x.m.vw, .int .i64 x.m.sq, .int .i64 x.m.fr, .string x.m.dg, .string x.m.bd, .string x.m.mc] 97)) := k0
  have K1 : Hid (w1.heap[w.heap.size + 1]? = some (.cells #[.int .i64 0, .int .i64 0, .int .i64 0, .int .i64 0, .int .i64 0, .string ⟨#[]⟩, .string ⟨#[]⟩, .string ⟨#[]⟩] 61 (0, 0))) := k1
  have K2 : Hid (w1.heap[w.heap.size + 1 + 1]? = some (.cells #[.int .i64 x.t, .int .i64 0, .int .i64 0, .int .i64 0, .int .i64 0, .string ⟨#[]⟩, .string ⟨#[]⟩, .string ⟨#[]⟩] 61 (0, 0))) := k2
  have KB : Hid (Below w.heap.size w w1) := kB
  clear b1 k0 k1 k2 kB kS HTM
  obtain ⟨s0, t0⟩ := blk_cell K2.out 1 (x := .int .i64 0) rfl
  obtain ⟨s1, t1⟩ := blk_cell K2.out 2 (x := .int .i64 0) rfl
  obtain ⟨s2, t2⟩ := blk_cell K2.out 3 (x := .int .i64 0) rfl
  obtain ⟨s3, t3⟩ := blk_cell K2.out 4 (x := .int .i64 0) rfl
  obtain ⟨s4, t4⟩ := blk_cell K2.out 5 (x := .string ⟨#[]⟩) rfl
  obtain ⟨s5, t5⟩ := blk_cell K2.out 6 (x := .string ⟨#[]⟩) rfl
  obtain ⟨s6, t6⟩ := blk_cell K2.out 7 (x := .string ⟨#[]⟩) rfl
  have B2 : Hid ((((((((w1.setCell ⟨w.heap.size + 1 + 1, 1, none⟩ (.int .i64 x.m.kd)).setCell ⟨w.heap.size + 1 + 1, 2, none⟩ (.int .i64 x.m.vw)).setCell ⟨w.heap.size + 1 + 1, 3, none⟩ (.int .i64 x.m.sq)).setCell ⟨w.heap.size + 1 + 1, 4, none⟩ (.int .i64 x.m.fr)).setCell ⟨w.heap.size + 1 + 1, 5, none⟩ (.string x.m.dg)).setCell ⟨w.heap.size + 1 + 1, 6, none⟩ (.string x.m.bd)).setCell ⟨w.heap.size + 1 + 1, 7, none⟩ (.string x.m.mc)).heap[w.heap.size + 1 + 1]? = some (.cells #[.int .i64 x.t, .int .i64 x.m.kd, .int .i64 x.m.vw, .int .i64 x.m.sq, .int .i64 x.m.fr, .string x.m.dg, .string x.m.bd, .string x.m.mc] 61 (0, 0))) := (blk_set (blk_set (blk_set (blk_set (blk_set (blk_set (blk_set K2.out 1 (.int .i64 x.m.kd)) 2 (.int .i64 x.m.vw)) 3 (.int .i64 x.m.sq)) 4 (.int .i64 x.m.fr)) 5 (.string x.m.dg)) 6 (.string x.m.bd)) 7 (.string x.m.mc))
  have A2 : Hid ((((((((w1.setCell ⟨w.heap.size + 1 + 1, 1, none⟩ (.int .i64 x.m.kd)).setCell ⟨w.heap.size + 1 + 1, 2, none⟩ (.int .i64 x.m.vw)).setCell ⟨w.heap.size + 1 + 1, 3, none⟩ (.int .i64 x.m.sq)).setCell ⟨w.heap.size + 1 + 1, 4, none⟩ (.int .i64 x.m.fr)).setCell ⟨w.heap.size + 1 + 1, 5, none⟩ (.string x.m.dg)).setCell ⟨w.heap.size + 1 + 1, 6, none⟩ (.string x.m.bd)).setCell ⟨w.heap.size + 1 + 1, 7, none⟩ (.string x.m.mc)).heap[w.heap.size + 1]? = some (.cells #[.int .i64 0, .int .i64 0, .int .i64 0, .int .i64 0, .int .i64 0, .string ⟨#[]⟩, .string ⟨#[]⟩, .string ⟨#[]⟩] 61 (0, 0))) := ((blk_far (by omega) 7 (.string x.m.mc)).trans ((blk_far (by omega) 6 (.string x.m.bd)).trans ((blk_far (by omega) 5 (.string x.m.dg)).trans ((blk_far (by omega) 4 (.int .i64 x.m.fr)).trans ((blk_far (by omega) 3 (.int .i64 x.m.sq)).trans ((blk_far (by omega) 2 (.int .i64 x.m.vw)).trans ((blk_far (by omega) 1 (.int .i64 x.m.kd)).trans K1.out)))))))
  have G2 : Hid (Below w.heap.size w (((((((w1.setCell ⟨w.heap.size + 1 + 1, 1, none⟩ (.int .i64 x.m.kd)).setCell ⟨w.heap.size + 1 + 1, 2, none⟩ (.int .i64 x.m.vw)).setCell ⟨w.heap.size + 1 + 1, 3, none⟩ (.int .i64 x.m.sq)).setCell ⟨w.heap.size + 1 + 1, 4, none⟩ (.int .i64 x.m.fr)).setCell ⟨w.heap.size + 1 + 1, 5, none⟩ (.string x.m.dg)).setCell ⟨w.heap.size + 1 + 1, 6, none⟩ (.string x.m.bd)).setCell ⟨w.heap.size + 1 + 1, 7, none⟩ (.string x.m.mc))) := (Below.setCell (Below.setCell (Below.setCell (Below.setCell (Below.setCell (Below.setCell (Below.setCell KB.out (p := ⟨w.heap.size + 1 + 1, 1, none⟩) (by show _ ≤ w.heap.size + 1 + 1; omega) (.int .i64 x.m.kd)) (p := ⟨w.heap.size + 1 + 1, 2, none⟩) (by show _ ≤ w.heap.size + 1 + 1; omega) (.int .i64 x.m.vw)) (p := ⟨w.heap.size + 1 + 1, 3, none⟩) (by show _ ≤ w.heap.size + 1 + 1; omega) (.int .i64 x.m.sq)) (p := ⟨w.heap.size + 1 + 1, 4, none⟩) (by show _ ≤ w.heap.size + 1 + 1; omega) (.int .i64 x.m.fr)) (p := ⟨w.heap.size + 1 + 1, 5, none⟩) (by show _ ≤ w.heap.size + 1 + 1; omega) (.string x.m.dg)) (p := ⟨w.heap.size + 1 + 1, 6, none⟩) (by show _ ≤ w.heap.size + 1 + 1; omega) (.string x.m.bd)) (p := ⟨w.heap.size + 1 + 1, 7, none⟩) (by show _ ≤ w.heap.size + 1 + 1; omega) (.string x.m.mc))
  clear K0 K1 K2
  go_upto_region 4 with fail
  generalize (((((((w1.setCell ⟨w.heap.size + 1 + 1, 1, none⟩ (.int .i64 x.m.kd)).setCell ⟨w.heap.size + 1 + 1, 2, none⟩ (.int .i64 x.m.vw)).setCell ⟨w.heap.size + 1 + 1, 3, none⟩ (.int .i64 x.m.sq)).setCell ⟨w.heap.size + 1 + 1, 4, none⟩ (.int .i64 x.m.fr)).setCell ⟨w.heap.size + 1 + 1, 5, none⟩ (.string x.m.dg)).setCell ⟨w.heap.size + 1 + 1, 6, none⟩ (.string x.m.bd)).setCell ⟨w.heap.size + 1 + 1, 7, none⟩ (.string x.m.mc)) = w9 at B2 A2 G2 ⊢
  have p0 := (blk_cell B2.out 0 (x := .int .i64 x.t) rfl).1
  have p1 := (blk_cell B2.out 1 (x := .int .i64 x.m.kd) rfl).1
  have p2 := (blk_cell B2.out 2 (x := .int .i64 x.m.vw) rfl).1
  have p3 := (blk_cell B2.out 3 (x := .int .i64 x.m.sq) rfl).1
  have p4 := (blk_cell B2.out 4 (x := .int .i64 x.m.fr) rfl).1
  have p5 := (blk_cell B2.out 5 (x := .string x.m.dg) rfl).1
  have p6 := (blk_cell B2.out 6 (x := .string x.m.bd) rfl).1
  have p7 := (blk_cell B2.out 7 (x := .string x.m.mc) rfl).1
  obtain ⟨m0, n0⟩ := blk_cell A2.out 0 (x := .int .i64 0) rfl
  obtain ⟨m1, n1⟩ := blk_cell A2.out 1 (x := .int .i64 0) rfl
  obtain ⟨m2, n2⟩ := blk_cell A2.out 2 (x := .int .i64 0) rfl
  obtain ⟨m3, n3⟩ := blk_cell A2.out 3 (x := .int .i64 0) rfl
  obtain ⟨m4, n4⟩ := blk_cell A2.out 4 (x := .int .i64 0) rfl
  obtain ⟨m5, n5⟩ := blk_cell A2.out 5 (x := .string ⟨#[]⟩) rfl
  obtain ⟨m6, n6⟩ := blk_cell A2.out 6 (x := .string ⟨#[]⟩) rfl
  obtain ⟨m7, n7⟩ := blk_cell A2.out 7 (x := .string ⟨#[]⟩) rfl
  have AF : ((((((((w9.setCell ⟨w.heap.size + 1, 0, none⟩ (.int .i64 x.t)).setCell ⟨w.heap.size + 1, 1, none⟩ (.int .i64 x.m.kd)).setCell ⟨w.heap.size + 1, 2, none⟩ (.int .i64 x.m.vw)).setCell ⟨w.heap.size + 1, 3, none⟩ (.int .i64 x.m.sq)).setCell ⟨w.heap.size + 1, 4, none⟩ (.int .i64 x.m.fr)).setCell ⟨w.heap.size + 1, 5, none⟩ (.string x.m.dg)).setCell ⟨w.heap.size + 1, 6, none⟩ (.string x.m.bd)).setCell ⟨w.heap.size + 1, 7, none⟩ (.string x.m.mc)).heap[w.heap.size + 1]? = some (.cells #[.int .i64 x.t, .int .i64 x.m.kd, .int .i64 x.m.vw, .int .i64 x.m.sq, .int .i64 x.m.fr, .string x.m.dg, .string x.m.bd, .string x.m.mc] 61 (0, 0)) := (blk_set (blk_set (blk_set (blk_set (blk_set (blk_set (blk_set (blk_set A2.out 0 (.int .i64 x.t)) 1 (.int .i64 x.m.kd)) 2 (.int .i64 x.m.vw)) 3 (.int .i64 x.m.sq)) 4 (.int .i64 x.m.fr)) 5 (.string x.m.dg)) 6 (.string x.m.bd)) 7 (.string x.m.mc))
  have GF : Below w.heap.size w ((((((((w9.setCell ⟨w.heap.size + 1, 0, none⟩ (.int .i64 x.t)).setCell ⟨w.heap.size + 1, 1, none⟩ (.int .i64 x.m.kd)).setCell ⟨w.heap.size + 1, 2, none⟩ (.int .i64 x.m.vw)).setCell ⟨w.heap.size + 1, 3, none⟩ (.int .i64 x.m.sq)).setCell ⟨w.heap.size + 1, 4, none⟩ (.int .i64 x.m.fr)).setCell ⟨w.heap.size + 1, 5, none⟩ (.string x.m.dg)).setCell ⟨w.heap.size + 1, 6, none⟩ (.string x.m.bd)).setCell ⟨w.heap.size + 1, 7, none⟩ (.string x.m.mc)) := (Below.setCell (Below.setCell (Below.setCell (Below.setCell (Below.setCell (Below.setCell (Below.setCell (Below.setCell G2.out (p := ⟨w.heap.size + 1, 0, none⟩) (by show _ ≤ w.heap.size + 1; omega) (.int .i64 x.t)) (p := ⟨w.heap.size + 1, 1, none⟩) (by show _ ≤ w.heap.size + 1; omega) (.int .i64 x.m.kd)) (p := ⟨w.heap.size + 1, 2, none⟩) (by show _ ≤ w.heap.size + 1; omega) (.int .i64 x.m.vw)) (p := ⟨w.heap.size + 1, 3, none⟩) (by show _ ≤ w.heap.size + 1; omega) (.int .i64 x.m.sq)) (p := ⟨w.heap.size + 1, 4, none⟩) (by show _ ≤ w.heap.size + 1; omega) (.int .i64 x.m.fr)) (p := ⟨w.heap.size + 1, 5, none⟩) (by show _ ≤ w.heap.size + 1; omega) (.string x.m.dg)) (p := ⟨w.heap.size + 1, 6, none⟩) (by show _ ≤ w.heap.size + 1; omega) (.string x.m.bd)) (p := ⟨w.heap.size + 1, 7, none⟩) (by show _ ≤ w.heap.size + 1; omega) (.string x.m.mc))
  go_wp2_with fail
  generalize ((((((((w9.setCell ⟨w.heap.size + 1, 0, none⟩ (.int .i64 x.t)).setCell ⟨w.heap.size + 1, 1, none⟩ (.int .i64 x.m.kd)).setCell ⟨w.heap.size + 1, 2, none⟩ (.int .i64 x.m.vw)).setCell ⟨w.heap.size + 1, 3, none⟩ (.int .i64 x.m.sq)).setCell ⟨w.heap.size + 1, 4, none⟩ (.int .i64 x.m.fr)).setCell ⟨w.heap.size + 1, 5, none⟩ (.string x.m.dg)).setCell ⟨w.heap.size + 1, 6, none⟩ (.string x.m.bd)).setCell ⟨w.heap.size + 1, 7, none⟩ (.string x.m.mc)) = wf at AF GF ⊢
  have d0 := (blk_cell AF 0 (x := .int .i64 x.t) rfl).1
  have d1 := (blk_cell AF 1 (x := .int .i64 x.m.kd) rfl).1
  have d2 := (blk_cell AF 2 (x := .int .i64 x.m.vw) rfl).1
  have d3 := (blk_cell AF 3 (x := .int .i64 x.m.sq) rfl).1
  have d4 := (blk_cell AF 4 (x := .int .i64 x.m.fr) rfl).1
  have d5 := (blk_cell AF 5 (x := .string x.m.dg) rfl).1
  have d6 := (blk_cell AF 6 (x := .string x.m.bd) rfl).1
  have d7 := (blk_cell AF 7 (x := .string x.m.mc) rfl).1
  exact bodyPost_ret (v := pcV x) (by simp [pcV, results, Tryz.results70, go_sem, d0, d1, d2, d3, d4, d5, d6, d7]) rfl ⟨rfl, GF⟩
theorem info_toIntS : (Tryz.prog.info? 3).map (fun i => (i.zero, i.size, i.bytes)) = some (some (.int .i64 0), 1, 8) := by kernel_rfl
def CoptoIntS (xs : List Int) (k : Nat) (A : Array Value) : Prop := A.size = xs.length ∧ ∀ j x, j < k → xs[j]? = some x → A[j]? = some (.int .i64 x)
theorem coptoIntS {xs : List Int} {k : Nat} {A : Array Value} {x : Int} (h : CoptoIntS xs k A) (hx : xs[k]? = some x) :
    CoptoIntS xs (k + 1) ((A).setIfInBounds (k) (.int .i64 x)) := by
  have hk := lt_at hx
  have hs := h.1
  refine ⟨by simpa using h.1, fun j y hj hy => ?_⟩
  simp only [Array.getElem?_setIfInBounds]
  by_cases e : j = k
  · subst e
    rw [hx] at hy
    cases hy
    skip
    all_goals (repeat' (first | rw [if_pos rfl, if_pos (by omega)] | rw [if_neg (by omega)]))
  · have h0 := h.2 j y (by omega) hy
    skip
    all_goals (repeat' rw [if_neg (by omega)])
    all_goals assumption
set_option maxRecDepth 100000 in
set_option maxHeartbeats 1600000 in
theorem toIntSN_any (v : Value) (xs : List Int) (w : World) (h : RowN w v xs) (hl : xs.length ≤ 1048576) :
    Calls Tryz.prog 31 #[v] w fun e w' => ∃ v', e = .returned v' ∧ RowNA w.heap.size w' v' xs ∧ Below w.heap.size w w' := by
  have HR : Hid (RowN w v xs) := h
  obtain ⟨a, cap, rfl⟩ := RowG.slice h
  clear h
  obtain ⟨i0, hi, hz0, hz1, hz2⟩ := info_parts info_toIntS
  have hmk := run_make (P := Tryz.prog) w 22 3 i0 (.int .i64 0) Tryz.underlying22 hi hz0 .i64 .i64 (xs.length : Int) (xs.length : Int) (by omega) (by omega) (by rw [hz2]; omega) (by omega)
  have hA0 : CoptoIntS xs 0 (madeCells (Value.int .i64 0).cells ((xs.length : Int).toNat * i0.size)) := ⟨by rw [hz1]; simp [madeCells, Value.cells], fun j x hj => absurd hj (by omega)⟩
  generalize madeCells (Value.int .i64 0).cells ((xs.length : Int).toNat * i0.size) = A0 at hmk hA0
  rw [Int.toNat_natCast] at hmk
  go_enter Tryz.func31, Tryz.ntmps31
  go_wp2_with fail
  clear hmk
  go_loopw [4] (fun i wr => ∃ k : Nat, ∃ A : Array Value, k ≤ xs.length ∧ i = .int .i64 k ∧ Hid (wr.heap[w.heap.size]? = some (.cells A 3 (0, 0)) ∧ CoptoIntS xs k A ∧ Below w.heap.size w wr)) (fun i _ => xs.length - (intOf i).toNat)
  case atStart => exact ⟨0, A0, by omega, rfl, ⟨heap_alloc_new w _, hA0, bel_new _ _⟩⟩
  case round =>
    clear hA0
    obtain ⟨k, A, hk, rfl, HA⟩ := hrel
    by_cases hlt : k < xs.length
    · obtain ⟨x, hx⟩ := Rg.get_at hlt
      obtain ⟨b, off, rfl, hbl, c0⟩ := RowG.at (HR.out.below HA.out.2.2) rfl hx
      rw [Nat.mul_one] at c0
      unfold EI at c0
      have HX : Hid (xs[k]? = some x) := hx
      clear hx
      have HA2 : Hid (wr.heap[w.heap.size]? = some (.cells A 3 (0, 0)) ∧ CoptoIntS xs k A ∧ Below w.heap.size w wr) := HA.out
      clear HA
      have hsz : k < A.size := by rw [HA2.out.2.1.1]; omega
      obtain ⟨d0, f0⟩ := blk_cell HA2.out.1 (k) (x := A[k]) (Array.getElem?_eq_getElem (by omega))
      go_wp2_with fail
      refine ⟨⟨k + 1, (A).setIfInBounds (k) (.int .i64 x), by omega, by go_num, ⟨(blk_set HA2.out.1 _ _), coptoIntS HA2.out.2.1 HX.out, ?_⟩⟩, by simp [intOf]; omega⟩
      exact (Below.setCell HA2.out.2.2 (p := ⟨w.heap.size, k, none⟩) (Nat.le_refl _) (.int .i64 x))
    · obtain rfl : k = xs.length := by omega
      go_wp2_with fail
      go_ret
      refine ⟨_, rfl, ⟨some ⟨w.heap.size, 0, none⟩, xs.length, rfl, .inr ⟨w.heap.size, 0, rfl, Nat.le_refl _, (Array.getElem?_eq_some_iff.1 HA.out.1).1, fun i x hi => ?_⟩⟩, HA.out.2.2⟩
      have e0 := HA.out.2.1.2 i x (lt_at hi) hi
      rw [Nat.zero_add, Nat.mul_one]
      exact ⟨Nat.le_refl _, (Joins.cell_of_block HA.out.1 _).trans e0⟩
theorem info_toParcelS : (Tryz.prog.info? 61).map (fun i => (i.zero, i.size, i.bytes)) = some (some (.agg #[.int .i64 0, .int .i64 0, .int .i64 0, .int .i64 0, .int .i64 0, .string ⟨#[]⟩, .string ⟨#[]⟩, .string ⟨#[]⟩]), 8, 88) := by kernel_rfl
def CoptoParcelS (xs : List Pc) (k : Nat) (A : Array Value) : Prop := A.size = xs.length * 8 ∧ ∀ j x, j < k → xs[j]? = some x → A[j * 8]? = some (.int .i64 x.t) ∧ A[j * 8 + 1]? = some (.int .i64 x.m.kd) ∧ A[j * 8 + 2]? = some (.int .i64 x.m.vw) ∧ A[j * 8 + 3]? = some (.int .i64 x.m.sq) ∧ A[j * 8 + 4]? = some (.int .i64 x.m.fr) ∧ A[j * 8 + 5]? = some (.string x.m.dg) ∧ A[j * 8 + 6]? = some (.string x.m.bd) ∧ A[j * 8 + 7]? = some (.string x.m.mc)
theorem coptoParcelS {xs : List Pc} {k : Nat} {A : Array Value} {x : Pc} (h : CoptoParcelS xs k A) (hx : xs[k]? = some x) :
    CoptoParcelS xs (k + 1) (((((((((A).setIfInBounds (k * 8) (.int .i64 x.t)).setIfInBounds (k * 8 + 1) (.int .i64 x.m.kd)).setIfInBounds (k * 8 + 2) (.int .i64 x.m.vw)).setIfInBounds (k * 8 + 3) (.int .i64 x.m.sq)).setIfInBounds (k * 8 + 4) (.int .i64 x.m.fr)).setIfInBounds (k * 8 + 5) (.string x.m.dg)).setIfInBounds (k * 8 + 6) (.string x.m.bd)).setIfInBounds (k * 8 + 7) (.string x.m.mc)) := by
  have hk := lt_at hx
  have hs := h.1
  refine ⟨by simpa using h.1, fun j y hj hy => ?_⟩
  simp only [Array.getElem?_setIfInBounds, Array.size_setIfInBounds]
  by_cases e : j = k
  · subst e
    rw [hx] at hy
    cases hy
    refine ⟨?_, ?_, ?_, ?_, ?_, ?_, ?_, ?_⟩
    all_goals (repeat' (first | rw [if_pos rfl, if_pos (by omega)] | rw [if_neg (by omega)]))
  · obtain ⟨h0, h1, h2, h3, h4, h5, h6, h7⟩ := h.2 j y (by omega) hy
    refine ⟨?_, ?_, ?_, ?_, ?_, ?_, ?_, ?_⟩
    all_goals (repeat' rw [if_neg (by omega)])
    all_goals assumption
set_option maxRecDepth 100000 in
set_option maxHeartbeats 1600000 in
theorem toParcelSN_any (v : Value) (xs : List Pc) (w : World) (h : RowP w v xs) (hl : xs.length ≤ 1048576) :
    Calls Tryz.prog 33 #[v] w fun e w' => ∃ v', e = .returned v' ∧ RowPA w.heap.size w' v' xs ∧ Below w.heap.size w w' := by
  have HR : Hid (RowP w v xs) := h
  obtain ⟨a, cap, rfl⟩ := RowG.slice h
  clear h
  obtain ⟨i0, hi, hz0, hz1, hz2⟩ := info_parts info_toParcelS
  have hmk := run_make (P := Tryz.prog) w 31 61 i0 (.agg #[.int .i64 0, .int .i64 0, .int .i64 0, .int .i64 0, .int .i64 0, .string ⟨#[]⟩, .string ⟨#[]⟩, .string ⟨#[]⟩]) Tryz.underlying31 hi hz0 .i64 .i64 (xs.length : Int) (xs.length : Int) (by omega) (by omega) (by rw [hz2]; omega) (by omega)
  have hA0 : CoptoParcelS xs 0 (madeCells (Value.agg #[.int .i64 0, .int .i64 0, .int .i64 0, .int .i64 0, .int .i64 0, .string ⟨#[]⟩, .string ⟨#[]⟩, .string ⟨#[]⟩]).cells ((xs.length : Int).toNat * i0.size)) := ⟨by rw [hz1]; simp [madeCells, Value.cells], fun j x hj => absurd hj (by omega)⟩
  generalize madeCells (Value.agg #[.int .i64 0, .int .i64 0, .int .i64 0, .int .i64 0, .int .i64 0, .string ⟨#[]⟩, .string ⟨#[]⟩, .string ⟨#[]⟩]).cells ((xs.length : Int).toNat * i0.size) = A0 at hmk hA0
  rw [Int.toNat_natCast] at hmk
  go_enter Tryz.func33, Tryz.ntmps33
  go_wp2_with fail
  clear hmk
  go_loopw [4] (fun i wr => ∃ k : Nat, ∃ A : Array Value, k ≤ xs.length ∧ i = .int .i64 k ∧ Hid (wr.heap[w.heap.size]? = some (.cells A 61 (0, 0)) ∧ CoptoParcelS xs k A ∧ Below w.heap.size w wr)) (fun i _ => xs.length - (intOf i).toNat)
  case atStart => exact ⟨0, A0, by omega, rfl, ⟨heap_alloc_new w _, hA0, bel_new _ _⟩⟩
  case round =>
    clear hA0
    obtain ⟨k, A, hk, rfl, HA⟩ := hrel
    by_cases hlt : k < xs.length
    · obtain ⟨x, hx⟩ := Rg.get_at hlt
      obtain ⟨b, off, rfl, hbl, c0, c1, c2, c3, c4, c5, c6, c7⟩ := RowG.at (HR.out.below HA.out.2.2) rfl hx
      have HX : Hid (xs[k]? = some x) := hx
      clear hx
      go_wp2_with fail
      refine (toParcel_any x wr).mono ?_
      rintro e w2 ⟨rfl, b2⟩
      have hg := (Array.getElem?_eq_some_iff.1 HA.out.1).1
      have HA2 : Hid (w2.heap[w.heap.size]? = some (.cells A 61 (0, 0)) ∧ CoptoParcelS xs k A ∧ Below w.heap.size w w2) := ⟨(b2.block _ hg).trans HA.out.1, HA.out.2.1, HA.out.2.2.trans (b2.mono HA.out.2.2.size)⟩
      clear b2 c0 c1 c2 c3 c4 c5 c6 c7 HA
      have hsz : k * 8 + 7 < A.size := by rw [HA2.out.2.1.1]; omega
      obtain ⟨d0, f0⟩ := blk_cell HA2.out.1 (k * 8) (x := A[k * 8]) (Array.getElem?_eq_getElem (by omega))
      obtain ⟨d1, f1⟩ := blk_cell HA2.out.1 (k * 8 + 1) (x := A[k * 8 + 1]) (Array.getElem?_eq_getElem (by omega))
      obtain ⟨d2, f2⟩ := blk_cell HA2.out.1 (k * 8 + 2) (x := A[k * 8 + 2]) (Array.getElem?_eq_getElem (by omega))
      obtain ⟨d3, f3⟩ := blk_cell HA2.out.1 (k * 8 + 3) (x := A[k * 8 + 3]) (Array.getElem?_eq_getElem (by omega))
      obtain ⟨d4, f4⟩ := blk_cell HA2.out.1 (k * 8 + 4) (x := A[k * 8 + 4]) (Array.getElem?_eq_getElem (by omega))
      obtain ⟨d5, f5⟩ := blk_cell HA2.out.1 (k * 8 + 5) (x := A[k * 8 + 5]) (Array.getElem?_eq_getElem (by omega))
      obtain ⟨d6, f6⟩ := blk_cell HA2.out.1 (k * 8 + 6) (x := A[k * 8 + 6]) (Array.getElem?_eq_getElem (by omega))
      obtain ⟨d7, f7⟩ := blk_cell HA2.out.1 (k * 8 + 7) (x := A[k * 8 + 7]) (Array.getElem?_eq_getElem (by omega))
      unfold pcV
      go_wp2_with fail
      refine ⟨⟨k + 1, ((((((((A).setIfInBounds (k * 8) (.int .i64 x.t)).setIfInBounds (k * 8 + 1) (.int .i64 x.m.kd)).setIfInBounds (k * 8 + 2) (.int .i64 x.m.vw)).setIfInBounds (k * 8 + 3) (.int .i64 x.m.sq)).setIfInBounds (k * 8 + 4) (.int .i64 x.m.fr)).setIfInBounds (k * 8 + 5) (.string x.m.dg)).setIfInBounds (k * 8 + 6) (.string x.m.bd)).setIfInBounds (k * 8 + 7) (.string x.m.mc), by omega, by go_num, ⟨(blk_set (blk_set (blk_set (blk_set (blk_set (blk_set (blk_set (blk_set HA2.out.1 _ _) _ _) _ _) _ _) _ _) _ _) _ _) _ _), coptoParcelS HA2.out.2.1 HX.out, ?_⟩⟩, by simp [intOf]; omega⟩
      exact (Below.setCell (Below.setCell (Below.setCell (Below.setCell (Below.setCell (Below.setCell (Below.setCell (Below.setCell HA2.out.2.2 (p := ⟨w.heap.size, k * 8, none⟩) (Nat.le_refl _) (.int .i64 x.t)) (p := ⟨w.heap.size, k * 8 + 1, none⟩) (Nat.le_refl _) (.int .i64 x.m.kd)) (p := ⟨w.heap.size, k * 8 + 2, none⟩) (Nat.le_refl _) (.int .i64 x.m.vw)) (p := ⟨w.heap.size, k * 8 + 3, none⟩) (Nat.le_refl _) (.int .i64 x.m.sq)) (p := ⟨w.heap.size, k * 8 + 4, none⟩) (Nat.le_refl _) (.int .i64 x.m.fr)) (p := ⟨w.heap.size, k * 8 + 5, none⟩) (Nat.le_refl _) (.string x.m.dg)) (p := ⟨w.heap.size, k * 8 + 6, none⟩) (Nat.le_refl _) (.string x.m.bd)) (p := ⟨w.heap.size, k * 8 + 7, none⟩) (Nat.le_refl _) (.string x.m.mc))
    · obtain rfl : k = xs.length := by omega
      go_wp2_with fail
      go_ret
      refine ⟨_, rfl, ⟨some ⟨w.heap.size, 0, none⟩, xs.length, rfl, .inr ⟨w.heap.size, 0, rfl, Nat.le_refl _, (Array.getElem?_eq_some_iff.1 HA.out.1).1, fun i x hi => ?_⟩⟩, HA.out.2.2⟩
      obtain ⟨e0, e1, e2, e3, e4, e5, e6, e7⟩ := HA.out.2.1.2 i x (lt_at hi) hi
      rw [Nat.zero_add]
      exact ⟨Nat.le_refl _, (Joins.cell_of_block HA.out.1 _).trans e0, (Joins.cell_of_block HA.out.1 _).trans e1, (Joins.cell_of_block HA.out.1 _).trans e2, (Joins.cell_of_block HA.out.1 _).trans e3, (Joins.cell_of_block HA.out.1 _).trans e4, (Joins.cell_of_block HA.out.1 _).trans e5, (Joins.cell_of_block HA.out.1 _).trans e6, (Joins.cell_of_block HA.out.1 _).trans e7⟩
theorem info_toReplicaS : (Tryz.prog.info? 55).map (fun i => (i.zero, i.size, i.bytes)) = some (some (.agg #[.int .i64 0, .int .i64 0, .int .i64 0, .bool false, .slice none 0 0, .slice none 0 0, .slice none 0 0, .slice none 0 0]), 8, 128) := by kernel_rfl
def CopR (B : Nat) (w : World) (xs : List Rp) (k : Nat) (A : Array Value) : Prop := A.size = xs.length * 8 ∧ ∀ j x, j < k → xs[j]? = some x → ∃ u4 u5 u6 u7, A[j * 8]? = some (.int .i64 x.id) ∧ A[j * 8 + 1]? = some (.int .i64 x.n) ∧ A[j * 8 + 2]? = some (.int .i64 x.vw) ∧ A[j * 8 + 3]? = some (.bool x.ac) ∧ A[j * 8 + 4]? = some (u4) ∧ A[j * 8 + 5]? = some (u5) ∧ A[j * 8 + 6]? = some (u6) ∧ A[j * 8 + 7]? = some (u7) ∧ RepA B w x u4 u5 u6 u7
theorem CopR.keep {B : Nat} {w w' : World} {xs : List Rp} {k : Nat} {A : Array Value} (h : CopR B w xs k A) (ha : Abv B w w') : CopR B w' xs k A :=
  ⟨h.1, fun j x hj hx => by
    obtain ⟨u4, u5, u6, u7, h0, h1, h2, h3, h4, h5, h6, h7, h8⟩ := h.2 j x hj hx
    exact ⟨u4, u5, u6, u7, h0, h1, h2, h3, h4, h5, h6, h7, h8.to ha (Nat.le_refl _)⟩⟩
theorem copR {B : Nat} {w : World} {xs : List Rp} {k : Nat} {A : Array Value} {x : Rp} {u4 u5 u6 u7 : Value} (h : CopR B w xs k A) (hx : xs[k]? = some x) (hr : RepA B w x u4 u5 u6 u7) :
    CopR B w xs (k + 1) (((((((((A).setIfInBounds (k * 8) (.int .i64 x.id)).setIfInBounds (k * 8 + 1) (.int .i64 x.n)).setIfInBounds (k * 8 + 2) (.int .i64 x.vw)).setIfInBounds (k * 8 + 3) (.bool x.ac)).setIfInBounds (k * 8 + 4) (u4)).setIfInBounds (k * 8 + 5) (u5)).setIfInBounds (k * 8 + 6) (u6)).setIfInBounds (k * 8 + 7) (u7)) := by
  have hk := lt_at hx
  have hs := h.1
  refine ⟨by simpa using h.1, fun j y hj hy => ?_⟩
  simp only [Array.getElem?_setIfInBounds, Array.size_setIfInBounds]
  by_cases e : j = k
  · subst e
    rw [hx] at hy
    cases hy
    refine ⟨u4, u5, u6, u7, ?_, ?_, ?_, ?_, ?_, ?_, ?_, ?_, hr⟩
    all_goals (repeat' (first | rw [if_pos rfl, if_pos (by omega)] | rw [if_neg (by omega)]))
  · obtain ⟨z4, z5, z6, z7, h0, h1, h2, h3, h4, h5, h6, h7, h8⟩ := h.2 j y (by omega) hy
    refine ⟨z4, z5, z6, z7, ?_, ?_, ?_, ?_, ?_, ?_, ?_, ?_, h8⟩
    all_goals (repeat' rw [if_neg (by omega)])
    all_goals assumption
set_option maxRecDepth 100000 in
set_option maxHeartbeats 1600000 in
theorem toReplicaS_any (v : Value) (xs : List Rp) (w : World) (h : RowR w v xs) (hl : xs.length ≤ 1048576) (hw : ∀ x ∈ xs, Zr 1048576 x) :
    Calls Tryz.prog 32 #[v] w fun e w' => ∃ v', e = .returned v' ∧ RowRA w.heap.size w' v' xs ∧ Below w.heap.size w w' := by
  have HR : Hid (RowR w v xs ∧ ∀ x ∈ xs, Zr 1048576 x) := ⟨h, hw⟩
  obtain ⟨a, cap, rfl⟩ := RowG.slice h
  clear h hw
  obtain ⟨i0, hi, hz0, hz1, hz2⟩ := info_parts info_toReplicaS
  have hmk := run_make (P := Tryz.prog) w 30 55 i0 (.agg #[.int .i64 0, .int .i64 0, .int .i64 0, .bool false, .slice none 0 0, .slice none 0 0, .slice none 0 0, .slice none 0 0]) Tryz.underlying30 hi hz0 .i64 .i64 (xs.length : Int) (xs.length : Int) (by omega) (by omega) (by rw [hz2]; omega) (by omega)
  have hA0 : CopR (w.heap.size + 1) (w.alloc (.cells (madeCells (Value.agg #[.int .i64 0, .int .i64 0, .int .i64 0, .bool false, .slice none 0 0, .slice none 0 0, .slice none 0 0, .slice none 0 0]).cells ((xs.length : Int).toNat * i0.size)) 55)) xs 0 (madeCells (Value.agg #[.int .i64 0, .int .i64 0, .int .i64 0, .bool false, .slice none 0 0, .slice none 0 0, .slice none 0 0, .slice none 0 0]).cells ((xs.length : Int).toNat * i0.size)) := ⟨by rw [hz1]; simp [madeCells, Value.cells], fun j x hj => absurd hj (by omega)⟩
  generalize madeCells (Value.agg #[.int .i64 0, .int .i64 0, .int .i64 0, .bool false, .slice none 0 0, .slice none 0 0, .slice none 0 0, .slice none 0 0]).cells ((xs.length : Int).toNat * i0.size) = A0 at hmk hA0
  rw [Int.toNat_natCast] at hmk
  have HA0 : Hid (CopR (w.heap.size + 1) (w.alloc (.cells A0 55)) xs 0 A0) := hA0
  clear hA0
  go_enter Tryz.func32, Tryz.ntmps32
  go_wp2_with fail
  clear hmk
  go_loopw [4] (fun i wr => ∃ k : Nat, ∃ A : Array Value, k ≤ xs.length ∧ i = .int .i64 k ∧ Hid (wr.heap[w.heap.size]? = some (.cells A 55 (0, 0)) ∧ CopR (w.heap.size + 1) wr xs k A ∧ Below w.heap.size w wr)) (fun i _ => xs.length - (intOf i).toNat)
  case atStart => exact ⟨0, A0, by omega, rfl, ⟨heap_alloc_new w _, HA0.out, bel_new _ _⟩⟩
  case round =>
    clear HA0
    obtain ⟨k, A, hk, rfl, HA⟩ := hrel
    by_cases hlt : k < xs.length
    · obtain ⟨x, hx⟩ := Rg.get_at hlt
      obtain ⟨b, off, rfl, hbl, vs, vc, vl, vh, c0, c1, c2, c3, c4, c5, c6, c7, rr⟩ := RowG.at (HR.out.1.below HA.out.2.2) rfl hx
      have HX : Hid (xs[k]? = some x) := hx
      have HC := toReplica_any x vs vc vl vh wr rr (HR.out.2 _ (mem_at hx))
      unfold repV at HC
      clear hx rr
      go_wp2_with fail
      refine HC.mono ?_
      rintro e w2 ⟨u4, u5, u6, u7, rfl, ra, b2⟩
      obtain ⟨q4a, q4c, rfl⟩ := RowG.slice ra.s
      obtain ⟨q5a, q5c, rfl⟩ := RowG.slice ra.c
      obtain ⟨q6a, q6c, rfl⟩ := ownT_slice ra.l
      obtain ⟨q7a, q7c, rfl⟩ := RowG.slice ra.h
      have hg := (Array.getElem?_eq_some_iff.1 HA.out.1).1
      have HA2 : Hid (w2.heap[w.heap.size]? = some (.cells A 55 (0, 0)) ∧ CopR (w.heap.size + 1) w2 xs k A ∧ Below w.heap.size w w2) := ⟨(b2.block _ hg).trans HA.out.1, HA.out.2.1.keep (Abv.of b2), HA.out.2.2.trans (b2.mono HA.out.2.2.size)⟩
      have HQ : Hid (RepA (w.heap.size + 1) w2 x (.slice q4a x.ss.length q4c) (.slice q5a x.cs.length q5c) (.slice q6a x.lg.length q6c) (.slice q7a x.ch.length q7c)) := ra.to (Abv.refl _ _) (by omega)
      clear b2 c0 c1 c2 c3 c4 c5 c6 c7 HA ra HC
      have hsz : k * 8 + 7 < A.size := by rw [HA2.out.2.1.1]; omega
      obtain ⟨d0, f0⟩ := blk_cell HA2.out.1 (k * 8) (x := A[k * 8]) (Array.getElem?_eq_getElem (by omega))
      obtain ⟨d1, f1⟩ := blk_cell HA2.out.1 (k * 8 + 1) (x := A[k * 8 + 1]) (Array.getElem?_eq_getElem (by omega))
      obtain ⟨d2, f2⟩ := blk_cell HA2.out.1 (k * 8 + 2) (x := A[k * 8 + 2]) (Array.getElem?_eq_getElem (by omega))
      obtain ⟨d3, f3⟩ := blk_cell HA2.out.1 (k * 8 + 3) (x := A[k * 8 + 3]) (Array.getElem?_eq_getElem (by omega))
      obtain ⟨d4, f4⟩ := blk_cell HA2.out.1 (k * 8 + 4) (x := A[k * 8 + 4]) (Array.getElem?_eq_getElem (by omega))
      obtain ⟨d5, f5⟩ := blk_cell HA2.out.1 (k * 8 + 5) (x := A[k * 8 + 5]) (Array.getElem?_eq_getElem (by omega))
      obtain ⟨d6, f6⟩ := blk_cell HA2.out.1 (k * 8 + 6) (x := A[k * 8 + 6]) (Array.getElem?_eq_getElem (by omega))
      obtain ⟨d7, f7⟩ := blk_cell HA2.out.1 (k * 8 + 7) (x := A[k * 8 + 7]) (Array.getElem?_eq_getElem (by omega))
      go_wp2_with fail
      refine ⟨⟨k + 1, ((((((((A).setIfInBounds (k * 8) (.int .i64 x.id)).setIfInBounds (k * 8 + 1) (.int .i64 x.n)).setIfInBounds (k * 8 + 2) (.int .i64 x.vw)).setIfInBounds (k * 8 + 3) (.bool x.ac)).setIfInBounds (k * 8 + 4) (.slice q4a x.ss.length q4c)).setIfInBounds (k * 8 + 5) (.slice q5a x.cs.length q5c)).setIfInBounds (k * 8 + 6) (.slice q6a x.lg.length q6c)).setIfInBounds (k * 8 + 7) (.slice q7a x.ch.length q7c), by omega, by go_num, ⟨(blk_set (blk_set (blk_set (blk_set (blk_set (blk_set (blk_set (blk_set HA2.out.1 _ _) _ _) _ _) _ _) _ _) _ _) _ _) _ _), ?_, (Below.setCell (Below.setCell (Below.setCell (Below.setCell (Below.setCell (Below.setCell (Below.setCell (Below.setCell HA2.out.2.2 (p := ⟨w.heap.size, k * 8, none⟩) (Nat.le_refl _) (.int .i64 x.id)) (p := ⟨w.heap.size, k * 8 + 1, none⟩) (Nat.le_refl _) (.int .i64 x.n)) (p := ⟨w.heap.size, k * 8 + 2, none⟩) (Nat.le_refl _) (.int .i64 x.vw)) (p := ⟨w.heap.size, k * 8 + 3, none⟩) (Nat.le_refl _) (.bool x.ac)) (p := ⟨w.heap.size, k * 8 + 4, none⟩) (Nat.le_refl _) (.slice q4a x.ss.length q4c)) (p := ⟨w.heap.size, k * 8 + 5, none⟩) (Nat.le_refl _) (.slice q5a x.cs.length q5c)) (p := ⟨w.heap.size, k * 8 + 6, none⟩) (Nat.le_refl _) (.slice q6a x.lg.length q6c)) (p := ⟨w.heap.size, k * 8 + 7, none⟩) (Nat.le_refl _) (.slice q7a x.ch.length q7c))⟩⟩, by simp [intOf]; omega⟩
      exact (copR HA2.out.2.1 HX.out HQ.out).keep (((((((((Abv.refl _ _).set (Nat.lt_succ_self _) _).set (Nat.lt_succ_self _) _).set (Nat.lt_succ_self _) _).set (Nat.lt_succ_self _) _).set (Nat.lt_succ_self _) _).set (Nat.lt_succ_self _) _).set (Nat.lt_succ_self _) _).set (Nat.lt_succ_self _) _)
    · obtain rfl : k = xs.length := by omega
      go_wp2_with fail
      go_ret
      refine ⟨_, rfl, ⟨some ⟨w.heap.size, 0, none⟩, xs.length, rfl, .inr ⟨w.heap.size, 0, rfl, Nat.le_refl _, (Array.getElem?_eq_some_iff.1 HA.out.1).1, fun i x hi => ?_⟩⟩, HA.out.2.2⟩
      obtain ⟨u4, u5, u6, u7, e0, e1, e2, e3, e4, e5, e6, e7, e8⟩ := HA.out.2.1.2 i x (lt_at hi) hi
      rw [Nat.zero_add]
      exact ⟨Nat.le_refl _, u4, u5, u6, u7, (Joins.cell_of_block HA.out.1 _).trans e0, (Joins.cell_of_block HA.out.1 _).trans e1, (Joins.cell_of_block HA.out.1 _).trans e2, (Joins.cell_of_block HA.out.1 _).trans e3, (Joins.cell_of_block HA.out.1 _).trans e4, (Joins.cell_of_block HA.out.1 _).trans e5, (Joins.cell_of_block HA.out.1 _).trans e6, (Joins.cell_of_block HA.out.1 _).trans e7, e8.to (Abv.refl _ _) (by omega)⟩
set_option maxRecDepth 100000 in
set_option maxHeartbeats 1600000 in
theorem toGroup_any (g : Gp) (vf vr vw vs : Value) (w : World) (h : GrpR w g vf vr vw vs) (hz : Zq 1048576 g) :
    Calls Tryz.prog 9 #[gpV g vf vr vw vs] w fun e w' => ∃ uf ur uw us, e = .returned (gpV g uf ur uw us) ∧ GrpA w.heap.size w' g uf ur uw us ∧ Below w.heap.size w w' := by
  have HR : Hid (GrpR w g vf vr vw vs) := h
  have HZ : Hid (Zq 1048576 g) := hz
  clear h hz
  unfold gpV
  have HB : Hid (∀ o0 o1 o2, Below w.heap.size w (((w.alloc o0).alloc o1).alloc o2)) := fun o0 o1 o2 => (three (Below.refl _ _)).2.2.2.2
  have HS : Hid (∀ o0 o1 o2, (((w.alloc o0).alloc o1).alloc o2).heap.size = w.heap.size + 1 + 1 + 1) := fun o0 o1 o2 => by rw [Rg.size_new, Rg.size_new, Rg.size_new]
  go_enter Tryz.func9, Tryz.ntmps9
  go_wp2_with fail
  refine (toIntSN_any vf g.fa _ (HR.out.f.below (HB.out _ _ _)) HZ.out.f).mono ?_
  rintro e w1 ⟨v1, rfl, hr, b1⟩
  obtain ⟨a1, c1, rfl⟩ := RowG.slice hr
  obtain ⟨k0, k1, k2, kS, kB⟩ := three b1
  rw [HS.out] at hr
  have K0 : Hid (w1.heap[w.heap.size]? = some (.cells #[.int .i64 g.n, vf, vr, vw, vs] 27 (0, 0))) := k0
  have K1 : Hid (w1.heap[w.heap.size + 1]? = some (.cells #[.int .i64 0, .slice none 0 0, .slice none 0 0, .slice none 0 0, .slice none 0 0] 34 (0, 0))) := k1
  have K2 : Hid (w1.heap[w.heap.size + 1 + 1]? = some (.cells #[.int .i64 g.n, .slice none 0 0, .slice none 0 0, .slice none 0 0, .slice none 0 0] 34 (0, 0))) := k2
  have KB : Hid (Below w.heap.size w w1) := kB
  have KZ : Hid (w.heap.size + 1 + 1 + 1 ≤ w1.heap.size) := kS
  have R1 : Hid (RowNA (w.heap.size + 1 + 1 + 1) w1 (.slice a1 g.fa.length c1) g.fa) := hr
  clear hr b1 k0 k1 k2 kS kB HB HS
  obtain ⟨s0, t0⟩ := blk_cell K2.out 1 (x := .slice none 0 0) rfl
  have L0 : Hid ((w1.setCell ⟨w.heap.size + 1 + 1, 1, none⟩ (.slice a1 g.fa.length c1)).heap[w.heap.size]? = some (.cells #[.int .i64 g.n, vf, vr, vw, vs] 27 (0, 0))) := (blk_far (by omega) 1 (.slice a1 g.fa.length c1)).trans K0.out
  have L1 : Hid ((w1.setCell ⟨w.heap.size + 1 + 1, 1, none⟩ (.slice a1 g.fa.length c1)).heap[w.heap.size + 1]? = some (.cells #[.int .i64 0, .slice none 0 0, .slice none 0 0, .slice none 0 0, .slice none 0 0] 34 (0, 0))) := (blk_far (by omega) 1 (.slice a1 g.fa.length c1)).trans K1.out
  have L2 : Hid ((w1.setCell ⟨w.heap.size + 1 + 1, 1, none⟩ (.slice a1 g.fa.length c1)).heap[w.heap.size + 1 + 1]? = some (.cells #[.int .i64 g.n, .slice a1 g.fa.length c1, .slice none 0 0, .slice none 0 0, .slice none 0 0] 34 (0, 0))) := blk_set K2.out 1 (.slice a1 g.fa.length c1)
  have LB : Hid (Below w.heap.size w (w1.setCell ⟨w.heap.size + 1 + 1, 1, none⟩ (.slice a1 g.fa.length c1))) := Below.setCell KB.out (p := ⟨w.heap.size + 1 + 1, 1, none⟩) (by show _ ≤ w.heap.size + 1 + 1; omega) (.slice a1 g.fa.length c1)
  have LZ : Hid (w.heap.size + 1 + 1 + 1 ≤ (w1.setCell ⟨w.heap.size + 1 + 1, 1, none⟩ (.slice a1 g.fa.length c1)).heap.size) := by show _ ≤ _; have := KZ.out; simpa using this
  have T1 : Hid (RowNA (w.heap.size + 1 + 1 + 1) (w1.setCell ⟨w.heap.size + 1 + 1, 1, none⟩ (.slice a1 g.fa.length c1)) (.slice a1 g.fa.length c1) g.fa) := RowNA.keep R1.out ((Abv.refl _ _).set (by omega) _)
  clear K0 K1 K2 KB KZ R1
  go_upto_region 4 with fail
  generalize (w1.setCell ⟨w.heap.size + 1 + 1, 1, none⟩ (.slice a1 g.fa.length c1)) = w2 at L0 L1 L2 LB LZ T1 ⊢
  clear s0 t0
  have K0 := L0
  have K1 := L1
  have K2 := L2
  have KB := LB
  have KZ := LZ
  clear L0 L1 L2 LB LZ
  have R1 := T1
  clear T1
  have x2 := (blk_cell K0.out 2 (x := vr) rfl).1
  go_wp2_with fail
  refine (toReplicaS_any vr g.rs w2 (HR.out.r.below KB.out) HZ.out.r HZ.out.rz).mono ?_
  rintro e w3 ⟨v2, rfl, hr, bn⟩
  obtain ⟨a2, c2, rfl⟩ := RowG.slice hr
  have R2 : Hid (RowRA (w.heap.size + 1 + 1 + 1) w3 (.slice a2 g.rs.length c2) g.rs) := RowRA.to hr (Abv.refl _ _) KZ.out
  have T1 : Hid (RowNA (w.heap.size + 1 + 1 + 1) w3 (.slice a1 g.fa.length c1) g.fa) := RowNA.keep R1.out (Abv.of bn)
  clear R1
  have R1 := T1
  clear T1
  have L0 : Hid (w3.heap[w.heap.size]? = some (.cells #[.int .i64 g.n, vf, vr, vw, vs] 27 (0, 0))) := (bn.block _ (by have := KZ.out; omega)).trans K0.out
  have L1 : Hid (w3.heap[w.heap.size + 1]? = some (.cells #[.int .i64 0, .slice none 0 0, .slice none 0 0, .slice none 0 0, .slice none 0 0] 34 (0, 0))) := (bn.block _ (by have := KZ.out; omega)).trans K1.out
  have L2 : Hid (w3.heap[w.heap.size + 1 + 1]? = some (.cells #[.int .i64 g.n, .slice a1 g.fa.length c1, .slice none 0 0, .slice none 0 0, .slice none 0 0] 34 (0, 0))) := (bn.block _ (by have := KZ.out; omega)).trans K2.out
  have LB : Hid (Below w.heap.size w w3) := KB.out.trans (bn.mono KB.out.size)
  have LZ : Hid (w.heap.size + 1 + 1 + 1 ≤ w3.heap.size) := Nat.le_trans KZ.out bn.size
  clear hr bn K0 K1 K2 KB KZ x2
  have K0 := L0
  have K1 := L1
  have K2 := L2
  have KB := LB
  have KZ := LZ
  clear L0 L1 L2 LB LZ
  obtain ⟨s0, t0⟩ := blk_cell K2.out 2 (x := .slice none 0 0) rfl
  have L0 : Hid ((w3.setCell ⟨w.heap.size + 1 + 1, 2, none⟩ (.slice a2 g.rs.length c2)).heap[w.heap.size]? = some (.cells #[.int .i64 g.n, vf, vr, vw, vs] 27 (0, 0))) := (blk_far (by omega) 2 (.slice a2 g.rs.length c2)).trans K0.out
  have L1 : Hid ((w3.setCell ⟨w.heap.size + 1 + 1, 2, none⟩ (.slice a2 g.rs.length c2)).heap[w.heap.size + 1]? = some (.cells #[.int .i64 0, .slice none 0 0, .slice none 0 0, .slice none 0 0, .slice none 0 0] 34 (0, 0))) := (blk_far (by omega) 2 (.slice a2 g.rs.length c2)).trans K1.out
  have L2 : Hid ((w3.setCell ⟨w.heap.size + 1 + 1, 2, none⟩ (.slice a2 g.rs.length c2)).heap[w.heap.size + 1 + 1]? = some (.cells #[.int .i64 g.n, .slice a1 g.fa.length c1, .slice a2 g.rs.length c2, .slice none 0 0, .slice none 0 0] 34 (0, 0))) := blk_set K2.out 2 (.slice a2 g.rs.length c2)
  have LB : Hid (Below w.heap.size w (w3.setCell ⟨w.heap.size + 1 + 1, 2, none⟩ (.slice a2 g.rs.length c2))) := Below.setCell KB.out (p := ⟨w.heap.size + 1 + 1, 2, none⟩) (by show _ ≤ w.heap.size + 1 + 1; omega) (.slice a2 g.rs.length c2)
  have LZ : Hid (w.heap.size + 1 + 1 + 1 ≤ (w3.setCell ⟨w.heap.size + 1 + 1, 2, none⟩ (.slice a2 g.rs.length c2)).heap.size) := by show _ ≤ _; have := KZ.out; simpa using this
  have T1 : Hid (RowNA (w.heap.size + 1 + 1 + 1) (w3.setCell ⟨w.heap.size + 1 + 1, 2, none⟩ (.slice a2 g.rs.length c2)) (.slice a1 g.fa.length c1) g.fa) := RowNA.keep R1.out ((Abv.refl _ _).set (by omega) _)
  have T2 : Hid (RowRA (w.heap.size + 1 + 1 + 1) (w3.setCell ⟨w.heap.size + 1 + 1, 2, none⟩ (.slice a2 g.rs.length c2)) (.slice a2 g.rs.length c2) g.rs) := RowRA.keep R2.out ((Abv.refl _ _).set (by omega) _)
  clear K0 K1 K2 KB KZ R1 R2
  go_upto_region 5 with fail
  generalize (w3.setCell ⟨w.heap.size + 1 + 1, 2, none⟩ (.slice a2 g.rs.length c2)) = w4 at L0 L1 L2 LB LZ T1 T2 ⊢
  clear s0 t0
  have K0 := L0
  have K1 := L1
  have K2 := L2
  have KB := LB
  have KZ := LZ
  clear L0 L1 L2 LB LZ
  have R1 := T1
  clear T1
  have R2 := T2
  clear T2
  have x3 := (blk_cell K0.out 3 (x := vw) rfl).1
  go_wp2_with fail
  refine (toParcelSN_any vw g.wi w4 (HR.out.p.below KB.out) HZ.out.p).mono ?_
  rintro e w5 ⟨v3, rfl, hr, bn⟩
  obtain ⟨a3, c3, rfl⟩ := RowG.slice hr
  have R3 : Hid (RowPA (w.heap.size + 1 + 1 + 1) w5 (.slice a3 g.wi.length c3) g.wi) := RowPA.to hr (Abv.refl _ _) KZ.out
  have T1 : Hid (RowNA (w.heap.size + 1 + 1 + 1) w5 (.slice a1 g.fa.length c1) g.fa) := RowNA.keep R1.out (Abv.of bn)
  clear R1
  have R1 := T1
  clear T1
  have T2 : Hid (RowRA (w.heap.size + 1 + 1 + 1) w5 (.slice a2 g.rs.length c2) g.rs) := RowRA.keep R2.out (Abv.of bn)
  clear R2
  have R2 := T2
  clear T2
  have L0 : Hid (w5.heap[w.heap.size]? = some (.cells #[.int .i64 g.n, vf, vr, vw, vs] 27 (0, 0))) := (bn.block _ (by have := KZ.out; omega)).trans K0.out
  have L1 : Hid (w5.heap[w.heap.size + 1]? = some (.cells #[.int .i64 0, .slice none 0 0, .slice none 0 0, .slice none 0 0, .slice none 0 0] 34 (0, 0))) := (bn.block _ (by have := KZ.out; omega)).trans K1.out
  have L2 : Hid (w5.heap[w.heap.size + 1 + 1]? = some (.cells #[.int .i64 g.n, .slice a1 g.fa.length c1, .slice a2 g.rs.length c2, .slice none 0 0, .slice none 0 0] 34 (0, 0))) := (bn.block _ (by have := KZ.out; omega)).trans K2.out
  have LB : Hid (Below w.heap.size w w5) := KB.out.trans (bn.mono KB.out.size)
  have LZ : Hid (w.heap.size + 1 + 1 + 1 ≤ w5.heap.size) := Nat.le_trans KZ.out bn.size
  clear hr bn K0 K1 K2 KB KZ x3
  have K0 := L0
  have K1 := L1
  have K2 := L2
  have KB := LB
  have KZ := LZ
  clear L0 L1 L2 LB LZ
  obtain ⟨s0, t0⟩ := blk_cell K2.out 3 (x := .slice none 0 0) rfl
  have L0 : Hid ((w5.setCell ⟨w.heap.size + 1 + 1, 3, none⟩ (.slice a3 g.wi.length c3)).heap[w.heap.size]? = some (.cells #[.int .i64 g.n, vf, vr, vw, vs] 27 (0, 0))) := (blk_far (by omega) 3 (.slice a3 g.wi.length c3)).trans K0.out
  have L1 : Hid ((w5.setCell ⟨w.heap.size + 1 + 1, 3, none⟩ (.slice a3 g.wi.length c3)).heap[w.heap.size + 1]? = some (.cells #[.int .i64 0, .slice none 0 0, .slice none 0 0, .slice none 0 0, .slice none 0 0] 34 (0, 0))) := (blk_far (by omega) 3 (.slice a3 g.wi.length c3)).trans K1.out
  have L2 : Hid ((w5.setCell ⟨w.heap.size + 1 + 1, 3, none⟩ (.slice a3 g.wi.length c3)).heap[w.heap.size + 1 + 1]? = some (.cells #[.int .i64 g.n, .slice a1 g.fa.length c1, .slice a2 g.rs.length c2, .slice a3 g.wi.length c3, .slice none 0 0] 34 (0, 0))) := blk_set K2.out 3 (.slice a3 g.wi.length c3)
  have LB : Hid (Below w.heap.size w (w5.setCell ⟨w.heap.size + 1 + 1, 3, none⟩ (.slice a3 g.wi.length c3))) := Below.setCell KB.out (p := ⟨w.heap.size + 1 + 1, 3, none⟩) (by show _ ≤ w.heap.size + 1 + 1; omega) (.slice a3 g.wi.length c3)
  have LZ : Hid (w.heap.size + 1 + 1 + 1 ≤ (w5.setCell ⟨w.heap.size + 1 + 1, 3, none⟩ (.slice a3 g.wi.length c3)).heap.size) := by show _ ≤ _; have := KZ.out; simpa using this
  have T1 : Hid (RowNA (w.heap.size + 1 + 1 + 1) (w5.setCell ⟨w.heap.size + 1 + 1, 3, none⟩ (.slice a3 g.wi.length c3)) (.slice a1 g.fa.length c1) g.fa) := RowNA.keep R1.out ((Abv.refl _ _).set (by omega) _)
  have T2 : Hid (RowRA (w.heap.size + 1 + 1 + 1) (w5.setCell ⟨w.heap.size + 1 + 1, 3, none⟩ (.slice a3 g.wi.length c3)) (.slice a2 g.rs.length c2) g.rs) := RowRA.keep R2.out ((Abv.refl _ _).set (by omega) _)
  have T3 : Hid (RowPA (w.heap.size + 1 + 1 + 1) (w5.setCell ⟨w.heap.size + 1 + 1, 3, none⟩ (.slice a3 g.wi.length c3)) (.slice a3 g.wi.length c3) g.wi) := RowPA.keep R3.out ((Abv.refl _ _).set (by omega) _)
  clear K0 K1 K2 KB KZ R1 R2 R3
  go_upto_region 6 with fail
  generalize (w5.setCell ⟨w.heap.size + 1 + 1, 3, none⟩ (.slice a3 g.wi.length c3)) = w6 at L0 L1 L2 LB LZ T1 T2 T3 ⊢
  clear s0 t0
  have K0 := L0
  have K1 := L1
  have K2 := L2
  have KB := LB
  have KZ := LZ
  clear L0 L1 L2 LB LZ
  have R1 := T1
  clear T1
  have R2 := T2
  clear T2
  have R3 := T3
  clear T3
  have x4 := (blk_cell K0.out 4 (x := vs) rfl).1
  go_wp2_with fail
  refine (toM_any vs g.se w6 (HR.out.s.below KB.out) HZ.out.s).mono ?_
  rintro e w7 ⟨v4, rfl, hr, bn⟩
  obtain ⟨a4, c4, rfl⟩ := RowG.slice hr
  have R4 : Hid (RowA (w.heap.size + 1 + 1 + 1) w7 (.slice a4 g.se.length c4) g.se) := RowA.to hr (Abv.refl _ _) KZ.out
  have T1 : Hid (RowNA (w.heap.size + 1 + 1 + 1) w7 (.slice a1 g.fa.length c1) g.fa) := RowNA.keep R1.out (Abv.of bn)
  clear R1
  have R1 := T1
  clear T1
  have T2 : Hid (RowRA (w.heap.size + 1 + 1 + 1) w7 (.slice a2 g.rs.length c2) g.rs) := RowRA.keep R2.out (Abv.of bn)
  clear R2
  have R2 := T2
  clear T2
  have T3 : Hid (RowPA (w.heap.size + 1 + 1 + 1) w7 (.slice a3 g.wi.length c3) g.wi) := RowPA.keep R3.out (Abv.of bn)
  clear R3
  have R3 := T3
  clear T3
  have L0 : Hid (w7.heap[w.heap.size]? = some (.cells #[.int .i64 g.n, vf, vr, vw, vs] 27 (0, 0))) := (bn.block _ (by have := KZ.out; omega)).trans K0.out
  have L1 : Hid (w7.heap[w.heap.size + 1]? = some (.cells #[.int .i64 0, .slice none 0 0, .slice none 0 0, .slice none 0 0, .slice none 0 0] 34 (0, 0))) := (bn.block _ (by have := KZ.out; omega)).trans K1.out
  have L2 : Hid (w7.heap[w.heap.size + 1 + 1]? = some (.cells #[.int .i64 g.n, .slice a1 g.fa.length c1, .slice a2 g.rs.length c2, .slice a3 g.wi.length c3, .slice none 0 0] 34 (0, 0))) := (bn.block _ (by have := KZ.out; omega)).trans K2.out
  have LB : Hid (Below w.heap.size w w7) := KB.out.trans (bn.mono KB.out.size)
  have LZ : Hid (w.heap.size + 1 + 1 + 1 ≤ w7.heap.size) := Nat.le_trans KZ.out bn.size
  clear hr bn K0 K1 K2 KB KZ x4
  have K0 := L0
  have K1 := L1
  have K2 := L2
  have KB := LB
  have KZ := LZ
  clear L0 L1 L2 LB LZ
  obtain ⟨s0, t0⟩ := blk_cell K2.out 4 (x := .slice none 0 0) rfl
  have L0 : Hid ((w7.setCell ⟨w.heap.size + 1 + 1, 4, none⟩ (.slice a4 g.se.length c4)).heap[w.heap.size]? = some (.cells #[.int .i64 g.n, vf, vr, vw, vs] 27 (0, 0))) := (blk_far (by omega) 4 (.slice a4 g.se.length c4)).trans K0.out
  have L1 : Hid ((w7.setCell ⟨w.heap.size + 1 + 1, 4, none⟩ (.slice a4 g.se.length c4)).heap[w.heap.size + 1]? = some (.cells #[.int .i64 0, .slice none 0 0, .slice none 0 0, .slice none 0 0, .slice none 0 0] 34 (0, 0))) := (blk_far (by omega) 4 (.slice a4 g.se.length c4)).trans K1.out
  have L2 : Hid ((w7.setCell ⟨w.heap.size + 1 + 1, 4, none⟩ (.slice a4 g.se.length c4)).heap[w.heap.size + 1 + 1]? = some (.cells #[.int .i64 g.n, .slice a1 g.fa.length c1, .slice a2 g.rs.length c2, .slice a3 g.wi.length c3, .slice a4 g.se.length c4] 34 (0, 0))) := blk_set K2.out 4 (.slice a4 g.se.length c4)
  have LB : Hid (Below w.heap.size w (w7.setCell ⟨w.heap.size + 1 + 1, 4, none⟩ (.slice a4 g.se.length c4))) := Below.setCell KB.out (p := ⟨w.heap.size + 1 + 1, 4, none⟩) (by show _ ≤ w.heap.size + 1 + 1; omega) (.slice a4 g.se.length c4)
  have LZ : Hid (w.heap.size + 1 + 1 + 1 ≤ (w7.setCell ⟨w.heap.size + 1 + 1, 4, none⟩ (.slice a4 g.se.length c4)).heap.size) := by show _ ≤ _; have := KZ.out; simpa using this
  have T1 : Hid (RowNA (w.heap.size + 1 + 1 + 1) (w7.setCell ⟨w.heap.size + 1 + 1, 4, none⟩ (.slice a4 g.se.length c4)) (.slice a1 g.fa.length c1) g.fa) := RowNA.keep R1.out ((Abv.refl _ _).set (by omega) _)
  have T2 : Hid (RowRA (w.heap.size + 1 + 1 + 1) (w7.setCell ⟨w.heap.size + 1 + 1, 4, none⟩ (.slice a4 g.se.length c4)) (.slice a2 g.rs.length c2) g.rs) := RowRA.keep R2.out ((Abv.refl _ _).set (by omega) _)
  have T3 : Hid (RowPA (w.heap.size + 1 + 1 + 1) (w7.setCell ⟨w.heap.size + 1 + 1, 4, none⟩ (.slice a4 g.se.length c4)) (.slice a3 g.wi.length c3) g.wi) := RowPA.keep R3.out ((Abv.refl _ _).set (by omega) _)
  have T4 : Hid (RowA (w.heap.size + 1 + 1 + 1) (w7.setCell ⟨w.heap.size + 1 + 1, 4, none⟩ (.slice a4 g.se.length c4)) (.slice a4 g.se.length c4) g.se) := RowA.keep R4.out ((Abv.refl _ _).set (by omega) _)
  clear K0 K1 K2 KB KZ R1 R2 R3 R4
  go_upto_region 7 with fail
  generalize (w7.setCell ⟨w.heap.size + 1 + 1, 4, none⟩ (.slice a4 g.se.length c4)) = w8 at L0 L1 L2 LB LZ T1 T2 T3 T4 ⊢
  clear s0 t0
  have K0 := L0
  have K1 := L1
  have K2 := L2
  have KB := LB
  have KZ := LZ
  clear L0 L1 L2 LB LZ
  have R1 := T1
  clear T1
  have R2 := T2
  clear T2
  have R3 := T3
  clear T3
  have R4 := T4
  clear T4
  have p0 := (blk_cell K2.out 0 (x := .int .i64 g.n) rfl).1
  have p1 := (blk_cell K2.out 1 (x := .slice a1 g.fa.length c1) rfl).1
  have p2 := (blk_cell K2.out 2 (x := .slice a2 g.rs.length c2) rfl).1
  have p3 := (blk_cell K2.out 3 (x := .slice a3 g.wi.length c3) rfl).1
  have p4 := (blk_cell K2.out 4 (x := .slice a4 g.se.length c4) rfl).1
  obtain ⟨m0, n0⟩ := blk_cell K1.out 0 (x := .int .i64 0) rfl
  obtain ⟨m1, n1⟩ := blk_cell K1.out 1 (x := .slice none 0 0) rfl
  obtain ⟨m2, n2⟩ := blk_cell K1.out 2 (x := .slice none 0 0) rfl
  obtain ⟨m3, n3⟩ := blk_cell K1.out 3 (x := .slice none 0 0) rfl
  obtain ⟨m4, n4⟩ := blk_cell K1.out 4 (x := .slice none 0 0) rfl
  have AF : (((((w8.setCell ⟨w.heap.size + 1, 0, none⟩ (.int .i64 g.n)).setCell ⟨w.heap.size + 1, 1, none⟩ (.slice a1 g.fa.length c1)).setCell ⟨w.heap.size + 1, 2, none⟩ (.slice a2 g.rs.length c2)).setCell ⟨w.heap.size + 1, 3, none⟩ (.slice a3 g.wi.length c3)).setCell ⟨w.heap.size + 1, 4, none⟩ (.slice a4 g.se.length c4)).heap[w.heap.size + 1]? = some (.cells #[.int .i64 g.n, .slice a1 g.fa.length c1, .slice a2 g.rs.length c2, .slice a3 g.wi.length c3, .slice a4 g.se.length c4] 34 (0, 0)) := (blk_set (blk_set (blk_set (blk_set (blk_set K1.out 0 (.int .i64 g.n)) 1 (.slice a1 g.fa.length c1)) 2 (.slice a2 g.rs.length c2)) 3 (.slice a3 g.wi.length c3)) 4 (.slice a4 g.se.length c4))
  have T1 : Hid (RowNA (w.heap.size + 1 + 1 + 1) (((((w8.setCell ⟨w.heap.size + 1, 0, none⟩ (.int .i64 g.n)).setCell ⟨w.heap.size + 1, 1, none⟩ (.slice a1 g.fa.length c1)).setCell ⟨w.heap.size + 1, 2, none⟩ (.slice a2 g.rs.length c2)).setCell ⟨w.heap.size + 1, 3, none⟩ (.slice a3 g.wi.length c3)).setCell ⟨w.heap.size + 1, 4, none⟩ (.slice a4 g.se.length c4)) (.slice a1 g.fa.length c1) g.fa) := RowNA.keep R1.out ((((((Abv.refl _ _).set (by omega) _).set (by omega) _).set (by omega) _).set (by omega) _).set (by omega) _)
  have T2 : Hid (RowRA (w.heap.size + 1 + 1 + 1) (((((w8.setCell ⟨w.heap.size + 1, 0, none⟩ (.int .i64 g.n)).setCell ⟨w.heap.size + 1, 1, none⟩ (.slice a1 g.fa.length c1)).setCell ⟨w.heap.size + 1, 2, none⟩ (.slice a2 g.rs.length c2)).setCell ⟨w.heap.size + 1, 3, none⟩ (.slice a3 g.wi.length c3)).setCell ⟨w.heap.size + 1, 4, none⟩ (.slice a4 g.se.length c4)) (.slice a2 g.rs.length c2) g.rs) := RowRA.keep R2.out ((((((Abv.refl _ _).set (by omega) _).set (by omega) _).set (by omega) _).set (by omega) _).set (by omega) _)
  have T3 : Hid (RowPA (w.heap.size + 1 + 1 + 1) (((((w8.setCell ⟨w.heap.size + 1, 0, none⟩ (.int .i64 g.n)).setCell ⟨w.heap.size + 1, 1, none⟩ (.slice a1 g.fa.length c1)).setCell ⟨w.heap.size + 1, 2, none⟩ (.slice a2 g.rs.length c2)).setCell ⟨w.heap.size + 1, 3, none⟩ (.slice a3 g.wi.length c3)).setCell ⟨w.heap.size + 1, 4, none⟩ (.slice a4 g.se.length c4)) (.slice a3 g.wi.length c3) g.wi) := RowPA.keep R3.out ((((((Abv.refl _ _).set (by omega) _).set (by omega) _).set (by omega) _).set (by omega) _).set (by omega) _)
  have T4 : Hid (RowA (w.heap.size + 1 + 1 + 1) (((((w8.setCell ⟨w.heap.size + 1, 0, none⟩ (.int .i64 g.n)).setCell ⟨w.heap.size + 1, 1, none⟩ (.slice a1 g.fa.length c1)).setCell ⟨w.heap.size + 1, 2, none⟩ (.slice a2 g.rs.length c2)).setCell ⟨w.heap.size + 1, 3, none⟩ (.slice a3 g.wi.length c3)).setCell ⟨w.heap.size + 1, 4, none⟩ (.slice a4 g.se.length c4)) (.slice a4 g.se.length c4) g.se) := RowA.keep R4.out ((((((Abv.refl _ _).set (by omega) _).set (by omega) _).set (by omega) _).set (by omega) _).set (by omega) _)
  have GF : Hid (Below w.heap.size w (((((w8.setCell ⟨w.heap.size + 1, 0, none⟩ (.int .i64 g.n)).setCell ⟨w.heap.size + 1, 1, none⟩ (.slice a1 g.fa.length c1)).setCell ⟨w.heap.size + 1, 2, none⟩ (.slice a2 g.rs.length c2)).setCell ⟨w.heap.size + 1, 3, none⟩ (.slice a3 g.wi.length c3)).setCell ⟨w.heap.size + 1, 4, none⟩ (.slice a4 g.se.length c4))) := (Below.setCell (Below.setCell (Below.setCell (Below.setCell (Below.setCell KB.out (p := ⟨w.heap.size + 1, 0, none⟩) (by show _ ≤ w.heap.size + 1; omega) (.int .i64 g.n)) (p := ⟨w.heap.size + 1, 1, none⟩) (by show _ ≤ w.heap.size + 1; omega) (.slice a1 g.fa.length c1)) (p := ⟨w.heap.size + 1, 2, none⟩) (by show _ ≤ w.heap.size + 1; omega) (.slice a2 g.rs.length c2)) (p := ⟨w.heap.size + 1, 3, none⟩) (by show _ ≤ w.heap.size + 1; omega) (.slice a3 g.wi.length c3)) (p := ⟨w.heap.size + 1, 4, none⟩) (by show _ ≤ w.heap.size + 1; omega) (.slice a4 g.se.length c4))
  clear K0 K1 K2 KB KZ R1 R2 R3 R4
  go_wp2_with fail
  generalize (((((w8.setCell ⟨w.heap.size + 1, 0, none⟩ (.int .i64 g.n)).setCell ⟨w.heap.size + 1, 1, none⟩ (.slice a1 g.fa.length c1)).setCell ⟨w.heap.size + 1, 2, none⟩ (.slice a2 g.rs.length c2)).setCell ⟨w.heap.size + 1, 3, none⟩ (.slice a3 g.wi.length c3)).setCell ⟨w.heap.size + 1, 4, none⟩ (.slice a4 g.se.length c4)) = wf at AF GF T1 T2 T3 T4 ⊢
  have d0 := (blk_cell AF 0 (x := .int .i64 g.n) rfl).1
  have d1 := (blk_cell AF 1 (x := .slice a1 g.fa.length c1) rfl).1
  have d2 := (blk_cell AF 2 (x := .slice a2 g.rs.length c2) rfl).1
  have d3 := (blk_cell AF 3 (x := .slice a3 g.wi.length c3) rfl).1
  have d4 := (blk_cell AF 4 (x := .slice a4 g.se.length c4) rfl).1
  exact bodyPost_ret (v := gpV g (.slice a1 g.fa.length c1) (.slice a2 g.rs.length c2) (.slice a3 g.wi.length c3) (.slice a4 g.se.length c4)) (by simp [gpV, results, Tryz.results9, go_sem, d0, d1, d2, d3, d4]) rfl ⟨_, _, _, _, rfl, ⟨RowNA.to T1.out (Abv.refl _ _) (by omega), RowRA.to T2.out (Abv.refl _ _) (by omega), RowPA.to T3.out (Abv.refl _ _) (by omega), RowA.to T4.out (Abv.refl _ _) (by omega)⟩, GF.out⟩
end Go.Proofs.YtondmbeccpekiaaGreatDoor.Zg
