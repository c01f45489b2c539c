/- Texts put together: Zd, HashLaid. -/
import Derived.Test.YtondmbeccpekiaaGreatDoorH7
import Derived.Test.YtondmbeccpekiaaGreatDoorH38
import Derived.Test.YtondmbeccpekiaaGreatDoorH11
import Derived.Test.YtondmbeccpekiaaGreatDoorCards
import Derived.Test.YtondmbeccpekiaaGreatDoorTie
import Derived.ProofKit
import Derived.LaidMore
import Derived.OpenShut
import Derived.OpenVars
import Derived.Stop.Joined
import Derived.ShutString
import Derived.Lib.LaidTab
/- Groups that hold the same are alike. -/
namespace Go.Proofs.YtondmbeccpekiaaGreatDoor.Zg
open Go.RowKit Go.Proofs.YtondmbeccpekiaaGreatDoor.Rg Go.Proofs.YtondmbeccpekiaaGreatDoor.Gm Go.Proofs.YtondmbeccpekiaaGreatDoor.Ty Go.Proofs.YtondmbeccpekiaaGreatDoor.Yr
set_option maxRecDepth 100000 in
set_option maxHeartbeats 1600000 in
theorem eqParcel_same (x : Pc) (w : World) :
    Calls Tryz.prog 80 #[pcV x, pcV x] w fun e w' => e = .returned (.bool true) ∧ Below w.heap.size w w' := by
  have HC := eq1_same x.m ((w.alloc (.cells #[.int .i64 x.t, .int .i64 x.m.kd, .int .i64 x.m.vw, .int .i64 x.m.sq, .int .i64 x.m.fr, .string x.m.dg, .string x.m.bd, .string x.m.mc] 61)).alloc (.cells #[.int .i64 x.t, .int .i64 x.m.kd, .int .i64 x.m.vw, .int .i64 x.m.sq, .int .i64 x.m.fr, .string x.m.dg, .string x.m.bd, .string x.m.mc] 61))
  have HB1 : Hid (Below w.heap.size w ((w.alloc (.cells #[.int .i64 x.t, .int .i64 x.m.kd, .int .i64 x.m.vw, .int .i64 x.m.sq, .int .i64 x.m.fr, .string x.m.dg, .string x.m.bd, .string x.m.mc] 61)).alloc (.cells #[.int .i64 x.t, .int .i64 x.m.kd, .int .i64 x.m.vw, .int .i64 x.m.sq, .int .i64 x.m.fr, .string x.m.dg, .string x.m.bd, .string x.m.mc] 61))) := two_new _ _ _
  unfold oneV at HC
  unfold pcV
  have q0 : (x.t != x.t) = false := by simp
  go_enter Tryz.func80, Tryz.ntmps80
  go_wp2_with fail
  refine HC.mono ?_
  rintro e w2 ⟨rfl, b2⟩
  have HB2 : Hid (Below w.heap.size w w2) := HB1.out.trans (b2.mono HB1.out.size)
  clear b2 HC
  go_wp2_with fail
  go_ret
  exact ⟨rfl, HB2.out⟩
set_option maxRecDepth 100000 in
set_option maxHeartbeats 1600000 in
theorem eqParcelS_same (v u0 : Value) (xs : List Pc) (w : World) (h : RowP w v xs) (g : RowP w u0 xs) (hl : xs.length ≤ 1048576) :
    Calls Tryz.prog 45 #[v, u0] w fun e w' => e = .returned (.bool true) ∧ Below w.heap.size w w' := by
  have HR : Hid (RowP w v xs) := h
  have HG : Hid (RowP w u0 xs) := g
  obtain ⟨a, cap, rfl⟩ := RowG.slice h
  obtain ⟨a', cap', rfl⟩ := RowG.slice g
  clear h g
  have hne : ((xs.length : Int) != (xs.length : Int)) = false := by simp
  go_enter Tryz.func45, Tryz.ntmps45
  go_wp2_with fail
  go_loopw [5] (fun i wr => ∃ k : Nat, k ≤ xs.length ∧ i = .int .i64 k ∧ Hid (Below w.heap.size w wr)) (fun i _ => xs.length - (intOf i).toNat)
  case atStart => exact ⟨0, by omega, rfl, Below.refl _ _⟩
  case round =>
    obtain ⟨k, hk, rfl, HB⟩ := hrel
    by_cases hlt : k < xs.length
    · obtain ⟨x, hx⟩ := Rg.get_at hlt
      obtain ⟨b, off, rfl, hb, c0, c1, c2, c3, c4, c5, c6, c7⟩ := RowG.at (HR.out.below HB.out) rfl hx
      obtain ⟨b', off', rfl, hb', d0, d1, d2, d3, d4, d5, d6, d7⟩ := RowG.at (HG.out.below HB.out) rfl hx
      have HX : Hid (∀ W, Below wr.heap.size wr W → Calls Tryz.prog 80 #[.agg #[.int .i64 x.t, .int .i64 x.m.kd, .int .i64 x.m.vw, .int .i64 x.m.sq, .int .i64 x.m.fr, .string x.m.dg, .string x.m.bd, .string x.m.mc], .agg #[.int .i64 x.t, .int .i64 x.m.kd, .int .i64 x.m.vw, .int .i64 x.m.sq, .int .i64 x.m.fr, .string x.m.dg, .string x.m.bd, .string x.m.mc]] W fun e w' => e = .returned (.bool true) ∧ Below W.heap.size W w') := fun W _ => eqParcel_same x W
      clear hx
      have hp0 : (0 : Int) ≤ (k : Int) := by omega
      have hp1 : (k : Int) < (xs.length : Int) := by omega
      go_upto_region 6 with fail
      obtain ⟨X, hX, W, QI0, QO0⟩ := Qc.klass wr
      have QI : Hid (∀ w', Below wr.heap.size wr w' → ∃ x, w' = W x) := QI0
      have QO : Hid (∀ x, Below wr.heap.size wr (W x)) := QO0
      clear QI0 QO0
      have y0 := Qc.cell_all QO.out c0
      have z0 := Qc.cell_all QO.out d0
      have y1 := Qc.cell_all QO.out c1
      have z1 := Qc.cell_all QO.out d1
      have y2 := Qc.cell_all QO.out c2
      have z2 := Qc.cell_all QO.out d2
      have y3 := Qc.cell_all QO.out c3
      have z3 := Qc.cell_all QO.out d3
      have y4 := Qc.cell_all QO.out c4
      have z4 := Qc.cell_all QO.out d4
      have y5 := Qc.cell_all QO.out c5
      have z5 := Qc.cell_all QO.out d5
      have y6 := Qc.cell_all QO.out c6
      have z6 := Qc.cell_all QO.out d6
      have y7 := Qc.cell_all QO.out c7
      have z7 := Qc.cell_all QO.out d7
      refine Qc.region_class (W := W) (by kernel_rfl) (by kernel_rfl) (QI.out _ Qc.from_drew) ?_
      repeat (go_big_quiet_step (first | (go_at_call 80; refine (HX.out _ (QO.out _)).mono ?_; rintro e w2 ⟨rfl, b2⟩; exact ⟨rfl, Qc.back QI.out QO.out b2⟩)))
      refine wpQuiet_nil ?_
      rintro _ ⟨xq, rfl⟩
      have G2 : Hid (Below w.heap.size w (W xq)) := HB.out.trans ((QO.out xq).mono HB.out.size)
      generalize W xq = wq at G2 ⊢
      go_wp2_with fail
      exact ⟨⟨k + 1, by omega, by go_num, G2⟩, by simp [intOf]; omega⟩
    · go_wp2_with fail
      go_ret
      exact ⟨rfl, HB.out⟩
set_option maxRecDepth 100000 in
set_option maxHeartbeats 1600000 in
theorem eqReplicaS_same (v u0 : Value) (xs : List Rp) (w : World) (h : RowR w v xs) (g : RowR w u0 xs) (hl : xs.length ≤ 1048576) (hw : ∀ x ∈ xs, Zr 1048576 x) :
    Calls Tryz.prog 44 #[v, u0] w fun e w' => e = .returned (.bool true) ∧ Below w.heap.size w w' := by
  have HR : Hid (RowR w v xs) := h
  have HG : Hid (RowR w u0 xs) := g
  have HW : Hid (∀ x ∈ xs, Zr 1048576 x) := hw
  obtain ⟨a, cap, rfl⟩ := RowG.slice h
  obtain ⟨a', cap', rfl⟩ := RowG.slice g
  clear h g hw
  have hne : ((xs.length : Int) != (xs.length : Int)) = false := by simp
  go_enter Tryz.func44, Tryz.ntmps44
  go_wp2_with fail
  go_loopw [5] (fun i wr => ∃ k : Nat, k ≤ xs.length ∧ i = .int .i64 k ∧ Hid (Below w.heap.size w wr)) (fun i _ => xs.length - (intOf i).toNat)
  case atStart => exact ⟨0, by omega, rfl, Below.refl _ _⟩
  case round =>
    obtain ⟨k, hk, rfl, HB⟩ := hrel
    by_cases hlt : k < xs.length
    · obtain ⟨x, hx⟩ := Rg.get_at hlt
      obtain ⟨b, off, rfl, hb, u4, u5, u6, u7, c0, c1, c2, c3, c4, c5, c6, c7, rr⟩ := RowG.at (HR.out.below HB.out) rfl hx
      obtain ⟨b', off', rfl, hb', t4, t5, t6, t7, d0, d1, d2, d3, d4, d5, d6, d7, ss⟩ := RowG.at (HG.out.below HB.out) rfl hx
      have hzx := HW.out x (mem_at hx)
      have HX : Hid (∀ W, Below wr.heap.size wr W → Calls Tryz.prog 79 #[.agg #[.int .i64 x.id, .int .i64 x.n, .int .i64 x.vw, .bool x.ac, u4, u5, u6, u7], .agg #[.int .i64 x.id, .int .i64 x.n, .int .i64 x.vw, .bool x.ac, t4, t5, t6, t7]] W fun e w' => e = .returned (.bool true) ∧ Below W.heap.size W w') := fun W hW => eqReplica_same x u4 u5 u6 u7 t4 t5 t6 t7 W (rr.below hW) (ss.below hW) hzx
      clear hzx
      clear hx rr ss
      have hp0 : (0 : Int) ≤ (k : Int) := by omega
      have hp1 : (k : Int) < (xs.length : Int) := by omega
      go_upto_region 6 with fail
      obtain ⟨X, hX, W, QI0, QO0⟩ := Qc.klass wr
      have QI : Hid (∀ w', Below wr.heap.size wr w' → ∃ x, w' = W x) := QI0
      have QO : Hid (∀ x, Below wr.heap.size wr (W x)) := QO0
      clear QI0 QO0
      have y0 := Qc.cell_all QO.out c0
      have z0 := Qc.cell_all QO.out d0
      have y1 := Qc.cell_all QO.out c1
      have z1 := Qc.cell_all QO.out d1
      have y2 := Qc.cell_all QO.out c2
      have z2 := Qc.cell_all QO.out d2
      have y3 := Qc.cell_all QO.out c3
      have z3 := Qc.cell_all QO.out d3
      have y4 := Qc.cell_all QO.out c4
      have z4 := Qc.cell_all QO.out d4
      have y5 := Qc.cell_all QO.out c5
      have z5 := Qc.cell_all QO.out d5
      have y6 := Qc.cell_all QO.out c6
      have z6 := Qc.cell_all QO.out d6
      have y7 := Qc.cell_all QO.out c7
      have z7 := Qc.cell_all QO.out d7
      refine Qc.region_class (W := W) (by kernel_rfl) (by kernel_rfl) (QI.out _ Qc.from_drew) ?_
      repeat (go_big_quiet_step (first | (go_at_call 79; refine (HX.out _ (QO.out _)).mono ?_; rintro e w2 ⟨rfl, b2⟩; exact ⟨rfl, Qc.back QI.out QO.out b2⟩)))
      refine wpQuiet_nil ?_
      rintro _ ⟨xq, rfl⟩
      have G2 : Hid (Below w.heap.size w (W xq)) := HB.out.trans ((QO.out xq).mono HB.out.size)
      generalize W xq = wq at G2 ⊢
      go_wp2_with fail
      exact ⟨⟨k + 1, by omega, by go_num, G2⟩, by simp [intOf]; omega⟩
    · go_wp2_with fail
      go_ret
      exact ⟨rfl, HB.out⟩
set_option maxRecDepth 100000 in
set_option maxHeartbeats 1600000 in
theorem eqNodes_same (v u : Value) (xs : List Int) (w : World) (h : RowN w v xs) (g : RowN w u xs) (hl : xs.length ≤ 1048576) :
    Calls Tryz.prog 43 #[v, u] w fun e w' => e = .returned (.bool true) ∧ Below w.heap.size w w' := by
  have HR : Hid (RowN w v xs) := h
  have HG : Hid (RowN w u xs) := g
  obtain ⟨a, cap, rfl⟩ := RowG.slice h
  obtain ⟨a', cap', rfl⟩ := RowG.slice g
  clear h g
  have hne : ((xs.length : Int) != (xs.length : Int)) = false := by simp
  go_enter Tryz.func43, Tryz.ntmps43
  go_wp2_with fail
  go_loopw [5] (fun i wr => ∃ k : Nat, k ≤ xs.length ∧ i = .int .i64 k ∧ Hid (Below w.heap.size w wr)) (fun i _ => xs.length - (intOf i).toNat)
  case atStart => exact ⟨0, by omega, rfl, Below.refl _ _⟩
  case round =>
    obtain ⟨k, hk, rfl, HB⟩ := hrel
    by_cases hlt : k < xs.length
    · obtain ⟨x, hx⟩ := Rg.get_at hlt
      obtain ⟨b, off, rfl, hb, c0⟩ := RowG.at (HR.out.below HB.out) rfl hx
      obtain ⟨b', off', rfl, hb', d0⟩ := RowG.at (HG.out.below HB.out) rfl hx
      unfold EI at c0 d0
      rw [Nat.mul_one] at c0 d0
      clear hx
      have hp0 : (0 : Int) ≤ (k : Int) := by omega
      have hp1 : (k : Int) < (xs.length : Int) := by omega
      have hxx : (x != x) = false := by simp
      go_upto_region 6 with fail
      obtain ⟨X, hX, W, QI0, QO0⟩ := Qc.klass wr
      have QI : Hid (∀ w', Below wr.heap.size wr w' → ∃ x, w' = W x) := QI0
      have QO : Hid (∀ x, Below wr.heap.size wr (W x)) := QO0
      clear QI0 QO0
      have y0 := Qc.cell_all QO.out c0
      have z0 := Qc.cell_all QO.out d0
      refine Qc.region_class (W := W) (by kernel_rfl) (by kernel_rfl) (QI.out _ Qc.from_drew) ?_
      repeat (go_big_quiet_step (fail))
      refine wpQuiet_nil ?_
      rintro _ ⟨xq, rfl⟩
      have G2 : Hid (Below w.heap.size w (W xq)) := HB.out.trans ((QO.out xq).mono HB.out.size)
      generalize W xq = wq at G2 ⊢
      go_wp2_with fail
      exact ⟨⟨k + 1, by omega, by go_num, G2⟩, by simp [intOf]; omega⟩
    · go_wp2_with fail
      go_ret
      exact ⟨rfl, HB.out⟩
set_option maxRecDepth 100000 in
set_option maxHeartbeats 1600000 in
theorem eqGroup_same (g : Gp) (vf vr vw vs uf ur uw us : Value) (w : World) (h : GrpR w g vf vr vw vs) (k : GrpR w g uf ur uw us) (hz : Zq 1048576 g) :
    Calls Tryz.prog 11 #[gpV g vf vr vw vs, gpV g uf ur uw us] w fun e w' => e = .returned (.bool true) ∧ Below w.heap.size w w' := by
  have HR : Hid (GrpR w g vf vr vw vs) := h
  have HG : Hid (GrpR w g uf ur uw us) := k
  have HZ : Hid (Zq 1048576 g) := hz
  clear h k hz
  unfold gpV
  have HC : Hid (∀ W, Below ((w.alloc (.cells #[.int .i64 g.n, vf, vr, vw, vs] 34)).alloc (.cells #[.int .i64 g.n, uf, ur, uw, us] 34)).heap.size ((w.alloc (.cells #[.int .i64 g.n, vf, vr, vw, vs] 34)).alloc (.cells #[.int .i64 g.n, uf, ur, uw, us] 34)) W → (W.cell? ⟨w.heap.size, 0, none⟩ = some (.int .i64 g.n) ∧ W.cell? ⟨w.heap.size, 1, none⟩ = some (vf) ∧ W.cell? ⟨w.heap.size, 2, none⟩ = some (vr) ∧ W.cell? ⟨w.heap.size, 3, none⟩ = some (vw) ∧ W.cell? ⟨w.heap.size, 4, none⟩ = some (vs) ∧ W.cell? ⟨w.heap.size + 1, 0, none⟩ = some (.int .i64 g.n) ∧ W.cell? ⟨w.heap.size + 1, 1, none⟩ = some (uf) ∧ W.cell? ⟨w.heap.size + 1, 2, none⟩ = some (ur) ∧ W.cell? ⟨w.heap.size + 1, 3, none⟩ = some (uw) ∧ W.cell? ⟨w.heap.size + 1, 4, none⟩ = some (us)) ∧ Below w.heap.size w W) := fun W hW => by
    obtain ⟨h1, h2, h3⟩ := two hW
    exact ⟨⟨(blk_cell h1 0 rfl).1, (blk_cell h1 1 rfl).1, (blk_cell h1 2 rfl).1, (blk_cell h1 3 rfl).1, (blk_cell h1 4 rfl).1, (blk_cell h2 0 rfl).1, (blk_cell h2 1 rfl).1, (blk_cell h2 2 rfl).1, (blk_cell h2 3 rfl).1, (blk_cell h2 4 rfl).1⟩, h3⟩
  have q0 : (g.n != g.n) = false := by simp
  go_enter Tryz.func11, Tryz.ntmps11
  go_upto_region 1 with fail
  generalize (w.alloc (.cells #[.int .i64 g.n, vf, vr, vw, vs] 34)).alloc (.cells #[.int .i64 g.n, uf, ur, uw, us] 34) = wb at HC ⊢
  obtain ⟨⟨x0, x1, x2, x3, x4, y0, y1, y2, y3, y4⟩, B0⟩ := HC.out wb (Below.refl _ _)
  have HB0 : Hid (Below w.heap.size w wb) := B0
  clear B0
  go_wp2_with fail
  refine (eqNodes_same vf uf g.fa wb (HR.out.f.below HB0.out) (HG.out.f.below HB0.out) HZ.out.f).mono ?_
  rintro e w1 ⟨rfl, b1⟩
  have D1 : Hid (Below wb.heap.size wb w1) := b1
  clear b1 x0 y0 x1 y1 x2 y2 x3 y3 x4 y4
  obtain ⟨⟨x0, x1, x2, x3, x4, y0, y1, y2, y3, y4⟩, B0⟩ := HC.out w1 D1.out
  have HB1 : Hid (Below w.heap.size w w1) := B0
  clear B0
  go_wp2_with fail
  refine (eqReplicaS_same vr ur g.rs w1 (HR.out.r.below HB1.out) (HG.out.r.below HB1.out) HZ.out.r HZ.out.rz).mono ?_
  rintro e w2 ⟨rfl, b2⟩
  have D2 : Hid (Below wb.heap.size wb w2) := D1.out.trans (b2.mono D1.out.size)
  clear b2 x0 y0 x1 y1 x2 y2 x3 y3 x4 y4
  obtain ⟨⟨x0, x1, x2, x3, x4, y0, y1, y2, y3, y4⟩, B0⟩ := HC.out w2 D2.out
  have HB2 : Hid (Below w.heap.size w w2) := B0
  clear B0
  go_wp2_with fail
  refine (eqParcelS_same vw uw g.wi w2 (HR.out.p.below HB2.out) (HG.out.p.below HB2.out) HZ.out.p).mono ?_
  rintro e w3 ⟨rfl, b3⟩
  have D3 : Hid (Below wb.heap.size wb w3) := D2.out.trans (b3.mono D2.out.size)
  clear b3 x0 y0 x1 y1 x2 y2 x3 y3 x4 y4
  obtain ⟨⟨x0, x1, x2, x3, x4, y0, y1, y2, y3, y4⟩, B0⟩ := HC.out w3 D3.out
  have HB3 : Hid (Below w.heap.size w w3) := B0
  clear B0
  go_wp2_with fail
  refine (eqS_same vs us g.se w3 (HR.out.s.below HB3.out) (HG.out.s.below HB3.out) HZ.out.s).mono ?_
  rintro e w4 ⟨rfl, b4⟩
  have D4 : Hid (Below wb.heap.size wb w4) := D3.out.trans (b4.mono D3.out.size)
  clear b4 x0 y0 x1 y1 x2 y2 x3 y3 x4 y4
  obtain ⟨⟨x0, x1, x2, x3, x4, y0, y1, y2, y3, y4⟩, B0⟩ := HC.out w4 D4.out
  have HB4 : Hid (Below w.heap.size w w4) := B0
  clear B0
  go_wp2_with fail
  go_ret
  exact ⟨rfl, HB4.out⟩
end Go.Proofs.YtondmbeccpekiaaGreatDoor.Zg

/- The table of round constants, as the row lists it; a world for the witness. -/
namespace Go.Proofs.YtondmbeccpekiaaGreatDoor.Hl
open Go.ChangeShapes Go.WideShapes Go.ChangeAt Go.RowKit Go.Proofs.YtondmbeccpekiaaGreatDoor.Sh

theorem own : ownKnob Tryz.prog.godebug = none := by kernel_rfl
theorem laidOut : laidOutB Tryz.prog = true := by kernel_rfl
theorem gTab : Tryz.prog.globalNamed "loop.example/g00292/impl.roundWords" = some 0 := by kernel_rfl
theorem tTab : (Tryz.prog.globals[0]?).map (·.type) = some 207 := by kernel_rfl
theorem cells64 : Tryz.prog.cellsOf 207 = 64 := by kernel_rfl
theorem cells1 : Tryz.prog.cellsOf 166 = 1 := by kernel_rfl
theorem rowed : varsRowed Tryz.prog ["loop.example/g00292/impl.roundWords"] = true := by kernel_rfl
abbrev laidList : List (String × DataW Unit) := [("loop.example/g00292/impl.roundWords", Rows.laid_loop_example_g00292_impl_roundWords)]

theorem door_met (os : Os) (args : Array Value) : laidMetH Tryz.prog laidList ((World.doorLaid Tryz.prog 400 os).forCall (fun _ _ => 0) ⟨#[], args, []⟩).memory :=
  laidMetH_of_parts3 (fuel := 8) (laidMet_of_run' 8 (by kernel_rfl) (by kernel_rfl)) (by kernel_rfl) (by kernel_rfl)
theorem list_eq : (Rows.laid_loop_example_g00292_impl_roundWords : DataW Unit) = Lib.tabData .u32 (kList.map nat) := by kernel_rfl
theorem k_len : kList.length = 64 := by decide

theorem tab_of {W : World} (h : laidMetH Tryz.prog laidList W) : KTab W ∧ 0 < W.heap.size := by
  rw [MakeChecks.laidMetH_plain _ _ _ (by kernel_rfl)] at h
  obtain ⟨ps, ⟨g0, t0, cs0, f0, p0, q0, hg0, ht0, hv0, hd0, _, _⟩, _, _⟩ := h
  obtain rfl := Option.some.inj (gTab.symm.trans hg0)
  obtain rfl := Option.some.inj (tTab.symm.trans ht0)
  have e : cs0.toList = (kList.map nat).map fun z => Value.int .u32 z := Lib.cells_of_tab Tryz.underlying207 Tryz.underlying166 cells1 cells64 (by rw [← list_eq]; exact hd0)
  have ht : KTab W := by
    intro i hi
    have hl := k_len
    rw [World.var?_cell hg0 hv0 i, ← Array.getElem?_toList, e, List.map_map, List.getElem?_map, List.getElem?_eq_getElem (by omega)]
    unfold kt
    rw [List.getD_eq_getElem?_getD, List.getElem?_eq_getElem (by omega)]
    rfl
  exact ⟨ht, World.block_lt_of_cell? W _ (ht 0 (by decide))⟩
end Go.Proofs.YtondmbeccpekiaaGreatDoor.Hl
