/- Tables that are taken from pieces: takenTable of the program. -/
import Derived.Test.YtnebohdlndiejaaGreatDoorJInstallTable11
import Derived.Test.YtnebohdlndiejaaGreatDoorQc
import Derived.Deep.RegionHeld
import Derived.Deep.RegionHeld3
import Derived.Deep.RegionLaw
import Derived.Deep.Cut
namespace Go.Proofs.YtnebohdlndiejaaGreatDoor.Xl
open Go.RowKit Go.Proofs.YtnebohdlndiejaaGreatDoor.Sl Go.Proofs.YtnebohdlndiejaaGreatDoor.Er
open Go.Proofs.YtnebohdlndiejaaGreatDoor.Rg (blk_cell blk_set blk_far bel_new)
open Go.Proofs.YtnebohdlndiejaaGreatDoor.Sh (KTab KTab.below)
open Go.Proofs.YtnebohdlndiejaaGreatDoor.Tx (RowT RowT.below tnth)
open Go.Proofs.YtnebohdlndiejaaGreatDoor.Ho (cat catS bys_catS bytes_run)
open Go.Proofs.YtnebohdlndiejaaGreatDoor.Ap (bys)
open Go.Proofs.YtnebohdlndiejaaGreatDoor.Xp (itoa_small)
open Go.Proofs.YtnebohdlndiejaaGreatDoor.Pf (PcP pcB pcC pcB_yes pcB_no pcB_get pcC_ok pcC_get pcC_bad)
open Go.Proofs.YtnebohdlndiejaaGreatDoor.Ur (rtC rtT rtOK zTab Mem Mem.nil Mem.kept Mem.mono size_new implReadTable_any)
open Go.Proofs.YtnebohdlndiejaaGreatDoor.Tb (Tab tabV Sn)
open Go.Proofs.YtnebohdlndiejaaGreatDoor.Lo (LkA)
open Go.Proofs.YtnebohdlndiejaaGreatDoor.Xs (stB implStableOK_any)
open Go.Proofs.YtnebohdlndiejaaGreatDoor.Xv (vok vok_size)
open Go.Proofs.YtnebohdlndiejaaGreatDoor.Tm (fCode)
open Go.Proofs.YtnebohdlndiejaaGreatDoor.Gt (Vo)

theorem row_at {W : World} {a : Option Addr} {cap k : Nat} {ts : List ByteArray} (h : RowT W (.slice a ts.length cap) ts) (hk : k < ts.length) : ∃ b off, a = some ⟨b, off, none⟩ ∧ b < W.heap.size ∧ W.cell? ⟨b, off + k, none⟩ = some (.string (tnth ts k)) := by
  obtain ⟨a', cap', e, h⟩ := h
  cases e
  rcases h with h | ⟨b, off, rfl, hc, hb, hcell⟩
  · rw [h] at hk; simp at hk
  · exact ⟨b, off, rfl, hb, hcell k hk⟩
theorem row_slice {W : World} {v : Value} {ts : List ByteArray} (h : RowT W v ts) : ∃ a cap, v = .slice a ts.length cap := by
  obtain ⟨a, cap, e, _⟩ := h
  exact ⟨a, cap, e⟩
theorem st_sz {n sq sz : Int} {rt : ByteArray} {vs : List Vo} (h : stB n sq sz rt vs = true) : 1 ≤ sz := by
  unfold stB at h
  rw [Bool.and_eq_true] at h
  exact (vok_size h.1).2.1.1
set_option maxRecDepth 100000 in
set_option maxHeartbeats 3200000 in
theorem takenTable_any (n sq sz : Int) (rt : ByteArray) (vr : Value) (vs : List Vo) (up uq : Value) (ps qs : List ByteArray) (w : World) (A : Nat → Addr) (hV : Gt.Row w vr vs) (hvl : vs.length ≤ 1048576) (hP : RowT w up ps) (hpl : ps.length ≤ 1048576) (hQ : RowT w uq qs) (hql : qs.length ≤ 1048576) (hqz : ∀ t ∈ qs, t.size ≤ 1048576) (hSe : Sen w A) (hK : KTab w) (hp : 10 < w.heap.size) :
    Calls Tryz.prog 52 #[.int .i64 n, .agg #[.int .i64 sq, .int .i64 sz, .string rt, vr], up, uq] w fun e w' => ∃ u2 u3 ms er, e = .returned (.tuple #[tabV (itT n sq sz rt vs ps qs).tm (itT n sq sz rt vs ps qs).nx u2 u3, er]) ∧ ((itC n sq sz rt vs ps qs = 0 ∧ er = .nilIface) ∨ (∃ s j, j < 8 ∧ er = fnd s (sen (A j)) ∧ fcode j = itC n sq sz rt vs ps qs) ∨ ∃ s r j, j < 8 ∧ er = fnd s (fnd r (sen (A j))) ∧ fcode j = itC n sq sz rt vs ps qs) ∧ (ms.map (·.1) = (itT n sq sz rt vs ps qs).ls ∧ Mem w' w.heap.size u2 u3 ms (itT n sq sz rt vs ps qs).ss) ∧ Below w.heap.size w w' := by
  obtain ⟨va, vc, rfl⟩ := Rg.RowG.slice hV
  obtain ⟨pa, pc, rfl⟩ := row_slice hP
  obtain ⟨qa, qc, rfl⟩ := row_slice hQ
  have e2 : ((w.alloc (.cells #[.int .i64 sq, .int .i64 sz, .string rt, .slice va vs.length vc] 30)).alloc (.cells #[.int .i64 0, .int .i64 0, .slice none 0 0, .slice none 0 0] 36)).heap.size = w.heap.size + 1 + 1 := by rw [size_new, size_new]
  have HX0 : Hid (∀ W, Below ((w.alloc (.cells #[.int .i64 sq, .int .i64 sz, .string rt, .slice va vs.length vc] 30)).alloc (.cells #[.int .i64 0, .int .i64 0, .slice none 0 0, .slice none 0 0] 36)).heap.size ((w.alloc (.cells #[.int .i64 sq, .int .i64 sz, .string rt, .slice va vs.length vc] 30)).alloc (.cells #[.int .i64 0, .int .i64 0, .slice none 0 0, .slice none 0 0] 36)) W → (W.cell? ⟨w.heap.size, 0, none⟩ = some (.int .i64 sq) ∧ W.cell? ⟨w.heap.size, 1, none⟩ = some (.int .i64 sz) ∧ W.cell? ⟨w.heap.size, 2, none⟩ = some (.string rt) ∧ W.cell? ⟨w.heap.size, 3, none⟩ = some (.slice va vs.length vc))) := fun W hW => by
    have h0 : W.heap[w.heap.size]? = some (.cells #[.int .i64 sq, .int .i64 sz, .string rt, .slice va vs.length vc] 30) := by rw [hW.block _ (by omega), Below.heap_alloc _ _ _ (by rw [size_new]; omega)]; exact heap_alloc_new w _
    exact ⟨(blk_cell h0 0 rfl).1, (blk_cell h0 1 rfl).1, (blk_cell h0 2 rfl).1, (blk_cell h0 3 rfl).1⟩
  have HY0 : Hid (∀ W, Below ((w.alloc (.cells #[.int .i64 sq, .int .i64 sz, .string rt, .slice va vs.length vc] 30)).alloc (.cells #[.int .i64 0, .int .i64 0, .slice none 0 0, .slice none 0 0] 36)).heap.size ((w.alloc (.cells #[.int .i64 sq, .int .i64 sz, .string rt, .slice va vs.length vc] 30)).alloc (.cells #[.int .i64 0, .int .i64 0, .slice none 0 0, .slice none 0 0] 36)) W → W.heap[w.heap.size + 1]? = some (.cells #[.int .i64 0, .int .i64 0, .slice none 0 0, .slice none 0 0] 36) ∧ Below w.heap.size w W) := fun W hW => by
    have h1 : W.heap[w.heap.size + 1]? = some (.cells #[.int .i64 0, .int .i64 0, .slice none 0 0, .slice none 0 0] 36) := by rw [hW.block _ (by omega)]; have := heap_alloc_new (w.alloc (.cells #[.int .i64 sq, .int .i64 sz, .string rt, .slice va vs.length vc] 30)) (.cells #[.int .i64 0, .int .i64 0, .slice none 0 0, .slice none 0 0] 36); rwa [size_new] at this
    exact ⟨h1, (((Below.refl w.heap.size w).alloc (Nat.le_refl _) _).alloc (by rw [size_new]; omega) _).trans (hW.mono (by omega))⟩
  have HSE0 : Hid (∀ W, Below w.heap.size w W → Sen W A) := fun W hW => hSe.below hW
  have HST : Hid (∀ W, Below w.heap.size w W → Calls Tryz.prog 85 #[.int .i64 n, .agg #[.int .i64 sq, .int .i64 sz, .string rt, .slice va vs.length vc]] W fun e w' => e = .returned (.bool (stB n sq sz rt vs)) ∧ Below W.heap.size W w') := fun W hW => implStableOK_any n sq sz rt _ vs W (hV.below hW) hvl (hK.below hW hp) (Nat.lt_of_lt_of_le hp hW.size)
  have HPF : Hid (∀ W, Below w.heap.size w W → Calls Tryz.prog 86 #[.slice pa ps.length pc] W fun e w' => e = .returned (.int .i64 (pcC ps)) ∧ W = w') := fun W hW => Pf.piecesFault_any _ ps W (hP.below hW) (by unfold maxLen; omega)
  have HRW : Hid (∀ W, Below w.heap.size w W → RowT W (.slice pa ps.length pc) ps ∧ RowT W (.slice qa qs.length qc) qs ∧ KTab W ∧ 10 < W.heap.size) := fun W hW => ⟨hP.below hW, hQ.below hW, hK.below hW hp, Nat.lt_of_lt_of_le hp hW.size⟩
  have HQZ : Hid (∀ k, k < qs.length → (tnth qs k).size ≤ 1048576) := fun k hk => hqz _ (Tx.tnth_mem hk)
  have HYL0 : Hid (w.heap.size ≤ w.heap.size + 1) := Nat.le_succ _
  have HYG0 : Hid (0 ≠ w.heap.size + 1) := by show _ ≠ _; have := World.block_lt_of_cell? w _ hSe.g0; simp only at this; omega
  have HYG5 : Hid (3 ≠ w.heap.size + 1) := by show _ ≠ _; have := World.block_lt_of_cell? w _ hSe.g5; simp only at this; omega
  have HYG7 : Hid (4 ≠ w.heap.size + 1) := by show _ ≠ _; have := World.block_lt_of_cell? w _ hSe.g7; simp only at this; omega
  have hMS : itC n sq sz rt vs ps qs = if 4096 < ps.length ∨ 4096 < qs.length then 2 else if fCode n = 0 then (if stB n sq sz rt vs = true then (if pcB ps = true ∧ (ps.length : Int) = sz ∧ (qs.length : Int) = sz then (if fbC rt sz ps qs ps.length = 0 then rtC (cat ps) else fbC rt sz ps qs ps.length) else 1) else 12) else 4 := rfl
  clear hV hP hQ hqz hSe hK hp e2
  by_cases h1 : 4096 < ps.length
  · have h1' : (4096 : Int) < (ps.length : Int) := by omega
    rw [if_pos (.inl h1)] at hMS
    have HM : Hid (It n sq sz rt vs ps qs 2 zTab) := it_no hMS (by decide)
    clear hMS h1 HST HPF HRW HQZ
    go_enter Tryz.func52, Tryz.ntmps52
    go_upto_region 1 with fail
    generalize (w.alloc (.cells #[.int .i64 sq, .int .i64 sz, .string rt, .slice va vs.length vc] 30)).alloc (.cells #[.int .i64 0, .int .i64 0, .slice none 0 0, .slice none 0 0] 36) = wb at HX0 HY0 ⊢
    obtain ⟨y, HY⟩ : ∃ y, Hid (w.heap.size + 1 = y) := ⟨_, rfl⟩
    rw [HY.out] at HY0 HYL0 HYG0 HYG5 HYG7 ⊢
    have HYL : Hid (w.heap.size ≤ y) := HYL0
    have HSE : Hid (∀ W, Below wb.heap.size wb W → Sen W A) := fun W hW => HSE0.out _ (HY0.out _ hW).2
    clear HYL0
    obtain ⟨k9, g9⟩ := HY0.out _ (Below.refl _ _)
    obtain ⟨m0, n0⟩ := blk_cell k9 0 (x := .int .i64 0) rfl
    obtain ⟨m1, n1⟩ := blk_cell k9 1 (x := .int .i64 0) rfl
    obtain ⟨m2, n2⟩ := blk_cell k9 2 (x := .slice none 0 0) rfl
    obtain ⟨m3, n3⟩ := blk_cell k9 3 (x := .slice none 0 0) rfl
    have AF : ((((wb.setCell ⟨y, 0, none⟩ (.int .i64 0)).setCell ⟨y, 1, none⟩ (.int .i64 0)).setCell ⟨y, 2, none⟩ (.slice none 0 0)).setCell ⟨y, 3, none⟩ (.slice none 0 0)).heap[y]? = some (.cells #[.int .i64 0, .int .i64 0, .slice none 0 0, .slice none 0 0] 36 (0, 0)) := (blk_set (blk_set (blk_set (blk_set k9 0 (.int .i64 0)) 1 (.int .i64 0)) 2 (.slice none 0 0)) 3 (.slice none 0 0))
    have RF : Hid (Below w.heap.size w ((((wb.setCell ⟨y, 0, none⟩ (.int .i64 0)).setCell ⟨y, 1, none⟩ (.int .i64 0)).setCell ⟨y, 2, none⟩ (.slice none 0 0)).setCell ⟨y, 3, none⟩ (.slice none 0 0))) := (Below.setCell (Below.setCell (Below.setCell (Below.setCell g9 (p := ⟨y, 0, none⟩) (HYL.out) (.int .i64 0)) (p := ⟨y, 1, none⟩) (HYL.out) (.int .i64 0)) (p := ⟨y, 2, none⟩) (HYL.out) (.slice none 0 0)) (p := ⟨y, 3, none⟩) (HYL.out) (.slice none 0 0))
    clear g9 k9
    have GS := (HSE.out _ (Below.refl _ _)).g0
    unfold sen at GS
    have GS9 : Hid (((((wb.setCell ⟨y, 0, none⟩ (.int .i64 0)).setCell ⟨y, 1, none⟩ (.int .i64 0)).setCell ⟨y, 2, none⟩ (.slice none 0 0)).setCell ⟨y, 3, none⟩ (.slice none 0 0)).cell? ⟨0, 0, none⟩ = some (.iface 259 (.pointer (some (A 0))))) := ((World.cell?_of_block (a := ⟨0, 0, none⟩) (blk_far HYG0.out 3 (.slice none 0 0))).trans ((World.cell?_of_block (a := ⟨0, 0, none⟩) (blk_far HYG0.out 2 (.slice none 0 0))).trans ((World.cell?_of_block (a := ⟨0, 0, none⟩) (blk_far HYG0.out 1 (.int .i64 0))).trans ((World.cell?_of_block (a := ⟨0, 0, none⟩) (blk_far HYG0.out 0 (.int .i64 0))).trans GS))))
    go_upto_region 2 with fail
    refine wp_region_noPanic ?_
    refine wp_region_held_drew (S := (fun W => W.cell? ⟨0, 0, none⟩ = some (.iface 259 (.pointer (some (A 0)))))) (by kernel_rfl) GS (fun hHeld => ?_)
    refine wpAnyH_take (i := 0) (oi := { dst := some 24, op := Go.Op.build 36 #[], type := 36, pos := "l10_checkpoint.go:214", after := #[], guard := none }) (v := ?v1) rfl (by kernel_rfl) (by kernel_rfl) (by kernel_rfl) (fun _ _ _ h => h) (Or.inl ⟨by rfl, ?h1⟩) hHeld ?r1
    case h1 => intro wz hz; (try dsimp only at hz); go_simp; try (with_reducible rfl)
    simp only [Act.put, List.setIfInBounds_toArray, List.set_cons_zero, List.set_cons_succ]
    refine wpAnyH_take (i := 1) (oi := { dst := some 25, op := Go.Op.load 68 (Go.Operand.global 0), type := 68, pos := "l10_checkpoint.go:214", after := #[], guard := none }) (v := ?v2) rfl (by kernel_rfl) (by kernel_rfl) (by kernel_rfl) (fun _ _ _ h => h) (Or.inl ⟨by rfl, ?h2⟩) hHeld ?r2
    case h2 => intro wz hz; (try dsimp only at hz); go_simp; try (with_reducible rfl)
    simp only [Act.put, List.setIfInBounds_toArray, List.set_cons_zero, List.set_cons_succ]
    refine wpAnyH_take (i := 2) (oi := { dst := some 26, op := Go.Op.build 119 #[(0, Go.Operand.const (Go.Value.string { data := #[112, 105, 101, 99, 101, 115, 32, 97, 110, 100, 32, 112, 114, 111, 111, 102, 115] })), (1, Go.Operand.tmp 25)], type := 119, pos := "l10_checkpoint.go:214", after := #[{ on := 1, ground := Go.Ground.data }], guard := none }) (v := ?v3) rfl (by kernel_rfl) (by kernel_rfl) (by kernel_rfl) (fun _ _ _ h => h) (Or.inl ⟨by rfl, ?h3⟩) hHeld ?r3
    case h3 => intro wz hz; (try dsimp only at hz); go_simp; try (with_reducible rfl)
    simp only [Act.put, List.setIfInBounds_toArray, List.set_cons_zero, List.set_cons_succ]
    refine wpAnyH_take (i := 3) (oi := { dst := some 27, op := Go.Op.makeInterface 119 (Go.Operand.tmp 26), type := 68, pos := "l10_checkpoint.go:214", after := #[{ on := 2, ground := Go.Ground.data }, { on := 4, ground := Go.Ground.gcOnly Go.Departure.lateStores }], guard := none }) (v := ?v4) rfl (by kernel_rfl) (by kernel_rfl) (by kernel_rfl) (fun _ _ _ h => h) (Or.inl ⟨by rfl, ?h4⟩) hHeld ?r4
    case h4 => intro wz hz; (try dsimp only at hz); go_simp; try (with_reducible rfl)
    simp only [Act.put, List.setIfInBounds_toArray, List.set_cons_zero, List.set_cons_succ]
    refine wpAnyH_ready (rs := [4]) (by kernel_rfl) (by simp) ?_
    refine AllReadyH.cons (o := { dst := none, op := Go.Op.store 36 (Go.Operand.tmp 8) (Go.Operand.tmp 24), type := 0, pos := "l10_checkpoint.go:214", after := #[{ on := 0, ground := Go.Ground.data }, { on := 0, ground := Go.Ground.phase }, { on := 1, ground := Go.Ground.textOnly Go.Departure.lateStores }, { on := 2, ground := Go.Ground.textOnly Go.Departure.lateStores }, { on := 3, ground := Go.Ground.textOnly Go.Departure.lateStores }], guard := none }) rfl (fun K hK => ?_) AllReadyH.nil
    go_simp
    refine hK.out _ _ ?_ (fun hHeld => ?_)
    · exact GS9.out
    clear hK K
    (try simp only [Act.put, List.setIfInBounds_toArray, List.set_cons_zero, List.set_cons_succ])
    refine wpAnyH_take (i := 5) (oi := { dst := some 9, op := Go.Op.assign (Go.Operand.tmp 27), type := 68, pos := "l10_checkpoint.go:214", after := #[{ on := 3, ground := Go.Ground.data }, { on := 4, ground := Go.Ground.chain }, { on := 0, ground := Go.Ground.phase }, { on := 1, ground := Go.Ground.phase }, { on := 2, ground := Go.Ground.phase }, { on := 3, ground := Go.Ground.phase }, { on := 4, ground := Go.Ground.phase }], guard := none }) (v := ?v5) rfl (by kernel_rfl) (by kernel_rfl) (by kernel_rfl) (fun _ _ _ h => h) (Or.inl ⟨by rfl, ?h5⟩) hHeld ?r5
    case h5 => intro wz hz; (try dsimp only at hz); go_simp; try (with_reducible rfl)
    simp only [Act.put, List.setIfInBounds_toArray, List.set_cons_zero, List.set_cons_succ]
    refine wpAnyH_done (by kernel_rfl) ?_ _
    refine NoPanic.normal ?_
    clear GS9
    go_wp2_with fail
    generalize ((((wb.setCell ⟨y, 0, none⟩ (.int .i64 0)).setCell ⟨y, 1, none⟩ (.int .i64 0)).setCell ⟨y, 2, none⟩ (.slice none 0 0)).setCell ⟨y, 3, none⟩ (.slice none 0 0)) = wf at AF RF ⊢
    have d0 := (blk_cell AF 0 (x := .int .i64 0) rfl).1
    have d1 := (blk_cell AF 1 (x := .int .i64 0) rfl).1
    have d2 := (blk_cell AF 2 (x := .slice none 0 0) rfl).1
    have d3 := (blk_cell AF 3 (x := .slice none 0 0) rfl).1
    refine bodyPost_ret (v := .tuple #[.agg #[.int .i64 0, .int .i64 0, .slice none 0 0, .slice none 0 0], .iface 119 (.agg #[.string ⟨#[112, 105, 101, 99, 101, 115, 32, 97, 110, 100, 32, 112, 114, 111, 111, 102, 115]⟩, .iface 259 (.pointer (some (A 0)))])]) (by simp [results, Tryz.results52, go_sem, d0, d1, d2, d3]) rfl ?_
    rw [HM.out.c, HM.out.t]
    exact ⟨_, _, [], _, rfl, .inr (.inl ⟨_, 0, by decide, rfl, rfl⟩), ⟨rfl, Mem.nil _ _⟩, RF.out.drew⟩
  have h1' : ¬ (4096 : Int) < (ps.length : Int) := by omega
  by_cases h2 : 4096 < qs.length
  · have h2' : (4096 : Int) < (qs.length : Int) := by omega
    rw [if_pos (.inr h2)] at hMS
    have HM : Hid (It n sq sz rt vs ps qs 2 zTab) := it_no hMS (by decide)
    clear hMS h1 h2 HST HPF HRW HQZ
    go_enter Tryz.func52, Tryz.ntmps52
    go_upto_region 1 with fail
    generalize (w.alloc (.cells #[.int .i64 sq, .int .i64 sz, .string rt, .slice va vs.length vc] 30)).alloc (.cells #[.int .i64 0, .int .i64 0, .slice none 0 0, .slice none 0 0] 36) = wb at HX0 HY0 ⊢
    obtain ⟨y, HY⟩ : ∃ y, Hid (w.heap.size + 1 = y) := ⟨_, rfl⟩
    rw [HY.out] at HY0 HYL0 HYG0 HYG5 HYG7 ⊢
    have HYL : Hid (w.heap.size ≤ y) := HYL0
    have HSE : Hid (∀ W, Below wb.heap.size wb W → Sen W A) := fun W hW => HSE0.out _ (HY0.out _ hW).2
    clear HYL0
    obtain ⟨k9, g9⟩ := HY0.out _ (Below.refl _ _)
    obtain ⟨m0, n0⟩ := blk_cell k9 0 (x := .int .i64 0) rfl
    obtain ⟨m1, n1⟩ := blk_cell k9 1 (x := .int .i64 0) rfl
    obtain ⟨m2, n2⟩ := blk_cell k9 2 (x := .slice none 0 0) rfl
    obtain ⟨m3, n3⟩ := blk_cell k9 3 (x := .slice none 0 0) rfl
    have AF : ((((wb.setCell ⟨y, 0, none⟩ (.int .i64 0)).setCell ⟨y, 1, none⟩ (.int .i64 0)).setCell ⟨y, 2, none⟩ (.slice none 0 0)).setCell ⟨y, 3, none⟩ (.slice none 0 0)).heap[y]? = some (.cells #[.int .i64 0, .int .i64 0, .slice none 0 0, .slice none 0 0] 36 (0, 0)) := (blk_set (blk_set (blk_set (blk_set k9 0 (.int .i64 0)) 1 (.int .i64 0)) 2 (.slice none 0 0)) 3 (.slice none 0 0))
    have RF : Hid (Below w.heap.size w ((((wb.setCell ⟨y, 0, none⟩ (.int .i64 0)).setCell ⟨y, 1, none⟩ (.int .i64 0)).setCell ⟨y, 2, none⟩ (.slice none 0 0)).setCell ⟨y, 3, none⟩ (.slice none 0 0))) := (Below.setCell (Below.setCell (Below.setCell (Below.setCell g9 (p := ⟨y, 0, none⟩) (HYL.out) (.int .i64 0)) (p := ⟨y, 1, none⟩) (HYL.out) (.int .i64 0)) (p := ⟨y, 2, none⟩) (HYL.out) (.slice none 0 0)) (p := ⟨y, 3, none⟩) (HYL.out) (.slice none 0 0))
    clear g9 k9
    have GS := (HSE.out _ (Below.refl _ _)).g0
    unfold sen at GS
    have GS9 : Hid (((((wb.setCell ⟨y, 0, none⟩ (.int .i64 0)).setCell ⟨y, 1, none⟩ (.int .i64 0)).setCell ⟨y, 2, none⟩ (.slice none 0 0)).setCell ⟨y, 3, none⟩ (.slice none 0 0)).cell? ⟨0, 0, none⟩ = some (.iface 259 (.pointer (some (A 0))))) := ((World.cell?_of_block (a := ⟨0, 0, none⟩) (blk_far HYG0.out 3 (.slice none 0 0))).trans ((World.cell?_of_block (a := ⟨0, 0, none⟩) (blk_far HYG0.out 2 (.slice none 0 0))).trans ((World.cell?_of_block (a := ⟨0, 0, none⟩) (blk_far HYG0.out 1 (.int .i64 0))).trans ((World.cell?_of_block (a := ⟨0, 0, none⟩) (blk_far HYG0.out 0 (.int .i64 0))).trans GS))))
    go_upto_region 2 with fail
    refine wp_region_noPanic ?_
    refine wp_region_held_drew (S := (fun W => W.cell? ⟨0, 0, none⟩ = some (.iface 259 (.pointer (some (A 0)))))) (by kernel_rfl) GS (fun hHeld => ?_)
    refine wpAnyH_take (i := 0) (oi := { dst := some 24, op := Go.Op.build 36 #[], type := 36, pos := "l10_checkpoint.go:214", after := #[], guard := none }) (v := ?v6) rfl (by kernel_rfl) (by kernel_rfl) (by kernel_rfl) (fun _ _ _ h => h) (Or.inl ⟨by rfl, ?h6⟩) hHeld ?r6
    case h6 => intro wz hz; (try dsimp only at hz); go_simp; try (with_reducible rfl)
    simp only [Act.put, List.setIfInBounds_toArray, List.set_cons_zero, List.set_cons_succ]
    refine wpAnyH_take (i := 1) (oi := { dst := some 25, op := Go.Op.load 68 (Go.Operand.global 0), type := 68, pos := "l10_checkpoint.go:214", after := #[], guard := none }) (v := ?v7) rfl (by kernel_rfl) (by kernel_rfl) (by kernel_rfl) (fun _ _ _ h => h) (Or.inl ⟨by rfl, ?h7⟩) hHeld ?r7
    case h7 => intro wz hz; (try dsimp only at hz); go_simp; try (with_reducible rfl)
    simp only [Act.put, List.setIfInBounds_toArray, List.set_cons_zero, List.set_cons_succ]
    refine wpAnyH_take (i := 2) (oi := { dst := some 26, op := Go.Op.build 119 #[(0, Go.Operand.const (Go.Value.string { data := #[112, 105, 101, 99, 101, 115, 32, 97, 110, 100, 32, 112, 114, 111, 111, 102, 115] })), (1, Go.Operand.tmp 25)], type := 119, pos := "l10_checkpoint.go:214", after := #[{ on := 1, ground := Go.Ground.data }], guard := none }) (v := ?v8) rfl (by kernel_rfl) (by kernel_rfl) (by kernel_rfl) (fun _ _ _ h => h) (Or.inl ⟨by rfl, ?h8⟩) hHeld ?r8
    case h8 => intro wz hz; (try dsimp only at hz); go_simp; try (with_reducible rfl)
    simp only [Act.put, List.setIfInBounds_toArray, List.set_cons_zero, List.set_cons_succ]
    refine wpAnyH_take (i := 3) (oi := { dst := some 27, op := Go.Op.makeInterface 119 (Go.Operand.tmp 26), type := 68, pos := "l10_checkpoint.go:214", after := #[{ on := 2, ground := Go.Ground.data }, { on := 4, ground := Go.Ground.gcOnly Go.Departure.lateStores }], guard := none }) (v := ?v9) rfl (by kernel_rfl) (by kernel_rfl) (by kernel_rfl) (fun _ _ _ h => h) (Or.inl ⟨by rfl, ?h9⟩) hHeld ?r9
    case h9 => intro wz hz; (try dsimp only at hz); go_simp; try (with_reducible rfl)
    simp only [Act.put, List.setIfInBounds_toArray, List.set_cons_zero, List.set_cons_succ]
    refine wpAnyH_ready (rs := [4]) (by kernel_rfl) (by simp) ?_
    refine AllReadyH.cons (o := { dst := none, op := Go.Op.store 36 (Go.Operand.tmp 8) (Go.Operand.tmp 24), type := 0, pos := "l10_checkpoint.go:214", after := #[{ on := 0, ground := Go.Ground.data }, { on := 0, ground := Go.Ground.phase }, { on := 1, ground := Go.Ground.textOnly Go.Departure.lateStores }, { on := 2, ground := Go.Ground.textOnly Go.Departure.lateStores }, { on := 3, ground := Go.Ground.textOnly Go.Departure.lateStores }], guard := none }) rfl (fun K hK => ?_) AllReadyH.nil
    go_simp
    refine hK.out _ _ ?_ (fun hHeld => ?_)
    · exact GS9.out
    clear hK K
    (try simp only [Act.put, List.setIfInBounds_toArray, List.set_cons_zero, List.set_cons_succ])
    refine wpAnyH_take (i := 5) (oi := { dst := some 9, op := Go.Op.assign (Go.Operand.tmp 27), type := 68, pos := "l10_checkpoint.go:214", after := #[{ on := 3, ground := Go.Ground.data }, { on := 4, ground := Go.Ground.chain }, { on := 0, ground := Go.Ground.phase }, { on := 1, ground := Go.Ground.phase }, { on := 2, ground := Go.Ground.phase }, { on := 3, ground := Go.Ground.phase }, { on := 4, ground := Go.Ground.phase }], guard := none }) (v := ?v10) rfl (by kernel_rfl) (by kernel_rfl) (by kernel_rfl) (fun _ _ _ h => h) (Or.inl ⟨by rfl, ?h10⟩) hHeld ?r10
    case h10 => intro wz hz; (try dsimp only at hz); go_simp; try (with_reducible rfl)
    simp only [Act.put, List.setIfInBounds_toArray, List.set_cons_zero, List.set_cons_succ]
    refine wpAnyH_done (by kernel_rfl) ?_ _
    refine NoPanic.normal ?_
    clear GS9
    go_wp2_with fail
    generalize ((((wb.setCell ⟨y, 0, none⟩ (.int .i64 0)).setCell ⟨y, 1, none⟩ (.int .i64 0)).setCell ⟨y, 2, none⟩ (.slice none 0 0)).setCell ⟨y, 3, none⟩ (.slice none 0 0)) = wf at AF RF ⊢
    have d0 := (blk_cell AF 0 (x := .int .i64 0) rfl).1
    have d1 := (blk_cell AF 1 (x := .int .i64 0) rfl).1
    have d2 := (blk_cell AF 2 (x := .slice none 0 0) rfl).1
    have d3 := (blk_cell AF 3 (x := .slice none 0 0) rfl).1
    refine bodyPost_ret (v := .tuple #[.agg #[.int .i64 0, .int .i64 0, .slice none 0 0, .slice none 0 0], .iface 119 (.agg #[.string ⟨#[112, 105, 101, 99, 101, 115, 32, 97, 110, 100, 32, 112, 114, 111, 111, 102, 115]⟩, .iface 259 (.pointer (some (A 0)))])]) (by simp [results, Tryz.results52, go_sem, d0, d1, d2, d3]) rfl ?_
    rw [HM.out.c, HM.out.t]
    exact ⟨_, _, [], _, rfl, .inr (.inl ⟨_, 0, by decide, rfl, rfl⟩), ⟨rfl, Mem.nil _ _⟩, RF.out.drew⟩
  have h2' : ¬ (4096 : Int) < (qs.length : Int) := by omega
  rw [if_neg (by omega)] at hMS
  go_enter Tryz.func52, Tryz.ntmps52
  go_upto_region 1 with fail
  generalize (w.alloc (.cells #[.int .i64 sq, .int .i64 sz, .string rt, .slice va vs.length vc] 30)).alloc (.cells #[.int .i64 0, .int .i64 0, .slice none 0 0, .slice none 0 0] 36) = wb at HX0 HY0 ⊢
  obtain ⟨y, HY⟩ : ∃ y, Hid (w.heap.size + 1 = y) := ⟨_, rfl⟩
  rw [HY.out] at HY0 HYL0 HYG0 HYG5 HYG7 ⊢
  have HYL : Hid (w.heap.size ≤ y) := HYL0
  have HSE : Hid (∀ W, Below wb.heap.size wb W → Sen W A) := fun W hW => HSE0.out _ (HY0.out _ hW).2
  clear HYL0
  have G0 : Hid (Below w.heap.size w wb) := (HY0.out _ (Below.refl _ _)).2
  by_cases hn : fCode n = 0
  case neg =>
    rw [if_neg hn] at hMS
    have HM : Hid (It n sq sz rt vs ps qs 4 zTab) := it_no hMS (by decide)
    have HNF := nodesFault_bad n hn (HSE.out wb (Below.refl _ _))
    unfold fnd sen at HNF
    clear hMS hn HST HPF HRW HQZ
    go_wp2_with fail
    refine HNF.mono ?_
    rintro e w1 ⟨rfl, b1⟩
    obtain ⟨k9, g9⟩ := HY0.out _ (b1)
    obtain ⟨m0, n0⟩ := blk_cell k9 0 (x := .int .i64 0) rfl
    obtain ⟨m1, n1⟩ := blk_cell k9 1 (x := .int .i64 0) rfl
    obtain ⟨m2, n2⟩ := blk_cell k9 2 (x := .slice none 0 0) rfl
    obtain ⟨m3, n3⟩ := blk_cell k9 3 (x := .slice none 0 0) rfl
    have AF : ((((w1.setCell ⟨y, 0, none⟩ (.int .i64 0)).setCell ⟨y, 1, none⟩ (.int .i64 0)).setCell ⟨y, 2, none⟩ (.slice none 0 0)).setCell ⟨y, 3, none⟩ (.slice none 0 0)).heap[y]? = some (.cells #[.int .i64 0, .int .i64 0, .slice none 0 0, .slice none 0 0] 36 (0, 0)) := (blk_set (blk_set (blk_set (blk_set k9 0 (.int .i64 0)) 1 (.int .i64 0)) 2 (.slice none 0 0)) 3 (.slice none 0 0))
    have RF : Hid (Below w.heap.size w ((((w1.setCell ⟨y, 0, none⟩ (.int .i64 0)).setCell ⟨y, 1, none⟩ (.int .i64 0)).setCell ⟨y, 2, none⟩ (.slice none 0 0)).setCell ⟨y, 3, none⟩ (.slice none 0 0))) := (Below.setCell (Below.setCell (Below.setCell (Below.setCell g9 (p := ⟨y, 0, none⟩) (HYL.out) (.int .i64 0)) (p := ⟨y, 1, none⟩) (HYL.out) (.int .i64 0)) (p := ⟨y, 2, none⟩) (HYL.out) (.slice none 0 0)) (p := ⟨y, 3, none⟩) (HYL.out) (.slice none 0 0))
    clear g9 k9
    go_wp2_with fail
    generalize ((((w1.setCell ⟨y, 0, none⟩ (.int .i64 0)).setCell ⟨y, 1, none⟩ (.int .i64 0)).setCell ⟨y, 2, none⟩ (.slice none 0 0)).setCell ⟨y, 3, none⟩ (.slice none 0 0)) = wf at AF RF ⊢
    have d0 := (blk_cell AF 0 (x := .int .i64 0) rfl).1
    have d1 := (blk_cell AF 1 (x := .int .i64 0) rfl).1
    have d2 := (blk_cell AF 2 (x := .slice none 0 0) rfl).1
    have d3 := (blk_cell AF 3 (x := .slice none 0 0) rfl).1
    refine bodyPost_ret (v := .tuple #[.agg #[.int .i64 0, .int .i64 0, .slice none 0 0, .slice none 0 0], .iface 119 (.agg #[.string tNo, .iface 259 (.pointer (some (A 2)))])]) (by simp [results, Tryz.results52, go_sem, d0, d1, d2, d3]) rfl ?_
    rw [HM.out.c, HM.out.t]
    exact ⟨_, _, [], _, rfl, .inr (.inl ⟨tNo, 2, by decide, rfl, rfl⟩), ⟨rfl, Mem.nil _ _⟩, RF.out⟩
  case pos =>
  rw [if_pos hn] at hMS
  have HNF := nodesFault_nil n wb hn
  clear hn
  go_wp2_with fail
  refine HNF.mono ?_
  rintro e w1 ⟨rfl, b1⟩
  have B1 : Hid (Below wb.heap.size wb w1) := b1
  clear b1 HNF
  obtain ⟨c0, c1, c2, c3⟩ := HX0.out _ B1.out
  go_wp2_with fail
  refine (HST.out _ (HY0.out _ B1.out).2).mono ?_
  rintro e w2 ⟨rfl, b2⟩
  have B2 : Hid (Below wb.heap.size wb w2) := B1.out.trans (b2.mono B1.out.size)
  clear b2 c0 c1 c2 c3 B1 HST
  cases hst : stB n sq sz rt vs
  case false =>
    rw [if_neg (fun hh => by rw [hst] at hh; cases hh)] at hMS
    have HM : Hid (It n sq sz rt vs ps qs 12 zTab) := it_no hMS (by decide)
    clear hMS hst HPF HRW HQZ
    obtain ⟨k9, g9⟩ := HY0.out _ (B2.out)
    obtain ⟨m0, n0⟩ := blk_cell k9 0 (x := .int .i64 0) rfl
    obtain ⟨m1, n1⟩ := blk_cell k9 1 (x := .int .i64 0) rfl
    obtain ⟨m2, n2⟩ := blk_cell k9 2 (x := .slice none 0 0) rfl
    obtain ⟨m3, n3⟩ := blk_cell k9 3 (x := .slice none 0 0) rfl
    have AF : ((((w2.setCell ⟨y, 0, none⟩ (.int .i64 0)).setCell ⟨y, 1, none⟩ (.int .i64 0)).setCell ⟨y, 2, none⟩ (.slice none 0 0)).setCell ⟨y, 3, none⟩ (.slice none 0 0)).heap[y]? = some (.cells #[.int .i64 0, .int .i64 0, .slice none 0 0, .slice none 0 0] 36 (0, 0)) := (blk_set (blk_set (blk_set (blk_set k9 0 (.int .i64 0)) 1 (.int .i64 0)) 2 (.slice none 0 0)) 3 (.slice none 0 0))
    have RF : Hid (Below w.heap.size w ((((w2.setCell ⟨y, 0, none⟩ (.int .i64 0)).setCell ⟨y, 1, none⟩ (.int .i64 0)).setCell ⟨y, 2, none⟩ (.slice none 0 0)).setCell ⟨y, 3, none⟩ (.slice none 0 0))) := (Below.setCell (Below.setCell (Below.setCell (Below.setCell g9 (p := ⟨y, 0, none⟩) (HYL.out) (.int .i64 0)) (p := ⟨y, 1, none⟩) (HYL.out) (.int .i64 0)) (p := ⟨y, 2, none⟩) (HYL.out) (.slice none 0 0)) (p := ⟨y, 3, none⟩) (HYL.out) (.slice none 0 0))
    clear g9 k9
    have GS := (HSE.out _ (B2.out)).g5
    unfold sen at GS
    have GS9 : Hid (((((w2.setCell ⟨y, 0, none⟩ (.int .i64 0)).setCell ⟨y, 1, none⟩ (.int .i64 0)).setCell ⟨y, 2, none⟩ (.slice none 0 0)).setCell ⟨y, 3, none⟩ (.slice none 0 0)).cell? ⟨3, 0, none⟩ = some (.iface 259 (.pointer (some (A 5))))) := ((World.cell?_of_block (a := ⟨3, 0, none⟩) (blk_far HYG5.out 3 (.slice none 0 0))).trans ((World.cell?_of_block (a := ⟨3, 0, none⟩) (blk_far HYG5.out 2 (.slice none 0 0))).trans ((World.cell?_of_block (a := ⟨3, 0, none⟩) (blk_far HYG5.out 1 (.int .i64 0))).trans ((World.cell?_of_block (a := ⟨3, 0, none⟩) (blk_far HYG5.out 0 (.int .i64 0))).trans GS))))
    go_upto_region 7 with fail
    refine wp_region_noPanic ?_
    refine wp_region_held_drew (S := (fun W => W.cell? ⟨3, 0, none⟩ = some (.iface 259 (.pointer (some (A 5)))))) (by kernel_rfl) GS (fun hHeld => ?_)
    refine wpAnyH_take (i := 0) (oi := { dst := some 38, op := Go.Op.build 36 #[], type := 36, pos := "l10_checkpoint.go:220", after := #[], guard := none }) (v := ?v11) rfl (by kernel_rfl) (by kernel_rfl) (by kernel_rfl) (fun _ _ _ h => h) (Or.inl ⟨by rfl, ?h11⟩) hHeld ?r11
    case h11 => intro wz hz; (try dsimp only at hz); go_simp; try (with_reducible rfl)
    simp only [Act.put, List.setIfInBounds_toArray, List.set_cons_zero, List.set_cons_succ]
    refine wpAnyH_take (i := 1) (oi := { dst := some 39, op := Go.Op.load 68 (Go.Operand.global 3), type := 68, pos := "l10_checkpoint.go:220", after := #[], guard := none }) (v := ?v12) rfl (by kernel_rfl) (by kernel_rfl) (by kernel_rfl) (fun _ _ _ h => h) (Or.inl ⟨by rfl, ?h12⟩) hHeld ?r12
    case h12 => intro wz hz; (try dsimp only at hz); go_simp; try (with_reducible rfl)
    simp only [Act.put, List.setIfInBounds_toArray, List.set_cons_zero, List.set_cons_succ]
    refine wpAnyH_take (i := 2) (oi := { dst := some 40, op := Go.Op.build 119 #[(0, Go.Operand.const (Go.Value.string { data := #[99, 104, 101, 99, 107, 112, 111, 105, 110, 116] })), (1, Go.Operand.tmp 39)], type := 119, pos := "l10_checkpoint.go:220", after := #[{ on := 1, ground := Go.Ground.data }], guard := none }) (v := ?v13) rfl (by kernel_rfl) (by kernel_rfl) (by kernel_rfl) (fun _ _ _ h => h) (Or.inl ⟨by rfl, ?h13⟩) hHeld ?r13
    case h13 => intro wz hz; (try dsimp only at hz); go_simp; try (with_reducible rfl)
    simp only [Act.put, List.setIfInBounds_toArray, List.set_cons_zero, List.set_cons_succ]
    refine wpAnyH_take (i := 3) (oi := { dst := some 41, op := Go.Op.makeInterface 119 (Go.Operand.tmp 40), type := 68, pos := "l10_checkpoint.go:220", after := #[{ on := 2, ground := Go.Ground.data }, { on := 4, ground := Go.Ground.gcOnly Go.Departure.lateStores }], guard := none }) (v := ?v14) rfl (by kernel_rfl) (by kernel_rfl) (by kernel_rfl) (fun _ _ _ h => h) (Or.inl ⟨by rfl, ?h14⟩) hHeld ?r14
    case h14 => intro wz hz; (try dsimp only at hz); go_simp; try (with_reducible rfl)
    simp only [Act.put, List.setIfInBounds_toArray, List.set_cons_zero, List.set_cons_succ]
    refine wpAnyH_ready (rs := [4]) (by kernel_rfl) (by simp) ?_
    refine AllReadyH.cons (o := { dst := none, op := Go.Op.store 36 (Go.Operand.tmp 8) (Go.Operand.tmp 38), type := 0, pos := "l10_checkpoint.go:220", after := #[{ on := 0, ground := Go.Ground.data }, { on := 0, ground := Go.Ground.phase }, { on := 1, ground := Go.Ground.textOnly Go.Departure.lateStores }, { on := 2, ground := Go.Ground.textOnly Go.Departure.lateStores }, { on := 3, ground := Go.Ground.textOnly Go.Departure.lateStores }], guard := none }) rfl (fun K hK => ?_) AllReadyH.nil
    go_simp
    refine hK.out _ _ ?_ (fun hHeld => ?_)
    · exact GS9.out
    clear hK K
    (try simp only [Act.put, List.setIfInBounds_toArray, List.set_cons_zero, List.set_cons_succ])
    refine wpAnyH_take (i := 5) (oi := { dst := some 9, op := Go.Op.assign (Go.Operand.tmp 41), type := 68, pos := "l10_checkpoint.go:220", after := #[{ on := 3, ground := Go.Ground.data }, { on := 4, ground := Go.Ground.chain }, { on := 0, ground := Go.Ground.phase }, { on := 1, ground := Go.Ground.phase }, { on := 2, ground := Go.Ground.phase }, { on := 3, ground := Go.Ground.phase }, { on := 4, ground := Go.Ground.phase }], guard := none }) (v := ?v15) rfl (by kernel_rfl) (by kernel_rfl) (by kernel_rfl) (fun _ _ _ h => h) (Or.inl ⟨by rfl, ?h15⟩) hHeld ?r15
    case h15 => intro wz hz; (try dsimp only at hz); go_simp; try (with_reducible rfl)
    simp only [Act.put, List.setIfInBounds_toArray, List.set_cons_zero, List.set_cons_succ]
    refine wpAnyH_done (by kernel_rfl) ?_ _
    refine NoPanic.normal ?_
    clear GS9
    go_wp2_with fail
    generalize ((((w2.setCell ⟨y, 0, none⟩ (.int .i64 0)).setCell ⟨y, 1, none⟩ (.int .i64 0)).setCell ⟨y, 2, none⟩ (.slice none 0 0)).setCell ⟨y, 3, none⟩ (.slice none 0 0)) = wf at AF RF ⊢
    have d0 := (blk_cell AF 0 (x := .int .i64 0) rfl).1
    have d1 := (blk_cell AF 1 (x := .int .i64 0) rfl).1
    have d2 := (blk_cell AF 2 (x := .slice none 0 0) rfl).1
    have d3 := (blk_cell AF 3 (x := .slice none 0 0) rfl).1
    refine bodyPost_ret (v := .tuple #[.agg #[.int .i64 0, .int .i64 0, .slice none 0 0, .slice none 0 0], .iface 119 (.agg #[.string ⟨#[99, 104, 101, 99, 107, 112, 111, 105, 110, 116]⟩, .iface 259 (.pointer (some (A 5)))])]) (by simp [results, Tryz.results52, go_sem, d0, d1, d2, d3]) rfl ?_
    rw [HM.out.c, HM.out.t]
    exact ⟨_, _, [], _, rfl, .inr (.inl ⟨_, 5, by decide, rfl, rfl⟩), ⟨rfl, Mem.nil _ _⟩, RF.out.drew⟩
  case true =>
  rw [if_pos hst] at hMS
  have HSZ : Hid (1 ≤ sz) := st_sz hst
  clear hst
  obtain ⟨c0, c1, c2, c3⟩ := HX0.out _ B2.out
  go_wp2_with fail
  refine (HPF.out _ (HY0.out _ B2.out).2).mono ?_
  rintro e w3 ⟨rfl, rfl⟩
  clear HPF
  by_cases hpc : PcP ps
  case neg =>
    rw [pcC_bad h1 hpc]
    have hMS1 : itC n sq sz rt vs ps qs = 1 := by rw [hMS, if_neg (fun hh => by rw [pcB_no hpc] at hh; cases hh.1)]
    have HM : Hid (It n sq sz rt vs ps qs 1 zTab) := it_no hMS1 (by decide)
    clear hMS hMS1 hpc HRW HQZ c0 c2 c3
    obtain ⟨k9, g9⟩ := HY0.out _ (B2.out)
    obtain ⟨m0, n0⟩ := blk_cell k9 0 (x := .int .i64 0) rfl
    obtain ⟨m1, n1⟩ := blk_cell k9 1 (x := .int .i64 0) rfl
    obtain ⟨m2, n2⟩ := blk_cell k9 2 (x := .slice none 0 0) rfl
    obtain ⟨m3, n3⟩ := blk_cell k9 3 (x := .slice none 0 0) rfl
    have AF : ((((w2.setCell ⟨y, 0, none⟩ (.int .i64 0)).setCell ⟨y, 1, none⟩ (.int .i64 0)).setCell ⟨y, 2, none⟩ (.slice none 0 0)).setCell ⟨y, 3, none⟩ (.slice none 0 0)).heap[y]? = some (.cells #[.int .i64 0, .int .i64 0, .slice none 0 0, .slice none 0 0] 36 (0, 0)) := (blk_set (blk_set (blk_set (blk_set k9 0 (.int .i64 0)) 1 (.int .i64 0)) 2 (.slice none 0 0)) 3 (.slice none 0 0))
    have RF : Hid (Below w.heap.size w ((((w2.setCell ⟨y, 0, none⟩ (.int .i64 0)).setCell ⟨y, 1, none⟩ (.int .i64 0)).setCell ⟨y, 2, none⟩ (.slice none 0 0)).setCell ⟨y, 3, none⟩ (.slice none 0 0))) := (Below.setCell (Below.setCell (Below.setCell (Below.setCell g9 (p := ⟨y, 0, none⟩) (HYL.out) (.int .i64 0)) (p := ⟨y, 1, none⟩) (HYL.out) (.int .i64 0)) (p := ⟨y, 2, none⟩) (HYL.out) (.slice none 0 0)) (p := ⟨y, 3, none⟩) (HYL.out) (.slice none 0 0))
    clear g9 k9
    have GS := (HSE.out _ (B2.out)).g7
    unfold sen at GS
    have GS9 : Hid (((((w2.setCell ⟨y, 0, none⟩ (.int .i64 0)).setCell ⟨y, 1, none⟩ (.int .i64 0)).setCell ⟨y, 2, none⟩ (.slice none 0 0)).setCell ⟨y, 3, none⟩ (.slice none 0 0)).cell? ⟨4, 0, none⟩ = some (.iface 259 (.pointer (some (A 7))))) := ((World.cell?_of_block (a := ⟨4, 0, none⟩) (blk_far HYG7.out 3 (.slice none 0 0))).trans ((World.cell?_of_block (a := ⟨4, 0, none⟩) (blk_far HYG7.out 2 (.slice none 0 0))).trans ((World.cell?_of_block (a := ⟨4, 0, none⟩) (blk_far HYG7.out 1 (.int .i64 0))).trans ((World.cell?_of_block (a := ⟨4, 0, none⟩) (blk_far HYG7.out 0 (.int .i64 0))).trans GS))))
    go_upto_region 9 with fail
    refine wp_region_noPanic ?_
    refine wp_region_held_drew (S := (fun W => W.cell? ⟨4, 0, none⟩ = some (.iface 259 (.pointer (some (A 7)))))) (by kernel_rfl) GS (fun hHeld => ?_)
    refine wpAnyH_take (i := 0) (oi := { dst := some 59, op := Go.Op.build 36 #[], type := 36, pos := "l10_checkpoint.go:223", after := #[], guard := none }) (v := ?v16) rfl (by kernel_rfl) (by kernel_rfl) (by kernel_rfl) (fun _ _ _ h => h) (Or.inl ⟨by rfl, ?h16⟩) hHeld ?r16
    case h16 => intro wz hz; (try dsimp only at hz); go_simp; try (with_reducible rfl)
    simp only [Act.put, List.setIfInBounds_toArray, List.set_cons_zero, List.set_cons_succ]
    refine wpAnyH_take (i := 1) (oi := { dst := some 60, op := Go.Op.load 68 (Go.Operand.global 4), type := 68, pos := "l10_checkpoint.go:223", after := #[], guard := none }) (v := ?v17) rfl (by kernel_rfl) (by kernel_rfl) (by kernel_rfl) (fun _ _ _ h => h) (Or.inl ⟨by rfl, ?h17⟩) hHeld ?r17
    case h17 => intro wz hz; (try dsimp only at hz); go_simp; try (with_reducible rfl)
    simp only [Act.put, List.setIfInBounds_toArray, List.set_cons_zero, List.set_cons_succ]
    refine wpAnyH_take (i := 2) (oi := { dst := some 61, op := Go.Op.build 119 #[(0, Go.Operand.const (Go.Value.string { data := #[112, 105, 101, 99, 101, 115, 32, 97, 110, 100, 32, 112, 114, 111, 111, 102, 115] })), (1, Go.Operand.tmp 60)], type := 119, pos := "l10_checkpoint.go:223", after := #[{ on := 1, ground := Go.Ground.data }], guard := none }) (v := ?v18) rfl (by kernel_rfl) (by kernel_rfl) (by kernel_rfl) (fun _ _ _ h => h) (Or.inl ⟨by rfl, ?h18⟩) hHeld ?r18
    case h18 => intro wz hz; (try dsimp only at hz); go_simp; try (with_reducible rfl)
    simp only [Act.put, List.setIfInBounds_toArray, List.set_cons_zero, List.set_cons_succ]
    refine wpAnyH_take (i := 3) (oi := { dst := some 62, op := Go.Op.makeInterface 119 (Go.Operand.tmp 61), type := 68, pos := "l10_checkpoint.go:223", after := #[{ on := 2, ground := Go.Ground.data }, { on := 4, ground := Go.Ground.gcOnly Go.Departure.lateStores }], guard := none }) (v := ?v19) rfl (by kernel_rfl) (by kernel_rfl) (by kernel_rfl) (fun _ _ _ h => h) (Or.inl ⟨by rfl, ?h19⟩) hHeld ?r19
    case h19 => intro wz hz; (try dsimp only at hz); go_simp; try (with_reducible rfl)
    simp only [Act.put, List.setIfInBounds_toArray, List.set_cons_zero, List.set_cons_succ]
    refine wpAnyH_ready (rs := [4]) (by kernel_rfl) (by simp) ?_
    refine AllReadyH.cons (o := { dst := none, op := Go.Op.store 36 (Go.Operand.tmp 8) (Go.Operand.tmp 59), type := 0, pos := "l10_checkpoint.go:223", after := #[{ on := 0, ground := Go.Ground.data }, { on := 0, ground := Go.Ground.phase }, { on := 1, ground := Go.Ground.textOnly Go.Departure.lateStores }, { on := 2, ground := Go.Ground.textOnly Go.Departure.lateStores }, { on := 3, ground := Go.Ground.textOnly Go.Departure.lateStores }], guard := none }) rfl (fun K hK => ?_) AllReadyH.nil
    go_simp
    refine hK.out _ _ ?_ (fun hHeld => ?_)
    · exact GS9.out
    clear hK K
    (try simp only [Act.put, List.setIfInBounds_toArray, List.set_cons_zero, List.set_cons_succ])
    refine wpAnyH_take (i := 5) (oi := { dst := some 9, op := Go.Op.assign (Go.Operand.tmp 62), type := 68, pos := "l10_checkpoint.go:223", after := #[{ on := 3, ground := Go.Ground.data }, { on := 4, ground := Go.Ground.chain }, { on := 0, ground := Go.Ground.phase }, { on := 1, ground := Go.Ground.phase }, { on := 2, ground := Go.Ground.phase }, { on := 3, ground := Go.Ground.phase }, { on := 4, ground := Go.Ground.phase }], guard := none }) (v := ?v20) rfl (by kernel_rfl) (by kernel_rfl) (by kernel_rfl) (fun _ _ _ h => h) (Or.inl ⟨by rfl, ?h20⟩) hHeld ?r20
    case h20 => intro wz hz; (try dsimp only at hz); go_simp; try (with_reducible rfl)
    simp only [Act.put, List.setIfInBounds_toArray, List.set_cons_zero, List.set_cons_succ]
    refine wpAnyH_done (by kernel_rfl) ?_ _
    refine NoPanic.normal ?_
    clear GS9
    go_wp2_with fail
    generalize ((((w2.setCell ⟨y, 0, none⟩ (.int .i64 0)).setCell ⟨y, 1, none⟩ (.int .i64 0)).setCell ⟨y, 2, none⟩ (.slice none 0 0)).setCell ⟨y, 3, none⟩ (.slice none 0 0)) = wf at AF RF ⊢
    have d0 := (blk_cell AF 0 (x := .int .i64 0) rfl).1
    have d1 := (blk_cell AF 1 (x := .int .i64 0) rfl).1
    have d2 := (blk_cell AF 2 (x := .slice none 0 0) rfl).1
    have d3 := (blk_cell AF 3 (x := .slice none 0 0) rfl).1
    refine bodyPost_ret (v := .tuple #[.agg #[.int .i64 0, .int .i64 0, .slice none 0 0, .slice none 0 0], .iface 119 (.agg #[.string ⟨#[112, 105, 101, 99, 101, 115, 32, 97, 110, 100, 32, 112, 114, 111, 111, 102, 115]⟩, .iface 259 (.pointer (some (A 7)))])]) (by simp [results, Tryz.results52, go_sem, d0, d1, d2, d3]) rfl ?_
    rw [HM.out.c, HM.out.t]
    exact ⟨_, _, [], _, rfl, .inr (.inl ⟨_, 7, by decide, rfl, rfl⟩), ⟨rfl, Mem.nil _ _⟩, RF.out.drew⟩
  case pos =>
  rw [pcC_ok hpc]
  by_cases hz1 : (ps.length : Int) = sz
  case neg =>
    have hz1' : ((ps.length : Int) != sz) = true := by simpa using hz1
    have hMS1 : itC n sq sz rt vs ps qs = 1 := by rw [hMS, if_neg (fun hh => hz1 hh.2.1)]
    have HM : Hid (It n sq sz rt vs ps qs 1 zTab) := it_no hMS1 (by decide)
    clear hMS hMS1 hpc hz1 HRW HQZ c0 c2 c3
    obtain ⟨k9, g9⟩ := HY0.out _ (B2.out)
    obtain ⟨m0, n0⟩ := blk_cell k9 0 (x := .int .i64 0) rfl
    obtain ⟨m1, n1⟩ := blk_cell k9 1 (x := .int .i64 0) rfl
    obtain ⟨m2, n2⟩ := blk_cell k9 2 (x := .slice none 0 0) rfl
    obtain ⟨m3, n3⟩ := blk_cell k9 3 (x := .slice none 0 0) rfl
    have AF : ((((w2.setCell ⟨y, 0, none⟩ (.int .i64 0)).setCell ⟨y, 1, none⟩ (.int .i64 0)).setCell ⟨y, 2, none⟩ (.slice none 0 0)).setCell ⟨y, 3, none⟩ (.slice none 0 0)).heap[y]? = some (.cells #[.int .i64 0, .int .i64 0, .slice none 0 0, .slice none 0 0] 36 (0, 0)) := (blk_set (blk_set (blk_set (blk_set k9 0 (.int .i64 0)) 1 (.int .i64 0)) 2 (.slice none 0 0)) 3 (.slice none 0 0))
    have RF : Hid (Below w.heap.size w ((((w2.setCell ⟨y, 0, none⟩ (.int .i64 0)).setCell ⟨y, 1, none⟩ (.int .i64 0)).setCell ⟨y, 2, none⟩ (.slice none 0 0)).setCell ⟨y, 3, none⟩ (.slice none 0 0))) := (Below.setCell (Below.setCell (Below.setCell (Below.setCell g9 (p := ⟨y, 0, none⟩) (HYL.out) (.int .i64 0)) (p := ⟨y, 1, none⟩) (HYL.out) (.int .i64 0)) (p := ⟨y, 2, none⟩) (HYL.out) (.slice none 0 0)) (p := ⟨y, 3, none⟩) (HYL.out) (.slice none 0 0))
    clear g9 k9
    have GS := (HSE.out _ (B2.out)).g7
    unfold sen at GS
    have GS9 : Hid (((((w2.setCell ⟨y, 0, none⟩ (.int .i64 0)).setCell ⟨y, 1, none⟩ (.int .i64 0)).setCell ⟨y, 2, none⟩ (.slice none 0 0)).setCell ⟨y, 3, none⟩ (.slice none 0 0)).cell? ⟨4, 0, none⟩ = some (.iface 259 (.pointer (some (A 7))))) := ((World.cell?_of_block (a := ⟨4, 0, none⟩) (blk_far HYG7.out 3 (.slice none 0 0))).trans ((World.cell?_of_block (a := ⟨4, 0, none⟩) (blk_far HYG7.out 2 (.slice none 0 0))).trans ((World.cell?_of_block (a := ⟨4, 0, none⟩) (blk_far HYG7.out 1 (.int .i64 0))).trans ((World.cell?_of_block (a := ⟨4, 0, none⟩) (blk_far HYG7.out 0 (.int .i64 0))).trans GS))))
    go_upto_region 9 with fail
    refine wp_region_noPanic ?_
    refine wp_region_held_drew (S := (fun W => W.cell? ⟨4, 0, none⟩ = some (.iface 259 (.pointer (some (A 7)))))) (by kernel_rfl) GS (fun hHeld => ?_)
    refine wpAnyH_take (i := 0) (oi := { dst := some 59, op := Go.Op.build 36 #[], type := 36, pos := "l10_checkpoint.go:223", after := #[], guard := none }) (v := ?v21) rfl (by kernel_rfl) (by kernel_rfl) (by kernel_rfl) (fun _ _ _ h => h) (Or.inl ⟨by rfl, ?h21⟩) hHeld ?r21
    case h21 => intro wz hz; (try dsimp only at hz); go_simp; try (with_reducible rfl)
    simp only [Act.put, List.setIfInBounds_toArray, List.set_cons_zero, List.set_cons_succ]
    refine wpAnyH_take (i := 1) (oi := { dst := some 60, op := Go.Op.load 68 (Go.Operand.global 4), type := 68, pos := "l10_checkpoint.go:223", after := #[], guard := none }) (v := ?v22) rfl (by kernel_rfl) (by kernel_rfl) (by kernel_rfl) (fun _ _ _ h => h) (Or.inl ⟨by rfl, ?h22⟩) hHeld ?r22
    case h22 => intro wz hz; (try dsimp only at hz); go_simp; try (with_reducible rfl)
    simp only [Act.put, List.setIfInBounds_toArray, List.set_cons_zero, List.set_cons_succ]
    refine wpAnyH_take (i := 2) (oi := { dst := some 61, op := Go.Op.build 119 #[(0, Go.Operand.const (Go.Value.string { data := #[112, 105, 101, 99, 101, 115, 32, 97, 110, 100, 32, 112, 114, 111, 111, 102, 115] })), (1, Go.Operand.tmp 60)], type := 119, pos := "l10_checkpoint.go:223", after := #[{ on := 1, ground := Go.Ground.data }], guard := none }) (v := ?v23) rfl (by kernel_rfl) (by kernel_rfl) (by kernel_rfl) (fun _ _ _ h => h) (Or.inl ⟨by rfl, ?h23⟩) hHeld ?r23
    case h23 => intro wz hz; (try dsimp only at hz); go_simp; try (with_reducible rfl)
    simp only [Act.put, List.setIfInBounds_toArray, List.set_cons_zero, List.set_cons_succ]
    refine wpAnyH_take (i := 3) (oi := { dst := some 62, op := Go.Op.makeInterface 119 (Go.Operand.tmp 61), type := 68, pos := "l10_checkpoint.go:223", after := #[{ on := 2, ground := Go.Ground.data }, { on := 4, ground := Go.Ground.gcOnly Go.Departure.lateStores }], guard := none }) (v := ?v24) rfl (by kernel_rfl) (by kernel_rfl) (by kernel_rfl) (fun _ _ _ h => h) (Or.inl ⟨by rfl, ?h24⟩) hHeld ?r24
    case h24 => intro wz hz; (try dsimp only at hz); go_simp; try (with_reducible rfl)
    simp only [Act.put, List.setIfInBounds_toArray, List.set_cons_zero, List.set_cons_succ]
    refine wpAnyH_ready (rs := [4]) (by kernel_rfl) (by simp) ?_
    refine AllReadyH.cons (o := { dst := none, op := Go.Op.store 36 (Go.Operand.tmp 8) (Go.Operand.tmp 59), type := 0, pos := "l10_checkpoint.go:223", after := #[{ on := 0, ground := Go.Ground.data }, { on := 0, ground := Go.Ground.phase }, { on := 1, ground := Go.Ground.textOnly Go.Departure.lateStores }, { on := 2, ground := Go.Ground.textOnly Go.Departure.lateStores }, { on := 3, ground := Go.Ground.textOnly Go.Departure.lateStores }], guard := none }) rfl (fun K hK => ?_) AllReadyH.nil
    go_simp
    refine hK.out _ _ ?_ (fun hHeld => ?_)
    · exact GS9.out
    clear hK K
    (try simp only [Act.put, List.setIfInBounds_toArray, List.set_cons_zero, List.set_cons_succ])
    refine wpAnyH_take (i := 5) (oi := { dst := some 9, op := Go.Op.assign (Go.Operand.tmp 62), type := 68, pos := "l10_checkpoint.go:223", after := #[{ on := 3, ground := Go.Ground.data }, { on := 4, ground := Go.Ground.chain }, { on := 0, ground := Go.Ground.phase }, { on := 1, ground := Go.Ground.phase }, { on := 2, ground := Go.Ground.phase }, { on := 3, ground := Go.Ground.phase }, { on := 4, ground := Go.Ground.phase }], guard := none }) (v := ?v25) rfl (by kernel_rfl) (by kernel_rfl) (by kernel_rfl) (fun _ _ _ h => h) (Or.inl ⟨by rfl, ?h25⟩) hHeld ?r25
    case h25 => intro wz hz; (try dsimp only at hz); go_simp; try (with_reducible rfl)
    simp only [Act.put, List.setIfInBounds_toArray, List.set_cons_zero, List.set_cons_succ]
    refine wpAnyH_done (by kernel_rfl) ?_ _
    refine NoPanic.normal ?_
    clear GS9
    go_wp2_with fail
    generalize ((((w2.setCell ⟨y, 0, none⟩ (.int .i64 0)).setCell ⟨y, 1, none⟩ (.int .i64 0)).setCell ⟨y, 2, none⟩ (.slice none 0 0)).setCell ⟨y, 3, none⟩ (.slice none 0 0)) = wf at AF RF ⊢
    have d0 := (blk_cell AF 0 (x := .int .i64 0) rfl).1
    have d1 := (blk_cell AF 1 (x := .int .i64 0) rfl).1
    have d2 := (blk_cell AF 2 (x := .slice none 0 0) rfl).1
    have d3 := (blk_cell AF 3 (x := .slice none 0 0) rfl).1
    refine bodyPost_ret (v := .tuple #[.agg #[.int .i64 0, .int .i64 0, .slice none 0 0, .slice none 0 0], .iface 119 (.agg #[.string ⟨#[112, 105, 101, 99, 101, 115, 32, 97, 110, 100, 32, 112, 114, 111, 111, 102, 115]⟩, .iface 259 (.pointer (some (A 7)))])]) (by simp [results, Tryz.results52, go_sem, d0, d1, d2, d3]) rfl ?_
    rw [HM.out.c, HM.out.t]
    exact ⟨_, _, [], _, rfl, .inr (.inl ⟨_, 7, by decide, rfl, rfl⟩), ⟨rfl, Mem.nil _ _⟩, RF.out.drew⟩
  case pos =>
  have hz1' : ((ps.length : Int) != sz) = false := by simpa using hz1
  by_cases hz2 : (qs.length : Int) = sz
  case neg =>
    have hz2' : ((qs.length : Int) != sz) = true := by simpa using hz2
    have hMS1 : itC n sq sz rt vs ps qs = 1 := by rw [hMS, if_neg (fun hh => hz2 hh.2.2)]
    have HM : Hid (It n sq sz rt vs ps qs 1 zTab) := it_no hMS1 (by decide)
    clear hMS hMS1 hpc hz1 hz2 HRW HQZ c0 c2 c3
    obtain ⟨k9, g9⟩ := HY0.out _ (B2.out)
    obtain ⟨m0, n0⟩ := blk_cell k9 0 (x := .int .i64 0) rfl
    obtain ⟨m1, n1⟩ := blk_cell k9 1 (x := .int .i64 0) rfl
    obtain ⟨m2, n2⟩ := blk_cell k9 2 (x := .slice none 0 0) rfl
    obtain ⟨m3, n3⟩ := blk_cell k9 3 (x := .slice none 0 0) rfl
    have AF : ((((w2.setCell ⟨y, 0, none⟩ (.int .i64 0)).setCell ⟨y, 1, none⟩ (.int .i64 0)).setCell ⟨y, 2, none⟩ (.slice none 0 0)).setCell ⟨y, 3, none⟩ (.slice none 0 0)).heap[y]? = some (.cells #[.int .i64 0, .int .i64 0, .slice none 0 0, .slice none 0 0] 36 (0, 0)) := (blk_set (blk_set (blk_set (blk_set k9 0 (.int .i64 0)) 1 (.int .i64 0)) 2 (.slice none 0 0)) 3 (.slice none 0 0))
    have RF : Hid (Below w.heap.size w ((((w2.setCell ⟨y, 0, none⟩ (.int .i64 0)).setCell ⟨y, 1, none⟩ (.int .i64 0)).setCell ⟨y, 2, none⟩ (.slice none 0 0)).setCell ⟨y, 3, none⟩ (.slice none 0 0))) := (Below.setCell (Below.setCell (Below.setCell (Below.setCell g9 (p := ⟨y, 0, none⟩) (HYL.out) (.int .i64 0)) (p := ⟨y, 1, none⟩) (HYL.out) (.int .i64 0)) (p := ⟨y, 2, none⟩) (HYL.out) (.slice none 0 0)) (p := ⟨y, 3, none⟩) (HYL.out) (.slice none 0 0))
    clear g9 k9
    have GS := (HSE.out _ (B2.out)).g7
    unfold sen at GS
    have GS9 : Hid (((((w2.setCell ⟨y, 0, none⟩ (.int .i64 0)).setCell ⟨y, 1, none⟩ (.int .i64 0)).setCell ⟨y, 2, none⟩ (.slice none 0 0)).setCell ⟨y, 3, none⟩ (.slice none 0 0)).cell? ⟨4, 0, none⟩ = some (.iface 259 (.pointer (some (A 7))))) := ((World.cell?_of_block (a := ⟨4, 0, none⟩) (blk_far HYG7.out 3 (.slice none 0 0))).trans ((World.cell?_of_block (a := ⟨4, 0, none⟩) (blk_far HYG7.out 2 (.slice none 0 0))).trans ((World.cell?_of_block (a := ⟨4, 0, none⟩) (blk_far HYG7.out 1 (.int .i64 0))).trans ((World.cell?_of_block (a := ⟨4, 0, none⟩) (blk_far HYG7.out 0 (.int .i64 0))).trans GS))))
    go_upto_region 9 with fail
    refine wp_region_noPanic ?_
    refine wp_region_held_drew (S := (fun W => W.cell? ⟨4, 0, none⟩ = some (.iface 259 (.pointer (some (A 7)))))) (by kernel_rfl) GS (fun hHeld => ?_)
    refine wpAnyH_take (i := 0) (oi := { dst := some 59, op := Go.Op.build 36 #[], type := 36, pos := "l10_checkpoint.go:223", after := #[], guard := none }) (v := ?v26) rfl (by kernel_rfl) (by kernel_rfl) (by kernel_rfl) (fun _ _ _ h => h) (Or.inl ⟨by rfl, ?h26⟩) hHeld ?r26
    case h26 => intro wz hz; (try dsimp only at hz); go_simp; try (with_reducible rfl)
    simp only [Act.put, List.setIfInBounds_toArray, List.set_cons_zero, List.set_cons_succ]
    refine wpAnyH_take (i := 1) (oi := { dst := some 60, op := Go.Op.load 68 (Go.Operand.global 4), type := 68, pos := "l10_checkpoint.go:223", after := #[], guard := none }) (v := ?v27) rfl (by kernel_rfl) (by kernel_rfl) (by kernel_rfl) (fun _ _ _ h => h) (Or.inl ⟨by rfl, ?h27⟩) hHeld ?r27
    case h27 => intro wz hz; (try dsimp only at hz); go_simp; try (with_reducible rfl)
    simp only [Act.put, List.setIfInBounds_toArray, List.set_cons_zero, List.set_cons_succ]
    refine wpAnyH_take (i := 2) (oi := { dst := some 61, op := Go.Op.build 119 #[(0, Go.Operand.const (Go.Value.string { data := #[112, 105, 101, 99, 101, 115, 32, 97, 110, 100, 32, 112, 114, 111, 111, 102, 115] })), (1, Go.Operand.tmp 60)], type := 119, pos := "l10_checkpoint.go:223", after := #[{ on := 1, ground := Go.Ground.data }], guard := none }) (v := ?v28) rfl (by kernel_rfl) (by kernel_rfl) (by kernel_rfl) (fun _ _ _ h => h) (Or.inl ⟨by rfl, ?h28⟩) hHeld ?r28
    case h28 => intro wz hz; (try dsimp only at hz); go_simp; try (with_reducible rfl)
    simp only [Act.put, List.setIfInBounds_toArray, List.set_cons_zero, List.set_cons_succ]
    refine wpAnyH_take (i := 3) (oi := { dst := some 62, op := Go.Op.makeInterface 119 (Go.Operand.tmp 61), type := 68, pos := "l10_checkpoint.go:223", after := #[{ on := 2, ground := Go.Ground.data }, { on := 4, ground := Go.Ground.gcOnly Go.Departure.lateStores }], guard := none }) (v := ?v29) rfl (by kernel_rfl) (by kernel_rfl) (by kernel_rfl) (fun _ _ _ h => h) (Or.inl ⟨by rfl, ?h29⟩) hHeld ?r29
    case h29 => intro wz hz; (try dsimp only at hz); go_simp; try (with_reducible rfl)
    simp only [Act.put, List.setIfInBounds_toArray, List.set_cons_zero, List.set_cons_succ]
    refine wpAnyH_ready (rs := [4]) (by kernel_rfl) (by simp) ?_
    refine AllReadyH.cons (o := { dst := none, op := Go.Op.store 36 (Go.Operand.tmp 8) (Go.Operand.tmp 59), type := 0, pos := "l10_checkpoint.go:223", after := #[{ on := 0, ground := Go.Ground.data }, { on := 0, ground := Go.Ground.phase }, { on := 1, ground := Go.Ground.textOnly Go.Departure.lateStores }, { on := 2, ground := Go.Ground.textOnly Go.Departure.lateStores }, { on := 3, ground := Go.Ground.textOnly Go.Departure.lateStores }], guard := none }) rfl (fun K hK => ?_) AllReadyH.nil
    go_simp
    refine hK.out _ _ ?_ (fun hHeld => ?_)
    · exact GS9.out
    clear hK K
    (try simp only [Act.put, List.setIfInBounds_toArray, List.set_cons_zero, List.set_cons_succ])
    refine wpAnyH_take (i := 5) (oi := { dst := some 9, op := Go.Op.assign (Go.Operand.tmp 62), type := 68, pos := "l10_checkpoint.go:223", after := #[{ on := 3, ground := Go.Ground.data }, { on := 4, ground := Go.Ground.chain }, { on := 0, ground := Go.Ground.phase }, { on := 1, ground := Go.Ground.phase }, { on := 2, ground := Go.Ground.phase }, { on := 3, ground := Go.Ground.phase }, { on := 4, ground := Go.Ground.phase }], guard := none }) (v := ?v30) rfl (by kernel_rfl) (by kernel_rfl) (by kernel_rfl) (fun _ _ _ h => h) (Or.inl ⟨by rfl, ?h30⟩) hHeld ?r30
    case h30 => intro wz hz; (try dsimp only at hz); go_simp; try (with_reducible rfl)
    simp only [Act.put, List.setIfInBounds_toArray, List.set_cons_zero, List.set_cons_succ]
    refine wpAnyH_done (by kernel_rfl) ?_ _
    refine NoPanic.normal ?_
    clear GS9
    go_wp2_with fail
    generalize ((((w2.setCell ⟨y, 0, none⟩ (.int .i64 0)).setCell ⟨y, 1, none⟩ (.int .i64 0)).setCell ⟨y, 2, none⟩ (.slice none 0 0)).setCell ⟨y, 3, none⟩ (.slice none 0 0)) = wf at AF RF ⊢
    have d0 := (blk_cell AF 0 (x := .int .i64 0) rfl).1
    have d1 := (blk_cell AF 1 (x := .int .i64 0) rfl).1
    have d2 := (blk_cell AF 2 (x := .slice none 0 0) rfl).1
    have d3 := (blk_cell AF 3 (x := .slice none 0 0) rfl).1
    refine bodyPost_ret (v := .tuple #[.agg #[.int .i64 0, .int .i64 0, .slice none 0 0, .slice none 0 0], .iface 119 (.agg #[.string ⟨#[112, 105, 101, 99, 101, 115, 32, 97, 110, 100, 32, 112, 114, 111, 111, 102, 115]⟩, .iface 259 (.pointer (some (A 7)))])]) (by simp [results, Tryz.results52, go_sem, d0, d1, d2, d3]) rfl ?_
    rw [HM.out.c, HM.out.t]
    exact ⟨_, _, [], _, rfl, .inr (.inl ⟨_, 7, by decide, rfl, rfl⟩), ⟨rfl, Mem.nil _ _⟩, RF.out.drew⟩
  case pos =>
  have hz2' : ((qs.length : Int) != sz) = false := by simpa using hz2
  rw [if_pos ⟨pcB_yes hpc, hz1, hz2⟩] at hMS
  have HLN : Hid (ps.length ≤ 64 ∧ ps.length = qs.length ∧ 0 < ps.length) := ⟨hpc.1, by omega, by have := HSZ.out; omega⟩
  have HCL : Hid ((cat ps).length ≤ 2048) := pc_cat hpc
  have HNB : Hid (∀ k c, k < ps.length → fbC rt sz ps qs k = 0 → pfC rt (tnth ps k) k sz (tnth qs k) = c → c ≠ 0 → It n sq sz rt vs ps qs c zTab) := fun k c hk h0 hc hne => it_no (by rw [hMS, fb_first h0 hc hne hk, if_neg hne]) hne
  have HEN : Hid (fbC rt sz ps qs ps.length = 0 → It n sq sz rt vs ps qs (rtC (cat ps)) (rtT (cat ps))) := fun h0 => it_end (by rw [hMS, if_pos h0])
  have hk64 := HLN.out.1
  clear hMS hpc hz1 hz2 h1 h2 HSZ
  go_wp2_with fail
  clear c0 c1 c2 c3 hz1' hz2' h1' h2'
  go_loopw [65] (fun i wr => ∃ k : Nat, k ≤ ps.length ∧ i = .int .i64 k ∧ Hid (fbC rt sz ps qs k = 0 ∧ Below wb.heap.size wb wr)) (fun i _ => ps.length - (intOf i).toNat)
  case atStart => exact ⟨0, by omega, rfl, ⟨rfl, B2.out⟩⟩
  case round =>
    obtain ⟨k, hk, rfl, HZ⟩ := hrel
    by_cases hlt : k < ps.length
    · have HGR : Hid (Below w.heap.size w wr) := (HY0.out _ HZ.out.2).2
      obtain ⟨b, off, rfl, hbl, d0⟩ := row_at (HRW.out _ HGR.out).1 hlt
      obtain ⟨b', off', rfl, hbl', e0⟩ := row_at (HRW.out _ HGR.out).2.1 (show k < qs.length by have := HLN.out.2.1; omega)
      obtain ⟨c0, c1, c2, c3⟩ := HX0.out _ HZ.out.2
      have hp0 : (0 : Int) ≤ (k : Int) := by omega
      have hp1 : (k : Int) < (ps.length : Int) := by omega
      have hp2 : (k : Int) < (qs.length : Int) := by have := HLN.out.2.1; omega
      go_upto_region 13 with fail
      obtain ⟨X, hX, W, QI0, QO0⟩ := Qc.klass wr
      have QI : Hid (∀ w', Below wr.heap.size wr w' → ∃ x, w' = W x) := QI0
      have QO : Hid (∀ x, Below wr.heap.size wr (W x)) := QO0
      clear QI0 QO0
      have QB : Hid (∀ x, Below wb.heap.size wb (W x)) := fun x => HZ.out.2.trans ((QO.out x).mono HZ.out.2.size)
      have y0 := Qc.cell_all QO.out e0
      have t0 := Qc.cell_all QO.out c0
      have t1 := Qc.cell_all QO.out c1
      have t2 := Qc.cell_all QO.out c2
      have t3 := Qc.cell_all QO.out c3
      clear c0 c1 c2 c3 d0 e0 hbl hbl'
      by_cases hpf : pfC rt (tnth ps k) k sz (tnth qs k) = 0
      · have HVM : Hid (∀ x, Calls Tryz.prog 87 #[.agg #[.int .i64 sq, .int .i64 sz, .string rt, .slice va vs.length vc], .string (tnth ps k), .int .i64 k, .string (tnth qs k)] (W x) fun e w' => e = .returned .nilIface ∧ Below (W x).heap.size (W x) w') := fun xq => by
          obtain ⟨_, _, hK', hp'⟩ := HRW.out _ (HY0.out _ (QB.out xq)).2
          exact provedFault_nil sq sz rt va vs.length vc _ k _ (W xq) (HQZ.out k (by have := HLN.out.2.1; omega)) hpf hK' hp'
        have HSS : Hid (fbC rt sz ps qs (k + 1) = 0) := fb_go HZ.out.1 hpf
        clear hpf HNB HEN
        generalize tnth ps k = pk at HVM ⊢
        generalize tnth qs k = qk at HVM y0 ⊢
        refine Qc.region_class (W := W) (by kernel_rfl) (by kernel_rfl) (QI.out _ Qc.from_drew) ?_
        repeat (go_big_quiet_step (first | (go_at_call 87; refine (HVM.out _).mono ?_; rintro e w2 ⟨rfl, b2⟩; exact ⟨rfl, Qc.back QI.out QO.out b2⟩)))
        refine wpQuiet_nil ?_
        rintro _ ⟨xq, rfl⟩
        have G2 : Hid (Below wb.heap.size wb (W xq)) := QB.out xq
        clear y0 t0 t1 t2 t3
        generalize W xq = wq at G2 ⊢
        go_wp2_with fail
        exact ⟨⟨k + 1, by omega, by go_num, ⟨HSS.out, G2.out⟩⟩, by simp [intOf]; omega⟩
      · have HVM : Hid (∀ x, Calls Tryz.prog 87 #[.agg #[.int .i64 sq, .int .i64 sz, .string rt, .slice va vs.length vc], .string (tnth ps k), .int .i64 k, .string (tnth qs k)] (W x) fun e w' => e = .returned (fnd (pfS (tnth qs k)) (sen (A (fidx (pfC rt (tnth ps k) k sz (tnth qs k)))))) ∧ Below (W x).heap.size (W x) w') := fun xq => by
          obtain ⟨_, _, hK', hp'⟩ := HRW.out _ (HY0.out _ (QB.out xq)).2
          exact provedFault_bad sq sz rt va vs.length vc _ k _ (W xq) A (HQZ.out k (by have := HLN.out.2.1; omega)) hpf (HSE.out _ (QB.out xq)) hK' hp'
        have HM : Hid (It n sq sz rt vs ps qs (pfC rt (tnth ps k) k sz (tnth qs k)) zTab) := HNB.out k _ hlt HZ.out.1 rfl hpf
        have HCD : Hid (fcode (fidx (pfC rt (tnth ps k) k sz (tnth qs k))) = pfC rt (tnth ps k) k sz (tnth qs k) ∧ fidx (pfC rt (tnth ps k) k sz (tnth qs k)) < 8) := ⟨pf_code hpf, fidx_lt _⟩
        have hk99 : k < 64 := by omega
        clear hpf HNB HEN
        generalize pfC rt (tnth ps k) k sz (tnth qs k) = cc at HVM HM HCD
        generalize fidx cc = jj at HVM HCD
        generalize pfS (tnth qs k) = sp at HVM
        generalize tnth ps k = pk at HVM ⊢
        generalize tnth qs k = qk at HVM y0 ⊢
        unfold fnd sen at HVM
        refine Qc.region_class (W := W) (by kernel_rfl) (by kernel_rfl) (QI.out _ Qc.from_drew) ?_
        repeat (go_big_quiet_step (first | (go_at_call 87; refine (HVM.out _).mono ?_; rintro e w2 ⟨rfl, b2⟩; exact ⟨rfl, Qc.back QI.out QO.out b2⟩)))
        refine wpQuiet_nil ?_
        rintro _ ⟨xq, rfl⟩
        have G2 : Hid (Below wb.heap.size wb (W xq)) := QB.out xq
        clear y0 t0 t1 t2 t3
        generalize W xq = wq at G2 ⊢
        go_wp2_with fail
        refine (itoa_small k hk99 _).mono ?_
        rintro e w4 ⟨s4, rfl, hs4, rfl⟩
        obtain ⟨k9, g9⟩ := HY0.out _ (G2.out)
        obtain ⟨m0, n0⟩ := blk_cell k9 0 (x := .int .i64 0) rfl
        obtain ⟨m1, n1⟩ := blk_cell k9 1 (x := .int .i64 0) rfl
        obtain ⟨m2, n2⟩ := blk_cell k9 2 (x := .slice none 0 0) rfl
        obtain ⟨m3, n3⟩ := blk_cell k9 3 (x := .slice none 0 0) rfl
        have AF : ((((wq.setCell ⟨y, 0, none⟩ (.int .i64 0)).setCell ⟨y, 1, none⟩ (.int .i64 0)).setCell ⟨y, 2, none⟩ (.slice none 0 0)).setCell ⟨y, 3, none⟩ (.slice none 0 0)).heap[y]? = some (.cells #[.int .i64 0, .int .i64 0, .slice none 0 0, .slice none 0 0] 36 (0, 0)) := (blk_set (blk_set (blk_set (blk_set k9 0 (.int .i64 0)) 1 (.int .i64 0)) 2 (.slice none 0 0)) 3 (.slice none 0 0))
        have RF : Hid (Below w.heap.size w ((((wq.setCell ⟨y, 0, none⟩ (.int .i64 0)).setCell ⟨y, 1, none⟩ (.int .i64 0)).setCell ⟨y, 2, none⟩ (.slice none 0 0)).setCell ⟨y, 3, none⟩ (.slice none 0 0))) := (Below.setCell (Below.setCell (Below.setCell (Below.setCell g9 (p := ⟨y, 0, none⟩) (HYL.out) (.int .i64 0)) (p := ⟨y, 1, none⟩) (HYL.out) (.int .i64 0)) (p := ⟨y, 2, none⟩) (HYL.out) (.slice none 0 0)) (p := ⟨y, 3, none⟩) (HYL.out) (.slice none 0 0))
        clear g9 k9
        go_wp2_with fail
        generalize ((((wq.setCell ⟨y, 0, none⟩ (.int .i64 0)).setCell ⟨y, 1, none⟩ (.int .i64 0)).setCell ⟨y, 2, none⟩ (.slice none 0 0)).setCell ⟨y, 3, none⟩ (.slice none 0 0)) = wf at AF RF ⊢
        have d0 := (blk_cell AF 0 (x := .int .i64 0) rfl).1
        have d1 := (blk_cell AF 1 (x := .int .i64 0) rfl).1
        have d2 := (blk_cell AF 2 (x := .slice none 0 0) rfl).1
        have d3 := (blk_cell AF 3 (x := .slice none 0 0) rfl).1
        refine bodyPost_ret (v := .tuple #[.agg #[.int .i64 0, .int .i64 0, .slice none 0 0, .slice none 0 0], .iface 119 (.agg #[.string (⟨#[112, 105, 101, 99, 101, 32]⟩ ++ s4), .iface 119 (.agg #[.string sp, .iface 259 (.pointer (some (A jj)))])])]) (by simp [results, Tryz.results52, go_sem, d0, d1, d2, d3]) rfl ?_
        rw [HM.out.c, HM.out.t]
        exact ⟨_, _, [], _, rfl, .inr (.inr ⟨_, sp, jj, HCD.out.2, rfl, HCD.out.1⟩), ⟨rfl, Mem.nil _ _⟩, RF.out⟩
    · obtain rfl : k = ps.length := by omega
      have HM0 := HEN.out HZ.out.1
      have HGR : Hid (Below w.heap.size w wr) := (HY0.out _ HZ.out.2).2
      have HJO : Hid (Calls Tryz.prog 90 #[.slice pa ps.length pc, .string ⟨#[]⟩] wr fun e w' => e = .returned (.string (catS ps)) ∧ Below wr.heap.size wr w') := Ho.join_any _ ps wr (HRW.out _ HGR.out).1 (fun e => by have := HLN.out.2.2; rw [e] at this; simp at this) (by omega) (by have := HCL.out; omega)
      have HBC : Hid (bys (catS ps) = cat ps) := bys_catS ps
      obtain ⟨er, HER, HFC⟩ : ∃ er, Hid ((rtC (cat ps) = 0 ∧ er = .nilIface) ∨ ∃ s j, j < 8 ∧ er = fnd s (sen (A j)) ∧ fcode j = rtC (cat ps)) ∧ Hid (∀ W, Below w.heap.size w W → Calls Tryz.prog 68 #[.string ⟨#[106, 111, 105, 110, 101, 100, 32, 112, 105, 101, 99, 101, 115]⟩, .int .i64 (rtC (cat ps))] W fun e w' => e = .returned er ∧ Below W.heap.size W w') := by
        rcases rt_vals HCL.out with e | e
        · rw [e]
          exact ⟨_, .inl ⟨rfl, rfl⟩, fun W _ => faultOfCode_nil _ W⟩
        · rw [e]
          exact ⟨_, .inr ⟨_, fidx 3, by decide, rfl, by decide⟩, fun W hW => faultOfCode_any _ 3 (by decide) (HSE0.out _ hW)⟩
      have HYB : Hid (y < wb.heap.size) := (Array.getElem?_eq_some_iff.1 (HY0.out wb (Below.refl _ _)).1).1
      have HWB : Hid (w.heap.size ≤ wb.heap.size) := G0.out.size
      clear HEN HNB HQZ HLN hk64
      go_wp2_with fail
      refine HJO.out.mono ?_
      rintro e w4 ⟨rfl, b4⟩
      obtain ⟨v5, w5, hcv, r5, b5⟩ := bytes_run (catS ps) w4
      rw [HBC.out] at r5
      have B5 : Hid (RowB w5 v5 (cat ps) ∧ Below wb.heap.size wb w5) := ⟨r5, (HZ.out.2.trans (b4.mono HZ.out.2.size)).trans (b5.mono (Nat.le_trans HZ.out.2.size b4.size))⟩
      clear r5 b5 b4 HJO HBC
      have HRT : Hid (Calls Tryz.prog 89 #[v5] w5 fun e w' => ∃ u2 u3 ms, e = .returned (.tuple #[tabV (rtT (cat ps)).tm (rtT (cat ps)).nx u2 u3, .int .i64 (rtC (cat ps))]) ∧ (ms.map (·.1) = (rtT (cat ps)).ls ∧ Mem w' w5.heap.size u2 u3 ms (rtT (cat ps)).ss) ∧ Below w5.heap.size w5 w') := implReadTable_any v5 (cat ps) w5 B5.out.1
      generalize rtC (cat ps) = c at HRT HER HFC HM0
      obtain ⟨⟨tm, nx, ls, ss⟩, HT⟩ : ∃ t, Hid (rtT (cat ps) = t) := ⟨_, rfl⟩
      rw [HT.out] at HRT HM0
      dsimp only at HRT
      have HM : Hid (It n sq sz rt vs ps qs c ⟨tm, nx, ls, ss⟩) := HM0
      clear HM0 HT HCL
      go_wp2_with fail
      refine HRT.out.mono ?_
      rintro e w6 ⟨u2, u3, ms, rfl, ⟨hm, me⟩, b6⟩
      obtain ⟨la, lc, rfl⟩ := me.ol.slice
      obtain ⟨sa, sc, rfl⟩ := me.os.slice
      have HMM : Hid (ms.map (·.1) = ls) := hm
      obtain ⟨ln, HLN2⟩ : ∃ ln, Hid (ms.length = ln) := ⟨_, rfl⟩
      obtain ⟨sn, HSN2⟩ : ∃ sn, Hid (ss.length = sn) := ⟨_, rfl⟩
      rw [HLN2.out, HSN2.out] at me ⊢
      have B1 : Hid (Below wb.heap.size wb w6 ∧ Mem w6 wb.heap.size (.slice la ln lc) (.slice sa sn sc) ms ss) := ⟨B5.out.2.trans (b6.mono B5.out.2.size), me.mono B5.out.2.size⟩
      unfold tabV
      clear hm me b6 HRT B5 HX0
      have HZZ : Hid (∀ W, Below (w6.alloc (.cells #[.int .i64 tm, .int .i64 nx, .slice la ln lc, .slice sa sn sc] 36)).heap.size (w6.alloc (.cells #[.int .i64 tm, .int .i64 nx, .slice la ln lc, .slice sa sn sc] 36)) W → (fun W => W.cell? ⟨w6.heap.size, 0, none⟩ = some (.int .i64 tm) ∧ W.cell? ⟨w6.heap.size, 1, none⟩ = some (.int .i64 nx) ∧ W.cell? ⟨w6.heap.size, 2, none⟩ = some (.slice la ln lc) ∧ W.cell? ⟨w6.heap.size, 3, none⟩ = some (.slice sa sn sc)) W ∧ Below wb.heap.size wb W ∧ Mem W wb.heap.size (.slice la ln lc) (.slice sa sn sc) ms ss) := fun W hW => by
        have h0 := (hW.block w6.heap.size (by simp)).trans (heap_alloc_new w6 _)
        have b := (bel_new w6 (.cells #[.int .i64 tm, .int .i64 nx, .slice la ln lc, .slice sa sn sc] 36)).trans (hW.mono (by simp))
        exact ⟨⟨(blk_cell h0 0 rfl).1, (blk_cell h0 1 rfl).1, (blk_cell h0 2 rfl).1, (blk_cell h0 3 rfl).1⟩, B1.out.1.trans (b.mono B1.out.1.size), B1.out.2.below b⟩
      go_upto_region 18 with fail
      generalize hzz : w6.alloc (.cells #[.int .i64 tm, .int .i64 nx, .slice la ln lc, .slice sa sn sc] 36) = wz at HZZ ⊢
      clear hzz
      have HZY : Hid (w6.heap.size ≠ y) := by show _ ≠ _; have := HYB.out; have := B1.out.1.size; omega
      generalize w6.heap.size = zb at HZZ HZY ⊢
      obtain ⟨S0, Bz, _⟩ := HZZ.out _ (Below.refl _ _)
      have HC2 : Hid (Calls Tryz.prog 68 #[.string ⟨#[106, 111, 105, 110, 101, 100, 32, 112, 105, 101, 99, 101, 115]⟩, .int .i64 c] wz.drew fun e w' => e = .returned er ∧ Below wz.heap.size wz w') := (HFC.out wz.drew ((HY0.out _ Bz).2.drew)).mono fun e w' ⟨h1, h2⟩ => ⟨h1, ((Below.refl wz.heap.size wz).drew).trans h2⟩
      clear HFC B1
      refine wp_region_noPanic ?_
      refine wp_region_held_drew (S := (fun W => W.cell? ⟨zb, 0, none⟩ = some (.int .i64 tm) ∧ W.cell? ⟨zb, 1, none⟩ = some (.int .i64 nx) ∧ W.cell? ⟨zb, 2, none⟩ = some (.slice la ln lc) ∧ W.cell? ⟨zb, 3, none⟩ = some (.slice sa sn sc))) (by kernel_rfl) S0 (fun hHeld => ?_)
      refine wpAnyH_take (i := 0) (oi := { dst := some 95, op := Go.Op.load 36 (Go.Operand.tmp 14), type := 36, pos := "l10_checkpoint.go:231", after := #[], guard := none }) (v := ?v31) rfl (by kernel_rfl) (by kernel_rfl) (by kernel_rfl) (fun _ _ _ h => h) (Or.inl ⟨by rfl, ?h31⟩) hHeld ?r31
      case h31 => intro wz hz; (try dsimp only at hz); go_simp; try (with_reducible rfl)
      simp only [Act.put, List.setIfInBounds_toArray, List.set_cons_zero, List.set_cons_succ]
      refine wpAnyH_take (i := 1) (oi := { dst := some 96, op := Go.Op.move (Go.Operand.tmp 15), type := 3, pos := "l10_checkpoint.go:231", after := #[], guard := none }) (v := ?v32) rfl (by kernel_rfl) (by kernel_rfl) (by kernel_rfl) (fun _ _ _ h => h) (Or.inl ⟨by rfl, ?h32⟩) hHeld ?r32
      case h32 => intro wz hz; (try dsimp only at hz); go_simp; try (with_reducible rfl)
      simp only [Act.put, List.setIfInBounds_toArray, List.set_cons_zero, List.set_cons_succ]
      refine wpAnyH_ready (rs := [2]) (by kernel_rfl) (by simp) ?_
      refine AllReadyH.cons (o := { dst := some 97, op := Go.Op.call { callee := Go.Callee.value (Go.Operand.func 68), args := #[Go.Operand.const (Go.Value.string { data := #[106, 111, 105, 110, 101, 100, 32, 112, 105, 101, 99, 101, 115] }), Go.Operand.tmp 96], argTypes := #[9, 3] }, type := 68, pos := "l10_checkpoint.go:231", after := #[{ on := 1, ground := Go.Ground.data }], guard := none }) rfl (fun K hK => ?_) AllReadyH.nil
      go_simp
      go_at_call 68
      refine HC2.out.mono ?_
      rintro e w7 ⟨rfl, b7⟩
      obtain ⟨S3, B3, o3⟩ := HZZ.out _ b7
      try go_simp
      refine hK.out _ _ ?_ (fun hHeld => ?_)
      · exact S3
      clear hK K
      (try simp only [Act.put, List.setIfInBounds_toArray, List.set_cons_zero, List.set_cons_succ])
      obtain ⟨k9, g9⟩ := HY0.out _ (B3)
      obtain ⟨m0, n0⟩ := blk_cell k9 0 (x := .int .i64 0) rfl
      obtain ⟨m1, n1⟩ := blk_cell k9 1 (x := .int .i64 0) rfl
      obtain ⟨m2, n2⟩ := blk_cell k9 2 (x := .slice none 0 0) rfl
      obtain ⟨m3, n3⟩ := blk_cell k9 3 (x := .slice none 0 0) rfl
      have AF : ((((w7.setCell ⟨y, 0, none⟩ (.int .i64 tm)).setCell ⟨y, 1, none⟩ (.int .i64 nx)).setCell ⟨y, 2, none⟩ (.slice la ln lc)).setCell ⟨y, 3, none⟩ (.slice sa sn sc)).heap[y]? = some (.cells #[.int .i64 tm, .int .i64 nx, .slice la ln lc, .slice sa sn sc] 36 (0, 0)) := (blk_set (blk_set (blk_set (blk_set k9 0 (.int .i64 tm)) 1 (.int .i64 nx)) 2 (.slice la ln lc)) 3 (.slice sa sn sc))
      have RF : Hid (Below w.heap.size w ((((w7.setCell ⟨y, 0, none⟩ (.int .i64 tm)).setCell ⟨y, 1, none⟩ (.int .i64 nx)).setCell ⟨y, 2, none⟩ (.slice la ln lc)).setCell ⟨y, 3, none⟩ (.slice sa sn sc)) ∧ Mem ((((w7.setCell ⟨y, 0, none⟩ (.int .i64 tm)).setCell ⟨y, 1, none⟩ (.int .i64 nx)).setCell ⟨y, 2, none⟩ (.slice la ln lc)).setCell ⟨y, 3, none⟩ (.slice sa sn sc)) w.heap.size (.slice la ln lc) (.slice sa sn sc) ms ss) := ⟨(Below.setCell (Below.setCell (Below.setCell (Below.setCell g9 (p := ⟨y, 0, none⟩) (HYL.out) (.int .i64 tm)) (p := ⟨y, 1, none⟩) (HYL.out) (.int .i64 nx)) (p := ⟨y, 2, none⟩) (HYL.out) (.slice la ln lc)) (p := ⟨y, 3, none⟩) (HYL.out) (.slice sa sn sc)), (Mem.kept o3 (fun g hg _ => ((blk_far (by have := HYB.out; omega) 3 (.slice sa sn sc)).trans ((blk_far (by have := HYB.out; omega) 2 (.slice la ln lc)).trans ((blk_far (by have := HYB.out; omega) 1 (.int .i64 nx)).trans ((blk_far (by have := HYB.out; omega) 0 (.int .i64 tm)).trans (Eq.refl w7.heap[g]?))))))).mono (HWB.out)⟩
      clear g9 k9
      have S9 : Hid ((fun W => W.cell? ⟨zb, 0, none⟩ = some (.int .i64 tm) ∧ W.cell? ⟨zb, 1, none⟩ = some (.int .i64 nx) ∧ W.cell? ⟨zb, 2, none⟩ = some (.slice la ln lc) ∧ W.cell? ⟨zb, 3, none⟩ = some (.slice sa sn sc)) ((((w7.setCell ⟨y, 0, none⟩ (.int .i64 tm)).setCell ⟨y, 1, none⟩ (.int .i64 nx)).setCell ⟨y, 2, none⟩ (.slice la ln lc)).setCell ⟨y, 3, none⟩ (.slice sa sn sc))) := ⟨((World.cell?_of_block (a := ⟨zb, 0, none⟩) (blk_far HZY.out 3 (.slice sa sn sc))).trans ((World.cell?_of_block (a := ⟨zb, 0, none⟩) (blk_far HZY.out 2 (.slice la ln lc))).trans ((World.cell?_of_block (a := ⟨zb, 0, none⟩) (blk_far HZY.out 1 (.int .i64 nx))).trans ((World.cell?_of_block (a := ⟨zb, 0, none⟩) (blk_far HZY.out 0 (.int .i64 tm))).trans S3.1)))), ((World.cell?_of_block (a := ⟨zb, 1, none⟩) (blk_far HZY.out 3 (.slice sa sn sc))).trans ((World.cell?_of_block (a := ⟨zb, 1, none⟩) (blk_far HZY.out 2 (.slice la ln lc))).trans ((World.cell?_of_block (a := ⟨zb, 1, none⟩) (blk_far HZY.out 1 (.int .i64 nx))).trans ((World.cell?_of_block (a := ⟨zb, 1, none⟩) (blk_far HZY.out 0 (.int .i64 tm))).trans S3.2.1)))), ((World.cell?_of_block (a := ⟨zb, 2, none⟩) (blk_far HZY.out 3 (.slice sa sn sc))).trans ((World.cell?_of_block (a := ⟨zb, 2, none⟩) (blk_far HZY.out 2 (.slice la ln lc))).trans ((World.cell?_of_block (a := ⟨zb, 2, none⟩) (blk_far HZY.out 1 (.int .i64 nx))).trans ((World.cell?_of_block (a := ⟨zb, 2, none⟩) (blk_far HZY.out 0 (.int .i64 tm))).trans S3.2.2.1)))), ((World.cell?_of_block (a := ⟨zb, 3, none⟩) (blk_far HZY.out 3 (.slice sa sn sc))).trans ((World.cell?_of_block (a := ⟨zb, 3, none⟩) (blk_far HZY.out 2 (.slice la ln lc))).trans ((World.cell?_of_block (a := ⟨zb, 3, none⟩) (blk_far HZY.out 1 (.int .i64 nx))).trans ((World.cell?_of_block (a := ⟨zb, 3, none⟩) (blk_far HZY.out 0 (.int .i64 tm))).trans S3.2.2.2))))⟩
      refine wpAnyH_ready (rs := [3]) (by kernel_rfl) (by simp) ?_
      refine AllReadyH.cons (o := { dst := none, op := Go.Op.store 36 (Go.Operand.tmp 8) (Go.Operand.tmp 95), type := 0, pos := "l10_checkpoint.go:231", after := #[{ on := 0, ground := Go.Ground.data }, { on := 2, ground := Go.Ground.chain }, { on := 0, ground := Go.Ground.phase }, { on := 1, ground := Go.Ground.textOnly Go.Departure.lateStores }, { on := 2, ground := Go.Ground.textOnly Go.Departure.lateStoresUnsure }], guard := none }) rfl (fun K hK => ?_) AllReadyH.nil
      go_simp
      refine hK.out _ _ ?_ (fun hHeld => ?_)
      · exact S9.out
      clear hK K
      (try simp only [Act.put, List.setIfInBounds_toArray, List.set_cons_zero, List.set_cons_succ])
      refine wpAnyH_take (i := 4) (oi := { dst := some 9, op := Go.Op.assign (Go.Operand.tmp 97), type := 68, pos := "l10_checkpoint.go:231", after := #[{ on := 2, ground := Go.Ground.data }, { on := 3, ground := Go.Ground.chain }, { on := 0, ground := Go.Ground.phase }, { on := 1, ground := Go.Ground.phase }, { on := 2, ground := Go.Ground.phase }, { on := 3, ground := Go.Ground.phase }], guard := none }) (v := ?v33) rfl (by kernel_rfl) (by kernel_rfl) (by kernel_rfl) (fun _ _ _ h => h) (Or.inl ⟨by rfl, ?h33⟩) hHeld ?r33
      case h33 => intro wz hz; (try dsimp only at hz); go_simp; try (with_reducible rfl)
      simp only [Act.put, List.setIfInBounds_toArray, List.set_cons_zero, List.set_cons_succ]
      refine wpAnyH_done (by kernel_rfl) ?_ _
      refine NoPanic.normal ?_
      clear S9 S3 S0 hHeld
      go_wp2_with fail
      generalize ((((w7.setCell ⟨y, 0, none⟩ (.int .i64 tm)).setCell ⟨y, 1, none⟩ (.int .i64 nx)).setCell ⟨y, 2, none⟩ (.slice la ln lc)).setCell ⟨y, 3, none⟩ (.slice sa sn sc)) = wf at AF RF ⊢
      have d0 := (blk_cell AF 0 (x := .int .i64 tm) rfl).1
      have d1 := (blk_cell AF 1 (x := .int .i64 nx) rfl).1
      have d2 := (blk_cell AF 2 (x := .slice la ln lc) rfl).1
      have d3 := (blk_cell AF 3 (x := .slice sa sn sc) rfl).1
      refine bodyPost_ret (v := .tuple #[.agg #[.int .i64 tm, .int .i64 nx, .slice la ln lc, .slice sa sn sc], er]) (by simp [results, Tryz.results52, go_sem, d0, d1, d2, d3]) rfl ?_
      rw [HM.out.c, HM.out.t]
      exact ⟨_, _, ms, _, rfl, HER.out.elim .inl (fun h => .inr (.inl h)), ⟨HMM.out, RF.out.2⟩, RF.out.1⟩
end Go.Proofs.YtnebohdlndiejaaGreatDoor.Xl
