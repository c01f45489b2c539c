/- Texts put together: Vc, Vs. -/
import Derived.Test.YtondmbeccpekiaaGreatDoorH18
import Derived.Test.YtondmbeccpekiaaGreatDoorH29
import Derived.Test.YtondmbeccpekiaaGreatDoorH13
import Derived.Laws.StructEq
/- Certificates that are right: the program. -/
namespace Go.Proofs.YtondmbeccpekiaaGreatDoor.Vt
open Go.RowKit Go.Proofs.YtondmbeccpekiaaGreatDoor.Gm Go.Proofs.YtondmbeccpekiaaGreatDoor.Si Go.Proofs.YtondmbeccpekiaaGreatDoor.Tm Go.Proofs.YtondmbeccpekiaaGreatDoor.Ms Go.Proofs.YtondmbeccpekiaaGreatDoor.Sh
open Go.Proofs.YtondmbeccpekiaaGreatDoor.Qm (qOut)
open Go.Proofs.YtondmbeccpekiaaGreatDoor.Bd (dig dOut dCode implBodyDigest_any)
open Go.Proofs.YtondmbeccpekiaaGreatDoor.Bw (bdB bdP implBodyOK_any)
open Go.Proofs.YtondmbeccpekiaaGreatDoor.Rg (RowG RowG.slice RowG.at lt_at mem_at blk_cell blk_set bel_new)

theorem list_eq_bytes {a b : ByteArray} : (a.toList == b.toList) = bOf (a = b) := by
  by_cases h : a = b
  · rw [h, bOf_true rfl]; simp
  · rw [bOf_false h]
    apply beq_eq_false_iff_ne.2
    intro hh
    rw [Lib.toList_data, Lib.toList_data] at hh
    apply h
    cases a
    cases b
    have h2 := Array.toList_inj.1 hh
    simp only at h2
    rw [h2]
theorem guardB (op : BinOp) (a b : Operand) (xs ys : Array Value) (W : World) : (eqGuard op 178 a b (.agg xs) (.agg ys)).run Tryz.prog W = .ok () W := run_eqGuard_agg W op 178 a b xs ys (by kernel_rfl)
set_option maxRecDepth 100000 in
theorem neqB (v1 s1 : Int) (d1 : ByteArray) (v2 s2 : Int) (d2 : ByteArray) (W : World) : (binOp .neq 178 (.agg #[.int .i64 v1, .int .i64 s1, .string d1]) (.agg #[.int .i64 v2, .int .i64 s2, .string d2])).run Tryz.prog W = .ok (.bool (bOf (¬ (v1 = v2 ∧ s1 = s2 ∧ d1 = d2)))) W := by
  have e : bOf (¬ (v1 = v2 ∧ s1 = s2 ∧ d1 = d2)) = !((v1 == v2) && (s1 == s2 && (d1.toList == d2.toList))) := by
    rw [list_eq_bytes]
    by_cases h : v1 = v2 ∧ s1 = s2 ∧ d1 = d2
    · rw [bOf_false (fun hh => hh h), bOf_true h.2.2, h.1, h.2.1]; simp
    · rw [bOf_true h]
      by_cases h1 : v1 = v2
      · by_cases h2 : s1 = s2
        · rw [bOf_false (fun h3 => h ⟨h1, h2, h3⟩)]; simp
        · simp [h2]
      · simp [h1]
  rw [e, run_neq_struct, run_equalIn_struct W 9999 178 _ _ (by kernel_rfl) (by kernel_rfl)]
  simp [go_sem, Program.fieldsOf, Tryz.underlying178, Tryz.underlying3, Tryz.underlying9]
  repeat' split
  all_goals simp_all
theorem taP (v : Value) (W : World) : (Instr.typeAssert (.iface 226 v) 199 226 true).run Tryz.prog W = .ok (.tuple #[v, .bool true]) W := by
  simp [Instr.typeAssert, go_sem]
theorem taC (v : Value) (W : World) : (Instr.typeAssert (.iface 229 v) 199 226 true).run Tryz.prog W = .ok (.tuple #[.agg #[.int .i64 0, .int .i64 0, .int .i64 0, .string ⟨#[]⟩], .bool false]) W := by
  have hz : (zeroValue 226).run Tryz.prog W = .ok (.agg #[.int .i64 0, .int .i64 0, .int .i64 0, .string ⟨#[]⟩]) W := by kernel_rfl
  simp [Instr.typeAssert, go_sem, hz]
def ForB (vw sq : Int) (d : ByteArray) (x : Mg) : Prop := x.kd = 2 ∧ x.vw = vw ∧ x.sq = sq ∧ x.dg = d
def AllB (vw sq : Int) (d : ByteArray) (ms : List Mg) : Prop := ∀ j x, j < ms.length → ms[j]? = some x → ForB vw sq d x
set_option maxRecDepth 100000 in
set_option maxHeartbeats 1600000 in
theorem allFor_any (n vw sq : Int) (d : ByteArray) (v : Value) (ms : List Mg) (B : Nat) (w : World) (h : OwnV w B v (vts n ms)) (hv : ∀ x ∈ ms, isV n x = true) (hl : ms.length ≤ 1048576) :
    Calls Tryz.prog 146 #[v, .agg #[.int .i64 vw, .int .i64 sq, .string d]] w fun e w' => e = .returned (.bool (bOf (AllB vw sq d ms))) ∧ Below w.heap.size w w' := by
  have HR : Hid (OwnV w B v (vts n ms)) := h
  obtain ⟨a, cap, rfl⟩ := OwnV.slice h
  have HVL : (vts n ms).length = ms.length := by unfold vts; rw [List.length_map]
  have HVA : Hid (∀ k x, ms[k]? = some x → (vts n ms)[k]? = some (votV n x)) := fun k x hx => by unfold vts; rw [List.getElem?_map, hx]; rfl
  have HVV : Hid (∀ x ∈ ms, isV n x = true) := hv
  rw [HVL] at HR ⊢
  clear h hv HVL
  have HB : Hid (Below w.heap.size w (w.alloc (.cells #[.int .i64 vw, .int .i64 sq, .string d] 178))) := bel_new _ _
  have HXC : Hid (∀ W, Below (w.alloc (.cells #[.int .i64 vw, .int .i64 sq, .string d] 178)).heap.size (w.alloc (.cells #[.int .i64 vw, .int .i64 sq, .string d] 178)) W → W.cell? ⟨w.heap.size, 0, none⟩ = some (.int .i64 vw) ∧ W.cell? ⟨w.heap.size, 1, none⟩ = some (.int .i64 sq) ∧ W.cell? ⟨w.heap.size, 2, none⟩ = some (.string d)) := fun W hW => by
    have h1 := (hW.block w.heap.size (by simp)).trans (heap_alloc_new w _)
    exact ⟨(blk_cell h1 0 rfl).1, (blk_cell h1 1 rfl).1, (blk_cell h1 2 rfl).1⟩
  go_enter Tryz.func146, Tryz.ntmps146
  go_wp2_with fail
  generalize w.alloc (.cells #[.int .i64 vw, .int .i64 sq, .string d] 178) = wb at HB HXC ⊢
  go_loopw [11] (fun i wr => ∃ k : Nat, k ≤ ms.length ∧ i = .int .i64 k ∧ Hid ((∀ j x, j < k → ms[j]? = some x → ForB vw sq d x) ∧ Below wb.heap.size wb wr)) (fun i _ => ms.length - (intOf i).toNat)
  case atStart => exact ⟨0, by omega, rfl, ⟨fun j x hj => by omega, Below.refl _ _⟩⟩
  case round =>
    obtain ⟨k, hk, rfl, HZ⟩ := hrel
    have HBW : Hid (∀ o, Below w.heap.size w (wr.alloc o)) := fun o => (HB.out.trans (HZ.out.2.mono HB.out.size)).alloc (HB.out.trans (HZ.out.2.mono HB.out.size)).size o
    have HBO : Hid (∀ o, Below wb.heap.size wb (wr.alloc o)) := fun o => HZ.out.2.alloc HZ.out.2.size o
    by_cases hlt : k < ms.length
    · obtain ⟨x, hx⟩ := Rg.get_at hlt
      obtain ⟨g, rfl, hg, c0⟩ := OwnV.at (HR.out.below (HB.out.trans (HZ.out.2.mono HB.out.size))) (HVA.out k x hx)
      have hv := HVV.out x (mem_at hx)
      unfold isV at hv
      rw [Bool.and_eq_true, Bool.or_eq_true, beq_iff_eq, beq_iff_eq] at hv
      obtain ⟨hs, hkd⟩ := hv
      by_cases h2 : x.kd = 2
      · have e : votV n x = .iface 226 (.agg #[.int .i64 x.fr, .int .i64 x.vw, .int .i64 x.sq, .string x.dg]) := by unfold votV; rw [if_pos hs, if_pos h2]; rfl
        rw [e] at c0
        have hq1 := neqB x.vw x.sq x.dg vw sq d
        have hq2 := guardB
        have hta := fun v => taP v wr
        have HD : Hid (∀ o, (wr.alloc o).cell? ⟨w.heap.size, 0, none⟩ = some (.int .i64 vw) ∧ (wr.alloc o).cell? ⟨w.heap.size, 1, none⟩ = some (.int .i64 sq) ∧ (wr.alloc o).cell? ⟨w.heap.size, 2, none⟩ = some (.string d)) := fun o => HXC.out _ (HBO.out o)
        have d0 := fun o => (HD.out o).1
        have d1 := fun o => (HD.out o).2.1
        have d2 := fun o => (HD.out o).2.2
        by_cases hq : x.vw = vw ∧ x.sq = sq ∧ x.dg = d
        · have HK : Hid (∀ j y, j < k + 1 → ms[j]? = some y → ForB vw sq d y) := fun j y hj hy => by
            by_cases ej : j = k
            · subst ej; rw [hx] at hy; cases hy; exact ⟨h2, hq⟩
            · exact HZ.out.1 j y (by omega) hy
          rw [bOf_false (fun hh => hh hq)] at hq1
          clear hq h2 hs hkd hx e
          go_wp2_with fail
          exact ⟨⟨k + 1, by omega, by go_num, ⟨HK.out, HBO.out _⟩⟩, by simp [intOf]; omega⟩
        · have HF : Hid (bOf (AllB vw sq d ms) = false) := bOf_false fun hh => hq (hh k x hlt hx).2
          rw [bOf_true hq] at hq1
          clear hq h2 hs hkd hx e
          go_wp2_with fail
          go_ret
          exact ⟨ret_b HF.out.symm, HBW.out _⟩
      · have h4 : x.kd = 4 := hkd.resolve_left h2
        have e : votV n x = .iface 229 (.agg #[.int .i64 x.fr, .int .i64 x.vw, .string x.bd]) := by unfold votV; rw [if_pos hs, if_neg h2, if_pos h4]; rfl
        rw [e] at c0
        have HF : Hid (bOf (AllB vw sq d ms) = false) := bOf_false fun hh => h2 (hh k x hlt hx).1
        clear h2 h4 hs hkd hx e
        have hta := fun v => taC v wr
        go_wp2_with fail
        go_ret
        exact ⟨ret_b HF.out.symm, HBW.out _⟩
    · obtain rfl : k = ms.length := by omega
      have HF : Hid (bOf (AllB vw sq d ms) = true) := bOf_true HZ.out.1
      go_wp2_with fail
      go_ret
      exact ⟨ret_b HF.out.symm, HB.out.trans (HZ.out.2.mono HB.out.size)⟩
set_option maxRecDepth 100000 in
set_option maxHeartbeats 1600000 in
theorem ballotOf_any (bd : ByteArray) (vr : Value) (ms : List Mg) (x : Mg) (w : World) (h : Row w vr ms) (hx : ms[0]? = some x) (hK : KTab w) (hp : 0 < w.heap.size) :
    Calls Tryz.prog 133 #[.agg #[.string bd, vr]] w fun e w' => e = .returned (.agg #[.int .i64 x.vw, .int .i64 x.sq, .string (dOut bd)]) ∧ Below w.heap.size w w' := by
  have HR : Hid (Row w vr ms) := h
  obtain ⟨a, cap, rfl⟩ := RowG.slice h
  have hn0 : (0 : Int) < (ms.length : Int) := by have := lt_at hx; omega
  have hn1 : 0 < ms.length := lt_at hx
  have HX : Hid (∀ W, Below ((w.alloc (.cells #[.string bd, .slice a ms.length cap] 87)).alloc (.cells #[.int .i64 0, .int .i64 0, .string ⟨#[]⟩] 178)).heap.size ((w.alloc (.cells #[.string bd, .slice a ms.length cap] 87)).alloc (.cells #[.int .i64 0, .int .i64 0, .string ⟨#[]⟩] 178)) W → W.heap[w.heap.size]? = some (.cells #[.string bd, .slice a ms.length cap] 87 (0, 0)) ∧ W.heap[w.heap.size + 1]? = some (.cells #[.int .i64 0, .int .i64 0, .string ⟨#[]⟩] 178 (0, 0)) ∧ Below w.heap.size w W) := fun W hW => by
    have q1 := hW.block w.heap.size (by simp; omega)
    have q2 := hW.block (w.heap.size + 1) (by simp)
    have b2 := (bel_new w (.cells #[.string bd, .slice a ms.length cap] 87)).trans ((bel_new (w.alloc (.cells #[.string bd, .slice a ms.length cap] 87)) (.cells #[.int .i64 0, .int .i64 0, .string ⟨#[]⟩] 178)).mono (bel_new w _).size)
    refine ⟨q1.trans ?_, q2.trans ?_, b2.trans (hW.mono b2.size)⟩
    · exact ((bel_new (w.alloc (.cells #[.string bd, .slice a ms.length cap] 87)) _).block w.heap.size (by simp)).trans (heap_alloc_new w _)
    · have := heap_alloc_new (w.alloc (.cells #[.string bd, .slice a ms.length cap] 87)) (.cells #[.int .i64 0, .int .i64 0, .string ⟨#[]⟩] 178)
      rw [Rg.size_new] at this
      exact this
  have HDG : Hid (∀ W, Below w.heap.size w W → Calls Tryz.prog 147 #[.string bd] W fun e w' => e = .returned (.tuple #[.string (dOut bd), .int .i64 (dCode bd)]) ∧ Below W.heap.size W w') := fun W hW => implBodyDigest_any bd W (hK.below hW hp) (Nat.lt_of_lt_of_le hp hW.size)
  obtain ⟨dd, HDD⟩ : ∃ dd, Hid (dOut bd = dd) := ⟨_, rfl⟩
  obtain ⟨dc, HDC⟩ : ∃ dc, Hid (dCode bd = dc) := ⟨_, rfl⟩
  rw [HDD.out, HDC.out] at HDG
  rw [HDD.out]
  have HXX : Hid (ms[0]? = some x) := hx
  clear h hK hp hx
  go_enter Tryz.func133, Tryz.ntmps133
  go_wp2_with fail
  generalize (w.alloc (.cells #[.string bd, .slice a ms.length cap] 87)).alloc (.cells #[.int .i64 0, .int .i64 0, .string ⟨#[]⟩] 178) = wb at HX ⊢
  refine (HDG.out _ (HX.out _ (Below.refl _ _)).2.2).mono ?_
  rintro e w1 ⟨rfl, b1⟩
  obtain ⟨q1, q2, q3⟩ := HX.out _ b1
  have G : Hid (w1.heap[w.heap.size + 1]? = some (.cells #[.int .i64 0, .int .i64 0, .string ⟨#[]⟩] 178 (0, 0)) ∧ Below w.heap.size w w1) := ⟨q2, q3⟩
  have c1 := (blk_cell q1 1 (x := .slice a ms.length cap) rfl).1
  obtain ⟨b, off, rfl, hbl, x0, x1, x2, x3, x4, x5, x6⟩ := RowG.at (HR.out.below q3) rfl HXX.out
  clear x0 x3 x4 x5 x6 q1 q2 q3 b1 HX
  go_wp2_with fail
  refine Qt.region_quiet_tail 12 (by kernel_rfl) (by kernel_rfl) ?_
  simp only [List.take_succ_cons, List.take_zero, List.drop_succ_cons, List.drop_zero]
  repeat (go_big_quiet_step (fail))
  refine wpQuiet_nil ?_
  obtain ⟨e0, f0⟩ := blk_cell G.out.1 0 (x := .int .i64 0) rfl
  obtain ⟨e1, f1⟩ := blk_cell G.out.1 1 (x := .int .i64 0) rfl
  obtain ⟨e2, f2⟩ := blk_cell G.out.1 2 (x := .string ⟨#[]⟩) rfl
  have AF : (((w1.setCell ⟨w.heap.size + 1, 0, none⟩ (.int .i64 x.vw)).setCell ⟨w.heap.size + 1, 1, none⟩ (.int .i64 x.sq)).setCell ⟨w.heap.size + 1, 2, none⟩ (.string dd)).heap[w.heap.size + 1]? = some (.cells #[.int .i64 x.vw, .int .i64 x.sq, .string dd] 178 (0, 0)) := blk_set (blk_set (blk_set G.out.1 0 (.int .i64 x.vw)) 1 (.int .i64 x.sq)) 2 (.string dd)
  have GF : Below w.heap.size w (((w1.setCell ⟨w.heap.size + 1, 0, none⟩ (.int .i64 x.vw)).setCell ⟨w.heap.size + 1, 1, none⟩ (.int .i64 x.sq)).setCell ⟨w.heap.size + 1, 2, none⟩ (.string dd)) := Below.setCell (Below.setCell (Below.setCell G.out.2 (p := ⟨w.heap.size + 1, 0, none⟩) (Nat.le_succ _) (.int .i64 x.vw)) (p := ⟨w.heap.size + 1, 1, none⟩) (Nat.le_succ _) (.int .i64 x.sq)) (p := ⟨w.heap.size + 1, 2, none⟩) (Nat.le_succ _) (.string dd)
  go_wp2_with fail
  generalize (((w1.setCell ⟨w.heap.size + 1, 0, none⟩ (.int .i64 x.vw)).setCell ⟨w.heap.size + 1, 1, none⟩ (.int .i64 x.sq)).setCell ⟨w.heap.size + 1, 2, none⟩ (.string dd)) = wf at AF GF ⊢
  have AF2 : wf.drew.heap[w.heap.size + 1]? = some (.cells #[.int .i64 x.vw, .int .i64 x.sq, .string dd] 178 (0, 0)) := AF
  have GF2 : Below w.heap.size w wf.drew := GF.drew
  clear AF GF
  generalize wf.drew = wg at AF2 GF2 ⊢
  have d0 := (blk_cell AF2 0 (x := .int .i64 x.vw) rfl).1
  have d1 := (blk_cell AF2 1 (x := .int .i64 x.sq) rfl).1
  have d2 := (blk_cell AF2 2 (x := .string dd) rfl).1
  exact bodyPost_ret (v := .agg #[.int .i64 x.vw, .int .i64 x.sq, .string dd]) (by simp [results, Tryz.results133, go_sem, d0, d1, d2]) rfl ⟨rfl, GF2⟩
def CertP (n : Int) (bd : ByteArray) (ms : List Mg) : Prop := fCode n = 0 ∧ (ms.length : Int) = qOut n ∧ bdP n bd = true ∧ (∃ x, ms[0]? = some x ∧ ∀ y ∈ ms, sg n y = true ∧ ForB x.vw x.sq (dig bd) y) ∧ Rise ms ms.length
noncomputable def crtB (n : Int) (bd : ByteArray) (ms : List Mg) : Bool := bOf (CertP n bd ms)
theorem q_pos {n : Int} (h : fCode n = 0) : 1 ≤ qOut n ∧ qOut n ≤ 5 := by
  rcases f_cases n with rfl | rfl | rfl | ⟨_, _, _, _, hd⟩
  · exact ⟨by decide, by decide⟩
  · exact ⟨by decide, by decide⟩
  · exact ⟨by decide, by decide⟩
  · omega
theorem crt_q {n : Int} {bd : ByteArray} {ms : List Mg} (h : qvB n ms = false) : crtB n bd ms = false := bOf_false fun ⟨h1, h2, _, ⟨x, _, h4⟩, h5⟩ => by
  have : qvB n ms = true := qv_iff.2 ⟨h1, h2, fun y hy => by
    obtain ⟨a1, a2, _⟩ := h4 y hy
    unfold isV; rw [a1, a2]; rfl, h5⟩
  rw [this] at h; cases h
theorem crt_b {n : Int} {bd : ByteArray} {ms : List Mg} (h : bdP n bd = false) : crtB n bd ms = false := bOf_false fun ⟨_, _, h3, _, _⟩ => by rw [h] at h3; cases h3
theorem dig_out {n : Int} {bd : ByteArray} (h : bdP n bd = true) : dOut bd = dig bd := by
  unfold bdP at h
  rw [Bool.and_eq_true, decide_eq_true_eq] at h
  unfold dOut
  rw [if_neg (by omega)]
theorem crt_all {n : Int} {bd : ByteArray} {ms : List Mg} {x : Mg} (h1 : qvB n ms = true) (h2 : bdP n bd = true) (hx : ms[0]? = some x) : crtB n bd ms = bOf (AllB x.vw x.sq (dOut bd) ms) := by
  obtain ⟨a1, a2, a3, a4⟩ := qv_iff.1 h1
  rw [dig_out h2]
  refine (bOf_eq (p := CertP n bd ms) ?_).symm
  rw [bOf_iff]
  constructor
  · intro h
    refine ⟨a1, a2, h2, ⟨x, hx, fun y hy => ⟨?_, ?_⟩⟩, a4⟩
    · have := a3 y hy
      unfold isV at this
      rw [Bool.and_eq_true] at this
      exact this.1
    · obtain ⟨j, hj, e⟩ := List.getElem_of_mem hy
      exact h j y hj (by rw [List.getElem?_eq_getElem hj, e])
  · rintro ⟨_, _, _, ⟨z, hz, h⟩, _⟩ j y hj hy
    rw [hx] at hz
    cases hz
    exact (h y (mem_at hy)).2
set_option maxRecDepth 100000 in
set_option maxHeartbeats 1600000 in
theorem implCertOK_any (n : Int) (bd : ByteArray) (vr : Value) (ms : List Mg) (w : World) (h : Row w vr ms) (hl : ms.length ≤ 1048576) (hb : bd.size ≤ 1048576) (hK : KTab w) (hp : 0 < w.heap.size) :
    Calls Tryz.prog 132 #[.int .i64 n, .agg #[.string bd, vr]] w fun e w' => e = .returned (.bool (crtB n bd ms)) ∧ Below w.heap.size w w' := by
  have HR : Hid (Row w vr ms) := h
  obtain ⟨a, cap, rfl⟩ := RowG.slice h
  have HX : Hid (∀ W, Below (w.alloc (.cells #[.string bd, .slice a ms.length cap] 87)).heap.size (w.alloc (.cells #[.string bd, .slice a ms.length cap] 87)) W → W.cell? ⟨w.heap.size, 0, none⟩ = some (.string bd) ∧ W.cell? ⟨w.heap.size, 1, none⟩ = some (.slice a ms.length cap) ∧ Below w.heap.size w W) := fun W hW => by
    have h1 := (hW.block w.heap.size (by simp)).trans (heap_alloc_new w _)
    exact ⟨(blk_cell h1 0 rfl).1, (blk_cell h1 1 rfl).1, (bel_new w _).trans (hW.mono (by simp))⟩
  have GK : Hid (∀ W, Below w.heap.size w W → KTab W ∧ 0 < W.heap.size) := fun W hW => ⟨hK.below hW hp, Nat.lt_of_lt_of_le hp hW.size⟩
  have HQV : Hid (∀ W, Below w.heap.size w W → Calls Tryz.prog 145 #[.int .i64 n, .slice a ms.length cap] W fun e w' => ∃ u, e = .returned (.tuple #[u, .bool (qvB n ms)]) ∧ (qvB n ms = true → OwnV w' W.heap.size u (vts n ms)) ∧ Below W.heap.size W w') := fun W hW => quorumVotes_any n _ ms W (HR.out.below hW) hl (GK.out W hW).1 (GK.out W hW).2
  have HL : Hid (ms.length ≤ 1048576) := hl
  clear h hK hp hl
  cases hq : qvB n ms with
  | false =>
    have HE : Hid (crtB n bd ms = false) := crt_q hq
    rw [hq] at HQV
    clear hq
    go_enter Tryz.func132, Tryz.ntmps132
    go_wp2_with fail
    generalize w.alloc (.cells #[.string bd, .slice a ms.length cap] 87) = wb at HX ⊢
    refine (HQV.out _ (HX.out _ (Below.refl _ _)).2.2).mono ?_
    rintro e w1 ⟨u, rfl, -, b1⟩
    have G1 : Hid (Below w.heap.size w w1) := (HX.out _ b1).2.2
    clear b1
    go_wp2_with fail
    go_ret
    exact ⟨ret_b HE.out.symm, G1.out⟩
  | true =>
    obtain ⟨hf, hlen, hall, _⟩ := qv_iff.1 hq
    obtain ⟨x, hx⟩ := Rg.get_at (xs := ms) (k := 0) (by have := (q_pos hf).1; omega)
    have HBO : Hid (∀ W, Below w.heap.size w W → Calls Tryz.prog 130 #[.int .i64 n, .string bd] W fun e w' => e = .returned (.bool (bdP n bd)) ∧ Below W.heap.size W w') := fun W hW => implBodyOK_any n bd W hf hb (GK.out W hW).1 (GK.out W hW).2
    have HBL : Hid (∀ W, Below w.heap.size w W → Calls Tryz.prog 133 #[.agg #[.string bd, .slice a ms.length cap]] W fun e w' => e = .returned (.agg #[.int .i64 x.vw, .int .i64 x.sq, .string (dOut bd)]) ∧ Below W.heap.size W w') := fun W hW => ballotOf_any bd _ ms x W (HR.out.below hW) hx (GK.out W hW).1 (GK.out W hW).2
    have HAF : Hid (∀ W u B, OwnV W B u (vts n ms) → Calls Tryz.prog 146 #[u, .agg #[.int .i64 x.vw, .int .i64 x.sq, .string (dOut bd)]] W fun e w' => e = .returned (.bool (bOf (AllB x.vw x.sq (dOut bd) ms))) ∧ Below W.heap.size W w') := fun W u B ho => allFor_any n x.vw x.sq (dOut bd) u ms B W ho hall HL.out
    cases hbd : bdP n bd with
    | false =>
      have HE : Hid (crtB n bd ms = false) := crt_b hbd
      rw [hq] at HQV
      rw [hbd] at HBO
      clear hq hbd hf hlen hall hx hb HBL HAF
      go_enter Tryz.func132, Tryz.ntmps132
      go_wp2_with fail
      generalize w.alloc (.cells #[.string bd, .slice a ms.length cap] 87) = wb at HX ⊢
      refine (HQV.out _ (HX.out _ (Below.refl _ _)).2.2).mono ?_
      rintro e w1 ⟨u, rfl, -, b1⟩
      have G1 : Hid (Below w.heap.size w w1) := (HX.out _ b1).2.2
      have c0 := (HX.out _ b1).1
      clear b1
      go_wp2_with fail
      refine (HBO.out _ G1.out).mono ?_
      rintro e w2 ⟨rfl, b2⟩
      have G2 : Hid (Below w.heap.size w w2) := G1.out.trans (b2.mono G1.out.size)
      clear b2
      go_wp2_with fail
      go_ret
      exact ⟨ret_b HE.out.symm, G2.out⟩
    | true =>
      have HE : Hid (crtB n bd ms = bOf (AllB x.vw x.sq (dOut bd) ms)) := crt_all hq hbd hx
      rw [hq] at HQV
      rw [hbd] at HBO
      obtain ⟨o, HO⟩ : ∃ o, Hid (bOf (AllB x.vw x.sq (dOut bd) ms) = o) := ⟨_, rfl⟩
      obtain ⟨dd, HDD⟩ : ∃ dd, Hid (dOut bd = dd) := ⟨_, rfl⟩
      rw [HO.out] at HAF HE
      rw [HDD.out] at HAF HBL
      clear hq hbd hf hlen hall hx hb HO HDD
      go_enter Tryz.func132, Tryz.ntmps132
      go_wp2_with fail
      generalize w.alloc (.cells #[.string bd, .slice a ms.length cap] 87) = wb at HX ⊢
      refine (HQV.out _ (HX.out _ (Below.refl _ _)).2.2).mono ?_
      rintro e w1 ⟨u, rfl, o1, b1⟩
      have B1 : Hid (Below wb.heap.size wb w1) := b1
      have O1 : Hid (OwnV w1 wb.heap.size u (vts n ms)) := o1 trivial
      have c0 := (HX.out _ b1).1
      clear b1 o1
      go_wp2_with fail
      refine (HBO.out _ (HX.out _ B1.out).2.2).mono ?_
      rintro e w2 ⟨rfl, b2⟩
      have B2 : Hid (Below wb.heap.size wb w2) := B1.out.trans (b2.mono B1.out.size)
      have O2 : Hid (OwnV w2 wb.heap.size u (vts n ms)) := O1.out.below b2
      have d0 := (HX.out _ B2.out).1
      have d1 := (HX.out _ B2.out).2.1
      clear b2
      go_wp2_with fail
      refine (HBL.out _ (HX.out _ B2.out).2.2).mono ?_
      rintro e w3 ⟨rfl, b3⟩
      have B3 : Hid (Below wb.heap.size wb w3) := B2.out.trans (b3.mono B2.out.size)
      have O3 : Hid (OwnV w3 wb.heap.size u (vts n ms)) := O2.out.below b3
      clear b3
      go_wp2_with fail
      refine (HAF.out _ _ _ O3.out).mono ?_
      rintro e w4 ⟨rfl, b4⟩
      have G4 : Hid (Below w.heap.size w w4) := (HX.out _ (B3.out.trans (b4.mono B3.out.size))).2.2
      clear b4
      go_wp2_with fail
      go_ret
      exact ⟨ret_b HE.out.symm, G4.out⟩
end Go.Proofs.YtondmbeccpekiaaGreatDoor.Vt

/- Certificates that are right: the specification. -/
namespace Go.Proofs.YtondmbeccpekiaaGreatDoor.Vt
open Go.RowKit Go.Proofs.YtondmbeccpekiaaGreatDoor.Gm Go.Proofs.YtondmbeccpekiaaGreatDoor.Si Go.Proofs.YtondmbeccpekiaaGreatDoor.Tm Go.Proofs.YtondmbeccpekiaaGreatDoor.Ms Go.Proofs.YtondmbeccpekiaaGreatDoor.Sh
open Go.Proofs.YtondmbeccpekiaaGreatDoor.Qm (qOut)
open Go.Proofs.YtondmbeccpekiaaGreatDoor.Bd (dig dOut dCode l06Digest_any)
open Go.Proofs.YtondmbeccpekiaaGreatDoor.Bw (bdB bdP l06Body_any)
open Go.Proofs.YtondmbeccpekiaaGreatDoor.Rg (RowG RowG.slice RowG.at lt_at mem_at blk_cell blk_set bel_new)

def One (n : Int) (bd : ByteArray) (x0 : Mg) (ms : List Mg) (j : Nat) (x : Mg) : Prop := (sg n x = true ∧ ForB x0.vw x0.sq (dig bd) x) ∧ ∀ m y, j = m + 1 → ms[m]? = some y → y.fr < x.fr
theorem crt_no {n : Int} {bd : ByteArray} {x0 x : Mg} {ms : List Mg} {j : Nat} (h0 : ms[0]? = some x0) (hx : ms[j]? = some x) (h : ¬ One n bd x0 ms j x) : crtB n bd ms = false := bOf_false fun ⟨_, _, _, ⟨z, hz, h4⟩, h5⟩ => by
  rw [h0] at hz
  cases hz
  refine h ⟨h4 x (mem_at hx), fun m y hm hy => ?_⟩
  subst hm
  exact h5 m y x (lt_at hx) hy hx
theorem crt_yes {n : Int} {bd : ByteArray} {x0 : Mg} {ms : List Mg} (h0 : ms[0]? = some x0) (h1 : fCode n = 0) (h2 : (ms.length : Int) = qOut n) (h3 : bdP n bd = true) (h : ∀ j x, j < ms.length → ms[j]? = some x → One n bd x0 ms j x) : crtB n bd ms = true := by
  refine bOf_true ⟨h1, h2, h3, ⟨x0, h0, fun y hy => ?_⟩, fun j x y hj hx hy => ?_⟩
  · obtain ⟨j, hj, e⟩ := List.getElem_of_mem hy
    exact (h j y hj (by rw [List.getElem?_eq_getElem hj, e])).1
  · exact (h (j + 1) y hj hy).2 j x rfl hx
set_option maxRecDepth 100000 in
set_option maxHeartbeats 3200000 in
theorem l06Cert_any (n : Int) (bd : ByteArray) (vr : Value) (ms : List Mg) (w : World) (hf : fCode n = 0) (h : Row w vr ms) (hl : ms.length ≤ 1048576) :
    Calls Tryz.prog 64 #[.int .i64 n, .agg #[.string bd, vr]] w fun e w' => e = .returned (.bool (crtB n bd ms)) ∧ Below w.heap.size w w' := by
  have HR : Hid (Row w vr ms) := h
  obtain ⟨a, cap, rfl⟩ := RowG.slice h
  have HX : Hid (∀ W, Below (w.alloc (.cells #[.string bd, .slice a ms.length cap] 87)).heap.size (w.alloc (.cells #[.string bd, .slice a ms.length cap] 87)) W → W.cell? ⟨w.heap.size, 0, none⟩ = some (.string bd) ∧ W.cell? ⟨w.heap.size, 1, none⟩ = some (.slice a ms.length cap) ∧ Below w.heap.size w W) := fun W hW => by
    have h1 := (hW.block w.heap.size (by simp)).trans (heap_alloc_new w _)
    exact ⟨(blk_cell h1 0 rfl).1, (blk_cell h1 1 rfl).1, (bel_new w _).trans (hW.mono (by simp))⟩
  have HQM : Hid (∀ W, Calls Tryz.prog 92 #[.int .i64 n] W fun e w' => e = .returned (.int .i64 (qOut n)) ∧ W = w') := fun W => Qm.l06Quorum_any n W hf
  clear h
  by_cases hq : (ms.length : Int) = qOut n
  · have hq' : ((ms.length : Int) != qOut n) = false := by simp [hq]
    by_cases h20 : (20000 : Int) < (bd.size : Int)
    · have HE : Hid (crtB n bd ms = false) := crt_b (by unfold bdP; rw [decide_eq_false (by omega)]; rfl)
      have h20' : decide ((20000 : Int) < (bd.size : Int)) = true := decide_eq_true h20
      obtain ⟨q, HQ⟩ : ∃ q, Hid (qOut n = q) := ⟨_, rfl⟩
      rw [HQ.out] at HQM hq'
      clear hq
      go_enter Tryz.func64, Tryz.ntmps64
      go_upto_region 1 with fail
      generalize w.alloc (.cells #[.string bd, .slice a ms.length cap] 87) = wb at HX ⊢
      obtain ⟨X, hX, W, QI0, QO0⟩ := Qc.klass wb
      have QI : Hid (∀ w', Below wb.heap.size wb w' → ∃ x, w' = W x) := QI0
      have QO : Hid (∀ x, Below wb.heap.size wb (W x)) := QO0
      clear QI0 QO0
      have y0 := fun q => (HX.out _ (QO.out q)).1
      have y1 := fun q => (HX.out _ (QO.out q)).2.1
      refine Qc.region_class (W := W) (by kernel_rfl) (by kernel_rfl) (QI.out _ Qc.from_drew) ?_
      repeat (go_big_quiet_step (first | (go_at_call 92; refine (HQM.out _).mono ?_; rintro e w2 ⟨rfl, rfl⟩; exact ⟨rfl, ⟨_, rfl⟩⟩)))
      refine wpQuiet_nil ?_
      rintro _ ⟨xq, rfl⟩
      have G2 : Hid (Below w.heap.size w (W xq)) := (HX.out _ (QO.out xq)).2.2
      generalize W xq = wq at G2 ⊢
      go_wp2_with fail
      go_ret
      exact ⟨ret_b HE.out.symm, G2.out⟩
    · have h20' : decide ((20000 : Int) < (bd.size : Int)) = false := decide_eq_false h20
      have HLB : Hid (∀ W, Calls Tryz.prog 62 #[.int .i64 n, .string bd] W fun e w' => e = .returned (.bool (bdB n bd)) ∧ Below W.heap.size W w') := fun W => l06Body_any n bd W hf (by omega)
      cases hbd : bdB n bd with
      | false =>
        have HE : Hid (crtB n bd ms = false) := crt_b (by unfold bdP; rw [hbd, Bool.and_false])
        rw [hbd] at HLB
        obtain ⟨q, HQ⟩ : ∃ q, Hid (qOut n = q) := ⟨_, rfl⟩
        rw [HQ.out] at HQM hq'
        clear hq hbd
        go_enter Tryz.func64, Tryz.ntmps64
        go_upto_region 1 with fail
        generalize w.alloc (.cells #[.string bd, .slice a ms.length cap] 87) = wb at HX ⊢
        obtain ⟨X, hX, W, QI0, QO0⟩ := Qc.klass wb
        have QI : Hid (∀ w', Below wb.heap.size wb w' → ∃ x, w' = W x) := QI0
        have QO : Hid (∀ x, Below wb.heap.size wb (W x)) := QO0
        clear QI0 QO0
        have y0 := fun q => (HX.out _ (QO.out q)).1
        have y1 := fun q => (HX.out _ (QO.out q)).2.1
        refine Qc.region_class (W := W) (by kernel_rfl) (by kernel_rfl) (QI.out _ Qc.from_drew) ?_
        repeat (go_big_quiet_step (first | (go_at_call 92; refine (HQM.out _).mono ?_; rintro e w2 ⟨rfl, rfl⟩; exact ⟨rfl, ⟨_, rfl⟩⟩) | (go_at_call 62; refine (HLB.out _).mono ?_; rintro e w2 ⟨rfl, b2⟩; exact ⟨rfl, Qc.back QI.out QO.out b2⟩)))
        refine wpQuiet_nil ?_
        rintro _ ⟨xq, rfl⟩
        have G2 : Hid (Below w.heap.size w (W xq)) := (HX.out _ (QO.out xq)).2.2
        generalize W xq = wq at G2 ⊢
        go_wp2_with fail
        go_ret
        exact ⟨ret_b HE.out.symm, G2.out⟩
      | true =>
        have HBP : Hid (bdP n bd = true) := by show _ = _; unfold bdP; rw [hbd, decide_eq_true (by omega)]; rfl
        obtain ⟨x0, hx0⟩ := Rg.get_at (xs := ms) (k := 0) (by have := (q_pos hf).1; omega)
        have HXX : Hid (ms[0]? = some x0) := hx0
        have HQL : Hid ((ms.length : Int) = qOut n) := hq
        have HFC : Hid (fCode n = 0) := hf
        have hn0 : (0 : Int) < (ms.length : Int) := by have := lt_at hx0; omega
        have HDG0 : Hid (∀ W, Calls Tryz.prog 93 #[.string bd] W fun e w' => e = .returned (.string (dig bd)) ∧ Below W.heap.size W w') := fun W => l06Digest_any bd W (by omega)
        rw [hbd] at HLB
        obtain ⟨q, HQ⟩ : ∃ q, Hid (qOut n = q) := ⟨_, rfl⟩
        rw [HQ.out] at HQM hq'
        clear hq hbd hf hx0
        go_enter Tryz.func64, Tryz.ntmps64
        go_upto_region 1 with fail
        generalize w.alloc (.cells #[.string bd, .slice a ms.length cap] 87) = wb at HX ⊢
        obtain ⟨X, hX, W, QI0, QO0⟩ := Qc.klass wb
        have QI : Hid (∀ w', Below wb.heap.size wb w' → ∃ x, w' = W x) := QI0
        have QO : Hid (∀ x, Below wb.heap.size wb (W x)) := QO0
        clear QI0 QO0
        have y0 := fun q => (HX.out _ (QO.out q)).1
        have y1 := fun q => (HX.out _ (QO.out q)).2.1
        refine Qc.region_class (W := W) (by kernel_rfl) (by kernel_rfl) (QI.out _ Qc.from_drew) ?_
        repeat (go_big_quiet_step (first | (go_at_call 92; refine (HQM.out _).mono ?_; rintro e w2 ⟨rfl, rfl⟩; exact ⟨rfl, ⟨_, rfl⟩⟩) | (go_at_call 62; refine (HLB.out _).mono ?_; rintro e w2 ⟨rfl, b2⟩; exact ⟨rfl, Qc.back QI.out QO.out b2⟩)))
        refine wpQuiet_nil ?_
        rintro _ ⟨xq, rfl⟩
        have G2 : Hid (Below wb.heap.size wb (W xq)) := QO.out xq
        clear y0 y1 QI QO
        generalize W xq = wq at G2 ⊢
        go_wp2_with fail
        go_loopw [5] (fun i wr => ∃ k : Nat, k ≤ ms.length ∧ i = .int .i64 k ∧ Hid ((∀ j y, j < k → ms[j]? = some y → One n bd x0 ms j y) ∧ Below wb.heap.size wb wr)) (fun i _ => ms.length - (intOf i).toNat)
        case atStart => exact ⟨0, by omega, rfl, ⟨fun j y hj => by omega, G2.out⟩⟩
        case round =>
          obtain ⟨k, hk, rfl, HZ⟩ := hrel
          have c1 := (HX.out _ HZ.out.2).2.1
          by_cases hlt : k < ms.length
          · obtain ⟨x, hx⟩ := Rg.get_at hlt
            obtain ⟨b, off, rfl, hbl, d0, d1, d2, d3, d4, d5, d6⟩ := RowG.at (HR.out.below (HX.out _ HZ.out.2).2.2) rfl hx
            have HXK : Hid (ms[k]? = some x) := hx
            have HBN : Hid (Below wb.heap.size wb (wr.alloc (.cells #[.int .i64 x.kd, .int .i64 x.vw, .int .i64 x.sq, .int .i64 x.fr, .string x.dg, .string x.bd, .string x.mc] 59))) := HZ.out.2.alloc HZ.out.2.size _
            have HXM : Hid (∀ W, Below (wr.alloc (.cells #[.int .i64 x.kd, .int .i64 x.vw, .int .i64 x.sq, .int .i64 x.fr, .string x.dg, .string x.bd, .string x.mc] 59)).heap.size (wr.alloc (.cells #[.int .i64 x.kd, .int .i64 x.vw, .int .i64 x.sq, .int .i64 x.fr, .string x.dg, .string x.bd, .string x.mc] 59)) W → W.cell? ⟨wr.heap.size, 0, none⟩ = some (.int .i64 x.kd) ∧ W.cell? ⟨wr.heap.size, 1, none⟩ = some (.int .i64 x.vw) ∧ W.cell? ⟨wr.heap.size, 2, none⟩ = some (.int .i64 x.sq) ∧ W.cell? ⟨wr.heap.size, 3, none⟩ = some (.int .i64 x.fr) ∧ W.cell? ⟨wr.heap.size, 4, none⟩ = some (.string x.dg) ∧ W.cell? ⟨wr.heap.size, 5, none⟩ = some (.string x.bd) ∧ W.cell? ⟨wr.heap.size, 6, none⟩ = some (.string x.mc)) := fun W hW => by
              have h1 := (hW.block wr.heap.size (by simp)).trans (heap_alloc_new wr _)
              exact ⟨(blk_cell h1 0 rfl).1, (blk_cell h1 1 rfl).1, (blk_cell h1 2 rfl).1, (blk_cell h1 3 rfl).1, (blk_cell h1 4 rfl).1, (blk_cell h1 5 rfl).1, (blk_cell h1 6 rfl).1⟩
            have HSG : Hid (∀ W, Calls Tryz.prog 30 #[.int .i64 n, .agg #[.int .i64 x.kd, .int .i64 x.vw, .int .i64 x.sq, .int .i64 x.fr, .string x.dg, .string x.bd, .string x.mc]] W fun e w' => e = .returned (.bool (sg n x)) ∧ Below W.heap.size W w') := fun W => by
              rw [sg_eq HFC.out]; exact l06Signed_any n x.kd x.vw x.sq x.fr x.dg x.bd x.mc W
            have HDG : Hid (∀ W, Calls Tryz.prog 93 #[.string bd] W fun e w' => e = .returned (.string (dig bd)) ∧ Below W.heap.size W w') := HDG0.out
            obtain ⟨dd, HDD⟩ : ∃ dd, Hid (dig bd = dd) := ⟨_, rfl⟩
            rw [HDD.out] at HDG
            clear hx
            go_upto_region 7 with fail
            generalize wr.alloc (.cells #[.int .i64 x.kd, .int .i64 x.vw, .int .i64 x.sq, .int .i64 x.fr, .string x.dg, .string x.bd, .string x.mc] 59) = wc at HXM HBN ⊢
            obtain ⟨X2, hX2, W, QI0, QO0⟩ := Qc.klass wc
            have QI : Hid (∀ w', Below wc.heap.size wc w' → ∃ x, w' = W x) := QI0
            have QO : Hid (∀ x, Below wc.heap.size wc (W x)) := QO0
            have QZ : Hid (∀ q, Below wb.heap.size wb (W q)) := fun q => HBN.out.trans ((QO.out q).mono HBN.out.size)
            have QB : Hid (∀ q, Below w.heap.size w (W q)) := fun q => (HX.out _ (QZ.out q)).2.2
            clear QI0 QO0 d0 d1 d2 d3 d4 d5 d6 c1
            have y0 := fun q => (HX.out _ (QZ.out q)).1
            have y1 := fun q => (HX.out _ (QZ.out q)).2.1
            have m0 := fun q => (HXM.out _ (QO.out q)).1
            have m1 := fun q => (HXM.out _ (QO.out q)).2.1
            have m2 := fun q => (HXM.out _ (QO.out q)).2.2.1
            have m3 := fun q => (HXM.out _ (QO.out q)).2.2.2.1
            have m4 := fun q => (HXM.out _ (QO.out q)).2.2.2.2.1
            have m5 := fun q => (HXM.out _ (QO.out q)).2.2.2.2.2.1
            have m6 := fun q => (HXM.out _ (QO.out q)).2.2.2.2.2.2
            have HP : Hid (∀ j y, ms[j]? = some y → ∀ q, E1 (W q) b (off + j * 7) y) := fun j y hy q => by
              obtain ⟨b', off', e, _, E⟩ := RowG.at (HR.out.below (QB.out q)) rfl hy
              cases e
              exact E
            have z1 : ∀ q, (W q).cell? ⟨b, off + 1, none⟩ = some (.int .i64 x0.vw) := fun q => by have := (HP.out 0 x0 HXX.out q).2.1; simpa using this
            have z2 : ∀ q, (W q).cell? ⟨b, off + 2, none⟩ = some (.int .i64 x0.sq) := fun q => by have := (HP.out 0 x0 HXX.out q).2.2.1; simpa using this
            by_cases e1 : x.kd = 2
            · have f1 : (x.kd != 2) = false := by simp [e1]
              cases e2 : sg n x with
              | false =>
                rw [e2] at HSG
                have HKD : Hid (x.kd = 2) := e1
                clear e1
                have HF : Hid (crtB n bd ms = false) := crt_no HXX.out HXK.out (fun h => by have := h.1.1; rw [e2] at this; cases this)
                refine Qc.region_class (W := W) (by kernel_rfl) (by kernel_rfl) (QI.out _ Qc.from_drew) ?_
                repeat (go_big_quiet_step (first | (go_at_call 30; refine (HSG.out _).mono ?_; rintro e w2 ⟨rfl, b2⟩; exact ⟨rfl, Qc.back QI.out QO.out b2⟩) | (go_at_call 93; refine (HDG.out _).mono ?_; rintro e w2 ⟨rfl, b2⟩; exact ⟨rfl, Qc.back QI.out QO.out b2⟩)))
                refine wpQuiet_nil ?_
                rintro _ ⟨xq, rfl⟩
                have G2 : Hid (Below w.heap.size w (W xq)) := QB.out xq
                clear y0 y1 m0 m1 m2 m3 m4 m5 m6 z1 z2 HSG HDG
                generalize W xq = wq at G2 ⊢
                go_wp2_with fail
                go_ret
                exact ⟨ret_b HF.out.symm, G2.out⟩
              | true =>
                rw [e2] at HSG
                by_cases e3 : x.dg = dd
                · have f3 : (x.dg.toList != dd.toList) = false := by rw [e3]; simp
                  have f3b : (x.dg.toList == dd.toList) = true := by rw [e3]; simp
                  by_cases e4 : x.vw = x0.vw
                  · have f4 : (x.vw != x0.vw) = false := by simp [e4]
                    by_cases e5 : x.sq = x0.sq
                    · have f5 : (x.sq != x0.sq) = false := by simp [e5]
                      have HON0 : Hid ((∀ m y, k = m + 1 → ms[m]? = some y → y.fr < x.fr) → ∀ j y, j < k + 1 → ms[j]? = some y → One n bd x0 ms j y) := fun hm j y hj hy => by
                        by_cases ej : j = k
                        · subst ej; rw [HXK.out] at hy; cases hy; exact ⟨⟨e2, e1, e4, e5, e3.trans HDD.out.symm⟩, hm⟩
                        · exact HZ.out.1 j y (by omega) hy
                      clear e1 e2 e3 e4 e5
                      by_cases hk0 : k = 0
                      · subst hk0
                        have HON : Hid (∀ j y, j < 0 + 1 → ms[j]? = some y → One n bd x0 ms j y) := HON0.out fun m y hm => by omega
                        clear HON0
                        refine Qc.region_class (W := W) (by kernel_rfl) (by kernel_rfl) (QI.out _ Qc.from_drew) ?_
                        repeat (go_big_quiet_step (first | (go_at_call 30; refine (HSG.out _).mono ?_; rintro e w2 ⟨rfl, b2⟩; exact ⟨rfl, Qc.back QI.out QO.out b2⟩) | (go_at_call 93; refine (HDG.out _).mono ?_; rintro e w2 ⟨rfl, b2⟩; exact ⟨rfl, Qc.back QI.out QO.out b2⟩)))
                        refine wpQuiet_nil ?_
                        rintro _ ⟨xq, rfl⟩
                        have G2 : Hid (Below wb.heap.size wb (W xq)) := QZ.out xq
                        clear y0 y1 m0 m1 m2 m3 m4 m5 m6 z1 z2 HSG HDG
                        generalize W xq = wq at G2 ⊢
                        go_wp2_with fail
                        exact ⟨⟨0 + 1, by omega, by go_num, ⟨HON.out, G2.out⟩⟩, by simp [intOf]; omega⟩
                      · obtain ⟨j, rfl⟩ : ∃ j, k = j + 1 := ⟨k - 1, by omega⟩
                        obtain ⟨y, hy⟩ := Rg.get_at (xs := ms) (k := j) (by omega)
                        have HY : Hid (ms[j]? = some y) := hy
                        have p3 : ∀ q, (W q).cell? ⟨b, off + j * 7 + 3, none⟩ = some (.int .i64 y.fr) := fun q => (HP.out j y hy q).2.2.2.1
                        have q1 : (0 : Int) < (j : Int) + 1 := by omega
                        have q2 : (j : Int) + 1 < (ms.length : Int) := by omega
                        have q3 : (j : Int) < (ms.length : Int) := by omega
                        clear hy
                        by_cases e6 : x.fr ≤ y.fr
                        · have f6 : decide (x.fr ≤ y.fr) = true := decide_eq_true e6
                          clear HON0
                          have HF : Hid (crtB n bd ms = false) := crt_no HXX.out HXK.out (fun h => by have := h.2 j y rfl HY.out; omega)
                          refine Qc.region_class (W := W) (by kernel_rfl) (by kernel_rfl) (QI.out _ Qc.from_drew) ?_
                          repeat (go_big_quiet_step (first | (go_at_call 30; refine (HSG.out _).mono ?_; rintro e w2 ⟨rfl, b2⟩; exact ⟨rfl, Qc.back QI.out QO.out b2⟩) | (go_at_call 93; refine (HDG.out _).mono ?_; rintro e w2 ⟨rfl, b2⟩; exact ⟨rfl, Qc.back QI.out QO.out b2⟩)))
                          refine wpQuiet_nil ?_
                          rintro _ ⟨xq, rfl⟩
                          have G2 : Hid (Below w.heap.size w (W xq)) := QB.out xq
                          clear y0 y1 m0 m1 m2 m3 m4 m5 m6 z1 z2 HSG HDG
                          generalize W xq = wq at G2 ⊢
                          go_wp2_with fail
                          go_ret
                          exact ⟨ret_b HF.out.symm, G2.out⟩
                        · have f6 : decide (x.fr ≤ y.fr) = false := decide_eq_false e6
                          have HON : Hid (∀ i z, i < j + 1 + 1 → ms[i]? = some z → One n bd x0 ms i z) := HON0.out fun m z hm hz => by
                            obtain rfl : j = m := by omega
                            rw [HY.out] at hz
                            cases hz
                            omega
                          clear HON0 e6
                          refine Qc.region_class (W := W) (by kernel_rfl) (by kernel_rfl) (QI.out _ Qc.from_drew) ?_
                          repeat (go_big_quiet_step (first | (go_at_call 30; refine (HSG.out _).mono ?_; rintro e w2 ⟨rfl, b2⟩; exact ⟨rfl, Qc.back QI.out QO.out b2⟩) | (go_at_call 93; refine (HDG.out _).mono ?_; rintro e w2 ⟨rfl, b2⟩; exact ⟨rfl, Qc.back QI.out QO.out b2⟩)))
                          refine wpQuiet_nil ?_
                          rintro _ ⟨xq, rfl⟩
                          have G2 : Hid (Below wb.heap.size wb (W xq)) := QZ.out xq
                          clear y0 y1 m0 m1 m2 m3 m4 m5 m6 z1 z2 HSG HDG
                          generalize W xq = wq at G2 ⊢
                          go_wp2_with fail
                          exact ⟨⟨j + 1 + 1, by omega, by go_num, ⟨HON.out, G2.out⟩⟩, by simp [intOf]; omega⟩
                    · have f5 : (x.sq != x0.sq) = true := by simp [e5]
                      clear e1 e3 e4
                      have HF : Hid (crtB n bd ms = false) := crt_no HXX.out HXK.out (fun h => e5 h.1.2.2.2.1)
                      refine Qc.region_class (W := W) (by kernel_rfl) (by kernel_rfl) (QI.out _ Qc.from_drew) ?_
                      repeat (go_big_quiet_step (first | (go_at_call 30; refine (HSG.out _).mono ?_; rintro e w2 ⟨rfl, b2⟩; exact ⟨rfl, Qc.back QI.out QO.out b2⟩) | (go_at_call 93; refine (HDG.out _).mono ?_; rintro e w2 ⟨rfl, b2⟩; exact ⟨rfl, Qc.back QI.out QO.out b2⟩)))
                      refine wpQuiet_nil ?_
                      rintro _ ⟨xq, rfl⟩
                      have G2 : Hid (Below w.heap.size w (W xq)) := QB.out xq
                      clear y0 y1 m0 m1 m2 m3 m4 m5 m6 z1 z2 HSG HDG
                      generalize W xq = wq at G2 ⊢
                      go_wp2_with fail
                      go_ret
                      exact ⟨ret_b HF.out.symm, G2.out⟩
                  · have f4 : (x.vw != x0.vw) = true := by simp [e4]
                    clear e1 e3
                    have HF : Hid (crtB n bd ms = false) := crt_no HXX.out HXK.out (fun h => e4 h.1.2.2.1)
                    refine Qc.region_class (W := W) (by kernel_rfl) (by kernel_rfl) (QI.out _ Qc.from_drew) ?_
                    repeat (go_big_quiet_step (first | (go_at_call 30; refine (HSG.out _).mono ?_; rintro e w2 ⟨rfl, b2⟩; exact ⟨rfl, Qc.back QI.out QO.out b2⟩) | (go_at_call 93; refine (HDG.out _).mono ?_; rintro e w2 ⟨rfl, b2⟩; exact ⟨rfl, Qc.back QI.out QO.out b2⟩)))
                    refine wpQuiet_nil ?_
                    rintro _ ⟨xq, rfl⟩
                    have G2 : Hid (Below w.heap.size w (W xq)) := QB.out xq
                    clear y0 y1 m0 m1 m2 m3 m4 m5 m6 z1 z2 HSG HDG
                    generalize W xq = wq at G2 ⊢
                    go_wp2_with fail
                    go_ret
                    exact ⟨ret_b HF.out.symm, G2.out⟩
                · have f3 : (x.dg.toList != dd.toList) = true := by
                    rw [bne, list_eq_bytes, bOf_false e3]; rfl
                  have f3b : (x.dg.toList == dd.toList) = false := by rw [list_eq_bytes, bOf_false e3]
                  clear e1
                  have HF : Hid (crtB n bd ms = false) := crt_no HXX.out HXK.out (fun h => e3 (h.1.2.2.2.2.trans HDD.out))
                  refine Qc.region_class (W := W) (by kernel_rfl) (by kernel_rfl) (QI.out _ Qc.from_drew) ?_
                  repeat (go_big_quiet_step (first | (go_at_call 30; refine (HSG.out _).mono ?_; rintro e w2 ⟨rfl, b2⟩; exact ⟨rfl, Qc.back QI.out QO.out b2⟩) | (go_at_call 93; refine (HDG.out _).mono ?_; rintro e w2 ⟨rfl, b2⟩; exact ⟨rfl, Qc.back QI.out QO.out b2⟩)))
                  refine wpQuiet_nil ?_
                  rintro _ ⟨xq, rfl⟩
                  have G2 : Hid (Below w.heap.size w (W xq)) := QB.out xq
                  clear y0 y1 m0 m1 m2 m3 m4 m5 m6 z1 z2 HSG HDG
                  generalize W xq = wq at G2 ⊢
                  go_wp2_with fail
                  go_ret
                  exact ⟨ret_b HF.out.symm, G2.out⟩
            · have f1 : (x.kd != 2) = true := by simp [e1]
              have HF : Hid (crtB n bd ms = false) := crt_no HXX.out HXK.out (fun h => e1 h.1.2.1)
              refine Qc.region_class (W := W) (by kernel_rfl) (by kernel_rfl) (QI.out _ Qc.from_drew) ?_
              repeat (go_big_quiet_step (first | (go_at_call 30; refine (HSG.out _).mono ?_; rintro e w2 ⟨rfl, b2⟩; exact ⟨rfl, Qc.back QI.out QO.out b2⟩) | (go_at_call 93; refine (HDG.out _).mono ?_; rintro e w2 ⟨rfl, b2⟩; exact ⟨rfl, Qc.back QI.out QO.out b2⟩)))
              refine wpQuiet_nil ?_
              rintro _ ⟨xq, rfl⟩
              have G2 : Hid (Below w.heap.size w (W xq)) := QB.out xq
              clear y0 y1 m0 m1 m2 m3 m4 m5 m6 z1 z2 HSG HDG
              generalize W xq = wq at G2 ⊢
              go_wp2_with fail
              go_ret
              exact ⟨ret_b HF.out.symm, G2.out⟩
          · obtain rfl : k = ms.length := by omega
            have HF : Hid (crtB n bd ms = true) := crt_yes HXX.out HFC.out HQL.out HBP.out HZ.out.1
            go_wp2_with fail
            go_ret
            exact ⟨ret_b HF.out.symm, (HX.out _ HZ.out.2).2.2⟩
  · have hq' : ((ms.length : Int) != qOut n) = true := by simp [hq]
    have HE : Hid (crtB n bd ms = false) := bOf_false fun h => hq h.2.1
    obtain ⟨q, HQ⟩ : ∃ q, Hid (qOut n = q) := ⟨_, rfl⟩
    rw [HQ.out] at HQM hq'
    clear hq
    go_enter Tryz.func64, Tryz.ntmps64
    go_upto_region 1 with fail
    generalize w.alloc (.cells #[.string bd, .slice a ms.length cap] 87) = wb at HX ⊢
    obtain ⟨X, hX, W, QI0, QO0⟩ := Qc.klass wb
    have QI : Hid (∀ w', Below wb.heap.size wb w' → ∃ x, w' = W x) := QI0
    have QO : Hid (∀ x, Below wb.heap.size wb (W x)) := QO0
    clear QI0 QO0
    have y0 := fun q => (HX.out _ (QO.out q)).1
    have y1 := fun q => (HX.out _ (QO.out q)).2.1
    refine Qc.region_class (W := W) (by kernel_rfl) (by kernel_rfl) (QI.out _ Qc.from_drew) ?_
    repeat (go_big_quiet_step (first | (go_at_call 92; refine (HQM.out _).mono ?_; rintro e w2 ⟨rfl, rfl⟩; exact ⟨rfl, ⟨_, rfl⟩⟩)))
    refine wpQuiet_nil ?_
    rintro _ ⟨xq, rfl⟩
    have G2 : Hid (Below w.heap.size w (W xq)) := (HX.out _ (QO.out xq)).2.2
    generalize W xq = wq at G2 ⊢
    go_wp2_with fail
    go_ret
    exact ⟨ret_b HE.out.symm, G2.out⟩
end Go.Proofs.YtondmbeccpekiaaGreatDoor.Vt
