/- Texts put together: Pq, Pr, Ps8. -/
import Derived.Test.YtddmdnljfnimbaaGreatDoorM26
/- The plan of a quorum: the specification makes it. -/
namespace Go.Proofs.YtddmdnljfnimbaaGreatDoor.Pl
open Go.RowKit Go.Proofs.YtddmdnljfnimbaaGreatDoor.Sl Go.Proofs.YtddmdnljfnimbaaGreatDoor.By Go.Proofs.YtddmdnljfnimbaaGreatDoor.Ap Go.Proofs.YtddmdnljfnimbaaGreatDoor.Gm Go.Proofs.YtddmdnljfnimbaaGreatDoor.Sh Go.Proofs.YtddmdnljfnimbaaGreatDoor.Vt Go.Proofs.YtddmdnljfnimbaaGreatDoor.Tm Go.Proofs.YtddmdnljfnimbaaGreatDoor.Wc
open Go.Proofs.YtddmdnljfnimbaaGreatDoor.Rc (OwnM OwnM.row OwnM.kept OwnM.lt OwnM.below OwnM.mono Kq)
open Go.Proofs.YtddmdnljfnimbaaGreatDoor.Tl (OwnS)
open Go.Proofs.YtddmdnljfnimbaaGreatDoor.Qm (qOut inB)
open Go.Proofs.YtddmdnljfnimbaaGreatDoor.Rg (RowG RowG.slice RowG.at lt_at mem_at blk_cell blk_set blk_far bel_new)

/-- What is asked of one view change. -/
def One2 (n view : Int) (ms : List Mg) (j : Nat) (x : Mg) : Prop := (cfB n x.vw x = true ∧ x.vw = view) ∧ ∀ m y, j = m + 1 → ms[m]? = some y → y.fr < x.fr
theorem cf_view {n view : Int} {x : Mg} (h : cfB n view x = true) : cfB n x.vw x = true ∧ x.vw = view := by
  have e := (bOf_iff.1 h).2.2.1
  exact ⟨by rw [e]; exact h, e⟩
theorem ca_no {n view : Int} {ms : List Mg} {j : Nat} {x : Mg} (hx : ms[j]? = some x) (h : ¬ One2 n view ms j x) : caB n view ms = false := by
  cases e : caB n view ms with
  | false => rfl
  | true =>
    unfold caB at e
    rw [Bool.and_eq_true, List.all_eq_true] at e
    refine absurd ⟨cf_view (e.2 x (mem_at hx)), fun m y hm hy => ?_⟩ h
    subst hm
    exact (qv_iff.1 e.1).2.2.2 m y x (lt_at hx) hy hx
theorem ca_yes {n view : Int} {ms : List Mg} (hf : fCode n = 0) (hl : (ms.length : Int) = qOut n) (h : ∀ j x, j < ms.length → ms[j]? = some x → One2 n view ms j x) : caB n view ms = true := by
  unfold caB
  have ha : ∀ x ∈ ms, cfB n view x = true := fun x hx => by
    obtain ⟨j, hj, e⟩ := List.getElem_of_mem hx
    obtain ⟨⟨h1, h2⟩, _⟩ := h j x hj (by rw [List.getElem?_eq_getElem hj, e])
    rw [h2] at h1
    exact h1
  rw [Bool.and_eq_true, List.all_eq_true]
  refine ⟨qv_iff.2 ⟨hf, hl, fun x hx => ?_, fun j x y hj hx hy => (h (j + 1) y hj hy).2 j x rfl hx⟩, ha⟩
  have := bOf_iff.1 (ha x hx)
  unfold isV
  rw [this.1, this.2.1]; rfl
noncomputable def psL (n view : Int) (ms : List Mg) : List ByteArray := if caB n view ms then planL (caL ms) else []
theorem psL_no {n view : Int} {ms : List Mg} (h : caB n view ms = false) : psL n view ms = [] := by unfold psL; rw [h]; rfl
theorem psL_yes {n view : Int} {ms : List Mg} (h : caB n view ms = true) : psL n view ms = planL (caL ms) := by unfold psL; rw [h]; rfl
/-- The two arrays of the specification. -/
def vi (st : Nat → ByteArray × Int) (i : Nat) : Int := if (st i).2 = 0 then 0 else (st i).2 - 1
def bodA (st : Nat → ByteArray × Int) : Array Value := #[.string (st 0).1, .string (st 1).1, .string (st 2).1, .string (st 3).1, .string (st 4).1, .string (st 5).1, .string (st 6).1, .string (st 7).1]
def vieA (st : Nat → ByteArray × Int) : Array Value := #[.int .i64 (vi st 0), .int .i64 (vi st 1), .int .i64 (vi st 2), .int .i64 (vi st 3), .int .i64 (vi st 4), .int .i64 (vi st 5), .int .i64 (vi st 6), .int .i64 (vi st 7)]
theorem j8 {j : Nat} (h : j < 8) : j = 0 ∨ j = 1 ∨ j = 2 ∨ j = 3 ∨ j = 4 ∨ j = 5 ∨ j = 6 ∨ j = 7 := by omega
theorem bodA_at (st : Nat → ByteArray × Int) {j : Nat} (h : j < 8) : (bodA st)[j]? = some (.string (st j).1) := by
  rcases j8 h with rfl | rfl | rfl | rfl | rfl | rfl | rfl | rfl <;> rfl
theorem vieA_at (st : Nat → ByteArray × Int) {j : Nat} (h : j < 8) : (vieA st)[j]? = some (.int .i64 (vi st j)) := by
  rcases j8 h with rfl | rfl | rfl | rfl | rfl | rfl | rfl | rfl <;> rfl
theorem bodA_set {st st' : Nat → ByteArray × Int} {j : Nat} (h8 : j < 8) (h : ∀ i, i ≠ j → (st' i).1 = (st i).1) : bodA st' = (bodA st).setIfInBounds j (.string (st' j).1) := by
  apply Array.ext_getElem?
  intro i
  by_cases hi : i < 8
  · rw [bodA_at _ hi, Array.getElem?_setIfInBounds]
    by_cases e : j = i
    · subst e
      rw [if_pos rfl, if_pos (by show j < 8; exact h8)]
    · rw [if_neg e, bodA_at _ hi, h i (Ne.symm e)]
  · rw [Array.getElem?_eq_none (by show 8 ≤ i; omega), Array.getElem?_eq_none (by rw [Array.size_setIfInBounds]; show 8 ≤ i; omega)]
theorem vieA_set {st st' : Nat → ByteArray × Int} {j : Nat} (h8 : j < 8) (h : ∀ i, i ≠ j → st' i = st i) : vieA st' = (vieA st).setIfInBounds j (.int .i64 (vi st' j)) := by
  apply Array.ext_getElem?
  intro i
  by_cases hi : i < 8
  · rw [vieA_at _ hi, Array.getElem?_setIfInBounds]
    by_cases e : j = i
    · subst e
      rw [if_pos rfl, if_pos (by show j < 8; exact h8)]
    · rw [if_neg e, vieA_at _ hi]
      unfold vi
      rw [h i (Ne.symm e)]
  · rw [Array.getElem?_eq_none (by show 8 ≤ i; omega), Array.getElem?_eq_none (by rw [Array.size_setIfInBounds]; show 8 ≤ i; omega)]
structure Qst (w wr : World) (st : Nat → ByteArray × Int) : Prop where
  hb : wr.heap[w.heap.size]? = some (.cells (bodA st) 9 (0, 0))
  hv : wr.heap[w.heap.size + 1]? = some (.cells (vieA st) 3 (0, 0))
  bel : Below w.heap.size w wr
theorem Qst.below {w wr w' : World} {st : Nat → ByteArray × Int} (h : Qst w wr st) (hb : Below wr.heap.size wr w') : Qst w w' st :=
  ⟨(hb.block _ (Array.getElem?_eq_some_iff.1 h.hb).1).trans h.hb, (hb.block _ (Array.getElem?_eq_some_iff.1 h.hv).1).trans h.hv, h.bel.trans (hb.mono h.bel.size)⟩
theorem Qst.size {w wr : World} {st : Nat → ByteArray × Int} (h : Qst w wr st) : w.heap.size + 2 ≤ wr.heap.size := (Array.getElem?_eq_some_iff.1 h.hv).1
theorem Qst.put {w wr : World} {st : Nat → ByteArray × Int} {c : Ct} {j : Nat} (h : Qst w wr st) (hj : (hd c).sq = (j : Int) + 1) (h8 : j < 8) (hv : 0 ≤ (hd c).vw) (hle : (st j).2 ≤ (hd c).vw) :
    Qst w ((wr.setCell ⟨w.heap.size, j, none⟩ (.string c.bd)).setCell ⟨w.heap.size + 1, j, none⟩ (.int .i64 (hd c).vw)) (stp st c) := by
  have e1 := bodA_set (st := st) (st' := stp st c) h8 (fun i hi => by rw [stp_miss hj (Ne.symm hi)])
  have e2 := vieA_set (st := st) (st' := stp st c) h8 (fun i hi => stp_miss hj (Ne.symm hi))
  have e3 : vi (stp st c) j = (hd c).vw := by
    unfold vi
    rw [stp_hit hj hle]
    show (if (hd c).vw + 1 = 0 then (0 : Int) else (hd c).vw + 1 - 1) = _
    rw [if_neg (by omega)]
    omega
  rw [stp_hit hj hle] at e1
  rw [e3] at e2
  refine ⟨?_, ?_, ?_⟩
  · rw [e1]; exact (blk_far (by omega) _ _).trans (blk_set h.hb j _)
  · rw [e2]; exact blk_set ((blk_far (by omega) _ _).trans h.hv) j _
  · exact Below.setCell (Below.setCell h.bel (p := ⟨w.heap.size, j, none⟩) (Nat.le_refl _) _) (p := ⟨w.heap.size + 1, j, none⟩) (Nat.le_succ _) _
theorem own_far {w : World} {B : Nat} {v : Value} {ps : List (Ct × Value)} (h : RdC w B v ps) {g : Nat} (hg : g < B) (i : Nat) (x : Value) : RdC (w.setCell ⟨g, i, none⟩ x) B v ps :=
  ⟨row_kept h.row fun k hk => blk_far (by have := (h.lt k hk).1; omega) _ _, fun p hp => (h.mem p hp).kept fun k hk => blk_far (by have := ((h.mem p hp).lt k hk).1; omega) _ _⟩
theorem empty_iff {s : ByteArray} : s.toList.isEmpty = decide (s.size = 0) := by
  rw [Lib.toList_data]
  rw [Bool.eq_iff_iff, List.isEmpty_iff, decide_eq_true_eq]
  constructor
  · intro h; show s.data.size = 0; rw [← Array.length_toList, h]; rfl
  · intro h; exact List.eq_nil_of_length_eq_zero (by rw [Array.length_toList]; exact h)
theorem makeT (w : World) : Sem.run Tryz.prog (Instr.makeSlice 45 (.int .i64 8) (.int .i64 8)) w = .ok (.slice (some ⟨w.heap.size, 0, none⟩) 8 8) (w.alloc (.cells (bodA st0) 9)) := by kernel_rfl
theorem makeI (w : World) : Sem.run Tryz.prog (Instr.makeSlice 106 (.int .i64 8) (.int .i64 8)) w = .ok (.slice (some ⟨w.heap.size, 0, none⟩) 8 8) (w.alloc (.cells (vieA st0) 3)) := by kernel_rfl
/-- The bodies while noughts are laid: those ahead of k are the plan's. -/
def fill (st : Nat → ByteArray × Int) (k : Nat) : Nat → ByteArray × Int := fun i => if i < k then (ent st i, (st i).2) else st i
theorem fill_lt {st : Nat → ByteArray × Int} {k i : Nat} (h : i < k) : fill st k i = (ent st i, (st i).2) := if_pos h
theorem fill_ge {st : Nat → ByteArray × Int} {k i : Nat} (h : ¬ i < k) : fill st k i = st i := if_neg h
theorem fill_next {st : Nat → ByteArray × Int} {k : Nat} (h8 : k < 8) : bodA (fill st (k + 1)) = (bodA (fill st k)).setIfInBounds k (.string (ent st k)) := by
  have := bodA_set (st := fill st k) (st' := fill st (k + 1)) h8 (fun i hi => by
    by_cases h : i < k
    · rw [fill_lt (show i < k + 1 by omega), fill_lt h]
    · rw [fill_ge (show ¬ i < k + 1 by omega), fill_ge h])
  rw [fill_lt (Nat.lt_succ_self k)] at this
  exact this
theorem fill_same {st : Nat → ByteArray × Int} {k : Nat} (h : (st k).2 ≠ 0) : bodA (fill st (k + 1)) = bodA (fill st k) := by
  have e : ∀ i, (fill st (k + 1) i).1 = (fill st k i).1 := fun i => by
    by_cases h1 : i < k
    · rw [fill_lt (show i < k + 1 by omega), fill_lt h1]
    · by_cases h2 : i = k
      · subst h2
        rw [fill_lt (Nat.lt_succ_self _), fill_ge (Nat.lt_irrefl _)]
        show ent st i = _
        unfold ent
        rw [if_neg h]
      · rw [fill_ge (show ¬ i < k + 1 by omega), fill_ge h1]
  unfold bodA
  rw [e 0, e 1, e 2, e 3, e 4, e 5, e 6, e 7]
theorem ents_more (st : Nat → ByteArray × Int) (k : Nat) : ents st (k + 1) = ents st k ++ [ent st k] := by
  unfold ents; rw [List.range_succ, List.map_append]; rfl
end Go.Proofs.YtddmdnljfnimbaaGreatDoor.Pl

/- The plan of a quorum: l06Plan of the specification. -/
namespace Go.Proofs.YtddmdnljfnimbaaGreatDoor.Pl
open Go.RowKit Go.Proofs.YtddmdnljfnimbaaGreatDoor.Sl Go.Proofs.YtddmdnljfnimbaaGreatDoor.By Go.Proofs.YtddmdnljfnimbaaGreatDoor.Ap Go.Proofs.YtddmdnljfnimbaaGreatDoor.Gm Go.Proofs.YtddmdnljfnimbaaGreatDoor.Sh Go.Proofs.YtddmdnljfnimbaaGreatDoor.Vt Go.Proofs.YtddmdnljfnimbaaGreatDoor.Tm Go.Proofs.YtddmdnljfnimbaaGreatDoor.Wc
open Go.Proofs.YtddmdnljfnimbaaGreatDoor.Rc (OwnM OwnM.row OwnM.kept OwnM.lt OwnM.below OwnM.mono Kq)
open Go.Proofs.YtddmdnljfnimbaaGreatDoor.Tl (OwnS)
open Go.Proofs.YtddmdnljfnimbaaGreatDoor.Qm (qOut inB)
open Go.Proofs.YtddmdnljfnimbaaGreatDoor.Rg (RowG RowG.slice RowG.at lt_at mem_at blk_cell blk_set blk_far bel_new)

set_option maxRecDepth 100000 in
set_option maxHeartbeats 6400000 in
theorem l06Plan_any (n view : Int) (v : Value) (ms : List Mg) (w : World) (hf : fCode n = 0) (h : Row w v ms) (hlq : (ms.length : Int) = qOut n) :
    Calls Tryz.prog 41 #[.int .i64 n, .int .i64 view, v] w fun e w' => ∃ u, e = .returned (.tuple #[u, .bool (caB n view ms)]) ∧ OwnS w' w.heap.size u (psL n view ms) ∧ Below w.heap.size w w' := by
  obtain ⟨i0, hi0, hz0, hz1, hz2⟩ := info_parts Ty.info9
  have HR : Hid (Row w v ms) := h
  obtain ⟨a, cap, rfl⟩ := RowG.slice h
  have HQM := Qm.l06Quorum_any n w hf
  have HFC : Hid (fCode n = 0 ∧ (ms.length : Int) = qOut n) := ⟨hf, hlq⟩
  have h5 : ms.length ≤ 5 := by have := (q_pos hf).2; omega
  have hlq' : ((ms.length : Int) != qOut n) = false := by simp [hlq]
  obtain ⟨q, HQ⟩ : ∃ q, Hid (qOut n = q) := ⟨_, rfl⟩
  rw [HQ.out] at HQM hlq'
  have hmT := makeT
  have hmI := makeI
  have HQ0 : Hid (Qst w ((w.alloc (.cells (bodA st0) 9)).alloc (.cells (vieA st0) 3)) (stOf (caL (ms.take 0)))) := by
    have e2 := heap_alloc_new (w.alloc (.cells (bodA st0) 9)) (.cells (vieA st0) 3)
    rw [Rg.size_new] at e2
    exact ⟨((bel_new (w.alloc (.cells (bodA st0) 9)) _).block w.heap.size (by simp)).trans (heap_alloc_new w _), e2, (bel_new w _).trans ((bel_new _ _).mono (bel_new w _).size)⟩
  clear h hf hlq
  go_enter Tryz.func41, Tryz.ntmps41
  go_wp2_with fail
  refine HQM.mono ?_
  rintro e w1 ⟨rfl, rfl⟩
  go_wp2_with fail
  generalize (w.alloc (.cells (bodA st0) 9)).alloc (.cells (vieA st0) 3) = ws at HQ0 ⊢
  clear hmT hmI HQM
  go_loopw [10, 11] (fun l i wr => ∃ k : Nat, k ≤ ms.length ∧ l = .int .i64 (lastOf (caL (ms.take k)) : Int) ∧ i = .int .i64 k ∧ Hid ((∀ j x, j < k → ms[j]? = some x → One2 n view ms j x) ∧ Qst w wr (stOf (caL (ms.take k))))) (fun _ i _ => ms.length - (intOf i).toNat)
  case atStart => exact ⟨0, by omega, rfl, rfl, ⟨fun j x hj => by omega, HQ0.out⟩⟩
  case round =>
    obtain ⟨k, hk, rfl, rfl, HZ⟩ := hrel
    by_cases hlt : k < ms.length
    · obtain ⟨x, hx⟩ := Rg.get_at hlt
      obtain ⟨b, off, rfl, hbl, d0, d1, d2, d3, d4, d5, d6⟩ := RowG.at (HR.out.below HZ.out.2.bel) rfl hx
      have HXX : Hid (ms[k]? = some x) := hx
      have HLC : Hid (Calls Tryz.prog 33 #[.int .i64 n, .agg #[.int .i64 x.kd, .int .i64 x.vw, .int .i64 x.sq, .int .i64 x.fr, .string x.dg, .string x.bd, .string x.mc]] wr fun e w' => ∃ u, e = .returned (.tuple #[u, .bool (cfB n x.vw x)]) ∧ (∃ ps, ps.map (·.1) = cfL n x ∧ OwnC w' wr.heap.size u ps) ∧ Below wr.heap.size wr w') := l06Certs_any n x wr HFC.out.1
      have HFM : Hid (caL (ms.take (k + 1)) = caL (ms.take k) ++ crts x) := fm_step hx
      have HRT : Hid (cfB n x.vw x = true → ∀ c ∈ crts x, Right c) := crts_right
      have HRD : Hid (∀ c ∈ caL (ms.take k), Right c) := fun c hc => by
        unfold caL at hc
        obtain ⟨y, hy, hc⟩ := List.mem_flatMap.1 hc
        obtain ⟨j, hj, e⟩ := List.getElem_of_mem hy
        have hj2 : j < k := by rw [List.length_take] at hj; omega
        have hg : ms[j]? = some y := by
          have : (ms.take k)[j]? = some y := by rw [List.getElem?_eq_getElem hj, e]
          rw [List.getElem?_take, if_pos hj2] at this
          exact this
        exact crts_right (HZ.out.1 j y hj2 hg).1.1 c hc
      have HC8 : Hid (cfB n x.vw x = true → (crts x).length ≤ 8) := crts_len
      have HCL : Hid (cfB n x.vw x = true → cfL n x = crts x) := cfL_yes
      have hk0 : (0 : Int) ≤ (k : Int) := by omega
      have hk1 : (k : Int) < (ms.length : Int) := by omega
      obtain ⟨LL, HLL⟩ : ∃ LL : Nat, Hid (lastOf (caL (ms.take k)) = LL) := ⟨_, rfl⟩
      rw [HLL.out]
      clear hx
      go_wp2_with fail
      refine HLC.out.mono ?_
      rintro e w2 ⟨u2, rfl, ⟨ps, hm2, ho2⟩, b2⟩
      obtain ⟨ua, ucap, rfl⟩ := ho2.slice
      have B2 : Hid (Below wr.heap.size wr w2) := b2
      have O2 : Hid (RdC w2 wr.heap.size (.slice ua ps.length ucap) ps ∧ ps.map (·.1) = cfL n x) := ⟨RdC.of ho2, hm2⟩
      clear b2 ho2 hm2 d0 d1 d2 d3 d4 d5 d6
      obtain ⟨X, hX, W, QI0, QO0⟩ := Qc.klass w2
      have QI : Hid (∀ w', Below w2.heap.size w2 w' → ∃ x, w' = W x) := QI0
      have QO : Hid (∀ x, Below w2.heap.size w2 (W x)) := QO0
      clear QI0 QO0
      have QR : Hid (∀ q, Below wr.heap.size wr (W q)) := fun q => B2.out.trans ((QO.out q).mono B2.out.size)
      have QS : Hid (∀ q, Qst w (W q) (stOf (caL (ms.take k)))) := fun q => HZ.out.2.below (QR.out q)
      have QB : Hid (∀ q, Below w.heap.size w (W q)) := fun q => (QS.out q).bel
      have HP : Hid (∀ j y, ms[j]? = some y → ∀ q, E1 (W q) b (off + j * 7) y) := fun j y hy q => by
        obtain ⟨b', off', e, _, E⟩ := RowG.at (HR.out.below (QB.out q)) rfl hy
        cases e
        exact E
      have m1 : ∀ q, (W q).cell? ⟨b, off + k * 7 + 1, none⟩ = some (.int .i64 x.vw) := fun q => (HP.out k x HXX.out q).2.1
      have m3 : ∀ q, (W q).cell? ⟨b, off + k * 7 + 3, none⟩ = some (.int .i64 x.fr) := fun q => (HP.out k x HXX.out q).2.2.2.1
      go_upto_region 10 with fail
      cases ec : cfB n x.vw x with
      | false =>
        have HF : Hid (caB n view ms = false) := ca_no HXX.out (fun hh => by have := hh.1.1; rw [ec] at this; cases this)
        refine Qc.region_class (W := W) (by kernel_rfl) (by kernel_rfl) (QI.out _ Qc.from_drew) ?_
        repeat (go_big_quiet_step (fail))
        refine wpQuiet_nil ?_
        rintro _ ⟨xq, rfl⟩
        have G2 : Hid (Below w.heap.size w (W xq)) := QB.out xq
        clear m1 m3
        generalize W xq = wq at G2 ⊢
        go_wp2_with fail
        go_ret2
        exact ⟨_, ret_vb HF.out.symm, by rw [psL_no HF.out]; exact Rl.own_empty wq _ G2.out.size, G2.out.alloc G2.out.size _⟩
      | true =>
        by_cases ev : x.vw = view
        · have fv : (x.vw != view) = false := by simp [ev]
          have HYES : Hid ((∀ m y, k = m + 1 → ms[m]? = some y → y.fr < x.fr) → ∀ j y, j < k + 1 → ms[j]? = some y → One2 n view ms j y) := fun hm j y hj hy => by
            by_cases ej : j = k
            · subst ej; rw [HXX.out] at hy; cases hy; exact ⟨⟨ec, ev⟩, hm⟩
            · exact HZ.out.1 j y (by omega) hy
          have O3 : Hid (ps.map (·.1) = crts x ∧ (∀ c ∈ crts x, Right c) ∧ (crts x).length ≤ 8) := ⟨O2.out.2.trans (HCL.out ec), HRT.out ec, HC8.out ec⟩
          have hp8 : ps.length ≤ 8 := by have h1 := congrArg List.length O3.out.1; have h2 := O3.out.2.2; rw [List.length_map] at h1; omega
          generalize cfB n x.vw x = cb at ec
          subst ec
          clear ev
          have HREST : Hid ((∀ j y, j < k + 1 → ms[j]? = some y → One2 n view ms j y) → True) := fun _ => trivial
          by_cases hkz : k = 0
          · subst hkz
            have HON : Hid (∀ j y, j < 0 + 1 → ms[j]? = some y → One2 n view ms j y) := HYES.out fun m y hm => by omega
            refine Qc.region_class (W := W) (by kernel_rfl) (by kernel_rfl) (QI.out _ Qc.from_drew) ?_
            repeat (go_big_quiet_step (fail))
            refine wpQuiet_nil ?_
            rintro _ ⟨xq, rfl⟩
            have G3 : Hid (Qst w (W xq) (stOf (caL (ms.take (0)))) ∧ RdC (W xq) wr.heap.size (.slice ua ps.length ucap) ps) := ⟨QS.out xq, O2.out.1.below (QO.out xq)⟩
            have S3 : Hid (w.heap.size + 2 ≤ wr.heap.size) := HZ.out.2.size
            clear m1 m3 
            generalize W xq = wq at G3 ⊢
            obtain ⟨Bq, HBq⟩ : ∃ Bq, Hid (wr.heap.size = Bq) := ⟨_, rfl⟩
            rw [HBq.out] at G3 S3
            obtain ⟨D, HD⟩ : ∃ D, Hid (caL (ms.take (0)) = D) := ⟨_, rfl⟩
            rw [HD.out] at G3 HLL HFM HRD
            obtain ⟨cx, HCX⟩ : ∃ cx, Hid (crts x = cx) := ⟨_, rfl⟩
            rw [HCX.out] at HFM O3
            have HAT : Hid (∀ (i : Nat) (p : Ct × Value), ps[i]? = some p → cx[i]? = some p.1) := fun i p hp => by rw [← O3.out.1, List.getElem?_map, hp]; rfl
            have HCL2 : Hid (cx.length = ps.length) := by show _ = _; rw [← O3.out.1, List.length_map]
            clear QI QO QR QS QB HP O2 B2 HBq HD HCX HLC HRT HC8 HCL HYES HREST
            go_wp2_with fail
            go_loopw [10, 14] (fun l i wr => ∃ k2 : Nat, k2 ≤ ps.length ∧ l = .int .i64 (lastOf (D ++ cx.take k2) : Int) ∧ i = .int .i64 k2 ∧ Hid (Qst w wr (stOf (D ++ cx.take k2)) ∧ RdC wr Bq (.slice ua ps.length ucap) ps)) (fun _ i _ => ps.length - (intOf i).toNat)
            case atStart => exact ⟨0, by omega, by rw [List.take_zero, List.append_nil, HLL.out], rfl, by rw [List.take_zero, List.append_nil]; exact G3.out⟩
            case round =>
              obtain ⟨k2, hk2, rfl, rfl, HX⟩ := hrel
              by_cases hlt2 : k2 < ps.length
              · obtain ⟨p, hp⟩ := Rg.get_at hlt2
                have hpc := HAT.out k2 p hp
                have HRC0 := O3.out.2.1 p.1 (mem_at hpc)
                have HM := HX.out.2.mem p (mem_at hp)
                obtain ⟨gc, rfl, hBg, _, c0, c1⟩ := HX.out.2.at hp
                obtain ⟨pa, pcap, hpv⟩ := own_slice HM
                obtain ⟨⟨bd, mm⟩, vp⟩ := p
                simp only at hpv
                subst hpv
                have HRC : Right ⟨bd, mm⟩ := HRC0
                obtain ⟨bp, offp, rfl, hbp, f0, f1, f2, f3, f4, f5, f6⟩ := RowG.at (OwnM.row HM) rfl HRC.1
                have hn0 : (0 : Int) < (mm.length : Int) := by have h1 : 0 < mm.length := lt_at HRC.1; omega
                obtain ⟨jj, hj⟩ : ∃ jj : Nat, (hd ⟨bd, mm⟩).sq = (jj : Int) + 1 := ⟨((hd ⟨bd, mm⟩).sq - 1).toNat, by have := HRC.2.1.1; omega⟩
                have hj8 : jj < 8 := by have := HRC.2.1.2; omega
                have HJ : Hid ((hd ⟨bd, mm⟩).sq = (jj : Int) + 1) := hj
                have HTK : Hid (D ++ cx.take (k2 + 1) = (D ++ cx.take k2) ++ [⟨bd, mm⟩]) := by show _ = _; rw [cert_at hpc, List.append_assoc]
                have HIN : Hid (Inv (stOf (D ++ cx.take k2))) := (inv_of (fun c hc => by
                  rcases List.mem_append.1 hc with hc | hc
                  · exact HRD.out c hc
                  · exact O3.out.2.1 c (List.mem_of_mem_take hc))).1
                have HV : Hid (0 ≤ (hd ⟨bd, mm⟩).vw ∧ (hd ⟨bd, mm⟩).vw ≤ 20) := HRC.2.2.1
                have HLS : Hid (lastOf (D ++ cx.take (k2 + 1)) = max (lastOf (D ++ cx.take k2)) (jj + 1)) := by show _ = _; rw [HTK.out, lastOf_snoc, HJ.out]; congr 1
                have HSS : Hid (stOf (D ++ cx.take (k2 + 1)) = stp (stOf (D ++ cx.take k2)) ⟨bd, mm⟩) := by show _ = _; rw [HTK.out, stOf_snoc]
                obtain ⟨st, HST⟩ : ∃ st, Hid (stOf (D ++ cx.take k2) = st) := ⟨_, rfl⟩
                obtain ⟨M, HMM⟩ : ∃ M, Hid (lastOf (D ++ cx.take k2) = M) := ⟨_, rfl⟩
                rw [HST.out] at HX HIN HSS
                rw [HMM.out] at HLS ⊢
                obtain ⟨h, HH⟩ : ∃ h, Hid (hd ⟨bd, mm⟩ = h) := ⟨_, rfl⟩
                rw [HH.out] at f0 f1 f2 f3 f4 f5 f6 HV hj
                have hk20 : (0 : Int) ≤ (k2 : Int) := by omega
                have hk21 : (k2 : Int) < (ps.length : Int) := by omega
                rw [Nat.zero_mul, Nat.add_zero] at f0 f1 f2 f3 f4 f5 f6
                have hjn : (0 : Int) ≤ (jj : Int) := by omega
                have hj8' : (jj : Int) < 8 := by omega
                clear HRC0 HM HTK HST HMM hp hpc
                have HQV : Hid (∀ i, vi st i = if (st i).2 = 0 then 0 else (st i).2 - 1) := fun i => rfl
                have HXM : Hid (∀ W', Below (wr.alloc (.cells #[.int .i64 h.kd, .int .i64 h.vw, .int .i64 ((jj : Int) + 1), .int .i64 h.fr, .string h.dg, .string h.bd, .string h.mc] 39)).heap.size (wr.alloc (.cells #[.int .i64 h.kd, .int .i64 h.vw, .int .i64 ((jj : Int) + 1), .int .i64 h.fr, .string h.dg, .string h.bd, .string h.mc] 39)) W' → W'.cell? ⟨wr.heap.size, 1, none⟩ = some (.int .i64 h.vw) ∧ W'.cell? ⟨wr.heap.size, 2, none⟩ = some (.int .i64 ((jj : Int) + 1)) ∧ Qst w W' st ∧ RdC W' Bq (.slice (some ⟨gc, 0, none⟩) ps.length ucap) ps ∧ W'.cell? ⟨gc, k2 * 2, none⟩ = some (.string bd)) := fun W' hW => by
                  have h1 := (hW.block wr.heap.size (by simp)).trans (heap_alloc_new wr _)
                  have hb : Below wr.heap.size wr W' := (bel_new wr _).trans (hW.mono (by simp))
                  exact ⟨(blk_cell h1 1 rfl).1, (blk_cell h1 2 rfl).1, HX.out.1.below hb, HX.out.2.below hb, (hb.cell (p := ⟨gc, _, none⟩) (Nat.lt_of_lt_of_le (World.block_lt_of_cell? wr _ c0) (Nat.le_refl _))).trans c0⟩
                have HLN : Hid ((max (M : Int) ((jj : Int) + 1)) = ((lastOf (D ++ cx.take (k2 + 1)) : Nat) : Int)) := by show _ = _; rw [HLS.out]; omega
                go_upto_region 17 with fail
                rw [HLN.out]
                obtain ⟨xb, HXB⟩ : ∃ xb, Hid (wr.heap.size = xb) := ⟨_, rfl⟩
                have HXL : Hid (w.heap.size + 2 ≤ xb) := by show _ ≤ _; rw [← HXB.out]; exact HX.out.1.size
                rw [HXB.out] at HXM ⊢
                generalize wr.alloc (.cells #[.int .i64 h.kd, .int .i64 h.vw, .int .i64 ((jj : Int) + 1), .int .i64 h.fr, .string h.dg, .string h.bd, .string h.mc] 39) = wc at HXM ⊢
                obtain ⟨X, hX, W, QI0, QO0⟩ := Qc.klass wc
                have QI : Hid (∀ w', Below wc.heap.size wc w' → ∃ x, w' = W x) := QI0
                have QO : Hid (∀ x, Below wc.heap.size wc (W x)) := QO0
                clear QI0 QO0
                have z1 := fun q => (HXM.out _ (QO.out q)).1
                have z2 := fun q => (HXM.out _ (QO.out q)).2.1
                have s0 := fun q => (blk_cell (HXM.out _ (QO.out q)).2.2.1.hb jj (bodA_at st hj8)).1
                have s1 := fun q => (blk_cell (HXM.out _ (QO.out q)).2.2.1.hv jj (vieA_at st hj8)).1
                clear f0 f1 f2 f3 f4 f5 f6 c0 c1 HX hj
                by_cases hz : (st jj).2 = 0
                · have he := (HIN.out jj).2.2.1 hz
                  have fe : (st jj).1.toList.isEmpty = true := by rw [empty_iff]; exact decide_eq_true (by rw [he]; rfl)
                  have hle : (st jj).2 ≤ h.vw := by rw [hz]; exact HV.out.1
                  generalize (st jj).1 = sb at s0 fe
                  clear he hz
                  refine Qc.region_class (W := W) (by kernel_rfl) (by kernel_rfl) (QI.out _ Qc.from_drew) ?_
                  repeat (go_big_quiet_step (fail))
                  refine wpQuiet_nil ?_
                  rintro _ ⟨xq, rfl⟩
                  have HM3 : Hid ((W xq).cell? ⟨xb, 1, none⟩ = some (.int .i64 h.vw) ∧ (W xq).cell? ⟨xb, 2, none⟩ = some (.int .i64 ((jj : Int) + 1)) ∧ Qst w (W xq) st ∧ RdC (W xq) Bq (.slice (some ⟨gc, 0, none⟩) ps.length ucap) ps ∧ (W xq).cell? ⟨gc, k2 * 2, none⟩ = some (.string bd)) := HXM.out _ (QO.out xq)
                  clear z1 z2 s0 s1
                  generalize W xq = wq at HM3 ⊢
                  obtain ⟨t1, t2, _, _, t3⟩ := HM3.out
                  obtain ⟨g0, g0f⟩ := blk_cell HM3.out.2.2.1.hb jj (bodA_at st hj8)
                  obtain ⟨g1, g1f⟩ := blk_cell HM3.out.2.2.1.hv jj (vieA_at st hj8)
                  have hgx : xb ≠ w.heap.size ∧ xb ≠ w.heap.size + 1 := by have h1 := HXL.out; omega
                  have HF : Hid (Qst w ((wq.setCell ⟨w.heap.size, jj, none⟩ (.string bd)).setCell ⟨w.heap.size + 1, jj, none⟩ (.int .i64 h.vw)) (stOf (D ++ cx.take (k2 + 1))) ∧ RdC ((wq.setCell ⟨w.heap.size, jj, none⟩ (.string bd)).setCell ⟨w.heap.size + 1, jj, none⟩ (.int .i64 h.vw)) Bq (.slice (some ⟨gc, 0, none⟩) ps.length ucap) ps) := by
                    have h1 := HM3.out.2.2.1.put HJ.out hj8 (by rw [HH.out]; exact HV.out.1) (by rw [HH.out]; exact hle)
                    rw [HH.out] at h1
                    have h2 := S3.out
                    exact ⟨by rw [HSS.out]; exact h1, own_far (own_far HM3.out.2.2.2.1 (by omega) _ _) (by omega) _ _⟩
                  have e1 : (wq.setCell ⟨w.heap.size, jj, none⟩ (.string bd)).cell? ⟨xb, 1, none⟩ = some (.int .i64 h.vw) := (World.cell?_of_block (a := ⟨xb, 1, none⟩) (blk_far hgx.1 _ _)).trans t1
                  have e2 : (wq.setCell ⟨w.heap.size, jj, none⟩ (.string bd)).cell? ⟨xb, 2, none⟩ = some (.int .i64 ((jj : Int) + 1)) := (World.cell?_of_block (a := ⟨xb, 2, none⟩) (blk_far hgx.1 _ _)).trans t2
                  obtain ⟨e3, e3f⟩ := blk_cell ((blk_far (w := wq) (b := w.heap.size) (k := w.heap.size + 1) (by omega) jj (.string bd)).trans HM3.out.2.2.1.hv) jj (vieA_at st hj8)
                  clear HM3 QI QO HXM HIN HQV
                  go_upto_region 18 with fail
                  refine Qt.region_quiet_tail 10 (by kernel_rfl) (by kernel_rfl) ?_
                  simp only [List.take_succ_cons, List.take_zero, List.drop_succ_cons, List.drop_zero]
                  repeat (go_big_quiet_step (fail))
                  refine wpQuiet_nil ?_
                  go_wp2_with fail
                  exact ⟨⟨k2 + 1, by omega, rfl, by go_num, ⟨HF.out.1.below Qc.from_drew, HF.out.2.below Qc.from_drew⟩⟩, by simp [intOf]; omega⟩
                · have fe : (st jj).1.toList.isEmpty = false := by rw [empty_iff, decide_eq_false ((HIN.out jj).2.2.2 hz)]
                  generalize (st jj).1 = sb at s0 fe
                  by_cases hle : (st jj).2 ≤ h.vw
                  · have fv2 : decide (vi st jj < h.vw) = true := decide_eq_true (by rw [HQV.out, if_neg hz]; omega)
                    clear hz
                    refine Qc.region_class (W := W) (by kernel_rfl) (by kernel_rfl) (QI.out _ Qc.from_drew) ?_
                    repeat (go_big_quiet_step (fail))
                    refine wpQuiet_nil ?_
                    rintro _ ⟨xq, rfl⟩
                    have HM3 : Hid ((W xq).cell? ⟨xb, 1, none⟩ = some (.int .i64 h.vw) ∧ (W xq).cell? ⟨xb, 2, none⟩ = some (.int .i64 ((jj : Int) + 1)) ∧ Qst w (W xq) st ∧ RdC (W xq) Bq (.slice (some ⟨gc, 0, none⟩) ps.length ucap) ps ∧ (W xq).cell? ⟨gc, k2 * 2, none⟩ = some (.string bd)) := HXM.out _ (QO.out xq)
                    clear z1 z2 s0 s1
                    generalize W xq = wq at HM3 ⊢
                    obtain ⟨t1, t2, _, _, t3⟩ := HM3.out
                    obtain ⟨g0, g0f⟩ := blk_cell HM3.out.2.2.1.hb jj (bodA_at st hj8)
                    obtain ⟨g1, g1f⟩ := blk_cell HM3.out.2.2.1.hv jj (vieA_at st hj8)
                    have hgx : xb ≠ w.heap.size ∧ xb ≠ w.heap.size + 1 := by have h1 := HXL.out; omega
                    have HF : Hid (Qst w ((wq.setCell ⟨w.heap.size, jj, none⟩ (.string bd)).setCell ⟨w.heap.size + 1, jj, none⟩ (.int .i64 h.vw)) (stOf (D ++ cx.take (k2 + 1))) ∧ RdC ((wq.setCell ⟨w.heap.size, jj, none⟩ (.string bd)).setCell ⟨w.heap.size + 1, jj, none⟩ (.int .i64 h.vw)) Bq (.slice (some ⟨gc, 0, none⟩) ps.length ucap) ps) := by
                      have h1 := HM3.out.2.2.1.put HJ.out hj8 (by rw [HH.out]; exact HV.out.1) (by rw [HH.out]; exact hle)
                      rw [HH.out] at h1
                      have h2 := S3.out
                      exact ⟨by rw [HSS.out]; exact h1, own_far (own_far HM3.out.2.2.2.1 (by omega) _ _) (by omega) _ _⟩
                    have e1 : (wq.setCell ⟨w.heap.size, jj, none⟩ (.string bd)).cell? ⟨xb, 1, none⟩ = some (.int .i64 h.vw) := (World.cell?_of_block (a := ⟨xb, 1, none⟩) (blk_far hgx.1 _ _)).trans t1
                    have e2 : (wq.setCell ⟨w.heap.size, jj, none⟩ (.string bd)).cell? ⟨xb, 2, none⟩ = some (.int .i64 ((jj : Int) + 1)) := (World.cell?_of_block (a := ⟨xb, 2, none⟩) (blk_far hgx.1 _ _)).trans t2
                    obtain ⟨e3, e3f⟩ := blk_cell ((blk_far (w := wq) (b := w.heap.size) (k := w.heap.size + 1) (by omega) jj (.string bd)).trans HM3.out.2.2.1.hv) jj (vieA_at st hj8)
                    clear HM3 QI QO HXM HIN HQV
                    go_upto_region 18 with fail
                    refine Qt.region_quiet_tail 10 (by kernel_rfl) (by kernel_rfl) ?_
                    simp only [List.take_succ_cons, List.take_zero, List.drop_succ_cons, List.drop_zero]
                    repeat (go_big_quiet_step (fail))
                    refine wpQuiet_nil ?_
                    go_wp2_with fail
                    exact ⟨⟨k2 + 1, by omega, rfl, by go_num, ⟨HF.out.1.below Qc.from_drew, HF.out.2.below Qc.from_drew⟩⟩, by simp [intOf]; omega⟩
                  · have fv2 : decide (vi st jj < h.vw) = false := decide_eq_false (by rw [HQV.out, if_neg hz]; omega)
                    refine Qc.region_class (W := W) (by kernel_rfl) (by kernel_rfl) (QI.out _ Qc.from_drew) ?_
                    repeat (go_big_quiet_step (fail))
                    refine wpQuiet_nil ?_
                    rintro _ ⟨xq, rfl⟩
                    have HF : Hid (Qst w (W xq) (stOf (D ++ cx.take (k2 + 1))) ∧ RdC (W xq) Bq (.slice (some ⟨gc, 0, none⟩) ps.length ucap) ps) := ⟨by rw [HSS.out, stp_same HJ.out (by rw [HH.out]; exact hle)]; exact (HXM.out _ (QO.out xq)).2.2.1, (HXM.out _ (QO.out xq)).2.2.2.1⟩
                    clear z1 z2 s0 s1
                    generalize W xq = wq at HF ⊢
                    go_wp2_with fail
                    exact ⟨⟨k2 + 1, by omega, rfl, by go_num, HF.out⟩, by simp [intOf]; omega⟩
              · obtain rfl : k2 = ps.length := by omega
                have HQ2 : Hid (Qst w wr (stOf (caL (ms.take (0 + 1)))) ∧ lastOf (D ++ cx.take ps.length) = lastOf (caL (ms.take (0 + 1)))) := by
                  rw [HFM.out, ← HCL2.out, List.take_length]
                  refine ⟨?_, rfl⟩
                  have := HX.out.1
                  rw [← HCL2.out, List.take_length] at this
                  exact this
                rw [HQ2.out.2]
                go_wp2_with fail
                exact ⟨⟨0 + 1, by omega, rfl, by go_num, ⟨HON.out, HQ2.out.1⟩⟩, by simp [intOf]; omega⟩
          · obtain ⟨j, rfl⟩ : ∃ j, k = j + 1 := ⟨k - 1, by omega⟩
            obtain ⟨y, hy⟩ := Rg.get_at (xs := ms) (k := j) (by omega)
            have HY : Hid (ms[j]? = some y) := hy
            have p3 : ∀ q, (W q).cell? ⟨b, off + j * 7 + 3, none⟩ = some (.int .i64 y.fr) := fun q => (HP.out j y hy q).2.2.2.1
            have q1 : (0 : Int) < (j : Int) + 1 := by omega
            have q2 : (j : Int) + 1 < (ms.length : Int) := by omega
            have q3 : (j : Int) < (ms.length : Int) := by omega
            clear hy
            by_cases e6 : x.fr ≤ y.fr
            · have f6 : decide (x.fr ≤ y.fr) = true := decide_eq_true e6
              have HF : Hid (caB n view ms = false) := ca_no HXX.out (fun hh => by have := hh.2 j y rfl HY.out; omega)
              refine Qc.region_class (W := W) (by kernel_rfl) (by kernel_rfl) (QI.out _ Qc.from_drew) ?_
              repeat (go_big_quiet_step (fail))
              refine wpQuiet_nil ?_
              rintro _ ⟨xq, rfl⟩
              have G2 : Hid (Below w.heap.size w (W xq)) := QB.out xq
              clear m1 m3 p3
              generalize W xq = wq at G2 ⊢
              go_wp2_with fail
              go_ret2
              exact ⟨_, ret_vb HF.out.symm, by rw [psL_no HF.out]; exact Rl.own_empty wq _ G2.out.size, G2.out.alloc G2.out.size _⟩
            · have f6 : decide (x.fr ≤ y.fr) = false := decide_eq_false e6
              have HON : Hid (∀ i z, i < j + 1 + 1 → ms[i]? = some z → One2 n view ms i z) := HYES.out fun m z hm hz => by
                obtain rfl : j = m := by omega
                rw [HY.out] at hz
                cases hz
                omega
              refine Qc.region_class (W := W) (by kernel_rfl) (by kernel_rfl) (QI.out _ Qc.from_drew) ?_
              repeat (go_big_quiet_step (fail))
              refine wpQuiet_nil ?_
              rintro _ ⟨xq, rfl⟩
              have G3 : Hid (Qst w (W xq) (stOf (caL (ms.take (j + 1)))) ∧ RdC (W xq) wr.heap.size (.slice ua ps.length ucap) ps) := ⟨QS.out xq, O2.out.1.below (QO.out xq)⟩
              have S3 : Hid (w.heap.size + 2 ≤ wr.heap.size) := HZ.out.2.size
              clear m1 m3 p3
              generalize W xq = wq at G3 ⊢
              obtain ⟨Bq, HBq⟩ : ∃ Bq, Hid (wr.heap.size = Bq) := ⟨_, rfl⟩
              rw [HBq.out] at G3 S3
              obtain ⟨D, HD⟩ : ∃ D, Hid (caL (ms.take (j + 1)) = D) := ⟨_, rfl⟩
              rw [HD.out] at G3 HLL HFM HRD
              obtain ⟨cx, HCX⟩ : ∃ cx, Hid (crts x = cx) := ⟨_, rfl⟩
              rw [HCX.out] at HFM O3
              have HAT : Hid (∀ (i : Nat) (p : Ct × Value), ps[i]? = some p → cx[i]? = some p.1) := fun i p hp => by rw [← O3.out.1, List.getElem?_map, hp]; rfl
              have HCL2 : Hid (cx.length = ps.length) := by show _ = _; rw [← O3.out.1, List.length_map]
              clear QI QO QR QS QB HP O2 B2 HBq HD HCX HLC HRT HC8 HCL HYES HREST
              go_wp2_with fail
              go_loopw [10, 14] (fun l i wr => ∃ k2 : Nat, k2 ≤ ps.length ∧ l = .int .i64 (lastOf (D ++ cx.take k2) : Int) ∧ i = .int .i64 k2 ∧ Hid (Qst w wr (stOf (D ++ cx.take k2)) ∧ RdC wr Bq (.slice ua ps.length ucap) ps)) (fun _ i _ => ps.length - (intOf i).toNat)
              case atStart => exact ⟨0, by omega, by rw [List.take_zero, List.append_nil, HLL.out], rfl, by rw [List.take_zero, List.append_nil]; exact G3.out⟩
              case round =>
                obtain ⟨k2, hk2, rfl, rfl, HX⟩ := hrel
                by_cases hlt2 : k2 < ps.length
                · obtain ⟨p, hp⟩ := Rg.get_at hlt2
                  have hpc := HAT.out k2 p hp
                  have HRC0 := O3.out.2.1 p.1 (mem_at hpc)
                  have HM := HX.out.2.mem p (mem_at hp)
                  obtain ⟨gc, rfl, hBg, _, c0, c1⟩ := HX.out.2.at hp
                  obtain ⟨pa, pcap, hpv⟩ := own_slice HM
                  obtain ⟨⟨bd, mm⟩, vp⟩ := p
                  simp only at hpv
                  subst hpv
                  have HRC : Right ⟨bd, mm⟩ := HRC0
                  obtain ⟨bp, offp, rfl, hbp, f0, f1, f2, f3, f4, f5, f6⟩ := RowG.at (OwnM.row HM) rfl HRC.1
                  have hn0 : (0 : Int) < (mm.length : Int) := by have h1 : 0 < mm.length := lt_at HRC.1; omega
                  obtain ⟨jj, hj⟩ : ∃ jj : Nat, (hd ⟨bd, mm⟩).sq = (jj : Int) + 1 := ⟨((hd ⟨bd, mm⟩).sq - 1).toNat, by have := HRC.2.1.1; omega⟩
                  have hj8 : jj < 8 := by have := HRC.2.1.2; omega
                  have HJ : Hid ((hd ⟨bd, mm⟩).sq = (jj : Int) + 1) := hj
                  have HTK : Hid (D ++ cx.take (k2 + 1) = (D ++ cx.take k2) ++ [⟨bd, mm⟩]) := by show _ = _; rw [cert_at hpc, List.append_assoc]
                  have HIN : Hid (Inv (stOf (D ++ cx.take k2))) := (inv_of (fun c hc => by
                    rcases List.mem_append.1 hc with hc | hc
                    · exact HRD.out c hc
                    · exact O3.out.2.1 c (List.mem_of_mem_take hc))).1
                  have HV : Hid (0 ≤ (hd ⟨bd, mm⟩).vw ∧ (hd ⟨bd, mm⟩).vw ≤ 20) := HRC.2.2.1
                  have HLS : Hid (lastOf (D ++ cx.take (k2 + 1)) = max (lastOf (D ++ cx.take k2)) (jj + 1)) := by show _ = _; rw [HTK.out, lastOf_snoc, HJ.out]; congr 1
                  have HSS : Hid (stOf (D ++ cx.take (k2 + 1)) = stp (stOf (D ++ cx.take k2)) ⟨bd, mm⟩) := by show _ = _; rw [HTK.out, stOf_snoc]
                  obtain ⟨st, HST⟩ : ∃ st, Hid (stOf (D ++ cx.take k2) = st) := ⟨_, rfl⟩
                  obtain ⟨M, HMM⟩ : ∃ M, Hid (lastOf (D ++ cx.take k2) = M) := ⟨_, rfl⟩
                  rw [HST.out] at HX HIN HSS
                  rw [HMM.out] at HLS ⊢
                  obtain ⟨h, HH⟩ : ∃ h, Hid (hd ⟨bd, mm⟩ = h) := ⟨_, rfl⟩
                  rw [HH.out] at f0 f1 f2 f3 f4 f5 f6 HV hj
                  have hk20 : (0 : Int) ≤ (k2 : Int) := by omega
                  have hk21 : (k2 : Int) < (ps.length : Int) := by omega
                  rw [Nat.zero_mul, Nat.add_zero] at f0 f1 f2 f3 f4 f5 f6
                  have hjn : (0 : Int) ≤ (jj : Int) := by omega
                  have hj8' : (jj : Int) < 8 := by omega
                  clear HRC0 HM HTK HST HMM hp hpc
                  have HQV : Hid (∀ i, vi st i = if (st i).2 = 0 then 0 else (st i).2 - 1) := fun i => rfl
                  have HXM : Hid (∀ W', Below (wr.alloc (.cells #[.int .i64 h.kd, .int .i64 h.vw, .int .i64 ((jj : Int) + 1), .int .i64 h.fr, .string h.dg, .string h.bd, .string h.mc] 39)).heap.size (wr.alloc (.cells #[.int .i64 h.kd, .int .i64 h.vw, .int .i64 ((jj : Int) + 1), .int .i64 h.fr, .string h.dg, .string h.bd, .string h.mc] 39)) W' → W'.cell? ⟨wr.heap.size, 1, none⟩ = some (.int .i64 h.vw) ∧ W'.cell? ⟨wr.heap.size, 2, none⟩ = some (.int .i64 ((jj : Int) + 1)) ∧ Qst w W' st ∧ RdC W' Bq (.slice (some ⟨gc, 0, none⟩) ps.length ucap) ps ∧ W'.cell? ⟨gc, k2 * 2, none⟩ = some (.string bd)) := fun W' hW => by
                    have h1 := (hW.block wr.heap.size (by simp)).trans (heap_alloc_new wr _)
                    have hb : Below wr.heap.size wr W' := (bel_new wr _).trans (hW.mono (by simp))
                    exact ⟨(blk_cell h1 1 rfl).1, (blk_cell h1 2 rfl).1, HX.out.1.below hb, HX.out.2.below hb, (hb.cell (p := ⟨gc, _, none⟩) (Nat.lt_of_lt_of_le (World.block_lt_of_cell? wr _ c0) (Nat.le_refl _))).trans c0⟩
                  have HLN : Hid ((max (M : Int) ((jj : Int) + 1)) = ((lastOf (D ++ cx.take (k2 + 1)) : Nat) : Int)) := by show _ = _; rw [HLS.out]; omega
                  go_upto_region 17 with fail
                  rw [HLN.out]
                  obtain ⟨xb, HXB⟩ : ∃ xb, Hid (wr.heap.size = xb) := ⟨_, rfl⟩
                  have HXL : Hid (w.heap.size + 2 ≤ xb) := by show _ ≤ _; rw [← HXB.out]; exact HX.out.1.size
                  rw [HXB.out] at HXM ⊢
                  generalize wr.alloc (.cells #[.int .i64 h.kd, .int .i64 h.vw, .int .i64 ((jj : Int) + 1), .int .i64 h.fr, .string h.dg, .string h.bd, .string h.mc] 39) = wc at HXM ⊢
                  obtain ⟨X, hX, W, QI0, QO0⟩ := Qc.klass wc
                  have QI : Hid (∀ w', Below wc.heap.size wc w' → ∃ x, w' = W x) := QI0
                  have QO : Hid (∀ x, Below wc.heap.size wc (W x)) := QO0
                  clear QI0 QO0
                  have z1 := fun q => (HXM.out _ (QO.out q)).1
                  have z2 := fun q => (HXM.out _ (QO.out q)).2.1
                  have s0 := fun q => (blk_cell (HXM.out _ (QO.out q)).2.2.1.hb jj (bodA_at st hj8)).1
                  have s1 := fun q => (blk_cell (HXM.out _ (QO.out q)).2.2.1.hv jj (vieA_at st hj8)).1
                  clear f0 f1 f2 f3 f4 f5 f6 c0 c1 HX hj
                  by_cases hz : (st jj).2 = 0
                  · have he := (HIN.out jj).2.2.1 hz
                    have fe : (st jj).1.toList.isEmpty = true := by rw [empty_iff]; exact decide_eq_true (by rw [he]; rfl)
                    have hle : (st jj).2 ≤ h.vw := by rw [hz]; exact HV.out.1
                    generalize (st jj).1 = sb at s0 fe
                    clear he hz
                    refine Qc.region_class (W := W) (by kernel_rfl) (by kernel_rfl) (QI.out _ Qc.from_drew) ?_
                    repeat (go_big_quiet_step (fail))
                    refine wpQuiet_nil ?_
                    rintro _ ⟨xq, rfl⟩
                    have HM3 : Hid ((W xq).cell? ⟨xb, 1, none⟩ = some (.int .i64 h.vw) ∧ (W xq).cell? ⟨xb, 2, none⟩ = some (.int .i64 ((jj : Int) + 1)) ∧ Qst w (W xq) st ∧ RdC (W xq) Bq (.slice (some ⟨gc, 0, none⟩) ps.length ucap) ps ∧ (W xq).cell? ⟨gc, k2 * 2, none⟩ = some (.string bd)) := HXM.out _ (QO.out xq)
                    clear z1 z2 s0 s1
                    generalize W xq = wq at HM3 ⊢
                    obtain ⟨t1, t2, _, _, t3⟩ := HM3.out
                    obtain ⟨g0, g0f⟩ := blk_cell HM3.out.2.2.1.hb jj (bodA_at st hj8)
                    obtain ⟨g1, g1f⟩ := blk_cell HM3.out.2.2.1.hv jj (vieA_at st hj8)
                    have hgx : xb ≠ w.heap.size ∧ xb ≠ w.heap.size + 1 := by have h1 := HXL.out; omega
                    have HF : Hid (Qst w ((wq.setCell ⟨w.heap.size, jj, none⟩ (.string bd)).setCell ⟨w.heap.size + 1, jj, none⟩ (.int .i64 h.vw)) (stOf (D ++ cx.take (k2 + 1))) ∧ RdC ((wq.setCell ⟨w.heap.size, jj, none⟩ (.string bd)).setCell ⟨w.heap.size + 1, jj, none⟩ (.int .i64 h.vw)) Bq (.slice (some ⟨gc, 0, none⟩) ps.length ucap) ps) := by
                      have h1 := HM3.out.2.2.1.put HJ.out hj8 (by rw [HH.out]; exact HV.out.1) (by rw [HH.out]; exact hle)
                      rw [HH.out] at h1
                      have h2 := S3.out
                      exact ⟨by rw [HSS.out]; exact h1, own_far (own_far HM3.out.2.2.2.1 (by omega) _ _) (by omega) _ _⟩
                    have e1 : (wq.setCell ⟨w.heap.size, jj, none⟩ (.string bd)).cell? ⟨xb, 1, none⟩ = some (.int .i64 h.vw) := (World.cell?_of_block (a := ⟨xb, 1, none⟩) (blk_far hgx.1 _ _)).trans t1
                    have e2 : (wq.setCell ⟨w.heap.size, jj, none⟩ (.string bd)).cell? ⟨xb, 2, none⟩ = some (.int .i64 ((jj : Int) + 1)) := (World.cell?_of_block (a := ⟨xb, 2, none⟩) (blk_far hgx.1 _ _)).trans t2
                    obtain ⟨e3, e3f⟩ := blk_cell ((blk_far (w := wq) (b := w.heap.size) (k := w.heap.size + 1) (by omega) jj (.string bd)).trans HM3.out.2.2.1.hv) jj (vieA_at st hj8)
                    clear HM3 QI QO HXM HIN HQV
                    go_upto_region 18 with fail
                    refine Qt.region_quiet_tail 10 (by kernel_rfl) (by kernel_rfl) ?_
                    simp only [List.take_succ_cons, List.take_zero, List.drop_succ_cons, List.drop_zero]
                    repeat (go_big_quiet_step (fail))
                    refine wpQuiet_nil ?_
                    go_wp2_with fail
                    exact ⟨⟨k2 + 1, by omega, rfl, by go_num, ⟨HF.out.1.below Qc.from_drew, HF.out.2.below Qc.from_drew⟩⟩, by simp [intOf]; omega⟩
                  · have fe : (st jj).1.toList.isEmpty = false := by rw [empty_iff, decide_eq_false ((HIN.out jj).2.2.2 hz)]
                    generalize (st jj).1 = sb at s0 fe
                    by_cases hle : (st jj).2 ≤ h.vw
                    · have fv2 : decide (vi st jj < h.vw) = true := decide_eq_true (by rw [HQV.out, if_neg hz]; omega)
                      clear hz
                      refine Qc.region_class (W := W) (by kernel_rfl) (by kernel_rfl) (QI.out _ Qc.from_drew) ?_
                      repeat (go_big_quiet_step (fail))
                      refine wpQuiet_nil ?_
                      rintro _ ⟨xq, rfl⟩
                      have HM3 : Hid ((W xq).cell? ⟨xb, 1, none⟩ = some (.int .i64 h.vw) ∧ (W xq).cell? ⟨xb, 2, none⟩ = some (.int .i64 ((jj : Int) + 1)) ∧ Qst w (W xq) st ∧ RdC (W xq) Bq (.slice (some ⟨gc, 0, none⟩) ps.length ucap) ps ∧ (W xq).cell? ⟨gc, k2 * 2, none⟩ = some (.string bd)) := HXM.out _ (QO.out xq)
                      clear z1 z2 s0 s1
                      generalize W xq = wq at HM3 ⊢
                      obtain ⟨t1, t2, _, _, t3⟩ := HM3.out
                      obtain ⟨g0, g0f⟩ := blk_cell HM3.out.2.2.1.hb jj (bodA_at st hj8)
                      obtain ⟨g1, g1f⟩ := blk_cell HM3.out.2.2.1.hv jj (vieA_at st hj8)
                      have hgx : xb ≠ w.heap.size ∧ xb ≠ w.heap.size + 1 := by have h1 := HXL.out; omega
                      have HF : Hid (Qst w ((wq.setCell ⟨w.heap.size, jj, none⟩ (.string bd)).setCell ⟨w.heap.size + 1, jj, none⟩ (.int .i64 h.vw)) (stOf (D ++ cx.take (k2 + 1))) ∧ RdC ((wq.setCell ⟨w.heap.size, jj, none⟩ (.string bd)).setCell ⟨w.heap.size + 1, jj, none⟩ (.int .i64 h.vw)) Bq (.slice (some ⟨gc, 0, none⟩) ps.length ucap) ps) := by
                        have h1 := HM3.out.2.2.1.put HJ.out hj8 (by rw [HH.out]; exact HV.out.1) (by rw [HH.out]; exact hle)
                        rw [HH.out] at h1
                        have h2 := S3.out
                        exact ⟨by rw [HSS.out]; exact h1, own_far (own_far HM3.out.2.2.2.1 (by omega) _ _) (by omega) _ _⟩
                      have e1 : (wq.setCell ⟨w.heap.size, jj, none⟩ (.string bd)).cell? ⟨xb, 1, none⟩ = some (.int .i64 h.vw) := (World.cell?_of_block (a := ⟨xb, 1, none⟩) (blk_far hgx.1 _ _)).trans t1
                      have e2 : (wq.setCell ⟨w.heap.size, jj, none⟩ (.string bd)).cell? ⟨xb, 2, none⟩ = some (.int .i64 ((jj : Int) + 1)) := (World.cell?_of_block (a := ⟨xb, 2, none⟩) (blk_far hgx.1 _ _)).trans t2
                      obtain ⟨e3, e3f⟩ := blk_cell ((blk_far (w := wq) (b := w.heap.size) (k := w.heap.size + 1) (by omega) jj (.string bd)).trans HM3.out.2.2.1.hv) jj (vieA_at st hj8)
                      clear HM3 QI QO HXM HIN HQV
                      go_upto_region 18 with fail
                      refine Qt.region_quiet_tail 10 (by kernel_rfl) (by kernel_rfl) ?_
                      simp only [List.take_succ_cons, List.take_zero, List.drop_succ_cons, List.drop_zero]
                      repeat (go_big_quiet_step (fail))
                      refine wpQuiet_nil ?_
                      go_wp2_with fail
                      exact ⟨⟨k2 + 1, by omega, rfl, by go_num, ⟨HF.out.1.below Qc.from_drew, HF.out.2.below Qc.from_drew⟩⟩, by simp [intOf]; omega⟩
                    · have fv2 : decide (vi st jj < h.vw) = false := decide_eq_false (by rw [HQV.out, if_neg hz]; omega)
                      refine Qc.region_class (W := W) (by kernel_rfl) (by kernel_rfl) (QI.out _ Qc.from_drew) ?_
                      repeat (go_big_quiet_step (fail))
                      refine wpQuiet_nil ?_
                      rintro _ ⟨xq, rfl⟩
                      have HF : Hid (Qst w (W xq) (stOf (D ++ cx.take (k2 + 1))) ∧ RdC (W xq) Bq (.slice (some ⟨gc, 0, none⟩) ps.length ucap) ps) := ⟨by rw [HSS.out, stp_same HJ.out (by rw [HH.out]; exact hle)]; exact (HXM.out _ (QO.out xq)).2.2.1, (HXM.out _ (QO.out xq)).2.2.2.1⟩
                      clear z1 z2 s0 s1
                      generalize W xq = wq at HF ⊢
                      go_wp2_with fail
                      exact ⟨⟨k2 + 1, by omega, rfl, by go_num, HF.out⟩, by simp [intOf]; omega⟩
                · obtain rfl : k2 = ps.length := by omega
                  have HQ2 : Hid (Qst w wr (stOf (caL (ms.take (j + 1 + 1)))) ∧ lastOf (D ++ cx.take ps.length) = lastOf (caL (ms.take (j + 1 + 1)))) := by
                    rw [HFM.out, ← HCL2.out, List.take_length]
                    refine ⟨?_, rfl⟩
                    have := HX.out.1
                    rw [← HCL2.out, List.take_length] at this
                    exact this
                  rw [HQ2.out.2]
                  go_wp2_with fail
                  exact ⟨⟨j + 1 + 1, by omega, rfl, by go_num, ⟨HON.out, HQ2.out.1⟩⟩, by simp [intOf]; omega⟩
        · have fv : (x.vw != view) = true := by simp [ev]
          have HF : Hid (caB n view ms = false) := ca_no HXX.out (fun hh => ev hh.1.2)
          refine Qc.region_class (W := W) (by kernel_rfl) (by kernel_rfl) (QI.out _ Qc.from_drew) ?_
          repeat (go_big_quiet_step (fail))
          refine wpQuiet_nil ?_
          rintro _ ⟨xq, rfl⟩
          have G2 : Hid (Below w.heap.size w (W xq)) := QB.out xq
          clear m1 m3
          generalize W xq = wq at G2 ⊢
          go_wp2_with fail
          go_ret2
          exact ⟨_, ret_vb HF.out.symm, by rw [psL_no HF.out]; exact Rl.own_empty wq _ G2.out.size, G2.out.alloc G2.out.size _⟩
    · obtain rfl : k = ms.length := by omega
      have HF : Hid (caB n view ms = true) := ca_yes HFC.out.1 HFC.out.2 HZ.out.1
      have HPS : Hid (psL n view ms = planL (caL ms)) := psL_yes HF.out
      obtain ⟨hI, hL8, _⟩ := inv_of (ca_right HF.out)
      have HIN : Hid (Inv (stOf (caL ms))) := hI
      have HQ1 : Hid (Qst w wr (stOf (caL ms))) := by have := HZ.out.2; rw [List.take_length] at this; exact this
      have HPL : Hid (planL (caL ms) = ents (stOf (caL ms)) (lastOf (caL ms))) := rfl
      rw [List.take_length]
      obtain ⟨st, HST⟩ : ∃ st, Hid (stOf (caL ms) = st) := ⟨_, rfl⟩
      obtain ⟨L, HLL⟩ : ∃ L, Hid (lastOf (caL ms) = L) := ⟨_, rfl⟩
      rw [HST.out] at HIN HQ1 HPL
      rw [HLL.out] at hL8 HPL ⊢
      have E0 : Hid ((wr.alloc (.cells #[] 9)).heap[w.heap.size]? = some (.cells (bodA (fill st 0)) 9 (0, 0)) ∧ OwnS (wr.alloc (.cells #[] 9)) wr.heap.size (.slice (some ⟨wr.heap.size, 0, none⟩) 0 0) (ents st 0) ∧ Below w.heap.size w (wr.alloc (.cells #[] 9)) ∧ wr.heap.size ≤ (wr.alloc (.cells #[] 9)).heap.size) := by
        refine ⟨((bel_new wr _).block _ (Array.getElem?_eq_some_iff.1 HQ1.out.hb).1).trans HQ1.out.hb, Rl.own_empty wr _ (Nat.le_refl _), HQ1.out.bel.alloc HQ1.out.bel.size _, (bel_new wr _).size⟩
      have HBo : Hid (w.heap.size + 2 ≤ wr.heap.size) := HQ1.out.size
      clear hI HZ HQ1 HST HLL
      go_wp2_with fail
      obtain ⟨Bo, HB⟩ : ∃ Bo, Hid (wr.heap.size = Bo) := ⟨_, rfl⟩
      rw [HB.out] at E0 HBo ⊢
      generalize wr.alloc (.cells #[] 9) = w5 at E0 ⊢
      clear HB
      go_loopw [16, 17] (fun b i wr => ∃ k3 : Nat, k3 ≤ L ∧ i = .int .i64 k3 ∧ Hid (wr.heap[w.heap.size]? = some (.cells (bodA (fill st k3)) 9 (0, 0)) ∧ OwnS wr Bo b (ents st k3) ∧ Below w.heap.size w wr ∧ Bo ≤ wr.heap.size)) (fun _ i _ => L - (intOf i).toNat)
      case atStart => exact ⟨0, by omega, rfl, E0.out⟩
      case round =>
        obtain ⟨k3, hk3, rfl, HE⟩ := hrel
        obtain ⟨v0, rfl⟩ : ∃ v0, v0 = u16 := ⟨_, rfl⟩
        by_cases hlt3 : k3 < L
        · have h8 : k3 < 8 := by omega
          have h8' : (k3 : Int) < 8 := by omega
          have h0' : (0 : Int) ≤ (k3 : Int) := by omega
          have hl' : (k3 : Int) < (L : Int) := by omega
          have HEN : Hid ((ents st k3).length ≤ 1000000) := by show _ ≤ _; rw [ents_len]; omega
          obtain ⟨c0, f0⟩ := blk_cell HE.out.1 k3 (bodA_at (fill st k3) h8)
          rw [fill_ge (Nat.lt_irrefl k3)] at c0
          by_cases hz : (st k3).2 = 0
          · have he := (HIN.out k3).2.2.1 hz
            have fe : (st k3).1.toList.isEmpty = true := by rw [empty_iff]; exact decide_eq_true (by rw [he]; rfl)
            have hent : ent st k3 = nulB := if_pos hz
            generalize (st k3).1 = sb at c0 fe
            have HE2 : Hid ((wr.setCell ⟨w.heap.size, k3, none⟩ (.string nulB)).heap[w.heap.size]? = some (.cells (bodA (fill st (k3 + 1))) 9 (0, 0)) ∧ OwnS (wr.setCell ⟨w.heap.size, k3, none⟩ (.string nulB)) Bo v0 (ents st k3) ∧ Below w.heap.size w (wr.setCell ⟨w.heap.size, k3, none⟩ (.string nulB)) ∧ Bo ≤ (wr.setCell ⟨w.heap.size, k3, none⟩ (.string nulB)).heap.size) := by
              refine ⟨?_, ?_, Below.setCell HE.out.2.2.1 (p := ⟨w.heap.size, k3, none⟩) (Nat.le_refl _) _, ?_⟩
              · rw [fill_next h8, hent]; exact blk_set HE.out.1 k3 _
              · exact ownS_kept HE.out.2.1 fun g hg => blk_far (by have h1 := (ownS_lt HE.out.2.1 g hg).1; have h2 := HBo.out; omega) _ _
              · have := (Below.setCell (Below.refl 0 wr) (p := ⟨w.heap.size, k3, none⟩) (Nat.zero_le _) (.string nulB)).size
                exact Nat.le_trans HE.out.2.2.2 this
            have HMO : Hid (ents st (k3 + 1) = ents st k3 ++ [nulB]) := by show _ = _; rw [ents_more, hent]
            have d0 : (wr.setCell ⟨w.heap.size, k3, none⟩ (.string nulB)).cell? ⟨w.heap.size, k3, none⟩ = some (.string nulB) := by
              have := (blk_cell HE2.out.1 k3 (bodA_at (fill st (k3 + 1)) h8)).1
              rw [fill_lt (Nat.lt_succ_self k3), hent] at this
              exact this
            clear he hz hent HE
            unfold nulB at d0 HE2 HMO
            go_upto_region 26 with fail
            generalize wr.setCell ⟨w.heap.size, k3, none⟩ (.string ⟨#[0]⟩) = w6 at HE2 d0 ⊢
            go_wp2_with (at_builtin; go_must (refine list_txq (by rfl) _ _ 45 (by rfl) i0 Tryz.underlying45 hi0 hz0 hz1 hz2 Bo w6 _ (ents st k3) ⟨#[0]⟩ (by rfl) HE2.out.2.1 HE2.out.2.2.2 (by rfl) HEN.out ?_; intro v7 w7 o7 b7 _))
            exact ⟨⟨k3 + 1, by omega, by go_num, ⟨(b7.block _ (by have h2 := HBo.out; omega)).trans HE2.out.1, by rw [HMO.out]; exact o7, HE2.out.2.2.1.trans (b7.mono (by have h2 := HBo.out; omega)), Nat.le_trans HE2.out.2.2.2 b7.size⟩⟩, by simp [intOf]; omega⟩
          · have fe : (st k3).1.toList.isEmpty = false := by rw [empty_iff, decide_eq_false ((HIN.out k3).2.2.2 hz)]
            have hent : ent st k3 = (st k3).1 := if_neg hz
            have HMO : Hid (ents st (k3 + 1) = ents st k3 ++ [(st k3).1]) := by show _ = _; rw [ents_more, hent]
            have HE2 : Hid (wr.heap[w.heap.size]? = some (.cells (bodA (fill st (k3 + 1))) 9 (0, 0))) := by show _ = _; rw [fill_same hz]; exact HE.out.1
            generalize (st k3).1 = sb at c0 fe HMO
            clear hz hent
            go_wp2_with (at_builtin; go_must (refine list_txq (by rfl) _ _ 45 (by rfl) i0 Tryz.underlying45 hi0 hz0 hz1 hz2 Bo wr _ (ents st k3) sb (by rfl) HE.out.2.1 HE.out.2.2.2 (by rfl) HEN.out ?_; intro v7 w7 o7 b7 _))
            exact ⟨⟨k3 + 1, by omega, by go_num, ⟨(b7.block _ (by have h2 := HBo.out; omega)).trans HE2.out, by rw [HMO.out]; exact o7, HE.out.2.2.1.trans (b7.mono (by have h2 := HBo.out; omega)), Nat.le_trans HE.out.2.2.2 b7.size⟩⟩, by simp [intOf]; omega⟩
        · obtain rfl : k3 = L := by omega
          have HO : Hid (OwnS wr w.heap.size v0 (psL n view ms) ∧ Below w.heap.size w wr) := ⟨by rw [HPS.out, HPL.out]; exact ownS_mono HE.out.2.1 (by have h2 := HBo.out; omega), HE.out.2.2.1⟩
          go_wp2_with fail
          go_ret2
          exact ⟨_, ret_vb HF.out.symm, HO.out.1, HO.out.2⟩
end Go.Proofs.YtddmdnljfnimbaaGreatDoor.Pl

/- The plan of a quorum: PlanOf of the specification; what the law wants. -/
namespace Go.Proofs.YtddmdnljfnimbaaGreatDoor.Pl
open Go.RowKit Go.Proofs.YtddmdnljfnimbaaGreatDoor.Sl Go.Proofs.YtddmdnljfnimbaaGreatDoor.By Go.Proofs.YtddmdnljfnimbaaGreatDoor.Ap Go.Proofs.YtddmdnljfnimbaaGreatDoor.Gm Go.Proofs.YtddmdnljfnimbaaGreatDoor.Sh Go.Proofs.YtddmdnljfnimbaaGreatDoor.Vt Go.Proofs.YtddmdnljfnimbaaGreatDoor.Tm Go.Proofs.YtddmdnljfnimbaaGreatDoor.Wc Go.Proofs.YtddmdnljfnimbaaGreatDoor.Mk
open Go.Proofs.YtddmdnljfnimbaaGreatDoor.Ty (RowT tnth)
open Go.Proofs.YtddmdnljfnimbaaGreatDoor.Tl (OwnS)
open Go.Proofs.YtddmdnljfnimbaaGreatDoor.Qm (qOut inB)
open Go.Proofs.YtddmdnljfnimbaaGreatDoor.Rg (RowG.slice lt_at mem_at blk_cell blk_set blk_far bel_new)

set_option maxRecDepth 100000 in
set_option maxHeartbeats 1600000 in
theorem specPlanOf_any (n view : Int) (v : Value) (ms : List Mg) (w : World) (h : Row w v ms) :
    Calls Tryz.prog 19 #[.int .i64 n, .int .i64 view, v] w fun e w' => ∃ u, e = .returned (.tuple #[u, .int .i64 (plC n view ms)]) ∧ OwnS w' w.heap.size u (plL n view ms) ∧ Below w.heap.size w w' := by
  have HR : Hid (Row w v ms) := h
  have HLN := Qm.l04Nodes_any n w
  have HIN := fun W => Bo.in_any view 1 20 W
  have HPL : Hid (plL n view ms = if plC n view ms = 0 then planL (caL ms) else []) := rfl
  obtain ⟨a, cap, rfl⟩ := RowG.slice h
  have HB : Hid (∀ o, Below w.heap.size w (w.alloc o)) := fun o => bel_new w o
  have HM0 : Hid (OwnS (w.alloc (.cells #[] 9)) w.heap.size (.slice (some ⟨w.heap.size, 0, none⟩) 0 0) []) := Rl.own_empty w _ (Nat.le_refl _)
  clear h
  by_cases h4 : (4096 : Int) < (ms.length : Int)
  · have HC : Hid (plC n view ms = 2) := by show _ = _; unfold plC; rw [if_pos (by omega)]
    have HN := plL_no HC.out (by decide)
    clear HLN HIN
    go_enter Tryz.func19, Tryz.ntmps19
    go_wp2_with fail
    go_ret2
    exact ⟨_, ret_vi HC.out.symm, by rw [HN]; exact HM0.out, HB.out _⟩
  have h4n : ¬ 4096 < ms.length := by omega
  by_cases hf : fCode n = 0
  · rw [decide_eq_true hf] at HLN
    cases hw : inB view 1 20 with
    | false =>
      have HC : Hid (plC n view ms = 4) := by show _ = _; unfold plC; rw [if_neg h4n, if_neg (by rw [hw]; simp)]
      have HN := plL_no HC.out (by decide)
      have HW2 : Hid (∀ W, Calls Tryz.prog 39 #[.int .i64 view, .int .i64 1, .int .i64 20] W fun e w' => e = .returned (.bool false) ∧ W = w') := fun W => by have := HIN W; have e : Rq.inB view 1 20 = false := hw; rw [e] at this; exact this
      clear hw HIN hf
      go_enter Tryz.func19, Tryz.ntmps19
      go_wp2_with fail
      refine HLN.mono ?_
      rintro e w1 ⟨rfl, rfl⟩
      go_wp2_with fail
      refine (HW2.out _).mono ?_
      rintro e w1 ⟨rfl, rfl⟩
      go_wp2_with fail
      go_ret2
      exact ⟨_, ret_vi HC.out.symm, by rw [HN]; exact HM0.out, HB.out _⟩
    | true =>
      have HW2 : Hid (∀ W, Calls Tryz.prog 39 #[.int .i64 view, .int .i64 1, .int .i64 20] W fun e w' => e = .returned (.bool true) ∧ W = w') := fun W => by have := HIN W; have e : Rq.inB view 1 20 = true := hw; rw [e] at this; exact this
      have HQM := Qm.l06Quorum_any n w hf
      by_cases hlq : (ms.length : Int) = qOut n
      · have hlq' : ((ms.length : Int) != qOut n) = false := by simp [hlq]
        have HC0 : Hid (plC n view ms = if caB n view ms then 0 else 12) := by show _ = _; unfold plC; rw [if_neg h4n, if_pos ⟨hf, hw⟩, if_pos hlq]
        have HLP0 := l06Plan_any n view _ ms w hf HR.out hlq
        have HPS : Hid (psL n view ms = if caB n view ms then planL (caL ms) else []) := rfl
        obtain ⟨q, HQ⟩ : ∃ q, Hid (qOut n = q) := ⟨_, rfl⟩
        rw [HQ.out] at HQM hlq'
        obtain ⟨o, HO⟩ : ∃ o, Hid (caB n view ms = o) := ⟨_, rfl⟩
        rw [HO.out] at HLP0 HC0 HPS
        have HLP : Hid (Calls Tryz.prog 41 #[.int .i64 n, .int .i64 view, .slice a ms.length cap] w fun e w' => ∃ u, e = .returned (.tuple #[u, .bool o]) ∧ OwnS w' w.heap.size u (psL n view ms) ∧ Below w.heap.size w w') := HLP0
        clear HLP0 hw HIN hf hlq HO HQ
        cases o with
        | false =>
          have HC : Hid (plC n view ms = 12) := HC0.out
          have HN := plL_no HC.out (by decide)
          go_enter Tryz.func19, Tryz.ntmps19
          go_wp2_with fail
          refine HLN.mono ?_
          rintro e w1 ⟨rfl, rfl⟩
          go_wp2_with fail
          refine (HW2.out _).mono ?_
          rintro e w1 ⟨rfl, rfl⟩
          go_wp2_with fail
          refine HQM.mono ?_
          rintro e w1 ⟨rfl, rfl⟩
          go_wp2_with fail
          refine HLP.out.mono ?_
          rintro e w1 ⟨u, rfl, -, b1⟩
          have B1 : Hid (Below w.heap.size w w1) := b1
          clear b1
          go_wp2_with fail
          go_ret2
          exact ⟨_, ret_vi HC.out.symm, by rw [HN]; exact Rl.own_empty w1 _ B1.out.size, B1.out.alloc B1.out.size _⟩
        | true =>
          have HC : Hid (plC n view ms = 0) := HC0.out
          have HN : Hid (psL n view ms = plL n view ms) := by show _ = _; rw [HPL.out, HC.out, HPS.out]; rfl
          rw [HN.out] at HLP
          go_enter Tryz.func19, Tryz.ntmps19
          go_wp2_with fail
          refine HLN.mono ?_
          rintro e w1 ⟨rfl, rfl⟩
          go_wp2_with fail
          refine (HW2.out _).mono ?_
          rintro e w1 ⟨rfl, rfl⟩
          go_wp2_with fail
          refine HQM.mono ?_
          rintro e w1 ⟨rfl, rfl⟩
          go_wp2_with fail
          refine HLP.out.mono ?_
          rintro e w1 ⟨u, rfl, o1, b1⟩
          have R1 : Hid (OwnS w1 w.heap.size u (plL n view ms) ∧ Below w.heap.size w w1) := ⟨o1, b1⟩
          clear o1 b1
          go_wp2_with fail
          go_ret2
          exact ⟨_, ret_vi HC.out.symm, R1.out.1, R1.out.2⟩
      · have hlq' : ((ms.length : Int) != qOut n) = true := by simp [hlq]
        have HC : Hid (plC n view ms = 19) := by show _ = _; unfold plC; rw [if_neg h4n, if_pos ⟨hf, hw⟩, if_neg hlq]
        have HN := plL_no HC.out (by decide)
        obtain ⟨q, HQ⟩ : ∃ q, Hid (qOut n = q) := ⟨_, rfl⟩
        rw [HQ.out] at HQM hlq'
        clear hw HIN hf hlq HQ
        go_enter Tryz.func19, Tryz.ntmps19
        go_wp2_with fail
        refine HLN.mono ?_
        rintro e w1 ⟨rfl, rfl⟩
        go_wp2_with fail
        refine (HW2.out _).mono ?_
        rintro e w1 ⟨rfl, rfl⟩
        go_wp2_with fail
        refine HQM.mono ?_
        rintro e w1 ⟨rfl, rfl⟩
        go_wp2_with fail
        go_ret2
        exact ⟨_, ret_vi HC.out.symm, by rw [HN]; exact HM0.out, HB.out _⟩
  · have HC : Hid (plC n view ms = 4) := by show _ = _; unfold plC; rw [if_neg h4n, if_neg (fun h => hf h.1)]
    have HN := plL_no HC.out (by decide)
    rw [decide_eq_false hf] at HLN
    clear HIN hf
    go_enter Tryz.func19, Tryz.ntmps19
    go_wp2_with fail
    refine HLN.mono ?_
    rintro e w1 ⟨rfl, rfl⟩
    go_wp2_with fail
    go_ret2
    exact ⟨_, ret_vi HC.out.symm, by rw [HN]; exact HM0.out, HB.out _⟩
theorem kp_bel3 {w w' : World} {v : Value} {B : Nat} (h : Kp w w' v v) (hB : B ≤ w.heap.size) (hg : ∀ g, v.ownBlock = some g → B ≤ g) : Below B w w' :=
  ⟨h.os, h.tape, h.output, h.size, fun k hk => h.block k (by omega) (fun e => by have := hg k e.symm; omega)⟩
/-- Texts of one's own are marked. -/
theorem markSt_any (v : Value) (ts : List ByteArray) (B : Nat) (w : World) (h : OwnS w B v ts) (hB : B ≤ w.heap.size) (hl : ts.length ≤ 1000) :
    Calls Tryz.prog 25 #[v, .int .i64 1] w fun e w' => e = .returned (.int .i64 ((1 + ts.length : Nat) : Int)) ∧ RowT w' v (tmarks 1 ts.length) ∧ Below B w w' := by
  rcases Rl.OwnS.open h with ⟨rfl, rfl⟩ | ⟨g, cap, rfl, hg, hr⟩
  · refine (Rl.markNil_any 1 w).mono ?_
    rintro e w' ⟨rfl, rfl⟩
    exact ⟨rfl, ⟨none, 0, rfl, .inl rfl⟩, Below.refl _ _⟩
  · refine (Rl.markG_any g ts.length cap ts 1 w hr (by decide) (by decide) (by omega)).mono ?_
    rintro e w' ⟨rfl, r, k⟩
    have hr2 := r.row
    exact ⟨by congr 2, hr2, kp_bel3 k hB fun k hk => by simp [Value.ownBlock] at hk; omega⟩
theorem pl_len {n view : Int} {ms : List Mg} : (plL n view ms).length ≤ 8 := by
  unfold plL
  split
  · rename_i h
    have hc : caB n view ms = true := by
      unfold plC at h
      split at h
      · cases h
      · split at h
        · split at h
          · cases e : caB n view ms with
            | true => rfl
            | false => rw [e] at h; simp at h
          · cases h
        · cases h
    have := (inv_of (ca_right hc)).2.1
    unfold planL
    rw [List.length_map, List.length_range]
    exact this
  · exact Nat.zero_le _
end Go.Proofs.YtddmdnljfnimbaaGreatDoor.Pl
namespace Go.Proofs.YtddmdnljfnimbaaGreatDoor.Op
open Go.ChangeShapes Go.WideShapes Go.ChangeAt Go.RowKit Go.Deep
set_option maxRecDepth 100000 in
theorem open_msgs {H : Type} {enc : TypeId × Value → H} {w : World} {base : Nat} {spare : Nat → Bool} {r : Reach} {b0 : Nat} {v : Value} {d : DataW H} {p : List MemPlace}
    (hv : Value.okWide Tryz.prog w r b0 22 v) (h : DataW.Trod enc Tryz.prog w base spare true 22 v d p) :
    ∃ xs : List Gm.Mg, Gm.Row w v xs ∧ xs.length ≤ maxLen ∧ ∀ x ∈ xs, Gm.Tz maxLen x := by
  obtain ⟨a0, len0, cap0, rfl⟩ := okWide_slice Tryz.underlying22 hv
  obtain ⟨fuel, hf⟩ := h
  obtain ⟨v', xs, e, h1, h2, h3⟩ := openGm hf
  simp [Value.cells] at e
  subst e
  exact ⟨xs, h1, h2, h3⟩
end Go.Proofs.YtddmdnljfnimbaaGreatDoor.Op
