/- Checkpoints that are right: StableOK, of the program and of the specification. -/
import Derived.Test.YtnebohdlndiejaaDoorXa
import Derived.Test.YtnebohdlndiejaaDoorXc
import Derived.Test.YtnebohdlndiejaaDoorHs
import Derived.Test.YtnebohdlndiejaaDoorQc
import Derived.Deep.Cut
import Derived.Lib.SmallJoins
namespace Go.Proofs.YtnebohdlndiejaaDoor.Xs
open Go.RowKit Go.Proofs.YtnebohdlndiejaaDoor.Sl Go.Proofs.YtnebohdlndiejaaDoor.Tm Go.Proofs.YtnebohdlndiejaaDoor.Xv Go.Proofs.YtnebohdlndiejaaDoor.Xq
open Go.Proofs.YtnebohdlndiejaaDoor.Sh (KTab KTab.below)
open Go.Proofs.YtnebohdlndiejaaDoor.Hs (stV)
open Go.Proofs.YtnebohdlndiejaaDoor.Gt (Vo)
open Go.Proofs.YtnebohdlndiejaaDoor.Qm (qOut inB)
open Go.Proofs.YtnebohdlndiejaaDoor.Rm (inR inR_nat l01In_any)
open Go.Proofs.YtnebohdlndiejaaDoor.Rg (RowG RowG.slice RowG.at lt_at mem_at blk_cell bel_new)

/-- The mark of the vote k is right; all are. -/
def MkTo (sq sz : Int) (rt : ByteArray) (vs : List Vo) (k : Nat) : Prop := ∀ j x, j < k → vs[j]? = some x → x.m = vmk (frn x.f) sq sz rt
/-- A checkpoint is right. -/
noncomputable def stB (n sq sz : Int) (rt : ByteArray) (vs : List Vo) : Bool := vok sq sz rt && (qvB n (vfs vs) && bOf (MkTo sq sz rt vs vs.length))
theorem vfs_at {vs : List Vo} {k : Nat} {x : Vo} (h : vs[k]? = some x) : (vfs vs)[k]? = some x.f := by unfold vfs; rw [List.getElem?_map, h]; rfl
theorem st_no1 {n sq sz : Int} {rt : ByteArray} {vs : List Vo} (h : vok sq sz rt = false) : stB n sq sz rt vs = false := by unfold stB; rw [h]; rfl
theorem st_no2 {n sq sz : Int} {rt : ByteArray} {vs : List Vo} (h : qvB n (vfs vs) = false) : stB n sq sz rt vs = false := by unfold stB; rw [h, Bool.false_and, Bool.and_false]
theorem st_no3 {n sq sz : Int} {rt : ByteArray} {vs : List Vo} {k : Nat} {x : Vo} (hx : vs[k]? = some x) (h : x.m ≠ vmk (frn x.f) sq sz rt) : stB n sq sz rt vs = false := by
  unfold stB; rw [bOf_false (fun hh => h (hh k x (lt_at hx) hx)), Bool.and_false, Bool.and_false]
theorem st_yes {n sq sz : Int} {rt : ByteArray} {vs : List Vo} (h1 : vok sq sz rt = true) (h2 : qvB n (vfs vs) = true) (h3 : MkTo sq sz rt vs vs.length) : stB n sq sz rt vs = true := by
  unfold stB; rw [h1, h2, bOf_true h3]; rfl
theorem q_isV {n : Int} {vs : List Vo} (h : qvB n (vfs vs) = true) {k : Nat} {x : Vo} (hx : vs[k]? = some x) : isV n x.f = true := (qv_iff.1 h).2.2.1 _ (List.mem_of_getElem? (vfs_at hx))
theorem q_len {n : Int} {vs : List Vo} (h : qvB n (vfs vs) = true) : (vs.length : Int) = qOut n := by have := (qv_iff.1 h).2.1; rwa [vfs_length] at this
theorem q_rise {n : Int} {vs : List Vo} (h : qvB n (vfs vs) = true) {k : Nat} {x y : Vo} (hx : vs[k]? = some x) (hy : vs[k + 1]? = some y) : x.f < y.f := (qv_iff.1 h).2.2.2 k _ _ (by rw [vfs_length]; exact lt_at hy) (vfs_at hx) (vfs_at hy)
theorem q_all {n : Int} {vs : List Vo} (h0 : fCode n = 0) (h1 : (vs.length : Int) = qOut n) (h2 : ∀ (k : Nat) (x : Vo), vs[k]? = some x → isV n x.f = true) (h3 : ∀ (k : Nat) (x y : Vo), vs[k]? = some x → vs[k + 1]? = some y → x.f < y.f) : qvB n (vfs vs) = true := by
  refine qv_iff.2 ⟨h0, by rw [vfs_length]; exact h1, fun f hf => ?_, fun j x y hj hx hy => ?_⟩
  · unfold vfs at hf
    obtain ⟨x, hx, rfl⟩ := List.mem_map.1 hf
    obtain ⟨k, hk, e⟩ := List.getElem_of_mem hx
    exact h2 k x (by rw [List.getElem?_eq_getElem hk, e])
  · unfold vfs at hx hy
    rw [List.getElem?_map] at hx hy
    obtain ⟨a, ha, rfl⟩ := Option.map_eq_some_iff.1 hx
    obtain ⟨b, hb, rfl⟩ := Option.map_eq_some_iff.1 hy
    exact h3 j a b ha hb
theorem inR_isV {n x : Int} (h : fCode n = 0) : inR x 0 (n - 1) = isV n x := by
  unfold inR isV okN inB
  rw [decide_eq_true h, Bool.true_and, Bool.eq_iff_iff]
  simp
theorem toList_inj {a b : ByteArray} (h : a.toList = b.toList) : a = b := by
  rw [Lib.toList_data, Lib.toList_data] at h
  cases a
  cases b
  have h2 := Array.toList_inj.1 h
  simp only at h2
  rw [h2]
theorem ret_b {a b : Bool} (h : a = b) : Ending.returned (.bool a) = .returned (.bool b) := by rw [h]
set_option maxRecDepth 100000 in
set_option maxHeartbeats 1600000 in
theorem implStableOK_any (n sq sz : Int) (rt : ByteArray) (vr : Value) (vs : List Vo) (w : World) (h : Gt.Row w vr vs) (hl : vs.length ≤ 1048576) (hK : KTab w) (hp : 0 < w.heap.size) :
    Calls Tryd.prog 7 #[.int .i64 n, stV sq sz rt vr] w fun e w' => e = .returned (.bool (stB n sq sz rt vs)) ∧ Below w.heap.size w w' := by
  have HR0 : Hid (Gt.Row w vr vs) := h
  obtain ⟨a, cap, rfl⟩ := RowG.slice h
  have HX : Hid (∀ W, Below (w.alloc (.cells #[.int .i64 sq, .int .i64 sz, .string rt, .slice a vs.length cap] 29)).heap.size (w.alloc (.cells #[.int .i64 sq, .int .i64 sz, .string rt, .slice a vs.length cap] 29)) W → (W.cell? ⟨w.heap.size, 0, none⟩ = some (.int .i64 sq) ∧ W.cell? ⟨w.heap.size, 1, none⟩ = some (.int .i64 sz) ∧ W.cell? ⟨w.heap.size, 2, none⟩ = some (.string rt) ∧ W.cell? ⟨w.heap.size, 3, none⟩ = some (.slice a vs.length cap)) ∧ Gt.Row W (.slice a vs.length cap) vs ∧ Below w.heap.size w W ∧ KTab W ∧ 0 < W.heap.size) := fun W hW => by
    have h1 := (hW.block w.heap.size (by simp)).trans (heap_alloc_new w _)
    have b := (bel_new w (.cells #[.int .i64 sq, .int .i64 sz, .string rt, .slice a vs.length cap] 29)).trans (hW.mono (by simp))
    exact ⟨⟨(blk_cell h1 0 rfl).1, (blk_cell h1 1 rfl).1, (blk_cell h1 2 rfl).1, (blk_cell h1 3 rfl).1⟩, HR0.out.below b, b, hK.below b hp, Nat.lt_of_lt_of_le hp b.size⟩
  clear h hK hp HR0
  unfold stV
  cases hv : vok sq sz rt with
  | false =>
    have HE : Hid (stB n sq sz rt vs = false) := st_no1 hv
    go_enter Tryd.func7, Tryd.ntmps7
    go_wp2_with fail
    refine (votable_any sq sz rt _ _).mono ?_
    rintro e w1 ⟨rfl, b1⟩
    rw [hv]
    obtain ⟨_, _, g1, _⟩ := HX.out _ b1
    have G1 : Hid (Below w.heap.size w w1) := g1
    clear g1 b1 hv HX
    go_wp2_with fail
    go_ret
    exact ⟨ret_b HE.out.symm, G1.out⟩
  | true =>
    obtain ⟨z1, _⟩ := vok_size hv
    have HV : Hid (vok sq sz rt = true ∧ rt.size ≤ 1000) := ⟨hv, by omega⟩
    have HVT : Hid (∀ W, Calls Tryd.prog 13 #[.agg #[.int .i64 sq, .int .i64 sz, .string rt, .slice a vs.length cap]] W fun e w' => e = .returned (.bool true) ∧ Below W.heap.size W w') := fun W => by have := votable_any sq sz rt (.slice a vs.length cap) W; rwa [hv] at this
    clear hv z1
    go_enter Tryd.func7, Tryd.ntmps7
    go_upto_region 1 with fail
    generalize w.alloc (.cells #[.int .i64 sq, .int .i64 sz, .string rt, .slice a vs.length cap] 29) = wb at HX ⊢
    obtain ⟨⟨c0, c1, c2, c3⟩, _⟩ := HX.out _ (Below.refl _ _)
    go_wp2_with fail
    refine (HVT.out _).mono ?_
    rintro e w1 ⟨rfl, b1⟩
    clear c0 c1 c2 c3
    obtain ⟨⟨c0, c1, c2, c3⟩, r1, _⟩ := HX.out _ b1
    have R1 : Hid (Gt.Row w1 (.slice a vs.length cap) vs) := r1
    have B1 : Hid (Below wb.heap.size wb w1) := b1
    clear b1 r1 HVT
    go_wp2_with fail
    refine (votersOf_any _ vs w1 R1.out hl).mono ?_
    rintro e w2 ⟨u, rfl, o2, b2⟩
    have B2 : Hid (Below wb.heap.size wb w2) := B1.out.trans (b2.mono B1.out.size)
    have O2 : Hid (RowJ w2 u (vfs vs)) := RowJ.of_own o2
    clear o2 b2 B1 R1 c0 c1 c2 c3
    have HRQ := risingQuorum_any n u (vfs vs) w2 O2.out (by rw [vfs_length]; omega)
    cases hq : qvB n (vfs vs) with
    | false =>
      have HE : Hid (stB n sq sz rt vs = false) := st_no2 hq
      rw [hq] at HRQ
      obtain ⟨_, _, g2, _⟩ := HX.out _ B2.out
      have G2 : Hid (Below w.heap.size w w2) := g2
      clear hq O2 B2 HX g2
      go_wp2_with fail
      refine HRQ.mono ?_
      rintro e w3 ⟨rfl, rfl⟩
      go_wp2_with fail
      go_ret
      exact ⟨ret_b HE.out.symm, G2.out⟩
    | true =>
      have HQ : Hid (qvB n (vfs vs) = true) := hq
      rw [hq] at HRQ
      clear hq O2
      obtain ⟨⟨c0, c1, c2, c3⟩, _⟩ := HX.out _ B2.out
      go_wp2_with fail
      refine HRQ.mono ?_
      rintro e w3 ⟨rfl, rfl⟩
      clear HRQ
      go_wp2_with fail
      clear c0 c1 c2 c3
      go_loopw [21] (fun i wr => ∃ k : Nat, k ≤ vs.length ∧ i = .int .i64 k ∧ Hid (MkTo sq sz rt vs k ∧ Below wb.heap.size wb wr)) (fun i _ => vs.length - (intOf i).toNat)
      case atStart => exact ⟨0, by omega, rfl, ⟨fun j x hj => by omega, B2.out⟩⟩
      case round =>
        obtain ⟨k, hk, rfl, HZ⟩ := hrel
        by_cases hlt : k < vs.length
        · obtain ⟨x, hx⟩ := Rg.get_at hlt
          obtain ⟨cc, rr, _⟩ := HX.out _ HZ.out.2
          obtain ⟨b, off, rfl, hbl, d0, d1⟩ := RowG.at rr rfl hx
          clear rr cc
          obtain ⟨e1, e2⟩ := isV_frn (q_isV HQ.out hx)
          have HN3 : Hid (x.m ≠ vmk (frn x.f) sq sz rt → stB n sq sz rt vs = false) := fun hh => st_no3 hx hh
          have HS3 : Hid (x.m = vmk (frn x.f) sq sz rt → MkTo sq sz rt vs (k + 1)) := fun hh j y hj hy => by
            by_cases e : j = k
            · subst e; rw [hx] at hy; cases hy; exact hh
            · exact HZ.out.1 j y (by omega) hy
          have HBN : Hid (Below wb.heap.size wb (wr.alloc (.cells #[.int .i64 x.f, .string x.m] 41))) := HZ.out.2.trans ((bel_new wr _).mono HZ.out.2.size)
          have HXX : Hid (∀ W, Below (wr.alloc (.cells #[.int .i64 x.f, .string x.m] 41)).heap.size (wr.alloc (.cells #[.int .i64 x.f, .string x.m] 41)) W → W.cell? ⟨wr.heap.size, 0, none⟩ = some (.int .i64 x.f) ∧ W.cell? ⟨wr.heap.size, 1, none⟩ = some (.string x.m)) := fun W hW => by
            have h1 := (hW.block wr.heap.size (by simp)).trans (heap_alloc_new wr _)
            exact ⟨(blk_cell h1 0 rfl).1, (blk_cell h1 1 rfl).1⟩
          generalize frn x.f = i at e1 e2 HN3 HS3
          generalize x.m = m at d1 HXX HBN HN3 HS3
          rw [e1] at d0 HXX HBN
          clear hx e1
          go_upto_region 6 with fail
          generalize wr.alloc (.cells #[.int .i64 (i : Int), .string m] 41) = wv at HXX HBN ⊢
          obtain ⟨x0, x1⟩ := HXX.out wv (Below.refl _ _)
          obtain ⟨⟨c0, c1, c2, c3⟩, _⟩ := HX.out _ HBN.out
          obtain ⟨X, hX, W, QI0, QO0⟩ := Qc.klass wv
          have QI : Hid (∀ w', Below wv.heap.size wv w' → ∃ x, w' = W x) := QI0
          have QO : Hid (∀ x, Below wv.heap.size wv (W x)) := QO0
          clear QI0 QO0
          have QB : Hid (∀ x, Below wb.heap.size wb (W x)) := fun x => HBN.out.trans ((QO.out x).mono HBN.out.size)
          have HVM : Hid (∀ x, Calls Tryd.prog 16 #[.int .i64 i, .agg #[.int .i64 sq, .int .i64 sz, .string rt, .slice (some ⟨b, off, none⟩) vs.length cap]] (W x) fun e w' => e = .returned (.string (vmk i sq sz rt)) ∧ Below (W x).heap.size (W x) w') := fun xq => by
            obtain ⟨_, _, _, hK', hp'⟩ := HX.out _ (QB.out xq)
            exact voteMark_any i sq sz rt _ (W xq) (by omega) HV.out.2 hK' hp'
          have y0 := Qc.cell_all QO.out x0
          have y1 := Qc.cell_all QO.out x1
          have t0 := Qc.cell_all QO.out c0
          have t1 := Qc.cell_all QO.out c1
          have t2 := Qc.cell_all QO.out c2
          have t3 := Qc.cell_all QO.out c3
          generalize vmk i sq sz rt = t at HVM HN3 HS3
          cases he : (m.toList == t.toList) with
          | true =>
            have he2 : (m.toList != t.toList) = false := by rw [bne, he]; rfl
            have HMM : Hid (m = t) := toList_inj (by simpa using he)
            refine Qc.region_class (W := W) (by kernel_rfl) (by kernel_rfl) (QI.out _ Qc.from_drew) ?_
            repeat (go_big_quiet_step (first | (go_at_call 16; refine (HVM.out _).mono ?_; rintro e w2 ⟨rfl, b2⟩; exact ⟨rfl, Qc.back QI.out QO.out b2⟩)))
            refine wpQuiet_nil ?_
            rintro _ ⟨xq, rfl⟩
            have G2 : Hid (Below wb.heap.size wb (W xq)) := QB.out xq
            clear y0 y1 t0 t1 t2 t3
            generalize W xq = wq at G2 ⊢
            go_wp2_with fail
            exact ⟨⟨k + 1, by omega, by go_num, ⟨HS3.out HMM.out, G2.out⟩⟩, by simp [intOf]; omega⟩
          | false =>
            have he2 : (m.toList != t.toList) = true := by rw [bne, he]; rfl
            have HE : Hid (stB n sq sz rt vs = false) := HN3.out (fun hh => by rw [hh] at he; simp at he)
            refine Qc.region_class (W := W) (by kernel_rfl) (by kernel_rfl) (QI.out _ Qc.from_drew) ?_
            repeat (go_big_quiet_step (first | (go_at_call 16; refine (HVM.out _).mono ?_; rintro e w2 ⟨rfl, b2⟩; exact ⟨rfl, Qc.back QI.out QO.out b2⟩)))
            refine wpQuiet_nil ?_
            rintro _ ⟨xq, rfl⟩
            obtain ⟨_, _, g2, _⟩ := HX.out _ (QB.out xq)
            have G2 : Hid (Below w.heap.size w (W xq)) := g2
            clear y0 y1 t0 t1 t2 t3 g2
            generalize W xq = wq at G2 ⊢
            go_wp2_with fail
            go_ret
            exact ⟨ret_b HE.out.symm, G2.out⟩
        · obtain rfl : k = vs.length := by omega
          have HE : Hid (stB n sq sz rt vs = true) := st_yes HV.out.1 HQ.out HZ.out.1
          obtain ⟨_, _, g2, _⟩ := HX.out _ HZ.out.2
          have G2 : Hid (Below w.heap.size w wr) := g2
          clear g2
          go_wp2_with fail
          go_ret
          exact ⟨ret_b HE.out.symm, G2.out⟩
/-- The first k are as the specification asks. -/
def SGo (n sq sz : Int) (rt : ByteArray) (vs : List Vo) (k : Nat) : Prop := ∀ j x, j < k → vs[j]? = some x → isV n x.f = true ∧ (∀ i y, j = i + 1 → vs[i]? = some y → y.f < x.f) ∧ x.m = vmk (frn x.f) sq sz rt
theorem SGo.succ {n sq sz : Int} {rt : ByteArray} {vs : List Vo} {k : Nat} {x : Vo} (h : SGo n sq sz rt vs k) (hx : vs[k]? = some x) (h1 : isV n x.f = true ∧ (∀ i y, k = i + 1 → vs[i]? = some y → y.f < x.f) ∧ x.m = vmk (frn x.f) sq sz rt) : SGo n sq sz rt vs (k + 1) := fun j y hj hy => by
  by_cases e : j = k
  · subst e; rw [hx] at hy; cases hy; exact h1
  · exact h j y (by omega) hy
theorem st_all {n sq sz : Int} {rt : ByteArray} {vs : List Vo} (h0 : fCode n = 0) (h1 : vok sq sz rt = true) (h2 : (vs.length : Int) = qOut n) (h : SGo n sq sz rt vs vs.length) : stB n sq sz rt vs = true :=
  st_yes h1 (q_all h0 h2 (fun k x hx => (h k x (lt_at hx) hx).1) (fun k x y hx hy => (h (k + 1) y (lt_at hy) hy).2.1 k x rfl hx)) (fun j x hj hx => (h j x hj hx).2.2)
theorem st_q {n sq sz : Int} {rt : ByteArray} {vs : List Vo} (h : stB n sq sz rt vs = true) : qvB n (vfs vs) = true := by
  unfold stB at h; rw [Bool.and_eq_true, Bool.and_eq_true] at h; exact h.2.1
theorem st_not {n sq sz : Int} {rt : ByteArray} {vs : List Vo} (h : ¬ qvB n (vfs vs) = true) : stB n sq sz rt vs = false := by
  cases e : stB n sq sz rt vs with
  | false => rfl
  | true => exact absurd (st_q e) h
set_option maxRecDepth 100000 in
set_option maxHeartbeats 1600000 in
theorem l10Stable_any (n sq sz : Int) (rt : ByteArray) (vr : Value) (vs : List Vo) (w : World) (h : Gt.Row w vr vs) (hl : vs.length ≤ 1048576) (hn : fCode n = 0) :
    Calls Tryd.prog 11 #[.int .i64 n, stV sq sz rt vr] w fun e w' => e = .returned (.bool (stB n sq sz rt vs)) ∧ Below w.heap.size w w' := by
  have HR0 : Hid (Gt.Row w vr vs) := h
  obtain ⟨a, cap, rfl⟩ := RowG.slice h
  have HX : Hid (∀ W, Below (w.alloc (.cells #[.int .i64 sq, .int .i64 sz, .string rt, .slice a vs.length cap] 29)).heap.size (w.alloc (.cells #[.int .i64 sq, .int .i64 sz, .string rt, .slice a vs.length cap] 29)) W → (W.cell? ⟨w.heap.size, 0, none⟩ = some (.int .i64 sq) ∧ W.cell? ⟨w.heap.size, 1, none⟩ = some (.int .i64 sz) ∧ W.cell? ⟨w.heap.size, 2, none⟩ = some (.string rt) ∧ W.cell? ⟨w.heap.size, 3, none⟩ = some (.slice a vs.length cap)) ∧ Gt.Row W (.slice a vs.length cap) vs ∧ Below w.heap.size w W) := fun W hW => by
    have h1 := (hW.block w.heap.size (by simp)).trans (heap_alloc_new w _)
    have b := (bel_new w (.cells #[.int .i64 sq, .int .i64 sz, .string rt, .slice a vs.length cap] 29)).trans (hW.mono (by simp))
    exact ⟨⟨(blk_cell h1 0 rfl).1, (blk_cell h1 1 rfl).1, (blk_cell h1 2 rfl).1, (blk_cell h1 3 rfl).1⟩, HR0.out.below b, b⟩
  have hn7 := f_small hn
  have HN0 : Hid (fCode n = 0) := hn
  clear h HR0 hn
  unfold stV
  have HQU : Hid (∀ W, Calls Tryd.prog 20 #[.int .i64 n] W fun e w' => e = .returned (.int .i64 (qOut n)) ∧ W = w') := fun W => Qm.l06Quorum_any n W HN0.out
  have HASK : Hid (∀ W, Calls Tryd.prog 19 #[.int .i64 sq, .int .i64 sz, .string rt] W fun e w' => e = .returned (.bool (vok sq sz rt)) ∧ W = w') := fun W => l10Ask_any sq sz rt W
  have HNQ : Hid (¬ (vs.length : Int) = qOut n → stB n sq sz rt vs = false) := fun hh => st_not (fun hq => hh (q_len hq))
  have HALL : Hid (vok sq sz rt = true → (vs.length : Int) = qOut n → SGo n sq sz rt vs vs.length → stB n sq sz rt vs = true) := fun h1 h2 h3 => st_all HN0.out h1 h2 h3
  generalize qOut n = qn at HQU HNQ HALL
  cases hv : vok sq sz rt with
  | false =>
    have HE : Hid (stB n sq sz rt vs = false) := st_no1 hv
    rw [hv] at HASK
    go_enter Tryd.func11, Tryd.ntmps11
    go_upto_region 1 with fail
    generalize w.alloc (.cells #[.int .i64 sq, .int .i64 sz, .string rt, .slice a vs.length cap] 29) = wb at HX ⊢
    obtain ⟨⟨c0, c1, c2, c3⟩, _, g0⟩ := HX.out _ (Below.refl _ _)
    obtain ⟨X, hX, W, QI0, QO0⟩ := Qc.klass wb
    have QI : Hid (∀ w', Below wb.heap.size wb w' → ∃ x, w' = W x) := QI0
    have QO : Hid (∀ x, Below wb.heap.size wb (W x)) := QO0
    clear QI0 QO0
    have t0 := Qc.cell_all QO.out c0
    have t1 := Qc.cell_all QO.out c1
    have t2 := Qc.cell_all QO.out c2
    have t3 := Qc.cell_all QO.out c3
    refine Qc.region_class (W := W) (by kernel_rfl) (by kernel_rfl) (QI.out _ Qc.from_drew) ?_
    repeat (go_big_quiet_step (first | (go_at_call 19; refine (HASK.out _).mono ?_; rintro e w2 ⟨rfl, rfl⟩; exact ⟨rfl, ⟨_, rfl⟩⟩) | (go_at_call 20; refine (HQU.out _).mono ?_; rintro e w2 ⟨rfl, rfl⟩; exact ⟨rfl, ⟨_, rfl⟩⟩)))
    refine wpQuiet_nil ?_
    rintro _ ⟨xq, rfl⟩
    obtain ⟨_, _, g2⟩ := HX.out _ (QO.out xq)
    have G2 : Hid (Below w.heap.size w (W xq)) := g2
    clear g2 t0 t1 t2 t3
    generalize W xq = wq at G2 ⊢
    go_wp2_with fail
    go_ret
    exact ⟨ret_b HE.out.symm, G2.out⟩
  | true =>
    obtain ⟨z1, _⟩ := vok_size hv
    have HV : Hid (vok sq sz rt = true ∧ rt.size ≤ 1000) := ⟨hv, by omega⟩
    rw [hv] at HASK
    clear hv z1
    go_enter Tryd.func11, Tryd.ntmps11
    go_upto_region 1 with fail
    generalize w.alloc (.cells #[.int .i64 sq, .int .i64 sz, .string rt, .slice a vs.length cap] 29) = wb at HX ⊢
    obtain ⟨⟨c0, c1, c2, c3⟩, _, g0⟩ := HX.out _ (Below.refl _ _)
    obtain ⟨X, hX, W, QI0, QO0⟩ := Qc.klass wb
    have QI : Hid (∀ w', Below wb.heap.size wb w' → ∃ x, w' = W x) := QI0
    have QO : Hid (∀ x, Below wb.heap.size wb (W x)) := QO0
    clear QI0 QO0
    have t0 := Qc.cell_all QO.out c0
    have t1 := Qc.cell_all QO.out c1
    have t2 := Qc.cell_all QO.out c2
    have t3 := Qc.cell_all QO.out c3
    by_cases hq : (vs.length : Int) = qn
    case neg =>
      have HE : Hid (stB n sq sz rt vs = false) := HNQ.out hq
      have hq2 : ((vs.length : Int) != qn) = true := by simpa using hq
      clear hq
      refine Qc.region_class (W := W) (by kernel_rfl) (by kernel_rfl) (QI.out _ Qc.from_drew) ?_
      repeat (go_big_quiet_step (first | (go_at_call 19; refine (HASK.out _).mono ?_; rintro e w2 ⟨rfl, rfl⟩; exact ⟨rfl, ⟨_, rfl⟩⟩) | (go_at_call 20; refine (HQU.out _).mono ?_; rintro e w2 ⟨rfl, rfl⟩; exact ⟨rfl, ⟨_, rfl⟩⟩)))
      refine wpQuiet_nil ?_
      rintro _ ⟨xq, rfl⟩
      obtain ⟨_, _, g2⟩ := HX.out _ (QO.out xq)
      have G2 : Hid (Below w.heap.size w (W xq)) := g2
      clear g2 t0 t1 t2 t3
      generalize W xq = wq at G2 ⊢
      go_wp2_with fail
      go_ret
      exact ⟨ret_b HE.out.symm, G2.out⟩
    case pos =>
      have HQ : Hid ((vs.length : Int) = qn) := hq
      have hq2 : ((vs.length : Int) != qn) = false := by simpa using hq
      clear hq
      refine Qc.region_class (W := W) (by kernel_rfl) (by kernel_rfl) (QI.out _ Qc.from_drew) ?_
      repeat (go_big_quiet_step (first | (go_at_call 19; refine (HASK.out _).mono ?_; rintro e w2 ⟨rfl, rfl⟩; exact ⟨rfl, ⟨_, rfl⟩⟩) | (go_at_call 20; refine (HQU.out _).mono ?_; rintro e w2 ⟨rfl, rfl⟩; exact ⟨rfl, ⟨_, rfl⟩⟩)))
      refine wpQuiet_nil ?_
      rintro _ ⟨xq, rfl⟩
      have B2 : Hid (Below wb.heap.size wb (W xq)) := QO.out xq
      clear c0 c1 c2 c3 g0
      generalize W xq = w2 at B2 ⊢
      clear t0 t1 t2 t3 QI QO
      go_wp2_with fail
      go_loopw [5] (fun i wr => ∃ k : Nat, k ≤ vs.length ∧ i = .int .i64 k ∧ Hid (SGo n sq sz rt vs k ∧ Below wb.heap.size wb wr)) (fun i _ => vs.length - (intOf i).toNat)
      case atStart => exact ⟨0, by omega, rfl, ⟨fun j x hj => by omega, B2.out⟩⟩
      case round =>
        obtain ⟨k, hk, rfl, HZ⟩ := hrel
        obtain ⟨⟨c0, c1, c2, c3⟩, rr, _⟩ := HX.out _ HZ.out.2
        by_cases hlt : k < vs.length
        · obtain ⟨x, hx⟩ := Rg.get_at hlt
          have HPV : Hid (∀ i y, k = i + 1 → vs[i]? = some y → ∃ b off, a = some ⟨b, off, none⟩ ∧ ∀ W, Below wb.heap.size wb W → W.cell? ⟨b, off + i * 2, none⟩ = some (.int .i64 y.f)) := fun i y _ hy => by
            obtain ⟨b, off, ea, _⟩ := RowG.at rr rfl hy
            refine ⟨b, off, ea, fun W hW => ?_⟩
            obtain ⟨_, r2, _⟩ := HX.out _ hW
            obtain ⟨b', off', ea', _, q0, _⟩ := RowG.at r2 rfl hy
            rw [ea] at ea'
            cases ea'
            exact q0
          obtain ⟨b, off, rfl, hbl, d0, d1⟩ := RowG.at rr rfl hx
          clear rr
          have HIN : Hid (∀ W, Calls Tryd.prog 21 #[.int .i64 x.f, .int .i64 0, .int .i64 (n - 1)] W fun e w' => e = .returned (.bool (isV n x.f)) ∧ W = w') := fun W => by have := l01In_any x.f 0 (n - 1) W; rwa [inR_isV HN0.out] at this
          have HN1 : Hid (isV n x.f = false → stB n sq sz rt vs = false) := fun hh => st_not (fun hq => by have := q_isV hq hx; rw [hh] at this; cases this)
          have HN2 : Hid (∀ i y, k = i + 1 → vs[i]? = some y → x.f ≤ y.f → stB n sq sz rt vs = false) := fun i y e hy hle => st_not (fun hq => by subst e; have := q_rise hq hy hx; omega)
          have HN3 : Hid (x.m ≠ vmk (frn x.f) sq sz rt → stB n sq sz rt vs = false) := fun hh => st_no3 hx hh
          have HS3 : Hid (isV n x.f = true → (∀ i y, k = i + 1 → vs[i]? = some y → y.f < x.f) → x.m = vmk (frn x.f) sq sz rt → SGo n sq sz rt vs (k + 1)) := fun h1 h2 h3 => HZ.out.1.succ hx ⟨h1, h2, h3⟩
          have HFR : Hid (isV n x.f = true → x.f = (frn x.f : Int) ∧ frn x.f < 7) := fun hh => isV_frn hh
          have HBN : Hid (Below wb.heap.size wb (wr.alloc (.cells #[.int .i64 x.f, .string x.m] 41))) := HZ.out.2.trans ((bel_new wr _).mono HZ.out.2.size)
          have HXX : Hid (∀ W, Below (wr.alloc (.cells #[.int .i64 x.f, .string x.m] 41)).heap.size (wr.alloc (.cells #[.int .i64 x.f, .string x.m] 41)) W → W.cell? ⟨wr.heap.size, 0, none⟩ = some (.int .i64 x.f) ∧ W.cell? ⟨wr.heap.size, 1, none⟩ = some (.string x.m)) := fun W hW => by
            have h1 := (hW.block wr.heap.size (by simp)).trans (heap_alloc_new wr _)
            exact ⟨(blk_cell h1 0 rfl).1, (blk_cell h1 1 rfl).1⟩
          clear hx
          generalize frn x.f = i at HN3 HS3 HFR
          generalize x.m = m at d1 HXX HBN HN3 HS3
          generalize x.f = f at d0 HXX HBN HIN HN1 HN2 HS3 HFR
          go_upto_region 7 with fail
          clear c0 c1 c2 c3 d0 d1
          generalize wr.alloc (.cells #[.int .i64 f, .string m] 41) = wv at HXX HBN ⊢
          obtain ⟨x0, x1⟩ := HXX.out wv (Below.refl _ _)
          obtain ⟨⟨c0, c1, c2, c3⟩, _⟩ := HX.out _ HBN.out
          obtain ⟨X, hX, W, QI0, QO0⟩ := Qc.klass wv
          have QI : Hid (∀ w', Below wv.heap.size wv w' → ∃ x, w' = W x) := QI0
          have QO : Hid (∀ x, Below wv.heap.size wv (W x)) := QO0
          clear QI0 QO0
          have QB : Hid (∀ x, Below wb.heap.size wb (W x)) := fun x => HBN.out.trans ((QO.out x).mono HBN.out.size)
          have y0 := Qc.cell_all QO.out x0
          have y1 := Qc.cell_all QO.out x1
          have t0 := Qc.cell_all QO.out c0
          have t1 := Qc.cell_all QO.out c1
          have t2 := Qc.cell_all QO.out c2
          have t3 := Qc.cell_all QO.out c3
          clear x0 x1 c0 c1 c2 c3
          cases h1 : isV n f with
          | false =>
            have HE : Hid (stB n sq sz rt vs = false) := HN1.out h1
            have HVM : Hid (∀ x, Calls Tryd.prog 22 #[.int .i64 (0 : Nat), .int .i64 sq, .int .i64 sz, .string rt] (W x) fun e w' => e = .returned (.string (vmk 0 sq sz rt)) ∧ Below (W x).heap.size (W x) w') := fun xq => l10Mac_any 0 sq sz rt (W xq) (by omega) HV.out.2
            rw [h1] at HIN
            clear h1 HN1 HN2 HN3 HS3 HFR
            refine Qc.region_class (W := W) (by kernel_rfl) (by kernel_rfl) (QI.out _ Qc.from_drew) ?_
            repeat (go_big_quiet_step (first | (go_at_call 21; refine (HIN.out _).mono ?_; rintro e w2 ⟨rfl, rfl⟩; exact ⟨rfl, ⟨_, rfl⟩⟩) | (go_at_call 22; refine (HVM.out _).mono ?_; rintro e w2 ⟨rfl, b2⟩; exact ⟨rfl, Qc.back QI.out QO.out b2⟩)))
            refine wpQuiet_nil ?_
            rintro _ ⟨xq, rfl⟩
            obtain ⟨_, _, g2⟩ := HX.out _ (QB.out xq)
            have G2 : Hid (Below w.heap.size w (W xq)) := g2
            clear g2
            clear y0 y1 t0 t1 t2 t3
            generalize W xq = wq at G2 ⊢
            go_wp2_with fail
            go_ret
            exact ⟨ret_b HE.out.symm, G2.out⟩
          | true =>
            obtain ⟨e1, e2⟩ := HFR.out h1
            rw [h1] at HIN HS3
            subst e1
            have HVM : Hid (∀ x, Calls Tryd.prog 22 #[.int .i64 (i : Int), .int .i64 sq, .int .i64 sz, .string rt] (W x) fun e w' => e = .returned (.string (vmk i sq sz rt)) ∧ Below (W x).heap.size (W x) w') := fun xq => l10Mac_any i sq sz rt (W xq) (by omega) HV.out.2
            generalize vmk i sq sz rt = t at HVM HN3 HS3
            clear h1 HN1 HFR
            by_cases hk0 : k = 0
            · subst hk0
              cases he : (m.toList == t.toList) with
              | true =>
                have he2 : (m.toList != t.toList) = false := by rw [bne, he]; rfl
                have HSS : Hid (SGo n sq sz rt vs (0 + 1)) := HS3.out rfl (fun i' y' e => by omega) (toList_inj (by simpa using he))
                refine Qc.region_class (W := W) (by kernel_rfl) (by kernel_rfl) (QI.out _ Qc.from_drew) ?_
                repeat (go_big_quiet_step (first | (go_at_call 21; refine (HIN.out _).mono ?_; rintro e w2 ⟨rfl, rfl⟩; exact ⟨rfl, ⟨_, rfl⟩⟩) | (go_at_call 22; refine (HVM.out _).mono ?_; rintro e w2 ⟨rfl, b2⟩; exact ⟨rfl, Qc.back QI.out QO.out b2⟩)))
                refine wpQuiet_nil ?_
                rintro _ ⟨xq, rfl⟩
                have G2 : Hid (Below wb.heap.size wb (W xq)) := QB.out xq
                clear y0 y1 t0 t1 t2 t3
                generalize W xq = wq at G2 ⊢
                go_wp2_with fail
                exact ⟨⟨0 + 1, by omega, by go_num, ⟨HSS.out, G2.out⟩⟩, by simp [intOf]; omega⟩
              | false =>
                have he2 : (m.toList != t.toList) = true := by rw [bne, he]; rfl
                have HE : Hid (stB n sq sz rt vs = false) := HN3.out (fun hh => by rw [hh] at he; simp at he)
                refine Qc.region_class (W := W) (by kernel_rfl) (by kernel_rfl) (QI.out _ Qc.from_drew) ?_
                repeat (go_big_quiet_step (first | (go_at_call 21; refine (HIN.out _).mono ?_; rintro e w2 ⟨rfl, rfl⟩; exact ⟨rfl, ⟨_, rfl⟩⟩) | (go_at_call 22; refine (HVM.out _).mono ?_; rintro e w2 ⟨rfl, b2⟩; exact ⟨rfl, Qc.back QI.out QO.out b2⟩)))
                refine wpQuiet_nil ?_
                rintro _ ⟨xq, rfl⟩
                obtain ⟨_, _, g2⟩ := HX.out _ (QB.out xq)
                have G2 : Hid (Below w.heap.size w (W xq)) := g2
                clear g2
                clear y0 y1 t0 t1 t2 t3
                generalize W xq = wq at G2 ⊢
                go_wp2_with fail
                go_ret
                exact ⟨ret_b HE.out.symm, G2.out⟩
            · obtain ⟨j, rfl⟩ : ∃ j, k = j + 1 := ⟨k - 1, by omega⟩
              obtain ⟨y, hy⟩ := Rg.get_at (show j < vs.length by omega)
              obtain ⟨b', off', ea, hcell⟩ := HPV.out j y rfl hy
              cases ea
              have HN2' : Hid ((i : Int) ≤ y.f → stB n sq sz rt vs = false) := fun hh => HN2.out j y rfl hy hh
              have HS3' : Hid (y.f < (i : Int) → m = t → SGo n sq sz rt vs (j + 1 + 1)) := fun h1 h2 => HS3.out rfl (fun i' y' e hy' => by
                have : i' = j := by omega
                subst this
                rw [hy] at hy'
                cases hy'
                exact h1) h2
              have yp : ∀ x, (W x).cell? ⟨b, off + j * 2, none⟩ = some (.int .i64 y.f) := fun x => hcell _ (QB.out x)
              clear HPV hcell hy HN2 HS3
              generalize y.f = pf at HN2' HS3' yp
              have q1 : (0 : Int) < (j : Int) + 1 := by omega
              have q2 : (j : Int) + 1 < (vs.length : Int) := by omega
              have q3 : (j : Int) < (vs.length : Int) := by omega
              by_cases hpf : (i : Int) ≤ pf
              · have HE : Hid (stB n sq sz rt vs = false) := HN2'.out hpf
                have hpe : decide ((i : Int) ≤ pf) = true := decide_eq_true hpf
                refine Qc.region_class (W := W) (by kernel_rfl) (by kernel_rfl) (QI.out _ Qc.from_drew) ?_
                repeat (go_big_quiet_step (first | (go_at_call 21; refine (HIN.out _).mono ?_; rintro e w2 ⟨rfl, rfl⟩; exact ⟨rfl, ⟨_, rfl⟩⟩) | (go_at_call 22; refine (HVM.out _).mono ?_; rintro e w2 ⟨rfl, b2⟩; exact ⟨rfl, Qc.back QI.out QO.out b2⟩)))
                refine wpQuiet_nil ?_
                rintro _ ⟨xq, rfl⟩
                obtain ⟨_, _, g2⟩ := HX.out _ (QB.out xq)
                have G2 : Hid (Below w.heap.size w (W xq)) := g2
                clear g2
                clear y0 y1 t0 t1 t2 t3
                generalize W xq = wq at G2 ⊢
                go_wp2_with fail
                go_ret
                exact ⟨ret_b HE.out.symm, G2.out⟩
              · have hpe : decide ((i : Int) ≤ pf) = false := decide_eq_false hpf
                have HS3 : Hid (m = t → SGo n sq sz rt vs (j + 1 + 1)) := fun hh => HS3'.out (by omega) hh
                clear HS3'
                cases he : (m.toList == t.toList) with
                | true =>
                  have he2 : (m.toList != t.toList) = false := by rw [bne, he]; rfl
                  have HSS : Hid (SGo n sq sz rt vs (j + 1 + 1)) := HS3.out (toList_inj (by simpa using he))
                  refine Qc.region_class (W := W) (by kernel_rfl) (by kernel_rfl) (QI.out _ Qc.from_drew) ?_
                  repeat (go_big_quiet_step (first | (go_at_call 21; refine (HIN.out _).mono ?_; rintro e w2 ⟨rfl, rfl⟩; exact ⟨rfl, ⟨_, rfl⟩⟩) | (go_at_call 22; refine (HVM.out _).mono ?_; rintro e w2 ⟨rfl, b2⟩; exact ⟨rfl, Qc.back QI.out QO.out b2⟩)))
                  refine wpQuiet_nil ?_
                  rintro _ ⟨xq, rfl⟩
                  have G2 : Hid (Below wb.heap.size wb (W xq)) := QB.out xq
                  clear y0 y1 t0 t1 t2 t3
                  generalize W xq = wq at G2 ⊢
                  go_wp2_with fail
                  exact ⟨⟨j + 1 + 1, by omega, by go_num, ⟨HSS.out, G2.out⟩⟩, by simp [intOf]; omega⟩
                | false =>
                  have he2 : (m.toList != t.toList) = true := by rw [bne, he]; rfl
                  have HE : Hid (stB n sq sz rt vs = false) := HN3.out (fun hh => by rw [hh] at he; simp at he)
                  refine Qc.region_class (W := W) (by kernel_rfl) (by kernel_rfl) (QI.out _ Qc.from_drew) ?_
                  repeat (go_big_quiet_step (first | (go_at_call 21; refine (HIN.out _).mono ?_; rintro e w2 ⟨rfl, rfl⟩; exact ⟨rfl, ⟨_, rfl⟩⟩) | (go_at_call 22; refine (HVM.out _).mono ?_; rintro e w2 ⟨rfl, b2⟩; exact ⟨rfl, Qc.back QI.out QO.out b2⟩)))
                  refine wpQuiet_nil ?_
                  rintro _ ⟨xq, rfl⟩
                  obtain ⟨_, _, g2⟩ := HX.out _ (QB.out xq)
                  have G2 : Hid (Below w.heap.size w (W xq)) := g2
                  clear g2
                  clear y0 y1 t0 t1 t2 t3
                  generalize W xq = wq at G2 ⊢
                  go_wp2_with fail
                  go_ret
                  exact ⟨ret_b HE.out.symm, G2.out⟩
        · obtain rfl : k = vs.length := by omega
          have HE : Hid (stB n sq sz rt vs = true) := HALL.out HV.out.1 HQ.out HZ.out.1
          obtain ⟨_, _, g2⟩ := HX.out _ HZ.out.2
          have G2 : Hid (Below w.heap.size w wr) := g2
          clear g2
          go_wp2_with fail
          go_ret
          exact ⟨ret_b HE.out.symm, G2.out⟩
set_option maxRecDepth 100000 in
set_option maxHeartbeats 1600000 in
theorem specStableOK_any (n sq sz : Int) (rt : ByteArray) (vr : Value) (vs : List Vo) (w : World) (h : Gt.Row w vr vs) (hl : vs.length ≤ 1048576) :
    Calls Tryd.prog 5 #[.int .i64 n, stV sq sz rt vr] w fun e w' => e = .returned (.bool (stB n sq sz rt vs)) ∧ Below w.heap.size w w' := by
  have HR0 : Hid (Gt.Row w vr vs) := h
  obtain ⟨a, cap, rfl⟩ := RowG.slice h
  have HX : Hid (∀ W, Below (w.alloc (.cells #[.int .i64 sq, .int .i64 sz, .string rt, .slice a vs.length cap] 29)).heap.size (w.alloc (.cells #[.int .i64 sq, .int .i64 sz, .string rt, .slice a vs.length cap] 29)) W → (W.cell? ⟨w.heap.size, 0, none⟩ = some (.int .i64 sq) ∧ W.cell? ⟨w.heap.size, 1, none⟩ = some (.int .i64 sz) ∧ W.cell? ⟨w.heap.size, 2, none⟩ = some (.string rt) ∧ W.cell? ⟨w.heap.size, 3, none⟩ = some (.slice a vs.length cap)) ∧ Gt.Row W (.slice a vs.length cap) vs ∧ Below w.heap.size w W) := fun W hW => by
    have h1 := (hW.block w.heap.size (by simp)).trans (heap_alloc_new w _)
    have b := (bel_new w (.cells #[.int .i64 sq, .int .i64 sz, .string rt, .slice a vs.length cap] 29)).trans (hW.mono (by simp))
    exact ⟨⟨(blk_cell h1 0 rfl).1, (blk_cell h1 1 rfl).1, (blk_cell h1 2 rfl).1, (blk_cell h1 3 rfl).1⟩, HR0.out.below b, b⟩
  clear h HR0
  have HNO := fun W => Qm.l04Nodes_any n W
  by_cases hn : fCode n = 0
  · have HST : Hid (∀ W, Gt.Row W (.slice a vs.length cap) vs → Calls Tryd.prog 11 #[.int .i64 n, stV sq sz rt (.slice a vs.length cap)] W fun e w' => e = .returned (.bool (stB n sq sz rt vs)) ∧ Below W.heap.size W w') := fun W hW => l10Stable_any n sq sz rt _ vs W hW hl hn
    rw [decide_eq_true hn] at HNO
    clear hn
    unfold stV at HST ⊢
    go_enter Tryd.func5, Tryd.ntmps5
    go_upto_region 1 with fail
    generalize w.alloc (.cells #[.int .i64 sq, .int .i64 sz, .string rt, .slice a vs.length cap] 29) = wb at HX ⊢
    obtain ⟨⟨c0, c1, c2, c3⟩, r0, g0⟩ := HX.out _ (Below.refl _ _)
    have R0 : Hid (Gt.Row wb (.slice a vs.length cap) vs ∧ Below w.heap.size w wb) := ⟨r0, g0⟩
    clear r0 g0
    go_wp2_with (first | (go_at_call 10; refine (HNO _).mono ?_; rintro e w1 ⟨rfl, rfl⟩) | fail)
    refine (HST.out _ R0.out.1).mono ?_
    rintro e w2 ⟨rfl, b2⟩
    have G2 : Hid (Below w.heap.size w w2) := R0.out.2.trans (b2.mono R0.out.2.size)
    clear b2 c0 c1 c2 c3 HNO
    go_wp2_with fail
    go_ret
    exact ⟨rfl, G2.out⟩
  · have HE : Hid (stB n sq sz rt vs = false) := st_not (fun hq => hn (qv_iff.1 hq).1)
    rw [decide_eq_false hn] at HNO
    clear hn
    have HB : Hid (∀ o, Below w.heap.size w (w.alloc o)) := fun o => bel_new w o
    unfold stV
    go_enter Tryd.func5, Tryd.ntmps5
    go_wp2_with (first | (go_at_call 10; refine (HNO _).mono ?_; rintro e w1 ⟨rfl, rfl⟩) | fail)
    go_ret
    exact ⟨ret_b HE.out.symm, HB.out _⟩
end Go.Proofs.YtnebohdlndiejaaDoor.Xs
