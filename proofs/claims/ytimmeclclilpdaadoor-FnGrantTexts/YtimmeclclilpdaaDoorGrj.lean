/- A grant is read from its words: the program. -/
import Derived.Test.YtimmeclclilpdaaDoorGri
import Derived.Test.YtimmeclclilpdaaDoorShelfF
import Derived.Deep.RegionLaw
namespace Go.Proofs.YtimmeclclilpdaaDoor.Gr12
open Go.RowKit Go.Sort Go.Proofs.YtimmeclclilpdaaDoor.Ap Go.Proofs.YtimmeclclilpdaaDoor.Tx
open Go.Proofs.YtimmeclclilpdaaDoor.Rq (inB ret_bool)

/-- The tables that strings.Fields reads. -/
structure STab (w : World) : Prop where
  a : Lib.TabIs Tryd.prog w "strings.asciiSpace" .u8 Lib.asciiSpaceTab
  b : Lib.WhiteTab 1 w
theorem white_below {g : Nat} {w w' : World} (h : Lib.WhiteTab g w) (hb : Below w.heap.size w w') : Lib.WhiteTab g w' := by
  obtain ⟨T, oT, R, oR, h0, h1, h2, h3, h4⟩ := h
  have up : ∀ {p : Addr} {v : Value}, w.cell? p = some v → w'.cell? p = some v := fun {p v} hc => (hb.cell (World.block_lt_of_cell? w p hc)).trans hc
  exact ⟨T, oT, R, oR, up h0, up h1, up h2, up h3, fun i hi => up (h4 i hi)⟩
theorem STab.below {w w' : World} (h : STab w) (hb : Below w.heap.size w w') : STab w' := ⟨Lib.tabBelow_of_tabIs h.a w' hb, white_below h.b hb⟩
/-- The words of a text, with white space between. -/
def fldS (t : ByteArray) : List ByteArray := (Lib.fieldsD t.data.toList).map baL
theorem fields_any (t : ByteArray) (w : World) (ht : t.size ≤ 70000) (hT : STab w) :
    Calls Tryd.prog 34 #[.string t] w fun e w' => ∃ v, e = .returned v ∧ RowT w' v (fldS t) ∧ Below w.heap.size w w' := by
  refine (Sf.fields_laid t w (by omega) hT.a hT.b).mono fun e w' ⟨A, he, hA, ho, hb⟩ => ⟨_, he, ?_, hb⟩
  have hl : (fldS t).length = (Lib.fieldsD t.data.toList).length := by unfold fldS; rw [List.length_map]
  have hO : OwnS w' w.heap.size (.slice (some ⟨A, 0, none⟩) (Lib.fieldsD t.data.toList).length (Lib.fieldsD t.data.toList).length) (fldS t) := by
    unfold OwnS
    rw [hl]
    have e : (fldS t).map Value.string = (Lib.fieldsD t.data.toList).map fun x => Value.string ⟨x.toArray⟩ := by unfold fldS; rw [List.map_map]; rfl
    rw [e]
    exact ho
  exact hO.row
/-- What grantIn answers. -/
def giB (ts : List ByteArray) : Bool := match ts with
  | [_, _, s2, s3, s4] => nB s2 && (nB s3 && nB s4)
  | _ => false
def giG (ts : List ByteArray) : Gg := match ts with
  | [_, s1, s2, s3, s4] => if nB s2 && (nB s3 && nB s4) then gW s1 s2 s3 s4 else zG
  | _ => zG
theorem gi_len {ts : List ByteArray} (h : ts.length ≠ 5) : giG ts = zG ∧ giB ts = false := by
  unfold giG giB
  split
  · exact absurd rfl h
  · exact ⟨rfl, rfl⟩
theorem gi_five (s0 s1 s2 s3 s4 : ByteArray) : giG [s0, s1, s2, s3, s4] = (if nB s2 && (nB s3 && nB s4) then gW s1 s2 s3 s4 else zG) ∧ giB [s0, s1, s2, s3, s4] = (nB s2 && (nB s3 && nB s4)) := ⟨rfl, rfl⟩
def wAt (s2 s3 s4 : ByteArray) : Nat → ByteArray
  | 0 => s2
  | 1 => s3
  | _ => s4
def nAt (s2 s3 s4 : ByteArray) (k j : Nat) : Int := if j < k then nV (wAt s2 s3 s4 j) else 0
theorem nAt_set (s2 s3 s4 : ByteArray) (k : Nat) (hk : k < 3) : (#[.int .i64 (nAt s2 s3 s4 k 0), .int .i64 (nAt s2 s3 s4 k 1), .int .i64 (nAt s2 s3 s4 k 2)] : Array Value).setIfInBounds k (.int .i64 (nV (wAt s2 s3 s4 k))) = #[.int .i64 (nAt s2 s3 s4 (k + 1) 0), .int .i64 (nAt s2 s3 s4 (k + 1) 1), .int .i64 (nAt s2 s3 s4 (k + 1) 2)] := by
  rcases (by omega : k = 0 ∨ k = 1 ∨ k = 2) with rfl | rfl | rfl <;> simp [nAt]
theorem nAt_cell (s2 s3 s4 : ByteArray) (k : Nat) (hk : k < 3) : ∃ v, (#[.int .i64 (nAt s2 s3 s4 k 0), .int .i64 (nAt s2 s3 s4 k 1), .int .i64 (nAt s2 s3 s4 k 2)] : Array Value)[k]? = some v := by
  rcases (by omega : k = 0 ∨ k = 1 ∨ k = 2) with rfl | rfl | rfl <;> exact ⟨_, rfl⟩
set_option maxRecDepth 100000 in
set_option maxHeartbeats 1600000 in
theorem grantIn_any (v : Value) (ts : List ByteArray) (w : World) (hr : RowT w v ts) (hz : ∀ s ∈ ts, s.size ≤ 70000) :
    Calls Tryd.prog 33 #[v] w fun e w' => e = .returned (.tuple #[gV (giG ts), .bool (giB ts)]) ∧ Below w.heap.size w w' := by
  by_cases h5 : ts.length = 5
  · obtain ⟨s0, s1, s2, s3, s4, rfl⟩ := five h5
    obtain ⟨b, o, c, rfl, hb, hc, _, _, _, _, _⟩ := row5 hr
    have HR : Hid (RowT w (.slice (some ⟨b, o, none⟩) 5 c) [s0, s1, s2, s3, s4]) := hr
    have HWZ : Hid (∀ k, (wAt s2 s3 s4 k).size ≤ 70000) := fun k => by
      match k with
      | 0 => exact hz s2 (by simp)
      | 1 => exact hz s3 (by simp)
      | k + 2 => exact hz s4 (by simp)
    have HG : Hid (giG [s0, s1, s2, s3, s4] = (if nB s2 && (nB s3 && nB s4) then gW s1 s2 s3 s4 else zG) ∧ giB [s0, s1, s2, s3, s4] = (nB s2 && (nB s3 && nB s4))) := gi_five s0 s1 s2 s3 s4
    have HB0 : Hid (b < w.heap.size ∧ 5 ≤ c) := ⟨hb, hc⟩
    have HX : Hid (∀ W, Below (w.heap.size + 1) ((w.alloc (.cells #[.string ⟨#[]⟩, .int .i64 0, .int .i64 0, .int .i64 0] 24)).alloc (.cells #[.int .i64 0, .int .i64 0, .int .i64 0] 80)) W → W.heap[w.heap.size]? = some (.cells #[.string ⟨#[]⟩, .int .i64 0, .int .i64 0, .int .i64 0] 24 (0, 0)) ∧ Below w.heap.size w W ∧ w.heap.size + 1 ≤ W.heap.size) := fun W hW => by
      have e1 : (w.alloc (.cells #[.string ⟨#[]⟩, .int .i64 0, .int .i64 0, .int .i64 0] 24)).heap.size = w.heap.size + 1 := by simp
      have hs := hW.size
      simp at hs
      exact ⟨((hW.block w.heap.size (by omega)).trans ((bel1 (w.alloc (.cells #[.string ⟨#[]⟩, .int .i64 0, .int .i64 0, .int .i64 0] 24)) (.cells #[.int .i64 0, .int .i64 0, .int .i64 0] 80)).block _ (by rw [e1]; omega))).trans (heap_alloc_new w _), ((bel1 w _).trans ((bel1 _ _).mono (bel1 w _).size)).trans (hW.mono (by omega)), by omega⟩
    have HA0 : Hid (((w.alloc (.cells #[.string ⟨#[]⟩, .int .i64 0, .int .i64 0, .int .i64 0] 24)).alloc (.cells #[.int .i64 0, .int .i64 0, .int .i64 0] 80)).heap[w.heap.size + 1]? = some (.cells #[.int .i64 (nAt s2 s3 s4 0 0), .int .i64 (nAt s2 s3 s4 0 1), .int .i64 (nAt s2 s3 s4 0 2)] 80 (0, 0))) := by
      have e1 : (w.alloc (.cells #[.string ⟨#[]⟩, .int .i64 0, .int .i64 0, .int .i64 0] 24)).heap.size = w.heap.size + 1 := by simp
      have := heap_alloc_new (w.alloc (.cells #[.string ⟨#[]⟩, .int .i64 0, .int .i64 0, .int .i64 0] 24)) (.cells #[.int .i64 0, .int .i64 0, .int .i64 0] 80)
      rw [e1] at this
      exact this
    have hcI : (5 : Int) ≤ (c : Int) := by omega
    have hc3 : (2 : Int) ≤ (c : Int) := by omega
    have hc4 : ((c : Int) - 2 == 0) = false := by rw [beq_eq_false_iff_ne]; omega
    have hc5 : ¬ c = 2 := by omega
    clear hr hb hc hz h5
    go_enter Tryd.func33, Tryd.ntmps33
    go_upto_region 4 with fail
    generalize ((w.alloc (.cells #[.string ⟨#[]⟩, .int .i64 0, .int .i64 0, .int .i64 0] 24)).alloc (.cells #[.int .i64 0, .int .i64 0, .int .i64 0] 80)) = wb at HX HA0 ⊢
    go_wp2_with fail
    go_loopw [16] (fun i wr => ∃ k : Nat, k ≤ 3 ∧ i = .int .i64 k ∧ Hid (wr.heap[w.heap.size + 1]? = some (.cells #[.int .i64 (nAt s2 s3 s4 k 0), .int .i64 (nAt s2 s3 s4 k 1), .int .i64 (nAt s2 s3 s4 k 2)] 80 (0, 0)) ∧ Below (w.heap.size + 1) wb wr ∧ ∀ j, j < k → nB (wAt s2 s3 s4 j) = true)) (fun i _ => 3 - (intOf i).toNat)
    case atStart => exact ⟨0, by omega, rfl, HA0.out, Below.refl _ _, fun j hj => absurd hj (by omega)⟩
    case round =>
      obtain ⟨k, hk, rfl, HK⟩ := hrel
      by_cases hlt : k < 3
      · have hI : (k : Int) < 3 := by omega
        have hI2 : (k : Int) < (5 : Int) - 2 := by omega
        have hcell : wr.cell? ⟨b, o + 2 + k, none⟩ = some (.string (wAt s2 s3 s4 k)) := by
          obtain ⟨b', o', c', e, hb', _, _, _, y2, y3, y4⟩ := row5 (HR.out.below (HX.out wr HK.out.2.1).2.1)
          cases e
          rcases (by omega : k = 0 ∨ k = 1 ∨ k = 2) with rfl | rfl | rfl
          · exact y2
          · exact y3
          · exact y4
        have HNI : Hid (∀ W, Calls Tryd.prog 59 #[.string (wAt s2 s3 s4 k)] W fun e w' => e = .returned (.tuple #[.int .i64 (nV (wAt s2 s3 s4 k)), .bool (nB (wAt s2 s3 s4 k))]) ∧ Below W.heap.size W w') := fun W => numberIn_any _ W (HWZ.out k)
        obtain ⟨q, HQ⟩ : ∃ q, Hid (nB (wAt s2 s3 s4 k) = q) := ⟨_, rfl⟩
        rw [HQ.out] at HNI
        have HSET : Hid ((#[.int .i64 (nAt s2 s3 s4 k 0), .int .i64 (nAt s2 s3 s4 k 1), .int .i64 (nAt s2 s3 s4 k 2)] : Array Value).setIfInBounds k (.int .i64 (nV (wAt s2 s3 s4 k))) = #[.int .i64 (nAt s2 s3 s4 (k + 1) 0), .int .i64 (nAt s2 s3 s4 (k + 1) 1), .int .i64 (nAt s2 s3 s4 (k + 1) 2)]) := nAt_set s2 s3 s4 k hlt
        have HCL : Hid (∃ v, (#[.int .i64 (nAt s2 s3 s4 k 0), .int .i64 (nAt s2 s3 s4 k 1), .int .i64 (nAt s2 s3 s4 k 2)] : Array Value)[k]? = some v) := nAt_cell s2 s3 s4 k hlt
        cases q with
        | false =>
          have HE : Hid (giG [s0, s1, s2, s3, s4] = zG ∧ giB [s0, s1, s2, s3, s4] = false) := by
            have hz : (nB s2 && (nB s3 && nB s4)) = false := by
              have h := HQ.out
              rcases (by omega : k = 0 ∨ k = 1 ∨ k = 2) with rfl | rfl | rfl
              · have h' : nB s2 = false := h
                rw [h']; rfl
              · have h' : nB s3 = false := h
                rw [h', Bool.false_and, Bool.and_false]
              · have h' : nB s4 = false := h
                rw [h', Bool.and_false, Bool.and_false]
            show _ ∧ _
            rw [HG.out.1, HG.out.2, hz]
            exact ⟨rfl, rfl⟩
          generalize nV (wAt s2 s3 s4 k) = m at HNI
          generalize wAt s2 s3 s4 k = sk at hcell HNI
          go_wp2_with fail
          refine (HNI.out _).mono ?_
          rintro e w5 ⟨rfl, b5⟩
          have B5 : Hid (Below (w.heap.size + 1) wb w5) := HK.out.2.1.trans (b5.mono (HX.out wr HK.out.2.1).2.2)
          have AX : Hid (w5.heap[w.heap.size]? = some (.cells #[.string ⟨#[]⟩, .int .i64 0, .int .i64 0, .int .i64 0] 24 (0, 0))) := (HX.out _ B5.out).1
          have GX : Hid (Below w.heap.size w w5) := (HX.out _ B5.out).2.1
          clear b5 hcell
          obtain ⟨zc0, zf0⟩ := blk_cell AX.out 0 (x := .string ⟨#[]⟩) rfl
          obtain ⟨zc1, zf1⟩ := blk_cell AX.out 1 (x := .int .i64 0) rfl
          obtain ⟨zc2, zf2⟩ := blk_cell AX.out 2 (x := .int .i64 0) rfl
          obtain ⟨zc3, zf3⟩ := blk_cell AX.out 3 (x := .int .i64 0) rfl
          have AF : ((((w5.setCell ⟨w.heap.size, 0, none⟩ (.string ⟨#[]⟩)).setCell ⟨w.heap.size, 1, none⟩ (.int .i64 0)).setCell ⟨w.heap.size, 2, none⟩ (.int .i64 0)).setCell ⟨w.heap.size, 3, none⟩ (.int .i64 0)).heap[w.heap.size]? = some (.cells #[.string ⟨#[]⟩, .int .i64 0, .int .i64 0, .int .i64 0] 24 (0, 0)) := (blk_set (blk_set (blk_set (blk_set AX.out 0 (.string ⟨#[]⟩)) 1 (.int .i64 0)) 2 (.int .i64 0)) 3 (.int .i64 0))
          have GF : Below w.heap.size w ((((w5.setCell ⟨w.heap.size, 0, none⟩ (.string ⟨#[]⟩)).setCell ⟨w.heap.size, 1, none⟩ (.int .i64 0)).setCell ⟨w.heap.size, 2, none⟩ (.int .i64 0)).setCell ⟨w.heap.size, 3, none⟩ (.int .i64 0)) := (Below.setCell (Below.setCell (Below.setCell (Below.setCell GX.out (p := ⟨w.heap.size, 0, none⟩) (Nat.le_refl _) (.string ⟨#[]⟩)) (p := ⟨w.heap.size, 1, none⟩) (Nat.le_refl _) (.int .i64 0)) (p := ⟨w.heap.size, 2, none⟩) (Nat.le_refl _) (.int .i64 0)) (p := ⟨w.heap.size, 3, none⟩) (Nat.le_refl _) (.int .i64 0))
          go_wp2_with fail
          generalize ((((w5.setCell ⟨w.heap.size, 0, none⟩ (.string ⟨#[]⟩)).setCell ⟨w.heap.size, 1, none⟩ (.int .i64 0)).setCell ⟨w.heap.size, 2, none⟩ (.int .i64 0)).setCell ⟨w.heap.size, 3, none⟩ (.int .i64 0)) = wf at AF GF ⊢
          have d0 := (blk_cell AF 0 (x := .string ⟨#[]⟩) rfl).1
          have d1 := (blk_cell AF 1 (x := .int .i64 0) rfl).1
          have d2 := (blk_cell AF 2 (x := .int .i64 0) rfl).1
          have d3 := (blk_cell AF 3 (x := .int .i64 0) rfl).1
          refine bodyPost_ret (v := .tuple #[.agg #[.string ⟨#[]⟩, .int .i64 0, .int .i64 0, .int .i64 0], .bool false]) (by simp [results, Tryd.results33, go_sem, d0, d1, d2, d3]) rfl ⟨by rw [HE.out.1, HE.out.2]; rfl, GF⟩
        | true =>
          have HALL : Hid (∀ j, j < k + 1 → nB (wAt s2 s3 s4 j) = true) := fun j hj => by
            by_cases e : j = k
            · subst e; exact HQ.out
            · exact HK.out.2.2 j (by omega)
          generalize nV (wAt s2 s3 s4 k) = m at HNI HSET
          generalize wAt s2 s3 s4 k = sk at hcell HNI
          go_wp2_with fail
          refine (HNI.out _).mono ?_
          rintro e w5 ⟨rfl, b5⟩
          have hkb : w.heap.size + 1 < wr.heap.size := (Array.getElem?_eq_some_iff.1 HK.out.1).1
          have A5 : Hid (w5.heap[w.heap.size + 1]? = some (.cells #[.int .i64 (nAt s2 s3 s4 k 0), .int .i64 (nAt s2 s3 s4 k 1), .int .i64 (nAt s2 s3 s4 k 2)] 80 (0, 0))) := (b5.block _ hkb).trans HK.out.1
          have B5 : Hid (Below (w.heap.size + 1) wb w5) := HK.out.2.1.trans (b5.mono (HX.out wr HK.out.2.1).2.2)
          obtain ⟨vk, hvk⟩ := HCL.out
          obtain ⟨zc, zf⟩ := blk_cell A5.out k hvk
          have A6 : Hid ((w5.setCell ⟨w.heap.size + 1, k, none⟩ (.int .i64 m)).heap[w.heap.size + 1]? = some (.cells #[.int .i64 (nAt s2 s3 s4 (k + 1) 0), .int .i64 (nAt s2 s3 s4 (k + 1) 1), .int .i64 (nAt s2 s3 s4 (k + 1) 2)] 80 (0, 0)) ∧ Below (w.heap.size + 1) wb (w5.setCell ⟨w.heap.size + 1, k, none⟩ (.int .i64 m)) ∧ ∀ j, j < k + 1 → nB (wAt s2 s3 s4 j) = true) := ⟨by rw [blk_set A5.out, HSET.out], Below.setCell B5.out (p := ⟨w.heap.size + 1, k, none⟩) (Nat.le_refl _) _, HALL.out⟩
          clear b5 hcell hkb hvk
          go_wp2_with fail
          exact ⟨⟨k + 1, by omega, by go_num, A6⟩, by simp [intOf]; omega⟩
      · obtain rfl : k = 3 := by omega
        have HE : Hid (giG [s0, s1, s2, s3, s4] = gW s1 s2 s3 s4 ∧ giB [s0, s1, s2, s3, s4] = true) := by
          have h2 : nB s2 = true := HK.out.2.2 0 (by decide)
          have h3 : nB s3 = true := HK.out.2.2 1 (by decide)
          have h4 : nB s4 = true := HK.out.2.2 2 (by decide)
          show _ ∧ _
          rw [HG.out.1, HG.out.2, h2, h3, h4]
          exact ⟨rfl, rfl⟩
        obtain ⟨b', o', c', e, _, _, _, y1, _, _, _⟩ := row5 (HR.out.below (HX.out wr HK.out.2.1).2.1)
        cases e
        have AX : Hid (wr.heap[w.heap.size]? = some (.cells #[.string ⟨#[]⟩, .int .i64 0, .int .i64 0, .int .i64 0] 24 (0, 0))) := (HX.out _ HK.out.2.1).1
        have GX : Hid (Below w.heap.size w wr) := (HX.out _ HK.out.2.1).2.1
        have x0 : wr.cell? ⟨w.heap.size + 1, 0, none⟩ = some (.int .i64 (nV s2)) := (blk_cell HK.out.1 0 (x := .int .i64 (nV s2)) rfl).1
        have x1 : wr.cell? ⟨w.heap.size + 1, 1, none⟩ = some (.int .i64 (nV s3)) := (blk_cell HK.out.1 1 (x := .int .i64 (nV s3)) rfl).1
        have x2 : wr.cell? ⟨w.heap.size + 1, 2, none⟩ = some (.int .i64 (nV s4)) := (blk_cell HK.out.1 2 (x := .int .i64 (nV s4)) rfl).1
        have AD : Hid (wr.drew.heap[w.heap.size]? = some (.cells #[.string ⟨#[]⟩, .int .i64 0, .int .i64 0, .int .i64 0] 24 (0, 0))) := AX.out
        have y1' : wr.drew.cell? ⟨b, o + 1, none⟩ = some (.string s1) := y1
        have x0' : wr.drew.cell? ⟨w.heap.size + 1, 0, none⟩ = some (.int .i64 (nV s2)) := x0
        have x1' : wr.drew.cell? ⟨w.heap.size + 1, 1, none⟩ = some (.int .i64 (nV s3)) := x1
        have x2' : wr.drew.cell? ⟨w.heap.size + 1, 2, none⟩ = some (.int .i64 (nV s4)) := x2
        obtain ⟨ze0, zg0⟩ := blk_cell AX.out 0 (x := .string ⟨#[]⟩) rfl
        obtain ⟨ze1, zg1⟩ := blk_cell AX.out 1 (x := .int .i64 0) rfl
        obtain ⟨ze2, zg2⟩ := blk_cell AX.out 2 (x := .int .i64 0) rfl
        obtain ⟨ze3, zg3⟩ := blk_cell AX.out 3 (x := .int .i64 0) rfl
        obtain ⟨zc0, zf0⟩ := blk_cell AD.out 0 (x := .string ⟨#[]⟩) rfl
        obtain ⟨zc1, zf1⟩ := blk_cell AD.out 1 (x := .int .i64 0) rfl
        obtain ⟨zc2, zf2⟩ := blk_cell AD.out 2 (x := .int .i64 0) rfl
        obtain ⟨zc3, zf3⟩ := blk_cell AD.out 3 (x := .int .i64 0) rfl
        have AF : ((((wr.setCell ⟨w.heap.size, 0, none⟩ (.string s1)).setCell ⟨w.heap.size, 1, none⟩ (.int .i64 (nV s2))).setCell ⟨w.heap.size, 2, none⟩ (.int .i64 (nV s3))).setCell ⟨w.heap.size, 3, none⟩ (.int .i64 (nV s4))).drew.heap[w.heap.size]? = some (.cells #[.string s1, .int .i64 (nV s2), .int .i64 (nV s3), .int .i64 (nV s4)] 24 (0, 0)) := blk_set (blk_set (blk_set (blk_set AX.out 0 _) 1 _) 2 _) 3 _
        have GF : Below w.heap.size w ((((wr.setCell ⟨w.heap.size, 0, none⟩ (.string s1)).setCell ⟨w.heap.size, 1, none⟩ (.int .i64 (nV s2))).setCell ⟨w.heap.size, 2, none⟩ (.int .i64 (nV s3))).setCell ⟨w.heap.size, 3, none⟩ (.int .i64 (nV s4))).drew   := (Below.setCell (Below.setCell (Below.setCell (Below.setCell GX.out (p := ⟨w.heap.size, 0, none⟩) (Nat.le_refl _) _) (p := ⟨w.heap.size, 1, none⟩) (Nat.le_refl _) _) (p := ⟨w.heap.size, 2, none⟩) (Nat.le_refl _) _) (p := ⟨w.heap.size, 3, none⟩) (Nat.le_refl _) _).drew
        go_upto_region 12 with fail
        go_region
        all_goals
          generalize ((((wr.setCell ⟨w.heap.size, 0, none⟩ (.string s1)).setCell ⟨w.heap.size, 1, none⟩ (.int .i64 (nV s2))).setCell ⟨w.heap.size, 2, none⟩ (.int .i64 (nV s3))).setCell ⟨w.heap.size, 3, none⟩ (.int .i64 (nV s4))).drew = wf at AF GF ⊢
          have d0 := (blk_cell AF 0 (x := .string s1) rfl).1
          have d1 := (blk_cell AF 1 (x := .int .i64 (nV s2)) rfl).1
          have d2 := (blk_cell AF 2 (x := .int .i64 (nV s3)) rfl).1
          have d3 := (blk_cell AF 3 (x := .int .i64 (nV s4)) rfl).1
          go_wp2_with fail
          refine bodyPost_ret (v := .tuple #[.agg #[.string s1, .int .i64 (nV s2), .int .i64 (nV s3), .int .i64 (nV s4)], .bool true]) (by simp [results, Tryd.results33, go_sem, d0, d1, d2, d3]) rfl ⟨by rw [HE.out.1, HE.out.2]; rfl, GF⟩
  · have HE : Hid (giG ts = zG ∧ giB ts = false) := gi_len h5
    obtain ⟨a, c, rfl, _⟩ := hr
    have h5' : ((ts.length : Int) != 5) = true := by rw [bne_iff_ne]; omega
    clear h5
    go_enter Tryd.func33, Tryd.ntmps33
    go_wp2_with fail
    refine bodyPost_ret (v := .tuple #[.agg #[.string ⟨#[]⟩, .int .i64 0, .int .i64 0, .int .i64 0], .bool false]) (by simp [results, Tryd.results33, go_sem]) rfl ⟨by rw [HE.out.1, HE.out.2]; rfl, bel1 _ _⟩
end Go.Proofs.YtimmeclclilpdaaDoor.Gr12
