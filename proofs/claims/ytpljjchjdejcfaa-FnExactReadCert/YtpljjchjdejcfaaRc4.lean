/- Certificates are read: ReadCert of the specification. -/
import Derived.Test.YtpljjchjdejcfaaRc3
namespace Go.Proofs.Ytpljjchjdejcfaa.Rc
open Go.RowKit Go.Proofs.Ytpljjchjdejcfaa.Sl Go.Proofs.Ytpljjchjdejcfaa.By Go.Proofs.Ytpljjchjdejcfaa.Ap Go.Proofs.Ytpljjchjdejcfaa.Rq Go.Proofs.Ytpljjchjdejcfaa.Rr Go.Proofs.Ytpljjchjdejcfaa.Of Go.Proofs.Ytpljjchjdejcfaa.Om Go.Proofs.Ytpljjchjdejcfaa.Ms Go.Proofs.Ytpljjchjdejcfaa.Gm Go.Proofs.Ytpljjchjdejcfaa.Cb
open Go.Proofs.Ytpljjchjdejcfaa.Tx (RowT tnth)
open Go.Proofs.Ytpljjchjdejcfaa.Tl (OwnS)
open Go.Proofs.Ytpljjchjdejcfaa.Rl (rdC rdL rdOk rdOut l02ReadList_any)
open Go.Proofs.Ytpljjchjdejcfaa.Rg (RowG RowG.slice RowG.at lt_at mem_at bel_new)

theorem rd_short {xs : List Int} (h : xs.length ≤ 65536) : rdC xs = (if rdOk xs then 0 else 3) ∧ rdL xs = rdOut xs := by
  unfold Rl.rdC Rl.rdL Rl.rlC Rl.rlO Rl.rdOut Rl.rlC
  rw [decide_eq_false (by omega)]
  cases rdOk xs <;> simp
noncomputable def good (t : ByteArray) : Bool := okT1 t && ((mOf t).kd == 2)
theorem good_all {ts : List ByteArray} (h : ts.length ≤ 7) : (allOK ts && cfB (msOf ts)) = ts.all good := by
  rw [Bool.eq_iff_iff]
  unfold allOK cfB msOf
  rw [List.length_map, decide_eq_true h, Bool.true_and, Bool.and_eq_true, List.all_eq_true, List.all_eq_true, List.all_eq_true]
  constructor
  · rintro ⟨h1, h2⟩ t ht
    have h3 := h2 (mOf t) (List.mem_map.2 ⟨t, ht, rfl⟩)
    unfold mOK at h3
    rw [Bool.and_eq_true] at h3
    unfold good
    rw [h1 t ht, h3.1]
    rfl
  · intro h1
    refine ⟨fun t ht => ?_, fun x hx => ?_⟩
    · have := h1 t ht
      unfold good at this
      rw [Bool.and_eq_true] at this
      exact this.1
    · obtain ⟨t, ht, rfl⟩ := List.mem_map.1 hx
      have h2 := h1 t ht
      unfold good at h2
      rw [Bool.and_eq_true] at h2
      have h3 : cOf t = 0 := by have := h2.1; unfold okT1 at this; simpa using this
      unfold mOK
      rw [h2.2, ok_right t h3]
      rfl
theorem good_step {ts : List ByteArray} {k : Nat} (h : k < ts.length) : (ts.drop k).all good = (good (tnth ts k) && (ts.drop (k + 1)).all good) := by
  have e := at_some h
  obtain ⟨hk, e2⟩ := List.getElem?_eq_some_iff.1 e
  rw [List.drop_eq_getElem_cons hk, List.all_cons, e2]
theorem own_ne {w : World} {B x : Nat} {v : Value} {ms : List Mg} {cs : Array Value} (h : OwnM w B v ms) (hx : w.heap[x]? = some (.cells cs 40 (0, 0))) : some x ≠ v.ownBlock := by
  intro e
  obtain ⟨_, h | ⟨g', cap', cur, he, _, hgg, _⟩⟩ := h
  · rw [h.1] at e; simp [Value.ownBlock] at e
  · rw [he] at e
    simp [Value.ownBlock] at e
    subst e
    rw [hx] at hgg
    simp at hgg
theorem ret_cb {a : ByteArray} {b : ByteArray} {v : Value} {c d : Bool} (h : a = b ∧ c = d) : Ending.returned (.tuple #[.agg #[.string a, v], .bool c]) = .returned (.tuple #[crtV b v, .bool d]) := by rw [h.1, h.2]; rfl
theorem in_any (x a b : Int) (w : World) : Calls Try.prog 56 #[.int .i64 x, .int .i64 a, .int .i64 b] w fun e w' => e = .returned (.bool (inB x a b)) ∧ w = w' := (Rq.l01In_any x a b w).mono fun _ _ h => ⟨h.1, h.2.symm⟩
set_option maxRecDepth 100000 in
set_option maxHeartbeats 3200000 in
theorem l06Read_any (s : ByteArray) (w : World) (hs : s.size ≤ 65536) :
    Calls Try.prog 66 #[.string s] w fun e w' => ∃ vp, e = .returned (.tuple #[crtV (rcBd (bys s)) vp, .bool (rcOK (bys s))]) ∧ OwnM w' w.heap.size vp (rcMs (bys s)) ∧ Below w.heap.size w w' := by
  obtain ⟨i0, hi0, hz0, hz1, hz2⟩ := info_parts info_m
  have hxl : (bys s).length ≤ 65536 := by rw [bys_length]; exact hs
  have HSM : Hid (∀ t ∈ rdL (bys s), t.size ≤ 65535) := rdL_size (bys s) (bys_range s)
  have HRD : Hid (rdC (bys s) = (if rdOk (bys s) then 0 else 3) ∧ rdL (bys s) = rdOut (bys s)) := rd_short hxl
  have HRL := l02ReadList_any s (w.alloc (.cells #[.string ⟨#[]⟩, .slice none 0 0] 40)) hs
  generalize bys s = xs at HSM HRD HRL hxl ⊢
  rw [← HRD.out.2] at HRL
  clear hs
  go_enter Try.func66, Try.ntmps66
  go_wp2_with fail
  refine HRL.mono ?_
  rintro e w1 ⟨v1, rfl, o1, b1⟩
  have K0 : Hid (w1.heap[w.heap.size]? = some (.cells #[.string ⟨#[]⟩, .slice none 0 0] 40 (0, 0))) := (b1.block w.heap.size (by simp)).trans (heap_alloc_new w _)
  have KB : Hid (Below w.heap.size w w1) := (bel_new w _).trans (b1.mono (by simp))
  have O1 : Hid (OwnS w1 (w.alloc (.cells #[.string ⟨#[]⟩, .slice none 0 0] 40)).heap.size v1 (rdL xs)) := o1
  clear b1 o1 HRL
  cases hok : rdOk xs with
  | false =>
    have HN : Hid (rcBd xs = ⟨#[]⟩ ∧ rcMs xs = [] ∧ rcOK xs = false) := by
      have h1 : rcOK xs = false := by unfold rcOK; rw [HRD.out.1, hok]; rfl
      exact ⟨(rc_no h1).1, (rc_no h1).2.1, h1⟩
    clear O1 HSM HRD hok
    obtain ⟨m0, n0⟩ := blk_cell K0.out 0 (x := .string ⟨#[]⟩) rfl
    obtain ⟨m1, n1⟩ := blk_cell K0.out 1 (x := .slice none 0 0) rfl
    have AF : ((w1.setCell ⟨w.heap.size, 0, none⟩ (.string ⟨#[]⟩)).setCell ⟨w.heap.size, 1, none⟩ (.slice none 0 0)).heap[w.heap.size]? = some (.cells #[.string ⟨#[]⟩, .slice none 0 0] 40 (0, 0)) := (blk_set (blk_set K0.out 0 (.string ⟨#[]⟩)) 1 (.slice none 0 0))
    have GF : Hid (Below w.heap.size w ((w1.setCell ⟨w.heap.size, 0, none⟩ (.string ⟨#[]⟩)).setCell ⟨w.heap.size, 1, none⟩ (.slice none 0 0))) := (Below.setCell (Below.setCell KB.out (p := ⟨w.heap.size, 0, none⟩) (Nat.le_refl _) (.string ⟨#[]⟩)) (p := ⟨w.heap.size, 1, none⟩) (Nat.le_refl _) (.slice none 0 0))
    go_wp2_with fail
    generalize ((w1.setCell ⟨w.heap.size, 0, none⟩ (.string ⟨#[]⟩)).setCell ⟨w.heap.size, 1, none⟩ (.slice none 0 0)) = wf at AF GF ⊢
    have d0 := (blk_cell AF 0 (x := .string ⟨#[]⟩) rfl).1
    have d1 := (blk_cell AF 1 (x := .slice none 0 0) rfl).1
    exact bodyPost_ret (v := .tuple #[.agg #[.string ⟨#[]⟩, .slice none 0 0], .bool false]) (by simp [results, Try.results66, go_sem, d0, d1]) rfl ⟨_, ret_cb ⟨HN.out.1.symm, HN.out.2.2.symm⟩, by rw [HN.out.2.1]; exact OwnM.nil _ _, GF.out⟩
  | true =>
    have h0 : rdC xs = 0 := by rw [HRD.out.1, hok]; rfl
    have hRT := Tl.OwnS.row O1.out
    obtain ⟨a, cap, rfl, hh⟩ := hRT
    have HHH : Hid (rdL xs = [] ∨ ∃ b off, a = some ⟨b, off, none⟩ ∧ (rdL xs).length ≤ cap ∧ b < w1.heap.size ∧ ∀ i, i < (rdL xs).length → w1.cell? ⟨b, off + i, none⟩ = some (.string (tnth (rdL xs) i))) := hh
    clear hh O1 hok HRD
    obtain ⟨ts0, HT0⟩ : ∃ ts0, Hid (rdL xs = ts0) := ⟨_, rfl⟩
    rw [HT0.out] at HHH HSM ⊢
    cases hin : inB (ts0.length : Int) 1 8 with
    | false =>
      have HN : Hid (rcBd xs = ⟨#[]⟩ ∧ rcMs xs = [] ∧ rcOK xs = false) := by
        have h1 : rcOK xs = false := by
          unfold rcOK
          rw [HT0.out, h0]
          cases ts0 with
          | nil => rfl
          | cons t ts =>
            have : ¬ ts.length ≤ 7 := by
              unfold inB at hin
              simp only [decide_eq_false_iff_not] at hin
              simp at hin
              omega
            simp only
            have h2 : cfB (msOf ts) = false := by
              unfold cfB msOf
              rw [List.length_map, decide_eq_false this]
              rfl
            rw [h2]
            simp
        exact ⟨(rc_no h1).1, (rc_no h1).2.1, h1⟩
      clear HHH HSM h0
      go_upto_region 3 with (go_at_call 56; refine (in_any _ _ _ _).mono ?_; rintro e w2 ⟨rfl, rfl⟩; rw [hin])
      obtain ⟨m0, n0⟩ := blk_cell K0.out 0 (x := .string ⟨#[]⟩) rfl
      obtain ⟨m1, n1⟩ := blk_cell K0.out 1 (x := .slice none 0 0) rfl
      have AF : ((w1.setCell ⟨w.heap.size, 0, none⟩ (.string ⟨#[]⟩)).setCell ⟨w.heap.size, 1, none⟩ (.slice none 0 0)).heap[w.heap.size]? = some (.cells #[.string ⟨#[]⟩, .slice none 0 0] 40 (0, 0)) := (blk_set (blk_set K0.out 0 (.string ⟨#[]⟩)) 1 (.slice none 0 0))
      have GF : Hid (Below w.heap.size w ((w1.setCell ⟨w.heap.size, 0, none⟩ (.string ⟨#[]⟩)).setCell ⟨w.heap.size, 1, none⟩ (.slice none 0 0))) := (Below.setCell (Below.setCell KB.out (p := ⟨w.heap.size, 0, none⟩) (Nat.le_refl _) (.string ⟨#[]⟩)) (p := ⟨w.heap.size, 1, none⟩) (Nat.le_refl _) (.slice none 0 0))
      go_wp2_with fail
      generalize ((w1.setCell ⟨w.heap.size, 0, none⟩ (.string ⟨#[]⟩)).setCell ⟨w.heap.size, 1, none⟩ (.slice none 0 0)) = wf at AF GF ⊢
      have d0 := (blk_cell AF 0 (x := .string ⟨#[]⟩) rfl).1
      have d1 := (blk_cell AF 1 (x := .slice none 0 0) rfl).1
      exact bodyPost_ret (v := .tuple #[.agg #[.string ⟨#[]⟩, .slice none 0 0], .bool false]) (by simp [results, Try.results66, go_sem, d0, d1]) rfl ⟨_, ret_cb ⟨HN.out.1.symm, HN.out.2.2.symm⟩, by rw [HN.out.2.1]; exact OwnM.nil _ _, GF.out⟩
    | true =>
      obtain ⟨t0, ts, rfl⟩ : ∃ t0 ts, ts0 = t0 :: ts := by
        cases ts0 with
        | nil => simp [inB] at hin
        | cons t ts => exact ⟨t, ts, rfl⟩
      have hl7 : ts.length ≤ 7 := by
        unfold inB at hin
        simp only [decide_eq_true_eq] at hin
        simp at hin
        omega
      obtain ⟨b, off, rfl, hc, hbl, hcell⟩ := (HHH.out.resolve_left (by simp))
      have HCELL : Hid (∀ i, i < ts.length → w1.cell? ⟨b, off + (i + 1), none⟩ = some (.string (tnth ts i))) := fun i hi => by
        rw [hcell (i + 1) (by simp; omega)]
        rfl
      have c0 : w1.cell? ⟨b, off, none⟩ = some (.string t0) := hcell 0 (by simp)
      have HSZ : Hid (∀ i, i < ts.length → (tnth ts i).size ≤ 65535) := fun i hi => HSM.out _ (List.mem_cons_of_mem _ (List.mem_of_getElem? (at_some hi)))
      have HRC : Hid (rcOK xs = ts.all good ∧ (rcOK xs = true → rcBd xs = t0 ∧ rcMs xs = msOf ts)) := by
        have h1 : rcOK xs = (allOK ts && cfB (msOf ts)) := by unfold rcOK; rw [HT0.out, h0]; simp
        refine ⟨h1.trans (good_all hl7), fun h => ?_⟩
        rw [h1, Bool.and_eq_true] at h
        have := rc_yes h0 HT0.out h.1 h.2
        exact ⟨this.1, this.2.1⟩
      clear hcell HHH HSM h0 hc
      rw [List.length_cons] at hin ⊢
      have hin2 : inB ((ts.length : Int) + 1) 1 8 = true := by simpa using hin
      have k0l := (Array.getElem?_eq_some_iff.1 K0.out).1
      obtain ⟨W2, HW2⟩ : ∃ W2, Hid (W2 = (w1.alloc (.cells #[] 68)).alloc (.cells #[.string t0, .slice (some ⟨w1.heap.size, 0, none⟩) 0 0] 40)) := ⟨_, rfl⟩
      have e1 : (w1.alloc (.cells #[] 68)).heap.size = w1.heap.size + 1 := by simp
      have B2 : Hid (Below w1.heap.size w1 W2) := by show Below _ _ _; rw [HW2.out]; exact (bel_new w1 _).alloc (by rw [e1]; omega) _
      have X2 : Hid (W2.heap[w1.heap.size + 1]? = some (.cells #[.string t0, .slice (some ⟨w1.heap.size, 0, none⟩) 0 0] 40 (0, 0))) := by
        show _ = _
        have := heap_alloc_new (w1.alloc (.cells #[] 68)) (.cells #[.string t0, .slice (some ⟨w1.heap.size, 0, none⟩) 0 0] 40)
        rw [e1] at this
        rw [HW2.out]
        exact this
      have O2 : Hid (OwnM W2 w1.heap.size (.slice (some ⟨w1.heap.size, 0, none⟩) 0 0) []) := by show OwnM _ _ _ _; rw [HW2.out]; exact (OwnM.made w1 w1.heap.size (Nat.le_refl _)).alloc _
      go_upto_region 6 with (go_at_call 56; refine (in_any _ _ _ _).mono ?_; rintro e w2 ⟨rfl, rfl⟩; first | rw [hin2] | rw [hin])
      rw [← HW2.out]
      clear HW2 e1 c0 hin hin2
      go_loopw [7] (fun i wr => ∃ (k : Nat) (ap : Option Addr) (cp : Nat), k ≤ ts.length ∧ i = .int .i64 ((k : Int) + 1) ∧ Hid (wr.heap[w1.heap.size + 1]? = some (.cells #[.string t0, .slice ap k cp] 40 (0, 0)) ∧ OwnM wr w1.heap.size (.slice ap k cp) (msOf (ts.take k)) ∧ rcOK xs = (ts.drop k).all good ∧ Below w1.heap.size w1 wr)) (fun i _ => ts.length + 1 - (intOf i).toNat)
      case atStart => exact ⟨0, _, _, by omega, rfl, ⟨X2.out, O2.out, by rw [List.drop_zero]; exact HRC.out.1, B2.out⟩⟩
      case round =>
        clear X2 O2 B2
        obtain ⟨k, ap, cp, hk, rfl, HI⟩ := hrel
        have KWr : Hid (wr.heap[w.heap.size]? = some (.cells #[.string ⟨#[]⟩, .slice none 0 0] 40 (0, 0)) ∧ Below w.heap.size w wr) := ⟨(HI.out.2.2.2.block _ k0l).trans K0.out, KB.out.trans (HI.out.2.2.2.mono KB.out.size)⟩
        by_cases hlt : k < ts.length
        · have c1 : wr.cell? ⟨b, off + (k + 1), none⟩ = some (.string (tnth ts k)) := (HI.out.2.2.2.cell (p := ⟨b, off + (k + 1), none⟩) hbl).trans (HCELL.out k hlt)
          have hsz := HSZ.out k hlt
          have HGS : Hid (rcOK xs = (good (tnth ts k) && (ts.drop (k + 1)).all good)) := HI.out.2.2.1.trans (good_step hlt)
          have HMSP : Hid (msOf (ts.take (k + 1)) = msOf (ts.take k) ++ [mOf (tnth ts k)]) := ms_step hlt
          have HLN : Hid ((msOf (ts.take k)).length = k) := by show _ = _; unfold msOf; rw [List.length_map, List.length_take]; omega
          have hk1 : (k : Int) + 1 < (ts.length : Int) + 1 := by omega
          have HRM := l02ReadMessage_any (tnth ts k) wr (by omega)
          have HGD : Hid (good (tnth ts k) = (decide (cOf (tnth ts k) = 0) && ((mOf (tnth ts k)).kd == 2))) := rfl
          clear hsz
          generalize tnth ts k = t at c1 HGS HMSP HRM HGD
          go_wp2_with fail
          refine HRM.mono ?_
          rintro e w3 ⟨⟨m, rfl, hm⟩, b3⟩
          have HMM : Hid (cOf t = 0 → m = mOf t) := hm
          have x2l := (Array.getElem?_eq_some_iff.1 HI.out.1).1
          have kwl := (Array.getElem?_eq_some_iff.1 KWr.out.1).1
          have b4 := b3.alloc b3.size (.cells #[.int .i64 m.kd, .int .i64 m.vw, .int .i64 m.sq, .int .i64 m.fr, .string m.dg, .string m.bd, .string m.mc] 68)
          have H4 : Hid ((w3.alloc (.cells #[.int .i64 m.kd, .int .i64 m.vw, .int .i64 m.sq, .int .i64 m.fr, .string m.dg, .string m.bd, .string m.mc] 68)).heap[w1.heap.size + 1]? = some (.cells #[.string t0, .slice ap k cp] 40 (0, 0)) ∧ OwnM (w3.alloc (.cells #[.int .i64 m.kd, .int .i64 m.vw, .int .i64 m.sq, .int .i64 m.fr, .string m.dg, .string m.bd, .string m.mc] 68)) w1.heap.size (.slice ap k cp) (msOf (ts.take k)) ∧ Below w1.heap.size w1 (w3.alloc (.cells #[.int .i64 m.kd, .int .i64 m.vw, .int .i64 m.sq, .int .i64 m.fr, .string m.dg, .string m.bd, .string m.mc] 68)) ∧ (w3.alloc (.cells #[.int .i64 m.kd, .int .i64 m.vw, .int .i64 m.sq, .int .i64 m.fr, .string m.dg, .string m.bd, .string m.mc] 68)).heap[w.heap.size]? = some (.cells #[.string ⟨#[]⟩, .slice none 0 0] 40 (0, 0)) ∧ Below w.heap.size w (w3.alloc (.cells #[.int .i64 m.kd, .int .i64 m.vw, .int .i64 m.sq, .int .i64 m.fr, .string m.dg, .string m.bd, .string m.mc] 68)) ∧ (w3.alloc (.cells #[.int .i64 m.kd, .int .i64 m.vw, .int .i64 m.sq, .int .i64 m.fr, .string m.dg, .string m.bd, .string m.mc] 68)).heap[w3.heap.size]? = some (.cells #[.int .i64 m.kd, .int .i64 m.vw, .int .i64 m.sq, .int .i64 m.fr, .string m.dg, .string m.bd, .string m.mc] 68 (0, 0))) := ⟨(b4.block _ x2l).trans HI.out.1, HI.out.2.1.below b4, HI.out.2.2.2.trans (b4.mono HI.out.2.2.2.size), (b4.block _ kwl).trans KWr.out.1, KWr.out.2.trans (b4.mono KWr.out.2.size), heap_alloc_new w3 _⟩
          clear b3 b4 hm HRM c1 HI KWr x2l kwl
          unfold oneV
          go_upto_region 9 with fail
          obtain ⟨x3, HX3⟩ : ∃ x3, Hid (w3.heap.size = x3) := ⟨_, rfl⟩
          rw [HX3.out] at H4 ⊢
          generalize w3.alloc (.cells #[.int .i64 m.kd, .int .i64 m.vw, .int .i64 m.sq, .int .i64 m.fr, .string m.dg, .string m.bd, .string m.mc] 68) = w4 at H4 ⊢
          have y0 := (blk_cell H4.out.2.2.2.2.2 0 (x := .int .i64 m.kd) rfl).1
          have y1 := (blk_cell H4.out.2.2.2.2.2 1 (x := .int .i64 m.vw) rfl).1
          have y2 := (blk_cell H4.out.2.2.2.2.2 2 (x := .int .i64 m.sq) rfl).1
          have y3 := (blk_cell H4.out.2.2.2.2.2 3 (x := .int .i64 m.fr) rfl).1
          have y4 := (blk_cell H4.out.2.2.2.2.2 4 (x := .string m.dg) rfl).1
          have y5 := (blk_cell H4.out.2.2.2.2.2 5 (x := .string m.bd) rfl).1
          have y6 := (blk_cell H4.out.2.2.2.2.2 6 (x := .string m.mc) rfl).1
          by_cases hc0 : cOf t = 0
          · have hmm := HMM.out hc0
            rw [← hmm] at HMSP HGD
            rw [decide_eq_true hc0, Bool.true_and] at HGD
            rw [decide_eq_true hc0]
            by_cases hkd : m.kd = 2
            · have hk2 : (m.kd != 2) = false := by simp [hkd]
              have HA : Hid (rcOK xs = (ts.drop (k + 1)).all good) := by show _ = _; rw [HGS.out, HGD.out, hkd]; rfl
              obtain ⟨z1, _⟩ := blk_cell H4.out.1 1 (x := .slice ap k cp) rfl
              have hne := own_ne H4.out.2.1 H4.out.1
              have hx6l := (Array.getElem?_eq_some_iff.1 H4.out.1).1
              clear hkd hmm HMM HGS HGD
              go_wp2_with (at_builtin; go_must (refine list_msg (by rfl) _ _ 38 (by rfl) i0 Try.underlying38 hi0 hz0 hz1 hz2 w1.heap.size w1 w4 _ _ m (by rfl) H4.out.2.1 H4.out.2.2.1 H4.out.2.2.1.size _ (by rfl) (by rfl) (by have := HLN.out; omega) ?_; intro v5 w5 o5 b5 k5; obtain ⟨s5, t5⟩ := blk_cell ((k5 _ hx6l hne).1.trans H4.out.1) 1 (x := .slice ap k cp) rfl; have hne5 := (k5 _ hx6l hne).2; obtain ⟨a5, cap5, rfl⟩ := RowG.slice (OwnM.row o5)))
              have hL5 : (msOf (ts.take k) ++ [m]).length = k + 1 := by rw [List.length_append, HLN.out]; rfl
              rw [hL5] at o5 hne5
              rw [HLN.out]
              have X5 : Hid (w5.heap[w1.heap.size + 1]? = some (.cells #[.string t0, .slice ap k cp] 40 (0, 0))) := (k5 _ hx6l hne).1.trans H4.out.1
              refine ⟨⟨k + 1, a5, cap5, by omega, by go_num, ⟨blk_set X5.out 1 _, ?_, HA.out, ?_⟩⟩, by simp [intOf]; omega⟩
              · rw [HMSP.out]
                exact o5.kept fun g hg => blk_far (fun e => hne5 (by rw [hg, e])) 1 _
              · exact Below.setCell b5 (p := ⟨w1.heap.size + 1, 1, none⟩) (by show _ ≤ w1.heap.size + 1; omega) _
            · have hk2 : (m.kd != 2) = true := by simp [hkd]
              have HN : Hid (rcBd xs = ⟨#[]⟩ ∧ rcMs xs = [] ∧ rcOK xs = false) := by
                have h1 : rcOK xs = false := by rw [HGS.out, HGD.out]; simp [hkd]
                exact ⟨(rc_no h1).1, (rc_no h1).2.1, h1⟩
              clear hkd hmm HMM HGS HGD
              obtain ⟨m0, n0⟩ := blk_cell H4.out.2.2.2.1 0 (x := .string ⟨#[]⟩) rfl
              obtain ⟨m1, n1⟩ := blk_cell H4.out.2.2.2.1 1 (x := .slice none 0 0) rfl
              have AF : ((w4.setCell ⟨w.heap.size, 0, none⟩ (.string ⟨#[]⟩)).setCell ⟨w.heap.size, 1, none⟩ (.slice none 0 0)).heap[w.heap.size]? = some (.cells #[.string ⟨#[]⟩, .slice none 0 0] 40 (0, 0)) := (blk_set (blk_set H4.out.2.2.2.1 0 (.string ⟨#[]⟩)) 1 (.slice none 0 0))
              have GF : Hid (Below w.heap.size w ((w4.setCell ⟨w.heap.size, 0, none⟩ (.string ⟨#[]⟩)).setCell ⟨w.heap.size, 1, none⟩ (.slice none 0 0))) := (Below.setCell (Below.setCell H4.out.2.2.2.2.1 (p := ⟨w.heap.size, 0, none⟩) (Nat.le_refl _) (.string ⟨#[]⟩)) (p := ⟨w.heap.size, 1, none⟩) (Nat.le_refl _) (.slice none 0 0))
              go_wp2_with fail
              generalize ((w4.setCell ⟨w.heap.size, 0, none⟩ (.string ⟨#[]⟩)).setCell ⟨w.heap.size, 1, none⟩ (.slice none 0 0)) = wf at AF GF ⊢
              have d0 := (blk_cell AF 0 (x := .string ⟨#[]⟩) rfl).1
              have d1 := (blk_cell AF 1 (x := .slice none 0 0) rfl).1
              exact bodyPost_ret (v := .tuple #[.agg #[.string ⟨#[]⟩, .slice none 0 0], .bool false]) (by simp [results, Try.results66, go_sem, d0, d1]) rfl ⟨_, ret_cb ⟨HN.out.1.symm, HN.out.2.2.symm⟩, by rw [HN.out.2.1]; exact OwnM.nil _ _, GF.out⟩
          · rw [decide_eq_false hc0, Bool.false_and] at HGD
            rw [decide_eq_false hc0]
            have HN : Hid (rcBd xs = ⟨#[]⟩ ∧ rcMs xs = [] ∧ rcOK xs = false) := by
              have h1 : rcOK xs = false := by rw [HGS.out, HGD.out]; rfl
              exact ⟨(rc_no h1).1, (rc_no h1).2.1, h1⟩
            clear HMM HGS HGD
            obtain ⟨m0, n0⟩ := blk_cell H4.out.2.2.2.1 0 (x := .string ⟨#[]⟩) rfl
            obtain ⟨m1, n1⟩ := blk_cell H4.out.2.2.2.1 1 (x := .slice none 0 0) rfl
            have AF : ((w4.setCell ⟨w.heap.size, 0, none⟩ (.string ⟨#[]⟩)).setCell ⟨w.heap.size, 1, none⟩ (.slice none 0 0)).heap[w.heap.size]? = some (.cells #[.string ⟨#[]⟩, .slice none 0 0] 40 (0, 0)) := (blk_set (blk_set H4.out.2.2.2.1 0 (.string ⟨#[]⟩)) 1 (.slice none 0 0))
            have GF : Hid (Below w.heap.size w ((w4.setCell ⟨w.heap.size, 0, none⟩ (.string ⟨#[]⟩)).setCell ⟨w.heap.size, 1, none⟩ (.slice none 0 0))) := (Below.setCell (Below.setCell H4.out.2.2.2.2.1 (p := ⟨w.heap.size, 0, none⟩) (Nat.le_refl _) (.string ⟨#[]⟩)) (p := ⟨w.heap.size, 1, none⟩) (Nat.le_refl _) (.slice none 0 0))
            go_wp2_with fail
            generalize ((w4.setCell ⟨w.heap.size, 0, none⟩ (.string ⟨#[]⟩)).setCell ⟨w.heap.size, 1, none⟩ (.slice none 0 0)) = wf at AF GF ⊢
            have d0 := (blk_cell AF 0 (x := .string ⟨#[]⟩) rfl).1
            have d1 := (blk_cell AF 1 (x := .slice none 0 0) rfl).1
            exact bodyPost_ret (v := .tuple #[.agg #[.string ⟨#[]⟩, .slice none 0 0], .bool false]) (by simp [results, Try.results66, go_sem, d0, d1]) rfl ⟨_, ret_cb ⟨HN.out.1.symm, HN.out.2.2.symm⟩, by rw [HN.out.2.1]; exact OwnM.nil _ _, GF.out⟩
        · obtain rfl : k = ts.length := by omega
          have h1 : rcOK xs = true := by rw [HI.out.2.2.1, List.drop_length]; rfl
          have HN : Hid (rcBd xs = t0 ∧ rcMs xs = msOf ts ∧ rcOK xs = true) := ⟨(HRC.out.2 h1).1, (HRC.out.2 h1).2, h1⟩
          have OW : Hid (OwnM wr w1.heap.size (.slice ap ts.length cp) (msOf ts)) := by have := HI.out.2.1; rw [List.take_length] at this; exact this
          have HAW : Hid (∀ g, (Value.slice ap ts.length cp).ownBlock = some g → g ≠ w.heap.size) := fun g hg e => own_ne OW.out KWr.out.1 (by rw [hg, e])
          clear h1
          have p0 := (blk_cell HI.out.1 0 (x := .string t0) rfl).1
          have p1 := (blk_cell HI.out.1 1 (x := .slice ap ts.length cp) rfl).1
          obtain ⟨m0, n0⟩ := blk_cell KWr.out.1 0 (x := .string ⟨#[]⟩) rfl
          obtain ⟨m1, n1⟩ := blk_cell KWr.out.1 1 (x := .slice none 0 0) rfl
          have AF : ((wr.setCell ⟨w.heap.size, 0, none⟩ (.string t0)).setCell ⟨w.heap.size, 1, none⟩ (.slice ap ts.length cp)).heap[w.heap.size]? = some (.cells #[.string t0, .slice ap ts.length cp] 40 (0, 0)) := (blk_set (blk_set KWr.out.1 0 (.string t0)) 1 (.slice ap ts.length cp))
          have GF : Hid (Below w.heap.size w ((wr.setCell ⟨w.heap.size, 0, none⟩ (.string t0)).setCell ⟨w.heap.size, 1, none⟩ (.slice ap ts.length cp))) := (Below.setCell (Below.setCell KWr.out.2 (p := ⟨w.heap.size, 0, none⟩) (Nat.le_refl _) (.string t0)) (p := ⟨w.heap.size, 1, none⟩) (Nat.le_refl _) (.slice ap ts.length cp))
          have OF : Hid (OwnM ((wr.setCell ⟨w.heap.size, 0, none⟩ (.string t0)).setCell ⟨w.heap.size, 1, none⟩ (.slice ap ts.length cp)) w.heap.size (.slice ap ts.length cp) (msOf ts)) := (OW.out.mono KB.out.size).kept fun g hg => (blk_far (HAW.out g hg) 1 _).trans (blk_far (HAW.out g hg) 0 _)
          go_wp2_with fail
          generalize ((wr.setCell ⟨w.heap.size, 0, none⟩ (.string t0)).setCell ⟨w.heap.size, 1, none⟩ (.slice ap ts.length cp)) = wf at AF GF OF ⊢
          have d0 := (blk_cell AF 0 (x := .string t0) rfl).1
          have d1 := (blk_cell AF 1 (x := .slice ap ts.length cp) rfl).1
          exact bodyPost_ret (v := .tuple #[.agg #[.string t0, .slice ap ts.length cp], .bool true]) (by simp [results, Try.results66, go_sem, d0, d1]) rfl ⟨_, ret_cb ⟨HN.out.1.symm, HN.out.2.2.symm⟩, by rw [HN.out.2.1]; exact OF.out, GF.out⟩
set_option maxRecDepth 100000 in
set_option maxHeartbeats 1600000 in
theorem specReadCert_any (v : Value) (xs : List Int) (w : World) (h : RowB w v xs) (_hl : xs.length ≤ 1048576) :
    Calls Try.prog 28 #[v] w fun e w' => ∃ vp, e = .returned (.tuple #[crtV (rcBd xs) vp, .int .i64 (rcCode xs)]) ∧ OwnM w' w.heap.size vp (rcMs xs) ∧ Below w.heap.size w w' := by
  have hr : ∀ x ∈ xs, 0 ≤ x ∧ x ≤ 255 := by obtain ⟨_, _, _, _, h⟩ := h; exact h
  have hu := RowU.of h
  obtain ⟨a, cap, rfl, _, _⟩ := h
  by_cases hb : 65536 < xs.length
  · have hb' : (65536 : Int) < (xs.length : Int) := by omega
    have HN : Hid (rcBd xs = ⟨#[]⟩ ∧ rcMs xs = [] ∧ rcCode xs = 2) := by
      have h2 : rdC xs = 2 := by unfold Rl.rdC Rl.rlC; rw [decide_eq_true hb]; rfl
      have h1 := rc_no (xs := xs) (by unfold rcOK; rw [h2]; rfl)
      rw [h2] at h1
      exact h1
    have HB0 : Hid (Below w.heap.size w (w.alloc (.cells #[.string ⟨#[]⟩, .slice none 0 0] 40))) := bel_new _ _
    clear hu hr
    go_enter Try.func28, Try.ntmps28
    go_wp2_with fail
    exact bodyPost_ret (v := .tuple #[.agg #[.string ⟨#[]⟩, .slice none 0 0], .int .i64 2]) (by simp [results, Try.results28, go_sem]) rfl ⟨_, ret_cc ⟨HN.out.1.symm, HN.out.2.2.symm⟩, by rw [HN.out.2.1]; exact OwnM.nil _ _, HB0.out⟩
  have hb' : (xs.length : Int) ≤ 65536 := by omega
  have hcv := run_convert_row (P := Try.prog) (w.alloc (.cells #[.string ⟨#[]⟩, .slice none 0 0] 40)) w.heap.size 27 5 9 Try.underlying27 Try.underlying5 Try.underlying9 _ xs (hu.kept (fun k hk => Below.heap_alloc w _ k hk))
  have HL6 := l06Read_any (strOfNums xs) (w.alloc (.cells #[.string ⟨#[]⟩, .slice none 0 0] 40)) (by rw [strOfNums_size]; omega)
  rw [bys_str xs hr] at HL6
  have HCD : Hid (rcCode xs = if rcOK xs then 0 else 3) := by
    show _ = _
    unfold rcCode
    cases h : rcOK xs with
    | true => rfl
    | false =>
      have := (rd_short (xs := xs) (by omega)).1
      cases h2 : rdOk xs with
      | true => rw [h2] at this; rw [this]; rfl
      | false => rw [h2] at this; rw [this]; rfl
  clear hu hr hb
  generalize strOfNums xs = s at hcv HL6
  go_enter Try.func28, Try.ntmps28
  go_wp2_with fail
  refine HL6.mono ?_
  rintro e w1 ⟨v1, rfl, o1, b1⟩
  have K0 : w1.heap[w.heap.size]? = some (.cells #[.string ⟨#[]⟩, .slice none 0 0] 40 (0, 0)) := (b1.block w.heap.size (by simp)).trans (heap_alloc_new w _)
  have KB : Below w.heap.size w w1 := (bel_new w _).trans (b1.mono (by simp))
  have k0l := (Array.getElem?_eq_some_iff.1 K0).1
  obtain ⟨a1, cap1, rfl⟩ := RowG.slice (OwnM.row o1)
  obtain ⟨bd, HBD⟩ : ∃ bd, Hid (rcBd xs = bd) := ⟨_, rfl⟩
  obtain ⟨mm, HMM⟩ : ∃ mm, Hid (rcMs xs = mm) := ⟨_, rfl⟩
  rw [HMM.out] at o1 ⊢
  rw [HBD.out]
  unfold crtV
  have K02 : Hid ((w1.alloc (.cells #[.string bd, .slice a1 mm.length cap1] 40)).heap[w.heap.size]? = some (.cells #[.string ⟨#[]⟩, .slice none 0 0] 40 (0, 0))) := (Below.heap_alloc w1 _ _ k0l).trans K0
  have X2 : Hid ((w1.alloc (.cells #[.string bd, .slice a1 mm.length cap1] 40)).heap[w1.heap.size]? = some (.cells #[.string bd, .slice a1 mm.length cap1] 40 (0, 0))) := heap_alloc_new w1 _
  have KB2 : Hid (Below w.heap.size w (w1.alloc (.cells #[.string bd, .slice a1 mm.length cap1] 40))) := KB.alloc KB.size _
  have O2 : Hid (OwnM (w1.alloc (.cells #[.string bd, .slice a1 mm.length cap1] 40)) w.heap.size (.slice a1 mm.length cap1) mm) := (o1.mono (by simp)).alloc _
  clear o1 b1 K0 KB k0l HL6 hcv
  go_upto_region 4 with fail
  obtain ⟨x1, HX1⟩ : ∃ x1, Hid (w1.heap.size = x1) := ⟨_, rfl⟩
  rw [HX1.out] at X2 ⊢
  generalize w1.alloc (.cells #[.string bd, .slice a1 mm.length cap1] 40) = w2 at K02 X2 KB2 O2 ⊢
  cases hok : rcOK xs with
  | false =>
    rw [hok] at HCD
    have HN : Hid (rcBd xs = ⟨#[]⟩ ∧ rcMs xs = [] ∧ rcCode xs = 3) := ⟨(rc_no hok).1, (rc_no hok).2.1, HCD.out⟩
    clear X2 O2 HCD
    obtain ⟨m0, n0⟩ := blk_cell K02.out 0 (x := .string ⟨#[]⟩) rfl
    obtain ⟨m1, n1⟩ := blk_cell K02.out 1 (x := .slice none 0 0) rfl
    have AF : ((w2.setCell ⟨w.heap.size, 0, none⟩ (.string ⟨#[]⟩)).setCell ⟨w.heap.size, 1, none⟩ (.slice none 0 0)).heap[w.heap.size]? = some (.cells #[.string ⟨#[]⟩, .slice none 0 0] 40 (0, 0)) := (blk_set (blk_set K02.out 0 (.string ⟨#[]⟩)) 1 (.slice none 0 0))
    have GF : Hid (Below w.heap.size w ((w2.setCell ⟨w.heap.size, 0, none⟩ (.string ⟨#[]⟩)).setCell ⟨w.heap.size, 1, none⟩ (.slice none 0 0))) := (Below.setCell (Below.setCell KB2.out (p := ⟨w.heap.size, 0, none⟩) (Nat.le_refl _) (.string ⟨#[]⟩)) (p := ⟨w.heap.size, 1, none⟩) (Nat.le_refl _) (.slice none 0 0))
    go_wp2_with fail
    generalize ((w2.setCell ⟨w.heap.size, 0, none⟩ (.string ⟨#[]⟩)).setCell ⟨w.heap.size, 1, none⟩ (.slice none 0 0)) = wf at AF GF ⊢
    have d0 := (blk_cell AF 0 (x := .string ⟨#[]⟩) rfl).1
    have d1 := (blk_cell AF 1 (x := .slice none 0 0) rfl).1
    exact bodyPost_ret (v := .tuple #[.agg #[.string ⟨#[]⟩, .slice none 0 0], .int .i64 3]) (by simp [results, Try.results28, go_sem, d0, d1]) rfl ⟨_, ret_cc ⟨HN.out.1.symm, HN.out.2.2.symm⟩, by rw [HN.out.2.1]; exact OwnM.nil _ _, GF.out⟩
  | true =>
    rw [hok] at HCD
    have HN : Hid (rcBd xs = bd ∧ rcMs xs = mm ∧ rcCode xs = 0) := ⟨HBD.out, HMM.out, HCD.out⟩
    have HAW : Hid (∀ g, (Value.slice a1 mm.length cap1).ownBlock = some g → g ≠ w.heap.size) := fun g hg e => own_ne O2.out K02.out (by rw [hg, e])
    clear HCD
    have p0 := (blk_cell X2.out 0 (x := .string bd) rfl).1
    have p1 := (blk_cell X2.out 1 (x := .slice a1 mm.length cap1) rfl).1
    obtain ⟨m0, n0⟩ := blk_cell K02.out 0 (x := .string ⟨#[]⟩) rfl
    obtain ⟨m1, n1⟩ := blk_cell K02.out 1 (x := .slice none 0 0) rfl
    have AF : ((w2.setCell ⟨w.heap.size, 0, none⟩ (.string bd)).setCell ⟨w.heap.size, 1, none⟩ (.slice a1 mm.length cap1)).heap[w.heap.size]? = some (.cells #[.string bd, .slice a1 mm.length cap1] 40 (0, 0)) := (blk_set (blk_set K02.out 0 (.string bd)) 1 (.slice a1 mm.length cap1))
    have GF : Hid (Below w.heap.size w ((w2.setCell ⟨w.heap.size, 0, none⟩ (.string bd)).setCell ⟨w.heap.size, 1, none⟩ (.slice a1 mm.length cap1))) := (Below.setCell (Below.setCell KB2.out (p := ⟨w.heap.size, 0, none⟩) (Nat.le_refl _) (.string bd)) (p := ⟨w.heap.size, 1, none⟩) (Nat.le_refl _) (.slice a1 mm.length cap1))
    have OF : Hid (OwnM ((w2.setCell ⟨w.heap.size, 0, none⟩ (.string bd)).setCell ⟨w.heap.size, 1, none⟩ (.slice a1 mm.length cap1)) w.heap.size (.slice a1 mm.length cap1) mm) := O2.out.kept fun g hg => (blk_far (HAW.out g hg) 1 _).trans (blk_far (HAW.out g hg) 0 _)
    go_wp2_with fail
    generalize ((w2.setCell ⟨w.heap.size, 0, none⟩ (.string bd)).setCell ⟨w.heap.size, 1, none⟩ (.slice a1 mm.length cap1)) = wf at AF GF OF ⊢
    have d0 := (blk_cell AF 0 (x := .string bd) rfl).1
    have d1 := (blk_cell AF 1 (x := .slice a1 mm.length cap1) rfl).1
    exact bodyPost_ret (v := .tuple #[.agg #[.string bd, .slice a1 mm.length cap1], .int .i64 0]) (by simp [results, Try.results28, go_sem, d0, d1]) rfl ⟨_, ret_cc ⟨HN.out.1.symm, HN.out.2.2.symm⟩, by rw [HN.out.2.1]; exact OF.out, GF.out⟩
end Go.Proofs.Ytpljjchjdejcfaa.Rc
