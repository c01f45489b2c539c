/- Certificates' bytes, of the program and of the specification. -/
import Derived.Test.YtpljjchjdejcfaaCb
namespace Go.Proofs.Ytpljjchjdejcfaa.Cb
open Go.RowKit Go.Proofs.Ytpljjchjdejcfaa.Sl Go.Proofs.Ytpljjchjdejcfaa.By Go.Proofs.Ytpljjchjdejcfaa.Ap Go.Proofs.Ytpljjchjdejcfaa.Rq Go.Proofs.Ytpljjchjdejcfaa.Ms Go.Proofs.Ytpljjchjdejcfaa.Mp Go.Proofs.Ytpljjchjdejcfaa.Rp Go.Proofs.Ytpljjchjdejcfaa.Lb Go.Proofs.Ytpljjchjdejcfaa.Gm
open Go.Proofs.Ytpljjchjdejcfaa.Tx (RowT tnth)
open Go.Proofs.Ytpljjchjdejcfaa.Tl (OwnS)
open Go.Proofs.Ytpljjchjdejcfaa.Rg (RowG RowG.slice RowG.at lt_at mem_at blk_cell bel_new)

theorem info_s : (Try.prog.info? 9).map (fun i => (i.zero, i.size, i.bytes)) = some (some (.string ⟨#[]⟩), 1, 16) := by kernel_rfl
theorem tnth_cases (bd : ByteArray) (ms : List Mg) (j : Nat) (hj : j < (cTs bd ms).length) : tnth (cTs bd ms) j = bd ∨ ∃ x ∈ ms, tnth (cTs bd ms) j = mTx x := by
  unfold tnth cTs at *
  cases j with
  | zero => exact .inl rfl
  | succ k =>
    have hk : k < ms.length := by simpa using hj
    refine .inr ⟨ms[k], List.getElem_mem hk, ?_⟩
    rw [List.getD_cons_succ, List.getD_eq_getElem?_getD, List.getElem?_map, List.getElem?_eq_getElem hk]
    rfl
theorem cTs_len (bd : ByteArray) (ms : List Mg) : (cTs bd ms).length = ms.length + 1 := by unfold cTs; simp
theorem lenTo_le (bd : ByteArray) (ms : List Mg) (h : cfB ms = true) (hb : bd.size ≤ 20000) : ∀ k, k ≤ (cTs bd ms).length → lenTo (cTs bd ms) k ≤ 1 + 20002 * k ∧ (1 ≤ k → lenTo (cTs bd ms) k ≤ 1 + 20002 + 49 * (k - 1))
  | 0, _ => ⟨by unfold lenTo; omega, fun h => by omega⟩
  | k + 1, hk => by
    have ih := lenTo_le bd ms h hb k (by omega)
    have hs : (tnth (cTs bd ms) k).size ≤ 20000 ∧ (1 ≤ k → (tnth (cTs bd ms) k).size = 47) := by
      cases k with
      | zero => exact ⟨hb, fun h => by omega⟩
      | succ q =>
        have hq : q < ms.length := by have := cTs_len bd ms; omega
        have e : tnth (cTs bd ms) (q + 1) = mTx ms[q] := by
          unfold tnth cTs
          rw [List.getD_cons_succ, List.getD_eq_getElem?_getD, List.getElem?_map, List.getElem?_eq_getElem hq]
          rfl
        have := (ok_size ((cf_all h).2 _ (List.getElem_mem hq))).1
        rw [e]
        omega
    unfold lenTo
    refine ⟨by omega, fun _ => ?_⟩
    by_cases hk0 : k = 0
    · subst hk0
      have : lenTo (cTs bd ms) 0 = 1 := rfl
      omega
    · have h1 := ih.2 (by omega)
      have h2 := hs.2 (by omega)
      omega
theorem lenTo_ok (bd : ByteArray) (ms : List Mg) (h : cfB ms = true) (hb : bd.size ≤ 20000) (k : Nat) (hk : k ≤ (cTs bd ms).length) : lenTo (cTs bd ms) k ≤ 65536 := by
  have h1 := lenTo_le bd ms h hb k hk
  have h2 := (cf_all h).1
  have h3 := cTs_len bd ms
  by_cases hk0 : k = 0
  · omega
  · have := h1.2 (by omega)
    omega
theorem c_good (bd : ByteArray) (ms : List Mg) (h : cfB ms = true) (hb : bd.size ≤ 20000) : cCode bd ms = 0 ∧ cOut bd ms = listTo (cTs bd ms) (cTs bd ms).length := by
  have h2 := (cf_all h).1
  have h3 := cTs_len bd ms
  have := lb_good (cTs bd ms) (by omega) (fun j hj => by
    unfold bad
    rw [Bool.or_eq_false_iff, decide_eq_false_iff_not, decide_eq_false_iff_not]
    refine ⟨?_, by have := lenTo_ok bd ms h hb (j + 1) (by omega); omega⟩
    rcases tnth_cases bd ms j hj with e | ⟨x, hx, e⟩
    · rw [e]; omega
    · rw [e, (ok_size ((cf_all h).2 x hx)).1]; omega)
  unfold cCode cOut
  rw [h]
  exact this
theorem c_big (bd : ByteArray) (ms : List Mg) (hb : 20000 < bd.size) : cCode bd ms = 1 ∧ cOut bd ms = [] := by
  unfold cCode cOut
  cases h : cfB ms with
  | false => exact ⟨rfl, rfl⟩
  | true =>
    have h2 := (cf_all h).1
    have h3 := cTs_len bd ms
    have e0 : tnth (cTs bd ms) 0 = bd := rfl
    obtain ⟨h4, h5⟩ := lb_bad (cTs bd ms) 0 (by omega) (by omega) (fun j hj => by omega) (by unfold bad; rw [e0, decide_eq_true hb]; rfl)
    refine ⟨?_, h5⟩
    show lbCode (cTs bd ms) = 1
    rw [h4]
    unfold cd
    rw [e0, if_pos hb]
theorem c_no (bd : ByteArray) (ms : List Mg) (h : cfB ms = false) : cCode bd ms = 1 ∧ cOut bd ms = [] := by
  unfold cCode cOut; rw [h]; exact ⟨rfl, rfl⟩
set_option maxRecDepth 100000 in
set_option maxHeartbeats 1600000 in
theorem implCertBytes_any (bd : ByteArray) (vr : Value) (ms : List Mg) (w : World) (h : Row w vr ms) (hl : ms.length ≤ 1048576) (hb : bd.size ≤ 1048576) :
    Calls Try.prog 22 #[crtV bd vr] w fun e w' => ∃ v, e = .returned (.tuple #[v, .int .i64 (cCode bd ms)]) ∧ OwnB 5 w' w.heap.size v (cOut bd ms) ∧ Below w.heap.size w w' := by
  obtain ⟨i0, hi0, hz0, hz1, hz2⟩ := info_parts info_s
  have HR : Hid (Row w vr ms) := h
  obtain ⟨a, cap, rfl⟩ := RowG.slice h
  clear h
  have C := certFormed_any bd _ ms (w.alloc (.cells #[.string bd, .slice a ms.length cap] 40)) (HR.out.below (bel_new _ _)) hl
  unfold crtV at C ⊢
  go_enter Try.func22, Try.ntmps22
  go_wp2_with fail
  refine C.mono ?_
  rintro e w1 ⟨rfl, b1⟩
  have h1 := (b1.block w.heap.size (by simp)).trans (heap_alloc_new w _)
  have q0 := (blk_cell h1 0 (x := .string bd) rfl).1
  have q1 := (blk_cell h1 1 (x := .slice a ms.length cap) rfl).1
  have HB1 : Hid (Below w.heap.size w w1) := (bel_new w _).trans (b1.mono (by simp))
  clear C b1 h1
  cases hq : cfB ms with
  | false =>
    have HE : Hid (1 = cCode bd ms ∧ cOut bd ms = []) := ⟨(c_no bd ms hq).1.symm, (c_no bd ms hq).2⟩
    go_wp2_with fail
    go_ret2
    exact ⟨_, ret_tup HE.out.1, by rw [HE.out.2]; exact own_nil _ _ _, HB1.out⟩
  | true =>
    have HE : Hid (cCode bd ms = lbCode (cTs bd ms) ∧ cOut bd ms = lbOut (cTs bd ms)) := ⟨by unfold cCode; rw [hq]; rfl, by unfold cOut; rw [hq]; rfl⟩
    have h7 := (cf_all hq).1
    have HM : Hid (∀ x ∈ ms, mOK x = true) := (cf_all hq).2
    have HX : Hid (∀ W, Below w1.heap.size w1 W → W.cell? ⟨w.heap.size, 1, none⟩ = some (.slice a ms.length cap) ∧ Row W (.slice a ms.length cap) ms) := fun W hW => ⟨(hW.cell (p := ⟨w.heap.size, 1, none⟩) (World.block_lt_of_cell? _ _ q1)).trans q1, (HR.out.below HB1.out).below hW⟩
    have O1 : Hid (OwnS (w1.alloc (.cells #[.string bd] 9)) w1.heap.size (.slice (some ⟨w1.heap.size, 0, none⟩) 1 1) (cTs bd (ms.take 0)) ∧ Below w1.heap.size w1 (w1.alloc (.cells #[.string bd] 9))) := ⟨own_txt1 w1 w1.heap.size bd (Nat.le_refl _), bel_new _ _⟩
    have q1' := (HX.out _ O1.out.2).1
    clear hq
    go_wp2_with fail
    clear q0 q1 q1'
    go_loopw [4, 18] (fun b i wr => ∃ m : Nat, m ≤ ms.length ∧ i = .int .i64 m ∧ Hid (OwnS wr w1.heap.size b (cTs bd (ms.take m)) ∧ Below w1.heap.size w1 wr)) (fun _ i _ => ms.length - (intOf i).toNat)
    case atStart => exact ⟨0, by omega, rfl, O1⟩
    case round =>
      clear O1
      obtain ⟨m, hm, rfl, HO⟩ := hrel
      obtain ⟨v0, rfl⟩ : ∃ v0, v0 = u4 := ⟨_, rfl⟩
      by_cases hlt : m < ms.length
      · obtain ⟨x, hx⟩ := Rg.get_at hlt
        obtain ⟨b, off, rfl, hbl, c0, c1, c2, c3, c4, c5, c6⟩ := RowG.at (HX.out wr HO.out.2).2 rfl hx
        have HT : Hid (cTs bd (ms.take (m + 1)) = cTs bd (ms.take m) ++ [mTx x]) := cTs_step hx
        have HMX := (ok_size (HM.out x (mem_at hx))).2
        have HMB := implMessageBytes_any x.kd x.vw x.sq x.fr x.dg x.bd x.mc (wr.alloc (.cells #[.int .i64 x.kd, .int .i64 x.vw, .int .i64 x.sq, .int .i64 x.fr, .string x.dg, .string x.bd, .string x.mc] 68))
        have e1 : msgCode x.kd x.vw x.sq x.fr x.dg x.bd x.mc = 0 := by unfold msgCode; rw [show msgB x.kd x.vw x.sq x.fr x.dg x.bd x.mc = true from HMX]; rfl
        have e2 : msgOut x.kd x.vw x.sq x.fr x.dg x.bd x.mc = msgBs x.kd x.vw x.sq x.fr x.dg x.bd x.mc := by unfold msgOut; rw [show msgB x.kd x.vw x.sq x.fr x.dg x.bd x.mc = true from HMX]; rfl
        rw [e1, e2] at HMB
        unfold msgV at HMB
        have HLN : Hid ((cTs bd (ms.take m)).length ≤ 8) := by show _ ≤ _; rw [cTs_len, List.length_take]; omega
        have HTX : Hid (strOfNums (msgBs x.kd x.vw x.sq x.fr x.dg x.bd x.mc) = mTx x) := rfl
        clear hx HMX e1 e2
        go_wp2_with fail
        clear c0 c1 c2 c3 c4 c5 c6
        refine HMB.mono ?_
        rintro e w3 ⟨v3, rfl, o3, b3⟩
        have hcv := By.run_convert_own (P := Try.prog) w3 _ 27 5 9 Try.underlying27 Try.underlying5 Try.underlying9 v3 _ o3
        rw [HTX.out] at hcv
        have b4 := one_kept b3
        have O3 : Hid (OwnS w3 w1.heap.size v0 (cTs bd (ms.take m)) ∧ Below w1.heap.size w1 w3) := ⟨Rl.OwnS.below HO.out.1 b4, HO.out.2.trans (b4.mono HO.out.2.size)⟩
        clear o3 b3 b4 HMB HO
        go_wp2_with (at_builtin; go_must (refine list_txt (by rfl) _ _ 86 (by rfl) i0 Try.underlying86 hi0 hz0 hz1 hz2 w1.heap.size w1 w3 _ _ (mTx x) (by rfl) O3.out.1 O3.out.2 O3.out.2.size (by rfl) (by have := HLN.out; omega) ?_; intro v5 w5 o5 b5))
        exact ⟨⟨m + 1, by omega, by go_num, ⟨by rw [HT.out]; exact o5, b5⟩⟩, by simp [intOf]; omega⟩
      · obtain rfl : m = ms.length := by omega
        rw [List.take_length] at HO
        have HSZ : Hid (∀ j, j < (cTs bd ms).length → (tnth (cTs bd ms) j).size ≤ 1048576) := fun j hj => by
          rcases tnth_cases bd ms j hj with e | ⟨x, hx, e⟩
          · rw [e]; omega
          · rw [e, (ok_size (HM.out x hx)).1]; omega
        have HLB := implListBytes_any v0 (cTs bd ms) wr (Tl.OwnS.row HO.out.1) (by rw [cTs_len]; omega) HSZ.out
        clear HX
        go_wp2_with fail
        refine HLB.mono ?_
        rintro e w3 ⟨v3, rfl, o3, b3⟩
        have HF : Hid (OwnB 5 w3 wr.heap.size v3 (lbOut (cTs bd ms)) ∧ Below w.heap.size w w3 ∧ w.heap.size ≤ wr.heap.size) := ⟨o3, (HB1.out.trans (HO.out.2.mono HB1.out.size)).trans (b3.mono (Nat.le_trans HB1.out.size HO.out.2.size)), Nat.le_trans HB1.out.size HO.out.2.size⟩
        clear o3 b3 HLB
        generalize lbCode (cTs bd ms) = cd at HE
        go_wp2_with fail
        go_ret2
        exact ⟨_, ret_tup HE.out.1.symm, by rw [HE.out.2]; exact own_le HF.out.1 HF.out.2.2, HF.out.2.1⟩
end Go.Proofs.Ytpljjchjdejcfaa.Cb
