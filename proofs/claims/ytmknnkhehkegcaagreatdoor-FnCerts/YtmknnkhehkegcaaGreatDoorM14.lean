/- Texts put together: Cb2, PuMsg, SpMsg, EqMsg, Rc. -/
import Derived.Test.YtmknnkhehkegcaaGreatDoorM13
import Derived.Test.YtmknnkhehkegcaaGreatDoorM11
import Derived.Test.YtmknnkhehkegcaaGreatDoorM10
import Derived.Test.YtmknnkhehkegcaaGreatDoorM12
/- Certificates' bytes, of the program and of the specification. -/
namespace Go.Proofs.YtmknnkhehkegcaaGreatDoor.Cb
open Go.RowKit Go.Proofs.YtmknnkhehkegcaaGreatDoor.Sl Go.Proofs.YtmknnkhehkegcaaGreatDoor.By Go.Proofs.YtmknnkhehkegcaaGreatDoor.Ap Go.Proofs.YtmknnkhehkegcaaGreatDoor.Rq Go.Proofs.YtmknnkhehkegcaaGreatDoor.Ms Go.Proofs.YtmknnkhehkegcaaGreatDoor.Mp Go.Proofs.YtmknnkhehkegcaaGreatDoor.Rp Go.Proofs.YtmknnkhehkegcaaGreatDoor.Lb Go.Proofs.YtmknnkhehkegcaaGreatDoor.Gm
open Go.Proofs.YtmknnkhehkegcaaGreatDoor.Ty (RowT tnth)
open Go.Proofs.YtmknnkhehkegcaaGreatDoor.Tl (OwnS)
open Go.Proofs.YtmknnkhehkegcaaGreatDoor.Rg (RowG RowG.slice RowG.at lt_at mem_at blk_cell bel_new)

theorem info_s : (Tryz.prog.info? 9).map (fun i => (i.zero, i.size, i.bytes)) = some (some (.string ⟨#[]⟩), 1, 16) := by kernel_rfl
theorem tnth_cases (bd : ByteArray) (ms : List Mg) (j : Nat) (hj : j < (cTs bd ms).length) : tnth (cTs bd ms) j = bd ∨ ∃ x ∈ ms, tnth (cTs bd ms) j = mTx x := by
  unfold tnth cTs at *
  cases j with
  | zero => exact .inl rfl
  | succ k =>
    have hk : k < ms.length := by simpa using hj
    refine .inr ⟨ms[k], List.getElem_mem hk, ?_⟩
    rw [List.getD_cons_succ, List.getD_eq_getElem?_getD, List.getElem?_map, List.getElem?_eq_getElem hk]
    rfl
theorem cTs_len (bd : ByteArray) (ms : List Mg) : (cTs bd ms).length = ms.length + 1 := by unfold cTs; simp
theorem lenTo_le (bd : ByteArray) (ms : List Mg) (h : cfB ms = true) (hb : bd.size ≤ 20000) : ∀ k, k ≤ (cTs bd ms).length → lenTo (cTs bd ms) k ≤ 1 + 20002 * k ∧ (1 ≤ k → lenTo (cTs bd ms) k ≤ 1 + 20002 + 49 * (k - 1))
  | 0, _ => ⟨by unfold lenTo; omega, fun h => by omega⟩
  | k + 1, hk => by
    have ih := lenTo_le bd ms h hb k (by omega)
    have hs : (tnth (cTs bd ms) k).size ≤ 20000 ∧ (1 ≤ k → (tnth (cTs bd ms) k).size = 47) := by
      cases k with
      | zero => exact ⟨hb, fun h => by omega⟩
      | succ q =>
        have hq : q < ms.length := by have := cTs_len bd ms; omega
        have e : tnth (cTs bd ms) (q + 1) = mTx ms[q] := by
          unfold tnth cTs
          rw [List.getD_cons_succ, List.getD_eq_getElem?_getD, List.getElem?_map, List.getElem?_eq_getElem hq]
          rfl
        have := (ok_size ((cf_all h).2 _ (List.getElem_mem hq))).1
        rw [e]
        omega
    unfold lenTo
    refine ⟨by omega, fun _ => ?_⟩
    by_cases hk0 : k = 0
    · subst hk0
      have : lenTo (cTs bd ms) 0 = 1 := rfl
      omega
    · have h1 := ih.2 (by omega)
      have h2 := hs.2 (by omega)
      omega
theorem lenTo_ok (bd : ByteArray) (ms : List Mg) (h : cfB ms = true) (hb : bd.size ≤ 20000) (k : Nat) (hk : k ≤ (cTs bd ms).length) : lenTo (cTs bd ms) k ≤ 65536 := by
  have h1 := lenTo_le bd ms h hb k hk
  have h2 := (cf_all h).1
  have h3 := cTs_len bd ms
  by_cases hk0 : k = 0
  · omega
  · have := h1.2 (by omega)
    omega
theorem c_good (bd : ByteArray) (ms : List Mg) (h : cfB ms = true) (hb : bd.size ≤ 20000) : cCode bd ms = 0 ∧ cOut bd ms = listTo (cTs bd ms) (cTs bd ms).length := by
  have h2 := (cf_all h).1
  have h3 := cTs_len bd ms
  have := lb_good (cTs bd ms) (by omega) (fun j hj => by
    unfold bad
    rw [Bool.or_eq_false_iff, decide_eq_false_iff_not, decide_eq_false_iff_not]
    refine ⟨?_, by have := lenTo_ok bd ms h hb (j + 1) (by omega); omega⟩
    rcases tnth_cases bd ms j hj with e | ⟨x, hx, e⟩
    · rw [e]; omega
    · rw [e, (ok_size ((cf_all h).2 x hx)).1]; omega)
  unfold cCode cOut
  rw [h]
  exact this
theorem c_big (bd : ByteArray) (ms : List Mg) (hb : 20000 < bd.size) : cCode bd ms = 1 ∧ cOut bd ms = [] := by
  unfold cCode cOut
  cases h : cfB ms with
  | false => exact ⟨rfl, rfl⟩
  | true =>
    have h2 := (cf_all h).1
    have h3 := cTs_len bd ms
    have e0 : tnth (cTs bd ms) 0 = bd := rfl
    obtain ⟨h4, h5⟩ := lb_bad (cTs bd ms) 0 (by omega) (by omega) (fun j hj => by omega) (by unfold bad; rw [e0, decide_eq_true hb]; rfl)
    refine ⟨?_, h5⟩
    show lbCode (cTs bd ms) = 1
    rw [h4]
    unfold cd
    rw [e0, if_pos hb]
theorem c_no (bd : ByteArray) (ms : List Mg) (h : cfB ms = false) : cCode bd ms = 1 ∧ cOut bd ms = [] := by
  unfold cCode cOut; rw [h]; exact ⟨rfl, rfl⟩
set_option maxRecDepth 100000 in
set_option maxHeartbeats 1600000 in
theorem implCertBytes_any (bd : ByteArray) (vr : Value) (ms : List Mg) (w : World) (h : Row w vr ms) (hl : ms.length ≤ 1048576) (hb : bd.size ≤ 1048576) :
    Calls Tryz.prog 6 #[crtV bd vr] w fun e w' => ∃ v, e = .returned (.tuple #[v, .int .i64 (cCode bd ms)]) ∧ OwnB 5 w' w.heap.size v (cOut bd ms) ∧ Below w.heap.size w w' := by
  obtain ⟨i0, hi0, hz0, hz1, hz2⟩ := info_parts info_s
  have HR : Hid (Row w vr ms) := h
  obtain ⟨a, cap, rfl⟩ := RowG.slice h
  clear h
  have C := certFormed_any bd _ ms (w.alloc (.cells #[.string bd, .slice a ms.length cap] 27)) (HR.out.below (bel_new _ _)) hl
  unfold crtV at C ⊢
  go_enter Tryz.func6, Tryz.ntmps6
  go_wp2_with fail
  refine C.mono ?_
  rintro e w1 ⟨rfl, b1⟩
  have h1 := (b1.block w.heap.size (by simp)).trans (heap_alloc_new w _)
  have q0 := (blk_cell h1 0 (x := .string bd) rfl).1
  have q1 := (blk_cell h1 1 (x := .slice a ms.length cap) rfl).1
  have HB1 : Hid (Below w.heap.size w w1) := (bel_new w _).trans (b1.mono (by simp))
  clear C b1 h1
  cases hq : cfB ms with
  | false =>
    have HE : Hid (1 = cCode bd ms ∧ cOut bd ms = []) := ⟨(c_no bd ms hq).1.symm, (c_no bd ms hq).2⟩
    go_wp2_with fail
    go_ret2
    exact ⟨_, ret_tup HE.out.1, by rw [HE.out.2]; exact own_nil _ _ _, HB1.out⟩
  | true =>
    have HE : Hid (cCode bd ms = lbCode (cTs bd ms) ∧ cOut bd ms = lbOut (cTs bd ms)) := ⟨by unfold cCode; rw [hq]; rfl, by unfold cOut; rw [hq]; rfl⟩
    have h7 := (cf_all hq).1
    have HM : Hid (∀ x ∈ ms, mOK x = true) := (cf_all hq).2
    have HX : Hid (∀ W, Below w1.heap.size w1 W → W.cell? ⟨w.heap.size, 1, none⟩ = some (.slice a ms.length cap) ∧ Row W (.slice a ms.length cap) ms) := fun W hW => ⟨(hW.cell (p := ⟨w.heap.size, 1, none⟩) (World.block_lt_of_cell? _ _ q1)).trans q1, (HR.out.below HB1.out).below hW⟩
    have O1 : Hid (OwnS (w1.alloc (.cells #[.string bd] 9)) w1.heap.size (.slice (some ⟨w1.heap.size, 0, none⟩) 1 1) (cTs bd (ms.take 0)) ∧ Below w1.heap.size w1 (w1.alloc (.cells #[.string bd] 9))) := ⟨own_txt1 w1 w1.heap.size bd (Nat.le_refl _), bel_new _ _⟩
    have q1' := (HX.out _ O1.out.2).1
    clear hq
    go_wp2_with fail
    clear q0 q1 q1'
    go_loopw [4, 18] (fun b i wr => ∃ m : Nat, m ≤ ms.length ∧ i = .int .i64 m ∧ Hid (OwnS wr w1.heap.size b (cTs bd (ms.take m)) ∧ Below w1.heap.size w1 wr)) (fun _ i _ => ms.length - (intOf i).toNat)
    case atStart => exact ⟨0, by omega, rfl, O1⟩
    case round =>
      clear O1
      obtain ⟨m, hm, rfl, HO⟩ := hrel
      obtain ⟨v0, rfl⟩ : ∃ v0, v0 = u4 := ⟨_, rfl⟩
      by_cases hlt : m < ms.length
      · obtain ⟨x, hx⟩ := Rg.get_at hlt
        obtain ⟨b, off, rfl, hbl, c0, c1, c2, c3, c4, c5, c6⟩ := RowG.at (HX.out wr HO.out.2).2 rfl hx
        have HT : Hid (cTs bd (ms.take (m + 1)) = cTs bd (ms.take m) ++ [mTx x]) := cTs_step hx
        have HMX := (ok_size (HM.out x (mem_at hx))).2
        have HMB := implMessageBytes_any x.kd x.vw x.sq x.fr x.dg x.bd x.mc (wr.alloc (.cells #[.int .i64 x.kd, .int .i64 x.vw, .int .i64 x.sq, .int .i64 x.fr, .string x.dg, .string x.bd, .string x.mc] 39))
        have e1 : msgCode x.kd x.vw x.sq x.fr x.dg x.bd x.mc = 0 := by unfold msgCode; rw [show msgB x.kd x.vw x.sq x.fr x.dg x.bd x.mc = true from HMX]; rfl
        have e2 : msgOut x.kd x.vw x.sq x.fr x.dg x.bd x.mc = msgBs x.kd x.vw x.sq x.fr x.dg x.bd x.mc := by unfold msgOut; rw [show msgB x.kd x.vw x.sq x.fr x.dg x.bd x.mc = true from HMX]; rfl
        rw [e1, e2] at HMB
        unfold msgV at HMB
        have HLN : Hid ((cTs bd (ms.take m)).length ≤ 8) := by show _ ≤ _; rw [cTs_len, List.length_take]; omega
        have HTX : Hid (strOfNums (msgBs x.kd x.vw x.sq x.fr x.dg x.bd x.mc) = mTx x) := rfl
        clear hx HMX e1 e2
        go_wp2_with fail
        clear c0 c1 c2 c3 c4 c5 c6
        refine HMB.mono ?_
        rintro e w3 ⟨v3, rfl, o3, b3⟩
        have hcv := By.run_convert_own (P := Tryz.prog) w3 _ 22 5 9 Tryz.underlying22 Tryz.underlying5 Tryz.underlying9 v3 _ o3
        rw [HTX.out] at hcv
        have b4 := one_kept b3
        have O3 : Hid (OwnS w3 w1.heap.size v0 (cTs bd (ms.take m)) ∧ Below w1.heap.size w1 w3) := ⟨Rl.OwnS.below HO.out.1 b4, HO.out.2.trans (b4.mono HO.out.2.size)⟩
        clear o3 b3 b4 HMB HO
        go_wp2_with (at_builtin; go_must (refine list_txt (by rfl) _ _ 45 (by rfl) i0 Tryz.underlying45 hi0 hz0 hz1 hz2 w1.heap.size w1 w3 _ _ (mTx x) (by rfl) O3.out.1 O3.out.2 O3.out.2.size (by rfl) (by have := HLN.out; omega) ?_; intro v5 w5 o5 b5))
        exact ⟨⟨m + 1, by omega, by go_num, ⟨by rw [HT.out]; exact o5, b5⟩⟩, by simp [intOf]; omega⟩
      · obtain rfl : m = ms.length := by omega
        rw [List.take_length] at HO
        have HSZ : Hid (∀ j, j < (cTs bd ms).length → (tnth (cTs bd ms) j).size ≤ 1048576) := fun j hj => by
          rcases tnth_cases bd ms j hj with e | ⟨x, hx, e⟩
          · rw [e]; omega
          · rw [e, (ok_size (HM.out x hx)).1]; omega
        have HLB := implListBytes_any v0 (cTs bd ms) wr (Tl.OwnS.row HO.out.1) (by rw [cTs_len]; omega) HSZ.out
        clear HX
        go_wp2_with fail
        refine HLB.mono ?_
        rintro e w3 ⟨v3, rfl, o3, b3⟩
        have HF : Hid (OwnB 5 w3 wr.heap.size v3 (lbOut (cTs bd ms)) ∧ Below w.heap.size w w3 ∧ w.heap.size ≤ wr.heap.size) := ⟨o3, (HB1.out.trans (HO.out.2.mono HB1.out.size)).trans (b3.mono (Nat.le_trans HB1.out.size HO.out.2.size)), Nat.le_trans HB1.out.size HO.out.2.size⟩
        clear o3 b3 HLB
        generalize lbCode (cTs bd ms) = cd at HE
        go_wp2_with fail
        go_ret2
        exact ⟨_, ret_tup HE.out.1.symm, by rw [HE.out.2]; exact own_le HF.out.1 HF.out.2.2, HF.out.2.1⟩
end Go.Proofs.YtmknnkhehkegcaaGreatDoor.Cb

/- A message's bytes, as impl takes them: in plain lists. -/
namespace Go.Proofs.YtmknnkhehkegcaaGreatDoor.Om
open Go.RowKit Go.Proofs.YtmknnkhehkegcaaGreatDoor.Sl Go.Proofs.YtmknnkhehkegcaaGreatDoor.By Go.Proofs.YtmknnkhehkegcaaGreatDoor.Ap Go.Proofs.YtmknnkhehkegcaaGreatDoor.Rq Go.Proofs.YtmknnkhehkegcaaGreatDoor.Rr Go.Proofs.YtmknnkhehkegcaaGreatDoor.Of

theorem tkS_false {n : Nat} {xs : List Int} {sh : Bool} : tkS n xs sh = false ↔ sh = false ∧ n ≤ xs.length := by
  unfold tkS; simp
theorem txtS_false {n : Nat} {xs : List Int} {sh : Bool} : txtS n xs sh = false ↔ (sh = false ∧ n ≤ xs.length) ∧ txtN n xs ≤ (tkR n xs).length := by
  unfold txtS; rw [tkS_false, tkS_false]
def mD (xs : List Int) : Nat := (nth xs 4).toNat
def mN (xs : List Int) : Nat := (beN ((xs.drop (5 + mD xs)).take 2)).toNat
theorem tkR_yes {n : Nat} {xs : List Int} (h : n ≤ xs.length) : tkR n xs = xs.drop n := (tk_yes h).2.1
theorem tkB_yes {n : Nat} {xs : List Int} (h : n ≤ xs.length) : tkB n xs = xs.take n := (tk_yes h).1
theorem four (xs : List Int) (h : 4 ≤ xs.length) : tkR 1 xs = xs.drop 1 ∧ tkR 1 (tkR 1 xs) = xs.drop 2 ∧ tkR 1 (tkR 1 (tkR 1 xs)) = xs.drop 3 ∧ mg3 xs = xs.drop 4 := by
  have a1 := tkR_yes (n := 1) (xs := xs) (by omega)
  have a2 := tkR_yes (n := 1) (xs := xs.drop 1) (by rw [List.length_drop]; omega)
  have a3 := tkR_yes (n := 1) (xs := xs.drop 2) (by rw [List.length_drop]; omega)
  have a4 := tkR_yes (n := 1) (xs := xs.drop 3) (by rw [List.length_drop]; omega)
  rw [List.drop_drop] at a2 a3 a4
  refine ⟨a1, by rw [a1, a2], by rw [a1, a2, a3], by unfold mg3; rw [a1, a2, a3, a4]⟩
theorem txtN1 (xs : List Int) (h : 5 ≤ xs.length) : txtN 1 (xs.drop 4) = mD xs ∧ tkR 1 (xs.drop 4) = xs.drop 5 := by
  have hl : 1 ≤ (xs.drop 4).length := by rw [List.length_drop]; omega
  unfold txtN mD
  rw [tkB_yes hl, be1 (by omega), nth_drop, tkR_yes hl, List.drop_drop]
  exact ⟨rfl, rfl⟩
theorem txtN2 (xs : List Int) (h : 7 + mD xs ≤ xs.length) : txtN 2 (xs.drop (5 + mD xs)) = mN xs ∧ tkR 2 (xs.drop (5 + mD xs)) = xs.drop (7 + mD xs) := by
  have hl : 2 ≤ (xs.drop (5 + mD xs)).length := by rw [List.length_drop]; omega
  unfold txtN mN
  rw [tkB_yes hl, tkR_yes hl, List.drop_drop]
  exact ⟨rfl, by rw [show 5 + mD xs + 2 = 7 + mD xs by omega]⟩
theorem msg_open (xs : List Int) (hl : 15 + mD xs + mN xs ≤ xs.length) :
    beN (tkB 1 xs) = nth xs 0 ∧ beN (tkB 1 (tkR 1 xs)) = nth xs 1 ∧ beN (tkB 1 (tkR 1 (tkR 1 xs))) = nth xs 2 ∧ beN (tkB 1 (tkR 1 (tkR 1 (tkR 1 xs)))) = nth xs 3 ∧
      mgDg xs = strOfNums ((xs.drop 5).take (mD xs)) ∧ mgBd xs = strOfNums ((xs.drop (7 + mD xs)).take (mN xs)) ∧ mgMc xs = strOfNums ((xs.drop (7 + mD xs + mN xs)).take 8) ∧ mgRest xs = xs.drop (15 + mD xs + mN xs) ∧ mgSh xs false = false := by
  obtain ⟨a1, a2, a3, a4⟩ := four xs (by omega)
  obtain ⟨b1, b2⟩ := txtN1 xs (by omega)
  obtain ⟨c1, c2⟩ := txtN2 xs (by omega)
  have h5 : mD xs ≤ (xs.drop 5).length := by rw [List.length_drop]; omega
  have r1 : txtR 1 (mg3 xs) = xs.drop (5 + mD xs) := by unfold txtR; rw [a4, b1, b2, tkR_yes h5, List.drop_drop]
  have h7 : mN xs ≤ (xs.drop (7 + mD xs)).length := by rw [List.length_drop]; omega
  have r2 : txtR 2 (txtR 1 (mg3 xs)) = xs.drop (7 + mD xs + mN xs) := by rw [r1]; unfold txtR; rw [c1, c2, tkR_yes h7, List.drop_drop]
  have h8 : 8 ≤ (xs.drop (7 + mD xs + mN xs)).length := by rw [List.length_drop]; omega
  refine ⟨?_, ?_, ?_, ?_, ?_, ?_, ?_, ?_, ?_⟩
  · rw [tkB_yes (by omega), be1 (by omega)]
  · rw [a1, tkB_yes (by rw [List.length_drop]; omega), be1 (by rw [List.length_drop]; omega), nth_drop]
  · rw [a2, tkB_yes (by rw [List.length_drop]; omega), be1 (by rw [List.length_drop]; omega), nth_drop]
  · rw [a3, tkB_yes (by rw [List.length_drop]; omega), be1 (by rw [List.length_drop]; omega), nth_drop]
  · unfold mgDg txtB; rw [a4, b1, b2, tkB_yes h5]
  · unfold mgBd txtB; rw [r1, c1, c2, tkB_yes h7]
  · unfold mgMc; rw [r2, tkB_yes h8]
  · unfold mgRest; rw [r2, tkR_yes h8, List.drop_drop, show 7 + mD xs + mN xs + 8 = 15 + mD xs + mN xs by omega]
  · unfold mgSh
    rw [tkS_false, r2, txtS_false, r1, txtS_false, tkS_false, tkS_false, tkS_false, tkS_false, a3, a2, a1, a4, b1, b2, c1, c2]
    simp only [List.length_drop]
    exact ⟨⟨⟨⟨⟨⟨⟨⟨⟨trivial, by omega⟩, by omega⟩, by omega⟩, by omega⟩, by omega⟩, by rw [List.length_drop] at h5; omega⟩, by omega⟩, by rw [List.length_drop] at h7; omega⟩, by omega⟩
theorem msg_inv (xs : List Int) (h : mgSh xs false = false) : 15 + mD xs + mN xs ≤ xs.length := by
  unfold mgSh at h
  rw [tkS_false, txtS_false, txtS_false, tkS_false, tkS_false, tkS_false, tkS_false] at h
  obtain ⟨⟨⟨⟨⟨⟨⟨⟨⟨_, l1⟩, l2⟩, l3⟩, l4⟩, m1⟩, m2⟩, m3⟩, m4⟩, m5⟩ := h
  have t1 := tkR_yes l1
  rw [t1] at l2 l3 l4
  have t2 := tkR_yes l2
  rw [t2] at l3 l4
  have t3 := tkR_yes l3
  rw [t3] at l4
  simp only [List.length_drop] at l2 l3 l4
  obtain ⟨a1, a2, a3, a4⟩ := four xs (by omega)
  rw [a4] at m1 m2
  rw [List.length_drop] at m1
  obtain ⟨b1, b2⟩ := txtN1 xs (by omega)
  rw [b1, b2] at m2
  have r1 : txtR 1 (mg3 xs) = xs.drop (5 + mD xs) := by unfold txtR; rw [a4, b1, b2, tkR_yes m2, List.drop_drop]
  rw [List.length_drop] at m2
  rw [r1] at m3 m4 m5
  rw [List.length_drop] at m3
  obtain ⟨c1, c2⟩ := txtN2 xs (by omega)
  rw [c1, c2] at m4
  have r2 : txtR 2 (xs.drop (5 + mD xs)) = xs.drop (7 + mD xs + mN xs) := by unfold txtR; rw [c1, c2, tkR_yes m4, List.drop_drop]
  rw [r2, List.length_drop] at m5
  rw [List.length_drop] at m4
  omega
end Go.Proofs.YtmknnkhehkegcaaGreatDoor.Om

/- The specification's ReadMessage. -/
namespace Go.Proofs.YtmknnkhehkegcaaGreatDoor.Om
open Go.RowKit Go.Proofs.YtmknnkhehkegcaaGreatDoor.Sl Go.Proofs.YtmknnkhehkegcaaGreatDoor.By Go.Proofs.YtmknnkhehkegcaaGreatDoor.Ap Go.Proofs.YtmknnkhehkegcaaGreatDoor.Rq Go.Proofs.YtmknnkhehkegcaaGreatDoor.Rr Go.Proofs.YtmknnkhehkegcaaGreatDoor.Of Go.Proofs.YtmknnkhehkegcaaGreatDoor.Ms

theorem fin7 {w : World} {A B : Array Value} (h : A = B) : ((w.alloc (.cells zmsg 39)).alloc (.cells A 39)).drew.heap[w.heap.size]? = some (.cells zmsg 39 (0, 0)) ∧
    ((w.alloc (.cells zmsg 39)).alloc (.cells A 39)).drew.heap[w.heap.size + 1]? = some (.cells B 39 (0, 0)) ∧ Below w.heap.size w ((w.alloc (.cells zmsg 39)).alloc (.cells A 39)).drew := by
  subst h
  refine ⟨(Below.heap_alloc _ _ _ (by simp)).trans (blk_new _ _ _), ?_, (((Below.refl _ _).alloc (Nat.le_refl _) _).alloc (by simp) _).drew⟩
  have := blk_new (w.alloc (.cells zmsg 39)) A 39
  rw [size_new] at this
  exact this

end Go.Proofs.YtmknnkhehkegcaaGreatDoor.Om

/- Messages are read: both ReadMessage functions answer alike. -/
namespace Go.Proofs.YtmknnkhehkegcaaGreatDoor.Om
open Go.RowKit Go.Proofs.YtmknnkhehkegcaaGreatDoor.Sl Go.Proofs.YtmknnkhehkegcaaGreatDoor.By Go.Proofs.YtmknnkhehkegcaaGreatDoor.Ap Go.Proofs.YtmknnkhehkegcaaGreatDoor.Rq Go.Proofs.YtmknnkhehkegcaaGreatDoor.Rr Go.Proofs.YtmknnkhehkegcaaGreatDoor.Of Go.Proofs.YtmknnkhehkegcaaGreatDoor.Ms

/-- What both answer. -/
def readMsg (xs : List Int) : Value := rjV zmsg #[.int .i64 (beN (tkB 1 xs)), .int .i64 (beN (tkB 1 (tkR 1 xs))), .int .i64 (beN (tkB 1 (tkR 1 (tkR 1 xs)))), .int .i64 (beN (tkB 1 (tkR 1 (tkR 1 (tkR 1 xs))))), .string (mgDg xs), .string (mgBd xs), .string (mgMc xs)] (decide (65536 < xs.length)) (!mgSh xs false && ((mgRest xs).isEmpty && msgB (beN (tkB 1 xs)) (beN (tkB 1 (tkR 1 xs))) (beN (tkB 1 (tkR 1 (tkR 1 xs)))) (beN (tkB 1 (tkR 1 (tkR 1 (tkR 1 xs))))) (mgDg xs) (mgBd xs) (mgMc xs)))
theorem readMsg_form (xs : List Int) : ∃ (kd vw sq fr : Int) (dg bd mc : ByteArray) (code : Int), readMsg xs = .tuple #[.agg #[.int .i64 kd, .int .i64 vw, .int .i64 sq, .int .i64 fr, .string dg, .string bd, .string mc], .int .i64 code] := by
  unfold readMsg rjV
  split
  · exact ⟨0, 0, 0, 0, ⟨#[]⟩, ⟨#[]⟩, ⟨#[]⟩, 2, rfl⟩
  · split
    · exact ⟨_, _, _, _, _, _, _, 0, rfl⟩
    · exact ⟨0, 0, 0, 0, ⟨#[]⟩, ⟨#[]⟩, ⟨#[]⟩, 3, rfl⟩
theorem ext_list (xs : List Int) (hr : ∀ x ∈ xs, 0 ≤ x ∧ x ≤ 255) (a b : Nat) : (strOfNums xs).extract a b = strOfNums ((xs.take b).drop a) := by
  rw [← str_bys ((strOfNums xs).extract a b), bys_ext, bys_str xs hr]
theorem eq_msg_yes (xs : List Int) (hr : ∀ x ∈ xs, 0 ≤ x ∧ x ≤ 255) (hq : xs.length = 15 + mD xs + mN xs) :
    beN (tkB 1 xs) = nth (bys (strOfNums xs)) 0 ∧ beN (tkB 1 (tkR 1 xs)) = nth (bys (strOfNums xs)) 1 ∧ beN (tkB 1 (tkR 1 (tkR 1 xs))) = nth (bys (strOfNums xs)) 2 ∧ beN (tkB 1 (tkR 1 (tkR 1 (tkR 1 xs)))) = nth (bys (strOfNums xs)) 3 ∧
      mgDg xs = (strOfNums xs).extract 5 (5 + mD xs) ∧ mgBd xs = (strOfNums xs).extract (5 + mD xs + 2) (5 + mD xs + 2 + mN xs) ∧ mgMc xs = (strOfNums xs).extract (5 + mD xs + 2 + mN xs) (strOfNums xs).size ∧ mgRest xs = [] ∧ mgSh xs false = false := by
  obtain ⟨a1, a2, a3, a4, a5, a6, a7, a8, a9⟩ := msg_open xs (by omega)
  rw [bys_str xs hr]
  refine ⟨a1, a2, a3, a4, ?_, ?_, ?_, ?_, a9⟩
  · rw [a5, ext_list xs hr, List.take_drop]
  · rw [a6, ext_list xs hr, List.take_drop, show 5 + mD xs + 2 = 7 + mD xs by omega]
  · rw [a7, ext_list xs hr, strOfNums_size, List.take_drop, show 7 + mD xs + mN xs + 8 = xs.length by omega, show 5 + mD xs + 2 + mN xs = 7 + mD xs + mN xs by omega]
  · rw [a8]; exact List.drop_eq_nil_of_le (by omega)
theorem eq_msg_no (xs : List Int) (hno : xs.length ≠ 15 + mD xs + mN xs) (b : Bool) : (!mgSh xs false && ((mgRest xs).isEmpty && b)) = false := by
  cases h : mgSh xs false
  · have hl := msg_inv xs h
    obtain ⟨_, _, _, _, _, _, _, a8, _⟩ := msg_open xs hl
    have : (mgRest xs).isEmpty = false := by
      rw [a8]
      cases he : xs.drop (15 + mD xs + mN xs) with
      | nil =>
        have := congrArg List.length he
        rw [List.length_drop] at this
        simp at this
        omega
      | cons y ys => rfl
    rw [this]
    rfl
  · rfl
theorem mD_lt (xs : List Int) (hr : ∀ x ∈ xs, 0 ≤ x ∧ x ≤ 255) : mD xs < 256 := by unfold mD; have := range_at hr 4; omega
theorem mN_eq (xs : List Int) (hr : ∀ x ∈ xs, 0 ≤ x ∧ x ≤ 255) : beN (bys ((strOfNums xs).extract (5 + mD xs) (5 + mD xs + 2))) = (mN xs : Int) := by
  rw [bys_ext, bys_str xs hr]
  unfold mN
  rw [List.take_drop]
  have := beN_range ((xs.take (5 + mD xs + 2)).drop (5 + mD xs)) (fun x hx => hr x (List.mem_of_mem_take (List.mem_of_mem_drop hx)))
  omega

set_option maxHeartbeats 400000 in
theorem implReadMessage_any (v : Value) (xs : List Int) (w : World) (h : RowB w v xs) (hl : xs.length ≤ 1048576) :
    Calls Tryz.prog 42 #[v] w fun e w' => e = .returned (readMsg xs) ∧ Below w.heap.size w w' := by
  obtain ⟨kd, vw, sq, fr, dg, bd, mc, code, hf⟩ := readMsg_form xs
  have HF : Hid (readMsg xs = .tuple #[.agg #[.int .i64 kd, .int .i64 vw, .int .i64 sq, .int .i64 fr, .string dg, .string bd, .string mc], .int .i64 code]) := hf
  have h' := h
  obtain ⟨a, cap, rfl, _, _⟩ := h
  have HR : Hid (RowB w (.slice a xs.length cap) xs) := h'
  clear h' hf
  go_enter Tryz.func42, Tryz.ntmps42
  go_wp2_with fail
  refine (readJustMsg_gen _ xs _ (HR.out.below ((Below.refl _ _).alloc (Nat.le_refl _) _)) hl (beN (tkB 1 xs)) (beN (tkB 1 (tkR 1 xs))) (beN (tkB 1 (tkR 1 (tkR 1 xs)))) (beN (tkB 1 (tkR 1 (tkR 1 (tkR 1 xs))))) (mgDg xs) (mgBd xs) (mgMc xs) (mgRest xs) (mgSh xs false) (fun W p B h1 h2 h3 h4 => takeMessage_any p B xs false W h1 h2 h3 h4)).mono ?_
  rintro e w1 ⟨rfl, b1⟩
  rw [show rjV zmsg #[.int .i64 (beN (tkB 1 xs)), .int .i64 (beN (tkB 1 (tkR 1 xs))), .int .i64 (beN (tkB 1 (tkR 1 (tkR 1 xs)))), .int .i64 (beN (tkB 1 (tkR 1 (tkR 1 (tkR 1 xs))))), .string (mgDg xs), .string (mgBd xs), .string (mgMc xs)] (decide (65536 < xs.length)) (!mgSh xs false && ((mgRest xs).isEmpty && msgB (beN (tkB 1 xs)) (beN (tkB 1 (tkR 1 xs))) (beN (tkB 1 (tkR 1 (tkR 1 xs)))) (beN (tkB 1 (tkR 1 (tkR 1 (tkR 1 xs))))) (mgDg xs) (mgBd xs) (mgMc xs))) = readMsg xs from rfl, HF.out]
  have A1 : w1.heap[w.heap.size]? = some (.cells zmsg 39 (0, 0)) := (b1.block w.heap.size (by simp)).trans (blk_new w zmsg 39)
  have G1 := box_old (box_first b1)
  clear b1 HR
  obtain ⟨zc0, zf0⟩ := blk_cell A1 0 (x := .int .i64 0) rfl
  obtain ⟨zc1, zf1⟩ := blk_cell A1 1 (x := .int .i64 0) rfl
  obtain ⟨zc2, zf2⟩ := blk_cell A1 2 (x := .int .i64 0) rfl
  obtain ⟨zc3, zf3⟩ := blk_cell A1 3 (x := .int .i64 0) rfl
  obtain ⟨zc4, zf4⟩ := blk_cell A1 4 (x := .string ⟨#[]⟩) rfl
  obtain ⟨zc5, zf5⟩ := blk_cell A1 5 (x := .string ⟨#[]⟩) rfl
  obtain ⟨zc6, zf6⟩ := blk_cell A1 6 (x := .string ⟨#[]⟩) rfl
  have AF : (((((((w1.setCell ⟨w.heap.size, 0, none⟩ (.int .i64 kd)).setCell ⟨w.heap.size, 1, none⟩ (.int .i64 vw)).setCell ⟨w.heap.size, 2, none⟩ (.int .i64 sq)).setCell ⟨w.heap.size, 3, none⟩ (.int .i64 fr)).setCell ⟨w.heap.size, 4, none⟩ (.string dg)).setCell ⟨w.heap.size, 5, none⟩ (.string bd)).setCell ⟨w.heap.size, 6, none⟩ (.string mc)).heap[w.heap.size]? = some (.cells #[.int .i64 kd, .int .i64 vw, .int .i64 sq, .int .i64 fr, .string dg, .string bd, .string mc] 39 (0, 0)) := (blk_set (blk_set (blk_set (blk_set (blk_set (blk_set (blk_set A1 0 (.int .i64 kd)) 1 (.int .i64 vw)) 2 (.int .i64 sq)) 3 (.int .i64 fr)) 4 (.string dg)) 5 (.string bd)) 6 (.string mc))
  have GF : Below w.heap.size w (((((((w1.setCell ⟨w.heap.size, 0, none⟩ (.int .i64 kd)).setCell ⟨w.heap.size, 1, none⟩ (.int .i64 vw)).setCell ⟨w.heap.size, 2, none⟩ (.int .i64 sq)).setCell ⟨w.heap.size, 3, none⟩ (.int .i64 fr)).setCell ⟨w.heap.size, 4, none⟩ (.string dg)).setCell ⟨w.heap.size, 5, none⟩ (.string bd)).setCell ⟨w.heap.size, 6, none⟩ (.string mc)) := (Below.setCell (Below.setCell (Below.setCell (Below.setCell (Below.setCell (Below.setCell (Below.setCell G1 (p := ⟨w.heap.size, 0, none⟩) (Nat.le_refl _) (.int .i64 kd)) (p := ⟨w.heap.size, 1, none⟩) (Nat.le_refl _) (.int .i64 vw)) (p := ⟨w.heap.size, 2, none⟩) (Nat.le_refl _) (.int .i64 sq)) (p := ⟨w.heap.size, 3, none⟩) (Nat.le_refl _) (.int .i64 fr)) (p := ⟨w.heap.size, 4, none⟩) (Nat.le_refl _) (.string dg)) (p := ⟨w.heap.size, 5, none⟩) (Nat.le_refl _) (.string bd)) (p := ⟨w.heap.size, 6, none⟩) (Nat.le_refl _) (.string mc))
  go_wp2_with fail
  generalize (((((((w1.setCell ⟨w.heap.size, 0, none⟩ (.int .i64 kd)).setCell ⟨w.heap.size, 1, none⟩ (.int .i64 vw)).setCell ⟨w.heap.size, 2, none⟩ (.int .i64 sq)).setCell ⟨w.heap.size, 3, none⟩ (.int .i64 fr)).setCell ⟨w.heap.size, 4, none⟩ (.string dg)).setCell ⟨w.heap.size, 5, none⟩ (.string bd)).setCell ⟨w.heap.size, 6, none⟩ (.string mc)) = wf at AF GF ⊢
  have d0 := (blk_cell AF 0 (x := .int .i64 kd) rfl).1
  have d1 := (blk_cell AF 1 (x := .int .i64 vw) rfl).1
  have d2 := (blk_cell AF 2 (x := .int .i64 sq) rfl).1
  have d3 := (blk_cell AF 3 (x := .int .i64 fr) rfl).1
  have d4 := (blk_cell AF 4 (x := .string dg) rfl).1
  have d5 := (blk_cell AF 5 (x := .string bd) rfl).1
  have d6 := (blk_cell AF 6 (x := .string mc) rfl).1
  refine bodyPost_ret (v := .tuple #[.agg #[.int .i64 kd, .int .i64 vw, .int .i64 sq, .int .i64 fr, .string dg, .string bd, .string mc], .int .i64 code]) (by simp [results, Tryz.results42, go_sem, d0, d1, d2, d3, d4, d5, d6]) rfl ⟨ret_val HF.out.symm, GF⟩

end Go.Proofs.YtmknnkhehkegcaaGreatDoor.Om

/- Messages in a row of one's own; one message read off a text, by the program and by the specification. -/
namespace Go.Proofs.YtmknnkhehkegcaaGreatDoor.Rc
open Go.RowKit Go.Proofs.YtmknnkhehkegcaaGreatDoor.Sl Go.Proofs.YtmknnkhehkegcaaGreatDoor.By Go.Proofs.YtmknnkhehkegcaaGreatDoor.Ap Go.Proofs.YtmknnkhehkegcaaGreatDoor.Rq Go.Proofs.YtmknnkhehkegcaaGreatDoor.Rr Go.Proofs.YtmknnkhehkegcaaGreatDoor.Of Go.Proofs.YtmknnkhehkegcaaGreatDoor.Om Go.Proofs.YtmknnkhehkegcaaGreatDoor.Ms Go.Proofs.YtmknnkhehkegcaaGreatDoor.Gm Go.Proofs.YtmknnkhehkegcaaGreatDoor.Cb
open Go.Proofs.YtmknnkhehkegcaaGreatDoor.Ty (RowT tnth)
open Go.Proofs.YtmknnkhehkegcaaGreatDoor.Tl (OwnS)
open Go.Proofs.YtmknnkhehkegcaaGreatDoor.Rg (RowG RowG.slice RowG.at lt_at mem_at bel_new)

def cl (x : Mg) : List Value := [.int .i64 x.kd, .int .i64 x.vw, .int .i64 x.sq, .int .i64 x.fr, .string x.dg, .string x.bd, .string x.mc]
theorem cl_len (x : Mg) : (cl x).length = 7 := rfl
theorem cl_one (x : Mg) : ∀ u ∈ cl x, u.oneCell' = true := by
  intro u hu
  unfold cl at hu
  simp only [List.mem_cons, List.not_mem_nil, or_false] at hu
  rcases hu with h | h | h | h | h | h | h <;> (rw [h]; rfl)
theorem fm_len : ∀ (ms : List Mg), (ms.flatMap cl).length = ms.length * 7
  | [] => rfl
  | x :: xs => by rw [List.flatMap_cons, List.length_append, fm_len xs, cl_len, List.length_cons]; omega
theorem fm_at : ∀ (ms : List Mg) (i : Nat) (x : Mg) (j : Nat), ms[i]? = some x → j < 7 → (ms.flatMap cl)[i * 7 + j]? = (cl x)[j]?
  | [], i, x, j, h, _ => by simp at h
  | y :: ys, 0, x, j, h, hj => by
    simp at h
    subst h
    rw [List.flatMap_cons, Nat.zero_mul, Nat.zero_add, List.getElem?_append_left (by rw [cl_len]; exact hj)]
  | y :: ys, i + 1, x, j, h, hj => by
    have h' : ys[i]? = some x := by simpa using h
    rw [List.flatMap_cons, List.getElem?_append_right (by rw [cl_len]; omega), cl_len, show (i + 1) * 7 + j - 7 = i * 7 + j by omega]
    exact fm_at ys i x j h' hj
/-- Messages in a slice of the call's own. -/
def OwnM (w : World) (B : Nat) (v : Value) (ms : List Mg) : Prop := w.ownsRow B 39 7 v ms.length (ms.flatMap cl)
theorem OwnM.row {w : World} {B : Nat} {v : Value} {ms : List Mg} (h : OwnM w B v ms) : Row w v ms := by
  obtain ⟨hl, h⟩ := h
  rcases h with ⟨rfl, h0⟩ | ⟨g, cap, cur, rfl, hB, hg, hc, _, hs, htk⟩
  · exact ⟨none, 0, by rw [h0], .inl (List.length_eq_zero_iff.1 h0)⟩
  · refine ⟨_, cap, rfl, .inr ⟨g, 0, rfl, hc, (Array.getElem?_eq_some_iff.1 hg).1, fun i x hi => ?_⟩⟩
    have hil := lt_at hi
    have key : ∀ j u, j < 7 → (cl x)[j]? = some u → w.cell? ⟨g, 0 + i * 7 + j, none⟩ = some u := fun j u hj hu => by
      rw [Nat.zero_add, Joins.cell_of_block hg, ← Array.getElem?_toList]
      have h1 := fm_at ms i x j hi hj
      rw [← htk, List.getElem?_take, if_pos (by omega)] at h1
      rw [h1, hu]
    exact ⟨key 0 _ (by decide) rfl, key 1 _ (by decide) rfl, key 2 _ (by decide) rfl, key 3 _ (by decide) rfl, key 4 _ (by decide) rfl, key 5 _ (by decide) rfl, key 6 _ (by decide) rfl⟩
theorem OwnM.kept {w w' : World} {B : Nat} {v : Value} {ms : List Mg} (h : OwnM w B v ms) (hk : ∀ g, v.ownBlock = some g → w'.heap[g]? = w.heap[g]?) : OwnM w' B v ms := by
  obtain ⟨hl, h⟩ := h
  refine ⟨hl, ?_⟩
  rcases h with h | ⟨g, cap, cur, rfl, h1, hg, h2⟩
  · exact .inl h
  · exact .inr ⟨g, cap, cur, rfl, h1, (hk g rfl).trans hg, h2⟩
theorem OwnM.lt {w : World} {B : Nat} {v : Value} {ms : List Mg} (h : OwnM w B v ms) : ∀ g, v.ownBlock = some g → B ≤ g ∧ g < w.heap.size := World.ownsRow.lt h
theorem OwnM.below {w w' : World} {B : Nat} {v : Value} {ms : List Mg} (h : OwnM w B v ms) (hb : Below w.heap.size w w') : OwnM w' B v ms := h.kept fun g hg => hb.block g (h.lt g hg).2
theorem OwnM.mono {w : World} {B B' : Nat} {v : Value} {ms : List Mg} (h : OwnM w B v ms) (hb : B' ≤ B) : OwnM w B' v ms := by
  obtain ⟨hl, h⟩ := h
  refine ⟨hl, ?_⟩
  rcases h with h | ⟨g, cap, cur, rfl, h1, hg, h2⟩
  · exact .inl h
  · exact .inr ⟨g, cap, cur, rfl, Nat.le_trans hb h1, hg, h2⟩
theorem OwnM.nil (w : World) (B : Nat) : OwnM w B (.slice none 0 0) [] := World.ownsRow_nil _ _ _ _
theorem OwnM.made (w : World) (B : Nat) (hB : B ≤ w.heap.size) : OwnM (w.alloc (.cells #[] 39)) B (.slice (some ⟨w.heap.size, 0, none⟩) 0 0) [] := World.ownsRow_made w #[] 0 hB (by decide) rfl
theorem OwnM.alloc {w : World} {B : Nat} {v : Value} {ms : List Mg} (h : OwnM w B v ms) (o : Obj) : OwnM (w.alloc o) B v ms := h.below (bel_new _ _)
theorem info_m : (Tryz.prog.info? 39).map (fun i => (i.zero, i.size, i.bytes)) = some (some (.agg #[.int .i64 0, .int .i64 0, .int .i64 0, .int .i64 0, .string ⟨#[]⟩, .string ⟨#[]⟩, .string ⟨#[]⟩]), 7, 80) := by kernel_rfl
/-- Nothing was written but v's own row, and new blocks. -/
def Kq (W w' : World) (v v' : Value) : Prop := ∀ k, k < W.heap.size → some k ≠ v.ownBlock → w'.heap[k]? = W.heap[k]? ∧ some k ≠ v'.ownBlock
/-- One message more. -/
theorem list_msg {P : Program} {ops : Array Oper} {rest : List Oper} {o : Oper} {a : Act} {Q : Exit → Act → World → Prop} (hgd : o.guard = none) (s x : Operand) (t : TypeId)
    (ho : o.op = .call { callee := .builtin .append, args := #[s, x], argTypes := #[t, t] }) (i : TypeInfo) (ht : P.underlying t = some (.slice 39)) (hi : P.info? 39 = some i) (hz : i.zero = some (.agg #[.int .i64 0, .int .i64 0, .int .i64 0, .int .i64 0, .string ⟨#[]⟩, .string ⟨#[]⟩, .string ⟨#[]⟩]))
    (hsize : i.size = 7) (hby : i.bytes = 80) (B : Nat) (w0 W : World) (v : Value) (ms : List Mg) (m : Mg) (hs : a.eval s = v) (hown : OwnM W B v ms) (hg0 : Below B w0 W) (hB : B ≤ W.heap.size)
    (gx : Nat) (hx : a.eval x = .slice (some ⟨gx, 0, none⟩) 1 1) (hgx : W.heap.size = gx) (hlen : ms.length ≤ 1000000)
    (h : ∀ v' w', OwnM w' B v' (ms ++ [m]) → Below B w0 w' → Kq W w' v v' → wpList P ops Q rest (a.put o.dst v') w') : wpList P ops Q (o :: rest) a (W.alloc (.cells #[.int .i64 m.kd, .int .i64 m.vw, .int .i64 m.sq, .int .i64 m.fr, .string m.dg, .string m.bd, .string m.mc] 39)) := by
  subst hgx
  have hown' := hown.alloc (.cells #[.int .i64 m.kd, .int .i64 m.vw, .int .i64 m.sq, .int .i64 m.fr, .string m.dg, .string m.bd, .string m.mc] 39)
  refine wpList_append_own_at (P := P) _ hgd s x t ho B 39 i _ 7 80 ht hi hz hsize hby rfl (by decide) v ms.length _ hs hown' ⟨W.heap.size, 0, none⟩ 1 1 (cl m) hx rfl ?_ (cl_one m) (by unfold maxLen; omega) (by omega) (by simp; omega) ?_
  · intro j u hj
    have h2 : (⟨W.heap.size, 0, none⟩ : Addr).add j = ⟨W.heap.size, j, none⟩ := by unfold Addr.add; split <;> simp_all
    rw [h2, Joins.cell_of_block (heap_alloc_new W _), ← hj]
    simp [cl]
  · intro v' w' h1 h2 h3 h4
    refine h v' w' (by unfold OwnM; rw [List.flatMap_append, List.length_append]; simpa using h1) ((hg0.alloc hB _).grown h2 (by simp; omega) (fun k hk => (hown'.lt k hk).1)) (fun k hk hn => ⟨(h2.block k (by simp; omega) hn).trans (Below.heap_alloc W _ k hk), fun e => ?_⟩)
    rcases h4 with h4 | h4
    · exact hn (e.trans h4)
    · rw [h4] at e
      simp at e
      omega
/-- What one text reads as: the message, and the code. -/
theorem rd_ex (t : ByteArray) : ∃ (m : Mg) (c : Int), readMsg (bys t) = .tuple #[oneV m, .int .i64 c] := by
  obtain ⟨kd, vw, sq, fr, dg, bd, mc, code, h⟩ := readMsg_form (bys t)
  exact ⟨⟨kd, vw, sq, fr, dg, bd, mc⟩, code, h⟩
noncomputable def mOf (t : ByteArray) : Mg := (rd_ex t).choose
noncomputable def cOf (t : ByteArray) : Int := (rd_ex t).choose_spec.choose
theorem rd_eq (t : ByteArray) : readMsg (bys t) = .tuple #[oneV (mOf t), .int .i64 (cOf t)] := (rd_ex t).choose_spec.choose_spec
theorem tup_inj {a b : Value} {c d : Int} (h : Value.tuple #[a, .int .i64 c] = .tuple #[b, .int .i64 d]) : a = b ∧ c = d := by
  injection h with h
  have h2 := congrArg Array.toList h
  simp at h2
  exact h2
theorem one_inj {x y : Mg} (h : oneV x = oneV y) : x = y := by
  unfold oneV at h
  injection h with h
  have h2 := congrArg Array.toList h
  cases x
  cases y
  simp at h2
  simp [h2]
theorem ok_right (t : ByteArray) (h : cOf t = 0) : mB (mOf t) = true := by
  have e := rd_eq t
  rw [h] at e
  unfold readMsg rjV at e
  split at e
  · obtain ⟨_, h2⟩ := tup_inj e
    cases h2
  · split at e
    · rename_i h3
      obtain ⟨h1, _⟩ := tup_inj e
      rw [Bool.and_eq_true, Bool.and_eq_true] at h3
      have h4 := h3.2.2
      have h5 := one_inj (x := ⟨_, _, _, _, _, _, _⟩) h1
      rw [← h5]
      exact h4
    · obtain ⟨_, h2⟩ := tup_inj e
      cases h2
end Go.Proofs.YtmknnkhehkegcaaGreatDoor.Rc
