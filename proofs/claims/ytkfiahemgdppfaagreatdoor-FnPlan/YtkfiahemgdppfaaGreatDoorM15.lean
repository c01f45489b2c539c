/- Texts put together: Rc2, Rc3, Qm, Sm6, Si2. -/
import Derived.Test.YtkfiahemgdppfaaGreatDoorM14
import Derived.Lib.ConvBytes
import Derived.Test.YtkfiahemgdppfaaGreatDoorM8
import Derived.Test.YtkfiahemgdppfaaGreatDoorM13
import Derived.Test.YtkfiahemgdppfaaGreatDoorM7
import Derived.Test.YtkfiahemgdppfaaGreatDoorM2
import Derived.Deep.RegionHeldLaw
/- Certificates are read: the program. -/
namespace Go.Proofs.YtkfiahemgdppfaaGreatDoor.Rc
open Go.RowKit Go.Proofs.YtkfiahemgdppfaaGreatDoor.Sl Go.Proofs.YtkfiahemgdppfaaGreatDoor.By Go.Proofs.YtkfiahemgdppfaaGreatDoor.Ap Go.Proofs.YtkfiahemgdppfaaGreatDoor.Rq Go.Proofs.YtkfiahemgdppfaaGreatDoor.Rr Go.Proofs.YtkfiahemgdppfaaGreatDoor.Of Go.Proofs.YtkfiahemgdppfaaGreatDoor.Om Go.Proofs.YtkfiahemgdppfaaGreatDoor.Ms Go.Proofs.YtkfiahemgdppfaaGreatDoor.Gm Go.Proofs.YtkfiahemgdppfaaGreatDoor.Cb
open Go.Proofs.YtkfiahemgdppfaaGreatDoor.Ty (RowT tnth)
open Go.Proofs.YtkfiahemgdppfaaGreatDoor.Tl (OwnS)
open Go.Proofs.YtkfiahemgdppfaaGreatDoor.Rl (rdC rdL implReadList_any)
open Go.Proofs.YtkfiahemgdppfaaGreatDoor.Rg (RowG RowG.slice RowG.at lt_at mem_at bel_new)

theorem bytes_run (s : ByteArray) (w : World) : ∃ v' w', (convert 9 22 (.string s)).run Tryz.prog w = .ok v' w' ∧ RowB w' v' (bys s) ∧ Below w.heap.size w w' := by
  refine ⟨_, _, Lib.run_convert_string_bytes w 9 22 5 s (u := .string) Tryz.underlying9 Tryz.underlying22 Tryz.underlying5, ⟨_, _, by rw [bys_length], .inr ⟨w.heap.size, 0, rfl, by rw [bys_length]; exact grownCap_ge _ _ _ _, by rw [Lib.bytesWorld_size]; omega, fun i hi => ?_⟩, bys_range s⟩, ?_⟩
  · rw [bys_length] at hi
    rw [Nat.zero_add, Lib.bytesWorld_cell w 5 s i hi]
    unfold nth bys
    have hi' : i < s.data.toList.length := by simpa using hi
    rw [List.getD_eq_getElem?_getD, List.getD_eq_getElem?_getD, List.getElem?_map, List.getElem?_eq_getElem hi']
    rfl
  · refine ⟨?_, ?_, ?_, by rw [Lib.bytesWorld_size]; omega, fun k hk => Lib.bytesWorld_at_old w _ s k hk⟩ <;> simp [Lib.bytesWorld, World.freeze, World.alloc, World.drew, -World.alloc_eq, -World.drew_eq]
noncomputable def okT1 (t : ByteArray) : Bool := decide (cOf t = 0)
noncomputable def allOK (ts : List ByteArray) : Bool := ts.all okT1
noncomputable def msOf (ts : List ByteArray) : List Mg := ts.map mOf
noncomputable def rmOut (ts : List ByteArray) : List Mg := if allOK ts then msOf ts else []
theorem at_some {ts : List ByteArray} {k : Nat} (h : k < ts.length) : ts[k]? = some (tnth ts k) := by
  unfold tnth; rw [List.getD_eq_getElem?_getD, List.getElem?_eq_getElem h]; rfl
theorem ok_step {ts : List ByteArray} {k : Nat} (h : k < ts.length) : allOK (ts.drop k) = (okT1 (tnth ts k) && allOK (ts.drop (k + 1))) := by
  have e := at_some h
  obtain ⟨hk, e2⟩ := List.getElem?_eq_some_iff.1 e
  unfold allOK
  rw [List.drop_eq_getElem_cons hk, List.all_cons, e2]
theorem ms_step {ts : List ByteArray} {k : Nat} (h : k < ts.length) : msOf (ts.take (k + 1)) = msOf (ts.take k) ++ [mOf (tnth ts k)] := by
  unfold msOf
  rw [List.take_add_one, at_some h]
  simp
theorem ret_vb {v : Value} {a b : Bool} (h : a = b) : Ending.returned (.tuple #[v, .bool a]) = .returned (.tuple #[v, .bool b]) := by rw [h]
set_option maxRecDepth 100000 in
set_option maxHeartbeats 1600000 in
theorem readMessages_any (v : Value) (ts : List ByteArray) (w : World) (h : RowT w v ts) (hl : ts.length ≤ 1000000) (hs : ∀ t ∈ ts, t.size ≤ 1048576) :
    Calls Tryz.prog 117 #[v] w fun e w' => ∃ v', e = .returned (.tuple #[v', .bool (allOK ts)]) ∧ OwnM w' w.heap.size v' (rmOut ts) ∧ Below w.heap.size w w' := by
  obtain ⟨i0, hi0, hz0, hz1, hz2⟩ := info_parts info_m
  have HR : Hid (RowT w v ts) := h
  obtain ⟨a, cap, rfl, _⟩ := h
  have HS : Hid (∀ t ∈ ts, t.size ≤ 1048576) := hs
  clear hs
  go_enter Tryz.func117, Tryz.ntmps117
  go_wp2_with fail
  go_loopw [4, 11] (fun b i wr => ∃ k : Nat, k ≤ ts.length ∧ i = .int .i64 k ∧ Hid (OwnM wr w.heap.size b (msOf (ts.take k)) ∧ allOK ts = allOK (ts.drop k) ∧ Below w.heap.size w wr)) (fun _ i _ => ts.length - (intOf i).toNat)
  case atStart => exact ⟨0, by omega, rfl, ⟨OwnM.nil _ _, by rw [List.drop_zero], Below.refl _ _⟩⟩
  case round =>
    obtain ⟨k, hk, rfl, HO⟩ := hrel
    obtain ⟨v0, rfl⟩ : ∃ v0, v0 = u4 := ⟨_, rfl⟩
    by_cases hlt : k < ts.length
    · obtain ⟨a', cap', he, hc⟩ := HR.out.below HO.out.2.2
      rcases hc with hc | ⟨b, off, rfl, _, hbl, hcell⟩
      · exact absurd hlt (by rw [hc]; simp)
      cases he
      have c0 := hcell k hlt
      have HST := ok_step hlt
      have HMS := ms_step hlt
      have HTS : Hid ((tnth ts k).size ≤ 1048576) := HS.out _ (List.mem_of_getElem? (at_some hlt))
      have HLN : Hid ((msOf (ts.take k)).length ≤ 1000000) := by show _ ≤ _; unfold msOf; rw [List.length_map, List.length_take]; omega
      have HSTP : Hid (allOK (ts.drop k) = (okT1 (tnth ts k) && allOK (ts.drop (k + 1)))) := HST
      have HMSP : Hid (msOf (ts.take (k + 1)) = msOf (ts.take k) ++ [mOf (tnth ts k)]) := HMS
      clear hcell HST HMS
      generalize tnth ts k = t at c0 HSTP HMSP HTS
      obtain ⟨v2, w2, hcv, r2, b2⟩ := bytes_run t wr
      have HRM := implReadMessage_any v2 (bys t) w2 r2 (by rw [bys_length]; exact HTS.out)
      rw [rd_eq] at HRM
      have HCE : Hid (okT1 t = decide (cOf t = 0)) := rfl
      have B2 : Hid (Below wr.heap.size wr w2) := b2
      have HRM2 : Hid (Calls Tryz.prog 137 #[v2] w2 fun e w' => e = .returned (.tuple #[oneV (mOf t), .int .i64 (cOf t)]) ∧ Below w2.heap.size w2 w') := HRM
      clear r2 b2 HRM
      generalize mOf t = m at HRM2 HMSP
      generalize cOf t = cd at HRM2 HCE
      generalize okT1 t = ok1 at HSTP HCE
      unfold oneV at HRM2
      go_wp2_with fail
      refine HRM2.out.mono ?_
      rintro e w3 ⟨rfl, b3⟩
      have B3 : Hid (Below wr.heap.size wr w3) := B2.out.trans (b3.mono B2.out.size)
      clear b3 HRM2 hcv c0
      by_cases hcd : cd = 0
      · rw [decide_eq_true hcd] at HCE
        have HA : Hid (allOK ts = allOK (ts.drop (k + 1))) := by show _ = _; rw [HO.out.2.1, HSTP.out, HCE.out]; rfl
        have hcd' : (cd != 0) = false := by simp [hcd]
        have b4 := B3.out.trans ((bel_new w3 (.cells #[.int .i64 m.kd, .int .i64 m.vw, .int .i64 m.sq, .int .i64 m.fr, .string m.dg, .string m.bd, .string m.mc] 26)).mono B3.out.size)
        have O4 : Hid (OwnM (w3.alloc (.cells #[.int .i64 m.kd, .int .i64 m.vw, .int .i64 m.sq, .int .i64 m.fr, .string m.dg, .string m.bd, .string m.mc] 26)) w.heap.size v0 (msOf (ts.take k)) ∧ Below w.heap.size w (w3.alloc (.cells #[.int .i64 m.kd, .int .i64 m.vw, .int .i64 m.sq, .int .i64 m.fr, .string m.dg, .string m.bd, .string m.mc] 26))) := ⟨HO.out.1.below b4, HO.out.2.2.trans (b4.mono HO.out.2.2.size)⟩
        clear hcd HCE HSTP HO B2 B3 b4
        go_wp2_with (at_builtin; go_must (refine list_msg (by rfl) _ _ 24 (by rfl) i0 Tryz.underlying24 hi0 hz0 hz1 hz2 w.heap.size w _ _ _ m (by rfl) O4.out.1 O4.out.2 O4.out.2.size _ (by rfl) (by simp) HLN.out ?_; intro v5 w5 o5 b5 _))
        exact ⟨⟨k + 1, by omega, by go_num, ⟨by rw [HMSP.out]; exact o5, HA.out, b5⟩⟩, by simp [intOf]; omega⟩
      · rw [decide_eq_false hcd] at HCE
        have HA : Hid (allOK ts = false) := by show _ = _; rw [HO.out.2.1, HSTP.out, HCE.out]; rfl
        have HA2 : Hid (rmOut ts = []) := by show _ = _; unfold rmOut; rw [HA.out]; rfl
        have hcd' : (cd != 0) = true := by simp [hcd]
        have B4 : Hid (Below w.heap.size w (w3.alloc (.cells #[.int .i64 m.kd, .int .i64 m.vw, .int .i64 m.sq, .int .i64 m.fr, .string m.dg, .string m.bd, .string m.mc] 26))) := HO.out.2.2.trans ((B3.out.trans ((bel_new w3 _).mono B3.out.size)).mono HO.out.2.2.size)
        clear hcd HCE HSTP HO B2 B3
        go_wp2_with fail
        go_ret2
        exact ⟨_, ret_vb HA.out.symm, by rw [HA2.out]; exact OwnM.nil _ _, B4.out⟩
    · obtain rfl : k = ts.length := by omega
      rw [List.take_length, List.drop_length] at HO
      have HA : Hid (allOK ts = true) := HO.out.2.1.trans rfl
      have HA2 : Hid (rmOut ts = msOf ts) := by show _ = _; unfold rmOut; rw [HA.out]; rfl
      go_wp2_with fail
      go_ret2
      exact ⟨_, ret_vb HA.out.symm, by rw [HA2.out]; exact HO.out.1, HO.out.2.2⟩
/-- What ReadCert answers. -/
noncomputable def rcOK (xs : List Int) : Bool := decide (rdC xs = 0) && (match rdL xs with | [] => false | _ :: ts => allOK ts && cfB (msOf ts))
noncomputable def rcCode (xs : List Int) : Int := if rcOK xs then 0 else if rdC xs = 0 then 3 else rdC xs
noncomputable def rcBd (xs : List Int) : ByteArray := if rcOK xs then (match rdL xs with | [] => ⟨#[]⟩ | t :: _ => t) else ⟨#[]⟩
noncomputable def rcMs (xs : List Int) : List Mg := if rcOK xs then (match rdL xs with | [] => [] | _ :: ts => msOf ts) else []
theorem rc_no {xs : List Int} (h : rcOK xs = false) : rcBd xs = ⟨#[]⟩ ∧ rcMs xs = [] ∧ rcCode xs = (if rdC xs = 0 then 3 else rdC xs) := by unfold rcBd rcMs rcCode; rw [h]; exact ⟨rfl, rfl, rfl⟩
theorem rc_yes {xs : List Int} {t : ByteArray} {ts : List ByteArray} (h0 : rdC xs = 0) (hL : rdL xs = t :: ts) (h1 : allOK ts = true) (h2 : cfB (msOf ts) = true) : rcBd xs = t ∧ rcMs xs = msOf ts ∧ rcCode xs = 0 := by
  have h : rcOK xs = true := by unfold rcOK; rw [hL, h0]; simp only; rw [h1, h2]; rfl
  unfold rcBd rcMs rcCode
  rw [h, hL]
  exact ⟨rfl, rfl, rfl⟩
theorem rdL_size (xs : List Int) (hr : ∀ x ∈ xs, 0 ≤ x ∧ x ≤ 255) : ∀ t ∈ rdL xs, t.size ≤ 65535 := by
  intro t ht
  unfold Rl.rdL Rl.rlO at ht
  split at ht
  · obtain ⟨j, hj, e⟩ := List.mem_iff_getElem.1 ht
    have hj2 : j < Tl.tlN xs := by rw [Tl.lT_length] at hj; exact hj
    have h1 := Rl.lT_at (tkR 1 xs) _ _ hj2
    have h2 := at_some hj
    rw [List.getElem?_eq_getElem hj, e] at h2
    rw [Option.some.inj h2, h1]
    exact Rl.txt_small _ (Tl.lR_range (tkR_range (n := 1) hr) j)
  · cases ht
end Go.Proofs.YtkfiahemgdppfaaGreatDoor.Rc

/- Certificates are read: ReadCert of the program. -/
namespace Go.Proofs.YtkfiahemgdppfaaGreatDoor.Rc
open Go.RowKit Go.Proofs.YtkfiahemgdppfaaGreatDoor.Sl Go.Proofs.YtkfiahemgdppfaaGreatDoor.By Go.Proofs.YtkfiahemgdppfaaGreatDoor.Ap Go.Proofs.YtkfiahemgdppfaaGreatDoor.Rq Go.Proofs.YtkfiahemgdppfaaGreatDoor.Rr Go.Proofs.YtkfiahemgdppfaaGreatDoor.Of Go.Proofs.YtkfiahemgdppfaaGreatDoor.Om Go.Proofs.YtkfiahemgdppfaaGreatDoor.Ms Go.Proofs.YtkfiahemgdppfaaGreatDoor.Gm Go.Proofs.YtkfiahemgdppfaaGreatDoor.Cb
open Go.Proofs.YtkfiahemgdppfaaGreatDoor.Ty (RowT tnth)
open Go.Proofs.YtkfiahemgdppfaaGreatDoor.Tl (OwnS)
open Go.Proofs.YtkfiahemgdppfaaGreatDoor.Rl (rdC rdL implReadList_any)
open Go.Proofs.YtkfiahemgdppfaaGreatDoor.Rg (RowG RowG.slice RowG.at lt_at mem_at bel_new)

theorem ret_cc {a : ByteArray} {b : ByteArray} {v : Value} {c d : Int} (h : a = b ∧ c = d) : Ending.returned (.tuple #[.agg #[.string a, v], .int .i64 c]) = .returned (.tuple #[crtV b v, .int .i64 d]) := by rw [h.1, h.2]; rfl
theorem rdC_cases (xs : List Int) : rdC xs = 0 ∨ rdC xs = 2 ∨ rdC xs = 3 := by
  unfold Rl.rdC Rl.rlC
  split
  · exact .inr (.inl rfl)
  · split
    · exact .inl rfl
    · exact .inr (.inr rfl)
set_option maxRecDepth 100000 in
set_option maxHeartbeats 1600000 in
theorem implReadCert_any (v : Value) (xs : List Int) (w : World) (h : RowB w v xs) (hl : xs.length ≤ 1048576) :
    Calls Tryz.prog 94 #[v] w fun e w' => ∃ vp, e = .returned (.tuple #[crtV (rcBd xs) vp, .int .i64 (rcCode xs)]) ∧ OwnM w' w.heap.size vp (rcMs xs) ∧ Below w.heap.size w w' := by
  have hr : ∀ x ∈ xs, 0 ≤ x ∧ x ≤ 255 := by obtain ⟨_, _, _, _, h⟩ := h; exact h
  have HSM : Hid (∀ t ∈ rdL xs, t.size ≤ 65535) := rdL_size xs hr
  have HLL : Hid ((rdL xs).length ≤ 65535) := Rl.rdL_small xs hr
  have HRL := implReadList_any v xs (w.alloc (.cells #[.string ⟨#[]⟩, .slice none 0 0] 37)) (h.below (bel_new _ _)) hl
  clear hr h
  go_enter Tryz.func94, Tryz.ntmps94
  go_wp2_with fail
  refine HRL.mono ?_
  rintro e w1 ⟨v1, rfl, o1, b1⟩
  have K0 : Hid (w1.heap[w.heap.size]? = some (.cells #[.string ⟨#[]⟩, .slice none 0 0] 37 (0, 0))) := (b1.block w.heap.size (by simp)).trans (heap_alloc_new w _)
  have KB : Hid (Below w.heap.size w w1) := (bel_new w _).trans (b1.mono (by simp))
  have O1 : Hid (OwnS w1 (w.alloc (.cells #[.string ⟨#[]⟩, .slice none 0 0] 37)).heap.size v1 (rdL xs)) := o1
  clear b1 o1 HRL
  by_cases h0 : rdC xs = 0
  · have hRT := Tl.OwnS.row O1.out
    rw [h0]
    obtain ⟨a, cap, rfl, hh⟩ := hRT
    have HHH : Hid (rdL xs = [] ∨ ∃ b off, a = some ⟨b, off, none⟩ ∧ (rdL xs).length ≤ cap ∧ b < w1.heap.size ∧ ∀ i, i < (rdL xs).length → w1.cell? ⟨b, off + i, none⟩ = some (.string (tnth (rdL xs) i))) := hh
    clear hh O1
    cases hL : rdL xs with
    | nil =>
      have HN : Hid (rcBd xs = ⟨#[]⟩ ∧ rcMs xs = [] ∧ rcCode xs = 3) := by
        have h1 := rc_no (xs := xs) (by unfold rcOK; rw [hL]; simp)
        rw [if_pos h0] at h1
        exact h1
      clear hL h0 HHH HSM HLL
      obtain ⟨m0, n0⟩ := blk_cell K0.out 0 (x := .string ⟨#[]⟩) rfl
      obtain ⟨m1, n1⟩ := blk_cell K0.out 1 (x := .slice none 0 0) rfl
      have AF : ((w1.setCell ⟨w.heap.size, 0, none⟩ (.string ⟨#[]⟩)).setCell ⟨w.heap.size, 1, none⟩ (.slice none 0 0)).heap[w.heap.size]? = some (.cells #[.string ⟨#[]⟩, .slice none 0 0] 37 (0, 0)) := (blk_set (blk_set K0.out 0 (.string ⟨#[]⟩)) 1 (.slice none 0 0))
      have GF : Hid (Below w.heap.size w ((w1.setCell ⟨w.heap.size, 0, none⟩ (.string ⟨#[]⟩)).setCell ⟨w.heap.size, 1, none⟩ (.slice none 0 0))) := (Below.setCell (Below.setCell KB.out (p := ⟨w.heap.size, 0, none⟩) (Nat.le_refl _) (.string ⟨#[]⟩)) (p := ⟨w.heap.size, 1, none⟩) (Nat.le_refl _) (.slice none 0 0))
      go_wp2_with fail
      generalize ((w1.setCell ⟨w.heap.size, 0, none⟩ (.string ⟨#[]⟩)).setCell ⟨w.heap.size, 1, none⟩ (.slice none 0 0)) = wf at AF GF ⊢
      have d0 := (blk_cell AF 0 (x := .string ⟨#[]⟩) rfl).1
      have d1 := (blk_cell AF 1 (x := .slice none 0 0) rfl).1
      exact bodyPost_ret (v := .tuple #[.agg #[.string ⟨#[]⟩, .slice none 0 0], .int .i64 3]) (by simp [results, Tryz.results94, go_sem, d0, d1]) rfl ⟨_, ret_cc ⟨HN.out.1.symm, HN.out.2.2.symm⟩, by rw [HN.out.2.1]; exact OwnM.nil _ _, GF.out⟩
    | cons t0 ts =>
      have HL : Hid (rdL xs = t0 :: ts) := hL
      rw [hL] at HHH HSM HLL
      clear hL
      obtain ⟨b, off, rfl, hc, hbl, hcell⟩ := (HHH.out.resolve_left (by simp))
      clear HHH
      have c0 : w1.cell? ⟨b, off, none⟩ = some (.string t0) := hcell 0 (by simp)
      have hc1 : ts.length + 1 ≤ cap := by simpa using hc
      have HR1 : RowT w1 (.slice (some ⟨b, off + 1, none⟩) ts.length (cap - 1)) ts := by
        refine ⟨_, _, rfl, .inr ⟨b, off + 1, rfl, by omega, hbl, fun i hi => ?_⟩⟩
        have := hcell (i + 1) (by simp; omega)
        rw [show off + 1 + i = off + (i + 1) by omega, this]
        rfl
      have hlen : ts.length + 1 ≤ 65535 := by have := HLL.out; simpa using this
      have HRM := readMessages_any _ ts w1 HR1 (by omega) (fun t ht => by have := HSM.out t (List.mem_cons_of_mem _ ht); omega)
      have HRMM : Hid (Calls Tryz.prog 117 #[.slice (some ⟨b, off + 1, none⟩) ts.length (cap - 1)] w1 fun e w' => ∃ v', e = .returned (.tuple #[v', .bool (allOK ts)]) ∧ OwnM w' w1.heap.size v' (rmOut ts) ∧ Below w1.heap.size w1 w') := HRM
      clear hcell hc HR1 HRM HSM HLL
      have HRM0 : Hid (ts.length = 0 → Calls Tryz.prog 117 #[.slice (some ⟨b, off, none⟩) ts.length 0] w1 fun e w' => ∃ v', e = .returned (.tuple #[v', .bool (allOK ts)]) ∧ OwnM w' w1.heap.size v' (rmOut ts) ∧ Below w1.heap.size w1 w') := fun h => readMessages_any _ ts w1 ⟨_, _, rfl, .inl (List.length_eq_zero_iff.1 h)⟩ (by omega) (fun t ht => by rw [List.length_eq_zero_iff.1 h] at ht; cases ht)
      rw [List.length_cons]
      go_wp2_with fail
      all_goals
        first
          | (with_reducible refine HRMM.out.mono ?_)
          | (with_reducible refine (HRM0.out (by omega)).mono ?_)
        rintro e w2 ⟨v2, rfl, o2, b2⟩
        have c2 : w2.cell? ⟨b, off, none⟩ = some (.string t0) := (b2.cell (p := ⟨b, off, none⟩) hbl).trans c0
        have k0l := (Array.getElem?_eq_some_iff.1 K0.out).1
        have K02 : Hid (w2.heap[w.heap.size]? = some (.cells #[.string ⟨#[]⟩, .slice none 0 0] 37 (0, 0))) := (b2.block _ k0l).trans K0.out
        have KB2 : Hid (Below w.heap.size w w2) := KB.out.trans (b2.mono KB.out.size)
        obtain ⟨a2, cap2, rfl⟩ := RowG.slice (OwnM.row o2)
        have O2 : Hid (OwnM w2 w.heap.size (.slice a2 (rmOut ts).length cap2) (rmOut ts)) := o2.mono KB.out.size
        clear o2 b2 c0 k0l K0 KB HRMM HRM0
        obtain ⟨mm, HMM⟩ : ∃ mm, Hid (rmOut ts = mm) := ⟨_, rfl⟩
        rw [HMM.out] at O2 ⊢
        have k2l := (Array.getElem?_eq_some_iff.1 K02.out).1
        have K03 : Hid ((w2.alloc (.cells #[.string t0, .slice a2 mm.length cap2] 37)).heap[w.heap.size]? = some (.cells #[.string ⟨#[]⟩, .slice none 0 0] 37 (0, 0))) := (Below.heap_alloc w2 _ _ k2l).trans K02.out
        have X3 : Hid ((w2.alloc (.cells #[.string t0, .slice a2 mm.length cap2] 37)).heap[w2.heap.size]? = some (.cells #[.string t0, .slice a2 mm.length cap2] 37 (0, 0))) := heap_alloc_new w2 _
        have KB3 : Hid (Below w.heap.size w (w2.alloc (.cells #[.string t0, .slice a2 mm.length cap2] 37))) := KB2.out.alloc KB2.out.size _
        have O3 : Hid (OwnM (w2.alloc (.cells #[.string t0, .slice a2 mm.length cap2] 37)) w.heap.size (.slice a2 mm.length cap2) mm) := O2.out.alloc _
        have hml : Hid (mm.length ≤ 1048576) := by show _ ≤ _; rw [← HMM.out]; unfold rmOut msOf; split <;> simp; omega
        clear K02 KB2 O2 k2l
        cases ha : allOK ts with
        | false =>
          have HN : Hid (rcBd xs = ⟨#[]⟩ ∧ rcMs xs = [] ∧ rcCode xs = 3) := by
            have h1 := rc_no (xs := xs) (by unfold rcOK; rw [HL.out]; simp [ha])
            rw [if_pos h0] at h1
            exact h1
          clear h0 HL X3 O3
          go_upto_region 8 with fail
          generalize w2.alloc (.cells #[.string t0, .slice a2 mm.length cap2] 37) = w3 at K03 KB3 ⊢
          clear c2
          obtain ⟨m0, n0⟩ := blk_cell K03.out 0 (x := .string ⟨#[]⟩) rfl
          obtain ⟨m1, n1⟩ := blk_cell K03.out 1 (x := .slice none 0 0) rfl
          have AF : ((w3.setCell ⟨w.heap.size, 0, none⟩ (.string ⟨#[]⟩)).setCell ⟨w.heap.size, 1, none⟩ (.slice none 0 0)).heap[w.heap.size]? = some (.cells #[.string ⟨#[]⟩, .slice none 0 0] 37 (0, 0)) := (blk_set (blk_set K03.out 0 (.string ⟨#[]⟩)) 1 (.slice none 0 0))
          have GF : Hid (Below w.heap.size w ((w3.setCell ⟨w.heap.size, 0, none⟩ (.string ⟨#[]⟩)).setCell ⟨w.heap.size, 1, none⟩ (.slice none 0 0))) := (Below.setCell (Below.setCell KB3.out (p := ⟨w.heap.size, 0, none⟩) (Nat.le_refl _) (.string ⟨#[]⟩)) (p := ⟨w.heap.size, 1, none⟩) (Nat.le_refl _) (.slice none 0 0))
          go_wp2_with fail
          generalize ((w3.setCell ⟨w.heap.size, 0, none⟩ (.string ⟨#[]⟩)).setCell ⟨w.heap.size, 1, none⟩ (.slice none 0 0)) = wf at AF GF ⊢
          have d0 := (blk_cell AF 0 (x := .string ⟨#[]⟩) rfl).1
          have d1 := (blk_cell AF 1 (x := .slice none 0 0) rfl).1
          exact bodyPost_ret (v := .tuple #[.agg #[.string ⟨#[]⟩, .slice none 0 0], .int .i64 3]) (by simp [results, Tryz.results94, go_sem, d0, d1]) rfl ⟨_, ret_cc ⟨HN.out.1.symm, HN.out.2.2.symm⟩, by rw [HN.out.2.1]; exact OwnM.nil _ _, GF.out⟩
        | true =>
          have HMT : Hid (mm = msOf ts) := by show _ = _; rw [← HMM.out]; unfold rmOut; rw [ha]; rfl
          go_upto_region 8 with fail
          obtain ⟨x3, HX3⟩ : ∃ x3, Hid (w2.heap.size = x3) := ⟨_, rfl⟩
          rw [HX3.out] at X3 ⊢
          generalize w2.alloc (.cells #[.string t0, .slice a2 mm.length cap2] 37) = w3 at K03 KB3 X3 O3 ⊢
          have HCF := certFormed_any t0 (.slice a2 mm.length cap2) mm w3 (OwnM.row O3.out) hml.out
          unfold crtV at HCF
          have x0 := (blk_cell X3.out 0 (x := .string t0) rfl).1
          have x1 := (blk_cell X3.out 1 (x := .slice a2 mm.length cap2) rfl).1
          clear c2
          go_wp2_with fail
          refine HCF.mono ?_
          rintro e w4 ⟨rfl, b4⟩
          have k3l := (Array.getElem?_eq_some_iff.1 K03.out).1
          have x3l := (Array.getElem?_eq_some_iff.1 X3.out).1
          have K04 : Hid (w4.heap[w.heap.size]? = some (.cells #[.string ⟨#[]⟩, .slice none 0 0] 37 (0, 0))) := (b4.block _ k3l).trans K03.out
          have X4 : Hid (w4.heap[x3]? = some (.cells #[.string t0, .slice a2 mm.length cap2] 37 (0, 0))) := (b4.block _ x3l).trans X3.out
          have KB4 : Hid (Below w.heap.size w w4) := KB3.out.trans (b4.mono KB3.out.size)
          have O4 : Hid (OwnM w4 w.heap.size (.slice a2 mm.length cap2) mm) := O3.out.below b4
          clear b4 K03 X3 KB3 O3 HCF k3l x3l x0 x1
          cases hf : cfB mm with
          | false =>
            have HN : Hid (rcBd xs = ⟨#[]⟩ ∧ rcMs xs = [] ∧ rcCode xs = 3) := by
              have h1 := rc_no (xs := xs) (by unfold rcOK; rw [HL.out]; simp [ha, ← HMT.out, hf])
              rw [if_pos h0] at h1
              exact h1
            clear h0 HL X4 O4
            obtain ⟨m0, n0⟩ := blk_cell K04.out 0 (x := .string ⟨#[]⟩) rfl
            obtain ⟨m1, n1⟩ := blk_cell K04.out 1 (x := .slice none 0 0) rfl
            have AF : ((w4.setCell ⟨w.heap.size, 0, none⟩ (.string ⟨#[]⟩)).setCell ⟨w.heap.size, 1, none⟩ (.slice none 0 0)).heap[w.heap.size]? = some (.cells #[.string ⟨#[]⟩, .slice none 0 0] 37 (0, 0)) := (blk_set (blk_set K04.out 0 (.string ⟨#[]⟩)) 1 (.slice none 0 0))
            have GF : Hid (Below w.heap.size w ((w4.setCell ⟨w.heap.size, 0, none⟩ (.string ⟨#[]⟩)).setCell ⟨w.heap.size, 1, none⟩ (.slice none 0 0))) := (Below.setCell (Below.setCell KB4.out (p := ⟨w.heap.size, 0, none⟩) (Nat.le_refl _) (.string ⟨#[]⟩)) (p := ⟨w.heap.size, 1, none⟩) (Nat.le_refl _) (.slice none 0 0))
            go_wp2_with fail
            generalize ((w4.setCell ⟨w.heap.size, 0, none⟩ (.string ⟨#[]⟩)).setCell ⟨w.heap.size, 1, none⟩ (.slice none 0 0)) = wf at AF GF ⊢
            have d0 := (blk_cell AF 0 (x := .string ⟨#[]⟩) rfl).1
            have d1 := (blk_cell AF 1 (x := .slice none 0 0) rfl).1
            exact bodyPost_ret (v := .tuple #[.agg #[.string ⟨#[]⟩, .slice none 0 0], .int .i64 3]) (by simp [results, Tryz.results94, go_sem, d0, d1]) rfl ⟨_, ret_cc ⟨HN.out.1.symm, HN.out.2.2.symm⟩, by rw [HN.out.2.1]; exact OwnM.nil _ _, GF.out⟩
          | true =>
            have HN : Hid (rcBd xs = t0 ∧ rcMs xs = mm ∧ rcCode xs = 0) := by
              have h1 := rc_yes h0 HL.out ha (by rw [← HMT.out]; exact hf)
              rw [← HMT.out] at h1
              exact h1
            have HAW : Hid (∀ g, (Value.slice a2 mm.length cap2).ownBlock = some g → g ≠ w.heap.size) := fun g hg e => by
              subst e
              obtain ⟨_, h | ⟨g', cap', cur, he, _, hgg, _⟩⟩ := O4.out
              · rw [h.1] at hg; simp [Value.ownBlock] at hg
              · rw [he] at hg
                simp [Value.ownBlock] at hg
                subst hg
                rw [K04.out] at hgg
                simp at hgg
            clear h0 HL
            have p0 := (blk_cell X4.out 0 (x := .string t0) rfl).1
            have p1 := (blk_cell X4.out 1 (x := .slice a2 mm.length cap2) rfl).1
            obtain ⟨m0, n0⟩ := blk_cell K04.out 0 (x := .string ⟨#[]⟩) rfl
            obtain ⟨m1, n1⟩ := blk_cell K04.out 1 (x := .slice none 0 0) rfl
            have AF : ((w4.setCell ⟨w.heap.size, 0, none⟩ (.string t0)).setCell ⟨w.heap.size, 1, none⟩ (.slice a2 mm.length cap2)).heap[w.heap.size]? = some (.cells #[.string t0, .slice a2 mm.length cap2] 37 (0, 0)) := (blk_set (blk_set K04.out 0 (.string t0)) 1 (.slice a2 mm.length cap2))
            have GF : Hid (Below w.heap.size w ((w4.setCell ⟨w.heap.size, 0, none⟩ (.string t0)).setCell ⟨w.heap.size, 1, none⟩ (.slice a2 mm.length cap2))) := (Below.setCell (Below.setCell KB4.out (p := ⟨w.heap.size, 0, none⟩) (Nat.le_refl _) (.string t0)) (p := ⟨w.heap.size, 1, none⟩) (Nat.le_refl _) (.slice a2 mm.length cap2))
            have OF : Hid (OwnM ((w4.setCell ⟨w.heap.size, 0, none⟩ (.string t0)).setCell ⟨w.heap.size, 1, none⟩ (.slice a2 mm.length cap2)) w.heap.size (.slice a2 mm.length cap2) mm) := O4.out.kept fun g hg => (blk_far (HAW.out g hg) 1 _).trans (blk_far (HAW.out g hg) 0 _)
            go_wp2_with fail
            generalize ((w4.setCell ⟨w.heap.size, 0, none⟩ (.string t0)).setCell ⟨w.heap.size, 1, none⟩ (.slice a2 mm.length cap2)) = wf at AF GF OF ⊢
            have d0 := (blk_cell AF 0 (x := .string t0) rfl).1
            have d1 := (blk_cell AF 1 (x := .slice a2 mm.length cap2) rfl).1
            exact bodyPost_ret (v := .tuple #[.agg #[.string t0, .slice a2 mm.length cap2], .int .i64 0]) (by simp [results, Tryz.results94, go_sem, d0, d1]) rfl ⟨_, ret_cc ⟨HN.out.1.symm, HN.out.2.2.symm⟩, by rw [HN.out.2.1]; exact OF.out, GF.out⟩
  · have hne : (rdC xs != 0) = true := by simp [h0]
    have HN : Hid (rcBd xs = ⟨#[]⟩ ∧ rcMs xs = [] ∧ rcCode xs = rdC xs) := by
      have h1 := rc_no (xs := xs) (by unfold rcOK; simp [h0])
      rw [if_neg h0] at h1
      exact h1
    clear O1 h0 HSM HLL
    generalize rdC xs = cd at HN hne
    obtain ⟨m0, n0⟩ := blk_cell K0.out 0 (x := .string ⟨#[]⟩) rfl
    obtain ⟨m1, n1⟩ := blk_cell K0.out 1 (x := .slice none 0 0) rfl
    have AF : ((w1.setCell ⟨w.heap.size, 0, none⟩ (.string ⟨#[]⟩)).setCell ⟨w.heap.size, 1, none⟩ (.slice none 0 0)).heap[w.heap.size]? = some (.cells #[.string ⟨#[]⟩, .slice none 0 0] 37 (0, 0)) := (blk_set (blk_set K0.out 0 (.string ⟨#[]⟩)) 1 (.slice none 0 0))
    have GF : Hid (Below w.heap.size w ((w1.setCell ⟨w.heap.size, 0, none⟩ (.string ⟨#[]⟩)).setCell ⟨w.heap.size, 1, none⟩ (.slice none 0 0))) := (Below.setCell (Below.setCell KB.out (p := ⟨w.heap.size, 0, none⟩) (Nat.le_refl _) (.string ⟨#[]⟩)) (p := ⟨w.heap.size, 1, none⟩) (Nat.le_refl _) (.slice none 0 0))
    go_wp2_with fail
    generalize ((w1.setCell ⟨w.heap.size, 0, none⟩ (.string ⟨#[]⟩)).setCell ⟨w.heap.size, 1, none⟩ (.slice none 0 0)) = wf at AF GF ⊢
    have d0 := (blk_cell AF 0 (x := .string ⟨#[]⟩) rfl).1
    have d1 := (blk_cell AF 1 (x := .slice none 0 0) rfl).1
    exact bodyPost_ret (v := .tuple #[.agg #[.string ⟨#[]⟩, .slice none 0 0], .int .i64 cd]) (by simp [results, Tryz.results94, go_sem, d0, d1]) rfl ⟨_, ret_cc ⟨HN.out.1.symm, HN.out.2.2.symm⟩, by rw [HN.out.2.1]; exact OwnM.nil _ _, GF.out⟩
end Go.Proofs.YtkfiahemgdppfaaGreatDoor.Rc

/- QuorumOf and PrimaryOf, of the program and of the specification. -/
namespace Go.Proofs.YtkfiahemgdppfaaGreatDoor.Qm
open Go.RowKit Go.Proofs.YtkfiahemgdppfaaGreatDoor.Tm

/-- What QuorumOf and PrimaryOf answer. -/
def qOut (n : Int) : Int := if n = 1 then 1 else if n = 4 then 3 else if n = 7 then 5 else 0
def pOut (v n : Int) : Int := if fCode n = 0 ∧ 0 ≤ v ∧ v ≤ 20 then v % n else 0
def pCode (v n : Int) : Int := if fCode n = 0 ∧ 0 ≤ v ∧ v ≤ 20 then 0 else 4
def inB (x a b : Int) : Bool := decide (a ≤ x ∧ x ≤ b)
theorem ret_bool {a b : Bool} (h : a = b) : Ending.returned (.bool a) = .returned (.bool b) := by rw [h]
theorem within_any (x a b : Int) (w : World) :
    Calls Tryz.prog 19 #[.int .i64 x, .int .i64 a, .int .i64 b] w fun e w' => e = .returned (.bool (inB x a b)) ∧ w = w' := by
  by_cases h1 : a ≤ x
  · by_cases h2 : x ≤ b
    all_goals
      go_enter Tryz.func19, Tryz.ntmps19
      go_wp2
      go_ret
      exact ⟨ret_bool (by unfold inB; rw [Bool.eq_iff_iff]; simp; try omega), rfl⟩
  · go_enter Tryz.func19, Tryz.ntmps19
    go_wp2
    go_ret
    exact ⟨ret_bool (by unfold inB; rw [Bool.eq_iff_iff]; simp; try omega), rfl⟩
theorem l01In_any (x a b : Int) (w : World) :
    Calls Tryz.prog 23 #[.int .i64 x, .int .i64 a, .int .i64 b] w fun e w' => e = .returned (.bool (inB x a b)) ∧ w = w' := by
  by_cases h1 : a ≤ x
  · by_cases h2 : x ≤ b
    all_goals
      go_enter Tryz.func23, Tryz.ntmps23
      go_wp2
      go_ret
      exact ⟨ret_bool (by unfold inB; rw [Bool.eq_iff_iff]; simp; try omega), rfl⟩
  · go_enter Tryz.func23, Tryz.ntmps23
    go_wp2
    go_ret
    exact ⟨ret_bool (by unfold inB; rw [Bool.eq_iff_iff]; simp; try omega), rfl⟩
theorem q_none {n : Int} (h1 : n ≠ 1) (h2 : n ≠ 4) (h3 : n ≠ 7) : qOut n = 0 := by unfold qOut; rw [if_neg h1, if_neg h2, if_neg h3]
set_option maxRecDepth 100000 in
set_option maxHeartbeats 400000 in
theorem implQuorumOf_any (n : Int) (w : World) : Calls Tryz.prog 18 #[.int .i64 n] w fun e w' => e = .returned (.tuple #[.int .i64 (qOut n), .int .i64 (fCode n)]) ∧ w = w' := by
  rcases f_cases n with rfl | rfl | rfl | ⟨h1, h2, h3, e1, e2⟩
  · have C : Calls Tryz.prog 26 #[.int .i64 1] w fun e w' => e = .returned (.tuple #[.int .i64 0, .int .i64 0]) ∧ w' = w := implFaultsOf_any 1 w
    go_enter Tryz.func18, Tryz.ntmps18
    go_wp2_with fail
    refine C.mono ?_
    rintro e w1 ⟨rfl, rfl⟩
    go_wp2_with fail
    go_ret2
    exact ⟨ret_ii ⟨by decide, by decide⟩, rfl⟩
  · have C : Calls Tryz.prog 26 #[.int .i64 4] w fun e w' => e = .returned (.tuple #[.int .i64 1, .int .i64 0]) ∧ w' = w := implFaultsOf_any 4 w
    go_enter Tryz.func18, Tryz.ntmps18
    go_wp2_with fail
    refine C.mono ?_
    rintro e w1 ⟨rfl, rfl⟩
    go_wp2_with fail
    go_ret2
    exact ⟨ret_ii ⟨by decide, by decide⟩, rfl⟩
  · have C : Calls Tryz.prog 26 #[.int .i64 7] w fun e w' => e = .returned (.tuple #[.int .i64 2, .int .i64 0]) ∧ w' = w := implFaultsOf_any 7 w
    go_enter Tryz.func18, Tryz.ntmps18
    go_wp2_with fail
    refine C.mono ?_
    rintro e w1 ⟨rfl, rfl⟩
    go_wp2_with fail
    go_ret2
    exact ⟨ret_ii ⟨by decide, by decide⟩, rfl⟩
  · have C : Calls Tryz.prog 26 #[.int .i64 n] w fun e w' => e = .returned (.tuple #[.int .i64 0, .int .i64 4]) ∧ w' = w := by have := implFaultsOf_any n w; rwa [e1, e2] at this
    have HE : Hid (qOut n = 0 ∧ fCode n = 4) := ⟨q_none h1 h2 h3, e2⟩
    clear h1 h2 h3 e1 e2
    go_enter Tryz.func18, Tryz.ntmps18
    go_wp2_with fail
    refine C.mono ?_
    rintro e w1 ⟨rfl, rfl⟩
    go_wp2_with fail
    go_ret2
    exact ⟨ret_ii ⟨HE.out.1.symm, HE.out.2.symm⟩, rfl⟩
set_option maxRecDepth 100000 in
set_option maxHeartbeats 400000 in
theorem l04Nodes_any (n : Int) (w : World) : Calls Tryz.prog 22 #[.int .i64 n] w fun e w' => e = .returned (.bool (decide (fCode n = 0))) ∧ w = w' := by
  rcases f_cases n with rfl | rfl | rfl | ⟨h1, h2, h3, _, hc⟩
  · go_enter Tryz.func22, Tryz.ntmps22
    go_wp2_with fail
    go_ret
    exact ⟨rfl, rfl⟩
  · go_enter Tryz.func22, Tryz.ntmps22
    go_wp2_with fail
    go_ret
    exact ⟨rfl, rfl⟩
  · go_enter Tryz.func22, Tryz.ntmps22
    go_wp2_with fail
    go_ret
    exact ⟨rfl, rfl⟩
  · have HC : Hid (fCode n = 4) := hc
    clear hc
    go_enter Tryz.func22, Tryz.ntmps22
    go_wp2_with fail
    go_ret
    exact ⟨by rw [HC.out]; simp [h1, h2, h3], rfl⟩
set_option maxRecDepth 100000 in
set_option maxHeartbeats 400000 in
theorem l06Quorum_any (n : Int) (w : World) (h : fCode n = 0) : Calls Tryz.prog 24 #[.int .i64 n] w fun e w' => e = .returned (.int .i64 (qOut n)) ∧ w = w' := by
  rcases f_cases n with rfl | rfl | rfl | ⟨h1, h2, h3, _, hc⟩
  · go_enter Tryz.func24, Tryz.ntmps24
    go_wp2_with fail
    go_ret
    exact ⟨rfl, rfl⟩
  · go_enter Tryz.func24, Tryz.ntmps24
    go_wp2_with fail
    go_ret
    exact ⟨rfl, rfl⟩
  · go_enter Tryz.func24, Tryz.ntmps24
    go_wp2_with fail
    go_ret
    exact ⟨rfl, rfl⟩
  · rw [hc] at h; cases h
theorem p_none {v n : Int} (h : ¬ (fCode n = 0 ∧ 0 ≤ v ∧ v ≤ 20)) : pOut v n = 0 ∧ pCode v n = 4 := by unfold pOut pCode; rw [if_neg h, if_neg h]; exact ⟨rfl, rfl⟩
theorem p_some {v n : Int} (h : fCode n = 0 ∧ 0 ≤ v ∧ v ≤ 20) : pOut v n = v % n ∧ pCode v n = 0 := by unfold pOut pCode; rw [if_pos h, if_pos h]; exact ⟨rfl, rfl⟩
end Go.Proofs.YtkfiahemgdppfaaGreatDoor.Qm

/- Signed messages: their marks, SignMessage, MessageSigned, of the program and of the specification. -/
namespace Go.Proofs.YtkfiahemgdppfaaGreatDoor.Si
open Go.RowKit Go.Proofs.YtkfiahemgdppfaaGreatDoor.Sl Go.Proofs.YtkfiahemgdppfaaGreatDoor.By Go.Proofs.YtkfiahemgdppfaaGreatDoor.Rq Go.Proofs.YtkfiahemgdppfaaGreatDoor.Ap Go.Proofs.YtkfiahemgdppfaaGreatDoor.Sh Go.Proofs.YtkfiahemgdppfaaGreatDoor.Ho Go.Proofs.YtkfiahemgdppfaaGreatDoor.Mr Go.Proofs.YtkfiahemgdppfaaGreatDoor.Ms Go.Proofs.YtkfiahemgdppfaaGreatDoor.Mp Go.Proofs.YtkfiahemgdppfaaGreatDoor.Rp Go.Proofs.YtkfiahemgdppfaaGreatDoor.Pu
open Go.Proofs.YtkfiahemgdppfaaGreatDoor.Tx (blk_cell blk_set blk_far blk_new bel_new)

theorem plainBs_range (kd vw sq fr : Int) (dg bd : ByteArray) : ∀ z ∈ plainBs kd vw sq fr dg bd, 0 ≤ z ∧ z ≤ 255 := by
  intro z hz
  exact msgBs_range kd vw sq fr dg bd ⟨#[]⟩ z (by unfold msgBs; exact List.mem_append_left _ hz)
theorem plain_ne (kd vw sq fr : Int) (dg bd : ByteArray) : plainBs kd vw sq fr dg bd ≠ [] := fun e => by have := plainBs_length kd vw sq fr dg bd; rw [e] at this; simp at this; omega
/-- The mark of a message of the node i. -/
def mmk (kd vw sq : Int) (i : Nat) (dg bd : ByteArray) : ByteArray := mac i (plainBs kd vw sq i dg bd)
theorem mmk_size (kd vw sq : Int) (i : Nat) (dg bd : ByteArray) (hd : dg.size ≤ 32) (hb : bd.size ≤ 20000) : (mmk kd vw sq i dg bd).size = 8 := by
  unfold mmk mac
  have h := hash_size (bys (nsec i) ++ plainBs kd vw sq i dg bd) (by rw [List.length_append, nsec_len, plainBs_length]; omega)
  rw [ByteArray.size_extract, h]; rfl
/-- Cells of a boxed message in every later world. -/
def BoxM (W : World) (b : Nat) (kd vw sq fr : Int) (dg bd mc : ByteArray) : Prop := W.cell? ⟨b, 0, none⟩ = some (.int .i64 kd) ∧ W.cell? ⟨b, 1, none⟩ = some (.int .i64 vw) ∧ W.cell? ⟨b, 2, none⟩ = some (.int .i64 sq) ∧ W.cell? ⟨b, 3, none⟩ = some (.int .i64 fr) ∧ W.cell? ⟨b, 4, none⟩ = some (.string dg) ∧ W.cell? ⟨b, 5, none⟩ = some (.string bd) ∧ W.cell? ⟨b, 6, none⟩ = some (.string mc)
theorem BoxM.of {W : World} {b : Nat} {kd vw sq fr : Int} {dg bd mc : ByteArray} {t : TypeId} (h : W.heap[b]? = some (.cells #[.int .i64 kd, .int .i64 vw, .int .i64 sq, .int .i64 fr, .string dg, .string bd, .string mc] t (0, 0))) : BoxM W b kd vw sq fr dg bd mc :=
  ⟨(blk_cell h 0 rfl).1, (blk_cell h 1 rfl).1, (blk_cell h 2 rfl).1, (blk_cell h 3 rfl).1, (blk_cell h 4 rfl).1, (blk_cell h 5 rfl).1, (blk_cell h 6 rfl).1⟩
set_option maxRecDepth 100000 in
set_option maxHeartbeats 800000 in
theorem messageMark_any (kd vw sq : Int) (i : Nat) (dg bd mc : ByteArray) (w : World) (hi : i < 7) (hq : msgB kd vw sq i dg bd mc = true) (hK : KTab w) (hp : 0 < w.heap.size) :
    Calls Tryz.prog 96 #[msgV kd vw sq i dg bd mc] w fun e w' => e = .returned (.string (mmk kd vw sq i dg bd)) ∧ Below w.heap.size w w' := by
  have GK : Hid (KTab w) := hK
  have C := implMessageBytes_any kd vw sq i dg bd mc
  have HC : Hid (msgCode kd vw sq i dg bd mc = 0) := by show _ = _; unfold msgCode; rw [hq]; rfl
  have HO : Hid (msgOut kd vw sq i dg bd mc = msgBs kd vw sq i dg bd mc) := by show _ = _; unfold msgOut; rw [hq]; rfl
  obtain ⟨hd, hb, hm⟩ := msg_small hq
  have HL : Hid ((msgBs kd vw sq i dg bd mc).length = 7 + dg.size + bd.size + 8) := by show _ = _; rw [msgBs_length, hm]
  have HP : Hid ((plainBs kd vw sq i dg bd).length = 7 + dg.size + bd.size) := plainBs_length _ _ _ _ _ _
  have HT : Hid (∀ j, j < (plainBs kd vw sq i dg bd).length → nth (msgBs kd vw sq i dg bd mc) j = nth (plainBs kd vw sq i dg bd) j) := fun j hj => by
    unfold nth msgBs
    rw [List.getD_eq_getElem?_getD, List.getD_eq_getElem?_getD, List.getElem?_append_left hj]
  have HM : Hid (mac i (bys (strOfNums (plainBs kd vw sq i dg bd))) = mmk kd vw sq i dg bd) := by show _ = _; rw [bys_str _ (plainBs_range kd vw sq i dg bd)]; rfl
  have HZ : Hid ((strOfNums (plainBs kd vw sq i dg bd)).size ≤ 60000) := by show _ ≤ _; rw [strOfNums_size, HP.out]; omega
  have HR : Hid (∀ z ∈ msgBs kd vw sq i dg bd mc, 0 ≤ z ∧ z ≤ 255) := msgBs_range kd vw sq i dg bd mc
  clear hK hm hq
  unfold msgV at C ⊢
  go_enter Tryz.func96, Tryz.ntmps96
  go_wp2_with fail
  refine (C _).mono ?_
  rintro e w1 ⟨v1, rfl, o1, b1⟩
  rw [HO.out] at o1
  have r1 := own_rowB o1 HR.out
  have g1 := box_first b1
  obtain ⟨q0, q1, q2, q3, q4, q5, q6⟩ := msg_box g1
  have B1 : Hid (Below w.heap.size w w1) := box_old g1
  clear b1 o1 g1 C
  obtain ⟨a, cap, rfl, h, _⟩ := r1
  rcases h with h | ⟨b, off, rfl, hc, hbl, hcell⟩
  · have := HL.out; rw [h] at this; simp at this
  rw [HL.out] at hc ⊢
  go_upto_region 2 with fail
  obtain ⟨X, hX, W, QI0, QO0⟩ := Qc.klass w1
  have QI : Hid (∀ w', Below w1.heap.size w1 w' → ∃ x, w' = W x) := QI0
  have QO : Hid (∀ x, Below w1.heap.size w1 (W x)) := QO0
  clear QI0 QO0
  have hcv : ∀ q, (convert 22 9 (.slice (some ⟨b, off, none⟩) (7 + dg.size + bd.size) cap)).run Tryz.prog (W q) = .ok (.string (strOfNums (plainBs kd vw sq i dg bd))) (W q) := fun q => run_convert_bytes_arg (P := Tryz.prog) (W q) 22 5 Tryz.underlying22 Tryz.underlying5 b off (7 + dg.size + bd.size) cap (plainBs kd vw sq i dg bd) HP.out (fun j hj => by
    rw [(QO.out q).cell (p := ⟨b, off + j, none⟩) hbl, hcell j (by have := HL.out; omega), HT.out j (by have := HP.out; omega)]; rfl) 9 Tryz.underlying9
  have y3 := Qc.cell_all QO.out q3
  have HMK : Hid (∀ z, z = strOfNums (plainBs kd vw sq i dg bd) → ∀ q, Calls Tryz.prog 122 #[.int .i64 i, .string z] (W q) fun e w' => e = .returned (.string (mmk kd vw sq i dg bd)) ∧ Below (W q).heap.size (W q) w') := fun z hz q => by
    subst hz
    have hb2 := B1.out.trans ((QO.out q).mono B1.out.size)
    have := markOf_any i _ (W q) (by omega) HZ.out (GK.out.below hb2 hp) (Nat.lt_of_lt_of_le hp hb2.size)
    rwa [HM.out] at this
  obtain ⟨z, HZZ⟩ : ∃ z, Hid (z = strOfNums (plainBs kd vw sq i dg bd)) := ⟨_, rfl⟩
  rw [← HZZ.out] at hcv
  have HMK2 : Hid (∀ q, Calls Tryz.prog 122 #[.int .i64 i, .string z] (W q) fun e w' => e = .returned (.string (mmk kd vw sq i dg bd)) ∧ Below (W q).heap.size (W q) w') := HMK.out z HZZ.out
  obtain ⟨n, hn⟩ : ∃ n, 7 + dg.size + bd.size = n := ⟨_, rfl⟩
  rw [hn] at hc hcv ⊢
  have hn2 : n ≤ 30000 := by omega
  have hn3 : IntKind.i64.wrap (((n + 8 : Nat) : Int) - 8) = (n : Int) := by rw [IntKind.wrap_i64]; omega
  have hn4 : IntKind.i64.wrap ((n : Int) + 8 - 8) = (n : Int) := by rw [IntKind.wrap_i64]; omega
  have hn5 : (n : Int) ≤ (cap : Int) := by omega
  have hn6 : n ≤ cap := by omega
  obtain ⟨mk, HE⟩ : ∃ mk, Hid (mk = mmk kd vw sq i dg bd) := ⟨_, rfl⟩
  rw [← HE.out] at HMK2
  clear hn q0 q1 q2 q3 q4 q5 q6 hcell HL HT HM HZ HP HMK HZZ GK HO HC HR hd hb hi hp hc hbl
  refine Qc.region_class (W := W) (by kernel_rfl) (by kernel_rfl) (QI.out _ Qc.from_drew) ?_
  repeat (go_big_quiet_step (first | (go_at_call 122; refine (HMK2.out _).mono ?_; rintro e w2 ⟨rfl, b2⟩; exact ⟨rfl, Qc.back QI.out QO.out b2⟩)))
  refine wpQuiet_nil ?_
  rintro _ ⟨xq, rfl⟩
  have G2 : Hid (Below w.heap.size w (W xq)) := B1.out.trans ((QO.out xq).mono B1.out.size)
  clear hcv y3
  generalize W xq = wq at G2 ⊢
  go_wp2_with fail
  go_ret
  exact ⟨Tx.ret_str HE.out, G2.out⟩
end Go.Proofs.YtkfiahemgdppfaaGreatDoor.Si

/- SignMessage, of the program and of the specification. -/
namespace Go.Proofs.YtkfiahemgdppfaaGreatDoor.Si
open Go.RowKit Go.Proofs.YtkfiahemgdppfaaGreatDoor.Sl Go.Proofs.YtkfiahemgdppfaaGreatDoor.By Go.Proofs.YtkfiahemgdppfaaGreatDoor.Rq Go.Proofs.YtkfiahemgdppfaaGreatDoor.Ap Go.Proofs.YtkfiahemgdppfaaGreatDoor.Sh Go.Proofs.YtkfiahemgdppfaaGreatDoor.Ho Go.Proofs.YtkfiahemgdppfaaGreatDoor.Mr Go.Proofs.YtkfiahemgdppfaaGreatDoor.Ms Go.Proofs.YtkfiahemgdppfaaGreatDoor.Mp Go.Proofs.YtkfiahemgdppfaaGreatDoor.Rp Go.Proofs.YtkfiahemgdppfaaGreatDoor.Pu
open Go.Proofs.YtkfiahemgdppfaaGreatDoor.Tx (blk_cell blk_set blk_far blk_new bel_new)

theorem two {w w1 : World} {o0 o1 : Obj} (b : Below ((w.alloc o0).alloc o1).heap.size ((w.alloc o0).alloc o1) w1) : w1.heap[w.heap.size]? = some o0 ∧ w1.heap[w.heap.size + 1]? = some o1 ∧ Below w.heap.size w w1 := by
  have e1 : (w.alloc o0).heap.size = w.heap.size + 1 := by simp
  have e2 : ((w.alloc o0).alloc o1).heap.size = w.heap.size + 1 + 1 := by simp
  have b1 : Below w.heap.size w ((w.alloc o0).alloc o1) := ((Below.refl _ _).alloc (Nat.le_refl _) _).alloc (by rw [e1]; omega) _
  rw [e2] at b
  refine ⟨?_, ?_, b1.trans (b.mono (by omega))⟩
  · rw [b.block _ (by omega), Below.heap_alloc _ _ _ (by omega)]; exact heap_alloc_new w _
  · rw [b.block _ (by omega), ← e1]; exact heap_alloc_new _ _
def b8 : ByteArray := ⟨#[46, 46, 46, 46, 46, 46, 46, 46]⟩
theorem msgB_mac (kd vw sq fr : Int) (dg bd : ByteArray) {mc mc' : ByteArray} (h : mc.size = mc'.size) : msgB kd vw sq fr dg bd mc = msgB kd vw sq fr dg bd mc' := by
  unfold msgB; rw [h]
/-- What SignMessage answers. -/
def sOK (id kd vw sq : Int) (dg bd : ByteArray) : Bool := msgB kd vw sq id dg bd b8
def sCode (id kd vw sq : Int) (dg bd : ByteArray) : Int := if inB id 0 6 then (if sOK id kd vw sq dg bd then 0 else 1) else 4
def sV (id kd vw sq : Int) (dg bd : ByteArray) : Value := if inB id 0 6 && sOK id kd vw sq dg bd then msgV kd vw sq id dg bd (mmk kd vw sq id.toNat dg bd) else msgV 0 0 0 0 ⟨#[]⟩ ⟨#[]⟩ ⟨#[]⟩
theorem s_cases (id kd vw sq : Int) (dg bd : ByteArray) : (inB id 0 6 = false ∧ sCode id kd vw sq dg bd = 4 ∧ sV id kd vw sq dg bd = msgV 0 0 0 0 ⟨#[]⟩ ⟨#[]⟩ ⟨#[]⟩) ∨ (inB id 0 6 = true ∧ msgB kd vw sq id dg bd b8 = false ∧ sCode id kd vw sq dg bd = 1 ∧ sV id kd vw sq dg bd = msgV 0 0 0 0 ⟨#[]⟩ ⟨#[]⟩ ⟨#[]⟩) ∨
    (∃ i : Nat, id = i ∧ i < 7 ∧ inB id 0 6 = true ∧ msgB kd vw sq i dg bd b8 = true ∧ sCode id kd vw sq dg bd = 0 ∧ sV id kd vw sq dg bd = msgV kd vw sq i dg bd (mmk kd vw sq i dg bd)) := by
  unfold sCode sV sOK
  cases h1 : inB id 0 6 with
  | false => exact .inl ⟨rfl, rfl, rfl⟩
  | true =>
    cases h2 : msgB kd vw sq id dg bd b8 with
    | false => exact .inr (.inl ⟨rfl, rfl, rfl, rfl⟩)
    | true =>
      unfold inB at h1
      simp only [decide_eq_true_eq] at h1
      obtain ⟨i, rfl⟩ := Int.eq_ofNat_of_zero_le h1.1
      exact .inr (.inr ⟨i, rfl, by omega, rfl, h2, rfl, rfl⟩)
theorem node_any (n : Int) (w : World) : Calls Tryz.prog 119 #[.int .i64 n] w fun e w' => e = .returned (.bool (inB n 0 6)) ∧ w = w' := (nodeOK_any n w).mono fun _ _ h => ⟨h.1, h.2.symm⟩
theorem in_any (x a b : Int) (w : World) : Calls Tryz.prog 23 #[.int .i64 x, .int .i64 a, .int .i64 b] w fun e w' => e = .returned (.bool (inB x a b)) ∧ w = w' := (Rq.l01In_any x a b w).mono fun _ _ h => ⟨h.1, h.2.symm⟩
theorem ret_mc {a b : Value} {c d : Int} (h : a = b ∧ c = d) : Ending.returned (.tuple #[a, .int .i64 c]) = .returned (.tuple #[b, .int .i64 d]) := by rw [h.1, h.2]
end Go.Proofs.YtkfiahemgdppfaaGreatDoor.Si
