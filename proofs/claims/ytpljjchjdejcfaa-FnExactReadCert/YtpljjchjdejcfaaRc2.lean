/- Certificates are read: the program. -/
import Derived.Test.YtpljjchjdejcfaaRc
import Derived.Lib.ConvBytes
namespace Go.Proofs.Ytpljjchjdejcfaa.Rc
open Go.RowKit Go.Proofs.Ytpljjchjdejcfaa.Sl Go.Proofs.Ytpljjchjdejcfaa.By Go.Proofs.Ytpljjchjdejcfaa.Ap Go.Proofs.Ytpljjchjdejcfaa.Rq Go.Proofs.Ytpljjchjdejcfaa.Rr Go.Proofs.Ytpljjchjdejcfaa.Of Go.Proofs.Ytpljjchjdejcfaa.Om Go.Proofs.Ytpljjchjdejcfaa.Ms Go.Proofs.Ytpljjchjdejcfaa.Gm Go.Proofs.Ytpljjchjdejcfaa.Cb
open Go.Proofs.Ytpljjchjdejcfaa.Tx (RowT tnth)
open Go.Proofs.Ytpljjchjdejcfaa.Tl (OwnS)
open Go.Proofs.Ytpljjchjdejcfaa.Rl (rdC rdL implReadList_any)
open Go.Proofs.Ytpljjchjdejcfaa.Rg (RowG RowG.slice RowG.at lt_at mem_at bel_new)

theorem bytes_run (s : ByteArray) (w : World) : ∃ v' w', (convert 9 27 (.string s)).run Try.prog w = .ok v' w' ∧ RowB w' v' (bys s) ∧ Below w.heap.size w w' := by
  refine ⟨_, _, Lib.run_convert_string_bytes w 9 27 5 s (u := .string) Try.underlying9 Try.underlying27 Try.underlying5, ⟨_, _, by rw [bys_length], .inr ⟨w.heap.size, 0, rfl, by rw [bys_length]; exact grownCap_ge _ _ _ _, by rw [Lib.bytesWorld_size]; omega, fun i hi => ?_⟩, bys_range s⟩, ?_⟩
  · rw [bys_length] at hi
    rw [Nat.zero_add, Lib.bytesWorld_cell w 5 s i hi]
    unfold nth bys
    have hi' : i < s.data.toList.length := by simpa using hi
    rw [List.getD_eq_getElem?_getD, List.getD_eq_getElem?_getD, List.getElem?_map, List.getElem?_eq_getElem hi']
    rfl
  · refine ⟨?_, ?_, ?_, by rw [Lib.bytesWorld_size]; omega, fun k hk => Lib.bytesWorld_at_old w _ s k hk⟩ <;> simp [Lib.bytesWorld, World.freeze, World.alloc, World.drew, -World.alloc_eq, -World.drew_eq]
noncomputable def okT1 (t : ByteArray) : Bool := decide (cOf t = 0)
noncomputable def allOK (ts : List ByteArray) : Bool := ts.all okT1
noncomputable def msOf (ts : List ByteArray) : List Mg := ts.map mOf
noncomputable def rmOut (ts : List ByteArray) : List Mg := if allOK ts then msOf ts else []
theorem at_some {ts : List ByteArray} {k : Nat} (h : k < ts.length) : ts[k]? = some (tnth ts k) := by
  unfold tnth; rw [List.getD_eq_getElem?_getD, List.getElem?_eq_getElem h]; rfl
theorem ok_step {ts : List ByteArray} {k : Nat} (h : k < ts.length) : allOK (ts.drop k) = (okT1 (tnth ts k) && allOK (ts.drop (k + 1))) := by
  have e := at_some h
  obtain ⟨hk, e2⟩ := List.getElem?_eq_some_iff.1 e
  unfold allOK
  rw [List.drop_eq_getElem_cons hk, List.all_cons, e2]
theorem ms_step {ts : List ByteArray} {k : Nat} (h : k < ts.length) : msOf (ts.take (k + 1)) = msOf (ts.take k) ++ [mOf (tnth ts k)] := by
  unfold msOf
  rw [List.take_add_one, at_some h]
  simp
theorem ret_vb {v : Value} {a b : Bool} (h : a = b) : Ending.returned (.tuple #[v, .bool a]) = .returned (.tuple #[v, .bool b]) := by rw [h]
set_option maxRecDepth 100000 in
set_option maxHeartbeats 1600000 in
theorem readMessages_any (v : Value) (ts : List ByteArray) (w : World) (h : RowT w v ts) (hl : ts.length ≤ 1000000) (hs : ∀ t ∈ ts, t.size ≤ 1048576) :
    Calls Try.prog 68 #[v] w fun e w' => ∃ v', e = .returned (.tuple #[v', .bool (allOK ts)]) ∧ OwnM w' w.heap.size v' (rmOut ts) ∧ Below w.heap.size w w' := by
  obtain ⟨i0, hi0, hz0, hz1, hz2⟩ := info_parts info_m
  have HR : Hid (RowT w v ts) := h
  obtain ⟨a, cap, rfl, _⟩ := h
  have HS : Hid (∀ t ∈ ts, t.size ≤ 1048576) := hs
  clear hs
  go_enter Try.func68, Try.ntmps68
  go_wp2_with fail
  go_loopw [4, 11] (fun b i wr => ∃ k : Nat, k ≤ ts.length ∧ i = .int .i64 k ∧ Hid (OwnM wr w.heap.size b (msOf (ts.take k)) ∧ allOK ts = allOK (ts.drop k) ∧ Below w.heap.size w wr)) (fun _ i _ => ts.length - (intOf i).toNat)
  case atStart => exact ⟨0, by omega, rfl, ⟨OwnM.nil _ _, by rw [List.drop_zero], Below.refl _ _⟩⟩
  case round =>
    obtain ⟨k, hk, rfl, HO⟩ := hrel
    obtain ⟨v0, rfl⟩ : ∃ v0, v0 = u4 := ⟨_, rfl⟩
    by_cases hlt : k < ts.length
    · obtain ⟨a', cap', he, hc⟩ := HR.out.below HO.out.2.2
      rcases hc with hc | ⟨b, off, rfl, _, hbl, hcell⟩
      · exact absurd hlt (by rw [hc]; simp)
      cases he
      have c0 := hcell k hlt
      have HST := ok_step hlt
      have HMS := ms_step hlt
      have HTS : Hid ((tnth ts k).size ≤ 1048576) := HS.out _ (List.mem_of_getElem? (at_some hlt))
      have HLN : Hid ((msOf (ts.take k)).length ≤ 1000000) := by show _ ≤ _; unfold msOf; rw [List.length_map, List.length_take]; omega
      have HSTP : Hid (allOK (ts.drop k) = (okT1 (tnth ts k) && allOK (ts.drop (k + 1)))) := HST
      have HMSP : Hid (msOf (ts.take (k + 1)) = msOf (ts.take k) ++ [mOf (tnth ts k)]) := HMS
      clear hcell HST HMS
      generalize tnth ts k = t at c0 HSTP HMSP HTS
      obtain ⟨v2, w2, hcv, r2, b2⟩ := bytes_run t wr
      have HRM := implReadMessage_any v2 (bys t) w2 r2 (by rw [bys_length]; exact HTS.out)
      rw [rd_eq] at HRM
      have HCE : Hid (okT1 t = decide (cOf t = 0)) := rfl
      have B2 : Hid (Below wr.heap.size wr w2) := b2
      have HRM2 : Hid (Calls Try.prog 44 #[v2] w2 fun e w' => e = .returned (.tuple #[oneV (mOf t), .int .i64 (cOf t)]) ∧ Below w2.heap.size w2 w') := HRM
      clear r2 b2 HRM
      generalize mOf t = m at HRM2 HMSP
      generalize cOf t = cd at HRM2 HCE
      generalize okT1 t = ok1 at HSTP HCE
      unfold oneV at HRM2
      go_wp2_with fail
      refine HRM2.out.mono ?_
      rintro e w3 ⟨rfl, b3⟩
      have B3 : Hid (Below wr.heap.size wr w3) := B2.out.trans (b3.mono B2.out.size)
      clear b3 HRM2 hcv c0
      by_cases hcd : cd = 0
      · rw [decide_eq_true hcd] at HCE
        have HA : Hid (allOK ts = allOK (ts.drop (k + 1))) := by show _ = _; rw [HO.out.2.1, HSTP.out, HCE.out]; rfl
        have hcd' : (cd != 0) = false := by simp [hcd]
        have b4 := B3.out.trans ((bel_new w3 (.cells #[.int .i64 m.kd, .int .i64 m.vw, .int .i64 m.sq, .int .i64 m.fr, .string m.dg, .string m.bd, .string m.mc] 68)).mono B3.out.size)
        have O4 : Hid (OwnM (w3.alloc (.cells #[.int .i64 m.kd, .int .i64 m.vw, .int .i64 m.sq, .int .i64 m.fr, .string m.dg, .string m.bd, .string m.mc] 68)) w.heap.size v0 (msOf (ts.take k)) ∧ Below w.heap.size w (w3.alloc (.cells #[.int .i64 m.kd, .int .i64 m.vw, .int .i64 m.sq, .int .i64 m.fr, .string m.dg, .string m.bd, .string m.mc] 68))) := ⟨HO.out.1.below b4, HO.out.2.2.trans (b4.mono HO.out.2.2.size)⟩
        clear hcd HCE HSTP HO B2 B3 b4
        go_wp2_with (at_builtin; go_must (refine list_msg (by rfl) _ _ 38 (by rfl) i0 Try.underlying38 hi0 hz0 hz1 hz2 w.heap.size w _ _ _ m (by rfl) O4.out.1 O4.out.2 O4.out.2.size _ (by rfl) (by simp) HLN.out ?_; intro v5 w5 o5 b5 _))
        exact ⟨⟨k + 1, by omega, by go_num, ⟨by rw [HMSP.out]; exact o5, HA.out, b5⟩⟩, by simp [intOf]; omega⟩
      · rw [decide_eq_false hcd] at HCE
        have HA : Hid (allOK ts = false) := by show _ = _; rw [HO.out.2.1, HSTP.out, HCE.out]; rfl
        have HA2 : Hid (rmOut ts = []) := by show _ = _; unfold rmOut; rw [HA.out]; rfl
        have hcd' : (cd != 0) = true := by simp [hcd]
        have B4 : Hid (Below w.heap.size w (w3.alloc (.cells #[.int .i64 m.kd, .int .i64 m.vw, .int .i64 m.sq, .int .i64 m.fr, .string m.dg, .string m.bd, .string m.mc] 68))) := HO.out.2.2.trans ((B3.out.trans ((bel_new w3 _).mono B3.out.size)).mono HO.out.2.2.size)
        clear hcd HCE HSTP HO B2 B3
        go_wp2_with fail
        go_ret2
        exact ⟨_, ret_vb HA.out.symm, by rw [HA2.out]; exact OwnM.nil _ _, B4.out⟩
    · obtain rfl : k = ts.length := by omega
      rw [List.take_length, List.drop_length] at HO
      have HA : Hid (allOK ts = true) := HO.out.2.1.trans rfl
      have HA2 : Hid (rmOut ts = msOf ts) := by show _ = _; unfold rmOut; rw [HA.out]; rfl
      go_wp2_with fail
      go_ret2
      exact ⟨_, ret_vb HA.out.symm, by rw [HA2.out]; exact HO.out.1, HO.out.2.2⟩
/-- What ReadCert answers. -/
noncomputable def rcOK (xs : List Int) : Bool := decide (rdC xs = 0) && (match rdL xs with | [] => false | _ :: ts => allOK ts && cfB (msOf ts))
noncomputable def rcCode (xs : List Int) : Int := if rcOK xs then 0 else if rdC xs = 0 then 3 else rdC xs
noncomputable def rcBd (xs : List Int) : ByteArray := if rcOK xs then (match rdL xs with | [] => ⟨#[]⟩ | t :: _ => t) else ⟨#[]⟩
noncomputable def rcMs (xs : List Int) : List Mg := if rcOK xs then (match rdL xs with | [] => [] | _ :: ts => msOf ts) else []
theorem rc_no {xs : List Int} (h : rcOK xs = false) : rcBd xs = ⟨#[]⟩ ∧ rcMs xs = [] ∧ rcCode xs = (if rdC xs = 0 then 3 else rdC xs) := by unfold rcBd rcMs rcCode; rw [h]; exact ⟨rfl, rfl, rfl⟩
theorem rc_yes {xs : List Int} {t : ByteArray} {ts : List ByteArray} (h0 : rdC xs = 0) (hL : rdL xs = t :: ts) (h1 : allOK ts = true) (h2 : cfB (msOf ts) = true) : rcBd xs = t ∧ rcMs xs = msOf ts ∧ rcCode xs = 0 := by
  have h : rcOK xs = true := by unfold rcOK; rw [hL, h0]; simp only; rw [h1, h2]; rfl
  unfold rcBd rcMs rcCode
  rw [h, hL]
  exact ⟨rfl, rfl, rfl⟩
theorem rdL_size (xs : List Int) (hr : ∀ x ∈ xs, 0 ≤ x ∧ x ≤ 255) : ∀ t ∈ rdL xs, t.size ≤ 65535 := by
  intro t ht
  unfold Rl.rdL Rl.rlO at ht
  split at ht
  · obtain ⟨j, hj, e⟩ := List.mem_iff_getElem.1 ht
    have hj2 : j < Tl.tlN xs := by rw [Tl.lT_length] at hj; exact hj
    have h1 := Rl.lT_at (tkR 1 xs) _ _ hj2
    have h2 := at_some hj
    rw [List.getElem?_eq_getElem hj, e] at h2
    rw [Option.some.inj h2, h1]
    exact Rl.txt_small _ (Tl.lR_range (tkR_range (n := 1) hr) j)
  · cases ht
end Go.Proofs.Ytpljjchjdejcfaa.Rc
