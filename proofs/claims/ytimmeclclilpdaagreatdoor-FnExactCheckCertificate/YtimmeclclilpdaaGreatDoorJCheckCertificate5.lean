/- Texts put together: Cfd, Cfe, Cff. -/
import Derived.Test.YtimmeclclilpdaaGreatDoorJCheckCertificate2
import Derived.Test.YtimmeclclilpdaaGreatDoorJCheckCertificate0
import Derived.Test.YtimmeclclilpdaaGreatDoorGrg
import Derived.Test.YtimmeclclilpdaaGreatDoorJCheckCertificate3
import Derived.Test.YtimmeclclilpdaaGreatDoorJCheckCertificate4
import Derived.Test.YtimmeclclilpdaaGreatDoorQc
import Derived.Test.YtimmeclclilpdaaGreatDoorRt3
import Derived.Deep.RegionHeld3
import Derived.Deep.RegionHeldLaw
/- Certificates of grants as arguments; the program's check of one. -/
namespace Go.Proofs.YtimmeclclilpdaaGreatDoor.Op
open Go.ChangeShapes Go.WideShapes Go.ChangeAt Go.RowKit Go.Deep
theorem cellsGrantI : Tryz.prog.cellsOf 45 = 4 := by kernel_rfl
set_option maxRecDepth 100000 in
theorem open_sigs {H : Type} {enc : TypeId × Value → H} {w : World} {base : Nat} {fuel : Nat} {cs : List Value} {y : DataW H × List MemPlace} (hf : DataW.trod enc Tryz.prog w base (fun _ => true) true fuel 54 cs = some y) :
    ∃ v xs, cs = [v] ∧ Kc.Row w v xs ∧ xs.length ≤ maxLen ∧ ∀ x ∈ xs, Kc.Tz maxLen x := by
  have k1 : Tryz.prog.cellsOf 3 = 1 := by kernel_rfl
  have k2 : Tryz.prog.cellsOf 35 = 1 := by kernel_rfl
  refine Rg.open_rows Tryz.underlying54 (c := 4) (by kernel_rfl) (by decide) (fun n cs b o y hl hc ht => ?_) hf
  obtain ⟨xs, k, hk, _, _, hxl, hff⟩ := DataW.trod_struct Tryz.underlying108 ht
  match cs, hl with
  | [v0, v1, v2, v3], _ =>
    match xs, hxl with
    | [y0, y1, y2, y3], _ =>
      have g0 := hff 0 _ rfl
      have g1 := hff 1 _ rfl
      have g2 := hff 2 _ rfl
      have g3 := hff 3 _ rfl
      simp [k1, k2] at g0 g1 g2 g3
      obtain ⟨z0, q0, _⟩ := DataW.trod_int Tryz.underlying3 g0
      obtain ⟨ta, ra, la, za⟩ := cell_strs ⟨_, _, g1⟩
      obtain ⟨tb, rb, lb, zb⟩ := cell_strs ⟨_, _, g2⟩
      obtain ⟨tc, rc, lc, zc⟩ := cell_strs ⟨_, _, g3⟩
      simp at q0
      subst q0
      exact ⟨⟨z0, ta, tb, tc⟩, ⟨v1, v2, v3, Rg.cell_eq hc 0 (by decide) rfl, Rg.cell_eq hc 1 (by decide) rfl, Rg.cell_eq hc 2 (by decide) rfl, Rg.cell_eq hc 3 (by decide) rfl, ra, rb, rc⟩, ⟨la, lb, lc⟩, za, zb, zc⟩
theorem cell_ints {H : Type} {enc : TypeId × Value → H} {w : World} {base fuel : Nat} {v : Value} {y : DataW H × List MemPlace} (hf : DataW.trod enc Tryz.prog w base (fun _ => true) true fuel 26 [v] = some y) :
    ∃ xs : List Int, Is.RowI w v xs ∧ xs.length ≤ maxLen := by
  rcases Go.ChangeShapes.open_ints Tryz.underlying26 Tryz.underlying3 (by kernel_rfl) hf with ⟨hcs, _⟩ | ⟨x, l, c, zs, hcs, _, hl, hm, hz, _, hcell, hwz⟩
  · simp at hcs
    subst hcs
    exact ⟨[], ⟨none, 0, rfl, .inl rfl, fun _ hx => by cases hx⟩, Nat.zero_le _⟩
  · simp at hcs
    subst hcs
    have hz' : zs.length = c := by simpa using hz
    have hlen : (zs.take l).length = l := by rw [List.length_take]; omega
    refine ⟨zs.take l, ⟨some x, c, by rw [hlen], ?_, ?_⟩, by rw [hlen]; omega⟩
    · by_cases h0 : l = 0
      · exact .inl (by rw [h0]; rfl)
      · obtain ⟨b, off, spot⟩ := x
        have hc := hcell 0 (by omega)
        have hspot : spot = none := by simpa [Addr.add] using World.cell?_spot hc
        subst hspot
        have hc0 : w.cell? ⟨b, off, none⟩ = some (.int .i64 (zs.getD 0 0)) := by simpa [Addr.add] using hc
        refine .inr ⟨b, off, rfl, by omega, World.block_lt_of_cell? w _ hc0, fun i hi => ?_⟩
        have h1 := hcell i (by omega)
        have h2 : (⟨b, off, none⟩ : Addr).add i = ⟨b, off + i, none⟩ := by unfold Addr.add; split <;> simp_all
        rw [h2] at h1
        rw [h1]
        unfold Sl.nth
        rw [List.getD_eq_getElem?_getD, List.getD_eq_getElem?_getD, List.getElem?_take_of_lt (by omega)]
    · intro n hn
      have := hwz n (List.mem_of_mem_take hn)
      simpa [Lit.wf, IntKind.min, IntKind.max, IntKind.signed, IntKind.bits] using this
set_option maxRecDepth 100000 in
theorem open_certificate {H : Type} {enc : TypeId × Value → H} {w : World} {base : Nat} {spare : Nat → Bool} {r : Reach} {b0 : Nat} {v : Value} {d : DataW H} {p : List MemPlace}
    (hv : Value.okWide Tryz.prog w r b0 56 v) (h : DataW.Trod enc Tryz.prog w base spare true 56 v d p) (hs : ∀ b, spare b = true) :
    ∃ (g : Gr12.Gg) (vn vs : Value) (ns : List Int) (ks : List Kc.Ks), v = Kc.crV g vn vs ∧ g.nm.size ≤ maxLen ∧ Is.RowI w vn ns ∧ ns.length ≤ maxLen ∧ Kc.Row w vs ks ∧ ks.length ≤ maxLen ∧ ∀ x ∈ ks, Kc.Tz maxLen x := by
  have hsp : spare = fun _ => true := funext hs
  subst hsp
  have k1 : Tryz.prog.cellsOf 3 = 1 := by kernel_rfl
  have k2 : Tryz.prog.cellsOf 9 = 1 := by kernel_rfl
  have k3 : Tryz.prog.cellsOf 26 = 1 := by kernel_rfl
  have k4 : Tryz.prog.cellsOf 54 = 1 := by kernel_rfl
  obtain ⟨cs, rfl, hsz⟩ := okWide_struct Tryz.underlying56 hv
  obtain ⟨fuel, hf⟩ := h
  obtain ⟨xs, n, _, _, hl, hlen, hfs⟩ := DataW.trod_struct Tryz.underlying56 hf
  have hsz2 : cs.size = 6 := hsz.trans (by kernel_rfl)
  obtain ⟨cl⟩ := cs
  match cl, hsz2 with
  | [c0, c1, c2, c3, c4, c5], _ =>
    match xs, hlen with
    | [y0, y1, y2], _ =>
      have g0 := hfs 0 _ rfl
      have g1 := hfs 1 _ rfl
      have g2 := hfs 2 _ rfl
      simp [Value.cells, k3, k4, cellsGrantI] at g0 g1 g2
      obtain ⟨us, m, _, _, _, hul, hug⟩ := DataW.trod_struct Tryz.underlying45 g0
      match us, hul with
      | [u0, u1, u2, u3], _ =>
        have e0 := hug 0 _ rfl
        have e1 := hug 1 _ rfl
        have e2 := hug 2 _ rfl
        have e3 := hug 3 _ rfl
        simp [k1, k2] at e0 e1 e2 e3
        obtain ⟨z0, q0, _, m0⟩ := DataW.trod_string Tryz.underlying9 e0
        obtain ⟨z1, q1, _⟩ := DataW.trod_int Tryz.underlying3 e1
        obtain ⟨z2, q2, _⟩ := DataW.trod_int Tryz.underlying3 e2
        obtain ⟨z3, q3, _⟩ := DataW.trod_int Tryz.underlying3 e3
        obtain ⟨ns, rn, ln⟩ := cell_ints g1
        obtain ⟨v5, ks, q5, rk, lk, tk⟩ := open_sigs g2
        simp at q0 q1 q2 q3 q5
        subst q0 q1 q2 q3 q5
        exact ⟨⟨z0, z1, z2, z3⟩, _, _, ns, ks, rfl, m0, rn, ln, rk, lk, tk⟩
end Go.Proofs.YtimmeclclilpdaaGreatDoor.Op
namespace Go.Proofs.YtimmeclclilpdaaGreatDoor.Kc
open Go.RowKit Go.Proofs.YtimmeclclilpdaaGreatDoor.Sl Go.Proofs.YtimmeclclilpdaaGreatDoor.By Go.Proofs.YtimmeclclilpdaaGreatDoor.Ap Go.Proofs.YtimmeclclilpdaaGreatDoor.Tx Go.Proofs.YtimmeclclilpdaaGreatDoor.Sh Go.Proofs.YtimmeclclilpdaaGreatDoor.Ho Go.Proofs.YtimmeclclilpdaaGreatDoor.Se Go.Proofs.YtimmeclclilpdaaGreatDoor.Ka Go.Proofs.YtimmeclclilpdaaGreatDoor.Sx Go.Proofs.YtimmeclclilpdaaGreatDoor.Hf Go.Proofs.YtimmeclclilpdaaGreatDoor.Sa Go.Proofs.YtimmeclclilpdaaGreatDoor.Kx Go.Proofs.YtimmeclclilpdaaGreatDoor.Lv Go.Proofs.YtimmeclclilpdaaGreatDoor.Cr Go.Proofs.YtimmeclclilpdaaGreatDoor.Ns
open Go.Proofs.YtimmeclclilpdaaGreatDoor.Cs (implCheckSignature_any vC)

open Go.Proofs.YtimmeclclilpdaaGreatDoor.Tm (fOut fCode implFaultsOf_any)
open Go.Proofs.YtimmeclclilpdaaGreatDoor.Xq (RowJ rnB rnM rn_iff risingNodes_any isV isV_frn)
open Go.Proofs.YtimmeclclilpdaaGreatDoor.Rg (RowG Stays)
open Go.Proofs.YtimmeclclilpdaaGreatDoor.Is (RowI eqIntS_same)
open Go.Proofs.YtimmeclclilpdaaGreatDoor.Gr12 (Gg gV grB gtS gtC tx PTab PTab.below implGrantText_any)

/-- The code of a list of certifiers. -/
noncomputable def cfC (n : Int) (ns : List Int) : Int := if fCode n = 0 then (if rnB n ns = true ∧ (ns.length : Int) = fOut n + 1 then 0 else 19) else 4
/-- The code of the first signature that is wrong. -/
def lpC (t : ByteArray) : List Int → List Ks → Int
  | x :: ns, k :: ks => if vC (rootS (nsd x.toNat)) t k.i k.a k.b k.c = 0 then lpC t ns ks else vC (rootS (nsd x.toNat)) t k.i k.a k.b k.c
  | [], _ => 0
  | _ :: _, [] => 0
noncomputable def ckC (n : Int) (g : Gg) (ns : List Int) (ks : List Ks) : Int := if grB g = true then (if cfC n ns = 0 then (if ks.length = ns.length then lpC (tx g) ns ks else 19) else cfC n ns) else 1
theorem lp_step {t : ByteArray} {ns : List Int} {ks : List Ks} {j : Nat} {x : Int} {k : Ks} (hx : ns[j]? = some x) (hk : ks[j]? = some k) : lpC t (ns.drop j) (ks.drop j) = if vC (rootS (nsd x.toNat)) t k.i k.a k.b k.c = 0 then lpC t (ns.drop (j + 1)) (ks.drop (j + 1)) else vC (rootS (nsd x.toNat)) t k.i k.a k.b k.c := by
  obtain ⟨h1, e1⟩ := List.getElem?_eq_some_iff.1 hx
  obtain ⟨h2, e2⟩ := List.getElem?_eq_some_iff.1 hk
  rw [List.drop_eq_getElem_cons h1, List.drop_eq_getElem_cons h2, e1, e2, lpC]
theorem lp_end {t : ByteArray} {ns : List Int} {ks : List Ks} : lpC t (ns.drop ns.length) (ks.drop ns.length) = 0 := by
  rw [List.drop_length]
  cases ks.drop ns.length <;> rfl
theorem cf_zero {n : Int} {ns : List Int} (h : cfC n ns = 0) : fCode n = 0 ∧ rnB n ns = true ∧ (ns.length : Int) = fOut n + 1 := by
  unfold cfC at h
  split at h
  · split at h
    · exact ⟨by assumption, by assumption⟩
    · cases h
  · cases h
theorem cf_node {n : Int} {ns : List Int} (h : cfC n ns = 0) {x : Int} (hx : x ∈ ns) : inR x 0 6 = true := by
  obtain ⟨e1, e2⟩ := isV_frn ((rn_iff.1 (cf_zero h).2.1).1 x hx)
  unfold inR
  simp
  omega
theorem ck_bad {n : Int} {g : Gg} {ns : List Int} {ks : List Ks} (h : grB g = false) : ckC n g ns ks = 1 := by unfold ckC; rw [h]; rfl
theorem ck_cf {n : Int} {g : Gg} {ns : List Int} {ks : List Ks} (h : grB g = true) (h2 : cfC n ns ≠ 0) : ckC n g ns ks = cfC n ns := by unfold ckC; rw [if_pos h, if_neg h2]
theorem ck_len {n : Int} {g : Gg} {ns : List Int} {ks : List Ks} (h : grB g = true) (h2 : cfC n ns = 0) (h3 : ks.length ≠ ns.length) : ckC n g ns ks = 19 := by unfold ckC; rw [if_pos h, if_pos h2, if_neg h3]
theorem ck_go {n : Int} {g : Gg} {ns : List Int} {ks : List Ks} (h : grB g = true) (h2 : cfC n ns = 0) (h3 : ks.length = ns.length) : ckC n g ns ks = lpC (tx g) (ns.drop 0) (ks.drop 0) := by unfold ckC; rw [if_pos h, if_pos h2, if_pos h3]; rfl
theorem ret_in {a b : Int} (h : a = b) : Ending.returned (.int .i64 a) = .returned (.int .i64 b) := by rw [h]
theorem f_less {n : Int} : 0 ≤ fOut n ∧ fOut n ≤ 2 := by unfold fOut; split; · decide
                                                         split; · decide
                                                         split <;> decide
set_option maxRecDepth 100000 in
set_option maxHeartbeats 1600000 in
theorem certifiersFault_any (n : Int) (v : Value) (ns : List Int) (w : World) (h : RowI w v ns) (hl : ns.length ≤ 1048576) :
    Calls Tryz.prog 32 #[.int .i64 n, v] w fun e w' => e = .returned (.int .i64 (cfC n ns)) ∧ w = w' := by
  have HF := implFaultsOf_any n w
  have HN := risingNodes_any n v ns w (RowJ.of_row h) (by omega)
  obtain ⟨a, cap, rfl, _⟩ := h
  by_cases hc : fCode n = 0
  · have hfl := f_less (n := n)
    rw [hc] at HF
    by_cases hr : rnB n ns = true
    · rw [hr] at HN
      generalize rnM n ns = mm at HN
      by_cases hq : (ns.length : Int) = fOut n + 1
      · have HE : Hid (cfC n ns = 0) := by show _ = _; unfold cfC; rw [if_pos hc, if_pos ⟨hr, hq⟩]
        clear hc hr
        generalize fOut n = fo at HF hq hfl
        go_enter Tryz.func32, Tryz.ntmps32
        go_wp2_with (first | (go_at_call 62; refine HF.mono ?_; rintro e w1 ⟨rfl, rfl⟩) | (go_at_call 63; refine HN.mono ?_; rintro e w1 ⟨rfl, rfl⟩))
        go_ret
        exact ⟨ret_in HE.out.symm, rfl⟩
      · have HE : Hid (cfC n ns = 19) := by show _ = _; unfold cfC; rw [if_pos hc, if_neg (fun hh => hq hh.2)]
        clear hc hr
        generalize fOut n = fo at HF hq hfl
        go_enter Tryz.func32, Tryz.ntmps32
        go_wp2_with (first | (go_at_call 62; refine HF.mono ?_; rintro e w1 ⟨rfl, rfl⟩) | (go_at_call 63; refine HN.mono ?_; rintro e w1 ⟨rfl, rfl⟩))
        go_ret
        exact ⟨ret_in HE.out.symm, rfl⟩
    · have HE : Hid (cfC n ns = 19) := by show _ = _; unfold cfC; rw [if_pos hc, if_neg (fun hh => hr hh.1)]
      rw [Bool.not_eq_true] at hr
      rw [hr] at HN
      generalize rnM n ns = mm at HN
      clear hc hr
      generalize fOut n = fo at HF hfl
      go_enter Tryz.func32, Tryz.ntmps32
      go_wp2_with (first | (go_at_call 62; refine HF.mono ?_; rintro e w1 ⟨rfl, rfl⟩) | (go_at_call 63; refine HN.mono ?_; rintro e w1 ⟨rfl, rfl⟩))
      go_ret
      exact ⟨ret_in HE.out.symm, rfl⟩
  · have HE : Hid (cfC n ns = 4) := by show _ = _; unfold cfC; rw [if_neg hc]
    have h4 : fCode n = 4 := by unfold fCode at hc ⊢; split at hc <;> simp_all
    rw [h4] at HF
    clear hc h4 HN
    generalize fOut n = fo at HF
    go_enter Tryz.func32, Tryz.ntmps32
    go_wp2_with (first | (go_at_call 62; refine HF.mono ?_; rintro e w1 ⟨rfl, rfl⟩))
    go_ret
    exact ⟨ret_in HE.out.symm, rfl⟩
set_option maxRecDepth 100000 in
set_option maxHeartbeats 1600000 in
theorem signedFault_any (x : Int) (t : ByteArray) (i : Int) (ua ub uc : Value) (ta tb tc : List ByteArray) (w : World) (ra : RowT w ua ta) (rb : RowT w ub tb) (rc : RowT w uc tc) (la : ta.length ≤ maxLen) (lb : tb.length ≤ maxLen) (lc : tc.length ≤ maxLen) (za : ∀ t ∈ ta, t.size ≤ maxLen) (zb : ∀ t ∈ tb, t.size ≤ maxLen) (zc : ∀ t ∈ tc, t.size ≤ maxLen) (hx : inR x 0 6 = true) (hK : KTab w) (hp : 0 < w.heap.size) :
    Calls Tryz.prog 33 #[.int .i64 x, .string t, .agg #[.int .i64 i, ua, ub, uc]] w fun e w' => e = .returned (.int .i64 (vC (rootS (nsd x.toNat)) t i ta tb tc)) ∧ Below w.heap.size w w' := by
  have HKT : Hid (∀ W, Below w.heap.size w W → KTab W ∧ 0 < W.heap.size) := fun W hW => ⟨hK.below hW hp, Nat.lt_of_lt_of_le hp hW.size⟩
  have HN : Hid (∀ W, Below w.heap.size w W → Calls Tryz.prog 12 #[.int .i64 x] W fun e w' => e = .returned (.tuple #[.string (rootS (nsd x.toNat)), .int .i64 0]) ∧ Below W.heap.size W w') := fun W hW => by
    have := implNodeRoot_any x W (HKT.out W hW).1 (HKT.out W hW).2
    rwa [(ns_good hx).1, (ns_good hx).2.2] at this
  have HC : Hid (∀ W root, Below w.heap.size w W → Calls Tryz.prog 64 #[.string root, .string t, .agg #[.int .i64 i, ua, ub, uc]] W fun e w' => e = .returned (.int .i64 (vC root t i ta tb tc)) ∧ Below W.heap.size W w') := fun W root hW => implCheckSignature_any root t i ua ub uc ta tb tc W (ra.below hW) (rb.below hW) (rc.below hW) la lb lc za zb zc (HKT.out W hW).1 (HKT.out W hW).2
  obtain ⟨a1, k1, rfl, _⟩ := ra
  obtain ⟨a2, k2, rfl, _⟩ := rb
  obtain ⟨a3, k3, rfl, _⟩ := rc
  clear la lb lc za zb zc hx hK hp HKT
  have HX : Hid (∀ W, Below (w.alloc (.cells #[.int .i64 i, .slice a1 ta.length k1, .slice a2 tb.length k2, .slice a3 tc.length k3] 37)).heap.size (w.alloc (.cells #[.int .i64 i, .slice a1 ta.length k1, .slice a2 tb.length k2, .slice a3 tc.length k3] 37)) W → (W.cell? ⟨w.heap.size, 0, none⟩ = some (.int .i64 i) ∧ W.cell? ⟨w.heap.size, 1, none⟩ = some (.slice a1 ta.length k1) ∧ W.cell? ⟨w.heap.size, 2, none⟩ = some (.slice a2 tb.length k2) ∧ W.cell? ⟨w.heap.size, 3, none⟩ = some (.slice a3 tc.length k3)) ∧ Below w.heap.size w W) := fun W hW => by
    have h1 := (hW.block w.heap.size (by simp)).trans (heap_alloc_new w _)
    exact ⟨⟨by simp [World.cell?, h1], by simp [World.cell?, h1], by simp [World.cell?, h1], by simp [World.cell?, h1]⟩, (Rg.bel_new w _).trans (hW.mono (by simp))⟩
  generalize rootS (nsd x.toNat) = root at HN ⊢
  obtain ⟨vv, HV⟩ : ∃ vv, Hid (vC root t i ta tb tc = vv) := ⟨_, rfl⟩
  rw [HV.out]
  go_enter Tryz.func33, Tryz.ntmps33
  go_upto_region 1 with fail
  generalize w.alloc (.cells #[.int .i64 i, .slice a1 ta.length k1, .slice a2 tb.length k2, .slice a3 tc.length k3] 37) = wb at HX ⊢
  obtain ⟨_, g0⟩ := HX.out wb (Below.refl _ _)
  go_wp2_with fail
  refine (HN.out _ g0).mono ?_
  rintro e w1 ⟨rfl, b1⟩
  clear g0
  obtain ⟨⟨c0, c1, c2, c3⟩, g1⟩ := HX.out w1 b1
  have HC1 := HC.out w1 root g1
  rw [HV.out] at HC1
  have G1 : Hid (Below w.heap.size w w1) := g1
  clear b1 g1 HX HC HN
  go_wp2_with fail
  refine HC1.mono ?_
  rintro e w2 ⟨rfl, b2⟩
  have G2 : Hid (Below w.heap.size w w2) := G1.out.trans (b2.mono G1.out.size)
  clear b2 HC1
  go_wp2_with fail
  go_ret
  exact ⟨rfl, G2.out⟩
set_option maxRecDepth 100000 in
set_option maxHeartbeats 1600000 in
theorem implCheckCertificate_any (n : Int) (g : Gg) (vn vs : Value) (ns : List Int) (ks : List Ks) (w : World) (hn : RowI w vn ns) (hk : Row w vs ks) (zg : g.nm.size ≤ maxLen) (zn : ns.length ≤ 1048576) (zk : ks.length ≤ 1048576) (hm : ∀ x ∈ ks, Tz maxLen x) (hP : PTab w) (hK : KTab w) (hp : 0 < w.heap.size) :
    Calls Tryz.prog 9 #[.int .i64 n, crV g vn vs] w fun e w' => e = .returned (.int .i64 (ckC n g ns ks)) ∧ Below w.heap.size w w' := by
  have HRN : Hid (∀ W, Below w.heap.size w W → RowI W vn ns) := fun W hW => hn.below hW
  have HRK : Hid (∀ W, Below w.heap.size w W → Row W vs ks) := fun W hW => hk.below hW
  have HKT : Hid (∀ W, Below w.heap.size w W → KTab W ∧ 0 < W.heap.size) := fun W hW => ⟨hK.below hW hp, Nat.lt_of_lt_of_le hp hW.size⟩
  have HT : Hid (∀ W, Below w.heap.size w W → Calls Tryz.prog 31 #[.agg #[.string g.nm, .int .i64 g.hd, .int .i64 g.tk, .int .i64 g.ex]] W fun e w' => e = .returned (.tuple #[.string (gtS g), .int .i64 (gtC g)]) ∧ Below W.heap.size W w') := fun W hW => implGrantText_any g W zg (hP.below hW)
  have HZ : Hid (ns.length ≤ 1048576 ∧ ks.length ≤ 1048576 ∧ ∀ x ∈ ks, Tz maxLen x) := ⟨zn, zk, hm⟩
  obtain ⟨an, kn, rfl, _⟩ := hn
  obtain ⟨ak, kk, rfl⟩ := RowG.slice hk
  clear hk zg hm hP hK hp
  have HX : Hid (∀ W, Below (w.alloc (.cells #[.string g.nm, .int .i64 g.hd, .int .i64 g.tk, .int .i64 g.ex, .slice an ns.length kn, .slice ak ks.length kk] 31)).heap.size (w.alloc (.cells #[.string g.nm, .int .i64 g.hd, .int .i64 g.tk, .int .i64 g.ex, .slice an ns.length kn, .slice ak ks.length kk] 31)) W → (W.cell? ⟨w.heap.size, 0, none⟩ = some (.string g.nm) ∧ W.cell? ⟨w.heap.size, 1, none⟩ = some (.int .i64 g.hd) ∧ W.cell? ⟨w.heap.size, 2, none⟩ = some (.int .i64 g.tk) ∧ W.cell? ⟨w.heap.size, 3, none⟩ = some (.int .i64 g.ex) ∧ W.cell? ⟨w.heap.size, 4, none⟩ = some (.slice an ns.length kn) ∧ W.cell? ⟨w.heap.size, 5, none⟩ = some (.slice ak ks.length kk)) ∧ Below w.heap.size w W) := fun W hW => by
    have h1 := (hW.block w.heap.size (by simp)).trans (heap_alloc_new w _)
    exact ⟨⟨by simp [World.cell?, h1], by simp [World.cell?, h1], by simp [World.cell?, h1], by simp [World.cell?, h1], by simp [World.cell?, h1], by simp [World.cell?, h1]⟩, (Rg.bel_new w _).trans (hW.mono (by simp))⟩
  unfold crV
  cases hg : grB g with
  | false =>
    have HE : Hid (ckC n g ns ks = 1) := ck_bad hg
    have HG : Hid (gtS g = ⟨#[]⟩ ∧ gtC g = 1) := by show _ ∧ _; unfold gtS gtC; rw [hg]; exact ⟨rfl, rfl⟩
    rw [HG.out.1, HG.out.2] at HT
    clear hg HG
    go_enter Tryz.func9, Tryz.ntmps9
    go_upto_region 1 with fail
    generalize w.alloc (.cells #[.string g.nm, .int .i64 g.hd, .int .i64 g.tk, .int .i64 g.ex, .slice an ns.length kn, .slice ak ks.length kk] 31) = wb at HX ⊢
    obtain ⟨⟨c0, c1, c2, c3, c4, c5⟩, g0⟩ := HX.out wb (Below.refl _ _)
    go_wp2_with fail
    refine (HT.out _ g0).mono ?_
    rintro e w1 ⟨rfl, b1⟩
    have B1 : Hid (Below wb.heap.size wb w1) := b1
    have G1 : Hid (Below w.heap.size w w1) := (HX.out _ b1).2
    clear b1 c0 c1 c2 c3 c4 c5 g0
    clear HX
    go_wp2_with fail
    go_ret
    exact ⟨ret_in HE.out.symm, G1.out⟩
  | true =>
    have HG : Hid (gtS g = tx g ∧ gtC g = 0) := by show _ ∧ _; unfold gtS gtC; rw [hg]; exact ⟨rfl, rfl⟩
    rw [HG.out.1, HG.out.2] at HT
    clear HG
    by_cases hc : cfC n ns = 0
    · by_cases hL : ks.length = ns.length
      · have HE : Hid (ckC n g ns ks = lpC (tx g) (ns.drop 0) (ks.drop 0)) := ck_go hg hc hL
        have HV : Hid (∀ x ∈ ns, inR x 0 6 = true) := fun x hx => cf_node hc hx
        have HLL : Hid (ks.length = ns.length) := hL
        clear hL
        have HS : Hid (∀ (W : World) (b off j : Nat) (x : Int) (k : Ks) (ua ub uc : Value), Below w.heap.size w W → k ∈ ks → x ∈ ns → RowT W ua k.a → RowT W ub k.b → RowT W uc k.c → Calls Tryz.prog 33 #[.int .i64 x, .string (tx g), .agg #[.int .i64 k.i, ua, ub, uc]] W fun e w' => e = .returned (.int .i64 (vC (rootS (nsd x.toNat)) (tx g) k.i k.a k.b k.c)) ∧ Below W.heap.size W w') := fun W b off j x k ua ub uc hW hk hx r1 r2 r3 => by
          have hz := HZ.out.2.2 k hk
          exact signedFault_any x _ k.i ua ub uc k.a k.b k.c W r1 r2 r3 hz.1.1 hz.1.2.1 hz.1.2.2 hz.2.1 hz.2.2.1 hz.2.2.2 (HV.out x hx) (HKT.out W hW).1 (HKT.out W hW).2
        clear hg
        generalize tx g = tt at HT HE HS
        go_enter Tryz.func9, Tryz.ntmps9
        go_upto_region 1 with fail
        generalize w.alloc (.cells #[.string g.nm, .int .i64 g.hd, .int .i64 g.tk, .int .i64 g.ex, .slice an ns.length kn, .slice ak ks.length kk] 31) = wb at HX ⊢
        obtain ⟨⟨c0, c1, c2, c3, c4, c5⟩, g0⟩ := HX.out wb (Below.refl _ _)
        go_wp2_with fail
        refine (HT.out _ g0).mono ?_
        rintro e w1 ⟨rfl, b1⟩
        have B1 : Hid (Below wb.heap.size wb w1) := b1
        have G1 : Hid (Below w.heap.size w w1) := (HX.out _ b1).2
        clear b1 c0 c1 c2 c3 c4 c5 g0
        have hLi : (ks.length : Int) = (ns.length : Int) := by have := HLL.out; omega
        obtain ⟨⟨c0, c1, c2, c3, c4, c5⟩, g1⟩ := HX.out w1 B1.out
        have HCF := certifiersFault_any n _ ns w1 (HRN.out _ g1) HZ.out.1
        rw [hc] at HCF
        clear g1
        go_wp2_with (first | (go_at_call 32; refine HCF.mono ?_; rintro e w2 ⟨rfl, rfl⟩))
        clear HCF hc
        clear c0 c1 c2 c3 c4 c5
        go_loopw [35] (fun i wr => ∃ k : Nat, k ≤ ns.length ∧ i = .int .i64 k ∧ Hid (lpC tt (ns.drop 0) (ks.drop 0) = lpC tt (ns.drop k) (ks.drop k) ∧ Below wb.heap.size wb wr)) (fun i _ => ns.length - (intOf i).toNat)
        case atStart => exact ⟨0, by omega, rfl, rfl, B1.out⟩
        case round =>
          obtain ⟨k, hk, rfl, HI⟩ := hrel
          obtain ⟨⟨c0, c1, c2, c3, c4, c5⟩, g1⟩ := HX.out wr HI.out.2
          have GR : Hid (Below w.heap.size w wr) := g1
          by_cases hlt : k < ns.length
          · obtain ⟨x, hx⟩ := Rg.get_at hlt
            obtain ⟨y, hy⟩ := Rg.get_at (xs := ks) (k := k) (by have := HLL.out; omega)
            obtain ⟨b, off, rfl, hbl, d0⟩ := (RowJ.of_row (HRN.out _ g1)).at hx
            obtain ⟨b2, off2, rfl, hbl2, va, vb, vc, e0, e1, e2, e3, r1, r2, r3⟩ := RowG.at (HRK.out _ g1) rfl hy
            have HSF := HS.out wr b off k x y va vb vc g1 (Rg.mem_at hy) (Rg.mem_at hx) r1 r2 r3
            have HST : Hid _ := lp_step (t := tt) hx hy
            obtain ⟨a1, l1, rfl, _⟩ := r1
            obtain ⟨a2, l2, rfl, _⟩ := r2
            obtain ⟨a3, l3, rfl, _⟩ := r3
            have hkI : (k : Int) < (ns.length : Int) := by omega
            have hkK : (k : Int) < (ks.length : Int) := by omega
            clear hx hy g1
            obtain ⟨cc, HCC⟩ : ∃ cc, Hid (vC (rootS (nsd x.toNat)) tt y.i y.a y.b y.c = cc) := ⟨_, rfl⟩
            rw [HCC.out] at HSF HST
            by_cases h0 : cc = 0
            · subst h0
              go_wp2_with fail
              refine HSF.mono ?_
              rintro e w3 ⟨rfl, b3⟩
              have B3 : Hid (lpC tt (ns.drop 0) (ks.drop 0) = lpC tt (ns.drop (k + 1)) (ks.drop (k + 1)) ∧ Below wb.heap.size wb w3) := ⟨HI.out.1.trans (HST.out.trans (by simp)), HI.out.2.trans (b3.mono HI.out.2.size)⟩
              clear b3 HSF c0 c1 c2 c3 c4 c5 d0 e0 e1 e2 e3
              go_wp2_with fail
              exact ⟨⟨k + 1, by omega, by go_num, B3⟩, by simp [intOf]; omega⟩
            · have HF : Hid (ckC n g ns ks = cc) := by show _ = _; have := HST.out; rw [if_neg h0] at this; rw [HE.out, HI.out.1, this]
              go_wp2_with fail
              refine HSF.mono ?_
              rintro e w3 ⟨rfl, b3⟩
              have G3 : Hid (Below w.heap.size w w3) := GR.out.trans (b3.mono GR.out.size)
              clear b3 HSF c0 c1 c2 c3 c4 c5 d0 e0 e1 e2 e3
              go_wp2_with fail
              go_ret
              exact ⟨ret_in HF.out.symm, G3.out⟩
          · obtain rfl : k = ns.length := by omega
            have HF : Hid (ckC n g ns ks = 0) := by show _ = _; rw [HE.out, HI.out.1, lp_end]
            go_wp2_with fail
            go_ret
            exact ⟨ret_in HF.out.symm, GR.out⟩
      · have HE : Hid (ckC n g ns ks = 19) := ck_len hg hc hL
        have hLi : ¬ (ks.length : Int) = (ns.length : Int) := by omega
        clear hg hL
        go_enter Tryz.func9, Tryz.ntmps9
        go_upto_region 1 with fail
        generalize w.alloc (.cells #[.string g.nm, .int .i64 g.hd, .int .i64 g.tk, .int .i64 g.ex, .slice an ns.length kn, .slice ak ks.length kk] 31) = wb at HX ⊢
        obtain ⟨⟨c0, c1, c2, c3, c4, c5⟩, g0⟩ := HX.out wb (Below.refl _ _)
        go_wp2_with fail
        refine (HT.out _ g0).mono ?_
        rintro e w1 ⟨rfl, b1⟩
        have B1 : Hid (Below wb.heap.size wb w1) := b1
        have G1 : Hid (Below w.heap.size w w1) := (HX.out _ b1).2
        clear b1 c0 c1 c2 c3 c4 c5 g0
        obtain ⟨⟨c0, c1, c2, c3, c4, c5⟩, g1⟩ := HX.out w1 B1.out
        have HCF := certifiersFault_any n _ ns w1 (HRN.out _ g1) HZ.out.1
        rw [hc] at HCF
        clear g1
        go_wp2_with (first | (go_at_call 32; refine HCF.mono ?_; rintro e w2 ⟨rfl, rfl⟩))
        go_ret
        exact ⟨ret_in HE.out.symm, G1.out⟩
    · have HE : Hid (ckC n g ns ks = cfC n ns) := ck_cf hg hc
      clear hg
      obtain ⟨cc, HCC⟩ : ∃ cc, Hid (cfC n ns = cc) := ⟨_, rfl⟩
      rw [HCC.out] at hc HE
      go_enter Tryz.func9, Tryz.ntmps9
      go_upto_region 1 with fail
      generalize w.alloc (.cells #[.string g.nm, .int .i64 g.hd, .int .i64 g.tk, .int .i64 g.ex, .slice an ns.length kn, .slice ak ks.length kk] 31) = wb at HX ⊢
      obtain ⟨⟨c0, c1, c2, c3, c4, c5⟩, g0⟩ := HX.out wb (Below.refl _ _)
      go_wp2_with fail
      refine (HT.out _ g0).mono ?_
      rintro e w1 ⟨rfl, b1⟩
      have B1 : Hid (Below wb.heap.size wb w1) := b1
      have G1 : Hid (Below w.heap.size w w1) := (HX.out _ b1).2
      clear b1 c0 c1 c2 c3 c4 c5 g0
      obtain ⟨⟨c0, c1, c2, c3, c4, c5⟩, g1⟩ := HX.out w1 B1.out
      have HCF := certifiersFault_any n _ ns w1 (HRN.out _ g1) HZ.out.1
      rw [HCC.out] at HCF
      clear g1
      go_wp2_with (first | (go_at_call 32; refine HCF.mono ?_; rintro e w2 ⟨rfl, rfl⟩))
      go_ret
      exact ⟨ret_in HE.out.symm, G1.out⟩
end Go.Proofs.YtimmeclclilpdaaGreatDoor.Kc

/- The specification's certifiers. -/
namespace Go.Proofs.YtimmeclclilpdaaGreatDoor.Kc
open Go.RowKit Go.Proofs.YtimmeclclilpdaaGreatDoor.Sl Go.Proofs.YtimmeclclilpdaaGreatDoor.By Go.Proofs.YtimmeclclilpdaaGreatDoor.Ap Go.Proofs.YtimmeclclilpdaaGreatDoor.Tx Go.Proofs.YtimmeclclilpdaaGreatDoor.Sh Go.Proofs.YtimmeclclilpdaaGreatDoor.Ho Go.Proofs.YtimmeclclilpdaaGreatDoor.Se Go.Proofs.YtimmeclclilpdaaGreatDoor.Ka Go.Proofs.YtimmeclclilpdaaGreatDoor.Sx Go.Proofs.YtimmeclclilpdaaGreatDoor.Hf Go.Proofs.YtimmeclclilpdaaGreatDoor.Sa Go.Proofs.YtimmeclclilpdaaGreatDoor.Kx Go.Proofs.YtimmeclclilpdaaGreatDoor.Lv Go.Proofs.YtimmeclclilpdaaGreatDoor.Cr Go.Proofs.YtimmeclclilpdaaGreatDoor.Ns
open Go.Proofs.YtimmeclclilpdaaGreatDoor.Cs (vC)
open Go.Proofs.YtimmeclclilpdaaGreatDoor.Tm (fOut fCode)
open Go.Proofs.YtimmeclclilpdaaGreatDoor.Xq (RowJ rnB rnM rn_iff isV isV_frn okN Rise)
open Go.Proofs.YtimmeclclilpdaaGreatDoor.Rg (RowG Stays)
open Go.Proofs.YtimmeclclilpdaaGreatDoor.Is (RowI eqIntS_same)
open Go.Proofs.YtimmeclclilpdaaGreatDoor.Gr12 (Gg gV grB grB_parts grB_ok nmd_of tx tx_small specGrantOK_any l12Text_any)

/-- The first k are nodes and rise. -/
def Gd (n : Int) (ns : List Int) (k : Nat) : Prop := (∀ j x, j < k → ns[j]? = some x → isV n x = true) ∧ Rise ns k
theorem Gd.zero (n : Int) (ns : List Int) : Gd n ns 0 := ⟨fun j x h => by omega, fun j x y h => by omega⟩
theorem Gd.succ {n : Int} {ns : List Int} {k : Nat} {x : Int} (h : Gd n ns k) (hx : ns[k]? = some x) (h1 : isV n x = true) (h2 : ∀ i y, k = i + 1 → ns[i]? = some y → y < x) : Gd n ns (k + 1) := by
  refine ⟨fun j y hj hy => ?_, fun j y z hj hy hz => ?_⟩
  · by_cases e : j = k
    · subst e; rw [hx] at hy; cases hy; exact h1
    · exact h.1 j y (by omega) hy
  · by_cases e : j + 1 = k
    · subst e; rw [hx] at hz; cases hz; exact h2 j y rfl hy
    · exact h.2 j y z (by omega) hy hz
theorem Gd.all {n : Int} {ns : List Int} (h : Gd n ns ns.length) : rnB n ns = true := rn_iff.2 ⟨fun x hx => by
  obtain ⟨j, hj⟩ := List.getElem?_of_mem hx
  exact h.1 j x (Rg.lt_at hj) hj, h.2⟩
theorem gd_no1 {n : Int} {ns : List Int} {k : Nat} {x : Int} (hx : ns[k]? = some x) (h : isV n x = false) : rnB n ns = false := by
  rw [← Bool.not_eq_true]
  intro hr
  have := (rn_iff.1 hr).1 x (Rg.mem_at hx)
  rw [h] at this
  cases this
theorem gd_no2 {n : Int} {ns : List Int} {j : Nat} {x y : Int} (hy : ns[j]? = some y) (hx : ns[j + 1]? = some x) (h : x ≤ y) : rnB n ns = false := by
  rw [← Bool.not_eq_true]
  intro hr
  have := (rn_iff.1 hr).2 j y x (Rg.lt_at hx) hy hx
  omega
theorem ret_bo {a b : Bool} (h : a = b) : Ending.returned (.bool a) = .returned (.bool b) := by rw [h]
set_option maxRecDepth 100000 in
set_option maxHeartbeats 1600000 in
theorem l12From_1 (v : Value) (ns : List Int) (w : World) (h : RowI w v ns) (hl : ns.length ≤ 1048576) :
    Calls Tryz.prog 43 #[.int .i64 1, v] w fun e w' => e = .returned (.bool (rnB 1 ns && decide ((ns.length : Int) = 1))) ∧ Below w.heap.size w w' := by
  have HR : Hid (∀ W, Below w.heap.size w W → RowJ W v ns) := fun W hW => (RowJ.of_row h).below hW
  obtain ⟨a, cap, rfl, _⟩ := h
  by_cases hq : (ns.length : Int) = 1
  · rw [decide_eq_true hq, Bool.and_true]
    go_enter Tryz.func43, Tryz.ntmps43
    go_upto_region 3 with fail
    clear hq
    go_wp2_with fail
    go_loopw [5] (fun i wr => ∃ k : Nat, k ≤ ns.length ∧ i = .int .i64 k ∧ Hid (Gd 1 ns k ∧ Below w.heap.size w wr)) (fun i _ => ns.length - (intOf i).toNat)
    case atStart => exact ⟨0, by omega, rfl, Gd.zero _ _, Below.refl _ _⟩
    case round =>
      obtain ⟨k, hk, rfl, HZ⟩ := hrel
      by_cases hlt : k < ns.length
      · obtain ⟨x, hx⟩ := Rg.get_at hlt
        have rr := HR.out _ HZ.out.2
        have HPV : Hid (∀ i y, k = i + 1 → ns[i]? = some y → ∃ b off, a = some ⟨b, off, none⟩ ∧ wr.cell? ⟨b, off + i, none⟩ = some (.int .i64 y)) := fun i y _ hy => by
          obtain ⟨b, off, ea, _, hc⟩ := rr.at hy
          exact ⟨b, off, ea, hc⟩
        obtain ⟨b, off, rfl, hbl, d0⟩ := rr.at hx
        clear rr
        have HIN : Hid (∀ W, Calls Tryz.prog 47 #[.int .i64 x, .int .i64 0, .int .i64 0] W fun e w' => e = .returned (.bool (isV 1 x)) ∧ W = w') := fun W => Qm.l01In_any x 0 0 W
        have HN1 : Hid (isV 1 x = false → rnB 1 ns = false) := fun hh => gd_no1 hx hh
        have HN2 : Hid (∀ i y, k = i + 1 → ns[i]? = some y → x ≤ y → rnB 1 ns = false) := fun i y e hy hle => by subst e; exact gd_no2 hy hx hle
        have HS3 : Hid (isV 1 x = true → (∀ i y, k = i + 1 → ns[i]? = some y → y < x) → Gd 1 ns (k + 1)) := fun h1 h2 => HZ.out.1.succ hx h1 h2
        clear hx
        have hkI : (k : Int) < (ns.length : Int) := by omega
        go_upto_region 6 with fail
        obtain ⟨X, hX, W, QI0, QO0⟩ := Qc.klass wr
        have QI : Hid (∀ w', Below wr.heap.size wr w' → ∃ x, w' = W x) := QI0
        have QO : Hid (∀ x, Below wr.heap.size wr (W x)) := QO0
        clear QI0 QO0
        have QB : Hid (∀ x, Below w.heap.size w (W x)) := fun x => HZ.out.2.trans ((QO.out x).mono HZ.out.2.size)
        have y0 := Qc.cell_all QO.out d0
        cases h1 : isV 1 x with
        | false =>
          have HE : Hid (rnB 1 ns = false) := HN1.out h1
          rw [h1] at HIN
          clear h1 HN1 HN2 HS3 d0
          refine Qc.region_class (W := W) (by kernel_rfl) (by kernel_rfl) (QI.out _ Qc.from_drew) ?_
          repeat (go_big_quiet_step (first | (go_at_call 47; refine (HIN.out _).mono ?_; rintro e w2 ⟨rfl, rfl⟩; exact ⟨rfl, ⟨_, rfl⟩⟩)))
          refine wpQuiet_nil ?_
          rintro _ ⟨xq, rfl⟩
          have G2 : Hid (Below w.heap.size w (W xq)) := QB.out xq
          clear y0
          generalize W xq = wq at G2 ⊢
          go_wp2_with fail
          go_ret
          exact ⟨ret_bo HE.out.symm, G2.out⟩
        | true =>
          rw [h1] at HIN HS3
          clear h1 HN1
          by_cases hk0 : k = 0
          · subst hk0
            have HSS : Hid (Gd 1 ns (0 + 1)) := HS3.out rfl (fun i' y' e => by omega)
            clear d0
            simp only [Nat.add_zero] at y0
            refine Qc.region_class (W := W) (by kernel_rfl) (by kernel_rfl) (QI.out _ Qc.from_drew) ?_
            repeat (go_big_quiet_step (first | (go_at_call 47; refine (HIN.out _).mono ?_; rintro e w2 ⟨rfl, rfl⟩; exact ⟨rfl, ⟨_, rfl⟩⟩)))
            refine wpQuiet_nil ?_
            rintro _ ⟨xq, rfl⟩
            have G2 : Hid (Below w.heap.size w (W xq)) := QB.out xq
            clear y0
            generalize W xq = wq at G2 ⊢
            go_wp2_with fail
            exact ⟨⟨0 + 1, by omega, by go_num, ⟨HSS.out, G2.out⟩⟩, by simp [intOf]; omega⟩
          · obtain ⟨j, rfl⟩ : ∃ j, k = j + 1 := ⟨k - 1, by omega⟩
            obtain ⟨y, hy⟩ := Rg.get_at (show j < ns.length by omega)
            obtain ⟨b', off', ea, d1⟩ := HPV.out j y rfl hy
            cases ea
            have HN2' : Hid (x ≤ y → rnB 1 ns = false) := fun hh => HN2.out j y rfl hy hh
            have HS3' : Hid (y < x → Gd 1 ns (j + 1 + 1)) := fun h1 => HS3.out rfl (fun i' y' e hy' => by
              have : i' = j := by omega
              subst this
              rw [hy] at hy'
              cases hy'
              exact h1)
            have y1 := Qc.cell_all QO.out d1
            clear HPV d0 d1 hy HN2 HS3
            have q1 : (0 : Int) < (j : Int) + 1 := by omega
            have q2 : (j : Int) + 1 < (ns.length : Int) := by omega
            have q3 : (j : Int) < (ns.length : Int) := by omega
            by_cases hpf : x ≤ y
            · have HE : Hid (rnB 1 ns = false) := HN2'.out hpf
              have hpe : decide (x ≤ y) = true := decide_eq_true hpf
              refine Qc.region_class (W := W) (by kernel_rfl) (by kernel_rfl) (QI.out _ Qc.from_drew) ?_
              repeat (go_big_quiet_step (first | (go_at_call 47; refine (HIN.out _).mono ?_; rintro e w2 ⟨rfl, rfl⟩; exact ⟨rfl, ⟨_, rfl⟩⟩)))
              refine wpQuiet_nil ?_
              rintro _ ⟨xq, rfl⟩
              have G2 : Hid (Below w.heap.size w (W xq)) := QB.out xq
              clear y0 y1
              generalize W xq = wq at G2 ⊢
              go_wp2_with fail
              go_ret
              exact ⟨ret_bo HE.out.symm, G2.out⟩
            · have hpe : decide (x ≤ y) = false := decide_eq_false hpf
              have HSS : Hid (Gd 1 ns (j + 1 + 1)) := HS3'.out (by omega)
              refine Qc.region_class (W := W) (by kernel_rfl) (by kernel_rfl) (QI.out _ Qc.from_drew) ?_
              repeat (go_big_quiet_step (first | (go_at_call 47; refine (HIN.out _).mono ?_; rintro e w2 ⟨rfl, rfl⟩; exact ⟨rfl, ⟨_, rfl⟩⟩)))
              refine wpQuiet_nil ?_
              rintro _ ⟨xq, rfl⟩
              have G2 : Hid (Below w.heap.size w (W xq)) := QB.out xq
              clear y0 y1
              generalize W xq = wq at G2 ⊢
              go_wp2_with fail
              exact ⟨⟨j + 1 + 1, by omega, by go_num, ⟨HSS.out, G2.out⟩⟩, by simp [intOf]; omega⟩
      · obtain rfl : k = ns.length := by omega
        have HE : Hid (rnB 1 ns = true) := HZ.out.1.all
        go_wp2_with fail
        go_ret
        exact ⟨ret_bo HE.out.symm, HZ.out.2⟩
  · rw [decide_eq_false hq, Bool.and_false]
    go_enter Tryz.func43, Tryz.ntmps43
    go_wp2_with fail
    go_ret
    exact ⟨rfl, Below.refl _ _⟩
set_option maxRecDepth 100000 in
set_option maxHeartbeats 1600000 in
theorem l12From_4 (v : Value) (ns : List Int) (w : World) (h : RowI w v ns) (hl : ns.length ≤ 1048576) :
    Calls Tryz.prog 43 #[.int .i64 4, v] w fun e w' => e = .returned (.bool (rnB 4 ns && decide ((ns.length : Int) = 2))) ∧ Below w.heap.size w w' := by
  have HR : Hid (∀ W, Below w.heap.size w W → RowJ W v ns) := fun W hW => (RowJ.of_row h).below hW
  obtain ⟨a, cap, rfl, _⟩ := h
  by_cases hq : (ns.length : Int) = 2
  · rw [decide_eq_true hq, Bool.and_true]
    go_enter Tryz.func43, Tryz.ntmps43
    go_upto_region 3 with fail
    clear hq
    go_wp2_with fail
    go_loopw [5] (fun i wr => ∃ k : Nat, k ≤ ns.length ∧ i = .int .i64 k ∧ Hid (Gd 4 ns k ∧ Below w.heap.size w wr)) (fun i _ => ns.length - (intOf i).toNat)
    case atStart => exact ⟨0, by omega, rfl, Gd.zero _ _, Below.refl _ _⟩
    case round =>
      obtain ⟨k, hk, rfl, HZ⟩ := hrel
      by_cases hlt : k < ns.length
      · obtain ⟨x, hx⟩ := Rg.get_at hlt
        have rr := HR.out _ HZ.out.2
        have HPV : Hid (∀ i y, k = i + 1 → ns[i]? = some y → ∃ b off, a = some ⟨b, off, none⟩ ∧ wr.cell? ⟨b, off + i, none⟩ = some (.int .i64 y)) := fun i y _ hy => by
          obtain ⟨b, off, ea, _, hc⟩ := rr.at hy
          exact ⟨b, off, ea, hc⟩
        obtain ⟨b, off, rfl, hbl, d0⟩ := rr.at hx
        clear rr
        have HIN : Hid (∀ W, Calls Tryz.prog 47 #[.int .i64 x, .int .i64 0, .int .i64 3] W fun e w' => e = .returned (.bool (isV 4 x)) ∧ W = w') := fun W => Qm.l01In_any x 0 3 W
        have HN1 : Hid (isV 4 x = false → rnB 4 ns = false) := fun hh => gd_no1 hx hh
        have HN2 : Hid (∀ i y, k = i + 1 → ns[i]? = some y → x ≤ y → rnB 4 ns = false) := fun i y e hy hle => by subst e; exact gd_no2 hy hx hle
        have HS3 : Hid (isV 4 x = true → (∀ i y, k = i + 1 → ns[i]? = some y → y < x) → Gd 4 ns (k + 1)) := fun h1 h2 => HZ.out.1.succ hx h1 h2
        clear hx
        have hkI : (k : Int) < (ns.length : Int) := by omega
        go_upto_region 6 with fail
        obtain ⟨X, hX, W, QI0, QO0⟩ := Qc.klass wr
        have QI : Hid (∀ w', Below wr.heap.size wr w' → ∃ x, w' = W x) := QI0
        have QO : Hid (∀ x, Below wr.heap.size wr (W x)) := QO0
        clear QI0 QO0
        have QB : Hid (∀ x, Below w.heap.size w (W x)) := fun x => HZ.out.2.trans ((QO.out x).mono HZ.out.2.size)
        have y0 := Qc.cell_all QO.out d0
        cases h1 : isV 4 x with
        | false =>
          have HE : Hid (rnB 4 ns = false) := HN1.out h1
          rw [h1] at HIN
          clear h1 HN1 HN2 HS3 d0
          refine Qc.region_class (W := W) (by kernel_rfl) (by kernel_rfl) (QI.out _ Qc.from_drew) ?_
          repeat (go_big_quiet_step (first | (go_at_call 47; refine (HIN.out _).mono ?_; rintro e w2 ⟨rfl, rfl⟩; exact ⟨rfl, ⟨_, rfl⟩⟩)))
          refine wpQuiet_nil ?_
          rintro _ ⟨xq, rfl⟩
          have G2 : Hid (Below w.heap.size w (W xq)) := QB.out xq
          clear y0
          generalize W xq = wq at G2 ⊢
          go_wp2_with fail
          go_ret
          exact ⟨ret_bo HE.out.symm, G2.out⟩
        | true =>
          rw [h1] at HIN HS3
          clear h1 HN1
          by_cases hk0 : k = 0
          · subst hk0
            have HSS : Hid (Gd 4 ns (0 + 1)) := HS3.out rfl (fun i' y' e => by omega)
            clear d0
            simp only [Nat.add_zero] at y0
            refine Qc.region_class (W := W) (by kernel_rfl) (by kernel_rfl) (QI.out _ Qc.from_drew) ?_
            repeat (go_big_quiet_step (first | (go_at_call 47; refine (HIN.out _).mono ?_; rintro e w2 ⟨rfl, rfl⟩; exact ⟨rfl, ⟨_, rfl⟩⟩)))
            refine wpQuiet_nil ?_
            rintro _ ⟨xq, rfl⟩
            have G2 : Hid (Below w.heap.size w (W xq)) := QB.out xq
            clear y0
            generalize W xq = wq at G2 ⊢
            go_wp2_with fail
            exact ⟨⟨0 + 1, by omega, by go_num, ⟨HSS.out, G2.out⟩⟩, by simp [intOf]; omega⟩
          · obtain ⟨j, rfl⟩ : ∃ j, k = j + 1 := ⟨k - 1, by omega⟩
            obtain ⟨y, hy⟩ := Rg.get_at (show j < ns.length by omega)
            obtain ⟨b', off', ea, d1⟩ := HPV.out j y rfl hy
            cases ea
            have HN2' : Hid (x ≤ y → rnB 4 ns = false) := fun hh => HN2.out j y rfl hy hh
            have HS3' : Hid (y < x → Gd 4 ns (j + 1 + 1)) := fun h1 => HS3.out rfl (fun i' y' e hy' => by
              have : i' = j := by omega
              subst this
              rw [hy] at hy'
              cases hy'
              exact h1)
            have y1 := Qc.cell_all QO.out d1
            clear HPV d0 d1 hy HN2 HS3
            have q1 : (0 : Int) < (j : Int) + 1 := by omega
            have q2 : (j : Int) + 1 < (ns.length : Int) := by omega
            have q3 : (j : Int) < (ns.length : Int) := by omega
            by_cases hpf : x ≤ y
            · have HE : Hid (rnB 4 ns = false) := HN2'.out hpf
              have hpe : decide (x ≤ y) = true := decide_eq_true hpf
              refine Qc.region_class (W := W) (by kernel_rfl) (by kernel_rfl) (QI.out _ Qc.from_drew) ?_
              repeat (go_big_quiet_step (first | (go_at_call 47; refine (HIN.out _).mono ?_; rintro e w2 ⟨rfl, rfl⟩; exact ⟨rfl, ⟨_, rfl⟩⟩)))
              refine wpQuiet_nil ?_
              rintro _ ⟨xq, rfl⟩
              have G2 : Hid (Below w.heap.size w (W xq)) := QB.out xq
              clear y0 y1
              generalize W xq = wq at G2 ⊢
              go_wp2_with fail
              go_ret
              exact ⟨ret_bo HE.out.symm, G2.out⟩
            · have hpe : decide (x ≤ y) = false := decide_eq_false hpf
              have HSS : Hid (Gd 4 ns (j + 1 + 1)) := HS3'.out (by omega)
              refine Qc.region_class (W := W) (by kernel_rfl) (by kernel_rfl) (QI.out _ Qc.from_drew) ?_
              repeat (go_big_quiet_step (first | (go_at_call 47; refine (HIN.out _).mono ?_; rintro e w2 ⟨rfl, rfl⟩; exact ⟨rfl, ⟨_, rfl⟩⟩)))
              refine wpQuiet_nil ?_
              rintro _ ⟨xq, rfl⟩
              have G2 : Hid (Below w.heap.size w (W xq)) := QB.out xq
              clear y0 y1
              generalize W xq = wq at G2 ⊢
              go_wp2_with fail
              exact ⟨⟨j + 1 + 1, by omega, by go_num, ⟨HSS.out, G2.out⟩⟩, by simp [intOf]; omega⟩
      · obtain rfl : k = ns.length := by omega
        have HE : Hid (rnB 4 ns = true) := HZ.out.1.all
        go_wp2_with fail
        go_ret
        exact ⟨ret_bo HE.out.symm, HZ.out.2⟩
  · rw [decide_eq_false hq, Bool.and_false]
    go_enter Tryz.func43, Tryz.ntmps43
    go_wp2_with fail
    go_ret
    exact ⟨rfl, Below.refl _ _⟩
set_option maxRecDepth 100000 in
set_option maxHeartbeats 1600000 in
theorem l12From_7 (v : Value) (ns : List Int) (w : World) (h : RowI w v ns) (hl : ns.length ≤ 1048576) :
    Calls Tryz.prog 43 #[.int .i64 7, v] w fun e w' => e = .returned (.bool (rnB 7 ns && decide ((ns.length : Int) = 3))) ∧ Below w.heap.size w w' := by
  have HR : Hid (∀ W, Below w.heap.size w W → RowJ W v ns) := fun W hW => (RowJ.of_row h).below hW
  obtain ⟨a, cap, rfl, _⟩ := h
  by_cases hq : (ns.length : Int) = 3
  · rw [decide_eq_true hq, Bool.and_true]
    go_enter Tryz.func43, Tryz.ntmps43
    go_upto_region 3 with fail
    clear hq
    go_wp2_with fail
    go_loopw [5] (fun i wr => ∃ k : Nat, k ≤ ns.length ∧ i = .int .i64 k ∧ Hid (Gd 7 ns k ∧ Below w.heap.size w wr)) (fun i _ => ns.length - (intOf i).toNat)
    case atStart => exact ⟨0, by omega, rfl, Gd.zero _ _, Below.refl _ _⟩
    case round =>
      obtain ⟨k, hk, rfl, HZ⟩ := hrel
      by_cases hlt : k < ns.length
      · obtain ⟨x, hx⟩ := Rg.get_at hlt
        have rr := HR.out _ HZ.out.2
        have HPV : Hid (∀ i y, k = i + 1 → ns[i]? = some y → ∃ b off, a = some ⟨b, off, none⟩ ∧ wr.cell? ⟨b, off + i, none⟩ = some (.int .i64 y)) := fun i y _ hy => by
          obtain ⟨b, off, ea, _, hc⟩ := rr.at hy
          exact ⟨b, off, ea, hc⟩
        obtain ⟨b, off, rfl, hbl, d0⟩ := rr.at hx
        clear rr
        have HIN : Hid (∀ W, Calls Tryz.prog 47 #[.int .i64 x, .int .i64 0, .int .i64 6] W fun e w' => e = .returned (.bool (isV 7 x)) ∧ W = w') := fun W => Qm.l01In_any x 0 6 W
        have HN1 : Hid (isV 7 x = false → rnB 7 ns = false) := fun hh => gd_no1 hx hh
        have HN2 : Hid (∀ i y, k = i + 1 → ns[i]? = some y → x ≤ y → rnB 7 ns = false) := fun i y e hy hle => by subst e; exact gd_no2 hy hx hle
        have HS3 : Hid (isV 7 x = true → (∀ i y, k = i + 1 → ns[i]? = some y → y < x) → Gd 7 ns (k + 1)) := fun h1 h2 => HZ.out.1.succ hx h1 h2
        clear hx
        have hkI : (k : Int) < (ns.length : Int) := by omega
        go_upto_region 6 with fail
        obtain ⟨X, hX, W, QI0, QO0⟩ := Qc.klass wr
        have QI : Hid (∀ w', Below wr.heap.size wr w' → ∃ x, w' = W x) := QI0
        have QO : Hid (∀ x, Below wr.heap.size wr (W x)) := QO0
        clear QI0 QO0
        have QB : Hid (∀ x, Below w.heap.size w (W x)) := fun x => HZ.out.2.trans ((QO.out x).mono HZ.out.2.size)
        have y0 := Qc.cell_all QO.out d0
        cases h1 : isV 7 x with
        | false =>
          have HE : Hid (rnB 7 ns = false) := HN1.out h1
          rw [h1] at HIN
          clear h1 HN1 HN2 HS3 d0
          refine Qc.region_class (W := W) (by kernel_rfl) (by kernel_rfl) (QI.out _ Qc.from_drew) ?_
          repeat (go_big_quiet_step (first | (go_at_call 47; refine (HIN.out _).mono ?_; rintro e w2 ⟨rfl, rfl⟩; exact ⟨rfl, ⟨_, rfl⟩⟩)))
          refine wpQuiet_nil ?_
          rintro _ ⟨xq, rfl⟩
          have G2 : Hid (Below w.heap.size w (W xq)) := QB.out xq
          clear y0
          generalize W xq = wq at G2 ⊢
          go_wp2_with fail
          go_ret
          exact ⟨ret_bo HE.out.symm, G2.out⟩
        | true =>
          rw [h1] at HIN HS3
          clear h1 HN1
          by_cases hk0 : k = 0
          · subst hk0
            have HSS : Hid (Gd 7 ns (0 + 1)) := HS3.out rfl (fun i' y' e => by omega)
            clear d0
            simp only [Nat.add_zero] at y0
            refine Qc.region_class (W := W) (by kernel_rfl) (by kernel_rfl) (QI.out _ Qc.from_drew) ?_
            repeat (go_big_quiet_step (first | (go_at_call 47; refine (HIN.out _).mono ?_; rintro e w2 ⟨rfl, rfl⟩; exact ⟨rfl, ⟨_, rfl⟩⟩)))
            refine wpQuiet_nil ?_
            rintro _ ⟨xq, rfl⟩
            have G2 : Hid (Below w.heap.size w (W xq)) := QB.out xq
            clear y0
            generalize W xq = wq at G2 ⊢
            go_wp2_with fail
            exact ⟨⟨0 + 1, by omega, by go_num, ⟨HSS.out, G2.out⟩⟩, by simp [intOf]; omega⟩
          · obtain ⟨j, rfl⟩ : ∃ j, k = j + 1 := ⟨k - 1, by omega⟩
            obtain ⟨y, hy⟩ := Rg.get_at (show j < ns.length by omega)
            obtain ⟨b', off', ea, d1⟩ := HPV.out j y rfl hy
            cases ea
            have HN2' : Hid (x ≤ y → rnB 7 ns = false) := fun hh => HN2.out j y rfl hy hh
            have HS3' : Hid (y < x → Gd 7 ns (j + 1 + 1)) := fun h1 => HS3.out rfl (fun i' y' e hy' => by
              have : i' = j := by omega
              subst this
              rw [hy] at hy'
              cases hy'
              exact h1)
            have y1 := Qc.cell_all QO.out d1
            clear HPV d0 d1 hy HN2 HS3
            have q1 : (0 : Int) < (j : Int) + 1 := by omega
            have q2 : (j : Int) + 1 < (ns.length : Int) := by omega
            have q3 : (j : Int) < (ns.length : Int) := by omega
            by_cases hpf : x ≤ y
            · have HE : Hid (rnB 7 ns = false) := HN2'.out hpf
              have hpe : decide (x ≤ y) = true := decide_eq_true hpf
              refine Qc.region_class (W := W) (by kernel_rfl) (by kernel_rfl) (QI.out _ Qc.from_drew) ?_
              repeat (go_big_quiet_step (first | (go_at_call 47; refine (HIN.out _).mono ?_; rintro e w2 ⟨rfl, rfl⟩; exact ⟨rfl, ⟨_, rfl⟩⟩)))
              refine wpQuiet_nil ?_
              rintro _ ⟨xq, rfl⟩
              have G2 : Hid (Below w.heap.size w (W xq)) := QB.out xq
              clear y0 y1
              generalize W xq = wq at G2 ⊢
              go_wp2_with fail
              go_ret
              exact ⟨ret_bo HE.out.symm, G2.out⟩
            · have hpe : decide (x ≤ y) = false := decide_eq_false hpf
              have HSS : Hid (Gd 7 ns (j + 1 + 1)) := HS3'.out (by omega)
              refine Qc.region_class (W := W) (by kernel_rfl) (by kernel_rfl) (QI.out _ Qc.from_drew) ?_
              repeat (go_big_quiet_step (first | (go_at_call 47; refine (HIN.out _).mono ?_; rintro e w2 ⟨rfl, rfl⟩; exact ⟨rfl, ⟨_, rfl⟩⟩)))
              refine wpQuiet_nil ?_
              rintro _ ⟨xq, rfl⟩
              have G2 : Hid (Below w.heap.size w (W xq)) := QB.out xq
              clear y0 y1
              generalize W xq = wq at G2 ⊢
              go_wp2_with fail
              exact ⟨⟨j + 1 + 1, by omega, by go_num, ⟨HSS.out, G2.out⟩⟩, by simp [intOf]; omega⟩
      · obtain rfl : k = ns.length := by omega
        have HE : Hid (rnB 7 ns = true) := HZ.out.1.all
        go_wp2_with fail
        go_ret
        exact ⟨ret_bo HE.out.symm, HZ.out.2⟩
  · rw [decide_eq_false hq, Bool.and_false]
    go_enter Tryz.func43, Tryz.ntmps43
    go_wp2_with fail
    go_ret
    exact ⟨rfl, Below.refl _ _⟩
theorem cf_bool {n m : Int} {ns : List Int} (h : fCode n = 0) (hf : fOut n + 1 = m) : (rnB n ns && decide ((ns.length : Int) = m)) = decide (cfC n ns = 0) := by
  unfold cfC
  rw [if_pos h, hf]
  cases rnB n ns
  · simp
  · by_cases e : (ns.length : Int) = m <;> simp [e]
theorem l12From_any (n : Int) (v : Value) (ns : List Int) (w : World) (h : RowI w v ns) (hl : ns.length ≤ 1048576) (hn : fCode n = 0) :
    Calls Tryz.prog 43 #[.int .i64 n, v] w fun e w' => e = .returned (.bool (decide (cfC n ns = 0))) ∧ Below w.heap.size w w' := by
  have h3 : n = 1 ∨ n = 4 ∨ n = 7 := by
    unfold fCode at hn
    split at hn
    · assumption
    · cases hn
  rcases h3 with rfl | rfl | rfl
  · rw [← cf_bool (m := 1) hn rfl]; exact l12From_1 v ns w h hl
  · rw [← cf_bool (m := 2) hn rfl]; exact l12From_4 v ns w h hl
  · rw [← cf_bool (m := 3) hn rfl]; exact l12From_7 v ns w h hl
end Go.Proofs.YtimmeclclilpdaaGreatDoor.Kc

/- The specification's check of a certificate. -/
namespace Go.Proofs.YtimmeclclilpdaaGreatDoor.Kc
open Go.RowKit Go.Proofs.YtimmeclclilpdaaGreatDoor.Sl Go.Proofs.YtimmeclclilpdaaGreatDoor.By Go.Proofs.YtimmeclclilpdaaGreatDoor.Ap Go.Proofs.YtimmeclclilpdaaGreatDoor.Tx Go.Proofs.YtimmeclclilpdaaGreatDoor.Sh Go.Proofs.YtimmeclclilpdaaGreatDoor.Ho Go.Proofs.YtimmeclclilpdaaGreatDoor.Se Go.Proofs.YtimmeclclilpdaaGreatDoor.Ka Go.Proofs.YtimmeclclilpdaaGreatDoor.Sx Go.Proofs.YtimmeclclilpdaaGreatDoor.Hf Go.Proofs.YtimmeclclilpdaaGreatDoor.Sa Go.Proofs.YtimmeclclilpdaaGreatDoor.Kx Go.Proofs.YtimmeclclilpdaaGreatDoor.Lv Go.Proofs.YtimmeclclilpdaaGreatDoor.Cr Go.Proofs.YtimmeclclilpdaaGreatDoor.Ns
open Go.Proofs.YtimmeclclilpdaaGreatDoor.Cs (vC specCheckSignature_any)
open Go.Proofs.YtimmeclclilpdaaGreatDoor.Tm (fOut fCode)
open Go.Proofs.YtimmeclclilpdaaGreatDoor.Xq (RowJ rnB rnM rn_iff isV isV_frn okN Rise)
open Go.Proofs.YtimmeclclilpdaaGreatDoor.Rg (RowG Stays)
open Go.Proofs.YtimmeclclilpdaaGreatDoor.Is (RowI eqIntS_same)
open Go.Proofs.YtimmeclclilpdaaGreatDoor.Gr12 (Gg gV grB grB_parts grB_ok nmd_of tx tx_small specGrantOK_any l12Text_any)

set_option maxRecDepth 100000 in
set_option maxHeartbeats 3200000 in
theorem specCheckCertificate_any (n : Int) (g : Gg) (vn vs : Value) (ns : List Int) (ks : List Ks) (w : World) (hn : RowI w vn ns) (hk : Row w vs ks) (zg : g.nm.size ≤ maxLen) (zn : ns.length ≤ 1048576) (zk : ks.length ≤ 1048576) (hm : ∀ x ∈ ks, Tz maxLen x) :
    Calls Tryz.prog 15 #[.int .i64 n, crV g vn vs] w fun e w' => e = .returned (.int .i64 (ckC n g ns ks)) ∧ Below w.heap.size w w' := by
  have HRN : Hid (∀ W, Below w.heap.size w W → RowI W vn ns) := fun W hW => hn.below hW
  have HRK : Hid (∀ W, Below w.heap.size w W → Row W vs ks) := fun W hW => hk.below hW
  have HO : Hid (∀ W, Calls Tryz.prog 41 #[.agg #[.string g.nm, .int .i64 g.hd, .int .i64 g.tk, .int .i64 g.ex]] W fun e w' => e = .returned (.bool (grB g)) ∧ Below W.heap.size W w') := fun W => specGrantOK_any g W zg
  have HNO : Hid (∀ W, Calls Tryz.prog 42 #[.int .i64 n] W fun e w' => e = .returned (.bool (decide (fCode n = 0))) ∧ W = w') := fun W => Qm.l04Nodes_any n W
  have HZ : Hid (ns.length ≤ 1048576 ∧ ks.length ≤ 1048576 ∧ ∀ x ∈ ks, Tz maxLen x) := ⟨zn, zk, hm⟩
  obtain ⟨an, kn, rfl, _⟩ := hn
  obtain ⟨ak, kk, rfl⟩ := RowG.slice hk
  clear hk zg hm
  have HX : Hid (∀ W, Below (w.alloc (.cells #[.string g.nm, .int .i64 g.hd, .int .i64 g.tk, .int .i64 g.ex, .slice an ns.length kn, .slice ak ks.length kk] 31)).heap.size (w.alloc (.cells #[.string g.nm, .int .i64 g.hd, .int .i64 g.tk, .int .i64 g.ex, .slice an ns.length kn, .slice ak ks.length kk] 31)) W → (W.cell? ⟨w.heap.size, 0, none⟩ = some (.string g.nm) ∧ W.cell? ⟨w.heap.size, 1, none⟩ = some (.int .i64 g.hd) ∧ W.cell? ⟨w.heap.size, 2, none⟩ = some (.int .i64 g.tk) ∧ W.cell? ⟨w.heap.size, 3, none⟩ = some (.int .i64 g.ex) ∧ W.cell? ⟨w.heap.size, 4, none⟩ = some (.slice an ns.length kn) ∧ W.cell? ⟨w.heap.size, 5, none⟩ = some (.slice ak ks.length kk)) ∧ Below w.heap.size w W) := fun W hW => by
    have h1 := (hW.block w.heap.size (by simp)).trans (heap_alloc_new w _)
    exact ⟨⟨by simp [World.cell?, h1], by simp [World.cell?, h1], by simp [World.cell?, h1], by simp [World.cell?, h1], by simp [World.cell?, h1], by simp [World.cell?, h1]⟩, (Rg.bel_new w _).trans (hW.mono (by simp))⟩
  unfold crV
  cases hg : grB g with
  | false =>
    have HE : Hid (ckC n g ns ks = 1) := ck_bad hg
    rw [hg] at HO
    clear hg
    go_enter Tryz.func15, Tryz.ntmps15
    go_upto_region 1 with fail
    generalize w.alloc (.cells #[.string g.nm, .int .i64 g.hd, .int .i64 g.tk, .int .i64 g.ex, .slice an ns.length kn, .slice ak ks.length kk] 31) = wb at HX ⊢
    obtain ⟨⟨c0, c1, c2, c3, c4, c5⟩, g0⟩ := HX.out wb (Below.refl _ _)
    go_wp2_with fail
    refine (HO.out _).mono ?_
    rintro e w1 ⟨rfl, b1⟩
    have B1 : Hid (Below wb.heap.size wb w1) := b1
    have G1 : Hid (Below w.heap.size w w1) := (HX.out _ b1).2
    clear b1 c0 c1 c2 c3 c4 c5 g0
    clear HX
    go_wp2_with fail
    go_ret
    exact ⟨ret_in HE.out.symm, G1.out⟩
  | true =>
    rw [hg] at HO
    by_cases hf : fCode n = 0
    · have HFN : Hid (fCode n = 0) := hf
      rw [decide_eq_true hf] at HNO
      clear hf
      by_cases hc : cfC n ns = 0
      · by_cases hL : ks.length = ns.length
        · have HE : Hid (ckC n g ns ks = lpC (tx g) (ns.drop 0) (ks.drop 0)) := ck_go hg hc hL
          have HV : Hid (∀ x ∈ ns, inR x 0 6 = true) := fun x hx => cf_node hc hx
          have HLL : Hid (ks.length = ns.length) := hL
          have HGG : Hid (grB g = true) := hg
          clear hg hL
          go_enter Tryz.func15, Tryz.ntmps15
          go_upto_region 1 with fail
          generalize w.alloc (.cells #[.string g.nm, .int .i64 g.hd, .int .i64 g.tk, .int .i64 g.ex, .slice an ns.length kn, .slice ak ks.length kk] 31) = wb at HX ⊢
          obtain ⟨⟨c0, c1, c2, c3, c4, c5⟩, g0⟩ := HX.out wb (Below.refl _ _)
          go_wp2_with fail
          refine (HO.out _).mono ?_
          rintro e w1 ⟨rfl, b1⟩
          have B1 : Hid (Below wb.heap.size wb w1) := b1
          have G1 : Hid (Below w.heap.size w w1) := (HX.out _ b1).2
          clear b1 c0 c1 c2 c3 c4 c5 g0
          have hLi : (ks.length : Int) = (ns.length : Int) := by have := HLL.out; omega
          obtain ⟨⟨c0, c1, c2, c3, c4, c5⟩, g1⟩ := HX.out w1 B1.out
          have HLF := l12From_any n _ ns w1 (HRN.out _ g1) HZ.out.1 HFN.out
          rw [decide_eq_true hc] at HLF
          clear g1
          go_wp2_with (first | (go_at_call 42; refine (HNO.out _).mono ?_; rintro e w2 ⟨rfl, rfl⟩))
          refine HLF.mono ?_
          rintro e w2 ⟨rfl, b2⟩
          have B2 : Hid (Below wb.heap.size wb w2) := B1.out.trans (b2.mono B1.out.size)
          have G2 : Hid (Below w.heap.size w w2) := (HX.out _ B2.out).2
          clear b2 HLF c0 c1 c2 c3 c4 c5
          clear hc
          obtain ⟨⟨c0, c1, c2, c3, c4, c5⟩, _⟩ := HX.out w2 B2.out
          go_wp2_with fail
          clear c0 c1 c2 c3 c4 c5
          go_loopw [5] (fun i wr => ∃ k : Nat, k ≤ ns.length ∧ i = .int .i64 k ∧ Hid (lpC (tx g) (ns.drop 0) (ks.drop 0) = lpC (tx g) (ns.drop k) (ks.drop k) ∧ Below wb.heap.size wb wr)) (fun i _ => ns.length - (intOf i).toNat)
          case atStart => exact ⟨0, by omega, rfl, rfl, B2.out⟩
          case round =>
            obtain ⟨k, hk, rfl, HI⟩ := hrel
            obtain ⟨⟨c0, c1, c2, c3, c4, c5⟩, g1⟩ := HX.out wr HI.out.2
            have GR : Hid (Below w.heap.size w wr) := g1
            by_cases hlt : k < ns.length
            · obtain ⟨x, hx⟩ := Rg.get_at hlt
              obtain ⟨y, hy⟩ := Rg.get_at (xs := ks) (k := k) (by have := HLL.out; omega)
              obtain ⟨b, off, rfl, hbl, d0⟩ := (RowJ.of_row (HRN.out _ g1)).at hx
              obtain ⟨b2, off2, rfl, hbl2, va, vb, vc, e0, e1, e2, e3, r1, r2, r3⟩ := RowG.at (HRK.out _ g1) rfl hy
              have hxr := inR_nat (HV.out x (Rg.mem_at hx))
              obtain ⟨q, rfl⟩ : ∃ q : Nat, x = (q : Int) := ⟨x.toNat, by omega⟩
              have HST0 := lp_step (t := tx g) hx hy
              rw [Int.toNat_natCast] at HST0
              have HST : Hid _ := HST0
              clear HST0
              have hz := HZ.out.2.2 y (Rg.mem_at hy)
              have HCS0 : ∀ W, Below wr.heap.size wr W → Calls Tryz.prog 44 #[.string (rootS (nsd q)), .string (tx g), .agg #[.int .i64 y.i, va, vb, vc]] W fun e w' => e = .returned (.int .i64 (vC (rootS (nsd q)) (tx g) y.i y.a y.b y.c)) ∧ Below wr.heap.size wr w' := fun W hW => (specCheckSignature_any _ _ y.i va vb vc y.a y.b y.c W (r1.below hW) (r2.below hW) (r3.below hW) hz.1.1 hz.1.2.1 hz.1.2.2 hz.2.1 hz.2.2.1 hz.2.2.2).mono fun e w' ⟨h1, h2⟩ => ⟨h1, hW.trans (h2.mono hW.size)⟩
              have HKY : Hid (∀ W, Below wr.heap.size wr W → Calls Tryz.prog 39 #[.string (nsd q)] W fun e w' => ∃ v, e = .returned v ∧ RowT w' v (keysTo (nsd q) 8) ∧ Below wr.heap.size wr w') := fun W hW => (keys_row q W).mono fun e w' ⟨v, h1, h2, h3⟩ => ⟨v, h1, h2, hW.trans (h3.mono hW.size)⟩
              have HRT : Hid (∀ W v, RowT W v (keysTo (nsd q) 8) → Below wr.heap.size wr W → Calls Tryz.prog 38 #[v] W fun e w' => e = .returned (.string (rootS (nsd q))) ∧ Below wr.heap.size wr w') := fun W v hv hW => (l03Root_any _ v W (keys32 _ (by rw [nsd_size]; decide)) hv).mono fun e w' ⟨h1, h2⟩ => ⟨h1, hW.trans (h2.mono hW.size)⟩
              have HSD : Hid (∀ W, Below wr.heap.size wr W → Calls Tryz.prog 45 #[.int .i64 (q : Int)] W fun e w' => e = .returned (.string (nsd q)) ∧ Below wr.heap.size wr w' ∧ Below W.heap.size W w') := fun W hW => (l12Seed_any q W (by omega)).mono fun e w' ⟨h1, h2⟩ => ⟨h1, hW.trans (h2.mono hW.size), h2⟩
              have HTX : Hid (∀ W, Below wr.heap.size wr W → Calls Tryz.prog 46 #[.agg #[.string g.nm, .int .i64 g.hd, .int .i64 g.tk, .int .i64 g.ex]] W fun e w' => e = .returned (.string (tx g)) ∧ Below wr.heap.size wr w' ∧ Below W.heap.size W w') := fun W hW => (l12Text_any g W (nmd_of (grB_parts HGG.out).1).2 (grB_ok g HGG.out).2).mono fun e w' ⟨h1, h2⟩ => ⟨h1, hW.trans (h2.mono hW.size), h2⟩
              obtain ⟨a1, l1, rfl, _⟩ := r1
              obtain ⟨a2, l2, rfl, _⟩ := r2
              obtain ⟨a3, l3, rfl, _⟩ := r3
              have hkI : (k : Int) < (ns.length : Int) := by omega
              have hkK : (k : Int) < (ks.length : Int) := by omega
              clear hx hy g1 hz hxr
              obtain ⟨cc, HCC⟩ : ∃ cc, Hid (vC (rootS (nsd q)) (tx g) y.i y.a y.b y.c = cc) := ⟨_, rfl⟩
              rw [HCC.out] at HST HCS0
              have HCS : Hid _ := HCS0
              have HEI : Hid (ckC n g ns ks = lpC (tx g) (ns.drop k) (ks.drop k)) := HE.out.trans HI.out.1
              clear HCS0 HCC
              have HT2 : Hid (lpC (tx g) (ns.drop 0) (ks.drop 0) = if cc = 0 then lpC (tx g) (ns.drop (k + 1)) (ks.drop (k + 1)) else cc) := HI.out.1.trans HST.out
              have HE2 : Hid (ckC n g ns ks = if cc = 0 then lpC (tx g) (ns.drop (k + 1)) (ks.drop (k + 1)) else cc) := HEI.out.trans HST.out
              clear HST HEI
              have HTC : Hid (cc = 0 → lpC (tx g) (ns.drop 0) (ks.drop 0) = lpC (tx g) (ns.drop (k + 1)) (ks.drop (k + 1))) := fun h0 => by have := HT2.out; rwa [if_pos h0] at this
              have HEC : Hid (cc ≠ 0 → ckC n g ns ks = cc) := fun h0 => by have := HE2.out; rwa [if_neg h0] at this
              have HWB : Hid (Below wb.heap.size wb wr) := HI.out.2
              clear HT2 HE2
              generalize keysTo (nsd q) 8 = kt at HKY HRT
              generalize rootS (nsd q) = root at HRT HCS
              generalize nsd q = sd at HSD HKY
              obtain ⟨tt, HTT⟩ : ∃ tt, Hid (tx g = tt) := ⟨_, rfl⟩
              rw [HTT.out] at HTX HCS
              generalize y.i = yi at e0 HCS
              generalize y.a = la at e1 HCS
              generalize y.b = lb at e2 HCS
              generalize y.c = lc at e3 HCS
              have HL : Hid (∀ W, Below wr.heap.size wr W → (W.cell? ⟨w.heap.size, 0, none⟩ = some (.string g.nm) ∧ W.cell? ⟨w.heap.size, 1, none⟩ = some (.int .i64 g.hd) ∧ W.cell? ⟨w.heap.size, 2, none⟩ = some (.int .i64 g.tk) ∧ W.cell? ⟨w.heap.size, 3, none⟩ = some (.int .i64 g.ex) ∧ W.cell? ⟨w.heap.size, 4, none⟩ = some (.slice (some ⟨b, off, none⟩) ns.length kn) ∧ W.cell? ⟨w.heap.size, 5, none⟩ = some (.slice (some ⟨b2, off2, none⟩) ks.length kk)) ∧ W.cell? ⟨b, off + k, none⟩ = some (.int .i64 (q : Int)) ∧ W.cell? ⟨b2, off2 + k * 4, none⟩ = some (.int .i64 yi) ∧ W.cell? ⟨b2, off2 + k * 4 + 1, none⟩ = some (.slice a1 la.length l1) ∧ W.cell? ⟨b2, off2 + k * 4 + 2, none⟩ = some (.slice a2 lb.length l2) ∧ W.cell? ⟨b2, off2 + k * 4 + 3, none⟩ = some (.slice a3 lc.length l3)) := fun W hW => by
                have hs0 := (HX.out W (HWB.out.trans (hW.mono HWB.out.size))).1
                exact ⟨hs0, (hW.cell (p := ⟨b, off + k, none⟩) hbl).trans d0, (hW.cell (p := ⟨b2, off2 + k * 4, none⟩) hbl2).trans e0, (hW.cell (p := ⟨b2, off2 + k * 4 + 1, none⟩) hbl2).trans e1, (hW.cell (p := ⟨b2, off2 + k * 4 + 2, none⟩) hbl2).trans e2, (hW.cell (p := ⟨b2, off2 + k * 4 + 3, none⟩) hbl2).trans e3⟩
              clear hbl hbl2
              go_upto_region 10 with fail
              have G0 : Below wr.heap.size wr wr.drew := (Below.refl _ _).drew
              by_cases h0 : cc = 0
              · subst h0
                go_region_held_law (fun W => (W.cell? ⟨w.heap.size, 0, none⟩ = some (.string g.nm) ∧ W.cell? ⟨w.heap.size, 1, none⟩ = some (.int .i64 g.hd) ∧ W.cell? ⟨w.heap.size, 2, none⟩ = some (.int .i64 g.tk) ∧ W.cell? ⟨w.heap.size, 3, none⟩ = some (.int .i64 g.ex) ∧ W.cell? ⟨w.heap.size, 4, none⟩ = some (.slice (some ⟨b, off, none⟩) ns.length kn) ∧ W.cell? ⟨w.heap.size, 5, none⟩ = some (.slice (some ⟨b2, off2, none⟩) ks.length kk)) ∧ W.cell? ⟨b, off + k, none⟩ = some (.int .i64 (q : Int)) ∧ W.cell? ⟨b2, off2 + k * 4, none⟩ = some (.int .i64 yi) ∧ W.cell? ⟨b2, off2 + k * 4 + 1, none⟩ = some (.slice a1 la.length l1) ∧ W.cell? ⟨b2, off2 + k * 4 + 2, none⟩ = some (.slice a2 lb.length l2) ∧ W.cell? ⟨b2, off2 + k * 4 + 3, none⟩ = some (.slice a3 lc.length l3)) (exact HL.out _ (by assumption)) (first
                  | (go_simp; go_at_call 45; (with_reducible refine (HSD.out _ (by assumption)).mono ?_); rintro e wn ⟨rfl, gn, bn⟩; try go_simp)
                  | (go_simp; go_at_call 39; (with_reducible refine (HKY.out _ (by assumption)).mono ?_); rintro e wn ⟨vk, rfl, rk, gn⟩; try go_simp)
                  | (go_simp; go_at_call 46; (with_reducible refine (HTX.out _ (by assumption)).mono ?_); rintro e wn ⟨rfl, gn, bn⟩; (try (have rk := RowT.below rk bn)); try go_simp)
                  | (go_simp; go_at_call 38; (with_reducible refine (HRT.out _ _ (by assumption) (by assumption)).mono ?_); rintro e wn ⟨rfl, gn⟩; try go_simp)
                  | (go_simp; go_at_call 44; (with_reducible refine (HCS.out _ (by assumption)).mono ?_); rintro e w7 ⟨rfl, g7⟩; try go_simp))
                all_goals
                  have B3 : Hid (lpC (tx g) (ns.drop 0) (ks.drop 0) = lpC (tx g) (ns.drop (k + 1)) (ks.drop (k + 1)) ∧ Below wb.heap.size wb w7) := ⟨HTC.out rfl, HWB.out.trans (g7.mono HWB.out.size)⟩
                  go_wp2_with fail
                  exact ⟨⟨k + 1, by omega, by go_num, B3⟩, by simp [intOf]; omega⟩
              · have HF : Hid (ckC n g ns ks = cc) := HEC.out h0
                go_region_held_law (fun W => (W.cell? ⟨w.heap.size, 0, none⟩ = some (.string g.nm) ∧ W.cell? ⟨w.heap.size, 1, none⟩ = some (.int .i64 g.hd) ∧ W.cell? ⟨w.heap.size, 2, none⟩ = some (.int .i64 g.tk) ∧ W.cell? ⟨w.heap.size, 3, none⟩ = some (.int .i64 g.ex) ∧ W.cell? ⟨w.heap.size, 4, none⟩ = some (.slice (some ⟨b, off, none⟩) ns.length kn) ∧ W.cell? ⟨w.heap.size, 5, none⟩ = some (.slice (some ⟨b2, off2, none⟩) ks.length kk)) ∧ W.cell? ⟨b, off + k, none⟩ = some (.int .i64 (q : Int)) ∧ W.cell? ⟨b2, off2 + k * 4, none⟩ = some (.int .i64 yi) ∧ W.cell? ⟨b2, off2 + k * 4 + 1, none⟩ = some (.slice a1 la.length l1) ∧ W.cell? ⟨b2, off2 + k * 4 + 2, none⟩ = some (.slice a2 lb.length l2) ∧ W.cell? ⟨b2, off2 + k * 4 + 3, none⟩ = some (.slice a3 lc.length l3)) (exact HL.out _ (by assumption)) (first
                  | (go_simp; go_at_call 45; (with_reducible refine (HSD.out _ (by assumption)).mono ?_); rintro e wn ⟨rfl, gn, bn⟩; try go_simp)
                  | (go_simp; go_at_call 39; (with_reducible refine (HKY.out _ (by assumption)).mono ?_); rintro e wn ⟨vk, rfl, rk, gn⟩; try go_simp)
                  | (go_simp; go_at_call 46; (with_reducible refine (HTX.out _ (by assumption)).mono ?_); rintro e wn ⟨rfl, gn, bn⟩; (try (have rk := RowT.below rk bn)); try go_simp)
                  | (go_simp; go_at_call 38; (with_reducible refine (HRT.out _ _ (by assumption) (by assumption)).mono ?_); rintro e wn ⟨rfl, gn⟩; try go_simp)
                  | (go_simp; go_at_call 44; (with_reducible refine (HCS.out _ (by assumption)).mono ?_); rintro e w7 ⟨rfl, g7⟩; try go_simp))
                all_goals
                  have G3 : Hid (Below w.heap.size w w7) := GR.out.trans (g7.mono GR.out.size)
                  go_wp2_with fail
                  go_ret
                  exact ⟨ret_in HF.out.symm, G3.out⟩
            · obtain rfl : k = ns.length := by omega
              have HF : Hid (ckC n g ns ks = 0) := by show _ = _; rw [HE.out, HI.out.1, lp_end]
              go_wp2_with fail
              go_ret
              exact ⟨ret_in HF.out.symm, GR.out⟩
        · have HE : Hid (ckC n g ns ks = 19) := ck_len hg hc hL
          have hLi : ¬ (ks.length : Int) = (ns.length : Int) := by omega
          clear hg hL
          go_enter Tryz.func15, Tryz.ntmps15
          go_upto_region 1 with fail
          generalize w.alloc (.cells #[.string g.nm, .int .i64 g.hd, .int .i64 g.tk, .int .i64 g.ex, .slice an ns.length kn, .slice ak ks.length kk] 31) = wb at HX ⊢
          obtain ⟨⟨c0, c1, c2, c3, c4, c5⟩, g0⟩ := HX.out wb (Below.refl _ _)
          go_wp2_with fail
          refine (HO.out _).mono ?_
          rintro e w1 ⟨rfl, b1⟩
          have B1 : Hid (Below wb.heap.size wb w1) := b1
          have G1 : Hid (Below w.heap.size w w1) := (HX.out _ b1).2
          clear b1 c0 c1 c2 c3 c4 c5 g0
          obtain ⟨⟨c0, c1, c2, c3, c4, c5⟩, g1⟩ := HX.out w1 B1.out
          have HLF := l12From_any n _ ns w1 (HRN.out _ g1) HZ.out.1 HFN.out
          rw [decide_eq_true hc] at HLF
          clear g1
          go_wp2_with (first | (go_at_call 42; refine (HNO.out _).mono ?_; rintro e w2 ⟨rfl, rfl⟩))
          refine HLF.mono ?_
          rintro e w2 ⟨rfl, b2⟩
          have B2 : Hid (Below wb.heap.size wb w2) := B1.out.trans (b2.mono B1.out.size)
          have G2 : Hid (Below w.heap.size w w2) := (HX.out _ B2.out).2
          clear b2 HLF c0 c1 c2 c3 c4 c5
          obtain ⟨⟨c0, c1, c2, c3, c4, c5⟩, _⟩ := HX.out w2 B2.out
          go_wp2_with fail
          go_ret
          exact ⟨ret_in HE.out.symm, G2.out⟩
      · have HE : Hid (ckC n g ns ks = 19) := by
          show _ = _
          rw [ck_cf hg hc]
          have h1 := HFN.out
          revert hc
          unfold cfC
          rw [if_pos h1]
          intro hc
          split at hc
          · exact absurd rfl hc
          · rename_i hh; rw [if_neg hh]
        clear hg
        go_enter Tryz.func15, Tryz.ntmps15
        go_upto_region 1 with fail
        generalize w.alloc (.cells #[.string g.nm, .int .i64 g.hd, .int .i64 g.tk, .int .i64 g.ex, .slice an ns.length kn, .slice ak ks.length kk] 31) = wb at HX ⊢
        obtain ⟨⟨c0, c1, c2, c3, c4, c5⟩, g0⟩ := HX.out wb (Below.refl _ _)
        go_wp2_with fail
        refine (HO.out _).mono ?_
        rintro e w1 ⟨rfl, b1⟩
        have B1 : Hid (Below wb.heap.size wb w1) := b1
        have G1 : Hid (Below w.heap.size w w1) := (HX.out _ b1).2
        clear b1 c0 c1 c2 c3 c4 c5 g0
        obtain ⟨⟨c0, c1, c2, c3, c4, c5⟩, g1⟩ := HX.out w1 B1.out
        have HLF := l12From_any n _ ns w1 (HRN.out _ g1) HZ.out.1 HFN.out
        rw [decide_eq_false hc] at HLF
        clear g1
        go_wp2_with (first | (go_at_call 42; refine (HNO.out _).mono ?_; rintro e w2 ⟨rfl, rfl⟩))
        refine HLF.mono ?_
        rintro e w2 ⟨rfl, b2⟩
        have B2 : Hid (Below wb.heap.size wb w2) := B1.out.trans (b2.mono B1.out.size)
        have G2 : Hid (Below w.heap.size w w2) := (HX.out _ B2.out).2
        clear b2 HLF c0 c1 c2 c3 c4 c5
        go_wp2_with fail
        go_ret
        exact ⟨ret_in HE.out.symm, G2.out⟩
    · have h4 : cfC n ns = 4 := by unfold cfC; rw [if_neg hf]
      have HE : Hid (ckC n g ns ks = 4) := by show _ = _; rw [ck_cf hg (by rw [h4]; decide), h4]
      rw [decide_eq_false hf] at HNO
      clear hg hf h4
      go_enter Tryz.func15, Tryz.ntmps15
      go_upto_region 1 with fail
      generalize w.alloc (.cells #[.string g.nm, .int .i64 g.hd, .int .i64 g.tk, .int .i64 g.ex, .slice an ns.length kn, .slice ak ks.length kk] 31) = wb at HX ⊢
      obtain ⟨⟨c0, c1, c2, c3, c4, c5⟩, g0⟩ := HX.out wb (Below.refl _ _)
      go_wp2_with fail
      refine (HO.out _).mono ?_
      rintro e w1 ⟨rfl, b1⟩
      have B1 : Hid (Below wb.heap.size wb w1) := b1
      have G1 : Hid (Below w.heap.size w w1) := (HX.out _ b1).2
      clear b1 c0 c1 c2 c3 c4 c5 g0
      clear HX
      go_wp2_with (first | (go_at_call 42; refine (HNO.out _).mono ?_; rintro e w2 ⟨rfl, rfl⟩))
      go_ret
      exact ⟨ret_in HE.out.symm, G1.out⟩
end Go.Proofs.YtimmeclclilpdaaGreatDoor.Kc
