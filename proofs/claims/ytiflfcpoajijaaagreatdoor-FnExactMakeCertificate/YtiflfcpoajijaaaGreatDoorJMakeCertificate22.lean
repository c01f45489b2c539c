/- Certificates of grants as arguments; the program's check of one. -/
import Derived.Test.YtiflfcpoajijaaaGreatDoorJMakeCertificate15
import Derived.Test.YtiflfcpoajijaaaGreatDoorJMakeCertificate0
import Derived.Test.YtiflfcpoajijaaaGreatDoorJMakeCertificate16
import Derived.Test.YtiflfcpoajijaaaGreatDoorJMakeCertificate17
import Derived.Test.YtiflfcpoajijaaaGreatDoorJMakeCertificate21
namespace Go.Proofs.YtiflfcpoajijaaaGreatDoor.Op
open Go.ChangeShapes Go.WideShapes Go.ChangeAt Go.RowKit Go.Deep
theorem cellsGrantI : Tryz.prog.cellsOf 45 = 4 := by kernel_rfl
theorem cell_ints {H : Type} {enc : TypeId × Value → H} {w : World} {base fuel : Nat} {v : Value} {y : DataW H × List MemPlace} (hf : DataW.trod enc Tryz.prog w base (fun _ => true) true fuel 26 [v] = some y) :
    ∃ xs : List Int, Is.RowI w v xs ∧ xs.length ≤ maxLen := by
  rcases Go.ChangeShapes.open_ints Tryz.underlying26 Tryz.underlying3 (by kernel_rfl) hf with ⟨hcs, _⟩ | ⟨x, l, c, zs, hcs, _, hl, hm, hz, _, hcell, hwz⟩
  · simp at hcs
    subst hcs
    exact ⟨[], ⟨none, 0, rfl, .inl rfl, fun _ hx => by cases hx⟩, Nat.zero_le _⟩
  · simp at hcs
    subst hcs
    have hz' : zs.length = c := by simpa using hz
    have hlen : (zs.take l).length = l := by rw [List.length_take]; omega
    refine ⟨zs.take l, ⟨some x, c, by rw [hlen], ?_, ?_⟩, by rw [hlen]; omega⟩
    · by_cases h0 : l = 0
      · exact .inl (by rw [h0]; rfl)
      · obtain ⟨b, off, spot⟩ := x
        have hc := hcell 0 (by omega)
        have hspot : spot = none := by simpa [Addr.add] using World.cell?_spot hc
        subst hspot
        have hc0 : w.cell? ⟨b, off, none⟩ = some (.int .i64 (zs.getD 0 0)) := by simpa [Addr.add] using hc
        refine .inr ⟨b, off, rfl, by omega, World.block_lt_of_cell? w _ hc0, fun i hi => ?_⟩
        have h1 := hcell i (by omega)
        have h2 : (⟨b, off, none⟩ : Addr).add i = ⟨b, off + i, none⟩ := by unfold Addr.add; split <;> simp_all
        rw [h2] at h1
        rw [h1]
        unfold Sl.nth
        rw [List.getD_eq_getElem?_getD, List.getD_eq_getElem?_getD, List.getElem?_take_of_lt (by omega)]
    · intro n hn
      have := hwz n (List.mem_of_mem_take hn)
      simpa [Lit.wf, IntKind.min, IntKind.max, IntKind.signed, IntKind.bits] using this
end Go.Proofs.YtiflfcpoajijaaaGreatDoor.Op
namespace Go.Proofs.YtiflfcpoajijaaaGreatDoor.Kc
open Go.RowKit Go.Proofs.YtiflfcpoajijaaaGreatDoor.Sl Go.Proofs.YtiflfcpoajijaaaGreatDoor.By Go.Proofs.YtiflfcpoajijaaaGreatDoor.Ap Go.Proofs.YtiflfcpoajijaaaGreatDoor.Tx Go.Proofs.YtiflfcpoajijaaaGreatDoor.Sh Go.Proofs.YtiflfcpoajijaaaGreatDoor.Ho Go.Proofs.YtiflfcpoajijaaaGreatDoor.Se Go.Proofs.YtiflfcpoajijaaaGreatDoor.Ka Go.Proofs.YtiflfcpoajijaaaGreatDoor.Sx Go.Proofs.YtiflfcpoajijaaaGreatDoor.Hf Go.Proofs.YtiflfcpoajijaaaGreatDoor.Sa Go.Proofs.YtiflfcpoajijaaaGreatDoor.Kx Go.Proofs.YtiflfcpoajijaaaGreatDoor.Lv Go.Proofs.YtiflfcpoajijaaaGreatDoor.Cr Go.Proofs.YtiflfcpoajijaaaGreatDoor.Ns
open Go.Proofs.YtiflfcpoajijaaaGreatDoor.Cs (implCheckSignature_any vC)

open Go.Proofs.YtiflfcpoajijaaaGreatDoor.Tm (fOut fCode implFaultsOf_any)
open Go.Proofs.YtiflfcpoajijaaaGreatDoor.Xq (RowJ rnB rnM rn_iff risingNodes_any isV isV_frn)
open Go.Proofs.YtiflfcpoajijaaaGreatDoor.Rg (RowG Stays)
open Go.Proofs.YtiflfcpoajijaaaGreatDoor.Is (RowI eqIntS_same)
open Go.Proofs.YtiflfcpoajijaaaGreatDoor.Gr12 (Gg gV grB gtS gtC tx PTab PTab.below implGrantText_any)

/-- The code of a list of certifiers. -/
noncomputable def cfC (n : Int) (ns : List Int) : Int := if fCode n = 0 then (if rnB n ns = true ∧ (ns.length : Int) = fOut n + 1 then 0 else 19) else 4
/-- The code of the first signature that is wrong. -/
def lpC (t : ByteArray) : List Int → List Ks → Int
  | x :: ns, k :: ks => if vC (rootS (nsd x.toNat)) t k.i k.a k.b k.c = 0 then lpC t ns ks else vC (rootS (nsd x.toNat)) t k.i k.a k.b k.c
  | [], _ => 0
  | _ :: _, [] => 0
noncomputable def ckC (n : Int) (g : Gg) (ns : List Int) (ks : List Ks) : Int := if grB g = true then (if cfC n ns = 0 then (if ks.length = ns.length then lpC (tx g) ns ks else 19) else cfC n ns) else 1
theorem lp_step {t : ByteArray} {ns : List Int} {ks : List Ks} {j : Nat} {x : Int} {k : Ks} (hx : ns[j]? = some x) (hk : ks[j]? = some k) : lpC t (ns.drop j) (ks.drop j) = if vC (rootS (nsd x.toNat)) t k.i k.a k.b k.c = 0 then lpC t (ns.drop (j + 1)) (ks.drop (j + 1)) else vC (rootS (nsd x.toNat)) t k.i k.a k.b k.c := by
  obtain ⟨h1, e1⟩ := List.getElem?_eq_some_iff.1 hx
  obtain ⟨h2, e2⟩ := List.getElem?_eq_some_iff.1 hk
  rw [List.drop_eq_getElem_cons h1, List.drop_eq_getElem_cons h2, e1, e2, lpC]
theorem lp_end {t : ByteArray} {ns : List Int} {ks : List Ks} : lpC t (ns.drop ns.length) (ks.drop ns.length) = 0 := by
  rw [List.drop_length]
  cases ks.drop ns.length <;> rfl
theorem cf_zero {n : Int} {ns : List Int} (h : cfC n ns = 0) : fCode n = 0 ∧ rnB n ns = true ∧ (ns.length : Int) = fOut n + 1 := by
  unfold cfC at h
  split at h
  · split at h
    · exact ⟨by assumption, by assumption⟩
    · cases h
  · cases h
theorem cf_node {n : Int} {ns : List Int} (h : cfC n ns = 0) {x : Int} (hx : x ∈ ns) : inR x 0 6 = true := by
  obtain ⟨e1, e2⟩ := isV_frn ((rn_iff.1 (cf_zero h).2.1).1 x hx)
  unfold inR
  simp
  omega
theorem ck_bad {n : Int} {g : Gg} {ns : List Int} {ks : List Ks} (h : grB g = false) : ckC n g ns ks = 1 := by unfold ckC; rw [h]; rfl
theorem ck_cf {n : Int} {g : Gg} {ns : List Int} {ks : List Ks} (h : grB g = true) (h2 : cfC n ns ≠ 0) : ckC n g ns ks = cfC n ns := by unfold ckC; rw [if_pos h, if_neg h2]
theorem ck_len {n : Int} {g : Gg} {ns : List Int} {ks : List Ks} (h : grB g = true) (h2 : cfC n ns = 0) (h3 : ks.length ≠ ns.length) : ckC n g ns ks = 19 := by unfold ckC; rw [if_pos h, if_pos h2, if_neg h3]
theorem ck_go {n : Int} {g : Gg} {ns : List Int} {ks : List Ks} (h : grB g = true) (h2 : cfC n ns = 0) (h3 : ks.length = ns.length) : ckC n g ns ks = lpC (tx g) (ns.drop 0) (ks.drop 0) := by unfold ckC; rw [if_pos h, if_pos h2, if_pos h3]; rfl
theorem ret_in {a b : Int} (h : a = b) : Ending.returned (.int .i64 a) = .returned (.int .i64 b) := by rw [h]
theorem f_less {n : Int} : 0 ≤ fOut n ∧ fOut n ≤ 2 := by unfold fOut; split; · decide
                                                         split; · decide
                                                         split <;> decide
set_option maxRecDepth 100000 in
set_option maxHeartbeats 1600000 in
theorem certifiersFault_any (n : Int) (v : Value) (ns : List Int) (w : World) (h : RowI w v ns) (hl : ns.length ≤ 1048576) :
    Calls Tryz.prog 29 #[.int .i64 n, v] w fun e w' => e = .returned (.int .i64 (cfC n ns)) ∧ w = w' := by
  have HF := implFaultsOf_any n w
  have HN := risingNodes_any n v ns w (RowJ.of_row h) (by omega)
  obtain ⟨a, cap, rfl, _⟩ := h
  by_cases hc : fCode n = 0
  · have hfl := f_less (n := n)
    rw [hc] at HF
    by_cases hr : rnB n ns = true
    · rw [hr] at HN
      generalize rnM n ns = mm at HN
      by_cases hq : (ns.length : Int) = fOut n + 1
      · have HE : Hid (cfC n ns = 0) := by show _ = _; unfold cfC; rw [if_pos hc, if_pos ⟨hr, hq⟩]
        clear hc hr
        generalize fOut n = fo at HF hq hfl
        go_enter Tryz.func29, Tryz.ntmps29
        go_wp2_with (first | (go_at_call 56; refine HF.mono ?_; rintro e w1 ⟨rfl, rfl⟩) | (go_at_call 57; refine HN.mono ?_; rintro e w1 ⟨rfl, rfl⟩))
        go_ret
        exact ⟨ret_in HE.out.symm, rfl⟩
      · have HE : Hid (cfC n ns = 19) := by show _ = _; unfold cfC; rw [if_pos hc, if_neg (fun hh => hq hh.2)]
        clear hc hr
        generalize fOut n = fo at HF hq hfl
        go_enter Tryz.func29, Tryz.ntmps29
        go_wp2_with (first | (go_at_call 56; refine HF.mono ?_; rintro e w1 ⟨rfl, rfl⟩) | (go_at_call 57; refine HN.mono ?_; rintro e w1 ⟨rfl, rfl⟩))
        go_ret
        exact ⟨ret_in HE.out.symm, rfl⟩
    · have HE : Hid (cfC n ns = 19) := by show _ = _; unfold cfC; rw [if_pos hc, if_neg (fun hh => hr hh.1)]
      rw [Bool.not_eq_true] at hr
      rw [hr] at HN
      generalize rnM n ns = mm at HN
      clear hc hr
      generalize fOut n = fo at HF hfl
      go_enter Tryz.func29, Tryz.ntmps29
      go_wp2_with (first | (go_at_call 56; refine HF.mono ?_; rintro e w1 ⟨rfl, rfl⟩) | (go_at_call 57; refine HN.mono ?_; rintro e w1 ⟨rfl, rfl⟩))
      go_ret
      exact ⟨ret_in HE.out.symm, rfl⟩
  · have HE : Hid (cfC n ns = 4) := by show _ = _; unfold cfC; rw [if_neg hc]
    have h4 : fCode n = 4 := by unfold fCode at hc ⊢; split at hc <;> simp_all
    rw [h4] at HF
    clear hc h4 HN
    generalize fOut n = fo at HF
    go_enter Tryz.func29, Tryz.ntmps29
    go_wp2_with (first | (go_at_call 56; refine HF.mono ?_; rintro e w1 ⟨rfl, rfl⟩))
    go_ret
    exact ⟨ret_in HE.out.symm, rfl⟩
set_option maxRecDepth 100000 in
set_option maxHeartbeats 1600000 in
theorem signedFault_any (x : Int) (t : ByteArray) (i : Int) (ua ub uc : Value) (ta tb tc : List ByteArray) (w : World) (ra : RowT w ua ta) (rb : RowT w ub tb) (rc : RowT w uc tc) (la : ta.length ≤ maxLen) (lb : tb.length ≤ maxLen) (lc : tc.length ≤ maxLen) (za : ∀ t ∈ ta, t.size ≤ maxLen) (zb : ∀ t ∈ tb, t.size ≤ maxLen) (zc : ∀ t ∈ tc, t.size ≤ maxLen) (hx : inR x 0 6 = true) (hK : KTab w) (hp : 0 < w.heap.size) :
    Calls Tryz.prog 30 #[.int .i64 x, .string t, .agg #[.int .i64 i, ua, ub, uc]] w fun e w' => e = .returned (.int .i64 (vC (rootS (nsd x.toNat)) t i ta tb tc)) ∧ Below w.heap.size w w' := by
  have HKT : Hid (∀ W, Below w.heap.size w W → KTab W ∧ 0 < W.heap.size) := fun W hW => ⟨hK.below hW hp, Nat.lt_of_lt_of_le hp hW.size⟩
  have HN : Hid (∀ W, Below w.heap.size w W → Calls Tryz.prog 11 #[.int .i64 x] W fun e w' => e = .returned (.tuple #[.string (rootS (nsd x.toNat)), .int .i64 0]) ∧ Below W.heap.size W w') := fun W hW => by
    have := implNodeRoot_any x W (HKT.out W hW).1 (HKT.out W hW).2
    rwa [(ns_good hx).1, (ns_good hx).2.2] at this
  have HC : Hid (∀ W root, Below w.heap.size w W → Calls Tryz.prog 58 #[.string root, .string t, .agg #[.int .i64 i, ua, ub, uc]] W fun e w' => e = .returned (.int .i64 (vC root t i ta tb tc)) ∧ Below W.heap.size W w') := fun W root hW => implCheckSignature_any root t i ua ub uc ta tb tc W (ra.below hW) (rb.below hW) (rc.below hW) la lb lc za zb zc (HKT.out W hW).1 (HKT.out W hW).2
  obtain ⟨a1, k1, rfl, _⟩ := ra
  obtain ⟨a2, k2, rfl, _⟩ := rb
  obtain ⟨a3, k3, rfl, _⟩ := rc
  clear la lb lc za zb zc hx hK hp HKT
  have HX : Hid (∀ W, Below (w.alloc (.cells #[.int .i64 i, .slice a1 ta.length k1, .slice a2 tb.length k2, .slice a3 tc.length k3] 37)).heap.size (w.alloc (.cells #[.int .i64 i, .slice a1 ta.length k1, .slice a2 tb.length k2, .slice a3 tc.length k3] 37)) W → (W.cell? ⟨w.heap.size, 0, none⟩ = some (.int .i64 i) ∧ W.cell? ⟨w.heap.size, 1, none⟩ = some (.slice a1 ta.length k1) ∧ W.cell? ⟨w.heap.size, 2, none⟩ = some (.slice a2 tb.length k2) ∧ W.cell? ⟨w.heap.size, 3, none⟩ = some (.slice a3 tc.length k3)) ∧ Below w.heap.size w W) := fun W hW => by
    have h1 := (hW.block w.heap.size (by simp)).trans (heap_alloc_new w _)
    exact ⟨⟨by simp [World.cell?, h1], by simp [World.cell?, h1], by simp [World.cell?, h1], by simp [World.cell?, h1]⟩, (Rg.bel_new w _).trans (hW.mono (by simp))⟩
  generalize rootS (nsd x.toNat) = root at HN ⊢
  obtain ⟨vv, HV⟩ : ∃ vv, Hid (vC root t i ta tb tc = vv) := ⟨_, rfl⟩
  rw [HV.out]
  go_enter Tryz.func30, Tryz.ntmps30
  go_upto_region 1 with fail
  generalize w.alloc (.cells #[.int .i64 i, .slice a1 ta.length k1, .slice a2 tb.length k2, .slice a3 tc.length k3] 37) = wb at HX ⊢
  obtain ⟨_, g0⟩ := HX.out wb (Below.refl _ _)
  go_wp2_with fail
  refine (HN.out _ g0).mono ?_
  rintro e w1 ⟨rfl, b1⟩
  clear g0
  obtain ⟨⟨c0, c1, c2, c3⟩, g1⟩ := HX.out w1 b1
  have HC1 := HC.out w1 root g1
  rw [HV.out] at HC1
  have G1 : Hid (Below w.heap.size w w1) := g1
  clear b1 g1 HX HC HN
  go_wp2_with fail
  refine HC1.mono ?_
  rintro e w2 ⟨rfl, b2⟩
  have G2 : Hid (Below w.heap.size w w2) := G1.out.trans (b2.mono G1.out.size)
  clear b2 HC1
  go_wp2_with fail
  go_ret
  exact ⟨rfl, G2.out⟩
set_option maxRecDepth 100000 in
set_option maxHeartbeats 1600000 in
theorem implCheckCertificate_any (n : Int) (g : Gg) (vn vs : Value) (ns : List Int) (ks : List Ks) (w : World) (hn : RowI w vn ns) (hk : Row w vs ks) (zg : g.nm.size ≤ maxLen) (zn : ns.length ≤ 1048576) (zk : ks.length ≤ 1048576) (hm : ∀ x ∈ ks, Tz maxLen x) (hP : PTab w) (hK : KTab w) (hp : 0 < w.heap.size) :
    Calls Tryz.prog 8 #[.int .i64 n, crV g vn vs] w fun e w' => e = .returned (.int .i64 (ckC n g ns ks)) ∧ Below w.heap.size w w' := by
  have HRN : Hid (∀ W, Below w.heap.size w W → RowI W vn ns) := fun W hW => hn.below hW
  have HRK : Hid (∀ W, Below w.heap.size w W → Row W vs ks) := fun W hW => hk.below hW
  have HKT : Hid (∀ W, Below w.heap.size w W → KTab W ∧ 0 < W.heap.size) := fun W hW => ⟨hK.below hW hp, Nat.lt_of_lt_of_le hp hW.size⟩
  have HT : Hid (∀ W, Below w.heap.size w W → Calls Tryz.prog 28 #[.agg #[.string g.nm, .int .i64 g.hd, .int .i64 g.tk, .int .i64 g.ex]] W fun e w' => e = .returned (.tuple #[.string (gtS g), .int .i64 (gtC g)]) ∧ Below W.heap.size W w') := fun W hW => implGrantText_any g W zg (hP.below hW)
  have HZ : Hid (ns.length ≤ 1048576 ∧ ks.length ≤ 1048576 ∧ ∀ x ∈ ks, Tz maxLen x) := ⟨zn, zk, hm⟩
  obtain ⟨an, kn, rfl, _⟩ := hn
  obtain ⟨ak, kk, rfl⟩ := RowG.slice hk
  clear hk zg hm hP hK hp
  have HX : Hid (∀ W, Below (w.alloc (.cells #[.string g.nm, .int .i64 g.hd, .int .i64 g.tk, .int .i64 g.ex, .slice an ns.length kn, .slice ak ks.length kk] 31)).heap.size (w.alloc (.cells #[.string g.nm, .int .i64 g.hd, .int .i64 g.tk, .int .i64 g.ex, .slice an ns.length kn, .slice ak ks.length kk] 31)) W → (W.cell? ⟨w.heap.size, 0, none⟩ = some (.string g.nm) ∧ W.cell? ⟨w.heap.size, 1, none⟩ = some (.int .i64 g.hd) ∧ W.cell? ⟨w.heap.size, 2, none⟩ = some (.int .i64 g.tk) ∧ W.cell? ⟨w.heap.size, 3, none⟩ = some (.int .i64 g.ex) ∧ W.cell? ⟨w.heap.size, 4, none⟩ = some (.slice an ns.length kn) ∧ W.cell? ⟨w.heap.size, 5, none⟩ = some (.slice ak ks.length kk)) ∧ Below w.heap.size w W) := fun W hW => by
    have h1 := (hW.block w.heap.size (by simp)).trans (heap_alloc_new w _)
    exact ⟨⟨by simp [World.cell?, h1], by simp [World.cell?, h1], by simp [World.cell?, h1], by simp [World.cell?, h1], by simp [World.cell?, h1], by simp [World.cell?, h1]⟩, (Rg.bel_new w _).trans (hW.mono (by simp))⟩
  unfold crV
  cases hg : grB g with
  | false =>
    have HE : Hid (ckC n g ns ks = 1) := ck_bad hg
    have HG : Hid (gtS g = ⟨#[]⟩ ∧ gtC g = 1) := by show _ ∧ _; unfold gtS gtC; rw [hg]; exact ⟨rfl, rfl⟩
    rw [HG.out.1, HG.out.2] at HT
    clear hg HG
    go_enter Tryz.func8, Tryz.ntmps8
    go_upto_region 1 with fail
    generalize w.alloc (.cells #[.string g.nm, .int .i64 g.hd, .int .i64 g.tk, .int .i64 g.ex, .slice an ns.length kn, .slice ak ks.length kk] 31) = wb at HX ⊢
    obtain ⟨⟨c0, c1, c2, c3, c4, c5⟩, g0⟩ := HX.out wb (Below.refl _ _)
    go_wp2_with fail
    refine (HT.out _ g0).mono ?_
    rintro e w1 ⟨rfl, b1⟩
    have B1 : Hid (Below wb.heap.size wb w1) := b1
    have G1 : Hid (Below w.heap.size w w1) := (HX.out _ b1).2
    clear b1 c0 c1 c2 c3 c4 c5 g0
    clear HX
    go_wp2_with fail
    go_ret
    exact ⟨ret_in HE.out.symm, G1.out⟩
  | true =>
    have HG : Hid (gtS g = tx g ∧ gtC g = 0) := by show _ ∧ _; unfold gtS gtC; rw [hg]; exact ⟨rfl, rfl⟩
    rw [HG.out.1, HG.out.2] at HT
    clear HG
    by_cases hc : cfC n ns = 0
    · by_cases hL : ks.length = ns.length
      · have HE : Hid (ckC n g ns ks = lpC (tx g) (ns.drop 0) (ks.drop 0)) := ck_go hg hc hL
        have HV : Hid (∀ x ∈ ns, inR x 0 6 = true) := fun x hx => cf_node hc hx
        have HLL : Hid (ks.length = ns.length) := hL
        clear hL
        have HS : Hid (∀ (W : World) (b off j : Nat) (x : Int) (k : Ks) (ua ub uc : Value), Below w.heap.size w W → k ∈ ks → x ∈ ns → RowT W ua k.a → RowT W ub k.b → RowT W uc k.c → Calls Tryz.prog 30 #[.int .i64 x, .string (tx g), .agg #[.int .i64 k.i, ua, ub, uc]] W fun e w' => e = .returned (.int .i64 (vC (rootS (nsd x.toNat)) (tx g) k.i k.a k.b k.c)) ∧ Below W.heap.size W w') := fun W b off j x k ua ub uc hW hk hx r1 r2 r3 => by
          have hz := HZ.out.2.2 k hk
          exact signedFault_any x _ k.i ua ub uc k.a k.b k.c W r1 r2 r3 hz.1.1 hz.1.2.1 hz.1.2.2 hz.2.1 hz.2.2.1 hz.2.2.2 (HV.out x hx) (HKT.out W hW).1 (HKT.out W hW).2
        clear hg
        generalize tx g = tt at HT HE HS
        go_enter Tryz.func8, Tryz.ntmps8
        go_upto_region 1 with fail
        generalize w.alloc (.cells #[.string g.nm, .int .i64 g.hd, .int .i64 g.tk, .int .i64 g.ex, .slice an ns.length kn, .slice ak ks.length kk] 31) = wb at HX ⊢
        obtain ⟨⟨c0, c1, c2, c3, c4, c5⟩, g0⟩ := HX.out wb (Below.refl _ _)
        go_wp2_with fail
        refine (HT.out _ g0).mono ?_
        rintro e w1 ⟨rfl, b1⟩
        have B1 : Hid (Below wb.heap.size wb w1) := b1
        have G1 : Hid (Below w.heap.size w w1) := (HX.out _ b1).2
        clear b1 c0 c1 c2 c3 c4 c5 g0
        have hLi : (ks.length : Int) = (ns.length : Int) := by have := HLL.out; omega
        obtain ⟨⟨c0, c1, c2, c3, c4, c5⟩, g1⟩ := HX.out w1 B1.out
        have HCF := certifiersFault_any n _ ns w1 (HRN.out _ g1) HZ.out.1
        rw [hc] at HCF
        clear g1
        go_wp2_with (first | (go_at_call 29; refine HCF.mono ?_; rintro e w2 ⟨rfl, rfl⟩))
        clear HCF hc
        clear c0 c1 c2 c3 c4 c5
        go_loopw [35] (fun i wr => ∃ k : Nat, k ≤ ns.length ∧ i = .int .i64 k ∧ Hid (lpC tt (ns.drop 0) (ks.drop 0) = lpC tt (ns.drop k) (ks.drop k) ∧ Below wb.heap.size wb wr)) (fun i _ => ns.length - (intOf i).toNat)
        case atStart => exact ⟨0, by omega, rfl, rfl, B1.out⟩
        case round =>
          obtain ⟨k, hk, rfl, HI⟩ := hrel
          obtain ⟨⟨c0, c1, c2, c3, c4, c5⟩, g1⟩ := HX.out wr HI.out.2
          have GR : Hid (Below w.heap.size w wr) := g1
          by_cases hlt : k < ns.length
          · obtain ⟨x, hx⟩ := Rg.get_at hlt
            obtain ⟨y, hy⟩ := Rg.get_at (xs := ks) (k := k) (by have := HLL.out; omega)
            obtain ⟨b, off, rfl, hbl, d0⟩ := (RowJ.of_row (HRN.out _ g1)).at hx
            obtain ⟨b2, off2, rfl, hbl2, va, vb, vc, e0, e1, e2, e3, r1, r2, r3⟩ := RowG.at (HRK.out _ g1) rfl hy
            have HSF := HS.out wr b off k x y va vb vc g1 (Rg.mem_at hy) (Rg.mem_at hx) r1 r2 r3
            have HST : Hid _ := lp_step (t := tt) hx hy
            obtain ⟨a1, l1, rfl, _⟩ := r1
            obtain ⟨a2, l2, rfl, _⟩ := r2
            obtain ⟨a3, l3, rfl, _⟩ := r3
            have hkI : (k : Int) < (ns.length : Int) := by omega
            have hkK : (k : Int) < (ks.length : Int) := by omega
            clear hx hy g1
            obtain ⟨cc, HCC⟩ : ∃ cc, Hid (vC (rootS (nsd x.toNat)) tt y.i y.a y.b y.c = cc) := ⟨_, rfl⟩
            rw [HCC.out] at HSF HST
            by_cases h0 : cc = 0
            · subst h0
              go_wp2_with fail
              refine HSF.mono ?_
              rintro e w3 ⟨rfl, b3⟩
              have B3 : Hid (lpC tt (ns.drop 0) (ks.drop 0) = lpC tt (ns.drop (k + 1)) (ks.drop (k + 1)) ∧ Below wb.heap.size wb w3) := ⟨HI.out.1.trans (HST.out.trans (by simp)), HI.out.2.trans (b3.mono HI.out.2.size)⟩
              clear b3 HSF c0 c1 c2 c3 c4 c5 d0 e0 e1 e2 e3
              go_wp2_with fail
              exact ⟨⟨k + 1, by omega, by go_num, B3⟩, by simp [intOf]; omega⟩
            · have HF : Hid (ckC n g ns ks = cc) := by show _ = _; have := HST.out; rw [if_neg h0] at this; rw [HE.out, HI.out.1, this]
              go_wp2_with fail
              refine HSF.mono ?_
              rintro e w3 ⟨rfl, b3⟩
              have G3 : Hid (Below w.heap.size w w3) := GR.out.trans (b3.mono GR.out.size)
              clear b3 HSF c0 c1 c2 c3 c4 c5 d0 e0 e1 e2 e3
              go_wp2_with fail
              go_ret
              exact ⟨ret_in HF.out.symm, G3.out⟩
          · obtain rfl : k = ns.length := by omega
            have HF : Hid (ckC n g ns ks = 0) := by show _ = _; rw [HE.out, HI.out.1, lp_end]
            go_wp2_with fail
            go_ret
            exact ⟨ret_in HF.out.symm, GR.out⟩
      · have HE : Hid (ckC n g ns ks = 19) := ck_len hg hc hL
        have hLi : ¬ (ks.length : Int) = (ns.length : Int) := by omega
        clear hg hL
        go_enter Tryz.func8, Tryz.ntmps8
        go_upto_region 1 with fail
        generalize w.alloc (.cells #[.string g.nm, .int .i64 g.hd, .int .i64 g.tk, .int .i64 g.ex, .slice an ns.length kn, .slice ak ks.length kk] 31) = wb at HX ⊢
        obtain ⟨⟨c0, c1, c2, c3, c4, c5⟩, g0⟩ := HX.out wb (Below.refl _ _)
        go_wp2_with fail
        refine (HT.out _ g0).mono ?_
        rintro e w1 ⟨rfl, b1⟩
        have B1 : Hid (Below wb.heap.size wb w1) := b1
        have G1 : Hid (Below w.heap.size w w1) := (HX.out _ b1).2
        clear b1 c0 c1 c2 c3 c4 c5 g0
        obtain ⟨⟨c0, c1, c2, c3, c4, c5⟩, g1⟩ := HX.out w1 B1.out
        have HCF := certifiersFault_any n _ ns w1 (HRN.out _ g1) HZ.out.1
        rw [hc] at HCF
        clear g1
        go_wp2_with (first | (go_at_call 29; refine HCF.mono ?_; rintro e w2 ⟨rfl, rfl⟩))
        go_ret
        exact ⟨ret_in HE.out.symm, G1.out⟩
    · have HE : Hid (ckC n g ns ks = cfC n ns) := ck_cf hg hc
      clear hg
      obtain ⟨cc, HCC⟩ : ∃ cc, Hid (cfC n ns = cc) := ⟨_, rfl⟩
      rw [HCC.out] at hc HE
      go_enter Tryz.func8, Tryz.ntmps8
      go_upto_region 1 with fail
      generalize w.alloc (.cells #[.string g.nm, .int .i64 g.hd, .int .i64 g.tk, .int .i64 g.ex, .slice an ns.length kn, .slice ak ks.length kk] 31) = wb at HX ⊢
      obtain ⟨⟨c0, c1, c2, c3, c4, c5⟩, g0⟩ := HX.out wb (Below.refl _ _)
      go_wp2_with fail
      refine (HT.out _ g0).mono ?_
      rintro e w1 ⟨rfl, b1⟩
      have B1 : Hid (Below wb.heap.size wb w1) := b1
      have G1 : Hid (Below w.heap.size w w1) := (HX.out _ b1).2
      clear b1 c0 c1 c2 c3 c4 c5 g0
      obtain ⟨⟨c0, c1, c2, c3, c4, c5⟩, g1⟩ := HX.out w1 B1.out
      have HCF := certifiersFault_any n _ ns w1 (HRN.out _ g1) HZ.out.1
      rw [HCC.out] at HCF
      clear g1
      go_wp2_with (first | (go_at_call 29; refine HCF.mono ?_; rintro e w2 ⟨rfl, rfl⟩))
      go_ret
      exact ⟨ret_in HE.out.symm, G1.out⟩
end Go.Proofs.YtiflfcpoajijaaaGreatDoor.Kc
