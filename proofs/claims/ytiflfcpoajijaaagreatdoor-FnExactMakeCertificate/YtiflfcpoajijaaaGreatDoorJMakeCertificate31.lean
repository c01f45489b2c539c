/- The specification's check of a certificate. -/
import Derived.Test.YtiflfcpoajijaaaGreatDoorJMakeCertificate28
import Derived.Test.YtiflfcpoajijaaaGreatDoorJMakeCertificate30
import Derived.Test.YtiflfcpoajijaaaGreatDoorJMakeCertificate11
import Derived.Deep.RegionHeld3
import Derived.Deep.RegionHeldLaw
namespace Go.Proofs.YtiflfcpoajijaaaGreatDoor.Kc
open Go.RowKit Go.Proofs.YtiflfcpoajijaaaGreatDoor.Sl Go.Proofs.YtiflfcpoajijaaaGreatDoor.By Go.Proofs.YtiflfcpoajijaaaGreatDoor.Ap Go.Proofs.YtiflfcpoajijaaaGreatDoor.Tx Go.Proofs.YtiflfcpoajijaaaGreatDoor.Sh Go.Proofs.YtiflfcpoajijaaaGreatDoor.Ho Go.Proofs.YtiflfcpoajijaaaGreatDoor.Se Go.Proofs.YtiflfcpoajijaaaGreatDoor.Ka Go.Proofs.YtiflfcpoajijaaaGreatDoor.Sx Go.Proofs.YtiflfcpoajijaaaGreatDoor.Hf Go.Proofs.YtiflfcpoajijaaaGreatDoor.Sa Go.Proofs.YtiflfcpoajijaaaGreatDoor.Kx Go.Proofs.YtiflfcpoajijaaaGreatDoor.Lv Go.Proofs.YtiflfcpoajijaaaGreatDoor.Cr Go.Proofs.YtiflfcpoajijaaaGreatDoor.Ns
open Go.Proofs.YtiflfcpoajijaaaGreatDoor.Cs (vC specCheckSignature_any)
open Go.Proofs.YtiflfcpoajijaaaGreatDoor.Tm (fOut fCode)
open Go.Proofs.YtiflfcpoajijaaaGreatDoor.Xq (RowJ rnB rnM rn_iff isV isV_frn okN Rise)
open Go.Proofs.YtiflfcpoajijaaaGreatDoor.Rg (RowG Stays)
open Go.Proofs.YtiflfcpoajijaaaGreatDoor.Is (RowI eqIntS_same)
open Go.Proofs.YtiflfcpoajijaaaGreatDoor.Gr12 (Gg gV grB grB_parts grB_ok nmd_of tx tx_small specGrantOK_any l12Text_any)

set_option maxRecDepth 100000 in
set_option maxHeartbeats 3200000 in
theorem specCheckCertificate_any (n : Int) (g : Gg) (vn vs : Value) (ns : List Int) (ks : List Ks) (w : World) (hn : RowI w vn ns) (hk : Row w vs ks) (zg : g.nm.size ≤ maxLen) (zn : ns.length ≤ 1048576) (zk : ks.length ≤ 1048576) (hm : ∀ x ∈ ks, Tz maxLen x) :
    Calls Tryz.prog 14 #[.int .i64 n, crV g vn vs] w fun e w' => e = .returned (.int .i64 (ckC n g ns ks)) ∧ Below w.heap.size w w' := by
  have HRN : Hid (∀ W, Below w.heap.size w W → RowI W vn ns) := fun W hW => hn.below hW
  have HRK : Hid (∀ W, Below w.heap.size w W → Row W vs ks) := fun W hW => hk.below hW
  have HO : Hid (∀ W, Calls Tryz.prog 38 #[.agg #[.string g.nm, .int .i64 g.hd, .int .i64 g.tk, .int .i64 g.ex]] W fun e w' => e = .returned (.bool (grB g)) ∧ Below W.heap.size W w') := fun W => specGrantOK_any g W zg
  have HNO : Hid (∀ W, Calls Tryz.prog 39 #[.int .i64 n] W fun e w' => e = .returned (.bool (decide (fCode n = 0))) ∧ W = w') := fun W => Qm.l04Nodes_any n W
  have HZ : Hid (ns.length ≤ 1048576 ∧ ks.length ≤ 1048576 ∧ ∀ x ∈ ks, Tz maxLen x) := ⟨zn, zk, hm⟩
  obtain ⟨an, kn, rfl, _⟩ := hn
  obtain ⟨ak, kk, rfl⟩ := RowG.slice hk
  clear hk zg hm
  have HX : Hid (∀ W, Below (w.alloc (.cells #[.string g.nm, .int .i64 g.hd, .int .i64 g.tk, .int .i64 g.ex, .slice an ns.length kn, .slice ak ks.length kk] 31)).heap.size (w.alloc (.cells #[.string g.nm, .int .i64 g.hd, .int .i64 g.tk, .int .i64 g.ex, .slice an ns.length kn, .slice ak ks.length kk] 31)) W → (W.cell? ⟨w.heap.size, 0, none⟩ = some (.string g.nm) ∧ W.cell? ⟨w.heap.size, 1, none⟩ = some (.int .i64 g.hd) ∧ W.cell? ⟨w.heap.size, 2, none⟩ = some (.int .i64 g.tk) ∧ W.cell? ⟨w.heap.size, 3, none⟩ = some (.int .i64 g.ex) ∧ W.cell? ⟨w.heap.size, 4, none⟩ = some (.slice an ns.length kn) ∧ W.cell? ⟨w.heap.size, 5, none⟩ = some (.slice ak ks.length kk)) ∧ Below w.heap.size w W) := fun W hW => by
    have h1 := (hW.block w.heap.size (by simp)).trans (heap_alloc_new w _)
    exact ⟨⟨by simp [World.cell?, h1], by simp [World.cell?, h1], by simp [World.cell?, h1], by simp [World.cell?, h1], by simp [World.cell?, h1], by simp [World.cell?, h1]⟩, (Rg.bel_new w _).trans (hW.mono (by simp))⟩
  unfold crV
  cases hg : grB g with
  | false =>
    have HE : Hid (ckC n g ns ks = 1) := ck_bad hg
    rw [hg] at HO
    clear hg
    go_enter Tryz.func14, Tryz.ntmps14
    go_upto_region 1 with fail
    generalize w.alloc (.cells #[.string g.nm, .int .i64 g.hd, .int .i64 g.tk, .int .i64 g.ex, .slice an ns.length kn, .slice ak ks.length kk] 31) = wb at HX ⊢
    obtain ⟨⟨c0, c1, c2, c3, c4, c5⟩, g0⟩ := HX.out wb (Below.refl _ _)
    go_wp2_with fail
    refine (HO.out _).mono ?_
    rintro e w1 ⟨rfl, b1⟩
    have B1 : Hid (Below wb.heap.size wb w1) := b1
    have G1 : Hid (Below w.heap.size w w1) := (HX.out _ b1).2
    clear b1 c0 c1 c2 c3 c4 c5 g0
    clear HX
    go_wp2_with fail
    go_ret
    exact ⟨ret_in HE.out.symm, G1.out⟩
  | true =>
    rw [hg] at HO
    by_cases hf : fCode n = 0
    · have HFN : Hid (fCode n = 0) := hf
      rw [decide_eq_true hf] at HNO
      clear hf
      by_cases hc : cfC n ns = 0
      · by_cases hL : ks.length = ns.length
        · have HE : Hid (ckC n g ns ks = lpC (tx g) (ns.drop 0) (ks.drop 0)) := ck_go hg hc hL
          have HV : Hid (∀ x ∈ ns, inR x 0 6 = true) := fun x hx => cf_node hc hx
          have HLL : Hid (ks.length = ns.length) := hL
          have HGG : Hid (grB g = true) := hg
          clear hg hL
          go_enter Tryz.func14, Tryz.ntmps14
          go_upto_region 1 with fail
          generalize w.alloc (.cells #[.string g.nm, .int .i64 g.hd, .int .i64 g.tk, .int .i64 g.ex, .slice an ns.length kn, .slice ak ks.length kk] 31) = wb at HX ⊢
          obtain ⟨⟨c0, c1, c2, c3, c4, c5⟩, g0⟩ := HX.out wb (Below.refl _ _)
          go_wp2_with fail
          refine (HO.out _).mono ?_
          rintro e w1 ⟨rfl, b1⟩
          have B1 : Hid (Below wb.heap.size wb w1) := b1
          have G1 : Hid (Below w.heap.size w w1) := (HX.out _ b1).2
          clear b1 c0 c1 c2 c3 c4 c5 g0
          have hLi : (ks.length : Int) = (ns.length : Int) := by have := HLL.out; omega
          obtain ⟨⟨c0, c1, c2, c3, c4, c5⟩, g1⟩ := HX.out w1 B1.out
          have HLF := l12From_any n _ ns w1 (HRN.out _ g1) HZ.out.1 HFN.out
          rw [decide_eq_true hc] at HLF
          clear g1
          go_wp2_with (first | (go_at_call 39; refine (HNO.out _).mono ?_; rintro e w2 ⟨rfl, rfl⟩))
          refine HLF.mono ?_
          rintro e w2 ⟨rfl, b2⟩
          have B2 : Hid (Below wb.heap.size wb w2) := B1.out.trans (b2.mono B1.out.size)
          have G2 : Hid (Below w.heap.size w w2) := (HX.out _ B2.out).2
          clear b2 HLF c0 c1 c2 c3 c4 c5
          clear hc
          obtain ⟨⟨c0, c1, c2, c3, c4, c5⟩, _⟩ := HX.out w2 B2.out
          go_wp2_with fail
          clear c0 c1 c2 c3 c4 c5
          go_loopw [5] (fun i wr => ∃ k : Nat, k ≤ ns.length ∧ i = .int .i64 k ∧ Hid (lpC (tx g) (ns.drop 0) (ks.drop 0) = lpC (tx g) (ns.drop k) (ks.drop k) ∧ Below wb.heap.size wb wr)) (fun i _ => ns.length - (intOf i).toNat)
          case atStart => exact ⟨0, by omega, rfl, rfl, B2.out⟩
          case round =>
            obtain ⟨k, hk, rfl, HI⟩ := hrel
            obtain ⟨⟨c0, c1, c2, c3, c4, c5⟩, g1⟩ := HX.out wr HI.out.2
            have GR : Hid (Below w.heap.size w wr) := g1
            by_cases hlt : k < ns.length
            · obtain ⟨x, hx⟩ := Rg.get_at hlt
              obtain ⟨y, hy⟩ := Rg.get_at (xs := ks) (k := k) (by have := HLL.out; omega)
              obtain ⟨b, off, rfl, hbl, d0⟩ := (RowJ.of_row (HRN.out _ g1)).at hx
              obtain ⟨b2, off2, rfl, hbl2, va, vb, vc, e0, e1, e2, e3, r1, r2, r3⟩ := RowG.at (HRK.out _ g1) rfl hy
              have hxr := inR_nat (HV.out x (Rg.mem_at hx))
              obtain ⟨q, rfl⟩ : ∃ q : Nat, x = (q : Int) := ⟨x.toNat, by omega⟩
              have HST0 := lp_step (t := tx g) hx hy
              rw [Int.toNat_natCast] at HST0
              have HST : Hid _ := HST0
              clear HST0
              have hz := HZ.out.2.2 y (Rg.mem_at hy)
              have HCS0 : ∀ W, Below wr.heap.size wr W → Calls Tryz.prog 41 #[.string (rootS (nsd q)), .string (tx g), .agg #[.int .i64 y.i, va, vb, vc]] W fun e w' => e = .returned (.int .i64 (vC (rootS (nsd q)) (tx g) y.i y.a y.b y.c)) ∧ Below wr.heap.size wr w' := fun W hW => (specCheckSignature_any _ _ y.i va vb vc y.a y.b y.c W (r1.below hW) (r2.below hW) (r3.below hW) hz.1.1 hz.1.2.1 hz.1.2.2 hz.2.1 hz.2.2.1 hz.2.2.2).mono fun e w' ⟨h1, h2⟩ => ⟨h1, hW.trans (h2.mono hW.size)⟩
              have HKY : Hid (∀ W, Below wr.heap.size wr W → Calls Tryz.prog 36 #[.string (nsd q)] W fun e w' => ∃ v, e = .returned v ∧ RowT w' v (keysTo (nsd q) 8) ∧ Below wr.heap.size wr w') := fun W hW => (keys_row q W).mono fun e w' ⟨v, h1, h2, h3⟩ => ⟨v, h1, h2, hW.trans (h3.mono hW.size)⟩
              have HRT : Hid (∀ W v, RowT W v (keysTo (nsd q) 8) → Below wr.heap.size wr W → Calls Tryz.prog 35 #[v] W fun e w' => e = .returned (.string (rootS (nsd q))) ∧ Below wr.heap.size wr w') := fun W v hv hW => (l03Root_any _ v W (keys32 _ (by rw [nsd_size]; decide)) hv).mono fun e w' ⟨h1, h2⟩ => ⟨h1, hW.trans (h2.mono hW.size)⟩
              have HSD : Hid (∀ W, Below wr.heap.size wr W → Calls Tryz.prog 42 #[.int .i64 (q : Int)] W fun e w' => e = .returned (.string (nsd q)) ∧ Below wr.heap.size wr w' ∧ Below W.heap.size W w') := fun W hW => (l12Seed_any q W (by omega)).mono fun e w' ⟨h1, h2⟩ => ⟨h1, hW.trans (h2.mono hW.size), h2⟩
              have HTX : Hid (∀ W, Below wr.heap.size wr W → Calls Tryz.prog 43 #[.agg #[.string g.nm, .int .i64 g.hd, .int .i64 g.tk, .int .i64 g.ex]] W fun e w' => e = .returned (.string (tx g)) ∧ Below wr.heap.size wr w' ∧ Below W.heap.size W w') := fun W hW => (l12Text_any g W (nmd_of (grB_parts HGG.out).1).2 (grB_ok g HGG.out).2).mono fun e w' ⟨h1, h2⟩ => ⟨h1, hW.trans (h2.mono hW.size), h2⟩
              obtain ⟨a1, l1, rfl, _⟩ := r1
              obtain ⟨a2, l2, rfl, _⟩ := r2
              obtain ⟨a3, l3, rfl, _⟩ := r3
              have hkI : (k : Int) < (ns.length : Int) := by omega
              have hkK : (k : Int) < (ks.length : Int) := by omega
              clear hx hy g1 hz hxr
              obtain ⟨cc, HCC⟩ : ∃ cc, Hid (vC (rootS (nsd q)) (tx g) y.i y.a y.b y.c = cc) := ⟨_, rfl⟩
              rw [HCC.out] at HST HCS0
              have HCS : Hid _ := HCS0
              have HEI : Hid (ckC n g ns ks = lpC (tx g) (ns.drop k) (ks.drop k)) := HE.out.trans HI.out.1
              clear HCS0 HCC
              have HT2 : Hid (lpC (tx g) (ns.drop 0) (ks.drop 0) = if cc = 0 then lpC (tx g) (ns.drop (k + 1)) (ks.drop (k + 1)) else cc) := HI.out.1.trans HST.out
              have HE2 : Hid (ckC n g ns ks = if cc = 0 then lpC (tx g) (ns.drop (k + 1)) (ks.drop (k + 1)) else cc) := HEI.out.trans HST.out
              clear HST HEI
              have HTC : Hid (cc = 0 → lpC (tx g) (ns.drop 0) (ks.drop 0) = lpC (tx g) (ns.drop (k + 1)) (ks.drop (k + 1))) := fun h0 => by have := HT2.out; rwa [if_pos h0] at this
              have HEC : Hid (cc ≠ 0 → ckC n g ns ks = cc) := fun h0 => by have := HE2.out; rwa [if_neg h0] at this
              have HWB : Hid (Below wb.heap.size wb wr) := HI.out.2
              clear HT2 HE2
              generalize keysTo (nsd q) 8 = kt at HKY HRT
              generalize rootS (nsd q) = root at HRT HCS
              generalize nsd q = sd at HSD HKY
              obtain ⟨tt, HTT⟩ : ∃ tt, Hid (tx g = tt) := ⟨_, rfl⟩
              rw [HTT.out] at HTX HCS
              generalize y.i = yi at e0 HCS
              generalize y.a = la at e1 HCS
              generalize y.b = lb at e2 HCS
              generalize y.c = lc at e3 HCS
              have HL : Hid (∀ W, Below wr.heap.size wr W → (W.cell? ⟨w.heap.size, 0, none⟩ = some (.string g.nm) ∧ W.cell? ⟨w.heap.size, 1, none⟩ = some (.int .i64 g.hd) ∧ W.cell? ⟨w.heap.size, 2, none⟩ = some (.int .i64 g.tk) ∧ W.cell? ⟨w.heap.size, 3, none⟩ = some (.int .i64 g.ex) ∧ W.cell? ⟨w.heap.size, 4, none⟩ = some (.slice (some ⟨b, off, none⟩) ns.length kn) ∧ W.cell? ⟨w.heap.size, 5, none⟩ = some (.slice (some ⟨b2, off2, none⟩) ks.length kk)) ∧ W.cell? ⟨b, off + k, none⟩ = some (.int .i64 (q : Int)) ∧ W.cell? ⟨b2, off2 + k * 4, none⟩ = some (.int .i64 yi) ∧ W.cell? ⟨b2, off2 + k * 4 + 1, none⟩ = some (.slice a1 la.length l1) ∧ W.cell? ⟨b2, off2 + k * 4 + 2, none⟩ = some (.slice a2 lb.length l2) ∧ W.cell? ⟨b2, off2 + k * 4 + 3, none⟩ = some (.slice a3 lc.length l3)) := fun W hW => by
                have hs0 := (HX.out W (HWB.out.trans (hW.mono HWB.out.size))).1
                exact ⟨hs0, (hW.cell (p := ⟨b, off + k, none⟩) hbl).trans d0, (hW.cell (p := ⟨b2, off2 + k * 4, none⟩) hbl2).trans e0, (hW.cell (p := ⟨b2, off2 + k * 4 + 1, none⟩) hbl2).trans e1, (hW.cell (p := ⟨b2, off2 + k * 4 + 2, none⟩) hbl2).trans e2, (hW.cell (p := ⟨b2, off2 + k * 4 + 3, none⟩) hbl2).trans e3⟩
              clear hbl hbl2
              go_upto_region 10 with fail
              have G0 : Below wr.heap.size wr wr.drew := (Below.refl _ _).drew
              by_cases h0 : cc = 0
              · subst h0
                go_region_held_law (fun W => (W.cell? ⟨w.heap.size, 0, none⟩ = some (.string g.nm) ∧ W.cell? ⟨w.heap.size, 1, none⟩ = some (.int .i64 g.hd) ∧ W.cell? ⟨w.heap.size, 2, none⟩ = some (.int .i64 g.tk) ∧ W.cell? ⟨w.heap.size, 3, none⟩ = some (.int .i64 g.ex) ∧ W.cell? ⟨w.heap.size, 4, none⟩ = some (.slice (some ⟨b, off, none⟩) ns.length kn) ∧ W.cell? ⟨w.heap.size, 5, none⟩ = some (.slice (some ⟨b2, off2, none⟩) ks.length kk)) ∧ W.cell? ⟨b, off + k, none⟩ = some (.int .i64 (q : Int)) ∧ W.cell? ⟨b2, off2 + k * 4, none⟩ = some (.int .i64 yi) ∧ W.cell? ⟨b2, off2 + k * 4 + 1, none⟩ = some (.slice a1 la.length l1) ∧ W.cell? ⟨b2, off2 + k * 4 + 2, none⟩ = some (.slice a2 lb.length l2) ∧ W.cell? ⟨b2, off2 + k * 4 + 3, none⟩ = some (.slice a3 lc.length l3)) (exact HL.out _ (by assumption)) (first
                  | (go_simp; go_at_call 42; (with_reducible refine (HSD.out _ (by assumption)).mono ?_); rintro e wn ⟨rfl, gn, bn⟩; try go_simp)
                  | (go_simp; go_at_call 36; (with_reducible refine (HKY.out _ (by assumption)).mono ?_); rintro e wn ⟨vk, rfl, rk, gn⟩; try go_simp)
                  | (go_simp; go_at_call 43; (with_reducible refine (HTX.out _ (by assumption)).mono ?_); rintro e wn ⟨rfl, gn, bn⟩; (try (have rk := RowT.below rk bn)); try go_simp)
                  | (go_simp; go_at_call 35; (with_reducible refine (HRT.out _ _ (by assumption) (by assumption)).mono ?_); rintro e wn ⟨rfl, gn⟩; try go_simp)
                  | (go_simp; go_at_call 41; (with_reducible refine (HCS.out _ (by assumption)).mono ?_); rintro e w7 ⟨rfl, g7⟩; try go_simp))
                all_goals
                  have B3 : Hid (lpC (tx g) (ns.drop 0) (ks.drop 0) = lpC (tx g) (ns.drop (k + 1)) (ks.drop (k + 1)) ∧ Below wb.heap.size wb w7) := ⟨HTC.out rfl, HWB.out.trans (g7.mono HWB.out.size)⟩
                  go_wp2_with fail
                  exact ⟨⟨k + 1, by omega, by go_num, B3⟩, by simp [intOf]; omega⟩
              · have HF : Hid (ckC n g ns ks = cc) := HEC.out h0
                go_region_held_law (fun W => (W.cell? ⟨w.heap.size, 0, none⟩ = some (.string g.nm) ∧ W.cell? ⟨w.heap.size, 1, none⟩ = some (.int .i64 g.hd) ∧ W.cell? ⟨w.heap.size, 2, none⟩ = some (.int .i64 g.tk) ∧ W.cell? ⟨w.heap.size, 3, none⟩ = some (.int .i64 g.ex) ∧ W.cell? ⟨w.heap.size, 4, none⟩ = some (.slice (some ⟨b, off, none⟩) ns.length kn) ∧ W.cell? ⟨w.heap.size, 5, none⟩ = some (.slice (some ⟨b2, off2, none⟩) ks.length kk)) ∧ W.cell? ⟨b, off + k, none⟩ = some (.int .i64 (q : Int)) ∧ W.cell? ⟨b2, off2 + k * 4, none⟩ = some (.int .i64 yi) ∧ W.cell? ⟨b2, off2 + k * 4 + 1, none⟩ = some (.slice a1 la.length l1) ∧ W.cell? ⟨b2, off2 + k * 4 + 2, none⟩ = some (.slice a2 lb.length l2) ∧ W.cell? ⟨b2, off2 + k * 4 + 3, none⟩ = some (.slice a3 lc.length l3)) (exact HL.out _ (by assumption)) (first
                  | (go_simp; go_at_call 42; (with_reducible refine (HSD.out _ (by assumption)).mono ?_); rintro e wn ⟨rfl, gn, bn⟩; try go_simp)
                  | (go_simp; go_at_call 36; (with_reducible refine (HKY.out _ (by assumption)).mono ?_); rintro e wn ⟨vk, rfl, rk, gn⟩; try go_simp)
                  | (go_simp; go_at_call 43; (with_reducible refine (HTX.out _ (by assumption)).mono ?_); rintro e wn ⟨rfl, gn, bn⟩; (try (have rk := RowT.below rk bn)); try go_simp)
                  | (go_simp; go_at_call 35; (with_reducible refine (HRT.out _ _ (by assumption) (by assumption)).mono ?_); rintro e wn ⟨rfl, gn⟩; try go_simp)
                  | (go_simp; go_at_call 41; (with_reducible refine (HCS.out _ (by assumption)).mono ?_); rintro e w7 ⟨rfl, g7⟩; try go_simp))
                all_goals
                  have G3 : Hid (Below w.heap.size w w7) := GR.out.trans (g7.mono GR.out.size)
                  go_wp2_with fail
                  go_ret
                  exact ⟨ret_in HF.out.symm, G3.out⟩
            · obtain rfl : k = ns.length := by omega
              have HF : Hid (ckC n g ns ks = 0) := by show _ = _; rw [HE.out, HI.out.1, lp_end]
              go_wp2_with fail
              go_ret
              exact ⟨ret_in HF.out.symm, GR.out⟩
        · have HE : Hid (ckC n g ns ks = 19) := ck_len hg hc hL
          have hLi : ¬ (ks.length : Int) = (ns.length : Int) := by omega
          clear hg hL
          go_enter Tryz.func14, Tryz.ntmps14
          go_upto_region 1 with fail
          generalize w.alloc (.cells #[.string g.nm, .int .i64 g.hd, .int .i64 g.tk, .int .i64 g.ex, .slice an ns.length kn, .slice ak ks.length kk] 31) = wb at HX ⊢
          obtain ⟨⟨c0, c1, c2, c3, c4, c5⟩, g0⟩ := HX.out wb (Below.refl _ _)
          go_wp2_with fail
          refine (HO.out _).mono ?_
          rintro e w1 ⟨rfl, b1⟩
          have B1 : Hid (Below wb.heap.size wb w1) := b1
          have G1 : Hid (Below w.heap.size w w1) := (HX.out _ b1).2
          clear b1 c0 c1 c2 c3 c4 c5 g0
          obtain ⟨⟨c0, c1, c2, c3, c4, c5⟩, g1⟩ := HX.out w1 B1.out
          have HLF := l12From_any n _ ns w1 (HRN.out _ g1) HZ.out.1 HFN.out
          rw [decide_eq_true hc] at HLF
          clear g1
          go_wp2_with (first | (go_at_call 39; refine (HNO.out _).mono ?_; rintro e w2 ⟨rfl, rfl⟩))
          refine HLF.mono ?_
          rintro e w2 ⟨rfl, b2⟩
          have B2 : Hid (Below wb.heap.size wb w2) := B1.out.trans (b2.mono B1.out.size)
          have G2 : Hid (Below w.heap.size w w2) := (HX.out _ B2.out).2
          clear b2 HLF c0 c1 c2 c3 c4 c5
          obtain ⟨⟨c0, c1, c2, c3, c4, c5⟩, _⟩ := HX.out w2 B2.out
          go_wp2_with fail
          go_ret
          exact ⟨ret_in HE.out.symm, G2.out⟩
      · have HE : Hid (ckC n g ns ks = 19) := by
          show _ = _
          rw [ck_cf hg hc]
          have h1 := HFN.out
          revert hc
          unfold cfC
          rw [if_pos h1]
          intro hc
          split at hc
          · exact absurd rfl hc
          · rename_i hh; rw [if_neg hh]
        clear hg
        go_enter Tryz.func14, Tryz.ntmps14
        go_upto_region 1 with fail
        generalize w.alloc (.cells #[.string g.nm, .int .i64 g.hd, .int .i64 g.tk, .int .i64 g.ex, .slice an ns.length kn, .slice ak ks.length kk] 31) = wb at HX ⊢
        obtain ⟨⟨c0, c1, c2, c3, c4, c5⟩, g0⟩ := HX.out wb (Below.refl _ _)
        go_wp2_with fail
        refine (HO.out _).mono ?_
        rintro e w1 ⟨rfl, b1⟩
        have B1 : Hid (Below wb.heap.size wb w1) := b1
        have G1 : Hid (Below w.heap.size w w1) := (HX.out _ b1).2
        clear b1 c0 c1 c2 c3 c4 c5 g0
        obtain ⟨⟨c0, c1, c2, c3, c4, c5⟩, g1⟩ := HX.out w1 B1.out
        have HLF := l12From_any n _ ns w1 (HRN.out _ g1) HZ.out.1 HFN.out
        rw [decide_eq_false hc] at HLF
        clear g1
        go_wp2_with (first | (go_at_call 39; refine (HNO.out _).mono ?_; rintro e w2 ⟨rfl, rfl⟩))
        refine HLF.mono ?_
        rintro e w2 ⟨rfl, b2⟩
        have B2 : Hid (Below wb.heap.size wb w2) := B1.out.trans (b2.mono B1.out.size)
        have G2 : Hid (Below w.heap.size w w2) := (HX.out _ B2.out).2
        clear b2 HLF c0 c1 c2 c3 c4 c5
        go_wp2_with fail
        go_ret
        exact ⟨ret_in HE.out.symm, G2.out⟩
    · have h4 : cfC n ns = 4 := by unfold cfC; rw [if_neg hf]
      have HE : Hid (ckC n g ns ks = 4) := by show _ = _; rw [ck_cf hg (by rw [h4]; decide), h4]
      rw [decide_eq_false hf] at HNO
      clear hg hf h4
      go_enter Tryz.func14, Tryz.ntmps14
      go_upto_region 1 with fail
      generalize w.alloc (.cells #[.string g.nm, .int .i64 g.hd, .int .i64 g.tk, .int .i64 g.ex, .slice an ns.length kn, .slice ak ks.length kk] 31) = wb at HX ⊢
      obtain ⟨⟨c0, c1, c2, c3, c4, c5⟩, g0⟩ := HX.out wb (Below.refl _ _)
      go_wp2_with fail
      refine (HO.out _).mono ?_
      rintro e w1 ⟨rfl, b1⟩
      have B1 : Hid (Below wb.heap.size wb w1) := b1
      have G1 : Hid (Below w.heap.size w w1) := (HX.out _ b1).2
      clear b1 c0 c1 c2 c3 c4 c5 g0
      clear HX
      go_wp2_with (first | (go_at_call 39; refine (HNO.out _).mono ?_; rintro e w2 ⟨rfl, rfl⟩))
      go_ret
      exact ⟨ret_in HE.out.symm, G1.out⟩
end Go.Proofs.YtiflfcpoajijaaaGreatDoor.Kc
