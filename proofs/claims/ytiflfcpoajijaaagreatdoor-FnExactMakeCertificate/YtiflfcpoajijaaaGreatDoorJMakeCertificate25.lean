/- SignGrant, of the program and of the specification. -/
import Derived.Test.YtiflfcpoajijaaaGreatDoorJMakeCertificate0
import Derived.Test.YtiflfcpoajijaaaGreatDoorJMakeCertificate16
import Derived.Test.YtiflfcpoajijaaaGreatDoorJMakeCertificate24
import Derived.Deep.RegionLaw
namespace Go.Proofs.YtiflfcpoajijaaaGreatDoor.Gh
open Go.RowKit Go.Proofs.YtiflfcpoajijaaaGreatDoor.Sl Go.Proofs.YtiflfcpoajijaaaGreatDoor.By Go.Proofs.YtiflfcpoajijaaaGreatDoor.Ap Go.Proofs.YtiflfcpoajijaaaGreatDoor.Tx Go.Proofs.YtiflfcpoajijaaaGreatDoor.Sh Go.Proofs.YtiflfcpoajijaaaGreatDoor.Ho Go.Proofs.YtiflfcpoajijaaaGreatDoor.Se Go.Proofs.YtiflfcpoajijaaaGreatDoor.Ka Go.Proofs.YtiflfcpoajijaaaGreatDoor.Sx Go.Proofs.YtiflfcpoajijaaaGreatDoor.Hf Go.Proofs.YtiflfcpoajijaaaGreatDoor.Sa Go.Proofs.YtiflfcpoajijaaaGreatDoor.Kx Go.Proofs.YtiflfcpoajijaaaGreatDoor.Lv Go.Proofs.YtiflfcpoajijaaaGreatDoor.Cr Go.Proofs.YtiflfcpoajijaaaGreatDoor.Pa Go.Proofs.YtiflfcpoajijaaaGreatDoor.Mb Go.Proofs.YtiflfcpoajijaaaGreatDoor.Sg Go.Proofs.YtiflfcpoajijaaaGreatDoor.Ns
open Go.Proofs.YtiflfcpoajijaaaGreatDoor.Gr12 (Gg gV grB gtS gtC tx tx_small PTab PTab.below implGrantText_any specGrantOK_any l12Text_any nmd_of grB_parts grB_ok bel1)

/-- What SignGrant answers. -/
def okS (id : Int) (g : Gg) : Bool := grB g && inR id 0 6
def sgC (id ix : Int) (g : Gg) : Int := if grB g then (if inR id 0 6 then gC (nsd id.toNat) ix (tx g) else 4) else 1
def sgI (id ix : Int) (g : Gg) : Int := if okS id g then gI (nsd id.toNat) ix (tx g) else 0
def sgA (id ix : Int) (g : Gg) : List ByteArray := if okS id g then gA (nsd id.toNat) ix (tx g) else []
def sgB (id ix : Int) (g : Gg) : List ByteArray := if okS id g then gB (nsd id.toNat) ix (tx g) else []
def sgP (id ix : Int) (g : Gg) : List ByteArray := if okS id g then gP (nsd id.toNat) ix (tx g) else []
theorem sg_bad {id ix : Int} {g : Gg} (h : grB g = false) : sgC id ix g = 1 ∧ sgI id ix g = 0 ∧ sgA id ix g = [] ∧ sgB id ix g = [] ∧ sgP id ix g = [] := by
  unfold sgC sgI sgA sgB sgP okS; rw [h]; exact ⟨rfl, rfl, rfl, rfl, rfl⟩
theorem sg_out {id ix : Int} {g : Gg} (h : grB g = true) (h2 : inR id 0 6 = false) : sgC id ix g = 4 ∧ sgI id ix g = 0 ∧ sgA id ix g = [] ∧ sgB id ix g = [] ∧ sgP id ix g = [] := by
  unfold sgC sgI sgA sgB sgP okS; rw [h, h2]; exact ⟨rfl, rfl, rfl, rfl, rfl⟩
theorem sg_go {id ix : Int} {g : Gg} (h : grB g = true) (h2 : inR id 0 6 = true) : sgC id ix g = gC (nsd id.toNat) ix (tx g) ∧ sgI id ix g = gI (nsd id.toNat) ix (tx g) ∧ sgA id ix g = gA (nsd id.toNat) ix (tx g) ∧ sgB id ix g = gB (nsd id.toNat) ix (tx g) ∧ sgP id ix g = gP (nsd id.toNat) ix (tx g) := by
  unfold sgC sgI sgA sgB sgP okS; rw [h, h2]; exact ⟨rfl, rfl, rfl, rfl, rfl⟩
theorem gC_tx {i : Nat} {ix : Int} {g : Gg} (h : grB g = true) : gC (nsd i) ix (tx g) = if inR ix 0 7 then 0 else 4 := by
  have hm : mbCode (tx g) = 0 := if_neg (by have := tx_small h; omega)
  unfold gC kf
  rw [hm, if_pos rfl, hf_ok (nsd_size i), if_pos rfl]
theorem len32 (id ix : Int) (g : Gg) : (sgA id ix g).length ≤ 32 ∧ (sgB id ix g).length ≤ 32 ∧ (sgP id ix g).length ≤ 32 := by
  unfold sgA sgB sgP
  split
  · exact ⟨gA_len _ _ _, gB_len _ _ _, gP_len _ _ _⟩
  · decide
set_option maxRecDepth 100000 in
set_option maxHeartbeats 1600000 in
theorem implSignGrant_any (id ix : Int) (g : Gg) (w : World) (hs : g.nm.size ≤ maxLen) (hP : PTab w) (hK : KTab w) (hp : 0 < w.heap.size) :
    Calls Tryz.prog 9 #[.int .i64 id, .int .i64 ix, gV g] w fun e w' => ∃ va vb vc, e = .returned (.tuple #[.agg #[.int .i64 (sgI id ix g), va, vb, vc], .int .i64 (sgC id ix g)]) ∧ SigV w' w.heap.size va vb vc (sgA id ix g) (sgB id ix g) (sgP id ix g) ∧ Below w.heap.size w w' := by
  have HKT : Hid (∀ W, Below w.heap.size w W → PTab W ∧ KTab W ∧ 0 < W.heap.size) := fun W hW => ⟨hP.below hW, hK.below hW hp, Nat.lt_of_lt_of_le hp hW.size⟩
  have HX : Hid (∀ W, Below ((w.alloc (.cells #[.string g.nm, .int .i64 g.hd, .int .i64 g.tk, .int .i64 g.ex] 24)).alloc (.cells #[.int .i64 0, .slice none 0 0, .slice none 0 0, .slice none 0 0] 37)).heap.size ((w.alloc (.cells #[.string g.nm, .int .i64 g.hd, .int .i64 g.tk, .int .i64 g.ex] 24)).alloc (.cells #[.int .i64 0, .slice none 0 0, .slice none 0 0, .slice none 0 0] 37)) W → (W.cell? ⟨w.heap.size, 0, none⟩ = some (.string g.nm) ∧ W.cell? ⟨w.heap.size, 1, none⟩ = some (.int .i64 g.hd) ∧ W.cell? ⟨w.heap.size, 2, none⟩ = some (.int .i64 g.tk) ∧ W.cell? ⟨w.heap.size, 3, none⟩ = some (.int .i64 g.ex)) ∧ W.heap[w.heap.size + 1]? = some (.cells #[.int .i64 0, .slice none 0 0, .slice none 0 0, .slice none 0 0] 37 (0, 0)) ∧ Below w.heap.size w W ∧ w.heap.size + 1 + 1 ≤ W.heap.size) := fun W hW => by
    have e1 : (w.alloc (.cells #[.string g.nm, .int .i64 g.hd, .int .i64 g.tk, .int .i64 g.ex] 24)).heap.size = w.heap.size + 1 := by simp
    have h1 := ((hW.block w.heap.size (by simp; omega)).trans ((bel1 (w.alloc (.cells #[.string g.nm, .int .i64 g.hd, .int .i64 g.tk, .int .i64 g.ex] 24)) (.cells #[.int .i64 0, .slice none 0 0, .slice none 0 0, .slice none 0 0] 37)).block _ (by simp))).trans (heap_alloc_new w _)
    have h2 := (hW.block (w.heap.size + 1) (by simp)).trans (e1 ▸ heap_alloc_new (w.alloc (.cells #[.string g.nm, .int .i64 g.hd, .int .i64 g.tk, .int .i64 g.ex] 24)) (.cells #[.int .i64 0, .slice none 0 0, .slice none 0 0, .slice none 0 0] 37))
    have hs := hW.size
    refine ⟨⟨by simp [World.cell?, h1], by simp [World.cell?, h1], by simp [World.cell?, h1], by simp [World.cell?, h1]⟩, h2, ((bel1 w _).trans ((bel1 _ _).mono (bel1 w _).size)).trans (hW.mono (by simp; omega)), ?_⟩
    simp at hs
    omega
  have HT : Hid (∀ W, Below w.heap.size w W → Calls Tryz.prog 28 #[.agg #[.string g.nm, .int .i64 g.hd, .int .i64 g.tk, .int .i64 g.ex]] W fun e w' => e = .returned (.tuple #[.string (gtS g), .int .i64 (gtC g)]) ∧ Below W.heap.size W w') := fun W hW => implGrantText_any g W hs (HKT.out W hW).1
  have HN : Hid (∀ W, Below w.heap.size w W → Calls Tryz.prog 10 #[.int .i64 id] W fun e w' => e = .returned (.tuple #[.string (nsO id), .int .i64 (nsC id)]) ∧ Below W.heap.size W w') := fun W hW => implNodeSeed_any id W (HKT.out W hW).2.1 (HKT.out W hW).2.2
  clear hs hP hK hp
  unfold gV
  cases h : grB g with
  | false =>
    have HE : Hid (sgC id ix g = 1 ∧ sgI id ix g = 0 ∧ sgA id ix g = [] ∧ sgB id ix g = [] ∧ sgP id ix g = []) := sg_bad h
    have HG : Hid (gtS g = ⟨#[]⟩ ∧ gtC g = 1) := by show _ ∧ _; unfold gtS gtC; rw [h]; exact ⟨rfl, rfl⟩
    rw [HG.out.1, HG.out.2] at HT
    clear h HG
    go_enter Tryz.func9, Tryz.ntmps9
    go_upto_region 1 with fail
    generalize ((w.alloc (.cells #[.string g.nm, .int .i64 g.hd, .int .i64 g.tk, .int .i64 g.ex] 24)).alloc (.cells #[.int .i64 0, .slice none 0 0, .slice none 0 0, .slice none 0 0] 37)) = wb at HX ⊢
    obtain ⟨⟨c0, c1, c2, c3⟩, _, g0, _⟩ := HX.out wb (Below.refl _ _)
    go_wp2_with fail
    refine (HT.out _ g0).mono ?_
    rintro e w1 ⟨rfl, b1⟩
    have AX : Hid (w1.heap[w.heap.size + 1]? = some (.cells #[.int .i64 0, .slice none 0 0, .slice none 0 0, .slice none 0 0] 37 (0, 0))) := (HX.out _ b1).2.1
    have GX : Hid (Below w.heap.size w w1) := (HX.out _ b1).2.2.1
    clear b1 c0 c1 c2 c3 g0 HX
    obtain ⟨zc0, zf0⟩ := blk_cell AX.out 0 (x := .int .i64 0) rfl
    obtain ⟨zc1, zf1⟩ := blk_cell AX.out 1 (x := .slice none 0 0) rfl
    obtain ⟨zc2, zf2⟩ := blk_cell AX.out 2 (x := .slice none 0 0) rfl
    obtain ⟨zc3, zf3⟩ := blk_cell AX.out 3 (x := .slice none 0 0) rfl
    have AF : ((((w1.setCell ⟨w.heap.size + 1, 0, none⟩ (.int .i64 0)).setCell ⟨w.heap.size + 1, 1, none⟩ (.slice none 0 0)).setCell ⟨w.heap.size + 1, 2, none⟩ (.slice none 0 0)).setCell ⟨w.heap.size + 1, 3, none⟩ (.slice none 0 0)).heap[w.heap.size + 1]? = some (.cells #[.int .i64 0, .slice none 0 0, .slice none 0 0, .slice none 0 0] 37 (0, 0)) := (blk_set (blk_set (blk_set (blk_set AX.out 0 (.int .i64 0)) 1 (.slice none 0 0)) 2 (.slice none 0 0)) 3 (.slice none 0 0))
    have GF : Below w.heap.size w ((((w1.setCell ⟨w.heap.size + 1, 0, none⟩ (.int .i64 0)).setCell ⟨w.heap.size + 1, 1, none⟩ (.slice none 0 0)).setCell ⟨w.heap.size + 1, 2, none⟩ (.slice none 0 0)).setCell ⟨w.heap.size + 1, 3, none⟩ (.slice none 0 0)) := (Below.setCell (Below.setCell (Below.setCell (Below.setCell GX.out (p := ⟨w.heap.size + 1, 0, none⟩) (Nat.le_succ _) (.int .i64 0)) (p := ⟨w.heap.size + 1, 1, none⟩) (Nat.le_succ _) (.slice none 0 0)) (p := ⟨w.heap.size + 1, 2, none⟩) (Nat.le_succ _) (.slice none 0 0)) (p := ⟨w.heap.size + 1, 3, none⟩) (Nat.le_succ _) (.slice none 0 0))
    go_wp2_with fail
    generalize ((((w1.setCell ⟨w.heap.size + 1, 0, none⟩ (.int .i64 0)).setCell ⟨w.heap.size + 1, 1, none⟩ (.slice none 0 0)).setCell ⟨w.heap.size + 1, 2, none⟩ (.slice none 0 0)).setCell ⟨w.heap.size + 1, 3, none⟩ (.slice none 0 0)) = wf at AF GF ⊢
    have d0 := (blk_cell AF 0 (x := .int .i64 0) rfl).1
    have d1 := (blk_cell AF 1 (x := .slice none 0 0) rfl).1
    have d2 := (blk_cell AF 2 (x := .slice none 0 0) rfl).1
    have d3 := (blk_cell AF 3 (x := .slice none 0 0) rfl).1
    refine bodyPost_ret (v := .tuple #[.agg #[.int .i64 0, .slice none 0 0, .slice none 0 0, .slice none 0 0], .int .i64 1]) (by simp [results, Tryz.results9, go_sem, d0, d1, d2, d3]) rfl ⟨_, _, _, by rw [HE.out.1, HE.out.2.1], by rw [HE.out.2.2.1, HE.out.2.2.2.1, HE.out.2.2.2.2]; exact SigV.nil _ _, GF⟩
  | true =>
    have HG : Hid (gtS g = tx g ∧ gtC g = 0) := by show _ ∧ _; unfold gtS gtC; rw [h]; exact ⟨rfl, rfl⟩
    rw [HG.out.1, HG.out.2] at HT
    clear HG
    cases h2 : inR id 0 6 with
    | false =>
      have HE : Hid (sgC id ix g = 4 ∧ sgI id ix g = 0 ∧ sgA id ix g = [] ∧ sgB id ix g = [] ∧ sgP id ix g = []) := sg_out h h2
      rw [(ns_bad h2).1, (ns_bad h2).2.1] at HN
      clear h h2
      go_enter Tryz.func9, Tryz.ntmps9
      go_upto_region 1 with fail
      generalize ((w.alloc (.cells #[.string g.nm, .int .i64 g.hd, .int .i64 g.tk, .int .i64 g.ex] 24)).alloc (.cells #[.int .i64 0, .slice none 0 0, .slice none 0 0, .slice none 0 0] 37)) = wb at HX ⊢
      obtain ⟨⟨c0, c1, c2, c3⟩, _, g0, _⟩ := HX.out wb (Below.refl _ _)
      go_wp2_with fail
      refine (HT.out _ g0).mono ?_
      rintro e w1 ⟨rfl, b1⟩
      have B1 : Hid (Below wb.heap.size wb w1) := b1
      clear b1 c0 c1 c2 c3 g0
      go_wp2_with fail
      refine (HN.out _ (HX.out _ B1.out).2.2.1).mono ?_
      rintro e w2 ⟨rfl, b2⟩
      have B2 : Hid (Below wb.heap.size wb w2) := B1.out.trans (b2.mono B1.out.size)
      have AX : Hid (w2.heap[w.heap.size + 1]? = some (.cells #[.int .i64 0, .slice none 0 0, .slice none 0 0, .slice none 0 0] 37 (0, 0))) := (HX.out _ B2.out).2.1
      have GX : Hid (Below w.heap.size w w2) := (HX.out _ B2.out).2.2.1
      clear b2 HX B1 B2
      obtain ⟨zc0, zf0⟩ := blk_cell AX.out 0 (x := .int .i64 0) rfl
      obtain ⟨zc1, zf1⟩ := blk_cell AX.out 1 (x := .slice none 0 0) rfl
      obtain ⟨zc2, zf2⟩ := blk_cell AX.out 2 (x := .slice none 0 0) rfl
      obtain ⟨zc3, zf3⟩ := blk_cell AX.out 3 (x := .slice none 0 0) rfl
      have AF : ((((w2.setCell ⟨w.heap.size + 1, 0, none⟩ (.int .i64 0)).setCell ⟨w.heap.size + 1, 1, none⟩ (.slice none 0 0)).setCell ⟨w.heap.size + 1, 2, none⟩ (.slice none 0 0)).setCell ⟨w.heap.size + 1, 3, none⟩ (.slice none 0 0)).heap[w.heap.size + 1]? = some (.cells #[.int .i64 0, .slice none 0 0, .slice none 0 0, .slice none 0 0] 37 (0, 0)) := (blk_set (blk_set (blk_set (blk_set AX.out 0 (.int .i64 0)) 1 (.slice none 0 0)) 2 (.slice none 0 0)) 3 (.slice none 0 0))
      have GF : Below w.heap.size w ((((w2.setCell ⟨w.heap.size + 1, 0, none⟩ (.int .i64 0)).setCell ⟨w.heap.size + 1, 1, none⟩ (.slice none 0 0)).setCell ⟨w.heap.size + 1, 2, none⟩ (.slice none 0 0)).setCell ⟨w.heap.size + 1, 3, none⟩ (.slice none 0 0)) := (Below.setCell (Below.setCell (Below.setCell (Below.setCell GX.out (p := ⟨w.heap.size + 1, 0, none⟩) (Nat.le_succ _) (.int .i64 0)) (p := ⟨w.heap.size + 1, 1, none⟩) (Nat.le_succ _) (.slice none 0 0)) (p := ⟨w.heap.size + 1, 2, none⟩) (Nat.le_succ _) (.slice none 0 0)) (p := ⟨w.heap.size + 1, 3, none⟩) (Nat.le_succ _) (.slice none 0 0))
      go_wp2_with fail
      generalize ((((w2.setCell ⟨w.heap.size + 1, 0, none⟩ (.int .i64 0)).setCell ⟨w.heap.size + 1, 1, none⟩ (.slice none 0 0)).setCell ⟨w.heap.size + 1, 2, none⟩ (.slice none 0 0)).setCell ⟨w.heap.size + 1, 3, none⟩ (.slice none 0 0)) = wf at AF GF ⊢
      have d0 := (blk_cell AF 0 (x := .int .i64 0) rfl).1
      have d1 := (blk_cell AF 1 (x := .slice none 0 0) rfl).1
      have d2 := (blk_cell AF 2 (x := .slice none 0 0) rfl).1
      have d3 := (blk_cell AF 3 (x := .slice none 0 0) rfl).1
      refine bodyPost_ret (v := .tuple #[.agg #[.int .i64 0, .slice none 0 0, .slice none 0 0, .slice none 0 0], .int .i64 4]) (by simp [results, Tryz.results9, go_sem, d0, d1, d2, d3]) rfl ⟨_, _, _, by rw [HE.out.1, HE.out.2.1], by rw [HE.out.2.2.1, HE.out.2.2.2.1, HE.out.2.2.2.2]; exact SigV.nil _ _, GF⟩
    | true =>
      have HE : Hid (sgC id ix g = gC (nsd id.toNat) ix (tx g) ∧ sgI id ix g = gI (nsd id.toNat) ix (tx g) ∧ sgA id ix g = gA (nsd id.toNat) ix (tx g) ∧ sgB id ix g = gB (nsd id.toNat) ix (tx g) ∧ sgP id ix g = gP (nsd id.toNat) ix (tx g)) := sg_go h h2
      rw [(ns_good h2).1, (ns_good h2).2.1] at HN
      have HS : Hid (∀ W, Below w.heap.size w W → Calls Tryz.prog 31 #[.string (nsd id.toNat), .int .i64 ix, .string (tx g)] W fun e w' => ∃ va vb vc, e = .returned (.tuple #[.agg #[.int .i64 (gI (nsd id.toNat) ix (tx g)), va, vb, vc], .int .i64 (gC (nsd id.toNat) ix (tx g))]) ∧ SigV w' W.heap.size va vb vc (gA (nsd id.toNat) ix (tx g)) (gB (nsd id.toNat) ix (tx g)) (gP (nsd id.toNat) ix (tx g)) ∧ Below W.heap.size W w') := fun W hW => implSignAt_any _ _ _ W (HKT.out W hW).2.1 (HKT.out W hW).2.2
      clear h h2 HKT
      generalize gC (nsd id.toNat) ix (tx g) = cc at HE HS
      generalize gI (nsd id.toNat) ix (tx g) = ci at HE HS
      generalize gA (nsd id.toNat) ix (tx g) = la at HE HS
      generalize gB (nsd id.toNat) ix (tx g) = lb at HE HS
      generalize gP (nsd id.toNat) ix (tx g) = lc at HE HS
      generalize nsd id.toNat = sd at HN HS
      generalize tx g = tt at HT HS
      go_enter Tryz.func9, Tryz.ntmps9
      go_upto_region 1 with fail
      generalize ((w.alloc (.cells #[.string g.nm, .int .i64 g.hd, .int .i64 g.tk, .int .i64 g.ex] 24)).alloc (.cells #[.int .i64 0, .slice none 0 0, .slice none 0 0, .slice none 0 0] 37)) = wb at HX ⊢
      obtain ⟨⟨c0, c1, c2, c3⟩, _, g0, _⟩ := HX.out wb (Below.refl _ _)
      go_wp2_with fail
      refine (HT.out _ g0).mono ?_
      rintro e w1 ⟨rfl, b1⟩
      have B1 : Hid (Below wb.heap.size wb w1) := b1
      clear b1 c0 c1 c2 c3 g0
      go_wp2_with fail
      refine (HN.out _ (HX.out _ B1.out).2.2.1).mono ?_
      rintro e w2 ⟨rfl, b2⟩
      have B2 : Hid (Below wb.heap.size wb w2) := B1.out.trans (b2.mono B1.out.size)
      clear b2
      go_wp2_with fail
      refine (HS.out _ (HX.out _ B2.out).2.2.1).mono ?_
      rintro e w3 ⟨va, vb, vc, rfl, s3, b3⟩
      have B3 : Hid (Below wb.heap.size wb w3) := B2.out.trans (b3.mono B2.out.size)
      have SX : Hid (SigV w3 (w.heap.size + 1 + 1) va vb vc la lb lc) := s3.mono (HX.out _ B2.out).2.2.2
      have AX : Hid (w3.heap[w.heap.size + 1]? = some (.cells #[.int .i64 0, .slice none 0 0, .slice none 0 0, .slice none 0 0] 37 (0, 0))) := (HX.out _ B3.out).2.1
      have GX : Hid (Below w.heap.size w w3) := (HX.out _ B3.out).2.2.1
      obtain ⟨a1, k1, e1, _⟩ := s3.oa.row
      obtain ⟨a2, k2, e2, _⟩ := s3.ob.row
      obtain ⟨a3, k3, e3, _⟩ := s3.oc.row
      subst e1 e2 e3
      clear b3 s3 HX B1 B2 B3
      obtain ⟨zc0, zf0⟩ := blk_cell AX.out 0 (x := .int .i64 0) rfl
      obtain ⟨zc1, zf1⟩ := blk_cell AX.out 1 (x := .slice none 0 0) rfl
      obtain ⟨zc2, zf2⟩ := blk_cell AX.out 2 (x := .slice none 0 0) rfl
      obtain ⟨zc3, zf3⟩ := blk_cell AX.out 3 (x := .slice none 0 0) rfl
      have AF : ((((w3.setCell ⟨w.heap.size + 1, 0, none⟩ (.int .i64 ci)).setCell ⟨w.heap.size + 1, 1, none⟩ (.slice a1 la.length k1)).setCell ⟨w.heap.size + 1, 2, none⟩ (.slice a2 lb.length k2)).setCell ⟨w.heap.size + 1, 3, none⟩ (.slice a3 lc.length k3)).heap[w.heap.size + 1]? = some (.cells #[.int .i64 ci, .slice a1 la.length k1, .slice a2 lb.length k2, .slice a3 lc.length k3] 37 (0, 0)) := (blk_set (blk_set (blk_set (blk_set AX.out 0 (.int .i64 ci)) 1 (.slice a1 la.length k1)) 2 (.slice a2 lb.length k2)) 3 (.slice a3 lc.length k3))
      have GF : Below w.heap.size w ((((w3.setCell ⟨w.heap.size + 1, 0, none⟩ (.int .i64 ci)).setCell ⟨w.heap.size + 1, 1, none⟩ (.slice a1 la.length k1)).setCell ⟨w.heap.size + 1, 2, none⟩ (.slice a2 lb.length k2)).setCell ⟨w.heap.size + 1, 3, none⟩ (.slice a3 lc.length k3)) := (Below.setCell (Below.setCell (Below.setCell (Below.setCell GX.out (p := ⟨w.heap.size + 1, 0, none⟩) (Nat.le_succ _) (.int .i64 ci)) (p := ⟨w.heap.size + 1, 1, none⟩) (Nat.le_succ _) (.slice a1 la.length k1)) (p := ⟨w.heap.size + 1, 2, none⟩) (Nat.le_succ _) (.slice a2 lb.length k2)) (p := ⟨w.heap.size + 1, 3, none⟩) (Nat.le_succ _) (.slice a3 lc.length k3))
      have SF := (SigV.set (j := 3) (x := .slice a3 lc.length k3) (SigV.set (j := 2) (x := .slice a2 lb.length k2) (SigV.set (j := 1) (x := .slice a1 la.length k1) (SigV.set (j := 0) (x := .int .i64 ci) SX.out (Nat.lt_succ_self _)) (Nat.lt_succ_self _)) (Nat.lt_succ_self _)) (Nat.lt_succ_self _))
      go_wp2_with fail
      generalize ((((w3.setCell ⟨w.heap.size + 1, 0, none⟩ (.int .i64 ci)).setCell ⟨w.heap.size + 1, 1, none⟩ (.slice a1 la.length k1)).setCell ⟨w.heap.size + 1, 2, none⟩ (.slice a2 lb.length k2)).setCell ⟨w.heap.size + 1, 3, none⟩ (.slice a3 lc.length k3)) = wf at AF GF SF ⊢
      have d0 := (blk_cell AF 0 (x := .int .i64 ci) rfl).1
      have d1 := (blk_cell AF 1 (x := .slice a1 la.length k1) rfl).1
      have d2 := (blk_cell AF 2 (x := .slice a2 lb.length k2) rfl).1
      have d3 := (blk_cell AF 3 (x := .slice a3 lc.length k3) rfl).1
      refine bodyPost_ret (v := .tuple #[.agg #[.int .i64 ci, .slice a1 la.length k1, .slice a2 lb.length k2, .slice a3 lc.length k3], .int .i64 cc]) (by simp [results, Tryz.results9, go_sem, d0, d1, d2, d3]) rfl ⟨_, _, _, by rw [HE.out.1, HE.out.2.1], by rw [HE.out.2.2.1, HE.out.2.2.2.1, HE.out.2.2.2.2]; exact SF.mono (by omega), GF⟩
end Go.Proofs.YtiflfcpoajijaaaGreatDoor.Gh
