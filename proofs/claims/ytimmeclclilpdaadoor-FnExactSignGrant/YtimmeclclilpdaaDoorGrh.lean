/- SignGrant, of the program and of the specification. -/
import Derived.Test.YtimmeclclilpdaaDoorGre
import Derived.Test.YtimmeclclilpdaaDoorGrg
import Derived.Test.YtimmeclclilpdaaDoorAt
import Derived.Deep.RegionLaw
namespace Go.Proofs.YtimmeclclilpdaaDoor.Gh
open Go.RowKit Go.Proofs.YtimmeclclilpdaaDoor.Sl Go.Proofs.YtimmeclclilpdaaDoor.By Go.Proofs.YtimmeclclilpdaaDoor.Ap Go.Proofs.YtimmeclclilpdaaDoor.Tx Go.Proofs.YtimmeclclilpdaaDoor.Sh Go.Proofs.YtimmeclclilpdaaDoor.Ho Go.Proofs.YtimmeclclilpdaaDoor.Se Go.Proofs.YtimmeclclilpdaaDoor.Ka Go.Proofs.YtimmeclclilpdaaDoor.Sx Go.Proofs.YtimmeclclilpdaaDoor.Hf Go.Proofs.YtimmeclclilpdaaDoor.Sa Go.Proofs.YtimmeclclilpdaaDoor.Kx Go.Proofs.YtimmeclclilpdaaDoor.Lv Go.Proofs.YtimmeclclilpdaaDoor.Cr Go.Proofs.YtimmeclclilpdaaDoor.Pa Go.Proofs.YtimmeclclilpdaaDoor.Mb Go.Proofs.YtimmeclclilpdaaDoor.Sg Go.Proofs.YtimmeclclilpdaaDoor.Ns
open Go.Proofs.YtimmeclclilpdaaDoor.Gr12 (Gg gV grB gtS gtC tx tx_small PTab PTab.below implGrantText_any specGrantOK_any l12Text_any nmd_of grB_parts grB_ok bel1)

/-- What SignGrant answers. -/
def okS (id : Int) (g : Gg) : Bool := grB g && inR id 0 6
def sgC (id ix : Int) (g : Gg) : Int := if grB g then (if inR id 0 6 then gC (nsd id.toNat) ix (tx g) else 4) else 1
def sgI (id ix : Int) (g : Gg) : Int := if okS id g then gI (nsd id.toNat) ix (tx g) else 0
def sgA (id ix : Int) (g : Gg) : List ByteArray := if okS id g then gA (nsd id.toNat) ix (tx g) else []
def sgB (id ix : Int) (g : Gg) : List ByteArray := if okS id g then gB (nsd id.toNat) ix (tx g) else []
def sgP (id ix : Int) (g : Gg) : List ByteArray := if okS id g then gP (nsd id.toNat) ix (tx g) else []
theorem sg_bad {id ix : Int} {g : Gg} (h : grB g = false) : sgC id ix g = 1 ∧ sgI id ix g = 0 ∧ sgA id ix g = [] ∧ sgB id ix g = [] ∧ sgP id ix g = [] := by
  unfold sgC sgI sgA sgB sgP okS; rw [h]; exact ⟨rfl, rfl, rfl, rfl, rfl⟩
theorem sg_out {id ix : Int} {g : Gg} (h : grB g = true) (h2 : inR id 0 6 = false) : sgC id ix g = 4 ∧ sgI id ix g = 0 ∧ sgA id ix g = [] ∧ sgB id ix g = [] ∧ sgP id ix g = [] := by
  unfold sgC sgI sgA sgB sgP okS; rw [h, h2]; exact ⟨rfl, rfl, rfl, rfl, rfl⟩
theorem sg_go {id ix : Int} {g : Gg} (h : grB g = true) (h2 : inR id 0 6 = true) : sgC id ix g = gC (nsd id.toNat) ix (tx g) ∧ sgI id ix g = gI (nsd id.toNat) ix (tx g) ∧ sgA id ix g = gA (nsd id.toNat) ix (tx g) ∧ sgB id ix g = gB (nsd id.toNat) ix (tx g) ∧ sgP id ix g = gP (nsd id.toNat) ix (tx g) := by
  unfold sgC sgI sgA sgB sgP okS; rw [h, h2]; exact ⟨rfl, rfl, rfl, rfl, rfl⟩
theorem gC_tx {i : Nat} {ix : Int} {g : Gg} (h : grB g = true) : gC (nsd i) ix (tx g) = if inR ix 0 7 then 0 else 4 := by
  have hm : mbCode (tx g) = 0 := if_neg (by have := tx_small h; omega)
  unfold gC kf
  rw [hm, if_pos rfl, hf_ok (nsd_size i), if_pos rfl]
theorem len32 (id ix : Int) (g : Gg) : (sgA id ix g).length ≤ 32 ∧ (sgB id ix g).length ≤ 32 ∧ (sgP id ix g).length ≤ 32 := by
  unfold sgA sgB sgP
  split
  · exact ⟨gA_len _ _ _, gB_len _ _ _, gP_len _ _ _⟩
  · decide
set_option maxRecDepth 100000 in
set_option maxHeartbeats 1600000 in
theorem implSignGrant_any (id ix : Int) (g : Gg) (w : World) (hs : g.nm.size ≤ maxLen) (hP : PTab w) (hK : KTab w) (hp : 2 < w.heap.size) :
    Calls Tryd.prog 24 #[.int .i64 id, .int .i64 ix, gV g] w fun e w' => ∃ va vb vc, e = .returned (.tuple #[.agg #[.int .i64 (sgI id ix g), va, vb, vc], .int .i64 (sgC id ix g)]) ∧ SigV w' w.heap.size va vb vc (sgA id ix g) (sgB id ix g) (sgP id ix g) ∧ Below w.heap.size w w' := by
  have HKT : Hid (∀ W, Below w.heap.size w W → PTab W ∧ KTab W ∧ 2 < W.heap.size) := fun W hW => ⟨hP.below hW, hK.below hW hp, Nat.lt_of_lt_of_le hp hW.size⟩
  have HX : Hid (∀ W, Below ((w.alloc (.cells #[.string g.nm, .int .i64 g.hd, .int .i64 g.tk, .int .i64 g.ex] 24)).alloc (.cells #[.int .i64 0, .slice none 0 0, .slice none 0 0, .slice none 0 0] 44)).heap.size ((w.alloc (.cells #[.string g.nm, .int .i64 g.hd, .int .i64 g.tk, .int .i64 g.ex] 24)).alloc (.cells #[.int .i64 0, .slice none 0 0, .slice none 0 0, .slice none 0 0] 44)) W → (W.cell? ⟨w.heap.size, 0, none⟩ = some (.string g.nm) ∧ W.cell? ⟨w.heap.size, 1, none⟩ = some (.int .i64 g.hd) ∧ W.cell? ⟨w.heap.size, 2, none⟩ = some (.int .i64 g.tk) ∧ W.cell? ⟨w.heap.size, 3, none⟩ = some (.int .i64 g.ex)) ∧ W.heap[w.heap.size + 1]? = some (.cells #[.int .i64 0, .slice none 0 0, .slice none 0 0, .slice none 0 0] 44 (0, 0)) ∧ Below w.heap.size w W ∧ w.heap.size + 1 + 1 ≤ W.heap.size) := fun W hW => by
    have e1 : (w.alloc (.cells #[.string g.nm, .int .i64 g.hd, .int .i64 g.tk, .int .i64 g.ex] 24)).heap.size = w.heap.size + 1 := by simp
    have h1 := ((hW.block w.heap.size (by simp; omega)).trans ((bel1 (w.alloc (.cells #[.string g.nm, .int .i64 g.hd, .int .i64 g.tk, .int .i64 g.ex] 24)) (.cells #[.int .i64 0, .slice none 0 0, .slice none 0 0, .slice none 0 0] 44)).block _ (by simp))).trans (heap_alloc_new w _)
    have h2 := (hW.block (w.heap.size + 1) (by simp)).trans (e1 ▸ heap_alloc_new (w.alloc (.cells #[.string g.nm, .int .i64 g.hd, .int .i64 g.tk, .int .i64 g.ex] 24)) (.cells #[.int .i64 0, .slice none 0 0, .slice none 0 0, .slice none 0 0] 44))
    have hs := hW.size
    refine ⟨⟨by simp [World.cell?, h1], by simp [World.cell?, h1], by simp [World.cell?, h1], by simp [World.cell?, h1]⟩, h2, ((bel1 w _).trans ((bel1 _ _).mono (bel1 w _).size)).trans (hW.mono (by simp; omega)), ?_⟩
    simp at hs
    omega
  have HT : Hid (∀ W, Below w.heap.size w W → Calls Tryd.prog 10 #[.agg #[.string g.nm, .int .i64 g.hd, .int .i64 g.tk, .int .i64 g.ex]] W fun e w' => e = .returned (.tuple #[.string (gtS g), .int .i64 (gtC g)]) ∧ Below W.heap.size W w') := fun W hW => implGrantText_any g W hs (HKT.out W hW).1
  have HN : Hid (∀ W, Below w.heap.size w W → Calls Tryd.prog 20 #[.int .i64 id] W fun e w' => e = .returned (.tuple #[.string (nsO id), .int .i64 (nsC id)]) ∧ Below W.heap.size W w') := fun W hW => implNodeSeed_any id W (HKT.out W hW).2.1 (HKT.out W hW).2.2
  clear hs hP hK hp
  unfold gV
  cases h : grB g with
  | false =>
    have HE : Hid (sgC id ix g = 1 ∧ sgI id ix g = 0 ∧ sgA id ix g = [] ∧ sgB id ix g = [] ∧ sgP id ix g = []) := sg_bad h
    have HG : Hid (gtS g = ⟨#[]⟩ ∧ gtC g = 1) := by show _ ∧ _; unfold gtS gtC; rw [h]; exact ⟨rfl, rfl⟩
    rw [HG.out.1, HG.out.2] at HT
    clear h HG
    go_enter Tryd.func24, Tryd.ntmps24
    go_upto_region 1 with fail
    generalize ((w.alloc (.cells #[.string g.nm, .int .i64 g.hd, .int .i64 g.tk, .int .i64 g.ex] 24)).alloc (.cells #[.int .i64 0, .slice none 0 0, .slice none 0 0, .slice none 0 0] 44)) = wb at HX ⊢
    obtain ⟨⟨c0, c1, c2, c3⟩, _, g0, _⟩ := HX.out wb (Below.refl _ _)
    go_wp2_with fail
    refine (HT.out _ g0).mono ?_
    rintro e w1 ⟨rfl, b1⟩
    have AX : Hid (w1.heap[w.heap.size + 1]? = some (.cells #[.int .i64 0, .slice none 0 0, .slice none 0 0, .slice none 0 0] 44 (0, 0))) := (HX.out _ b1).2.1
    have GX : Hid (Below w.heap.size w w1) := (HX.out _ b1).2.2.1
    clear b1 c0 c1 c2 c3 g0 HX
    obtain ⟨zc0, zf0⟩ := blk_cell AX.out 0 (x := .int .i64 0) rfl
    obtain ⟨zc1, zf1⟩ := blk_cell AX.out 1 (x := .slice none 0 0) rfl
    obtain ⟨zc2, zf2⟩ := blk_cell AX.out 2 (x := .slice none 0 0) rfl
    obtain ⟨zc3, zf3⟩ := blk_cell AX.out 3 (x := .slice none 0 0) rfl
    have AF : ((((w1.setCell ⟨w.heap.size + 1, 0, none⟩ (.int .i64 0)).setCell ⟨w.heap.size + 1, 1, none⟩ (.slice none 0 0)).setCell ⟨w.heap.size + 1, 2, none⟩ (.slice none 0 0)).setCell ⟨w.heap.size + 1, 3, none⟩ (.slice none 0 0)).heap[w.heap.size + 1]? = some (.cells #[.int .i64 0, .slice none 0 0, .slice none 0 0, .slice none 0 0] 44 (0, 0)) := (blk_set (blk_set (blk_set (blk_set AX.out 0 (.int .i64 0)) 1 (.slice none 0 0)) 2 (.slice none 0 0)) 3 (.slice none 0 0))
    have GF : Below w.heap.size w ((((w1.setCell ⟨w.heap.size + 1, 0, none⟩ (.int .i64 0)).setCell ⟨w.heap.size + 1, 1, none⟩ (.slice none 0 0)).setCell ⟨w.heap.size + 1, 2, none⟩ (.slice none 0 0)).setCell ⟨w.heap.size + 1, 3, none⟩ (.slice none 0 0)) := (Below.setCell (Below.setCell (Below.setCell (Below.setCell GX.out (p := ⟨w.heap.size + 1, 0, none⟩) (Nat.le_succ _) (.int .i64 0)) (p := ⟨w.heap.size + 1, 1, none⟩) (Nat.le_succ _) (.slice none 0 0)) (p := ⟨w.heap.size + 1, 2, none⟩) (Nat.le_succ _) (.slice none 0 0)) (p := ⟨w.heap.size + 1, 3, none⟩) (Nat.le_succ _) (.slice none 0 0))
    go_wp2_with fail
    generalize ((((w1.setCell ⟨w.heap.size + 1, 0, none⟩ (.int .i64 0)).setCell ⟨w.heap.size + 1, 1, none⟩ (.slice none 0 0)).setCell ⟨w.heap.size + 1, 2, none⟩ (.slice none 0 0)).setCell ⟨w.heap.size + 1, 3, none⟩ (.slice none 0 0)) = wf at AF GF ⊢
    have d0 := (blk_cell AF 0 (x := .int .i64 0) rfl).1
    have d1 := (blk_cell AF 1 (x := .slice none 0 0) rfl).1
    have d2 := (blk_cell AF 2 (x := .slice none 0 0) rfl).1
    have d3 := (blk_cell AF 3 (x := .slice none 0 0) rfl).1
    refine bodyPost_ret (v := .tuple #[.agg #[.int .i64 0, .slice none 0 0, .slice none 0 0, .slice none 0 0], .int .i64 1]) (by simp [results, Tryd.results24, go_sem, d0, d1, d2, d3]) rfl ⟨_, _, _, by rw [HE.out.1, HE.out.2.1], by rw [HE.out.2.2.1, HE.out.2.2.2.1, HE.out.2.2.2.2]; exact SigV.nil _ _, GF⟩
  | true =>
    have HG : Hid (gtS g = tx g ∧ gtC g = 0) := by show _ ∧ _; unfold gtS gtC; rw [h]; exact ⟨rfl, rfl⟩
    rw [HG.out.1, HG.out.2] at HT
    clear HG
    cases h2 : inR id 0 6 with
    | false =>
      have HE : Hid (sgC id ix g = 4 ∧ sgI id ix g = 0 ∧ sgA id ix g = [] ∧ sgB id ix g = [] ∧ sgP id ix g = []) := sg_out h h2
      rw [(ns_bad h2).1, (ns_bad h2).2.1] at HN
      clear h h2
      go_enter Tryd.func24, Tryd.ntmps24
      go_upto_region 1 with fail
      generalize ((w.alloc (.cells #[.string g.nm, .int .i64 g.hd, .int .i64 g.tk, .int .i64 g.ex] 24)).alloc (.cells #[.int .i64 0, .slice none 0 0, .slice none 0 0, .slice none 0 0] 44)) = wb at HX ⊢
      obtain ⟨⟨c0, c1, c2, c3⟩, _, g0, _⟩ := HX.out wb (Below.refl _ _)
      go_wp2_with fail
      refine (HT.out _ g0).mono ?_
      rintro e w1 ⟨rfl, b1⟩
      have B1 : Hid (Below wb.heap.size wb w1) := b1
      clear b1 c0 c1 c2 c3 g0
      go_wp2_with fail
      refine (HN.out _ (HX.out _ B1.out).2.2.1).mono ?_
      rintro e w2 ⟨rfl, b2⟩
      have B2 : Hid (Below wb.heap.size wb w2) := B1.out.trans (b2.mono B1.out.size)
      have AX : Hid (w2.heap[w.heap.size + 1]? = some (.cells #[.int .i64 0, .slice none 0 0, .slice none 0 0, .slice none 0 0] 44 (0, 0))) := (HX.out _ B2.out).2.1
      have GX : Hid (Below w.heap.size w w2) := (HX.out _ B2.out).2.2.1
      clear b2 HX B1 B2
      obtain ⟨zc0, zf0⟩ := blk_cell AX.out 0 (x := .int .i64 0) rfl
      obtain ⟨zc1, zf1⟩ := blk_cell AX.out 1 (x := .slice none 0 0) rfl
      obtain ⟨zc2, zf2⟩ := blk_cell AX.out 2 (x := .slice none 0 0) rfl
      obtain ⟨zc3, zf3⟩ := blk_cell AX.out 3 (x := .slice none 0 0) rfl
      have AF : ((((w2.setCell ⟨w.heap.size + 1, 0, none⟩ (.int .i64 0)).setCell ⟨w.heap.size + 1, 1, none⟩ (.slice none 0 0)).setCell ⟨w.heap.size + 1, 2, none⟩ (.slice none 0 0)).setCell ⟨w.heap.size + 1, 3, none⟩ (.slice none 0 0)).heap[w.heap.size + 1]? = some (.cells #[.int .i64 0, .slice none 0 0, .slice none 0 0, .slice none 0 0] 44 (0, 0)) := (blk_set (blk_set (blk_set (blk_set AX.out 0 (.int .i64 0)) 1 (.slice none 0 0)) 2 (.slice none 0 0)) 3 (.slice none 0 0))
      have GF : Below w.heap.size w ((((w2.setCell ⟨w.heap.size + 1, 0, none⟩ (.int .i64 0)).setCell ⟨w.heap.size + 1, 1, none⟩ (.slice none 0 0)).setCell ⟨w.heap.size + 1, 2, none⟩ (.slice none 0 0)).setCell ⟨w.heap.size + 1, 3, none⟩ (.slice none 0 0)) := (Below.setCell (Below.setCell (Below.setCell (Below.setCell GX.out (p := ⟨w.heap.size + 1, 0, none⟩) (Nat.le_succ _) (.int .i64 0)) (p := ⟨w.heap.size + 1, 1, none⟩) (Nat.le_succ _) (.slice none 0 0)) (p := ⟨w.heap.size + 1, 2, none⟩) (Nat.le_succ _) (.slice none 0 0)) (p := ⟨w.heap.size + 1, 3, none⟩) (Nat.le_succ _) (.slice none 0 0))
      go_wp2_with fail
      generalize ((((w2.setCell ⟨w.heap.size + 1, 0, none⟩ (.int .i64 0)).setCell ⟨w.heap.size + 1, 1, none⟩ (.slice none 0 0)).setCell ⟨w.heap.size + 1, 2, none⟩ (.slice none 0 0)).setCell ⟨w.heap.size + 1, 3, none⟩ (.slice none 0 0)) = wf at AF GF ⊢
      have d0 := (blk_cell AF 0 (x := .int .i64 0) rfl).1
      have d1 := (blk_cell AF 1 (x := .slice none 0 0) rfl).1
      have d2 := (blk_cell AF 2 (x := .slice none 0 0) rfl).1
      have d3 := (blk_cell AF 3 (x := .slice none 0 0) rfl).1
      refine bodyPost_ret (v := .tuple #[.agg #[.int .i64 0, .slice none 0 0, .slice none 0 0, .slice none 0 0], .int .i64 4]) (by simp [results, Tryd.results24, go_sem, d0, d1, d2, d3]) rfl ⟨_, _, _, by rw [HE.out.1, HE.out.2.1], by rw [HE.out.2.2.1, HE.out.2.2.2.1, HE.out.2.2.2.2]; exact SigV.nil _ _, GF⟩
    | true =>
      have HE : Hid (sgC id ix g = gC (nsd id.toNat) ix (tx g) ∧ sgI id ix g = gI (nsd id.toNat) ix (tx g) ∧ sgA id ix g = gA (nsd id.toNat) ix (tx g) ∧ sgB id ix g = gB (nsd id.toNat) ix (tx g) ∧ sgP id ix g = gP (nsd id.toNat) ix (tx g)) := sg_go h h2
      rw [(ns_good h2).1, (ns_good h2).2.1] at HN
      have HS : Hid (∀ W, Below w.heap.size w W → Calls Tryd.prog 48 #[.string (nsd id.toNat), .int .i64 ix, .string (tx g)] W fun e w' => ∃ va vb vc, e = .returned (.tuple #[.agg #[.int .i64 (gI (nsd id.toNat) ix (tx g)), va, vb, vc], .int .i64 (gC (nsd id.toNat) ix (tx g))]) ∧ SigV w' W.heap.size va vb vc (gA (nsd id.toNat) ix (tx g)) (gB (nsd id.toNat) ix (tx g)) (gP (nsd id.toNat) ix (tx g)) ∧ Below W.heap.size W w') := fun W hW => implSignAt_any _ _ _ W (HKT.out W hW).2.1 (HKT.out W hW).2.2
      clear h h2 HKT
      generalize gC (nsd id.toNat) ix (tx g) = cc at HE HS
      generalize gI (nsd id.toNat) ix (tx g) = ci at HE HS
      generalize gA (nsd id.toNat) ix (tx g) = la at HE HS
      generalize gB (nsd id.toNat) ix (tx g) = lb at HE HS
      generalize gP (nsd id.toNat) ix (tx g) = lc at HE HS
      generalize nsd id.toNat = sd at HN HS
      generalize tx g = tt at HT HS
      go_enter Tryd.func24, Tryd.ntmps24
      go_upto_region 1 with fail
      generalize ((w.alloc (.cells #[.string g.nm, .int .i64 g.hd, .int .i64 g.tk, .int .i64 g.ex] 24)).alloc (.cells #[.int .i64 0, .slice none 0 0, .slice none 0 0, .slice none 0 0] 44)) = wb at HX ⊢
      obtain ⟨⟨c0, c1, c2, c3⟩, _, g0, _⟩ := HX.out wb (Below.refl _ _)
      go_wp2_with fail
      refine (HT.out _ g0).mono ?_
      rintro e w1 ⟨rfl, b1⟩
      have B1 : Hid (Below wb.heap.size wb w1) := b1
      clear b1 c0 c1 c2 c3 g0
      go_wp2_with fail
      refine (HN.out _ (HX.out _ B1.out).2.2.1).mono ?_
      rintro e w2 ⟨rfl, b2⟩
      have B2 : Hid (Below wb.heap.size wb w2) := B1.out.trans (b2.mono B1.out.size)
      clear b2
      go_wp2_with fail
      refine (HS.out _ (HX.out _ B2.out).2.2.1).mono ?_
      rintro e w3 ⟨va, vb, vc, rfl, s3, b3⟩
      have B3 : Hid (Below wb.heap.size wb w3) := B2.out.trans (b3.mono B2.out.size)
      have SX : Hid (SigV w3 (w.heap.size + 1 + 1) va vb vc la lb lc) := s3.mono (HX.out _ B2.out).2.2.2
      have AX : Hid (w3.heap[w.heap.size + 1]? = some (.cells #[.int .i64 0, .slice none 0 0, .slice none 0 0, .slice none 0 0] 44 (0, 0))) := (HX.out _ B3.out).2.1
      have GX : Hid (Below w.heap.size w w3) := (HX.out _ B3.out).2.2.1
      obtain ⟨a1, k1, e1, _⟩ := s3.oa.row
      obtain ⟨a2, k2, e2, _⟩ := s3.ob.row
      obtain ⟨a3, k3, e3, _⟩ := s3.oc.row
      subst e1 e2 e3
      clear b3 s3 HX B1 B2 B3
      obtain ⟨zc0, zf0⟩ := blk_cell AX.out 0 (x := .int .i64 0) rfl
      obtain ⟨zc1, zf1⟩ := blk_cell AX.out 1 (x := .slice none 0 0) rfl
      obtain ⟨zc2, zf2⟩ := blk_cell AX.out 2 (x := .slice none 0 0) rfl
      obtain ⟨zc3, zf3⟩ := blk_cell AX.out 3 (x := .slice none 0 0) rfl
      have AF : ((((w3.setCell ⟨w.heap.size + 1, 0, none⟩ (.int .i64 ci)).setCell ⟨w.heap.size + 1, 1, none⟩ (.slice a1 la.length k1)).setCell ⟨w.heap.size + 1, 2, none⟩ (.slice a2 lb.length k2)).setCell ⟨w.heap.size + 1, 3, none⟩ (.slice a3 lc.length k3)).heap[w.heap.size + 1]? = some (.cells #[.int .i64 ci, .slice a1 la.length k1, .slice a2 lb.length k2, .slice a3 lc.length k3] 44 (0, 0)) := (blk_set (blk_set (blk_set (blk_set AX.out 0 (.int .i64 ci)) 1 (.slice a1 la.length k1)) 2 (.slice a2 lb.length k2)) 3 (.slice a3 lc.length k3))
      have GF : Below w.heap.size w ((((w3.setCell ⟨w.heap.size + 1, 0, none⟩ (.int .i64 ci)).setCell ⟨w.heap.size + 1, 1, none⟩ (.slice a1 la.length k1)).setCell ⟨w.heap.size + 1, 2, none⟩ (.slice a2 lb.length k2)).setCell ⟨w.heap.size + 1, 3, none⟩ (.slice a3 lc.length k3)) := (Below.setCell (Below.setCell (Below.setCell (Below.setCell GX.out (p := ⟨w.heap.size + 1, 0, none⟩) (Nat.le_succ _) (.int .i64 ci)) (p := ⟨w.heap.size + 1, 1, none⟩) (Nat.le_succ _) (.slice a1 la.length k1)) (p := ⟨w.heap.size + 1, 2, none⟩) (Nat.le_succ _) (.slice a2 lb.length k2)) (p := ⟨w.heap.size + 1, 3, none⟩) (Nat.le_succ _) (.slice a3 lc.length k3))
      have SF := (SigV.set (j := 3) (x := .slice a3 lc.length k3) (SigV.set (j := 2) (x := .slice a2 lb.length k2) (SigV.set (j := 1) (x := .slice a1 la.length k1) (SigV.set (j := 0) (x := .int .i64 ci) SX.out (Nat.lt_succ_self _)) (Nat.lt_succ_self _)) (Nat.lt_succ_self _)) (Nat.lt_succ_self _))
      go_wp2_with fail
      generalize ((((w3.setCell ⟨w.heap.size + 1, 0, none⟩ (.int .i64 ci)).setCell ⟨w.heap.size + 1, 1, none⟩ (.slice a1 la.length k1)).setCell ⟨w.heap.size + 1, 2, none⟩ (.slice a2 lb.length k2)).setCell ⟨w.heap.size + 1, 3, none⟩ (.slice a3 lc.length k3)) = wf at AF GF SF ⊢
      have d0 := (blk_cell AF 0 (x := .int .i64 ci) rfl).1
      have d1 := (blk_cell AF 1 (x := .slice a1 la.length k1) rfl).1
      have d2 := (blk_cell AF 2 (x := .slice a2 lb.length k2) rfl).1
      have d3 := (blk_cell AF 3 (x := .slice a3 lc.length k3) rfl).1
      refine bodyPost_ret (v := .tuple #[.agg #[.int .i64 ci, .slice a1 la.length k1, .slice a2 lb.length k2, .slice a3 lc.length k3], .int .i64 cc]) (by simp [results, Tryd.results24, go_sem, d0, d1, d2, d3]) rfl ⟨_, _, _, by rw [HE.out.1, HE.out.2.1], by rw [HE.out.2.2.1, HE.out.2.2.2.1, HE.out.2.2.2.2]; exact SF.mono (by omega), GF⟩
set_option maxRecDepth 100000 in
set_option maxHeartbeats 1600000 in
theorem specSignGrant_any (id ix : Int) (g : Gg) (w : World) (hs : g.nm.size ≤ maxLen) :
    Calls Tryd.prog 23 #[.int .i64 id, .int .i64 ix, gV g] w fun e w' => ∃ va vb vc, e = .returned (.tuple #[.agg #[.int .i64 (sgI id ix g), va, vb, vc], .int .i64 (sgC id ix g)]) ∧ SigV w' w.heap.size va vb vc (sgA id ix g) (sgB id ix g) (sgP id ix g) ∧ Below w.heap.size w w' := by
  have HX : Hid (∀ W, Below ((w.alloc (.cells #[.string g.nm, .int .i64 g.hd, .int .i64 g.tk, .int .i64 g.ex] 24)).alloc (.cells #[.int .i64 0, .slice none 0 0, .slice none 0 0, .slice none 0 0] 44)).heap.size ((w.alloc (.cells #[.string g.nm, .int .i64 g.hd, .int .i64 g.tk, .int .i64 g.ex] 24)).alloc (.cells #[.int .i64 0, .slice none 0 0, .slice none 0 0, .slice none 0 0] 44)) W → (W.cell? ⟨w.heap.size, 0, none⟩ = some (.string g.nm) ∧ W.cell? ⟨w.heap.size, 1, none⟩ = some (.int .i64 g.hd) ∧ W.cell? ⟨w.heap.size, 2, none⟩ = some (.int .i64 g.tk) ∧ W.cell? ⟨w.heap.size, 3, none⟩ = some (.int .i64 g.ex)) ∧ W.heap[w.heap.size + 1]? = some (.cells #[.int .i64 0, .slice none 0 0, .slice none 0 0, .slice none 0 0] 44 (0, 0)) ∧ Below w.heap.size w W ∧ w.heap.size + 1 + 1 ≤ W.heap.size) := fun W hW => by
    have e1 : (w.alloc (.cells #[.string g.nm, .int .i64 g.hd, .int .i64 g.tk, .int .i64 g.ex] 24)).heap.size = w.heap.size + 1 := by simp
    have h1 := ((hW.block w.heap.size (by simp; omega)).trans ((bel1 (w.alloc (.cells #[.string g.nm, .int .i64 g.hd, .int .i64 g.tk, .int .i64 g.ex] 24)) (.cells #[.int .i64 0, .slice none 0 0, .slice none 0 0, .slice none 0 0] 44)).block _ (by simp))).trans (heap_alloc_new w _)
    have h2 := (hW.block (w.heap.size + 1) (by simp)).trans (e1 ▸ heap_alloc_new (w.alloc (.cells #[.string g.nm, .int .i64 g.hd, .int .i64 g.tk, .int .i64 g.ex] 24)) (.cells #[.int .i64 0, .slice none 0 0, .slice none 0 0, .slice none 0 0] 44))
    have hs := hW.size
    refine ⟨⟨by simp [World.cell?, h1], by simp [World.cell?, h1], by simp [World.cell?, h1], by simp [World.cell?, h1]⟩, h2, ((bel1 w _).trans ((bel1 _ _).mono (bel1 w _).size)).trans (hW.mono (by simp; omega)), ?_⟩
    simp at hs
    omega
  have HO : Hid (∀ W, Calls Tryd.prog 31 #[.agg #[.string g.nm, .int .i64 g.hd, .int .i64 g.tk, .int .i64 g.ex]] W fun e w' => e = .returned (.bool (grB g)) ∧ Below W.heap.size W w') := fun W => specGrantOK_any g W hs
  have HI1 := fun W => l01In_any id 0 6 W
  have HI2 := fun W => l01In_any ix 0 7 W
  clear hs
  unfold gV
  cases h : grB g with
  | false =>
    have HE : Hid (sgC id ix g = 1 ∧ sgI id ix g = 0 ∧ sgA id ix g = [] ∧ sgB id ix g = [] ∧ sgP id ix g = []) := sg_bad h
    rw [h] at HO
    clear h
    go_enter Tryd.func23, Tryd.ntmps23
    go_upto_region 1 with fail
    generalize ((w.alloc (.cells #[.string g.nm, .int .i64 g.hd, .int .i64 g.tk, .int .i64 g.ex] 24)).alloc (.cells #[.int .i64 0, .slice none 0 0, .slice none 0 0, .slice none 0 0] 44)) = wb at HX ⊢
    obtain ⟨⟨c0, c1, c2, c3⟩, _, g0, _⟩ := HX.out wb (Below.refl _ _)
    go_wp2_with fail
    refine (HO.out _).mono ?_
    rintro e w1 ⟨rfl, b1⟩
    have AX : Hid (w1.heap[w.heap.size + 1]? = some (.cells #[.int .i64 0, .slice none 0 0, .slice none 0 0, .slice none 0 0] 44 (0, 0))) := (HX.out _ b1).2.1
    have GX : Hid (Below w.heap.size w w1) := (HX.out _ b1).2.2.1
    clear b1 c0 c1 c2 c3 g0 HX
    obtain ⟨zc0, zf0⟩ := blk_cell AX.out 0 (x := .int .i64 0) rfl
    obtain ⟨zc1, zf1⟩ := blk_cell AX.out 1 (x := .slice none 0 0) rfl
    obtain ⟨zc2, zf2⟩ := blk_cell AX.out 2 (x := .slice none 0 0) rfl
    obtain ⟨zc3, zf3⟩ := blk_cell AX.out 3 (x := .slice none 0 0) rfl
    have AF : ((((w1.setCell ⟨w.heap.size + 1, 0, none⟩ (.int .i64 0)).setCell ⟨w.heap.size + 1, 1, none⟩ (.slice none 0 0)).setCell ⟨w.heap.size + 1, 2, none⟩ (.slice none 0 0)).setCell ⟨w.heap.size + 1, 3, none⟩ (.slice none 0 0)).heap[w.heap.size + 1]? = some (.cells #[.int .i64 0, .slice none 0 0, .slice none 0 0, .slice none 0 0] 44 (0, 0)) := (blk_set (blk_set (blk_set (blk_set AX.out 0 (.int .i64 0)) 1 (.slice none 0 0)) 2 (.slice none 0 0)) 3 (.slice none 0 0))
    have GF : Below w.heap.size w ((((w1.setCell ⟨w.heap.size + 1, 0, none⟩ (.int .i64 0)).setCell ⟨w.heap.size + 1, 1, none⟩ (.slice none 0 0)).setCell ⟨w.heap.size + 1, 2, none⟩ (.slice none 0 0)).setCell ⟨w.heap.size + 1, 3, none⟩ (.slice none 0 0)) := (Below.setCell (Below.setCell (Below.setCell (Below.setCell GX.out (p := ⟨w.heap.size + 1, 0, none⟩) (Nat.le_succ _) (.int .i64 0)) (p := ⟨w.heap.size + 1, 1, none⟩) (Nat.le_succ _) (.slice none 0 0)) (p := ⟨w.heap.size + 1, 2, none⟩) (Nat.le_succ _) (.slice none 0 0)) (p := ⟨w.heap.size + 1, 3, none⟩) (Nat.le_succ _) (.slice none 0 0))
    go_wp2_with fail
    generalize ((((w1.setCell ⟨w.heap.size + 1, 0, none⟩ (.int .i64 0)).setCell ⟨w.heap.size + 1, 1, none⟩ (.slice none 0 0)).setCell ⟨w.heap.size + 1, 2, none⟩ (.slice none 0 0)).setCell ⟨w.heap.size + 1, 3, none⟩ (.slice none 0 0)) = wf at AF GF ⊢
    have d0 := (blk_cell AF 0 (x := .int .i64 0) rfl).1
    have d1 := (blk_cell AF 1 (x := .slice none 0 0) rfl).1
    have d2 := (blk_cell AF 2 (x := .slice none 0 0) rfl).1
    have d3 := (blk_cell AF 3 (x := .slice none 0 0) rfl).1
    refine bodyPost_ret (v := .tuple #[.agg #[.int .i64 0, .slice none 0 0, .slice none 0 0, .slice none 0 0], .int .i64 1]) (by simp [results, Tryd.results23, go_sem, d0, d1, d2, d3]) rfl ⟨_, _, _, by rw [HE.out.1, HE.out.2.1], by rw [HE.out.2.2.1, HE.out.2.2.2.1, HE.out.2.2.2.2]; exact SigV.nil _ _, GF⟩
  | true =>
    rw [h] at HO
    have HTX : Hid (∀ W, Calls Tryd.prog 32 #[.agg #[.string g.nm, .int .i64 g.hd, .int .i64 g.tk, .int .i64 g.ex]] W fun e w' => e = .returned (.string (tx g)) ∧ Below W.heap.size W w') := fun W => l12Text_any g W (nmd_of (grB_parts h).1).2 (grB_ok g h).2
    cases h2 : inR id 0 6 with
    | false =>
      have HE : Hid (sgC id ix g = 4 ∧ sgI id ix g = 0 ∧ sgA id ix g = [] ∧ sgB id ix g = [] ∧ sgP id ix g = []) := sg_out h h2
      rw [h2] at HI1
      clear h h2
      go_enter Tryd.func23, Tryd.ntmps23
      go_upto_region 1 with fail
      generalize ((w.alloc (.cells #[.string g.nm, .int .i64 g.hd, .int .i64 g.tk, .int .i64 g.ex] 24)).alloc (.cells #[.int .i64 0, .slice none 0 0, .slice none 0 0, .slice none 0 0] 44)) = wb at HX ⊢
      obtain ⟨⟨c0, c1, c2, c3⟩, _, g0, _⟩ := HX.out wb (Below.refl _ _)
      go_wp2_with fail
      refine (HO.out _).mono ?_
      rintro e w1 ⟨rfl, b1⟩
      have AX : Hid (w1.heap[w.heap.size + 1]? = some (.cells #[.int .i64 0, .slice none 0 0, .slice none 0 0, .slice none 0 0] 44 (0, 0))) := (HX.out _ b1).2.1
      have GX : Hid (Below w.heap.size w w1) := (HX.out _ b1).2.2.1
      clear b1 c0 c1 c2 c3 g0 HX
      obtain ⟨zc0, zf0⟩ := blk_cell AX.out 0 (x := .int .i64 0) rfl
      obtain ⟨zc1, zf1⟩ := blk_cell AX.out 1 (x := .slice none 0 0) rfl
      obtain ⟨zc2, zf2⟩ := blk_cell AX.out 2 (x := .slice none 0 0) rfl
      obtain ⟨zc3, zf3⟩ := blk_cell AX.out 3 (x := .slice none 0 0) rfl
      have AF : ((((w1.setCell ⟨w.heap.size + 1, 0, none⟩ (.int .i64 0)).setCell ⟨w.heap.size + 1, 1, none⟩ (.slice none 0 0)).setCell ⟨w.heap.size + 1, 2, none⟩ (.slice none 0 0)).setCell ⟨w.heap.size + 1, 3, none⟩ (.slice none 0 0)).heap[w.heap.size + 1]? = some (.cells #[.int .i64 0, .slice none 0 0, .slice none 0 0, .slice none 0 0] 44 (0, 0)) := (blk_set (blk_set (blk_set (blk_set AX.out 0 (.int .i64 0)) 1 (.slice none 0 0)) 2 (.slice none 0 0)) 3 (.slice none 0 0))
      have GF : Below w.heap.size w ((((w1.setCell ⟨w.heap.size + 1, 0, none⟩ (.int .i64 0)).setCell ⟨w.heap.size + 1, 1, none⟩ (.slice none 0 0)).setCell ⟨w.heap.size + 1, 2, none⟩ (.slice none 0 0)).setCell ⟨w.heap.size + 1, 3, none⟩ (.slice none 0 0)) := (Below.setCell (Below.setCell (Below.setCell (Below.setCell GX.out (p := ⟨w.heap.size + 1, 0, none⟩) (Nat.le_succ _) (.int .i64 0)) (p := ⟨w.heap.size + 1, 1, none⟩) (Nat.le_succ _) (.slice none 0 0)) (p := ⟨w.heap.size + 1, 2, none⟩) (Nat.le_succ _) (.slice none 0 0)) (p := ⟨w.heap.size + 1, 3, none⟩) (Nat.le_succ _) (.slice none 0 0))
      go_wp2_with (first | (go_at_call 40; (first | (with_reducible refine (HI1 _).mono ?_) | (with_reducible refine (HI2 _).mono ?_)); rintro e w2 ⟨rfl, rfl⟩))
      generalize ((((w1.setCell ⟨w.heap.size + 1, 0, none⟩ (.int .i64 0)).setCell ⟨w.heap.size + 1, 1, none⟩ (.slice none 0 0)).setCell ⟨w.heap.size + 1, 2, none⟩ (.slice none 0 0)).setCell ⟨w.heap.size + 1, 3, none⟩ (.slice none 0 0)) = wf at AF GF ⊢
      have d0 := (blk_cell AF 0 (x := .int .i64 0) rfl).1
      have d1 := (blk_cell AF 1 (x := .slice none 0 0) rfl).1
      have d2 := (blk_cell AF 2 (x := .slice none 0 0) rfl).1
      have d3 := (blk_cell AF 3 (x := .slice none 0 0) rfl).1
      refine bodyPost_ret (v := .tuple #[.agg #[.int .i64 0, .slice none 0 0, .slice none 0 0, .slice none 0 0], .int .i64 4]) (by simp [results, Tryd.results23, go_sem, d0, d1, d2, d3]) rfl ⟨_, _, _, by rw [HE.out.1, HE.out.2.1], by rw [HE.out.2.2.1, HE.out.2.2.2.1, HE.out.2.2.2.2]; exact SigV.nil _ _, GF⟩
    | true =>
      rw [h2] at HI1
      have HE0 : Hid (sgC id ix g = gC (nsd id.toNat) ix (tx g) ∧ sgI id ix g = gI (nsd id.toNat) ix (tx g) ∧ sgA id ix g = gA (nsd id.toNat) ix (tx g) ∧ sgB id ix g = gB (nsd id.toNat) ix (tx g) ∧ sgP id ix g = gP (nsd id.toNat) ix (tx g)) := sg_go h h2
      cases h3 : inR ix 0 7 with
      | false =>
        have HB := g_bad (s := nsd id.toNat) (i := ix) (msg := tx g) (c := 4) (by rw [gC_tx h, h3]; rfl) (by decide)
        rw [HB.1, HB.2.1, HB.2.2.1, HB.2.2.2.1, HB.2.2.2.2] at HE0
        clear HB
        have HE : Hid (sgC id ix g = 4 ∧ sgI id ix g = 0 ∧ sgA id ix g = [] ∧ sgB id ix g = [] ∧ sgP id ix g = []) := HE0.out
        rw [h3] at HI2
        clear h h2 h3 HE0
        go_enter Tryd.func23, Tryd.ntmps23
        go_upto_region 1 with fail
        generalize ((w.alloc (.cells #[.string g.nm, .int .i64 g.hd, .int .i64 g.tk, .int .i64 g.ex] 24)).alloc (.cells #[.int .i64 0, .slice none 0 0, .slice none 0 0, .slice none 0 0] 44)) = wb at HX ⊢
        obtain ⟨⟨c0, c1, c2, c3⟩, _, g0, _⟩ := HX.out wb (Below.refl _ _)
        go_wp2_with fail
        refine (HO.out _).mono ?_
        rintro e w1 ⟨rfl, b1⟩
        have AX : Hid (w1.heap[w.heap.size + 1]? = some (.cells #[.int .i64 0, .slice none 0 0, .slice none 0 0, .slice none 0 0] 44 (0, 0))) := (HX.out _ b1).2.1
        have GX : Hid (Below w.heap.size w w1) := (HX.out _ b1).2.2.1
        clear b1 c0 c1 c2 c3 g0 HX
        obtain ⟨zc0, zf0⟩ := blk_cell AX.out 0 (x := .int .i64 0) rfl
        obtain ⟨zc1, zf1⟩ := blk_cell AX.out 1 (x := .slice none 0 0) rfl
        obtain ⟨zc2, zf2⟩ := blk_cell AX.out 2 (x := .slice none 0 0) rfl
        obtain ⟨zc3, zf3⟩ := blk_cell AX.out 3 (x := .slice none 0 0) rfl
        have AF : ((((w1.setCell ⟨w.heap.size + 1, 0, none⟩ (.int .i64 0)).setCell ⟨w.heap.size + 1, 1, none⟩ (.slice none 0 0)).setCell ⟨w.heap.size + 1, 2, none⟩ (.slice none 0 0)).setCell ⟨w.heap.size + 1, 3, none⟩ (.slice none 0 0)).heap[w.heap.size + 1]? = some (.cells #[.int .i64 0, .slice none 0 0, .slice none 0 0, .slice none 0 0] 44 (0, 0)) := (blk_set (blk_set (blk_set (blk_set AX.out 0 (.int .i64 0)) 1 (.slice none 0 0)) 2 (.slice none 0 0)) 3 (.slice none 0 0))
        have GF : Below w.heap.size w ((((w1.setCell ⟨w.heap.size + 1, 0, none⟩ (.int .i64 0)).setCell ⟨w.heap.size + 1, 1, none⟩ (.slice none 0 0)).setCell ⟨w.heap.size + 1, 2, none⟩ (.slice none 0 0)).setCell ⟨w.heap.size + 1, 3, none⟩ (.slice none 0 0)) := (Below.setCell (Below.setCell (Below.setCell (Below.setCell GX.out (p := ⟨w.heap.size + 1, 0, none⟩) (Nat.le_succ _) (.int .i64 0)) (p := ⟨w.heap.size + 1, 1, none⟩) (Nat.le_succ _) (.slice none 0 0)) (p := ⟨w.heap.size + 1, 2, none⟩) (Nat.le_succ _) (.slice none 0 0)) (p := ⟨w.heap.size + 1, 3, none⟩) (Nat.le_succ _) (.slice none 0 0))
        go_wp2_with (first | (go_at_call 40; (first | (with_reducible refine (HI1 _).mono ?_) | (with_reducible refine (HI2 _).mono ?_)); rintro e w2 ⟨rfl, rfl⟩))
        generalize ((((w1.setCell ⟨w.heap.size + 1, 0, none⟩ (.int .i64 0)).setCell ⟨w.heap.size + 1, 1, none⟩ (.slice none 0 0)).setCell ⟨w.heap.size + 1, 2, none⟩ (.slice none 0 0)).setCell ⟨w.heap.size + 1, 3, none⟩ (.slice none 0 0)) = wf at AF GF ⊢
        have d0 := (blk_cell AF 0 (x := .int .i64 0) rfl).1
        have d1 := (blk_cell AF 1 (x := .slice none 0 0) rfl).1
        have d2 := (blk_cell AF 2 (x := .slice none 0 0) rfl).1
        have d3 := (blk_cell AF 3 (x := .slice none 0 0) rfl).1
        refine bodyPost_ret (v := .tuple #[.agg #[.int .i64 0, .slice none 0 0, .slice none 0 0, .slice none 0 0], .int .i64 4]) (by simp [results, Tryd.results23, go_sem, d0, d1, d2, d3]) rfl ⟨_, _, _, by rw [HE.out.1, HE.out.2.1], by rw [HE.out.2.2.1, HE.out.2.2.2.1, HE.out.2.2.2.2]; exact SigV.nil _ _, GF⟩
      | true =>
        have hb := inR_nat h2
        have hx := inR_nat h3
        obtain ⟨i, rfl⟩ : ∃ i : Nat, id = (i : Int) := ⟨id.toNat, by omega⟩
        obtain ⟨k, rfl⟩ : ∃ k : Nat, ix = (k : Int) := ⟨ix.toNat, by omega⟩
        rw [Int.toNat_natCast] at HE0
        have HB := g_good (s := nsd i) (i := (k : Int)) (msg := tx g) (by rw [gC_tx h, h3]; rfl)
        rw [Int.toNat_natCast] at HB
        rw [HB.1, HB.2.1, HB.2.2.1, HB.2.2.2.1, HB.2.2.2.2] at HE0
        have HE : Hid (sgC (i : Int) (k : Int) g = 0 ∧ sgI (i : Int) (k : Int) g = (k : Int) ∧ sgA (i : Int) (k : Int) g = onesTo (nsd i) k (dig (tx g)) 32 ∧ sgB (i : Int) (k : Int) g = restTo (nsd i) k (dig (tx g)) 32 ∧ sgP (i : Int) (k : Int) g = pathN 3 (keysTo (nsd i) 8) k) := HE0.out
        have HSD : Hid (∀ W0 W, Below W0.heap.size W0 W → Calls Tryd.prog 41 #[.int .i64 i] W fun e w' => e = .returned (.string (nsd i)) ∧ Below W0.heap.size W0 w') := fun W0 W hW => (l12Seed_any i W (by omega)).mono fun e w' ⟨h1, h2⟩ => ⟨h1, hW.trans (h2.mono hW.size)⟩
        have HTX2 : Hid (∀ W0 W, Below W0.heap.size W0 W → Calls Tryd.prog 32 #[.agg #[.string g.nm, .int .i64 g.hd, .int .i64 g.tk, .int .i64 g.ex]] W fun e w' => e = .returned (.string (tx g)) ∧ Below W0.heap.size W0 w') := fun W0 W hW => (HTX.out W).mono fun e w' ⟨h1, h2⟩ => ⟨h1, hW.trans (h2.mono hW.size)⟩
        have HSG : Hid (∀ W0 W, Below W0.heap.size W0 W → Calls Tryd.prog 47 #[.string (nsd i), .int .i64 k, .string (tx g)] W fun e w' => ∃ a1 k1 a2 k2 a3 k3, e = .returned (.agg #[.int .i64 k, .slice a1 32 k1, .slice a2 32 k2, .slice a3 3 k3]) ∧ SigV w' W0.heap.size (.slice a1 32 k1) (.slice a2 32 k2) (.slice a3 3 k3) (onesTo (nsd i) k (dig (tx g)) 32) (restTo (nsd i) k (dig (tx g)) 32) (pathN 3 (keysTo (nsd i) 8) k) ∧ Below W0.heap.size W0 w') := fun W0 W hW =>
          (l03Sign_any (nsd i) (tx g) k W (by rw [nsd_size]; decide) (by have := tx_small h; omega) (by omega)).mono fun e w' ⟨va, vb, vc, h1, s2, h2⟩ => by
            obtain ⟨a1, k1, e1, _⟩ := s2.oa.row
            obtain ⟨a2, k2, e2, _⟩ := s2.ob.row
            obtain ⟨a3, k3, e3, _⟩ := s2.oc.row
            rw [onesTo_length] at e1
            rw [restTo_length] at e2
            rw [pathN_length] at e3
            subst e1 e2 e3
            exact ⟨a1, k1, a2, k2, a3, k3, h1, s2.mono hW.size, hW.trans (h2.mono hW.size)⟩
        rw [h3] at HI2
        clear h h2 h3 HE0 HB HTX hb hx
        generalize onesTo (nsd i) k (dig (tx g)) 32 = la at HE HSG
        generalize restTo (nsd i) k (dig (tx g)) 32 = lb at HE HSG
        generalize pathN 3 (keysTo (nsd i) 8) k = lc at HE HSG
        generalize nsd i = sd at HSD HSG
        generalize tx g = tt at HTX2 HSG
        go_enter Tryd.func23, Tryd.ntmps23
        go_upto_region 1 with fail
        generalize ((w.alloc (.cells #[.string g.nm, .int .i64 g.hd, .int .i64 g.tk, .int .i64 g.ex] 24)).alloc (.cells #[.int .i64 0, .slice none 0 0, .slice none 0 0, .slice none 0 0] 44)) = wb at HX ⊢
        obtain ⟨⟨c0, c1, c2, c3⟩, _, g0, _⟩ := HX.out wb (Below.refl _ _)
        go_upto_region 5 with (first | (go_at_call 40; (first | (with_reducible refine (HI1 _).mono ?_) | (with_reducible refine (HI2 _).mono ?_)); rintro e w2 ⟨rfl, rfl⟩) | (go_at_call 31; refine (HO.out _).mono ?_; rintro e w1 ⟨rfl, b1⟩))
        have B1 : Hid (Below wb.heap.size wb w1) := b1
        clear b1 c0 c1 c2 c3 g0
        obtain ⟨⟨c0, c1, c2, c3⟩, _, _, _⟩ := HX.out w1 B1.out
        have G0 : Hid (Below w1.heap.size w1 w1.drew) := (Below.refl _ _).drew
        have HX1 : Hid (∀ W, Below w1.heap.size w1 W → W.cell? ⟨w.heap.size, 0, none⟩ = some (.string g.nm) ∧ W.cell? ⟨w.heap.size, 1, none⟩ = some (.int .i64 g.hd) ∧ W.cell? ⟨w.heap.size, 2, none⟩ = some (.int .i64 g.tk) ∧ W.cell? ⟨w.heap.size, 3, none⟩ = some (.int .i64 g.ex)) := fun W hW => (HX.out W (B1.out.trans (hW.mono B1.out.size))).1
        have HX2 : Hid (∀ W, Below w1.heap.size w1 W → W.heap[w.heap.size + 1]? = some (.cells #[.int .i64 0, .slice none 0 0, .slice none 0 0, .slice none 0 0] 44 (0, 0)) ∧ Below w.heap.size w W ∧ w.heap.size + 1 + 1 ≤ w1.heap.size) := fun W hW => ⟨(HX.out W (B1.out.trans (hW.mono B1.out.size))).2.1, (HX.out W (B1.out.trans (hW.mono B1.out.size))).2.2.1, (HX.out w1 B1.out).2.2.2⟩
        clear c0 c1 c2 c3
        obtain ⟨c0, c1, c2, c3⟩ := HX1.out _ G0.out
        clear HX
        go_region_law (first
          | (go_simp; go_at_call 41; with_reducible refine (HSD.out w1 _ (by first | exact g3 | exact G0.out)).mono ?_; rintro e w3 ⟨rfl, g3⟩; obtain ⟨c0, c1, c2, c3⟩ := HX1.out _ g3; try go_simp)
          | (go_simp; go_at_call 32; with_reducible refine (HTX2.out w1 _ (by first | exact g3 | exact G0.out)).mono ?_; rintro e w3 ⟨rfl, g3⟩; obtain ⟨c0, c1, c2, c3⟩ := HX1.out _ g3; try go_simp)
          | (go_simp; go_at_call 47; with_reducible refine (HSG.out w1 _ g3).mono ?_; rintro e w4 ⟨a1, k1, a2, k2, a3, k3, rfl, s4, g4⟩; have AX := HX2.out _ g4; obtain ⟨zc0, zf0⟩ := blk_cell AX.1 0 (x := .int .i64 0) rfl; obtain ⟨zc1, zf1⟩ := blk_cell AX.1 1 (x := .slice none 0 0) rfl; obtain ⟨zc2, zf2⟩ := blk_cell AX.1 2 (x := .slice none 0 0) rfl; obtain ⟨zc3, zf3⟩ := blk_cell AX.1 3 (x := .slice none 0 0) rfl; try go_simp))
        all_goals
          have SX : Hid (SigV w4 (w.heap.size + 1 + 1) (.slice a1 32 k1) (.slice a2 32 k2) (.slice a3 3 k3) la lb lc) := s4.mono AX.2.2
          have AX0 := AX.1
          have GX0 := AX.2.1
          clear AX s4
          have AX : Hid (w4.heap[w.heap.size + 1]? = some (.cells #[.int .i64 0, .slice none 0 0, .slice none 0 0, .slice none 0 0] 44 (0, 0))) := AX0
          have GX : Hid (Below w.heap.size w w4) := GX0
          clear AX0 GX0 zc0 zc1 zc2 zc3 zf0 zf1 zf2 zf3
          obtain ⟨zc0, zf0⟩ := blk_cell AX.out 0 (x := .int .i64 0) rfl
          obtain ⟨zc1, zf1⟩ := blk_cell AX.out 1 (x := .slice none 0 0) rfl
          obtain ⟨zc2, zf2⟩ := blk_cell AX.out 2 (x := .slice none 0 0) rfl
          obtain ⟨zc3, zf3⟩ := blk_cell AX.out 3 (x := .slice none 0 0) rfl
          have AF : ((((w4.setCell ⟨w.heap.size + 1, 0, none⟩ (.int .i64 (k : Int))).setCell ⟨w.heap.size + 1, 1, none⟩ (.slice a1 32 k1)).setCell ⟨w.heap.size + 1, 2, none⟩ (.slice a2 32 k2)).setCell ⟨w.heap.size + 1, 3, none⟩ (.slice a3 3 k3)).heap[w.heap.size + 1]? = some (.cells #[.int .i64 (k : Int), .slice a1 32 k1, .slice a2 32 k2, .slice a3 3 k3] 44 (0, 0)) := (blk_set (blk_set (blk_set (blk_set AX.out 0 (.int .i64 (k : Int))) 1 (.slice a1 32 k1)) 2 (.slice a2 32 k2)) 3 (.slice a3 3 k3))
          have GF : Below w.heap.size w ((((w4.setCell ⟨w.heap.size + 1, 0, none⟩ (.int .i64 (k : Int))).setCell ⟨w.heap.size + 1, 1, none⟩ (.slice a1 32 k1)).setCell ⟨w.heap.size + 1, 2, none⟩ (.slice a2 32 k2)).setCell ⟨w.heap.size + 1, 3, none⟩ (.slice a3 3 k3)) := (Below.setCell (Below.setCell (Below.setCell (Below.setCell GX.out (p := ⟨w.heap.size + 1, 0, none⟩) (Nat.le_succ _) (.int .i64 (k : Int))) (p := ⟨w.heap.size + 1, 1, none⟩) (Nat.le_succ _) (.slice a1 32 k1)) (p := ⟨w.heap.size + 1, 2, none⟩) (Nat.le_succ _) (.slice a2 32 k2)) (p := ⟨w.heap.size + 1, 3, none⟩) (Nat.le_succ _) (.slice a3 3 k3))
          have SF := (SigV.set (j := 3) (x := .slice a3 3 k3) (SigV.set (j := 2) (x := .slice a2 32 k2) (SigV.set (j := 1) (x := .slice a1 32 k1) (SigV.set (j := 0) (x := .int .i64 (k : Int)) SX.out (Nat.lt_succ_self _)) (Nat.lt_succ_self _)) (Nat.lt_succ_self _)) (Nat.lt_succ_self _))
          go_wp2_with fail
          generalize ((((w4.setCell ⟨w.heap.size + 1, 0, none⟩ (.int .i64 (k : Int))).setCell ⟨w.heap.size + 1, 1, none⟩ (.slice a1 32 k1)).setCell ⟨w.heap.size + 1, 2, none⟩ (.slice a2 32 k2)).setCell ⟨w.heap.size + 1, 3, none⟩ (.slice a3 3 k3)) = wf at AF GF SF ⊢
          have d0 := (blk_cell AF 0 (x := .int .i64 (k : Int)) rfl).1
          have d1 := (blk_cell AF 1 (x := .slice a1 32 k1) rfl).1
          have d2 := (blk_cell AF 2 (x := .slice a2 32 k2) rfl).1
          have d3 := (blk_cell AF 3 (x := .slice a3 3 k3) rfl).1
          refine bodyPost_ret (v := .tuple #[.agg #[.int .i64 (k : Int), .slice a1 32 k1, .slice a2 32 k2, .slice a3 3 k3], .int .i64 0]) (by simp [results, Tryd.results23, go_sem, d0, d1, d2, d3]) rfl ⟨_, _, _, by rw [HE.out.1, HE.out.2.1], by rw [HE.out.2.2.1, HE.out.2.2.2.1, HE.out.2.2.2.2]; exact SF.mono (by omega), GF⟩
end Go.Proofs.YtimmeclclilpdaaDoor.Gh
