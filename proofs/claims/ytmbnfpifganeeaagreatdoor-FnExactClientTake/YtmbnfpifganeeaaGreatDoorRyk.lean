/- Replies that are counted: the specification. -/
import Derived.Test.YtmbnfpifganeeaaGreatDoorRyj
import Derived.BigQuiet
import Derived.Deep.CutRange
import Derived.Deep.LoopGhost
import Derived.WalkMore
namespace Go.Proofs.YtmbnfpifganeeaaGreatDoor.Rk
open Go.Proofs.YtmbnfpifganeeaaGreatDoor.Rys (l11OK_any)
open Go.Proofs.YtmbnfpifganeeaaGreatDoor.Rin
open Go.Proofs.YtmbnfpifganeeaaGreatDoor.Is (OwnI info3)
open Go.RowKit Go.Proofs.YtmbnfpifganeeaaGreatDoor.Sl Go.Proofs.YtmbnfpifganeeaaGreatDoor.Rg
open Go.Proofs.YtmbnfpifganeeaaGreatDoor.Gy (Re)
open Go.Proofs.YtmbnfpifganeeaaGreatDoor.Tm (fCode fOut f_cases implFaultsOf_any)
open Go.Proofs.YtmbnfpifganeeaaGreatDoor.Ry (lokB rokB implReplyOK_any)
open Go.Proofs.YtmbnfpifganeeaaGreatDoor.Sh (KTab KTab.below)

/-- Why a reply joins those that gave the answer, or does not. -/
theorem nds_no {g : Re → Bool} {a : An} {L : List Re} {k : Nat} {x : Re} (h : L[k]? = some x) (hg : (g x && (an x == a) && !((nds g a L k).contains x.nd)) = false) : nds g a L (k + 1) = nds g a L k := by
  conv => lhs; unfold nds
  rw [h]
  simp only [hg, Bool.false_eq_true, if_false]
theorem nds_yes {g : Re → Bool} {a : An} {L : List Re} {k : Nat} {x : Re} (h : L[k]? = some x) (hg : (g x && (an x == a) && !((nds g a L k).contains x.nd)) = true) : nds g a L (k + 1) = nds g a L k ++ [x.nd] := by
  conv => lhs; unfold nds
  rw [h]
  simp only [hg, if_true]
theorem eqlR (x y : Re) (W : World) : (binOp .eql 42 (.agg #[.int .i64 x.kd, .int .i64 x.tk, .int .i64 x.hd, .int .i64 x.ex]) (.agg #[.int .i64 y.kd, .int .i64 y.tk, .int .i64 y.hd, .int .i64 y.ex])).run Tryz.prog W = .ok (.bool (decide (an x = an y))) W := eqlA (an x) (an y) W
set_option maxRecDepth 100000 in
set_option maxHeartbeats 6400000 in
theorem l11Count_any (n c s : Int) (v : Value) (L : List Re) (w : World) (h : Gy.Row w v L) (hl : L.length ≤ 60) (hn : fCode n = 0) :
    Calls Tryz.prog 39 #[.int .i64 n, .int .i64 c, .int .i64 s, v] w fun e w' => e = .returned (.tuple #[anV (foA (ccR n c s L)), .bool (ccR n c s L).isSome]) ∧ Below w.heap.size w w' := by
  have HX : Hid (∀ W, Below (w.alloc (.cells #[.int .i64 0, .int .i64 0, .int .i64 0, .int .i64 0] 42)).heap.size (w.alloc (.cells #[.int .i64 0, .int .i64 0, .int .i64 0, .int .i64 0] 42)) W → W.heap[w.heap.size]? = some (.cells #[.int .i64 0, .int .i64 0, .int .i64 0, .int .i64 0] 42 (0, 0)) ∧ Gy.Row W v L ∧ Below w.heap.size w W) := fun W hW => by
    have h1 := (hW.block w.heap.size (by simp)).trans (heap_alloc_new w _)
    have b := (bel_new w (.cells #[.int .i64 0, .int .i64 0, .int .i64 0, .int .i64 0] 42)).trans (hW.mono (by simp))
    exact ⟨h1, h.below b, b⟩
  obtain ⟨i0, hi0, hz0, hz1, hz2⟩ := info_parts info3
  obtain ⟨f, HF⟩ : ∃ f : Nat, Hid (f = (fOut n).toNat ∧ ((n = 1 ∧ f = 0) ∨ (n = 4 ∧ f = 1) ∨ (n = 7 ∧ f = 2))) := by
    rcases f_three hn with ⟨h1, h2⟩ | ⟨h1, h2⟩ | ⟨h1, h2⟩
    · exact ⟨0, by rw [h2]; rfl, .inl ⟨h1, rfl⟩⟩
    · exact ⟨1, by rw [h2]; rfl, .inr (.inl ⟨h1, rfl⟩)⟩
    · exact ⟨2, by rw [h2]; rfl, .inr (.inr ⟨h1, rfl⟩)⟩
  have HRR : Hid (ccR n c s L = cs f (gB n c s) L L.length) := by show _ = _; unfold ccR; rw [HF.out.1]
  obtain ⟨a, cap, rfl⟩ := RowG.slice h
  have hgA := guardA
  clear h hn
  go_enter Tryz.func39, Tryz.ntmps39
  go_upto_region 1 with fail
  generalize w.alloc (.cells #[.int .i64 0, .int .i64 0, .int .i64 0, .int .i64 0] 42) = wb at HX ⊢
  go_wp2_with fail
  go_loopw [10] (fun i wr => ∃ k : Nat, k ≤ L.length ∧ i = .int .i64 k ∧ Hid (cs f (gB n c s) L k = none ∧ Below wb.heap.size wb wr)) (fun i _ => L.length - (intOf i).toNat)
  case atStart => exact ⟨0, by omega, rfl, ⟨rfl, Below.refl _ _⟩⟩
  case round =>
    obtain ⟨k, hk, rfl, HB⟩ := hrel
    by_cases hlt : k < L.length
    · obtain ⟨y, hy⟩ := Rg.get_at hlt
      obtain ⟨_, hrow, _⟩ := HX.out _ HB.out.2
      obtain ⟨lb, loff, rfl, hlb, t0, t1, t2, t3, t4, t5, t6, t7⟩ := RowG.at hrow rfl hy
      have HLK : Hid (L[k]? = some y) := hy
      clear t0 t1 t2 t3 t4 t5 t6 t7 hrow hy
      have HY : Hid (∀ W, Below wb.heap.size wb W → Gy.Row W (.slice (some ⟨lb, loff, none⟩) L.length cap) L ∧ (W.cell? ⟨lb, loff + k * 8 + 3, none⟩ = some (.int .i64 y.kd) ∧ W.cell? ⟨lb, loff + k * 8 + 4, none⟩ = some (.int .i64 y.tk) ∧ W.cell? ⟨lb, loff + k * 8 + 5, none⟩ = some (.int .i64 y.hd) ∧ W.cell? ⟨lb, loff + k * 8 + 6, none⟩ = some (.int .i64 y.ex)) ∧ Below w.heap.size w W) := fun W hW => by
        obtain ⟨_, h2, h3⟩ := HX.out W hW
        obtain ⟨lb', loff', e, _, t0, t1, t2, t3, t4, t5, t6, t7⟩ := RowG.at h2 rfl HLK.out
        cases e
        exact ⟨h2, ⟨t3, t4, t5, t6⟩, h3⟩
      obtain ⟨BB, HBB⟩ : ∃ BB, Hid (wb.heap.size = BB) := ⟨_, rfl⟩
      have O0 : Hid (OwnI (wr.alloc (.cells #[] 3)) BB (.slice (some ⟨wr.heap.size, 0, none⟩) 0 0) [] ∧ Below wb.heap.size wb (wr.alloc (.cells #[] 3))) := ⟨own_made wr BB (by rw [← HBB.out]; exact HB.out.2.size), HB.out.2.trans ((bel_new wr _).mono HB.out.2.size)⟩
      go_upto_region 5 with fail
      generalize wr.alloc (.cells #[] 3) = w0 at O0 ⊢
      generalize wr.heap.size = z0 at O0 ⊢
      have HCS : Hid (cs f (gB n c s) L k = none) := HB.out.1
      clear HB
      have hkL : (k : Int) < (L.length : Int) := by omega
      go_wp2_with fail
      go_loopw [11, 12] (fun fr i wr => ∃ m : Nat, m ≤ k + 1 ∧ i = .int .i64 m ∧ Hid (OwnI wr BB fr (nds (gB n c s) (an y) L m) ∧ Below wb.heap.size wb wr)) (fun _ i _ => k + 1 - (intOf i).toNat)
      case atStart => exact ⟨0, by omega, rfl, ⟨by simpa [nds] using O0.out.1, O0.out.2⟩⟩
      case round =>
        rename World => w5
        clear O0
        obtain ⟨m, hm, rfl, HM⟩ := hrel
        obtain ⟨v0, rfl⟩ : ∃ v0, v0 = u11 := ⟨_, rfl⟩
        by_cases hmk : m ≤ k
        · have hmkI : (m : Int) ≤ (k : Int) := by omega
          have hmL : (m : Int) < (L.length : Int) := by omega
          obtain ⟨x, hx⟩ := Rg.get_at (xs := L) (k := m) (by omega)
          obtain ⟨b', off', he, hb', c0, c1, c2, c3, c4, c5, c6, c7⟩ := RowG.at (HY.out _ HM.out.2).1 rfl hx
          cases he
          have HLM : Hid (L[m]? = some x) := hx
          have HBX : Hid (∀ W, Below (w5.alloc (.cells #[.int .i64 x.nd, .int .i64 x.cl, .int .i64 x.st, .int .i64 x.kd, .int .i64 x.tk, .int .i64 x.hd, .int .i64 x.ex, .string x.mc] 44)).heap.size (w5.alloc (.cells #[.int .i64 x.nd, .int .i64 x.cl, .int .i64 x.st, .int .i64 x.kd, .int .i64 x.tk, .int .i64 x.hd, .int .i64 x.ex, .string x.mc] 44)) W → (W.cell? ⟨w5.heap.size, 0, none⟩ = some (.int .i64 x.nd) ∧ W.cell? ⟨w5.heap.size, 1, none⟩ = some (.int .i64 x.cl) ∧ W.cell? ⟨w5.heap.size, 2, none⟩ = some (.int .i64 x.st) ∧ W.cell? ⟨w5.heap.size, 3, none⟩ = some (.int .i64 x.kd) ∧ W.cell? ⟨w5.heap.size, 4, none⟩ = some (.int .i64 x.tk) ∧ W.cell? ⟨w5.heap.size, 5, none⟩ = some (.int .i64 x.hd) ∧ W.cell? ⟨w5.heap.size, 6, none⟩ = some (.int .i64 x.ex) ∧ W.cell? ⟨w5.heap.size, 7, none⟩ = some (.string x.mc)) ∧ (W.cell? ⟨lb, loff + k * 8 + 3, none⟩ = some (.int .i64 y.kd) ∧ W.cell? ⟨lb, loff + k * 8 + 4, none⟩ = some (.int .i64 y.tk) ∧ W.cell? ⟨lb, loff + k * 8 + 5, none⟩ = some (.int .i64 y.hd) ∧ W.cell? ⟨lb, loff + k * 8 + 6, none⟩ = some (.int .i64 y.ex)) ∧ OwnI W BB v0 (nds (gB n c s) (an y) L m) ∧ Below wb.heap.size wb W) := fun W hW => by
            have h1 := (hW.block w5.heap.size (by simp)).trans (heap_alloc_new w5 _)
            have b0 := (bel_new w5 (.cells #[.int .i64 x.nd, .int .i64 x.cl, .int .i64 x.st, .int .i64 x.kd, .int .i64 x.tk, .int .i64 x.hd, .int .i64 x.ex, .string x.mc] 44)).trans (hW.mono (by simp))
            have b1 := HM.out.2.trans (b0.mono HM.out.2.size)
            exact ⟨⟨(blk_cell h1 0 rfl).1, (blk_cell h1 1 rfl).1, (blk_cell h1 2 rfl).1, (blk_cell h1 3 rfl).1, (blk_cell h1 4 rfl).1, (blk_cell h1 5 rfl).1, (blk_cell h1 6 rfl).1, (blk_cell h1 7 rfl).1⟩, (HY.out _ b1).2.1, own_below HM.out.1 b0, b1⟩
          have HNL : Hid ((nds (gB n c s) (an y) L m).length ≤ 1000) := by show _ ≤ _; have := nds_len (g := gB n c s) (a := an y) (L := L) m; omega
          clear hx HM
          go_upto_region 9 with fail
          generalize w5.alloc (.cells #[.int .i64 x.nd, .int .i64 x.cl, .int .i64 x.st, .int .i64 x.kd, .int .i64 x.tk, .int .i64 x.hd, .int .i64 x.ex, .string x.mc] 44) = wx at HBX ⊢
          generalize w5.heap.size = bv at HBX ⊢
          clear c0 c1 c2 c3 c4 c5 c6 c7
          obtain ⟨X, hX, W, QI0, QO0⟩ := Qc.klass wx
          have QI : Hid (∀ w', Below wx.heap.size wx w' → ∃ x, w' = W x) := QI0
          have QO : Hid (∀ x, Below wx.heap.size wx (W x)) := QO0
          clear QI0 QO0
          have HOK : Hid (∀ q, Calls Tryz.prog 38 #[.int .i64 n, .agg #[.int .i64 x.nd, .int .i64 x.cl, .int .i64 x.st, .int .i64 x.kd, .int .i64 x.tk, .int .i64 x.hd, .int .i64 x.ex, .string x.mc]] (W q) fun e w' => e = .returned (.bool (lokB n x)) ∧ Below (W q).heap.size (W q) w') := fun q => l11OK_any n x (W q)
          have HHA : Hid (∀ q, Calls Tryz.prog 51 #[v0, .int .i64 x.nd] (W q) fun e w' => e = .returned (.bool ((nds (gB n c s) (an y) L m).contains x.nd)) ∧ Below (W q).heap.size (W q) w') := fun q => (l08Has_any v0 _ x.nd (W q) (RowJ.of_own (HBX.out _ (QO.out q)).2.2.1) (by have := HNL.out; omega)).mono fun e w' ⟨h1, h2⟩ => ⟨h1, h2 ▸ Below.refl _ _⟩
          have y0 := fun q => (HBX.out _ (QO.out q)).1.1
          have y1 := fun q => (HBX.out _ (QO.out q)).1.2.1
          have y2 := fun q => (HBX.out _ (QO.out q)).1.2.2.1
          have y3 := fun q => (HBX.out _ (QO.out q)).1.2.2.2.1
          have y4 := fun q => (HBX.out _ (QO.out q)).1.2.2.2.2.1
          have y5 := fun q => (HBX.out _ (QO.out q)).1.2.2.2.2.2.1
          have y6 := fun q => (HBX.out _ (QO.out q)).1.2.2.2.2.2.2.1
          have y7 := fun q => (HBX.out _ (QO.out q)).1.2.2.2.2.2.2.2
          have x0 := fun q => (HBX.out _ (QO.out q)).2.1.1
          have x1 := fun q => (HBX.out _ (QO.out q)).2.1.2.1
          have x2 := fun q => (HBX.out _ (QO.out q)).2.1.2.2.1
          have x3 := fun q => (HBX.out _ (QO.out q)).2.1.2.2.2
          have hqq := eqlR x y
          have hkk0 : (0 : Int) ≤ (k : Int) := by omega
          cases g1 : lokB n x with
          | false =>
            have HE : Hid (nds (gB n c s) (an y) L (m + 1) = nds (gB n c s) (an y) L m) := nds_no HLM.out (by unfold gB; rw [g1]; rfl)
            rw [g1] at HOK
            clear g1
            refine Qc.region_class (W := W) (by kernel_rfl) (by kernel_rfl) (QI.out _ Qc.from_drew) ?_
            repeat (go_big_quiet_step (first | (go_at_call 38; refine (HOK.out _).mono ?_; rintro e w2 ⟨rfl, b2⟩; exact ⟨rfl, Qc.back QI.out QO.out b2⟩) | (go_at_call 51; refine (HHA.out _).mono ?_; rintro e w2 ⟨rfl, b2⟩; exact ⟨rfl, Qc.back QI.out QO.out b2⟩)))
            refine wpQuiet_nil ?_
            rintro _ ⟨xq, rfl⟩
            have GQ : Hid (OwnI (W xq) BB v0 (nds (gB n c s) (an y) L m) ∧ Below wb.heap.size wb (W xq)) := (HBX.out _ (QO.out xq)).2.2
            clear y0 y1 y2 y3 y4 y5 y6 y7 x0 x1 x2 x3 hqq HOK HHA
            generalize W xq = wq at GQ ⊢
            go_wp2_with fail
            exact ⟨⟨m + 1, by omega, by go_num, ⟨by rw [HE.out]; exact GQ.out.1, GQ.out.2⟩⟩, by simp [intOf]; omega⟩
          | true =>
            rw [g1] at HOK
            by_cases g2 : x.cl = c
            · have g2' : (x.cl == c) = true := by simpa using g2
              by_cases g3 : x.st = s
              · have g3' : (x.st == s) = true := by simpa using g3
                have HGG : Hid (gB n c s x = true) := by show _ = _; unfold gB; rw [g1, decide_eq_true g2, decide_eq_true g3]; rfl
                clear g1 g2 g3
                by_cases g4 : an x = an y
                · have g4' : (an x == an y) = true := by simpa using g4
                  rw [decide_eq_true g4] at hqq
                  clear g4
                  cases g5 : (nds (gB n c s) (an y) L m).contains x.nd with
                  | true =>
                    have HE : Hid (nds (gB n c s) (an y) L (m + 1) = nds (gB n c s) (an y) L m) := nds_no HLM.out (by rw [g5]; simp)
                    rw [g5] at HHA
                    clear g5 g4' HGG
                    refine Qc.region_class (W := W) (by kernel_rfl) (by kernel_rfl) (QI.out _ Qc.from_drew) ?_
                    repeat (go_big_quiet_step (first | (go_at_call 38; refine (HOK.out _).mono ?_; rintro e w2 ⟨rfl, b2⟩; exact ⟨rfl, Qc.back QI.out QO.out b2⟩) | (go_at_call 51; refine (HHA.out _).mono ?_; rintro e w2 ⟨rfl, b2⟩; exact ⟨rfl, Qc.back QI.out QO.out b2⟩)))
                    refine wpQuiet_nil ?_
                    rintro _ ⟨xq, rfl⟩
                    have GQ : Hid (OwnI (W xq) BB v0 (nds (gB n c s) (an y) L m) ∧ Below wb.heap.size wb (W xq)) := (HBX.out _ (QO.out xq)).2.2
                    clear y0 y1 y2 y3 y4 y5 y6 y7 x0 x1 x2 x3 hqq HOK HHA
                    generalize W xq = wq at GQ ⊢
                    go_wp2_with fail
                    exact ⟨⟨m + 1, by omega, by go_num, ⟨by rw [HE.out]; exact GQ.out.1, GQ.out.2⟩⟩, by simp [intOf]; omega⟩
                  | false =>
                    have HE : Hid (nds (gB n c s) (an y) L (m + 1) = nds (gB n c s) (an y) L m ++ [x.nd]) := nds_yes HLM.out (by rw [g5, HGG.out, g4']; rfl)
                    rw [g5] at HHA
                    clear g5 g4' HGG
                    refine Qc.region_class (W := W) (by kernel_rfl) (by kernel_rfl) (QI.out _ Qc.from_drew) ?_
                    repeat (go_big_quiet_step (first | (go_at_call 38; refine (HOK.out _).mono ?_; rintro e w2 ⟨rfl, b2⟩; exact ⟨rfl, Qc.back QI.out QO.out b2⟩) | (go_at_call 51; refine (HHA.out _).mono ?_; rintro e w2 ⟨rfl, b2⟩; exact ⟨rfl, Qc.back QI.out QO.out b2⟩)))
                    refine wpQuiet_nil ?_
                    rintro _ ⟨xq, rfl⟩
                    have GQ : Hid (OwnI (W xq) BB v0 (nds (gB n c s) (an y) L m) ∧ Below BB wb (W xq) ∧ BB ≤ (W xq).heap.size) := by
                      have := (HBX.out _ (QO.out xq)).2.2
                      exact ⟨this.1, by rw [← HBB.out]; exact this.2, by rw [← HBB.out]; exact this.2.size⟩
                    have p0 := y0 xq
                    clear y0 y1 y2 y3 y4 y5 y6 y7 x0 x1 x2 x3 hqq HOK HHA
                    generalize W xq = wq at GQ p0 ⊢
                    go_wp2_with (at_builtin; go_must (refine list_i (by rfl) _ _ 88 (by rfl) i0 Tryz.underlying88 hi0 hz0 hz1 hz2 BB wb _ _ _ _ (by rfl) GQ.out.1 GQ.out.2.1 GQ.out.2.2 (by rfl) (by have := HNL.out; omega) ?_; intro v3 w3 o3 g3))
                    rw [← HBB.out] at g3
                    exact ⟨⟨m + 1, by omega, by go_num, ⟨by rw [HE.out]; exact o3, g3⟩⟩, by simp [intOf]; omega⟩
                · have HE : Hid (nds (gB n c s) (an y) L (m + 1) = nds (gB n c s) (an y) L m) := nds_no HLM.out (by have : (an x == an y) = false := (by simpa using g4); rw [this]; simp)
                  rw [decide_eq_false g4] at hqq
                  clear g4 HGG
                  refine Qc.region_class (W := W) (by kernel_rfl) (by kernel_rfl) (QI.out _ Qc.from_drew) ?_
                  repeat (go_big_quiet_step (first | (go_at_call 38; refine (HOK.out _).mono ?_; rintro e w2 ⟨rfl, b2⟩; exact ⟨rfl, Qc.back QI.out QO.out b2⟩) | (go_at_call 51; refine (HHA.out _).mono ?_; rintro e w2 ⟨rfl, b2⟩; exact ⟨rfl, Qc.back QI.out QO.out b2⟩)))
                  refine wpQuiet_nil ?_
                  rintro _ ⟨xq, rfl⟩
                  have GQ : Hid (OwnI (W xq) BB v0 (nds (gB n c s) (an y) L m) ∧ Below wb.heap.size wb (W xq)) := (HBX.out _ (QO.out xq)).2.2
                  clear y0 y1 y2 y3 y4 y5 y6 y7 x0 x1 x2 x3 hqq HOK HHA
                  generalize W xq = wq at GQ ⊢
                  go_wp2_with fail
                  exact ⟨⟨m + 1, by omega, by go_num, ⟨by rw [HE.out]; exact GQ.out.1, GQ.out.2⟩⟩, by simp [intOf]; omega⟩
              · have HE : Hid (nds (gB n c s) (an y) L (m + 1) = nds (gB n c s) (an y) L m) := nds_no HLM.out (by rw [g_st g3]; rfl)
                have g3' : (x.st == s) = false := by simpa using g3
                clear g1 g2 g3
                refine Qc.region_class (W := W) (by kernel_rfl) (by kernel_rfl) (QI.out _ Qc.from_drew) ?_
                repeat (go_big_quiet_step (first | (go_at_call 38; refine (HOK.out _).mono ?_; rintro e w2 ⟨rfl, b2⟩; exact ⟨rfl, Qc.back QI.out QO.out b2⟩) | (go_at_call 51; refine (HHA.out _).mono ?_; rintro e w2 ⟨rfl, b2⟩; exact ⟨rfl, Qc.back QI.out QO.out b2⟩)))
                refine wpQuiet_nil ?_
                rintro _ ⟨xq, rfl⟩
                have GQ : Hid (OwnI (W xq) BB v0 (nds (gB n c s) (an y) L m) ∧ Below wb.heap.size wb (W xq)) := (HBX.out _ (QO.out xq)).2.2
                clear y0 y1 y2 y3 y4 y5 y6 y7 x0 x1 x2 x3 hqq HOK HHA
                generalize W xq = wq at GQ ⊢
                go_wp2_with fail
                exact ⟨⟨m + 1, by omega, by go_num, ⟨by rw [HE.out]; exact GQ.out.1, GQ.out.2⟩⟩, by simp [intOf]; omega⟩
            · have HE : Hid (nds (gB n c s) (an y) L (m + 1) = nds (gB n c s) (an y) L m) := nds_no HLM.out (by rw [g_cl g2]; rfl)
              have g2' : (x.cl == c) = false := by simpa using g2
              clear g1 g2
              refine Qc.region_class (W := W) (by kernel_rfl) (by kernel_rfl) (QI.out _ Qc.from_drew) ?_
              repeat (go_big_quiet_step (first | (go_at_call 38; refine (HOK.out _).mono ?_; rintro e w2 ⟨rfl, b2⟩; exact ⟨rfl, Qc.back QI.out QO.out b2⟩) | (go_at_call 51; refine (HHA.out _).mono ?_; rintro e w2 ⟨rfl, b2⟩; exact ⟨rfl, Qc.back QI.out QO.out b2⟩)))
              refine wpQuiet_nil ?_
              rintro _ ⟨xq, rfl⟩
              have GQ : Hid (OwnI (W xq) BB v0 (nds (gB n c s) (an y) L m) ∧ Below wb.heap.size wb (W xq)) := (HBX.out _ (QO.out xq)).2.2
              clear y0 y1 y2 y3 y4 y5 y6 y7 x0 x1 x2 x3 hqq HOK HHA
              generalize W xq = wq at GQ ⊢
              go_wp2_with fail
              exact ⟨⟨m + 1, by omega, by go_num, ⟨by rw [HE.out]; exact GQ.out.1, GQ.out.2⟩⟩, by simp [intOf]; omega⟩
        · obtain rfl : m = k + 1 := by omega
          have hmkI : ¬ ((k : Int) + 1) ≤ (k : Int) := by omega
          have hmkI2 : ¬ ((k + 1 : Nat) : Int) ≤ (k : Int) := by omega
          obtain ⟨va, vcp, hva, _⟩ := RowJ.of_own HM.out.1
          have HN : Hid (∀ p, p = (nds (gB n c s) (an y) L (k + 1)).length → (cs f (gB n c s) L (k + 1) = if f < p then some (an y) else none)) := fun p hp => by rw [hp]; conv => lhs; unfold cs; rw [HCS.out, HLK.out]
          have hnl := nds_len (g := gB n c s) (a := an y) (L := L) (k + 1)
          have GQ : Hid (Below wb.heap.size wb w5) := HM.out.2
          obtain ⟨pl, HPL⟩ : ∃ pl, Hid (pl = (nds (gB n c s) (an y) L (k + 1)).length) := ⟨_, rfl⟩
          rw [← HPL.out] at hva hnl
          subst hva
          have HFP := HN.out pl HPL.out
          clear HM HN
          by_cases hfp : f < pl
          · have HR : Hid (ccR n c s L = some (an y)) := by show _ = _; rw [HRR.out]; exact cs_stop (by rw [HFP, if_pos hfp]) (by omega)
            clear HFP
            obtain ⟨_, ⟨p3, p4, p5, p6⟩, _⟩ := HY.out _ GQ.out
            have A3 : Hid (w5.heap[w.heap.size]? = some (.cells #[.int .i64 0, .int .i64 0, .int .i64 0, .int .i64 0] 42 (0, 0))) := (HX.out _ GQ.out).1
            have G3 : Hid (Below w.heap.size w w5) := (HX.out _ GQ.out).2.2
            have hfI : (f : Int) < (pl : Int) := by omega
            rcases HF.out.2 with ⟨rfl, rfl⟩ | ⟨rfl, rfl⟩ | ⟨rfl, rfl⟩
            all_goals
              obtain ⟨m0, n0⟩ := blk_cell A3.out 0 (x := .int .i64 0) rfl
              obtain ⟨m1, n1⟩ := blk_cell A3.out 1 (x := .int .i64 0) rfl
              obtain ⟨m2, n2⟩ := blk_cell A3.out 2 (x := .int .i64 0) rfl
              obtain ⟨m3, n3⟩ := blk_cell A3.out 3 (x := .int .i64 0) rfl
              have AF : ((((w5.setCell ⟨w.heap.size, 0, none⟩ (.int .i64 y.kd)).setCell ⟨w.heap.size, 1, none⟩ (.int .i64 y.tk)).setCell ⟨w.heap.size, 2, none⟩ (.int .i64 y.hd)).setCell ⟨w.heap.size, 3, none⟩ (.int .i64 y.ex)).heap[w.heap.size]? = some (.cells #[.int .i64 y.kd, .int .i64 y.tk, .int .i64 y.hd, .int .i64 y.ex] 42 (0, 0)) := (blk_set (blk_set (blk_set (blk_set A3.out _ _) _ _) _ _) _ _)
              have GF : Below w.heap.size w ((((w5.setCell ⟨w.heap.size, 0, none⟩ (.int .i64 y.kd)).setCell ⟨w.heap.size, 1, none⟩ (.int .i64 y.tk)).setCell ⟨w.heap.size, 2, none⟩ (.int .i64 y.hd)).setCell ⟨w.heap.size, 3, none⟩ (.int .i64 y.ex)) := (Below.setCell (Below.setCell (Below.setCell (Below.setCell G3.out (p := ⟨w.heap.size, 0, none⟩) (by first | omega | (simp; done) | (simp; omega)) (.int .i64 y.kd)) (p := ⟨w.heap.size, 1, none⟩) (by first | omega | (simp; done) | (simp; omega)) (.int .i64 y.tk)) (p := ⟨w.heap.size, 2, none⟩) (by first | omega | (simp; done) | (simp; omega)) (.int .i64 y.hd)) (p := ⟨w.heap.size, 3, none⟩) (by first | omega | (simp; done) | (simp; omega)) (.int .i64 y.ex))
              go_wp2_with fail
              generalize ((((w5.setCell ⟨w.heap.size, 0, none⟩ (.int .i64 y.kd)).setCell ⟨w.heap.size, 1, none⟩ (.int .i64 y.tk)).setCell ⟨w.heap.size, 2, none⟩ (.int .i64 y.hd)).setCell ⟨w.heap.size, 3, none⟩ (.int .i64 y.ex)) = wf at AF GF ⊢
              have d0 := (blk_cell AF 0 (x := .int .i64 y.kd) rfl).1
              have d1 := (blk_cell AF 1 (x := .int .i64 y.tk) rfl).1
              have d2 := (blk_cell AF 2 (x := .int .i64 y.hd) rfl).1
              have d3 := (blk_cell AF 3 (x := .int .i64 y.ex) rfl).1
              exact bodyPost_ret (v := .tuple #[.agg #[.int .i64 y.kd, .int .i64 y.tk, .int .i64 y.hd, .int .i64 y.ex], .bool true]) (by simp [results, Tryz.results39, go_sem, d0, d1, d2, d3]) rfl ⟨ret_ab (a := an y) ⟨by rw [HR.out]; rfl, by rw [HR.out]; rfl⟩, GF⟩
          · have HNX : Hid (cs f (gB n c s) L (k + 1) = none) := by show _ = _; rw [HFP, if_neg hfp]
            clear HFP
            have hfI : ¬ (f : Int) < (pl : Int) := by omega
            rcases HF.out.2 with ⟨rfl, rfl⟩ | ⟨rfl, rfl⟩ | ⟨rfl, rfl⟩
            all_goals
              go_wp2_with fail
              exact ⟨⟨k + 1, by omega, by go_num, ⟨HNX.out, GQ.out⟩⟩, by simp [intOf]; omega⟩
    · obtain rfl : k = L.length := by omega
      have HR : Hid (ccR n c s L = none) := by show _ = _; rw [HRR.out]; exact HB.out.1
      have A3 : Hid (wr.heap[w.heap.size]? = some (.cells #[.int .i64 0, .int .i64 0, .int .i64 0, .int .i64 0] 42 (0, 0))) := (HX.out _ HB.out.2).1
      have G3 : Hid (Below w.heap.size w wr) := (HX.out _ HB.out.2).2.2
      obtain ⟨m0, n0⟩ := blk_cell A3.out 0 (x := .int .i64 0) rfl
      obtain ⟨m1, n1⟩ := blk_cell A3.out 1 (x := .int .i64 0) rfl
      obtain ⟨m2, n2⟩ := blk_cell A3.out 2 (x := .int .i64 0) rfl
      obtain ⟨m3, n3⟩ := blk_cell A3.out 3 (x := .int .i64 0) rfl
      have AF : ((((wr.setCell ⟨w.heap.size, 0, none⟩ (.int .i64 0)).setCell ⟨w.heap.size, 1, none⟩ (.int .i64 0)).setCell ⟨w.heap.size, 2, none⟩ (.int .i64 0)).setCell ⟨w.heap.size, 3, none⟩ (.int .i64 0)).heap[w.heap.size]? = some (.cells #[.int .i64 0, .int .i64 0, .int .i64 0, .int .i64 0] 42 (0, 0)) := (blk_set (blk_set (blk_set (blk_set A3.out _ _) _ _) _ _) _ _)
      have GF : Below w.heap.size w ((((wr.setCell ⟨w.heap.size, 0, none⟩ (.int .i64 0)).setCell ⟨w.heap.size, 1, none⟩ (.int .i64 0)).setCell ⟨w.heap.size, 2, none⟩ (.int .i64 0)).setCell ⟨w.heap.size, 3, none⟩ (.int .i64 0)) := (Below.setCell (Below.setCell (Below.setCell (Below.setCell G3.out (p := ⟨w.heap.size, 0, none⟩) (by first | omega | (simp; done) | (simp; omega)) (.int .i64 0)) (p := ⟨w.heap.size, 1, none⟩) (by first | omega | (simp; done) | (simp; omega)) (.int .i64 0)) (p := ⟨w.heap.size, 2, none⟩) (by first | omega | (simp; done) | (simp; omega)) (.int .i64 0)) (p := ⟨w.heap.size, 3, none⟩) (by first | omega | (simp; done) | (simp; omega)) (.int .i64 0))
      go_wp2_with fail
      generalize ((((wr.setCell ⟨w.heap.size, 0, none⟩ (.int .i64 0)).setCell ⟨w.heap.size, 1, none⟩ (.int .i64 0)).setCell ⟨w.heap.size, 2, none⟩ (.int .i64 0)).setCell ⟨w.heap.size, 3, none⟩ (.int .i64 0)) = wf at AF GF ⊢
      have d0 := (blk_cell AF 0 (x := .int .i64 0) rfl).1
      have d1 := (blk_cell AF 1 (x := .int .i64 0) rfl).1
      have d2 := (blk_cell AF 2 (x := .int .i64 0) rfl).1
      have d3 := (blk_cell AF 3 (x := .int .i64 0) rfl).1
      exact bodyPost_ret (v := .tuple #[.agg #[.int .i64 0, .int .i64 0, .int .i64 0, .int .i64 0], .bool false]) (by simp [results, Tryz.results39, go_sem, d0, d1, d2, d3]) rfl ⟨ret_ab (a := (0, 0, 0, 0)) ⟨by rw [HR.out]; rfl, by rw [HR.out]; rfl⟩, GF⟩
end Go.Proofs.YtmbnfpifganeeaaGreatDoor.Rk
