/- Replies that are counted: firstSaidBy, answersTo, CountReplies of the program. -/
import Derived.Test.YtiflfcpoajijaaaDoorJFnClients4
import Derived.Test.YtiflfcpoajijaaaDoorJFnClients3
import Derived.BigQuiet
import Derived.Deep.CutRange
import Derived.Deep.LoopGhost
import Derived.WalkMore
namespace Go.Proofs.YtiflfcpoajijaaaDoor.Rk
open Go.RowKit Go.Proofs.YtiflfcpoajijaaaDoor.Sl Go.Proofs.YtiflfcpoajijaaaDoor.Rg
open Go.Proofs.YtiflfcpoajijaaaDoor.Gy (Re)
open Go.Proofs.YtiflfcpoajijaaaDoor.Tm (fCode fOut f_cases implFaultsOf_any)
open Go.Proofs.YtiflfcpoajijaaaDoor.Ry (lokB rokB implReplyOK_any)
open Go.Proofs.YtiflfcpoajijaaaDoor.Sh (KTab KTab.below)

/-- What is found, as the functions hand it over. -/
def foA (r : Option An) : An := r.getD (0, 0, 0, 0)
def anV (a : An) : Value := .agg #[.int .i64 a.1, .int .i64 a.2.1, .int .i64 a.2.2.1, .int .i64 a.2.2.2]
theorem ret_ab {a b : An} {p q : Bool} (h : a = b ∧ p = q) : Ending.returned (.tuple #[anV a, .bool p]) = .returned (.tuple #[anV b, .bool q]) := by rw [h.1, h.2]
theorem ret_ai {a b : An} {p q : Int} (h : a = b ∧ p = q) : Ending.returned (.tuple #[anV a, .int .i64 p]) = .returned (.tuple #[anV b, .int .i64 q]) := by rw [h.1, h.2]
set_option maxRecDepth 100000 in
set_option maxHeartbeats 3200000 in
theorem fsb_any (c : Nat) (c0 : Int) (hc : c0 = c) (v : Value) (V : List Vo) (w : World) (h : RowV w v V) (hl : V.length ≤ 4096) :
    Calls Tryd.prog 81 #[.int .i64 c0, v] w fun e w' => e = .returned (.tuple #[anV (foA (fs c V V.length)), .bool (fs c V V.length).isSome]) ∧ Below w.heap.size w w' := by
  have HX : Hid (∀ W, Below (w.alloc (.cells #[.int .i64 0, .int .i64 0, .int .i64 0, .int .i64 0] 35)).heap.size (w.alloc (.cells #[.int .i64 0, .int .i64 0, .int .i64 0, .int .i64 0] 35)) W → W.heap[w.heap.size]? = some (.cells #[.int .i64 0, .int .i64 0, .int .i64 0, .int .i64 0] 35 (0, 0)) ∧ RowV W v V ∧ Below w.heap.size w W) := fun W hW => by
    have h1 := (hW.block w.heap.size (by simp)).trans (heap_alloc_new w _)
    have b := (bel_new w (.cells #[.int .i64 0, .int .i64 0, .int .i64 0, .int .i64 0] 35)).trans (hW.mono (by simp))
    exact ⟨h1, h.below b, b⟩
  obtain ⟨va, vcp, rfl⟩ := RowG.slice h
  have HC : Hid (c0 = (c : Int)) := hc
  clear h hc
  go_enter Tryd.func81, Tryd.ntmps81
  go_upto_region 1 with fail
  generalize w.alloc (.cells #[.int .i64 0, .int .i64 0, .int .i64 0, .int .i64 0] 35) = wb at HX ⊢
  go_wp2_with fail
  go_loopw [11] (fun i wr => ∃ k : Nat, k ≤ V.length ∧ i = .int .i64 k ∧ Hid (fs c V k = none ∧ Below wb.heap.size wb wr)) (fun i _ => V.length - (intOf i).toNat)
  case atStart => exact ⟨0, by omega, rfl, ⟨rfl, Below.refl _ _⟩⟩
  case round =>
    obtain ⟨k, hk, rfl, HB⟩ := hrel
    by_cases hlt : k < V.length
    · have hltI : (k : Int) < (V.length : Int) := by omega
      obtain ⟨x, hx⟩ := Rg.get_at hlt
      obtain ⟨_, HRV, _⟩ := HX.out _ HB.out.2
      obtain ⟨_, _, hre, hr⟩ := id HRV
      cases hre
      rcases hr with hr | ⟨vb, voff, rfl, hcap, hvb, hcell⟩
      · rw [hr] at hlt; simp at hlt
      obtain ⟨c0', c1, c2, c3, c4⟩ := hcell k x hx
      have HVK : Hid (V[k]? = some x) := hx
      have HBX : Hid (∀ W, Below (wr.alloc (.cells #[.int .i64 x.1, .int .i64 x.2.1, .int .i64 x.2.2.1, .int .i64 x.2.2.2.1, .int .i64 x.2.2.2.2] 136)).heap.size (wr.alloc (.cells #[.int .i64 x.1, .int .i64 x.2.1, .int .i64 x.2.2.1, .int .i64 x.2.2.2.1, .int .i64 x.2.2.2.2] 136)) W → (W.cell? ⟨wr.heap.size, 0, none⟩ = some (.int .i64 x.1) ∧ W.cell? ⟨wr.heap.size, 1, none⟩ = some (.int .i64 x.2.1) ∧ W.cell? ⟨wr.heap.size, 2, none⟩ = some (.int .i64 x.2.2.1) ∧ W.cell? ⟨wr.heap.size, 3, none⟩ = some (.int .i64 x.2.2.2.1) ∧ W.cell? ⟨wr.heap.size, 4, none⟩ = some (.int .i64 x.2.2.2.2)) ∧ RowV W (.slice (some ⟨vb, voff, none⟩) V.length vcp) V ∧ Below wb.heap.size wb W) := fun W hW => by
        have h1 := (hW.block wr.heap.size (by simp)).trans (heap_alloc_new wr _)
        have b := HB.out.2.trans (((bel_new wr (.cells #[.int .i64 x.1, .int .i64 x.2.1, .int .i64 x.2.2.1, .int .i64 x.2.2.2.1, .int .i64 x.2.2.2.2] 136)).trans (hW.mono (by simp))).mono HB.out.2.size)
        exact ⟨⟨(blk_cell h1 0 rfl).1, (blk_cell h1 1 rfl).1, (blk_cell h1 2 rfl).1, (blk_cell h1 3 rfl).1, (blk_cell h1 4 rfl).1⟩, (HX.out _ b).2.1, b⟩
      clear hx hcell HRV
      go_upto_region 4 with fail
      generalize wr.alloc (.cells #[.int .i64 x.1, .int .i64 x.2.1, .int .i64 x.2.2.1, .int .i64 x.2.2.2.1, .int .i64 x.2.2.2.2] 136) = wx at HBX ⊢
      generalize wr.heap.size = bv at HBX ⊢
      clear c0' c1 c2 c3 c4
      obtain ⟨k1, HK1⟩ : ∃ k1 : Nat, Hid (k1 = k + 1) := ⟨_, rfl⟩
      have hk1 : (k : Int) + 1 = (k1 : Int) := by have := HK1.out; omega
      have hk2 : (k1 : Int) ≤ (vcp : Int) := by have := HK1.out; omega
      have HNT : Hid (∀ W, Below wx.heap.size wx W → Calls Tryd.prog 85 #[.agg #[.int .i64 x.2.1, .int .i64 x.2.2.1, .int .i64 x.2.2.2.1, .int .i64 x.2.2.2.2], .slice (some ⟨vb, voff, none⟩) k1 vcp] W fun e w' => e = .returned (.int .i64 (vn x.2 V k1 : Int)) ∧ Below W.heap.size W w') := fun W hW => by
        have h1 := nts_any x.2 _ (V.take k1) W (RowV.take (HBX.out W hW).2.1 k1 (by have := HK1.out; omega)) (by rw [List.length_take]; omega)
        have h2 : vn x.2 (V.take k1) (V.take k1).length = vn x.2 V k1 := by
          rw [List.length_take, Nat.min_eq_left (by have := HK1.out; omega)]
          exact vn_cong (by rw [List.take_take, Nat.min_self])
        rw [h2] at h1
        exact h1
      obtain ⟨X, hX, W, QI0, QO0⟩ := Qc.klass wx
      have QI : Hid (∀ w', Below wx.heap.size wx w' → ∃ x, w' = W x) := QI0
      have QO : Hid (∀ x, Below wx.heap.size wx (W x)) := QO0
      clear QI0 QO0
      have HN2 : Hid (∀ q, Calls Tryd.prog 85 #[.agg #[.int .i64 x.2.1, .int .i64 x.2.2.1, .int .i64 x.2.2.2.1, .int .i64 x.2.2.2.2], .slice (some ⟨vb, voff, none⟩) k1 vcp] (W q) fun e w' => e = .returned (.int .i64 (vn x.2 V k1 : Int)) ∧ Below (W q).heap.size (W q) w') := fun q => HNT.out _ (QO.out q)
      have y0 := fun q => (HBX.out _ (QO.out q)).1.1
      have y1 := fun q => (HBX.out _ (QO.out q)).1.2.1
      have y2 := fun q => (HBX.out _ (QO.out q)).1.2.2.1
      have y3 := fun q => (HBX.out _ (QO.out q)).1.2.2.2.1
      have y4 := fun q => (HBX.out _ (QO.out q)).1.2.2.2.2
      have HVN : Hid (vn x.2 V k1 = vn x.2 V (k + 1)) := by show _ = _; rw [HK1.out]
      rw [HVN.out] at HN2
      have hvl := vn_le (a := x.2) (V := V) (k + 1)
      clear HVN HNT
      by_cases hge : c ≤ vn x.2 V (k + 1)
      · have HR : Hid (fs c V V.length = some x.2) := fs_stop (k := k + 1) (by unfold fs; rw [HB.out.1, HVK.out]; simp only; rw [if_pos hge]) (by omega)
        generalize vn x.2 V (k + 1) = nn at HN2 hge hvl
        have hge1 : c0 ≤ (nn : Int) := by rw [HC.out]; omega
        clear hge hlt
        refine Qc.region_class (W := W) (by kernel_rfl) (by kernel_rfl) (QI.out _ Qc.from_drew) ?_
        repeat (go_big_quiet_step (first | (go_at_call 85; refine (HN2.out _).mono ?_; rintro e w2 ⟨rfl, b2⟩; exact ⟨rfl, Qc.back QI.out QO.out b2⟩)))
        refine wpQuiet_nil ?_
        rintro _ ⟨xq, rfl⟩
        have GQ : Hid (Below wb.heap.size wb (W xq)) := (HBX.out _ (QO.out xq)).2.2
        have p0 := y0 xq
        have p1 := y1 xq
        have p2 := y2 xq
        have p3 := y3 xq
        have p4 := y4 xq
        clear y0 y1 y2 y3 y4 hk1 hk2 HN2
        generalize W xq = wq at GQ p0 p1 p2 p3 p4 ⊢
        have A3 : Hid (wq.heap[w.heap.size]? = some (.cells #[.int .i64 0, .int .i64 0, .int .i64 0, .int .i64 0] 35 (0, 0))) := (HX.out _ GQ.out).1
        have G3 : Hid (Below w.heap.size w wq) := (HX.out _ GQ.out).2.2
        obtain ⟨m0, n0⟩ := blk_cell A3.out 0 (x := .int .i64 0) rfl
        obtain ⟨m1, n1⟩ := blk_cell A3.out 1 (x := .int .i64 0) rfl
        obtain ⟨m2, n2⟩ := blk_cell A3.out 2 (x := .int .i64 0) rfl
        obtain ⟨m3, n3⟩ := blk_cell A3.out 3 (x := .int .i64 0) rfl
        have AF : ((((wq.setCell ⟨w.heap.size, 0, none⟩ (.int .i64 x.2.1)).setCell ⟨w.heap.size, 1, none⟩ (.int .i64 x.2.2.1)).setCell ⟨w.heap.size, 2, none⟩ (.int .i64 x.2.2.2.1)).setCell ⟨w.heap.size, 3, none⟩ (.int .i64 x.2.2.2.2)).heap[w.heap.size]? = some (.cells #[.int .i64 x.2.1, .int .i64 x.2.2.1, .int .i64 x.2.2.2.1, .int .i64 x.2.2.2.2] 35 (0, 0)) := (blk_set (blk_set (blk_set (blk_set A3.out _ _) _ _) _ _) _ _)
        have GF : Below w.heap.size w ((((wq.setCell ⟨w.heap.size, 0, none⟩ (.int .i64 x.2.1)).setCell ⟨w.heap.size, 1, none⟩ (.int .i64 x.2.2.1)).setCell ⟨w.heap.size, 2, none⟩ (.int .i64 x.2.2.2.1)).setCell ⟨w.heap.size, 3, none⟩ (.int .i64 x.2.2.2.2)) := (Below.setCell (Below.setCell (Below.setCell (Below.setCell G3.out (p := ⟨w.heap.size, 0, none⟩) (by first | omega | (simp; done) | (simp; omega)) (.int .i64 x.2.1)) (p := ⟨w.heap.size, 1, none⟩) (by first | omega | (simp; done) | (simp; omega)) (.int .i64 x.2.2.1)) (p := ⟨w.heap.size, 2, none⟩) (by first | omega | (simp; done) | (simp; omega)) (.int .i64 x.2.2.2.1)) (p := ⟨w.heap.size, 3, none⟩) (by first | omega | (simp; done) | (simp; omega)) (.int .i64 x.2.2.2.2))
        go_wp2_with fail
        generalize ((((wq.setCell ⟨w.heap.size, 0, none⟩ (.int .i64 x.2.1)).setCell ⟨w.heap.size, 1, none⟩ (.int .i64 x.2.2.1)).setCell ⟨w.heap.size, 2, none⟩ (.int .i64 x.2.2.2.1)).setCell ⟨w.heap.size, 3, none⟩ (.int .i64 x.2.2.2.2)) = wf at AF GF ⊢
        have d0 := (blk_cell AF 0 (x := .int .i64 x.2.1) rfl).1
        have d1 := (blk_cell AF 1 (x := .int .i64 x.2.2.1) rfl).1
        have d2 := (blk_cell AF 2 (x := .int .i64 x.2.2.2.1) rfl).1
        have d3 := (blk_cell AF 3 (x := .int .i64 x.2.2.2.2) rfl).1
        exact bodyPost_ret (v := .tuple #[.agg #[.int .i64 x.2.1, .int .i64 x.2.2.1, .int .i64 x.2.2.2.1, .int .i64 x.2.2.2.2], .bool true]) (by simp [results, Tryd.results81, go_sem, d0, d1, d2, d3]) rfl ⟨ret_ab (a := x.2) ⟨by rw [HR.out]; rfl, by rw [HR.out]; rfl⟩, GF⟩
      · have HNX : Hid (fs c V (k + 1) = none) := by show _ = _; unfold fs; rw [HB.out.1, HVK.out]; simp only; rw [if_neg hge]
        generalize vn x.2 V (k + 1) = nn at HN2 hge hvl
        have hge1 : ¬ c0 ≤ (nn : Int) := by rw [HC.out]; omega
        clear hge
        refine Qc.region_class (W := W) (by kernel_rfl) (by kernel_rfl) (QI.out _ Qc.from_drew) ?_
        repeat (go_big_quiet_step (first | (go_at_call 85; refine (HN2.out _).mono ?_; rintro e w2 ⟨rfl, b2⟩; exact ⟨rfl, Qc.back QI.out QO.out b2⟩)))
        refine wpQuiet_nil ?_
        rintro _ ⟨xq, rfl⟩
        have GQ : Hid (Below wb.heap.size wb (W xq)) := (HBX.out _ (QO.out xq)).2.2
        clear y0 y1 y2 y3 y4 hk1 hk2 HN2
        generalize W xq = wq at GQ ⊢
        go_wp2_with fail
        exact ⟨⟨k + 1, by omega, by go_num, ⟨HNX.out, GQ.out⟩⟩, by simp [intOf]; omega⟩
    · obtain rfl : k = V.length := by omega
      have HR : Hid (fs c V V.length = none) := HB.out.1
      have W1 : Hid (Below wb.heap.size wb (wr.alloc (.cells #[.int .i64 0, .int .i64 0, .int .i64 0, .int .i64 0] 35))) := HB.out.2.trans ((bel_new wr _).mono HB.out.2.size)
      have A3 : Hid ((wr.alloc (.cells #[.int .i64 0, .int .i64 0, .int .i64 0, .int .i64 0] 35)).heap[w.heap.size]? = some (.cells #[.int .i64 0, .int .i64 0, .int .i64 0, .int .i64 0] 35 (0, 0))) := (HX.out _ W1.out).1
      have G3 : Hid (Below w.heap.size w (wr.alloc (.cells #[.int .i64 0, .int .i64 0, .int .i64 0, .int .i64 0] 35))) := (HX.out _ W1.out).2.2
      have N3 : Hid ((wr.alloc (.cells #[.int .i64 0, .int .i64 0, .int .i64 0, .int .i64 0] 35)).heap[wr.heap.size]? = some (.cells #[.int .i64 0, .int .i64 0, .int .i64 0, .int .i64 0] 35 (0, 0))) := heap_alloc_new wr _
      clear W1
      go_upto_region 8 with fail
      generalize wr.alloc (.cells #[.int .i64 0, .int .i64 0, .int .i64 0, .int .i64 0] 35) = wq at A3 G3 N3 ⊢
      generalize wr.heap.size = bn at N3 ⊢
      have p0 := (blk_cell N3.out 0 (x := .int .i64 0) rfl).1
      have p1 := (blk_cell N3.out 1 (x := .int .i64 0) rfl).1
      have p2 := (blk_cell N3.out 2 (x := .int .i64 0) rfl).1
      have p3 := (blk_cell N3.out 3 (x := .int .i64 0) rfl).1
      obtain ⟨m0, n0⟩ := blk_cell A3.out 0 (x := .int .i64 0) rfl
      obtain ⟨m1, n1⟩ := blk_cell A3.out 1 (x := .int .i64 0) rfl
      obtain ⟨m2, n2⟩ := blk_cell A3.out 2 (x := .int .i64 0) rfl
      obtain ⟨m3, n3⟩ := blk_cell A3.out 3 (x := .int .i64 0) rfl
      have AF : ((((wq.setCell ⟨w.heap.size, 0, none⟩ (.int .i64 0)).setCell ⟨w.heap.size, 1, none⟩ (.int .i64 0)).setCell ⟨w.heap.size, 2, none⟩ (.int .i64 0)).setCell ⟨w.heap.size, 3, none⟩ (.int .i64 0)).heap[w.heap.size]? = some (.cells #[.int .i64 0, .int .i64 0, .int .i64 0, .int .i64 0] 35 (0, 0)) := (blk_set (blk_set (blk_set (blk_set A3.out _ _) _ _) _ _) _ _)
      have GF : Below w.heap.size w ((((wq.setCell ⟨w.heap.size, 0, none⟩ (.int .i64 0)).setCell ⟨w.heap.size, 1, none⟩ (.int .i64 0)).setCell ⟨w.heap.size, 2, none⟩ (.int .i64 0)).setCell ⟨w.heap.size, 3, none⟩ (.int .i64 0)) := (Below.setCell (Below.setCell (Below.setCell (Below.setCell G3.out (p := ⟨w.heap.size, 0, none⟩) (by first | omega | (simp; done) | (simp; omega)) (.int .i64 0)) (p := ⟨w.heap.size, 1, none⟩) (by first | omega | (simp; done) | (simp; omega)) (.int .i64 0)) (p := ⟨w.heap.size, 2, none⟩) (by first | omega | (simp; done) | (simp; omega)) (.int .i64 0)) (p := ⟨w.heap.size, 3, none⟩) (by first | omega | (simp; done) | (simp; omega)) (.int .i64 0))
      go_wp2_with fail
      generalize ((((wq.setCell ⟨w.heap.size, 0, none⟩ (.int .i64 0)).setCell ⟨w.heap.size, 1, none⟩ (.int .i64 0)).setCell ⟨w.heap.size, 2, none⟩ (.int .i64 0)).setCell ⟨w.heap.size, 3, none⟩ (.int .i64 0)) = wf at AF GF ⊢
      have d0 := (blk_cell AF 0 (x := .int .i64 0) rfl).1
      have d1 := (blk_cell AF 1 (x := .int .i64 0) rfl).1
      have d2 := (blk_cell AF 2 (x := .int .i64 0) rfl).1
      have d3 := (blk_cell AF 3 (x := .int .i64 0) rfl).1
      exact bodyPost_ret (v := .tuple #[.agg #[.int .i64 0, .int .i64 0, .int .i64 0, .int .i64 0], .bool false]) (by simp [results, Tryd.results81, go_sem, d0, d1, d2, d3]) rfl ⟨ret_ab (a := (0, 0, 0, 0)) ⟨by rw [HR.out]; rfl, by rw [HR.out]; rfl⟩, GF⟩
/-- A reply that is counted. -/
def gB (n c s : Int) (x : Re) : Bool := lokB n x && (decide (x.cl = c) && decide (x.st = s))
theorem g_cl {n c s : Int} {x : Re} (h : ¬ x.cl = c) : gB n c s x = false := by unfold gB; rw [decide_eq_false h]; simp
theorem g_st {n c s : Int} {x : Re} (h : ¬ x.st = s) : gB n c s x = false := by unfold gB; rw [decide_eq_false h]; simp
theorem g_ok {n c s : Int} {x : Re} (hn : fCode n = 0) (h1 : x.cl = c) (h2 : x.st = s) : gB n c s x = rokB n x := by unfold gB rokB; rw [decide_eq_true h1, decide_eq_true h2, decide_eq_true hn]; simp
theorem vs_no {g : Re → Bool} {L : List Re} {k : Nat} {x : Re} (h : L[k]? = some x) (hg : g x = false) : voices g (L.take (k + 1)) = voices g (L.take k) := by rw [voices_at h, hg]; simp
theorem vs_yes {g : Re → Bool} {L : List Re} {k : Nat} {x : Re} (h : L[k]? = some x) (hg : g x = true) : voices g (L.take (k + 1)) = voices g (L.take k) ++ [vo x] := by rw [voices_at h, hg]; simp
theorem vs_len (g : Re → Bool) (L : List Re) : (voices g L).length ≤ L.length := by unfold voices; rw [List.length_map]; exact List.length_filter_le _ _
set_option maxRecDepth 100000 in
set_option maxHeartbeats 3200000 in
theorem answersTo_any (n c s : Int) (v : Value) (L : List Re) (w : World) (h : Gy.Row w v L) (hl : L.length ≤ 4096) (hn : fCode n = 0) (hK : KTab w) (hp : 0 < w.heap.size) :
    Calls Tryd.prog 82 #[.int .i64 n, .int .i64 c, .int .i64 s, v] w fun e w' => ∃ u, e = .returned u ∧ OwnV w' w.heap.size u (voices (gB n c s) L) ∧ Below w.heap.size w w' := by
  obtain ⟨i0, hi0, hz0, hz1, hz2⟩ := info_parts infoV
  have HR : Hid (Gy.Row w v L) := h
  have HN : Hid (fCode n = 0) := hn
  have HKT : Hid (∀ W, Below w.heap.size w W → KTab W ∧ 0 < W.heap.size) := fun W hW => ⟨hK.below hW hp, Nat.lt_of_lt_of_le hp hW.size⟩
  obtain ⟨a, cap, rfl⟩ := RowG.slice h
  clear h hn hK hp
  go_enter Tryd.func82, Tryd.ntmps82
  go_wp2_with fail
  go_loopw [9, 14] (fun b i wr => ∃ k : Nat, k ≤ L.length ∧ i = .int .i64 k ∧ Hid (OwnV wr w.heap.size b (voices (gB n c s) (L.take k)) ∧ Below w.heap.size w wr)) (fun _ i _ => L.length - (intOf i).toNat)
  case atStart => exact ⟨0, by omega, rfl, ⟨by simpa [voices] using OwnV.nil _ _, Below.refl _ _⟩⟩
  case round =>
    obtain ⟨k, hk, rfl, HB⟩ := hrel
    obtain ⟨v0, rfl⟩ : ∃ v0, v0 = u9 := ⟨_, rfl⟩
    by_cases hlt : k < L.length
    · obtain ⟨x, hx⟩ := Rg.get_at hlt
      obtain ⟨b, off, rfl, hbl, c0, c1, c2, c3, c4, c5, c6, c7⟩ := RowG.at (HR.out.below HB.out.2) rfl hx
      have HLK : Hid (L[k]? = some x) := hx
      have HBX : Hid (∀ W, Below (wr.alloc (.cells #[.int .i64 x.nd, .int .i64 x.cl, .int .i64 x.st, .int .i64 x.kd, .int .i64 x.tk, .int .i64 x.hd, .int .i64 x.ex, .string x.mc] 39)).heap.size (wr.alloc (.cells #[.int .i64 x.nd, .int .i64 x.cl, .int .i64 x.st, .int .i64 x.kd, .int .i64 x.tk, .int .i64 x.hd, .int .i64 x.ex, .string x.mc] 39)) W → (W.cell? ⟨wr.heap.size, 0, none⟩ = some (.int .i64 x.nd) ∧ W.cell? ⟨wr.heap.size, 1, none⟩ = some (.int .i64 x.cl) ∧ W.cell? ⟨wr.heap.size, 2, none⟩ = some (.int .i64 x.st) ∧ W.cell? ⟨wr.heap.size, 3, none⟩ = some (.int .i64 x.kd) ∧ W.cell? ⟨wr.heap.size, 4, none⟩ = some (.int .i64 x.tk) ∧ W.cell? ⟨wr.heap.size, 5, none⟩ = some (.int .i64 x.hd) ∧ W.cell? ⟨wr.heap.size, 6, none⟩ = some (.int .i64 x.ex) ∧ W.cell? ⟨wr.heap.size, 7, none⟩ = some (.string x.mc)) ∧ OwnV W w.heap.size v0 (voices (gB n c s) (L.take k)) ∧ Below w.heap.size w W) := fun W hW => by
        have h1 := (hW.block wr.heap.size (by simp)).trans (heap_alloc_new wr _)
        have b0 := (bel_new wr (.cells #[.int .i64 x.nd, .int .i64 x.cl, .int .i64 x.st, .int .i64 x.kd, .int .i64 x.tk, .int .i64 x.hd, .int .i64 x.ex, .string x.mc] 39)).trans (hW.mono (by simp))
        exact ⟨⟨(blk_cell h1 0 rfl).1, (blk_cell h1 1 rfl).1, (blk_cell h1 2 rfl).1, (blk_cell h1 3 rfl).1, (blk_cell h1 4 rfl).1, (blk_cell h1 5 rfl).1, (blk_cell h1 6 rfl).1, (blk_cell h1 7 rfl).1⟩, HB.out.1.below b0, HB.out.2.trans (b0.mono HB.out.2.size)⟩
      have HLN : Hid ((voices (gB n c s) (L.take k)).length ≤ 1000000) := by show _ ≤ _; have := vs_len (gB n c s) (L.take k); rw [List.length_take] at this; omega
      have HOK : Hid (∀ W, Below w.heap.size w W → Calls Tryd.prog 20 #[.int .i64 n, .agg #[.int .i64 x.nd, .int .i64 x.cl, .int .i64 x.st, .int .i64 x.kd, .int .i64 x.tk, .int .i64 x.hd, .int .i64 x.ex, .string x.mc]] W fun e w' => e = .returned (.bool (rokB n x)) ∧ Below W.heap.size W w') := fun W hW => implReplyOK_any n x W (HKT.out W hW).1 (HKT.out W hW).2
      clear hx
      go_upto_region 5 with fail
      generalize wr.alloc (.cells #[.int .i64 x.nd, .int .i64 x.cl, .int .i64 x.st, .int .i64 x.kd, .int .i64 x.tk, .int .i64 x.hd, .int .i64 x.ex, .string x.mc] 39) = wx at HBX ⊢
      generalize wr.heap.size = bv at HBX ⊢
      clear c0 c1 c2 c3 c4 c5 c6 c7
      obtain ⟨⟨c0, c1, c2, c3, c4, c5, c6, c7⟩, _, _⟩ := HBX.out _ (Below.refl _ _)
      have BX0 : Hid (Below w.heap.size w wx) := (HBX.out _ (Below.refl _ _)).2.2
      by_cases h1 : x.cl = c
      · have h1' : (x.cl == c) = true := by simpa using h1
        by_cases h2 : x.st = s
        · have h2' : (x.st == s) = true := by simpa using h2
          have HGR : Hid (gB n c s x = rokB n x) := g_ok HN.out h1 h2
          clear h1 h2
          cases h3 : rokB n x with
          | false =>
            have HE : Hid (voices (gB n c s) (L.take (k + 1)) = voices (gB n c s) (L.take k)) := vs_no HLK.out (by rw [HGR.out, h3])
            rw [h3] at HOK
            clear h3 HGR
            go_wp2_with (go_at_call 20; refine (HOK.out _ BX0.out).mono ?_; rintro e w2 ⟨rfl, b2⟩)
            have G2 := HBX.out _ b2
            exact ⟨⟨k + 1, by omega, by go_num, ⟨by rw [HE.out]; exact G2.2.1, G2.2.2⟩⟩, by simp [intOf]; omega⟩
          | true =>
            have HE : Hid (voices (gB n c s) (L.take (k + 1)) = voices (gB n c s) (L.take k) ++ [vo x]) := vs_yes HLK.out (by rw [HGR.out, h3])
            rw [h3] at HOK
            clear h3 HGR
            go_upto_region 6 with (go_at_call 20; refine (HOK.out _ BX0.out).mono ?_; rintro e w2 ⟨rfl, b2⟩)
            clear c0 c1 c2 c3 c4 c5 c6 c7
            obtain ⟨⟨c0, c1, c2, c3, c4, c5, c6, c7⟩, o2, g2⟩ := HBX.out _ b2
            have HO2 : Hid (OwnV w2 w.heap.size v0 (voices (gB n c s) (L.take k)) ∧ Below w.heap.size w w2) := ⟨o2, g2⟩
            clear o2 g2 b2
            go_wp2_with (at_builtin; go_must (refine list_vo (by rfl) _ _ 132 (by rfl) i0 Tryd.underlying132 hi0 hz0 hz1 hz2 w.heap.size w _ _ _ (vo x) (by rfl) HO2.out.1 HO2.out.2 HO2.out.2.size (by rfl) HLN.out ?_; intro v3 w3 o3 g3))
            exact ⟨⟨k + 1, by omega, by go_num, ⟨by rw [HE.out]; exact o3, g3⟩⟩, by simp [intOf]; omega⟩
        · have HE : Hid (voices (gB n c s) (L.take (k + 1)) = voices (gB n c s) (L.take k)) := vs_no HLK.out (g_st h2)
          have h2' : (x.st == s) = false := by simpa using h2
          clear h1 h2
          go_wp2_with fail
          have G2 := HBX.out _ (Below.refl _ _)
          exact ⟨⟨k + 1, by omega, by go_num, ⟨by rw [HE.out]; exact G2.2.1, G2.2.2⟩⟩, by simp [intOf]; omega⟩
      · have HE : Hid (voices (gB n c s) (L.take (k + 1)) = voices (gB n c s) (L.take k)) := vs_no HLK.out (g_cl h1)
        have h1' : (x.cl == c) = false := by simpa using h1
        clear h1
        go_wp2_with fail
        have G2 := HBX.out _ (Below.refl _ _)
        exact ⟨⟨k + 1, by omega, by go_num, ⟨by rw [HE.out]; exact G2.2.1, G2.2.2⟩⟩, by simp [intOf]; omega⟩
    · obtain rfl : k = L.length := by omega
      have HF : Hid (OwnV wr w.heap.size v0 (voices (gB n c s) L) ∧ Below w.heap.size w wr) := ⟨by have := HB.out.1; rwa [List.take_length] at this, HB.out.2⟩
      go_wp2_with fail
      go_ret
      exact ⟨_, rfl, HF.out.1, HF.out.2⟩
end Go.Proofs.YtiflfcpoajijaaaDoor.Rk
