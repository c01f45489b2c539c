/- Grants are drawn. -/
import Derived.Test.YtimmeclclilpdaaDoorGrb
import Derived.Test.YtimmeclclilpdaaDoorGnr
namespace Go.Proofs.YtimmeclclilpdaaDoor.Gn
open Go.RowKit Go.Proofs.YtimmeclclilpdaaDoor.Sl Go.Proofs.YtimmeclclilpdaaDoor.By Go.Proofs.YtimmeclclilpdaaDoor.Ap Go.Proofs.YtimmeclclilpdaaDoor.Tx
open Go.Proofs.YtimmeclclilpdaaDoor.Gr12 (Gg gV grB)

theorem gbel {w w' : World} {p : Nat} (hg : w.grownBy w' (some p)) (hp : p < w.heap.size) : Below p w w' := ⟨hg.os, hg.tape, hg.output, hg.size, fun k hk => hg.block k (by omega) (by simp; omega)⟩
/-- The names that are drawn. -/
def gnS : List ByteArray := [⟨#[97]⟩, ⟨#[98]⟩, ⟨#[108, 111, 99, 107]⟩]
theorem gn_ok {r : Nat} (hr : r < 3) : Rq.opB (tnth gnS r) = true := by
  rcases (by omega : r = 0 ∨ r = 1 ∨ r = 2) with rfl | rfl | rfl <;> decide
theorem g_right {s : ByteArray} (hs : Rq.opB s = true) {r1 r2 r3 : Nat} (h1 : r1 < 3) (h2 : r2 < 3) (h3 : r3 < 3) : grB ⟨s, (r1 : Int), 1 + (r2 : Int), (r3 : Int) * 10⟩ = true := by
  unfold grB Rq.inB
  simp only [hs, Bool.true_and, Bool.and_eq_true, decide_eq_true_eq]
  omega
set_option maxRecDepth 100000 in
set_option maxHeartbeats 1600000 in
theorem grant_any (p B K : Nat) (xs : List Int) (w : World) (h : Src B w p xs K) (hB : B ≤ p) (hK : K ≤ 1000) (hx : xs.length ≤ 1048576) :
    Calls Tryd.prog 29 #[.pointer (some ⟨p, 0, none⟩)] w fun e w' => ∃ g : Gg, e = .returned (gV g) ∧ grB g = true ∧ Below p w w' := by
  have hp := h.lt
  have HS0 : Hid (Src B w p xs K) := h
  have HPW : Hid (p < w.heap.size) := hp
  have e1 : (w.alloc (.cells #[.string ⟨#[]⟩, .int .i64 0, .int .i64 0, .int .i64 0] 24)).heap.size = w.heap.size + 1 := by simp
  have HZ0 : Hid ((w.alloc (.cells #[.string ⟨#[]⟩, .int .i64 0, .int .i64 0, .int .i64 0] 24)).heap[w.heap.size]? = some (.cells #[.string ⟨#[]⟩, .int .i64 0, .int .i64 0, .int .i64 0] 24 (0, 0))) := heap_alloc_new w _
  have S1 : Hid (Src B ((w.alloc (.cells #[.string ⟨#[]⟩, .int .i64 0, .int .i64 0, .int .i64 0] 24)).alloc (.cells #[.string ⟨#[97]⟩, .string ⟨#[98]⟩, .string ⟨#[108, 111, 99, 107]⟩] 9)) p xs K) := (h.alloc hB _).alloc hB _
  have L1 : Hid (((w.alloc (.cells #[.string ⟨#[]⟩, .int .i64 0, .int .i64 0, .int .i64 0] 24)).alloc (.cells #[.string ⟨#[97]⟩, .string ⟨#[98]⟩, .string ⟨#[108, 111, 99, 107]⟩] 9)).heap[w.heap.size + 1]? = some (.cells #[.string ⟨#[97]⟩, .string ⟨#[98]⟩, .string ⟨#[108, 111, 99, 107]⟩] 9 (0, 0))) := by
    show _ = _
    have := heap_alloc_new (w.alloc (.cells #[.string ⟨#[]⟩, .int .i64 0, .int .i64 0, .int .i64 0] 24)) (.cells #[.string ⟨#[97]⟩, .string ⟨#[98]⟩, .string ⟨#[108, 111, 99, 107]⟩] 9)
    rwa [e1] at this
  have Z1 : Hid (((w.alloc (.cells #[.string ⟨#[]⟩, .int .i64 0, .int .i64 0, .int .i64 0] 24)).alloc (.cells #[.string ⟨#[97]⟩, .string ⟨#[98]⟩, .string ⟨#[108, 111, 99, 107]⟩] 9)).heap[w.heap.size]? = some (.cells #[.string ⟨#[]⟩, .int .i64 0, .int .i64 0, .int .i64 0] 24 (0, 0))) := ((Gr12.bel1 (w.alloc (.cells #[.string ⟨#[]⟩, .int .i64 0, .int .i64 0, .int .i64 0] 24)) (.cells #[.string ⟨#[97]⟩, .string ⟨#[98]⟩, .string ⟨#[108, 111, 99, 107]⟩] 9)).block _ (by rw [e1]; omega)).trans HZ0.out
  have B1 : Hid (Below p w ((w.alloc (.cells #[.string ⟨#[]⟩, .int .i64 0, .int .i64 0, .int .i64 0] 24)).alloc (.cells #[.string ⟨#[97]⟩, .string ⟨#[98]⟩, .string ⟨#[108, 111, 99, 107]⟩] 9)) ∧ w.heap.size + 1 < ((w.alloc (.cells #[.string ⟨#[]⟩, .int .i64 0, .int .i64 0, .int .i64 0] 24)).alloc (.cells #[.string ⟨#[97]⟩, .string ⟨#[98]⟩, .string ⟨#[108, 111, 99, 107]⟩] 9)).heap.size) := ⟨(((Gr12.bel1 w _).trans ((Gr12.bel1 _ _).mono (Gr12.bel1 w _).size))).mono (by omega), by simp⟩
  clear h hp e1 HZ0
  go_enter Tryd.func29, Tryd.ntmps29
  go_wp2_with fail
  generalize (w.alloc (.cells #[.string ⟨#[]⟩, .int .i64 0, .int .i64 0, .int .i64 0] 24)).alloc (.cells #[.string ⟨#[97]⟩, .string ⟨#[98]⟩, .string ⟨#[108, 111, 99, 107]⟩] 9) = wa at S1 L1 Z1 B1 ⊢
  refine (pick_any (w.heap.size + 1) 3 p B K _ gnS xs wa S1.out hB (by omega) hx (by decide) (by decide) L1.out (by have := HPW.out; omega) (fun j hj => by
      match j, hj with
      | 0, _ => rfl
      | 1, _ => rfl
      | 2, _ => rfl)).mono ?_
  rintro e w2 ⟨r, rfl, hr, s2, g2⟩
  have HSO : Hid (Rq.opB (tnth gnS r) = true) := gn_ok hr
  have P2 : Hid (Src B w2 p xs (K + 1) ∧ w2.heap[w.heap.size]? = some (.cells #[.string ⟨#[]⟩, .int .i64 0, .int .i64 0, .int .i64 0] 24 (0, 0)) ∧ Below p w w2) := ⟨s2, (g2.block _ (by have := B1.out.2; omega) (by simp; have := HPW.out; omega)).trans Z1.out, B1.out.1.trans (gbel g2 (by have := HPW.out; have := B1.out.2; omega))⟩
  generalize tnth gnS r = s at HSO
  clear hr s2 g2
  go_wp2_with fail
  refine (next_any 3 p B (K + 1) xs w2 P2.out.1 hB (by omega) hx (by decide) (by decide)).mono ?_
  rintro e w3 ⟨r1, rfl, hr1, s3, g3⟩
  have P3 : Hid (Src B w3 p xs (K + 1 + 1) ∧ w3.heap[w.heap.size]? = some (.cells #[.string ⟨#[]⟩, .int .i64 0, .int .i64 0, .int .i64 0] 24 (0, 0)) ∧ Below p w w3) := ⟨s3, (g3.block _ (Array.getElem?_eq_some_iff.1 P2.out.2.1).1 (by simp; have := HPW.out; omega)).trans P2.out.2.1, P2.out.2.2.trans (gbel g3 P2.out.1.lt)⟩
  clear s3 g3
  go_wp2_with fail
  refine (next_any 3 p B (K + 1 + 1) xs w3 P3.out.1 hB (by omega) hx (by decide) (by decide)).mono ?_
  rintro e w4 ⟨r2, rfl, hr2, s4, g4⟩
  have P4 : Hid (Src B w4 p xs (K + 1 + 1 + 1) ∧ w4.heap[w.heap.size]? = some (.cells #[.string ⟨#[]⟩, .int .i64 0, .int .i64 0, .int .i64 0] 24 (0, 0)) ∧ Below p w w4) := ⟨s4, (g4.block _ (Array.getElem?_eq_some_iff.1 P3.out.2.1).1 (by simp; have := HPW.out; omega)).trans P3.out.2.1, P3.out.2.2.trans (gbel g4 P3.out.1.lt)⟩
  clear s4 g4
  have hr2I : (r2 : Int) < 3 := by omega
  go_wp2_with fail
  refine (next_any 3 p B (K + 1 + 1 + 1) xs w4 P4.out.1 hB (by omega) hx (by decide) (by decide)).mono ?_
  rintro e w5 ⟨r3, rfl, hr3, s5, g5⟩
  have AX : Hid (w5.heap[w.heap.size]? = some (.cells #[.string ⟨#[]⟩, .int .i64 0, .int .i64 0, .int .i64 0] 24 (0, 0))) := (g5.block _ (Array.getElem?_eq_some_iff.1 P4.out.2.1).1 (by simp; have := HPW.out; omega)).trans P4.out.2.1
  have GX : Hid (Below p w w5) := P4.out.2.2.trans (gbel g5 P4.out.1.lt)
  have HR : Hid (grB ⟨s, (r1 : Int), 1 + (r2 : Int), (r3 : Int) * 10⟩ = true) := g_right HSO.out hr1 hr2 hr3
  have HLE : Hid (p ≤ w.heap.size) := Nat.le_of_lt HPW.out
  have hr3I : (r3 : Int) < 3 := by omega
  clear s5 g5 P2 P3 P4 S1 L1 Z1 B1
  obtain ⟨zc0, zf0⟩ := blk_cell AX.out 0 (x := .string ⟨#[]⟩) rfl
  obtain ⟨zc1, zf1⟩ := blk_cell AX.out 1 (x := .int .i64 0) rfl
  obtain ⟨zc2, zf2⟩ := blk_cell AX.out 2 (x := .int .i64 0) rfl
  obtain ⟨zc3, zf3⟩ := blk_cell AX.out 3 (x := .int .i64 0) rfl
  have AF : ((((w5.setCell ⟨w.heap.size, 0, none⟩ (.string s)).setCell ⟨w.heap.size, 1, none⟩ (.int .i64 (r1 : Int))).setCell ⟨w.heap.size, 2, none⟩ (.int .i64 (1 + (r2 : Int)))).setCell ⟨w.heap.size, 3, none⟩ (.int .i64 ((r3 : Int) * 10))).heap[w.heap.size]? = some (.cells #[.string s, .int .i64 (r1 : Int), .int .i64 (1 + (r2 : Int)), .int .i64 ((r3 : Int) * 10)] 24 (0, 0)) := (blk_set (blk_set (blk_set (blk_set AX.out 0 (.string s)) 1 (.int .i64 (r1 : Int))) 2 (.int .i64 (1 + (r2 : Int)))) 3 (.int .i64 ((r3 : Int) * 10)))
  have GF : Below p w ((((w5.setCell ⟨w.heap.size, 0, none⟩ (.string s)).setCell ⟨w.heap.size, 1, none⟩ (.int .i64 (r1 : Int))).setCell ⟨w.heap.size, 2, none⟩ (.int .i64 (1 + (r2 : Int)))).setCell ⟨w.heap.size, 3, none⟩ (.int .i64 ((r3 : Int) * 10))) := (Below.setCell (Below.setCell (Below.setCell (Below.setCell GX.out (p := ⟨w.heap.size, 0, none⟩) HLE.out (.string s)) (p := ⟨w.heap.size, 1, none⟩) HLE.out (.int .i64 (r1 : Int))) (p := ⟨w.heap.size, 2, none⟩) HLE.out (.int .i64 (1 + (r2 : Int)))) (p := ⟨w.heap.size, 3, none⟩) HLE.out (.int .i64 ((r3 : Int) * 10)))
  go_wp2_with fail
  generalize ((((w5.setCell ⟨w.heap.size, 0, none⟩ (.string s)).setCell ⟨w.heap.size, 1, none⟩ (.int .i64 (r1 : Int))).setCell ⟨w.heap.size, 2, none⟩ (.int .i64 (1 + (r2 : Int)))).setCell ⟨w.heap.size, 3, none⟩ (.int .i64 ((r3 : Int) * 10))) = wf at AF GF ⊢
  have d0 := (blk_cell AF 0 (x := .string s) rfl).1
  have d1 := (blk_cell AF 1 (x := .int .i64 (r1 : Int)) rfl).1
  have d2 := (blk_cell AF 2 (x := .int .i64 (1 + (r2 : Int))) rfl).1
  have d3 := (blk_cell AF 3 (x := .int .i64 ((r3 : Int) * 10)) rfl).1
  exact bodyPost_ret (v := .agg #[.string s, .int .i64 (r1 : Int), .int .i64 (1 + (r2 : Int)), .int .i64 ((r3 : Int) * 10)]) (by simp [results, Tryd.results29, go_sem, d0, d1, d2, d3]) rfl ⟨⟨s, (r1 : Int), 1 + (r2 : Int), (r3 : Int) * 10⟩, rfl, HR.out, GF⟩
set_option maxRecDepth 100000 in
set_option maxHeartbeats 1600000 in
theorem GrantOf_any (v : Value) (xs : List Int) (w : World) (h : RowB w v xs) (hx : xs.length ≤ 1048576) :
    Calls Tryd.prog 9 #[v] w fun e w' => ∃ g : Gg, e = .returned (gV g) ∧ grB g = true ∧ Below w.heap.size w w' := by
  have HZ : Hid (∀ W, Below (w.alloc (.cells #[.string ⟨#[]⟩, .int .i64 0, .int .i64 0, .int .i64 0] 24)).heap.size (w.alloc (.cells #[.string ⟨#[]⟩, .int .i64 0, .int .i64 0, .int .i64 0] 24)) W → W.heap[w.heap.size]? = some (.cells #[.string ⟨#[]⟩, .int .i64 0, .int .i64 0, .int .i64 0] 24 (0, 0)) ∧ Below w.heap.size w W) := fun W hW => ⟨(hW.block w.heap.size (by simp)).trans (heap_alloc_new w _), (Gr12.bel1 w _).trans (hW.mono (by simp))⟩
  have HS := source_any v xs (w.alloc (.cells #[.string ⟨#[]⟩, .int .i64 0, .int .i64 0, .int .i64 0] 24)) (h.below (Gr12.bel1 w _)) hx
  clear h
  go_enter Tryd.func9, Tryd.ntmps9
  go_wp2_with fail
  generalize w.alloc (.cells #[.string ⟨#[]⟩, .int .i64 0, .int .i64 0, .int .i64 0] 24) = wa at HZ HS ⊢
  refine HS.mono ?_
  rintro e w1 ⟨rfl, s1, b1⟩
  have B1 : Hid (Src wa.heap.size w1 wa.heap.size xs 0 ∧ Below wa.heap.size wa w1) := ⟨s1, b1⟩
  clear s1 b1 HS
  go_wp2_with fail
  refine (grant_any wa.heap.size wa.heap.size 0 xs w1 B1.out.1 (Nat.le_refl _) (by decide) hx).mono ?_
  rintro e w2 ⟨g, rfl, hg, b2⟩
  have B2 : Hid (Below wa.heap.size wa w2) := B1.out.2.trans b2
  have HG : Hid (grB g = true) := hg
  have AX : Hid (w2.heap[w.heap.size]? = some (.cells #[.string ⟨#[]⟩, .int .i64 0, .int .i64 0, .int .i64 0] 24 (0, 0))) := (HZ.out _ B2.out).1
  have GX : Hid (Below w.heap.size w w2) := (HZ.out _ B2.out).2
  clear b2 hg
  unfold gV
  obtain ⟨zc0, zf0⟩ := blk_cell AX.out 0 (x := .string ⟨#[]⟩) rfl
  obtain ⟨zc1, zf1⟩ := blk_cell AX.out 1 (x := .int .i64 0) rfl
  obtain ⟨zc2, zf2⟩ := blk_cell AX.out 2 (x := .int .i64 0) rfl
  obtain ⟨zc3, zf3⟩ := blk_cell AX.out 3 (x := .int .i64 0) rfl
  have AF : ((((w2.setCell ⟨w.heap.size, 0, none⟩ (.string g.nm)).setCell ⟨w.heap.size, 1, none⟩ (.int .i64 g.hd)).setCell ⟨w.heap.size, 2, none⟩ (.int .i64 g.tk)).setCell ⟨w.heap.size, 3, none⟩ (.int .i64 g.ex)).heap[w.heap.size]? = some (.cells #[.string g.nm, .int .i64 g.hd, .int .i64 g.tk, .int .i64 g.ex] 24 (0, 0)) := (blk_set (blk_set (blk_set (blk_set AX.out 0 (.string g.nm)) 1 (.int .i64 g.hd)) 2 (.int .i64 g.tk)) 3 (.int .i64 g.ex))
  have GF : Below w.heap.size w ((((w2.setCell ⟨w.heap.size, 0, none⟩ (.string g.nm)).setCell ⟨w.heap.size, 1, none⟩ (.int .i64 g.hd)).setCell ⟨w.heap.size, 2, none⟩ (.int .i64 g.tk)).setCell ⟨w.heap.size, 3, none⟩ (.int .i64 g.ex)) := (Below.setCell (Below.setCell (Below.setCell (Below.setCell GX.out (p := ⟨w.heap.size, 0, none⟩) (Nat.le_refl _) (.string g.nm)) (p := ⟨w.heap.size, 1, none⟩) (Nat.le_refl _) (.int .i64 g.hd)) (p := ⟨w.heap.size, 2, none⟩) (Nat.le_refl _) (.int .i64 g.tk)) (p := ⟨w.heap.size, 3, none⟩) (Nat.le_refl _) (.int .i64 g.ex))
  go_wp2_with fail
  generalize ((((w2.setCell ⟨w.heap.size, 0, none⟩ (.string g.nm)).setCell ⟨w.heap.size, 1, none⟩ (.int .i64 g.hd)).setCell ⟨w.heap.size, 2, none⟩ (.int .i64 g.tk)).setCell ⟨w.heap.size, 3, none⟩ (.int .i64 g.ex)) = wf at AF GF ⊢
  have d0 := (blk_cell AF 0 (x := .string g.nm) rfl).1
  have d1 := (blk_cell AF 1 (x := .int .i64 g.hd) rfl).1
  have d2 := (blk_cell AF 2 (x := .int .i64 g.tk) rfl).1
  have d3 := (blk_cell AF 3 (x := .int .i64 g.ex) rfl).1
  exact bodyPost_ret (v := .agg #[.string g.nm, .int .i64 g.hd, .int .i64 g.tk, .int .i64 g.ex]) (by simp [results, Tryd.results9, go_sem, d0, d1, d2, d3]) rfl ⟨g, rfl, HG.out, GF⟩
end Go.Proofs.YtimmeclclilpdaaDoor.Gn
