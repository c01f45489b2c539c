/- Locks that bear the laws' marks are held. -/
import Derived.Test.YtlgfeohoebmbcaaGreatJo
namespace Go.Proofs.YtlgfeohoebmbcaaGreat.Jn
open Go.RowKit Go.Proofs.YtlgfeohoebmbcaaGreat.Sl Go.Proofs.YtlgfeohoebmbcaaGreat.By Go.Proofs.YtlgfeohoebmbcaaGreat.Ap Go.Proofs.YtlgfeohoebmbcaaGreat.Tb Go.Proofs.YtlgfeohoebmbcaaGreat.Tw
open Go.Proofs.YtlgfeohoebmbcaaGreat.Mw (mtext markText_any Wr Wr.lt Wr.below Wr.set Wr.cell set_same set_off markNilW_any heldNilW_any Mid Mid.refl Mid.trans Mid.set Mid.below)
open Go.Proofs.YtlgfeohoebmbcaaGreat.Wa (OwnS OwnS.kept OwnS.lt OwnS.slice OwnS.below)
open Go.Proofs.YtlgfeohoebmbcaaGreat.Lo (LkA uV OwnL OwnL.kept OwnL.lt OwnL.slice own_block kind_ne clL atL Apart)
open Go.Proofs.YtlgfeohoebmbcaaGreat.Tx (blk_cell blk_set blk_far bel_new size_new)
open Go.Proofs.YtlgfeohoebmbcaaGreat.Jb (OwnO OwnO.kept OwnO.lt)

set_option maxRecDepth 100000 in
set_option maxHeartbeats 3200000 in
theorem heldLocks_any (gl cap : Nat) (ms : List LkA) (a : Nat) (w : World) (h : Mt w gl ms a ms.length) (hn : ms.length ≤ 1000) (hw : ∀ m ∈ ms, m.1.ws.length ≤ 1000) (ha : 0 < a) (ha2 : a ≤ 1000) :
    Calls Tryz.prog 52 #[.slice (some ⟨gl, 0, none⟩) ms.length cap, .int .i64 a] w fun e w' => e = .returned (.int .i64 (off ms a ms.length : Nat)) ∧ Below w.heap.size w w' := by
  have H : Hid (Mt w gl ms a ms.length) := h
  have HO : Hid (∀ j, j ≤ ms.length → a ≤ off ms a j ∧ off ms a j ≤ a + j * 2004) := off_le hw
  have HW : Hid (∀ m ∈ ms, m.1.ws.length ≤ 1000) := hw
  clear h hw
  go_enter Tryz.func52, Tryz.ntmps52
  go_wp2_with fail
  go_loopw [1, 5] (fun k i wr => ∃ q : Nat, q ≤ ms.length ∧ k = .int .i64 (off ms a q : Nat) ∧ i = .int .i64 q ∧ Below w.heap.size w wr) (fun _ i _ => ms.length - (intOf i).toNat)
  case atStart => exact ⟨0, by omega, rfl, rfl, Below.refl _ _⟩
  case round =>
    obtain ⟨q, hq, rfl, rfl, hbel⟩ := hrel
    by_cases hlt : q < ms.length
    · obtain ⟨m, hm⟩ := Tw.get_at hlt
      have ho := HO.out q hq
      have HES : Hid (off ms a (q + 1) = off ms a q + 4 + m.1.ws.length * 2) := off_succ hm
      have HWM : Hid (m.1.ws.length ≤ 1000) := HW.out m (Tw.mem_at hm)
      have HTX : Hid (∀ W, Calls Tryz.prog 62 #[.int .i64 (off ms a q : Nat)] W fun e w' => e = .returned (.string (mtext (off ms a q))) ∧ Below W.heap.size W w') := fun W => markText_any (off ms a q) W (by omega) (by omega)
      have HCL : Hid (∀ W, Below w.heap.size w W → (W.cell? ⟨gl, q * 5, none⟩ = some (.string (mtext (off ms a q))) ∧ W.cell? ⟨gl, q * 5 + 1, none⟩ = some (.int .i64 ((off ms a q : Nat) + 1)) ∧ W.cell? ⟨gl, q * 5 + 2, none⟩ = some (.int .i64 ((off ms a q : Nat) + 1 + 1)) ∧ W.cell? ⟨gl, q * 5 + 3, none⟩ = some (.int .i64 ((off ms a q : Nat) + 1 + 1 + 1)) ∧ W.cell? ⟨gl, q * 5 + 4, none⟩ = some (.slice m.2.1 m.1.ws.length m.2.2))) := fun W hW => by
        have hT := H.out.below hW
        obtain ⟨⟨d0, d1, d2, d3⟩, _⟩ := hT.dn q m hlt hm
        exact ⟨d0, d1, d2, d3, hT.u q m hm⟩
      have HHW : Hid (∀ W, Below w.heap.size w W → Calls Tryz.prog 80 #[.slice m.2.1 m.1.ws.length m.2.2, .int .i64 ((off ms a q + 4 : Nat) : Int)] W fun e w' => e = .returned (.int .i64 ((off ms a (q + 1) : Nat) : Int)) ∧ w' = W) := fun W hW => by
        have hT := H.out.below hW
        obtain ⟨_, hk⟩ := hT.dn q m hlt hm
        rw [HES.out]
        by_cases h0 : m.1.ws.length = 0
        · rw [h0]
          refine (heldNilW_any (off ms a q + 4) m.2.1 m.2.2 W).mono ?_
          rintro e w' ⟨rfl, e2⟩
          exact ⟨by simp, e2⟩
        · obtain ⟨g, o1, hg, hne, hc, hl, hk⟩ := hk.resolve_left h0
          rw [hg]
          exact heldOwnO_any g o1 m.1.ws.length m.2.2 (off ms a q + 4) W hk hc (by have := HWM.out; omega) (by omega)
      have hnn : ¬ ((off ms a (q + 1) : Nat) : Int) < 0 := by omega
      obtain ⟨o, HOO⟩ : ∃ o, Hid (off ms a q = o) := ⟨_, rfl⟩
      obtain ⟨o2, HO2⟩ : ∃ o2, Hid (off ms a (q + 1) = o2) := ⟨_, rfl⟩
      obtain ⟨mt, HMT⟩ : ∃ mt, Hid (mtext (off ms a q) = mt) := ⟨_, rfl⟩
      rw [HMT.out] at HTX HCL
      rw [HOO.out] at ho HTX HCL HHW ⊢
      rw [HO2.out] at HHW hnn
      clear hm HES HWM
      have ER : Hid ((o : Int) + 1 + 1 + 1 + 1 = ((o + 4 : Nat) : Int)) := by show _ = _; omega
      have hne : (mt.toList == mt.toList) = true := by simp
      have n1 : (((o : Int) + 1) != (o : Int) + 1) = false := by simp
      have n2 : (((o : Int) + 1 + 1) != (o : Int) + 1 + 1) = false := by simp
      have n3 : (((o : Int) + 1 + 1 + 1) != (o : Int) + 1 + 1 + 1) = false := by simp
      have hp0 : (0 : Int) ≤ (q : Int) := by omega
      have hp1 : (q : Int) < (ms.length : Int) := by omega
      obtain ⟨hc0, _, _, _, _⟩ := HCL.out wr hbel
      go_wp2
      go_region_with (go_at_call 62; refine (HTX.out _).mono ?_; rintro e w2 ⟨rfl, b2⟩; have b3 : Below wr.heap.size wr w2 := (ordB rfl b2).1; have B2 : Below w.heap.size w w2 := hbel.trans (b3.mono hbel.size); obtain ⟨c0, c1, c2, c3, c4⟩ := HCL.out w2 B2; clear b2 b3)
      all_goals
        go_wp2_with fail
        rw [ER.out]
        refine (HHW.out _ B2).mono ?_
        rintro e w4 ⟨rfl, e4⟩
        rw [e4]
        go_wp2_with fail
        exact ⟨⟨q + 1, by omega, by rw [HO2.out], by go_num, B2⟩, by simp [intOf]; omega⟩
    · obtain rfl : q = ms.length := by omega
      go_wp2_with fail
      go_ret
      exact ⟨rfl, hbel⟩
end Go.Proofs.YtlgfeohoebmbcaaGreat.Jn
