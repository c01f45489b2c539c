/- A book's values in the order of their keys. -/
import Derived.Test.YtlgfeohoebmbcaaGreatJe
namespace Go.Proofs.YtlgfeohoebmbcaaGreat.Jf
open Go.RowKit Go.Proofs.YtlgfeohoebmbcaaGreat.Sl Go.Proofs.YtlgfeohoebmbcaaGreat.By Go.Proofs.YtlgfeohoebmbcaaGreat.Ap Go.Proofs.YtlgfeohoebmbcaaGreat.Tb Go.Proofs.YtlgfeohoebmbcaaGreat.Tw Go.Proofs.YtlgfeohoebmbcaaGreat.Mw Go.Proofs.YtlgfeohoebmbcaaGreat.Wa Go.Proofs.YtlgfeohoebmbcaaGreat.Bk Go.Proofs.YtlgfeohoebmbcaaGreat.Tp Go.Proofs.YtlgfeohoebmbcaaGreat.Da Go.Proofs.YtlgfeohoebmbcaaGreat.Ja Go.Proofs.YtlgfeohoebmbcaaGreat.Jb
open Go.Proofs.YtlgfeohoebmbcaaGreat.Lo (LkA uV clL OwnL own_block kind_ne Apart nest2 list_lk infoL OwnL.below OwnL.slice)
open Go.Proofs.YtlgfeohoebmbcaaGreat.Tx (blk_cell blk_set blk_far blk_new bel_new)
open Go.Proofs.YtlgfeohoebmbcaaGreat.Je
/-- Texts, or numbers, in a slice of the call's own: what its cells hold. -/
theorem cells_of {w : World} {B : Nat} {e : TypeId} {v : Value} {n : Nat} {xs : List Value} (h : w.ownsRow B e 1 v n xs) : ∃ a cap, v = .slice a n cap ∧ (n = 0 ∨ ∃ g, a = some ⟨g, 0, none⟩ ∧ B ≤ g ∧ g < w.heap.size ∧ n ≤ cap ∧ ∀ i u, xs[i]? = some u → w.cell? ⟨g, i, none⟩ = some u) := by
  obtain ⟨hl, ⟨rfl, h0⟩ | ⟨g, cap, cur, rfl, hB, hg, hc, _, hs, htk⟩⟩ := h
  · exact ⟨none, 0, by rw [h0], .inl h0⟩
  · refine ⟨_, cap, rfl, .inr ⟨g, rfl, hB, (Array.getElem?_eq_some_iff.1 hg).1, hc, fun i u hi => ?_⟩⟩
    rw [← htk, List.getElem?_take] at hi
    split at hi
    · rw [Joins.cell_of_block hg i]; simpa using hi
    · cases hi
theorem bytes_back (n : ByteArray) : (⟨n.data.toList.toArray⟩ : ByteArray) = n := by cases n; simp
/-- A slice of one Seen, as it is made. -/
theorem rowS1 (w : World) (x : Sn) : RowS (w.alloc (.cells #[.int .i64 x.c, .int .i64 x.s, .int .i64 x.k, .int .i64 x.t, .int .i64 x.h, .int .i64 x.e] 113)) (.slice (some ⟨w.heap.size, 0, none⟩) 1 1) [x] := by
  have hb := blk_new w #[.int .i64 x.c, .int .i64 x.s, .int .i64 x.k, .int .i64 x.t, .int .i64 x.h, .int .i64 x.e] 113
  refine ⟨_, 1, rfl, .inr ⟨w.heap.size, 0, rfl, Nat.le_refl _, by simp, fun i y hi => ?_⟩⟩
  obtain rfl : i = 0 := by have := (List.getElem?_eq_some_iff.1 hi).1; simp at this; exact this
  cases hi
  exact ⟨(blk_cell hb 0 rfl).1, (blk_cell hb 1 rfl).1, (blk_cell hb 2 rfl).1, (blk_cell hb 3 rfl).1, (blk_cell hb 4 rfl).1, (blk_cell hb 5 rfl).1⟩
set_option maxRecDepth 100000 in
set_option maxHeartbeats 1600000 in
theorem inOrderL_any (b : Nat) (w : World) (ps : List LkA) (hm : MapL w b ps.length (mL ps)) (hn : NmA (ps.map (·.1))) (hs : ∀ p ∈ ps, p.1.n.size ≤ 1000000) (hl : ps.length ≤ 1000) :
    Calls Tryz.prog 74 #[.map (some b)] w fun e w' => ∃ v, e = .returned v ∧ OwnL w' w.heap.size v ps ∧ Below w.heap.size w w' := by
  obtain ⟨i0, hi0, hz0, hz1, hz2⟩ := info_parts infoL
  have HM : Hid (MapL w b ps.length (mL ps) ∧ NmA (ps.map (·.1)) ∧ ∀ p ∈ ps, p.1.n.size ≤ 1000000) := ⟨hm, hn, hs⟩
  have HK : Hid (∀ W, Calls Tryz.prog 99 #[.map (some b)] W fun e w' => e = .returned (.func (.func 123) #[] #[.pointer (some ⟨W.heap.size, 0, none⟩)]) ∧ w' = W.alloc (.cells #[.map (some b)] 98)) := fun W => keysL_any (some b) W
  have HSO : Hid (Calls Tryz.prog 98 #[.func (.func 123) #[] #[.pointer (some ⟨w.heap.size, 0, none⟩)]] (w.alloc (.cells #[.map (some b)] 98)) fun e w' => ∃ a cap, e = .returned (.slice a ps.length cap) ∧ (ps.length = 0 ∨ ∃ g, a = some ⟨g, 0, none⟩ ∧ g < w'.heap.size ∧ ps.length ≤ cap ∧ ∀ (i : Nat) x, ps[i]? = some x → w'.cell? ⟨g, i, none⟩ = some (.string x.1.n)) ∧ Below w.heap.size w w') := by
    refine (sortedL_any b ps.length (mL ps) w hm (by rw [show Maps.size (mL ps) = ps.length from size_mapOf ps]; unfold maxLen; omega) (by rw [show Maps.size (mL ps) = ps.length from size_mapOf ps]; omega)).mono ?_
    rintro e w' ⟨v, ks, rfl, hS, hrow, hb⟩
    have hE := sort_L hn hS
    have hln : ks.length = ps.length := by rw [← List.length_mergeSort ks, hE, List.length_map]
    rw [hE, hln] at hrow
    obtain ⟨a, cap, rfl, h⟩ := cells_of hrow
    refine ⟨a, cap, rfl, h.imp id ?_, ((Below.refl _ w).alloc (Nat.le_refl _) _).trans (hb.mono (Nat.le_succ _))⟩
    rintro ⟨g, h1, _, h2, h3, h4⟩
    exact ⟨g, h1, h2, h3, fun i x hx => h4 i _ (by rw [List.getElem?_map, List.getElem?_map, hx]; show some (Value.string ⟨x.1.n.data.toList.toArray⟩) = _; rw [bytes_back])⟩
  clear hm hn hs
  go_enter Tryz.func74, Tryz.ntmps74
  go_upto_region 3 with (first | (go_at_call 99; refine (HK.out _).mono ?_; rintro e w' ⟨rfl, rfl⟩) | (go_at_call 98; refine HSO.out.mono ?_; rintro e w2 ⟨a, cap, rfl, h2, b2⟩; have H2 : Hid ((ps.length = 0 ∨ ∃ g, a = some ⟨g, 0, none⟩ ∧ g < w2.heap.size ∧ ps.length ≤ cap ∧ ∀ (i : Nat) x, ps[i]? = some x → w2.cell? ⟨g, i, none⟩ = some (.string x.1.n)) ∧ Below w.heap.size w w2) := ⟨h2, b2⟩; clear h2 b2))
  have HW : Hid (w.heap.size ≤ w2.heap.size ∧ b < w.heap.size) := ⟨H2.out.2.size, HM.out.1.lt⟩
  clear HK HSO
  go_loopw [3, 10] (fun l i wr => ∃ k : Nat, k ≤ ps.length ∧ i = .int .i64 k ∧ Hid (OwnL wr w2.heap.size l (ps.take k) ∧ Below w2.heap.size w2 wr)) (fun _ i _ => ps.length - (intOf i).toNat)
  case atStart => exact ⟨0, by omega, rfl, World.ownsRow_nil _ _ _ _, Below.refl _ _⟩
  case round =>
    obtain ⟨k, hk, rfl, HO⟩ := hrel
    by_cases hlt : k < ps.length
    · obtain ⟨x, hx⟩ := Tw.get_at hlt
      obtain ⟨g, rfl, hg, hcap, hcell⟩ := H2.out.1.resolve_left (by omega)
      have hc := (HO.out.2.cell (p := ⟨g, k, none⟩) hg).trans (hcell k x hx)
      have hlk : (Instr.lookup 98 (.map (some b)) (.string x.1.n) false).run Tryz.prog wr = .ok (.agg #[.string x.1.n, .int .i64 x.1.t, .int .i64 x.1.h, .int .i64 x.1.e, .slice x.2.1 x.1.ws.length x.2.2]) wr := lookL (map_kept HM.out.1 (((H2.out.2.trans (HO.out.2.mono HW.out.1)).block b HW.out.2))) HM.out.2.1 (List.mem_of_getElem? hx) (HM.out.2.2 x (List.mem_of_getElem? hx))
      have HX : Hid (ps[k]? = some x) := hx
      clear hcell hx
      go_wp2_with (at_builtin; go_must (refine list_lk (by rfl) _ _ 27 (by rfl) i0 Tryz.underlying27 hi0 hz0 hz1 hz2 w2.heap.size w2 wr u3 (ps.take k) x (by rfl) HO.out.1 HO.out.2 HO.out.2.size wr.heap.size (by rfl) rfl (by rw [List.length_take]; omega) ?_; intro v5 w5 o5 b5 _; have H5 : Hid (OwnL w5 w2.heap.size v5 (ps.take k ++ [x]) ∧ Below w2.heap.size w2 w5) := ⟨o5, b5⟩; clear o5 b5 hlk hc))
      exact ⟨⟨k + 1, by omega, by go_num, by rw [take_at HX.out]; exact H5.out⟩, by simp [intOf]; omega⟩
    · obtain rfl : k = ps.length := by omega
      have HE : Hid (OwnL wr w.heap.size _ ps ∧ Below w.heap.size w wr) := ⟨by have := HO.out.1; rw [List.take_length] at this; exact this.mono HW.out.1, H2.out.2.trans (HO.out.2.mono HW.out.1)⟩
      clear HO
      go_wp2_with fail
      go_ret
      exact ⟨_, rfl, HE.out⟩
set_option maxRecDepth 100000 in
set_option maxHeartbeats 1600000 in
theorem inOrderS_any (b : Nat) (w : World) (ss : List Sn) (hm : MapS w b ss.length (mS ss)) (hn : ClA ss) (hs : ∀ s ∈ ss, 0 ≤ s.c ∧ s.c ≤ 255) (hl : ss.length ≤ 1000) :
    Calls Tryz.prog 76 #[.map (some b)] w fun e w' => ∃ v, e = .returned v ∧ OwnS w' w.heap.size v ss ∧ Below w.heap.size w w' := by
  obtain ⟨i0, hi0, hz0, hz1, hz2⟩ := info_parts infoS
  have HM : Hid (MapS w b ss.length (mS ss) ∧ ClA ss ∧ ∀ s ∈ ss, 0 ≤ s.c ∧ s.c ≤ 255) := ⟨hm, hn, hs⟩
  have HK : Hid (∀ W, Calls Tryz.prog 102 #[.map (some b)] W fun e w' => e = .returned (.func (.func 126) #[] #[.pointer (some ⟨W.heap.size, 0, none⟩)]) ∧ w' = W.alloc (.cells #[.map (some b)] 100)) := fun W => keysS_any (some b) W
  have HSO : Hid (Calls Tryz.prog 101 #[.func (.func 126) #[] #[.pointer (some ⟨w.heap.size, 0, none⟩)]] (w.alloc (.cells #[.map (some b)] 100)) fun e w' => ∃ a cap, e = .returned (.slice a ss.length cap) ∧ (ss.length = 0 ∨ ∃ g, a = some ⟨g, 0, none⟩ ∧ g < w'.heap.size ∧ ss.length ≤ cap ∧ ∀ (i : Nat) x, ss[i]? = some x → w'.cell? ⟨g, i, none⟩ = some (.int .i64 x.c)) ∧ Below w.heap.size w w') := by
    refine (sortedS_any b ss.length (mS ss) w hm (by rw [show Maps.size (mS ss) = ss.length from size_mapOf ss]; unfold maxLen; omega) (by rw [show Maps.size (mS ss) = ss.length from size_mapOf ss]; omega)).mono ?_
    rintro e w' ⟨v, ks, rfl, hS, hrow, hb⟩
    have hE := sort_S hn hS
    have hln : ks.length = ss.length := by rw [← List.length_mergeSort ks, hE, List.length_map]
    rw [hE, hln] at hrow
    obtain ⟨a, cap, rfl, h⟩ := cells_of hrow
    refine ⟨a, cap, rfl, h.imp id ?_, ((Below.refl _ w).alloc (Nat.le_refl _) _).trans (hb.mono (Nat.le_succ _))⟩
    rintro ⟨g, h1, _, h2, h3, h4⟩
    exact ⟨g, h1, h2, h3, fun i x hx => h4 i _ (by rw [List.getElem?_map, List.getElem?_map, hx]; rfl)⟩
  clear hm hn hs
  go_enter Tryz.func76, Tryz.ntmps76
  go_upto_region 3 with (first | (go_at_call 102; refine (HK.out _).mono ?_; rintro e w' ⟨rfl, rfl⟩) | (go_at_call 101; refine HSO.out.mono ?_; rintro e w2 ⟨a, cap, rfl, h2, b2⟩; have H2 : Hid ((ss.length = 0 ∨ ∃ g, a = some ⟨g, 0, none⟩ ∧ g < w2.heap.size ∧ ss.length ≤ cap ∧ ∀ (i : Nat) x, ss[i]? = some x → w2.cell? ⟨g, i, none⟩ = some (.int .i64 x.c)) ∧ Below w.heap.size w w2) := ⟨h2, b2⟩; clear h2 b2))
  have HW : Hid (w.heap.size ≤ w2.heap.size ∧ b < w.heap.size) := ⟨H2.out.2.size, HM.out.1.lt⟩
  clear HK HSO
  go_loopw [3, 10] (fun l i wr => ∃ k : Nat, k ≤ ss.length ∧ i = .int .i64 k ∧ Hid (OwnS wr w2.heap.size l (ss.take k) ∧ Below w2.heap.size w2 wr)) (fun _ i _ => ss.length - (intOf i).toNat)
  case atStart => exact ⟨0, by omega, rfl, World.ownsRow_nil _ _ _ _, Below.refl _ _⟩
  case round =>
    obtain ⟨k, hk, rfl, HO⟩ := hrel
    by_cases hlt : k < ss.length
    · obtain ⟨x, hx⟩ := Tw.get_at hlt
      obtain ⟨g, rfl, hg, hcap, hcell⟩ := H2.out.1.resolve_left (by omega)
      have hc := (HO.out.2.cell (p := ⟨g, k, none⟩) hg).trans (hcell k x hx)
      have hlk : (Instr.lookup 100 (.map (some b)) (.int .i64 x.c) false).run Tryz.prog wr = .ok (.agg #[.int .i64 x.c, .int .i64 x.s, .int .i64 x.k, .int .i64 x.t, .int .i64 x.h, .int .i64 x.e]) wr := lookS (map_kept HM.out.1 (((H2.out.2.trans (HO.out.2.mono HW.out.1)).block b HW.out.2))) HM.out.2.1 (List.mem_of_getElem? hx) (HM.out.2.2 x (List.mem_of_getElem? hx))
      have HX : Hid (ss[k]? = some x) := hx
      clear hcell hx
      go_wp2_with (at_builtin; go_must (refine appS (by rfl) _ _ 28 (by rfl) i0 Tryz.underlying28 hi0 hz0 hz1 hz2 w2.heap.size w2 (wr.alloc (.cells #[.int .i64 x.c, .int .i64 x.s, .int .i64 x.k, .int .i64 x.t, .int .i64 x.h, .int .i64 x.e] 113)) u3 (.slice (some ⟨wr.heap.size, 0, none⟩) 1 1) (ss.take k) [x] (by rfl) (HO.out.1.alloc _) (HO.out.2.alloc HO.out.2.size _) (by rw [Bk.size_new]; have := HO.out.2.size; omega) (by rfl) (rowS1 wr x) (by rw [List.length_take]; simp; omega) ?_; intro v5 w5 o5 b5 _; have H5 : Hid (OwnS w5 w2.heap.size v5 (ss.take k ++ [x]) ∧ Below w2.heap.size w2 w5) := ⟨o5, b5⟩; clear o5 b5 hlk hc))
      exact ⟨⟨k + 1, by omega, by go_num, by rw [take_at HX.out]; exact H5.out⟩, by simp [intOf]; omega⟩
    · obtain rfl : k = ss.length := by omega
      have HE : Hid (OwnS wr w.heap.size _ ss ∧ Below w.heap.size w wr) := ⟨by have := HO.out.1; rw [List.take_length] at this; exact this.mono HW.out.1, H2.out.2.trans (HO.out.2.mono HW.out.1)⟩
      clear HO
      go_wp2_with fail
      go_ret
      exact ⟨_, rfl, HE.out⟩
end Go.Proofs.YtlgfeohoebmbcaaGreat.Jf
