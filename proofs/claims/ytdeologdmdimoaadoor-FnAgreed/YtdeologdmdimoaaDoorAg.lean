/- Readings that are drawn, and lies among them: words for FnAgreed. -/
import Derived.Test.YtdeologdmdimoaaDoorGq
import Derived.Test.YtdeologdmdimoaaDoorTkb
import Derived.Test.YtdeologdmdimoaaDoorTa
import Derived.Test.YtdeologdmdimoaaDoorCn
import Derived.Test.YtdeologdmdimoaaDoorHi
namespace Go.Proofs.YtdeologdmdimoaaDoor.Ag
open Go.RowKit Go.Proofs.YtdeologdmdimoaaDoor.Sl Go.Proofs.YtdeologdmdimoaaDoor.By Go.Proofs.YtdeologdmdimoaaDoor.Ap Go.Proofs.YtdeologdmdimoaaDoor.Rr Go.Proofs.YtdeologdmdimoaaDoor.Gn Go.Proofs.YtdeologdmdimoaaDoor.Sh Go.Proofs.YtdeologdmdimoaaDoor.Mr Go.Proofs.YtdeologdmdimoaaDoor.Rw Go.Proofs.YtdeologdmdimoaaDoor.Rs Go.Proofs.YtdeologdmdimoaaDoor.Rm Go.Proofs.YtdeologdmdimoaaDoor.Cn Go.Proofs.YtdeologdmdimoaaDoor.Md Go.Proofs.YtdeologdmdimoaaDoor.Is
open Go.Proofs.YtdeologdmdimoaaDoor.Tkb (OwnR info_r list_rd OwnR.made OwnR.below OwnR.lt own_kept OwnR.mono OwnR.alloc cl fm_at)
open Go.Proofs.YtdeologdmdimoaaDoor.Rg (bel_new lt_at)

/-! of no program -/
theorem rn_l {xs : List Rd} {z : Rd} {j : Nat} (h : j < xs.length) : rn (xs ++ [z]) j = rn xs j := by
  unfold rn; rw [List.getD_eq_getElem?_getD, List.getD_eq_getElem?_getD, List.getElem?_append_left h]
theorem rn_r {xs : List Rd} {z : Rd} : rn (xs ++ [z]) xs.length = z := by
  unfold rn; rw [List.getD_eq_getElem?_getD, List.getElem?_append_right (Nat.le_refl _)]; simp
theorem pv_l {xs : List Rd} {z : Rd} {j : Nat} (h : j ≤ xs.length) : pv (xs ++ [z]) j = pv xs j := by
  unfold pv
  by_cases h0 : j = 0
  · rw [if_pos h0, if_pos h0]
  · rw [if_neg h0, if_neg h0, rn_l (by omega)]
/-- All of them are right, signed, and of nodes below i. -/
def Fine (n : Int) (i : Int) (xs : List Rd) : Prop := (∀ j, j < xs.length → okI xs j = true) ∧ (∀ j, j < xs.length → mkI n xs j = true) ∧ ∀ j, j < xs.length → (rn xs j).f < i
theorem Fine.le {n i i' : Int} {xs : List Rd} (h : Fine n i xs) (hi : i ≤ i') : Fine n i' xs := ⟨h.1, h.2.1, fun j hj => by have := h.2.2 j hj; omega⟩
theorem Fine.nil (n i : Int) : Fine n i [] := ⟨fun j hj => by simp at hj, fun j hj => by simp at hj, fun j hj => by simp at hj⟩
theorem pv_le {n i : Int} {xs : List Rd} (h : Fine n i xs) (hi : 0 ≤ i) : pv xs xs.length ≤ i := by
  unfold pv
  by_cases h0 : xs.length = 0
  · rw [if_pos h0]; exact hi
  · rw [if_neg h0]; have := h.2.2 (xs.length - 1) (by omega); omega
theorem rmk_size (id : Nat) (x : Int) : (rmk id x).size = 8 := by
  unfold rmk mac
  rw [ByteArray.size_extract, hash_size _ (by rw [List.length_append, nsec_len, rmk_len]; omega)]
  rfl
theorem inR_of {n a b : Int} (h1 : a ≤ n) (h2 : n ≤ b) : inR n a b = true := by unfold inR; rw [decide_eq_true h1, decide_eq_true h2]; rfl
theorem Fine.snoc {n : Int} {i : Nat} {xs : List Rd} {x : Int} (h : Fine n i xs) (hi : i ≤ 6) (hn : (i : Int) < n) (hx : 0 ≤ x ∧ x ≤ 1000000000) : Fine n ((i : Int) + 1) (xs ++ [⟨(i : Int), x, rmk i x⟩]) := by
  have hp := pv_le h (by omega)
  refine ⟨fun j hj => ?_, fun j hj => ?_, fun j hj => ?_⟩
  all_goals
    rw [List.length_append] at hj
    simp only [List.length_cons, List.length_nil] at hj
    by_cases hlt : j < xs.length
  · unfold okI; rw [rn_l hlt, pv_l (by omega)]; exact h.1 j hlt
  · obtain rfl : j = xs.length := by omega
    unfold okI
    rw [rn_r, pv_l (Nat.le_refl _)]
    dsimp only
    rw [inR_of hp (by omega), inR_of hx.1 hx.2, rmk_size]
    rfl
  · unfold mkI; rw [rn_l hlt]; exact h.2.1 j hlt
  · obtain rfl : j = xs.length := by omega
    unfold mkI
    rw [rn_r]
    dsimp only
    rw [decide_eq_true hn, Int.toNat_natCast]
    simp
  · rw [rn_l hlt]; have := h.2.2 j hlt; omega
  · obtain rfl : j = xs.length := by omega
    rw [rn_r]; dsimp only; omega
theorem rn_set {xs : List Rd} {z : Rd} {k j : Nat} (hk : k < xs.length) : rn (xs.set k z) j = if j = k then z else rn xs j := by
  unfold rn
  rw [List.getD_eq_getElem?_getD, List.getD_eq_getElem?_getD, List.getElem?_set]
  by_cases h : k = j
  · subst h; rw [if_pos rfl, if_pos hk, if_pos rfl]; rfl
  · rw [if_neg h, if_neg (fun e => h e.symm)]
theorem Fine.set {n i : Int} {xs : List Rd} {k : Nat} {x : Int} (h : Fine n i xs) (hk : k < xs.length) (hx : 0 ≤ x ∧ x ≤ 1000000000) : Fine n i (xs.set k ⟨(rn xs k).f, x, rmk (rn xs k).f.toNat x⟩) := by
  have hf : ∀ j, (rn (xs.set k ⟨(rn xs k).f, x, rmk (rn xs k).f.toNat x⟩) j).f = (rn xs j).f := fun j => by
    rw [rn_set hk]
    by_cases e : j = k
    · rw [if_pos e, e]
    · rw [if_neg e]
  have hpv : ∀ j, pv (xs.set k ⟨(rn xs k).f, x, rmk (rn xs k).f.toNat x⟩) j = pv xs j := fun j => by unfold pv; rw [hf]
  refine ⟨fun j hj => ?_, fun j hj => ?_, fun j hj => ?_⟩
  all_goals rw [List.length_set] at hj
  · have h1 := h.1 j hj
    unfold okI at h1 ⊢
    rw [hpv, hf]
    simp only [Bool.and_eq_true] at h1
    rw [rn_set hk]
    by_cases e : j = k
    · rw [if_pos e]
      dsimp only
      rw [h1.1, inR_of hx.1 hx.2, rmk_size]
      rfl
    · rw [if_neg e, h1.1, h1.2.1, h1.2.2]
      rfl
  · have h1 := h.2.1 j hj
    unfold mkI at h1 ⊢
    simp only [Bool.and_eq_true] at h1
    rw [hf, h1.1, rn_set hk]
    by_cases e : j = k
    · rw [if_pos e, e]; simp
    · rw [if_neg e, h1.2]; rfl
  · rw [hf]; exact h.2.2 j hj
theorem Fine.code {n : Int} {xs : List Rd} {i : Int} (h : Fine n i xs) (hf : Tm.fCode n = 0) (hl : (xs.length : Int) = 2 * Tm.fOut n + 1) (hm : xs.length ≤ 4096) : Ti.tCode n xs = 0 ∧ Ti.tOut n xs = nth (ms (Ti.vals xs xs.length)) (xs.length / 2) := by
  have h1 : okAll xs = true := decide_eq_true h.1
  have h2 : mkAll n xs = true := decide_eq_true h.2.1
  have e : Ti.tCode n xs = 0 := by
    unfold Ti.tCode
    rw [if_neg (by omega), if_neg (fun h => h hf), if_pos ⟨hl, by rw [h1, h2]; rfl⟩]
  exact ⟨e, by unfold Ti.tOut; rw [if_pos e]⟩
theorem vals_nth {xs : List Rd} {q : Nat} (h : q < xs.length) : nth (Ti.vals xs xs.length) q = (rn xs q).x := by
  unfold Ti.vals nth rn
  rw [List.take_length, List.getD_eq_getElem?_getD, List.getD_eq_getElem?_getD, List.getElem?_map, List.getElem?_eq_getElem h]
  rfl
theorem count_more (k : Int) : ∀ (ls : List Int), k ∈ ls → ls.countP (fun z => decide (z < k)) + 1 ≤ ls.countP (fun z => decide (z < k + 1))
  | [], h => by cases h
  | a :: r, h => by
    have mono : r.countP (fun z => decide (z < k)) ≤ r.countP (fun z => decide (z < k + 1)) := List.countP_mono_left (fun z _ hz => by simp at hz ⊢; omega)
    rw [List.countP_cons, List.countP_cons]
    by_cases hak : a = k
    · subst hak
      rw [if_neg (by simp), if_pos (by simp; omega)]
      omega
    · have hr : k ∈ r := by
        rcases List.mem_cons.1 h with e | e
        · exact absurd e.symm hak
        · exact e
      have := count_more k r hr
      by_cases hlt : a < k
      · rw [if_pos (by simpa using hlt), if_pos (by simp; omega)]; omega
      · rw [if_neg (by simpa using hlt), if_neg (by simp; omega)]; omega
theorem count_mono (k : Int) (ls : List Int) : ls.countP (fun z => decide (z < k)) ≤ ls.countP (fun z => decide (z < k + 1)) := List.countP_mono_left (fun z _ hz => by simp at hz ⊢; omega)
theorem hi_all (xs ls : List Int) (m : Int) (h : ∀ q, q < xs.length → (q : Int) ∉ ls → m < nth xs q) : ∀ k, k ≤ xs.length → k ≤ hi xs m k + ls.countP (fun z => decide (z < (k : Int)))
  | 0, _ => by omega
  | k + 1, hk => by
    have ih := hi_all xs ls m h k (by omega)
    rw [hi_step (by omega)]
    by_cases hm : (k : Int) ∈ ls
    · have := count_more (k : Int) ls hm
      rw [show ((k + 1 : Nat) : Int) = (k : Int) + 1 by omega]
      omega
    · rw [if_pos (h k (by omega) hm)]
      have := count_mono (k : Int) ls
      rw [show ((k + 1 : Nat) : Int) = (k : Int) + 1 by omega]
      omega
theorem lo_all (xs ls : List Int) (m : Int) (h : ∀ q, q < xs.length → (q : Int) ∉ ls → nth xs q < m) : ∀ k, k ≤ xs.length → k ≤ lo xs m k + ls.countP (fun z => decide (z < (k : Int)))
  | 0, _ => by omega
  | k + 1, hk => by
    have ih := lo_all xs ls m h k (by omega)
    rw [lo_step (by omega)]
    by_cases hm : (k : Int) ∈ ls
    · have := count_more (k : Int) ls hm
      rw [show ((k + 1 : Nat) : Int) = (k : Int) + 1 by omega]
      omega
    · rw [if_pos (h k (by omega) hm)]
      have := count_mono (k : Int) ls
      rw [show ((k + 1 : Nat) : Int) = (k : Int) + 1 by omega]
      omega
/-- THE THEOREM OF THE MEDIAN: with at most f lies among 2f + 1 it lies between two of the others. -/
theorem liars (xs ls : List Int) (f : Nat) (h : xs.length = 2 * f + 1) (hl : ls.length ≤ f) :
    (∃ q, q < xs.length ∧ (q : Int) ∉ ls ∧ nth xs q ≤ nth (ms xs) (xs.length / 2)) ∧ ∃ q, q < xs.length ∧ (q : Int) ∉ ls ∧ nth (ms xs) (xs.length / 2) ≤ nth xs q := by
  obtain ⟨_, h1, h2⟩ := median xs (by omega)
  constructor
  · apply Classical.byContradiction
    intro hn
    have := hi_all xs ls (nth (ms xs) (xs.length / 2)) (fun q hq hm => Classical.byContradiction fun e => hn ⟨q, hq, hm, by omega⟩) xs.length (Nat.le_refl _)
    have hc : ls.countP (fun z => decide (z < (xs.length : Int))) ≤ ls.length := List.countP_le_length
    omega
  · apply Classical.byContradiction
    intro hn
    have := lo_all xs ls (nth (ms xs) (xs.length / 2)) (fun q hq hm => Classical.byContradiction fun e => hn ⟨q, hq, hm, by omega⟩) xs.length (Nat.le_refl _)
    have hc : ls.countP (fun z => decide (z < (xs.length : Int))) ≤ ls.length := List.countP_le_length
    omega

/-! readings in a block -/
def cv (x : Gr.Rd) : Rd := ⟨x.f, x.x, x.m⟩
theorem cv_rn {us : List Gr.Rd} {j : Nat} {x : Gr.Rd} (h : us[j]? = some x) : rn (us.map cv) j = cv x := by
  unfold rn; rw [List.getD_eq_getElem?_getD, List.getElem?_map, h]; rfl
def BlkR (w : World) (g : Nat) (rs : List Rd) : Prop := ∃ A, w.heap[g]? = some (.cells A 40 (0, 0)) ∧ ∀ i, i < rs.length → A[i * 3]? = some (.int .i64 (rn rs i).f) ∧ A[i * 3 + 1]? = some (.int .i64 (rn rs i).x) ∧ A[i * 3 + 2]? = some (.string (rn rs i).m)
theorem BlkR.kept {w w' : World} {g : Nat} {rs : List Rd} (h : BlkR w g rs) (hb : w'.heap[g]? = w.heap[g]?) : BlkR w' g rs := by
  obtain ⟨A, h1, h2⟩ := h
  exact ⟨A, hb.trans h1, h2⟩
theorem BlkR.lt {w : World} {g : Nat} {rs : List Rd} (h : BlkR w g rs) : g < w.heap.size := by
  obtain ⟨A, h1, _⟩ := h
  exact (Array.getElem?_eq_some_iff.1 h1).1
theorem BlkR.below {w w' : World} {g : Nat} {rs : List Rd} (h : BlkR w g rs) (hb : Below w.heap.size w w') : BlkR w' g rs := h.kept (hb.block g h.lt)
theorem BlkR.cells {w : World} {g : Nat} {rs : List Rd} (h : BlkR w g rs) {i : Nat} (hi : i < rs.length) : (w.cell? ⟨g, i * 3, none⟩ = some (.int .i64 (rn rs i).f) ∧ w.frozen? ⟨g, i * 3, none⟩ = false) ∧ (w.cell? ⟨g, i * 3 + 1, none⟩ = some (.int .i64 (rn rs i).x) ∧ w.frozen? ⟨g, i * 3 + 1, none⟩ = false) ∧ w.cell? ⟨g, i * 3 + 2, none⟩ = some (.string (rn rs i).m) ∧ w.frozen? ⟨g, i * 3 + 2, none⟩ = false := by
  obtain ⟨A, h1, h2⟩ := h
  obtain ⟨a, b, c⟩ := h2 i hi
  exact ⟨blk_cell h1 _ a, blk_cell h1 _ b, blk_cell h1 _ c⟩
theorem BlkR.row {w : World} {g cap : Nat} {rs : List Rd} (h : BlkR w g rs) (hc : rs.length ≤ cap) : RowR w (.slice (some ⟨g, 0, none⟩) rs.length cap) rs := by
  refine ⟨_, cap, rfl, .inr ⟨g, 0, rfl, hc, h.lt, fun i hi => ?_⟩⟩
  obtain ⟨a, b, c⟩ := h.cells hi
  rw [Nat.zero_add]
  exact ⟨a.1, b.1, c.1⟩
theorem get_set {A : Array Value} {i j : Nat} {x y : Value} (h : A[j]? = some y) : (A.setIfInBounds i x)[j]? = some (if i = j then x else y) := by
  have hj := (Array.getElem?_eq_some_iff.1 h).1
  rw [Array.getElem?_setIfInBounds]
  by_cases e : i = j
  · rw [if_pos e, if_pos e, if_pos (by rw [e]; exact hj)]
  · rw [if_neg e, if_neg e, h]
theorem BlkR.set {w : World} {g k : Nat} {rs : List Rd} (h : BlkR w g rs) (hk : k < rs.length) (z : Rd) : BlkR (((w.setCell ⟨g, k * 3, none⟩ (.int .i64 z.f)).setCell ⟨g, k * 3 + 1, none⟩ (.int .i64 z.x)).setCell ⟨g, k * 3 + 2, none⟩ (.string z.m)) g (rs.set k z) := by
  obtain ⟨A, h1, h2⟩ := h
  refine ⟨_, blk_set (blk_set (blk_set h1 (k * 3) (.int .i64 z.f)) (k * 3 + 1) (.int .i64 z.x)) (k * 3 + 2) (.string z.m), fun i hi => ?_⟩
  rw [List.length_set] at hi
  obtain ⟨a, b, c⟩ := h2 i hi
  rw [rn_set hk]
  by_cases e : i = k
  · subst e
    rw [if_pos rfl]
    refine ⟨?_, ?_, ?_⟩
    · rw [get_set (get_set (get_set a)), if_pos rfl, if_neg (by omega), if_neg (by omega)]
    · rw [get_set (get_set (get_set b)), if_neg (by omega), if_pos rfl]
    · rw [get_set (get_set (get_set c)), if_pos rfl]
  · rw [if_neg e]
    refine ⟨?_, ?_, ?_⟩
    · rw [get_set (get_set (get_set a)), if_neg (by omega), if_neg (by omega), if_neg (by omega)]
    · rw [get_set (get_set (get_set b)), if_neg (by omega), if_neg (by omega), if_neg (by omega)]
    · rw [get_set (get_set (get_set c)), if_neg (by omega), if_neg (by omega), if_neg (by omega)]
theorem BlkR.of {w : World} {B : Nat} {v : Value} {us : List Gr.Rd} (h : OwnR w B v us) (hne : us ≠ []) : ∃ g cap, v = .slice (some ⟨g, 0, none⟩) us.length cap ∧ B ≤ g ∧ us.length ≤ cap ∧ BlkR w g (us.map cv) := by
  obtain ⟨hl, h⟩ := h
  rcases h with ⟨rfl, h0⟩ | ⟨g, cap, cur, rfl, hB, hg, hc, _, hs, htk⟩
  · exact absurd (List.length_eq_zero_iff.1 h0) hne
  · refine ⟨g, cap, rfl, hB, hc, _, hg, fun i hi => ?_⟩
    rw [List.length_map] at hi
    obtain ⟨x, hx⟩ : ∃ x, us[i]? = some x := ⟨_, List.getElem?_eq_getElem hi⟩
    rw [cv_rn hx]
    have key : ∀ j u, j < 3 → (cl x)[j]? = some u → cur[i * 3 + j]? = some u := fun j u hj hu => by
      rw [← Array.getElem?_toList]
      have h1 := fm_at us i x j hx hj
      rw [← htk, List.getElem?_take, if_pos (by omega)] at h1
      rw [h1, hu]
    exact ⟨key 0 _ (by decide) rfl, key 1 _ (by decide) rfl, key 2 _ (by decide) rfl⟩

theorem ownI_set {w : World} {B b : Nat} {v : Value} {xs : List Int} (h : OwnI w B v xs) (hb : b < B) (i : Nat) (x : Value) : OwnI (w.setCell ⟨b, i, none⟩ x) B v xs := by
  obtain ⟨hl, h⟩ := h
  refine ⟨hl, ?_⟩
  rcases h with h | ⟨g, cap, cur, rfl, h1, hg, h2⟩
  · exact .inl h
  · exact .inr ⟨g, cap, cur, rfl, h1, (blk_far (by omega) i x).trans hg, h2⟩
end Go.Proofs.YtdeologdmdimoaaDoor.Ag
