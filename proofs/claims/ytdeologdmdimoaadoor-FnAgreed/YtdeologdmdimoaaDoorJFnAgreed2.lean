/- Texts put together: Hi, Ag, Ah, SlRow. -/
import Derived.Test.YtdeologdmdimoaaDoorIs
import Derived.Test.YtdeologdmdimoaaDoorGq
import Derived.Test.YtdeologdmdimoaaDoorTkb
import Derived.Test.YtdeologdmdimoaaDoorJFnAgreed1
import Derived.Test.YtdeologdmdimoaaDoorSl
import Derived.OpenShut
/- A number in a list: the laws' hasInt. -/
namespace Go.Proofs.YtdeologdmdimoaaDoor.Hi
open Go.RowKit Go.Proofs.YtdeologdmdimoaaDoor.Sl Go.Proofs.YtdeologdmdimoaaDoor.Is

theorem ret_b {a b : Bool} (h : a = b) : Ending.returned (.bool a) = .returned (.bool b) := by rw [h]
set_option maxRecDepth 100000 in
set_option maxHeartbeats 400000 in
theorem hasInt_any (v : Value) (xs : List Int) (n : Int) (w : World) (h : RowI w v xs) (hl : xs.length ≤ 1048576) :
    Calls Tryd.prog 16 #[v, .int .i64 n] w fun e w' => e = .returned (.bool (decide (n ∈ xs))) ∧ Below w.heap.size w w' := by
  obtain ⟨a, cap, rfl, h, _⟩ := h
  go_enter Tryd.func16, Tryd.ntmps16
  go_wp2_with fail
  go_loopw [5] (fun i wr => ∃ k : Nat, k ≤ xs.length ∧ i = .int .i64 k ∧ Hid (∀ j, j < k → nth xs j ≠ n) ∧ ∃ q, wr = w.drewN q) (fun i _ => xs.length - (intOf i).toNat)
  case atStart => exact ⟨0, by omega, rfl, fun j hj => by omega, 0, rfl⟩
  case round =>
    obtain ⟨k, hk, rfl, HN, q, rfl⟩ := hrel
    by_cases hlt : k < xs.length
    · rcases h with h | ⟨b, off, rfl, hc, hb, hcell⟩
      · exact absurd hlt (by rw [h]; simp)
      have hc1 := hcell k hlt
      clear hcell
      by_cases he : nth xs k = n
      · have HM : Hid (decide (n ∈ xs) = true) := by show _ = _; rw [← he]; exact decide_eq_true (nth_mem hlt)
        have he' : (nth xs k == n) = true := by simpa using he
        clear he
        go_wp2_with fail
        all_goals
          go_ret
          exact ⟨ret_b HM.out.symm, ⟨rfl, rfl, rfl, Nat.le_refl _, fun _ _ => rfl⟩⟩
      · have he' : (nth xs k == n) = false := by simpa using he
        have HN' : Hid (∀ j, j < k + 1 → nth xs j ≠ n) := fun j hj => by
          by_cases e : j = k
          · rw [e]; exact he
          · exact HN.out j (by omega)
        clear he HN
        go_wp2_with fail
        all_goals exact ⟨⟨k + 1, by omega, by go_num, HN', _, rfl⟩, by simp [intOf]; omega⟩
    · obtain rfl : k = xs.length := by omega
      have HM : Hid (decide (n ∈ xs) = false) := by
        refine decide_eq_false fun hm => ?_
        obtain ⟨j, hj, e⟩ := List.mem_iff_getElem.1 hm
        have := HN.out j hj
        unfold nth at this
        rw [List.getD_eq_getElem?_getD, List.getElem?_eq_getElem hj] at this
        exact this e
      go_wp2_with fail
      go_ret
      exact ⟨ret_b HM.out.symm, ⟨rfl, rfl, rfl, Nat.le_refl _, fun _ _ => rfl⟩⟩
end Go.Proofs.YtdeologdmdimoaaDoor.Hi

/- Readings that are drawn, and lies among them: words for FnAgreed. -/
namespace Go.Proofs.YtdeologdmdimoaaDoor.Ag
open Go.RowKit Go.Proofs.YtdeologdmdimoaaDoor.Sl Go.Proofs.YtdeologdmdimoaaDoor.By Go.Proofs.YtdeologdmdimoaaDoor.Ap Go.Proofs.YtdeologdmdimoaaDoor.Rr Go.Proofs.YtdeologdmdimoaaDoor.Gn Go.Proofs.YtdeologdmdimoaaDoor.Sh Go.Proofs.YtdeologdmdimoaaDoor.Mr Go.Proofs.YtdeologdmdimoaaDoor.Rw Go.Proofs.YtdeologdmdimoaaDoor.Rs Go.Proofs.YtdeologdmdimoaaDoor.Rm Go.Proofs.YtdeologdmdimoaaDoor.Cn Go.Proofs.YtdeologdmdimoaaDoor.Md Go.Proofs.YtdeologdmdimoaaDoor.Is
open Go.Proofs.YtdeologdmdimoaaDoor.Tkb (OwnR info_r list_rd OwnR.made OwnR.below OwnR.lt own_kept OwnR.mono OwnR.alloc cl fm_at)
open Go.Proofs.YtdeologdmdimoaaDoor.Rg (bel_new lt_at)

/-! of no program -/
theorem rn_l {xs : List Rd} {z : Rd} {j : Nat} (h : j < xs.length) : rn (xs ++ [z]) j = rn xs j := by
  unfold rn; rw [List.getD_eq_getElem?_getD, List.getD_eq_getElem?_getD, List.getElem?_append_left h]
theorem rn_r {xs : List Rd} {z : Rd} : rn (xs ++ [z]) xs.length = z := by
  unfold rn; rw [List.getD_eq_getElem?_getD, List.getElem?_append_right (Nat.le_refl _)]; simp
theorem pv_l {xs : List Rd} {z : Rd} {j : Nat} (h : j ≤ xs.length) : pv (xs ++ [z]) j = pv xs j := by
  unfold pv
  by_cases h0 : j = 0
  · rw [if_pos h0, if_pos h0]
  · rw [if_neg h0, if_neg h0, rn_l (by omega)]
/-- All of them are right, signed, and of nodes below i. -/
def Fine (n : Int) (i : Int) (xs : List Rd) : Prop := (∀ j, j < xs.length → okI xs j = true) ∧ (∀ j, j < xs.length → mkI n xs j = true) ∧ ∀ j, j < xs.length → (rn xs j).f < i
theorem Fine.le {n i i' : Int} {xs : List Rd} (h : Fine n i xs) (hi : i ≤ i') : Fine n i' xs := ⟨h.1, h.2.1, fun j hj => by have := h.2.2 j hj; omega⟩
theorem Fine.nil (n i : Int) : Fine n i [] := ⟨fun j hj => by simp at hj, fun j hj => by simp at hj, fun j hj => by simp at hj⟩
theorem pv_le {n i : Int} {xs : List Rd} (h : Fine n i xs) (hi : 0 ≤ i) : pv xs xs.length ≤ i := by
  unfold pv
  by_cases h0 : xs.length = 0
  · rw [if_pos h0]; exact hi
  · rw [if_neg h0]; have := h.2.2 (xs.length - 1) (by omega); omega
theorem rmk_size (id : Nat) (x : Int) : (rmk id x).size = 8 := by
  unfold rmk mac
  rw [ByteArray.size_extract, hash_size _ (by rw [List.length_append, nsec_len, rmk_len]; omega)]
  rfl
theorem inR_of {n a b : Int} (h1 : a ≤ n) (h2 : n ≤ b) : inR n a b = true := by unfold inR; rw [decide_eq_true h1, decide_eq_true h2]; rfl
theorem Fine.snoc {n : Int} {i : Nat} {xs : List Rd} {x : Int} (h : Fine n i xs) (hi : i ≤ 6) (hn : (i : Int) < n) (hx : 0 ≤ x ∧ x ≤ 1000000000) : Fine n ((i : Int) + 1) (xs ++ [⟨(i : Int), x, rmk i x⟩]) := by
  have hp := pv_le h (by omega)
  refine ⟨fun j hj => ?_, fun j hj => ?_, fun j hj => ?_⟩
  all_goals
    rw [List.length_append] at hj
    simp only [List.length_cons, List.length_nil] at hj
    by_cases hlt : j < xs.length
  · unfold okI; rw [rn_l hlt, pv_l (by omega)]; exact h.1 j hlt
  · obtain rfl : j = xs.length := by omega
    unfold okI
    rw [rn_r, pv_l (Nat.le_refl _)]
    dsimp only
    rw [inR_of hp (by omega), inR_of hx.1 hx.2, rmk_size]
    rfl
  · unfold mkI; rw [rn_l hlt]; exact h.2.1 j hlt
  · obtain rfl : j = xs.length := by omega
    unfold mkI
    rw [rn_r]
    dsimp only
    rw [decide_eq_true hn, Int.toNat_natCast]
    simp
  · rw [rn_l hlt]; have := h.2.2 j hlt; omega
  · obtain rfl : j = xs.length := by omega
    rw [rn_r]; dsimp only; omega
theorem rn_set {xs : List Rd} {z : Rd} {k j : Nat} (hk : k < xs.length) : rn (xs.set k z) j = if j = k then z else rn xs j := by
  unfold rn
  rw [List.getD_eq_getElem?_getD, List.getD_eq_getElem?_getD, List.getElem?_set]
  by_cases h : k = j
  · subst h; rw [if_pos rfl, if_pos hk, if_pos rfl]; rfl
  · rw [if_neg h, if_neg (fun e => h e.symm)]
theorem Fine.set {n i : Int} {xs : List Rd} {k : Nat} {x : Int} (h : Fine n i xs) (hk : k < xs.length) (hx : 0 ≤ x ∧ x ≤ 1000000000) : Fine n i (xs.set k ⟨(rn xs k).f, x, rmk (rn xs k).f.toNat x⟩) := by
  have hf : ∀ j, (rn (xs.set k ⟨(rn xs k).f, x, rmk (rn xs k).f.toNat x⟩) j).f = (rn xs j).f := fun j => by
    rw [rn_set hk]
    by_cases e : j = k
    · rw [if_pos e, e]
    · rw [if_neg e]
  have hpv : ∀ j, pv (xs.set k ⟨(rn xs k).f, x, rmk (rn xs k).f.toNat x⟩) j = pv xs j := fun j => by unfold pv; rw [hf]
  refine ⟨fun j hj => ?_, fun j hj => ?_, fun j hj => ?_⟩
  all_goals rw [List.length_set] at hj
  · have h1 := h.1 j hj
    unfold okI at h1 ⊢
    rw [hpv, hf]
    simp only [Bool.and_eq_true] at h1
    rw [rn_set hk]
    by_cases e : j = k
    · rw [if_pos e]
      dsimp only
      rw [h1.1, inR_of hx.1 hx.2, rmk_size]
      rfl
    · rw [if_neg e, h1.1, h1.2.1, h1.2.2]
      rfl
  · have h1 := h.2.1 j hj
    unfold mkI at h1 ⊢
    simp only [Bool.and_eq_true] at h1
    rw [hf, h1.1, rn_set hk]
    by_cases e : j = k
    · rw [if_pos e, e]; simp
    · rw [if_neg e, h1.2]; rfl
  · rw [hf]; exact h.2.2 j hj
theorem Fine.code {n : Int} {xs : List Rd} {i : Int} (h : Fine n i xs) (hf : Tm.fCode n = 0) (hl : (xs.length : Int) = 2 * Tm.fOut n + 1) (hm : xs.length ≤ 4096) : Ti.tCode n xs = 0 ∧ Ti.tOut n xs = nth (ms (Ti.vals xs xs.length)) (xs.length / 2) := by
  have h1 : okAll xs = true := decide_eq_true h.1
  have h2 : mkAll n xs = true := decide_eq_true h.2.1
  have e : Ti.tCode n xs = 0 := by
    unfold Ti.tCode
    rw [if_neg (by omega), if_neg (fun h => h hf), if_pos ⟨hl, by rw [h1, h2]; rfl⟩]
  exact ⟨e, by unfold Ti.tOut; rw [if_pos e]⟩
theorem vals_nth {xs : List Rd} {q : Nat} (h : q < xs.length) : nth (Ti.vals xs xs.length) q = (rn xs q).x := by
  unfold Ti.vals nth rn
  rw [List.take_length, List.getD_eq_getElem?_getD, List.getD_eq_getElem?_getD, List.getElem?_map, List.getElem?_eq_getElem h]
  rfl
theorem count_more (k : Int) : ∀ (ls : List Int), k ∈ ls → ls.countP (fun z => decide (z < k)) + 1 ≤ ls.countP (fun z => decide (z < k + 1))
  | [], h => by cases h
  | a :: r, h => by
    have mono : r.countP (fun z => decide (z < k)) ≤ r.countP (fun z => decide (z < k + 1)) := List.countP_mono_left (fun z _ hz => by simp at hz ⊢; omega)
    rw [List.countP_cons, List.countP_cons]
    by_cases hak : a = k
    · subst hak
      rw [if_neg (by simp), if_pos (by simp; omega)]
      omega
    · have hr : k ∈ r := by
        rcases List.mem_cons.1 h with e | e
        · exact absurd e.symm hak
        · exact e
      have := count_more k r hr
      by_cases hlt : a < k
      · rw [if_pos (by simpa using hlt), if_pos (by simp; omega)]; omega
      · rw [if_neg (by simpa using hlt), if_neg (by simp; omega)]; omega
theorem count_mono (k : Int) (ls : List Int) : ls.countP (fun z => decide (z < k)) ≤ ls.countP (fun z => decide (z < k + 1)) := List.countP_mono_left (fun z _ hz => by simp at hz ⊢; omega)
theorem hi_all (xs ls : List Int) (m : Int) (h : ∀ q, q < xs.length → (q : Int) ∉ ls → m < nth xs q) : ∀ k, k ≤ xs.length → k ≤ hi xs m k + ls.countP (fun z => decide (z < (k : Int)))
  | 0, _ => by omega
  | k + 1, hk => by
    have ih := hi_all xs ls m h k (by omega)
    rw [hi_step (by omega)]
    by_cases hm : (k : Int) ∈ ls
    · have := count_more (k : Int) ls hm
      rw [show ((k + 1 : Nat) : Int) = (k : Int) + 1 by omega]
      omega
    · rw [if_pos (h k (by omega) hm)]
      have := count_mono (k : Int) ls
      rw [show ((k + 1 : Nat) : Int) = (k : Int) + 1 by omega]
      omega
theorem lo_all (xs ls : List Int) (m : Int) (h : ∀ q, q < xs.length → (q : Int) ∉ ls → nth xs q < m) : ∀ k, k ≤ xs.length → k ≤ lo xs m k + ls.countP (fun z => decide (z < (k : Int)))
  | 0, _ => by omega
  | k + 1, hk => by
    have ih := lo_all xs ls m h k (by omega)
    rw [lo_step (by omega)]
    by_cases hm : (k : Int) ∈ ls
    · have := count_more (k : Int) ls hm
      rw [show ((k + 1 : Nat) : Int) = (k : Int) + 1 by omega]
      omega
    · rw [if_pos (h k (by omega) hm)]
      have := count_mono (k : Int) ls
      rw [show ((k + 1 : Nat) : Int) = (k : Int) + 1 by omega]
      omega
/-- THE THEOREM OF THE MEDIAN: with at most f lies among 2f + 1 it lies between two of the others. -/
theorem liars (xs ls : List Int) (f : Nat) (h : xs.length = 2 * f + 1) (hl : ls.length ≤ f) :
    (∃ q, q < xs.length ∧ (q : Int) ∉ ls ∧ nth xs q ≤ nth (ms xs) (xs.length / 2)) ∧ ∃ q, q < xs.length ∧ (q : Int) ∉ ls ∧ nth (ms xs) (xs.length / 2) ≤ nth xs q := by
  obtain ⟨_, h1, h2⟩ := median xs (by omega)
  constructor
  · apply Classical.byContradiction
    intro hn
    have := hi_all xs ls (nth (ms xs) (xs.length / 2)) (fun q hq hm => Classical.byContradiction fun e => hn ⟨q, hq, hm, by omega⟩) xs.length (Nat.le_refl _)
    have hc : ls.countP (fun z => decide (z < (xs.length : Int))) ≤ ls.length := List.countP_le_length
    omega
  · apply Classical.byContradiction
    intro hn
    have := lo_all xs ls (nth (ms xs) (xs.length / 2)) (fun q hq hm => Classical.byContradiction fun e => hn ⟨q, hq, hm, by omega⟩) xs.length (Nat.le_refl _)
    have hc : ls.countP (fun z => decide (z < (xs.length : Int))) ≤ ls.length := List.countP_le_length
    omega

/-! readings in a block -/
def cv (x : Gr.Rd) : Rd := ⟨x.f, x.x, x.m⟩
theorem cv_rn {us : List Gr.Rd} {j : Nat} {x : Gr.Rd} (h : us[j]? = some x) : rn (us.map cv) j = cv x := by
  unfold rn; rw [List.getD_eq_getElem?_getD, List.getElem?_map, h]; rfl
def BlkR (w : World) (g : Nat) (rs : List Rd) : Prop := ∃ A, w.heap[g]? = some (.cells A 40 (0, 0)) ∧ ∀ i, i < rs.length → A[i * 3]? = some (.int .i64 (rn rs i).f) ∧ A[i * 3 + 1]? = some (.int .i64 (rn rs i).x) ∧ A[i * 3 + 2]? = some (.string (rn rs i).m)
theorem BlkR.kept {w w' : World} {g : Nat} {rs : List Rd} (h : BlkR w g rs) (hb : w'.heap[g]? = w.heap[g]?) : BlkR w' g rs := by
  obtain ⟨A, h1, h2⟩ := h
  exact ⟨A, hb.trans h1, h2⟩
theorem BlkR.lt {w : World} {g : Nat} {rs : List Rd} (h : BlkR w g rs) : g < w.heap.size := by
  obtain ⟨A, h1, _⟩ := h
  exact (Array.getElem?_eq_some_iff.1 h1).1
theorem BlkR.below {w w' : World} {g : Nat} {rs : List Rd} (h : BlkR w g rs) (hb : Below w.heap.size w w') : BlkR w' g rs := h.kept (hb.block g h.lt)
theorem BlkR.cells {w : World} {g : Nat} {rs : List Rd} (h : BlkR w g rs) {i : Nat} (hi : i < rs.length) : (w.cell? ⟨g, i * 3, none⟩ = some (.int .i64 (rn rs i).f) ∧ w.frozen? ⟨g, i * 3, none⟩ = false) ∧ (w.cell? ⟨g, i * 3 + 1, none⟩ = some (.int .i64 (rn rs i).x) ∧ w.frozen? ⟨g, i * 3 + 1, none⟩ = false) ∧ w.cell? ⟨g, i * 3 + 2, none⟩ = some (.string (rn rs i).m) ∧ w.frozen? ⟨g, i * 3 + 2, none⟩ = false := by
  obtain ⟨A, h1, h2⟩ := h
  obtain ⟨a, b, c⟩ := h2 i hi
  exact ⟨blk_cell h1 _ a, blk_cell h1 _ b, blk_cell h1 _ c⟩
theorem BlkR.row {w : World} {g cap : Nat} {rs : List Rd} (h : BlkR w g rs) (hc : rs.length ≤ cap) : RowR w (.slice (some ⟨g, 0, none⟩) rs.length cap) rs := by
  refine ⟨_, cap, rfl, .inr ⟨g, 0, rfl, hc, h.lt, fun i hi => ?_⟩⟩
  obtain ⟨a, b, c⟩ := h.cells hi
  rw [Nat.zero_add]
  exact ⟨a.1, b.1, c.1⟩
theorem get_set {A : Array Value} {i j : Nat} {x y : Value} (h : A[j]? = some y) : (A.setIfInBounds i x)[j]? = some (if i = j then x else y) := by
  have hj := (Array.getElem?_eq_some_iff.1 h).1
  rw [Array.getElem?_setIfInBounds]
  by_cases e : i = j
  · rw [if_pos e, if_pos e, if_pos (by rw [e]; exact hj)]
  · rw [if_neg e, if_neg e, h]
theorem BlkR.set {w : World} {g k : Nat} {rs : List Rd} (h : BlkR w g rs) (hk : k < rs.length) (z : Rd) : BlkR (((w.setCell ⟨g, k * 3, none⟩ (.int .i64 z.f)).setCell ⟨g, k * 3 + 1, none⟩ (.int .i64 z.x)).setCell ⟨g, k * 3 + 2, none⟩ (.string z.m)) g (rs.set k z) := by
  obtain ⟨A, h1, h2⟩ := h
  refine ⟨_, blk_set (blk_set (blk_set h1 (k * 3) (.int .i64 z.f)) (k * 3 + 1) (.int .i64 z.x)) (k * 3 + 2) (.string z.m), fun i hi => ?_⟩
  rw [List.length_set] at hi
  obtain ⟨a, b, c⟩ := h2 i hi
  rw [rn_set hk]
  by_cases e : i = k
  · subst e
    rw [if_pos rfl]
    refine ⟨?_, ?_, ?_⟩
    · rw [get_set (get_set (get_set a)), if_pos rfl, if_neg (by omega), if_neg (by omega)]
    · rw [get_set (get_set (get_set b)), if_neg (by omega), if_pos rfl]
    · rw [get_set (get_set (get_set c)), if_pos rfl]
  · rw [if_neg e]
    refine ⟨?_, ?_, ?_⟩
    · rw [get_set (get_set (get_set a)), if_neg (by omega), if_neg (by omega), if_neg (by omega)]
    · rw [get_set (get_set (get_set b)), if_neg (by omega), if_neg (by omega), if_neg (by omega)]
    · rw [get_set (get_set (get_set c)), if_neg (by omega), if_neg (by omega), if_neg (by omega)]
theorem BlkR.of {w : World} {B : Nat} {v : Value} {us : List Gr.Rd} (h : OwnR w B v us) (hne : us ≠ []) : ∃ g cap, v = .slice (some ⟨g, 0, none⟩) us.length cap ∧ B ≤ g ∧ us.length ≤ cap ∧ BlkR w g (us.map cv) := by
  obtain ⟨hl, h⟩ := h
  rcases h with ⟨rfl, h0⟩ | ⟨g, cap, cur, rfl, hB, hg, hc, _, hs, htk⟩
  · exact absurd (List.length_eq_zero_iff.1 h0) hne
  · refine ⟨g, cap, rfl, hB, hc, _, hg, fun i hi => ?_⟩
    rw [List.length_map] at hi
    obtain ⟨x, hx⟩ : ∃ x, us[i]? = some x := ⟨_, List.getElem?_eq_getElem hi⟩
    rw [cv_rn hx]
    have key : ∀ j u, j < 3 → (cl x)[j]? = some u → cur[i * 3 + j]? = some u := fun j u hj hu => by
      rw [← Array.getElem?_toList]
      have h1 := fm_at us i x j hx hj
      rw [← htk, List.getElem?_take, if_pos (by omega)] at h1
      rw [h1, hu]
    exact ⟨key 0 _ (by decide) rfl, key 1 _ (by decide) rfl, key 2 _ (by decide) rfl⟩

theorem ownI_set {w : World} {B b : Nat} {v : Value} {xs : List Int} (h : OwnI w B v xs) (hb : b < B) (i : Nat) (x : Value) : OwnI (w.setCell ⟨b, i, none⟩ x) B v xs := by
  obtain ⟨hl, h⟩ := h
  refine ⟨hl, ?_⟩
  rcases h with h | ⟨g, cap, cur, rfl, h1, hg, h2⟩
  · exact .inl h
  · exact .inr ⟨g, cap, cur, rfl, h1, (blk_far (by omega) i x).trans hg, h2⟩
end Go.Proofs.YtdeologdmdimoaaDoor.Ag

/- Readings that are drawn. -/
namespace Go.Proofs.YtdeologdmdimoaaDoor.Ag
open Go.RowKit Go.Proofs.YtdeologdmdimoaaDoor.Sl Go.Proofs.YtdeologdmdimoaaDoor.By Go.Proofs.YtdeologdmdimoaaDoor.Ap Go.Proofs.YtdeologdmdimoaaDoor.Rr Go.Proofs.YtdeologdmdimoaaDoor.Gn Go.Proofs.YtdeologdmdimoaaDoor.Sh Go.Proofs.YtdeologdmdimoaaDoor.Mr Go.Proofs.YtdeologdmdimoaaDoor.Rw Go.Proofs.YtdeologdmdimoaaDoor.Rs Go.Proofs.YtdeologdmdimoaaDoor.Rm Go.Proofs.YtdeologdmdimoaaDoor.Cn Go.Proofs.YtdeologdmdimoaaDoor.Md Go.Proofs.YtdeologdmdimoaaDoor.Is
open Go.Proofs.YtdeologdmdimoaaDoor.Tkb (OwnR info_r list_rd OwnR.made OwnR.below OwnR.lt own_kept OwnR.mono OwnR.alloc cl fm_at)
open Go.Proofs.YtdeologdmdimoaaDoor.Rg (bel_new lt_at)

/-! draws -/
theorem quo_n {n : Int} (h : n = 1 ∨ n = 4 ∨ n = 7) : ∃ f : Nat, (n - 1).tdiv 3 = (f : Int) ∧ n = 3 * (f : Int) + 1 ∧ f ≤ 2 := by
  rcases h with rfl | rfl | rfl
  · exact ⟨0, by decide, by decide, by decide⟩
  · exact ⟨1, by decide, by decide, by decide⟩
  · exact ⟨2, by decide, by decide, by decide⟩
set_option maxRecDepth 100000 in
set_option maxHeartbeats 1600000 in
theorem readings_any (n f p B K : Nat) (xs : List Int) (w : World) (h : Gn.Src B w p xs K) (hB : B ≤ p) (hK : K ≤ 1000000) (hx : xs.length ≤ 1048576) (hn : n = 3 * f + 1) (hf : f ≤ 2) :
    Calls Tryd.prog 34 #[.pointer (some ⟨p, 0, none⟩), .int .i64 n] w fun e w' => ∃ v us, e = .returned v ∧ OwnR w' w.heap.size v us ∧ us.length = 2 * f + 1 ∧ Fine n n (us.map cv) ∧ Gn.Src B w' p xs (K + 9) ∧ w.grownBy w' (some p) := by
  have hp := h.lt
  have hq : ((n : Int) - 1).tdiv 3 = (f : Int) := by subst hn; rw [show (((3 * f + 1 : Nat)) : Int) - 1 = 3 * (f : Int) by omega]; rw [Int.mul_tdiv_cancel_left _ (by decide)]
  obtain ⟨i0, hi0, hz0, hz1, hz2⟩ := info_parts info_r
  have hn7 : n ≤ 7 := by omega
  have hn1 : 1 ≤ n := by omega
  have HN : Hid (∀ _ : Unit, n = 3 * f + 1) := fun _ => hn
  clear hn
  have S0 : Hid (Gn.Src B (w.alloc (.cells #[] 40)) p xs K) := h.alloc hB _
  have G0 : Hid (w.grownBy (w.alloc (.cells #[] 40)) (some p)) := grown_alloc (grown_refl _ _) _
  have O0 : Hid (OwnR (w.alloc (.cells #[] 40)) w.heap.size (.slice (some ⟨w.heap.size, 0, none⟩) 0 0) []) := OwnR.made w _ (Nat.le_refl _)
  clear h
  go_enter Tryd.func34, Tryd.ntmps34
  go_wp2_with fail
  refine (next_any n p B K xs _ S0.out hB (by omega) hx (by omega) (by omega)).mono ?_
  rintro e w1 ⟨sk, rfl, hsk, s1, g1⟩
  have S1 : Hid (Gn.Src B w1 p xs (K + 1)) := s1
  have G1 : Hid (w.grownBy w1 (some p)) := grown_trans G0.out g1
  have O1 : Hid (OwnR w1 w.heap.size (.slice (some ⟨w.heap.size, 0, none⟩) 0 0) []) := own_kept O0.out g1 hp
  clear s1 g1 S0 G0 O0
  go_wp2_with fail
  go_loopw [6, 8] (fun out i wr => ∃ (j : Nat) (us : List Gr.Rd), i = .int .i64 (j : Int) ∧ Hid (OwnR wr w.heap.size out us) ∧ Hid (us.length + (if sk < j ∧ 1 < n then 1 else 0) = j ∧ us.length ≤ 2 * f + 1) ∧ Hid (Fine n j (us.map cv)) ∧ Hid (Gn.Src B wr p xs (K + 1 + us.length)) ∧ Hid (w.grownBy wr (some p))) (fun _ i _ => 8 - (intOf i).toNat)
  case atStart => exact ⟨0, [], rfl, O1, ⟨by simp, by simp⟩, Fine.nil _ _, S1, G1⟩
  case round =>
    clear S1 G1 O1
    obtain ⟨j, us, rfl, HO, HC, HF, HS, HG⟩ := hrel
    obtain ⟨ao, co, rfl⟩ := Rg.RowG.slice (Tkb.OwnR.row HO.out)
    have hc1 := HC.out.1
    have hc2 := HC.out.2
    by_cases hlt : us.length < 2 * f + 1
    · have hlt' : (us.length : Int) < 2 * (f : Int) + 1 := by omega
      have hj6 : j ≤ 6 ∧ (j < n ∨ j = sk) := by
        have hn := HN.out ()
        by_cases hs : sk < j ∧ 1 < n
        · rw [if_pos hs] at hc1; omega
        · rw [if_neg hs] at hc1; omega
      by_cases hsk2 : j = sk ∧ 1 < n
      · have q1 : ((j : Int) == (sk : Int)) = true := by simp; omega
        have q2 : (1 : Int) < (n : Int) := by omega
        have hj6' := hj6.1
        have HC2 : Hid (us.length + (if sk < j + 1 ∧ 1 < n then 1 else 0) = j + 1 ∧ us.length ≤ 2 * f + 1) := by
          refine ⟨?_, hc2⟩
          rw [if_neg (by omega)] at hc1
          rw [if_pos (by omega)]
          omega
        have HF2 : Hid (Fine n ((j : Int) + 1) (us.map cv)) := HF.out.le (by omega)
        clear hc1 hc2 HC HF hsk2 hj6
        go_wp2_with fail
        exact ⟨⟨j + 1, us, by go_num, HO, HC2, by show Fine _ _ _; rw [show ((j + 1 : Nat) : Int) = (j : Int) + 1 by omega]; exact HF2.out, HS, HG⟩, by simp [intOf]; omega⟩
      · have hjn : j < n := by
          have hn := HN.out ()
          by_cases hs : sk < j ∧ 1 < n
          · rw [if_pos hs] at hc1; omega
          · rw [if_neg hs] at hc1; omega
        have q0 : (((j : Int) == (sk : Int)) && decide ((1 : Int) < (n : Int))) = false := by
          rw [Bool.and_eq_false_iff]
          by_cases e : j = sk
          · right; simp; omega
          · left; simp; omega
        have HC2 : Hid (∀ z : Gr.Rd, (us ++ [z]).length + (if sk < j + 1 ∧ 1 < n then 1 else 0) = j + 1 ∧ (us ++ [z]).length ≤ 2 * f + 1) := fun z => by
          rw [List.length_append]
          simp only [List.length_cons, List.length_nil]
          by_cases hs : sk < j ∧ 1 < n
          · rw [if_pos hs] at hc1; rw [if_pos (by omega)]; omega
          · rw [if_neg hs] at hc1; rw [if_neg (by omega)]; omega
        have HJ : Hid (∀ _ : Unit, j ≤ 6 ∧ j < n) := fun _ => ⟨hj6.1, hjn⟩
        have hul : us.length ≤ 1000000 := by omega
        have hKu : K + 1 + us.length ≤ 1000000000 := by omega
        clear hc1 hc2 HC
        by_cases e : j = sk
        · have q2 : ¬ (1 : Int) < (n : Int) := by omega
          subst e
          have q1 : ((j : Int) == (j : Int)) = true := by simp
          clear hsk2 hjn q0 hlt
          go_wp2_with fail
          refine (next_any 100 p B (K + 1 + us.length) xs _ HS.out hB hKu hx (by decide) (by decide)).mono ?_
          rintro e w2 ⟨x, rfl, hxx, s2, g2⟩
          have S2 : Hid (Gn.Src B w2 p xs (K + 1 + us.length + 1)) := s2
          have G2 : Hid (w.grownBy w2 (some p)) := grown_trans HG.out g2
          have O2 : Hid (OwnR w2 w.heap.size (.slice ao us.length co) us) := own_kept HO.out g2 hp
          have HFS : Hid (Fine n ((j : Int) + 1) ((us ++ [(⟨(j : Int), (x : Int), rmk j x⟩ : Gr.Rd)]).map cv)) := by
            show Fine _ _ _
            rw [List.map_append]
            exact HF.out.snoc (x := (x : Int)) (HJ.out ()).1 (by have := (HJ.out ()).2; omega) ⟨by omega, by omega⟩
          have HMK := l04Reading_any j (x : Int) w2 (by have := (HJ.out ()).1; omega)
          obtain ⟨mk, HM⟩ : ∃ mk, Hid (rmk j (x : Int) = mk) := ⟨_, rfl⟩
          rw [HM.out] at HMK HFS
          clear s2 g2 HO HF HS HG
          go_wp2_with fail
          refine HMK.mono ?_
          rintro e w3 ⟨rfl, b3⟩
          have S3 : Hid (Gn.Src B w3 p xs (K + 1 + us.length + 1)) := S2.out.kept (b3.block p S2.out.lt) (fun k hk => b3.block k (by have := S2.out.lt; omega))
          have G3 : Hid (w.grownBy w3 (some p)) := grown_trans G2.out ⟨b3.os, b3.tape, b3.output, b3.size, fun k hk _ => b3.block k hk⟩
          have O3 : OwnR w3 w.heap.size (.slice ao us.length co) us := O2.out.below b3
          have hw3 : w.heap.size ≤ w3.heap.size := G3.out.size
          clear b3 S2 G2 O2 HMK
          go_wp2_with (at_builtin; go_must (refine list_rd (by rfl) _ _ 35 (by rfl) i0 Tryd.underlying35 hi0 hz0 hz1 hz2 w.heap.size w3 w3 _ us ⟨(j : Int), (x : Int), mk⟩ (by rfl) O3 (Below.refl _ _) hw3 _ (by rfl) rfl hul ?_; intro v4 w4 o4 b4 k4))
          have S4 : Hid (Gn.Src B w4 p xs (K + 1 + (us ++ [(⟨(j : Int), (x : Int), mk⟩ : Gr.Rd)]).length)) := by
            rw [List.length_append]
            exact S3.out.kept (b4.block p hp) (fun k hk => b4.block k (by omega))
          have G4 : Hid (w.grownBy w4 (some p)) := ⟨b4.os.trans G3.out.os, b4.tape.trans G3.out.tape, b4.output.trans G3.out.output, Nat.le_trans G3.out.size b4.size, fun k hk hne => (b4.block k hk).trans (G3.out.block k hk hne)⟩
          exact ⟨⟨j + 1, _, by go_num, o4, HC2.out _, by show Fine _ _ _; rw [show ((j + 1 : Nat) : Int) = (j : Int) + 1 by omega]; exact HFS.out, S4, G4⟩, by have := (HJ.out ()).1; simp [intOf]; omega⟩
        · have q1 : ((j : Int) == (sk : Int)) = false := by simp; omega
          clear hsk2 hjn q0 hlt e
          go_wp2_with fail
          refine (next_any 100 p B (K + 1 + us.length) xs _ HS.out hB hKu hx (by decide) (by decide)).mono ?_
          rintro e w2 ⟨x, rfl, hxx, s2, g2⟩
          have S2 : Hid (Gn.Src B w2 p xs (K + 1 + us.length + 1)) := s2
          have G2 : Hid (w.grownBy w2 (some p)) := grown_trans HG.out g2
          have O2 : Hid (OwnR w2 w.heap.size (.slice ao us.length co) us) := own_kept HO.out g2 hp
          have HFS : Hid (Fine n ((j : Int) + 1) ((us ++ [(⟨(j : Int), (x : Int), rmk j x⟩ : Gr.Rd)]).map cv)) := by
            show Fine _ _ _
            rw [List.map_append]
            exact HF.out.snoc (x := (x : Int)) (HJ.out ()).1 (by have := (HJ.out ()).2; omega) ⟨by omega, by omega⟩
          have HMK := l04Reading_any j (x : Int) w2 (by have := (HJ.out ()).1; omega)
          obtain ⟨mk, HM⟩ : ∃ mk, Hid (rmk j (x : Int) = mk) := ⟨_, rfl⟩
          rw [HM.out] at HMK HFS
          clear s2 g2 HO HF HS HG
          go_wp2_with fail
          refine HMK.mono ?_
          rintro e w3 ⟨rfl, b3⟩
          have S3 : Hid (Gn.Src B w3 p xs (K + 1 + us.length + 1)) := S2.out.kept (b3.block p S2.out.lt) (fun k hk => b3.block k (by have := S2.out.lt; omega))
          have G3 : Hid (w.grownBy w3 (some p)) := grown_trans G2.out ⟨b3.os, b3.tape, b3.output, b3.size, fun k hk _ => b3.block k hk⟩
          have O3 : OwnR w3 w.heap.size (.slice ao us.length co) us := O2.out.below b3
          have hw3 : w.heap.size ≤ w3.heap.size := G3.out.size
          clear b3 S2 G2 O2 HMK
          go_wp2_with (at_builtin; go_must (refine list_rd (by rfl) _ _ 35 (by rfl) i0 Tryd.underlying35 hi0 hz0 hz1 hz2 w.heap.size w3 w3 _ us ⟨(j : Int), (x : Int), mk⟩ (by rfl) O3 (Below.refl _ _) hw3 _ (by rfl) rfl hul ?_; intro v4 w4 o4 b4 k4))
          have S4 : Hid (Gn.Src B w4 p xs (K + 1 + (us ++ [(⟨(j : Int), (x : Int), mk⟩ : Gr.Rd)]).length)) := by
            rw [List.length_append]
            exact S3.out.kept (b4.block p hp) (fun k hk => b4.block k (by omega))
          have G4 : Hid (w.grownBy w4 (some p)) := ⟨b4.os.trans G3.out.os, b4.tape.trans G3.out.tape, b4.output.trans G3.out.output, Nat.le_trans G3.out.size b4.size, fun k hk hne => (b4.block k hk).trans (G3.out.block k hk hne)⟩
          exact ⟨⟨j + 1, _, by go_num, o4, HC2.out _, by show Fine _ _ _; rw [show ((j + 1 : Nat) : Int) = (j : Int) + 1 by omega]; exact HFS.out, S4, G4⟩, by have := (HJ.out ()).1; simp [intOf]; omega⟩
    · have hlt' : ¬ (us.length : Int) < 2 * (f : Int) + 1 := by omega
      have HL : Hid (us.length = 2 * f + 1) := by show _ = _; omega
      have HFN : Hid (Fine n n (us.map cv)) := HF.out.le (by
        have hn := HN.out ()
        by_cases hs : sk < j ∧ 1 < n
        · rw [if_pos hs] at hc1; omega
        · rw [if_neg hs] at hc1; omega)
      have HSE : Hid (Gn.Src B wr p xs (K + 9)) := by
        obtain ⟨v, a, s, q1, q2, q3, q4⟩ := HS.out
        exact ⟨v, a, s, q1, q2, by omega, q4⟩
      clear hc1 hc2
      go_wp2_with fail
      go_ret
      exact ⟨_, rfl, us, HO.out, HL.out, HFN.out, HSE.out, HG.out⟩
set_option maxHeartbeats 400000 in
theorem ReadingsOf_any (n f : Nat) (v : Value) (xs : List Int) (w : World) (h : RowB w v xs) (hx : xs.length ≤ 1048576) (hn : n = 3 * f + 1) (hf : f ≤ 2) :
    Calls Tryd.prog 13 #[v, .int .i64 n] w fun e w' => ∃ v' us, e = .returned v' ∧ OwnR w' w.heap.size v' us ∧ us.length = 2 * f + 1 ∧ Fine n n (us.map cv) ∧ Below w.heap.size w w' := by
  have HR : Hid (RowB w v xs) := h
  have HN : Hid (∀ _ : Unit, n = 3 * f + 1) := fun _ => hn
  clear h hn
  go_enter Tryd.func13, Tryd.ntmps13
  go_wp2_with fail
  refine (source_any _ xs _ HR.out hx).mono ?_
  rintro e w1 ⟨rfl, s1, b1⟩
  have hp1 := s1.lt
  have S1 : Hid (Gn.Src w.heap.size w1 w.heap.size xs 0) := s1
  clear s1
  go_wp2_with fail
  refine (readings_any n f w.heap.size w.heap.size 0 xs _ S1.out (Nat.le_refl _) (by decide) hx (HN.out ()) hf).mono ?_
  rintro e w2 ⟨v2, us, rfl, o2, hl, hfi, _, g2⟩
  have O2 : Hid (OwnR w2 w.heap.size v2 us) := OwnR.mono o2 b1.size
  have B2 : Below w.heap.size w w2 := ⟨g2.os.trans b1.os, g2.tape.trans b1.tape, g2.output.trans b1.output, Nat.le_trans b1.size g2.size, fun k hk => (below_kept g2 (Nat.le_refl _) hp1 k hk).trans (b1.block k hk)⟩
  have HF : Hid (us.length = 2 * f + 1 ∧ Fine n n (us.map cv)) := ⟨hl, hfi⟩
  clear o2 g2 b1 hl hfi S1
  go_wp2_with fail
  go_ret
  exact ⟨_, us, rfl, O2.out, HF.out.1, HF.out.2, B2⟩
end Go.Proofs.YtdeologdmdimoaaDoor.Ag

/- From a slice of bytes that came in, as the row opens it, to what the walks ask. -/
namespace Go.Proofs.YtdeologdmdimoaaDoor.Sl
open Go.RowKit

/-- A slice of integers that came in: it is nil; or it leads to a row of 'cap' cells, the numbers 'zs' (the first 'len' are its elements), each fitting its kind. -/
def IsRow (k : IntKind) (w : World) (a : Option Addr) (len cap : Nat) (zs : List Int) : Prop :=
  (a = none ∧ len = 0 ∧ cap = 0 ∧ zs = []) ∨
  ∃ x, a = some x ∧ len ≤ cap ∧ cap ≤ maxLen ∧ zs.length = cap ∧ (∀ i, i < zs.length → w.cell? (x.add i) = some (.int k (zs.getD i 0))) ∧ ∀ n ∈ zs, (Lit.int k n).wf = true

theorem rowB_of {w : World} {a : Option Addr} {len cap : Nat} {zs : List Int} (h : IsRow .u8 w a len cap zs) : ∃ xs : List Int, xs.length = len ∧ RowB w (.slice a len cap) xs := by
  rcases h with ⟨rfl, rfl, rfl, rfl⟩ | ⟨x, rfl, hl, _, hz, hcell, hwz⟩
  · exact ⟨[], rfl, none, 0, rfl, .inl rfl, fun x hx => by cases hx⟩
  · have hlen : (zs.take len).length = len := by rw [List.length_take]; omega
    refine ⟨zs.take len, hlen, some x, cap, by rw [hlen], ?_, ?_⟩
    · by_cases h0 : len = 0
      · exact .inl (by rw [h0]; rfl)
      · obtain ⟨b, off, spot⟩ := x
        have hc := hcell 0 (by omega)
        have hspot : spot = none := by simpa [Addr.add] using World.cell?_spot hc
        subst hspot
        have hc0 : w.cell? ⟨b, off, none⟩ = some (.int .u8 (zs.getD 0 0)) := by simpa [Addr.add] using hc
        refine .inr ⟨b, off, rfl, by omega, World.block_lt_of_cell? w _ hc0, fun i hi => ?_⟩
        have h1 := hcell i (by omega)
        have h2 : (⟨b, off, none⟩ : Addr).add i = ⟨b, off + i, none⟩ := by unfold Addr.add; split <;> simp_all
        rw [h2] at h1
        rw [h1]
        unfold nth
        rw [List.getD_eq_getElem?_getD, List.getD_eq_getElem?_getD, List.getElem?_take_of_lt (by omega)]
    · intro n hn
      have := hwz n (List.mem_of_mem_take hn)
      simpa [Lit.wf, IntKind.min, IntKind.max, IntKind.signed, IntKind.bits] using this
end Go.Proofs.YtdeologdmdimoaaDoor.Sl
