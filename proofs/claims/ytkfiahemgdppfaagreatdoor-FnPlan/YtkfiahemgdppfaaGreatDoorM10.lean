/- Texts put together: Ag, Tl, Msg, Msg2, RdReq. -/
import Derived.Test.YtkfiahemgdppfaaGreatDoorM2
import Derived.Test.YtkfiahemgdppfaaGreatDoorM3
import Derived.Test.YtkfiahemgdppfaaGreatDoorM9
import Derived.Test.YtkfiahemgdppfaaGreatDoorM1
import Derived.Deep.CutRange
import Derived.Deep.DeepCutAuto
/- Readings that are drawn, and lies among them: words for FnAgreed. -/
namespace Go.Proofs.YtkfiahemgdppfaaGreatDoor.Ag
open Go.RowKit Go.Proofs.YtkfiahemgdppfaaGreatDoor.Sl Go.Proofs.YtkfiahemgdppfaaGreatDoor.By Go.Proofs.YtkfiahemgdppfaaGreatDoor.Ap Go.Proofs.YtkfiahemgdppfaaGreatDoor.Rr Go.Proofs.YtkfiahemgdppfaaGreatDoor.Gn Go.Proofs.YtkfiahemgdppfaaGreatDoor.Sh Go.Proofs.YtkfiahemgdppfaaGreatDoor.Mr Go.Proofs.YtkfiahemgdppfaaGreatDoor.Rw Go.Proofs.YtkfiahemgdppfaaGreatDoor.Rs Go.Proofs.YtkfiahemgdppfaaGreatDoor.Rm Go.Proofs.YtkfiahemgdppfaaGreatDoor.Cn Go.Proofs.YtkfiahemgdppfaaGreatDoor.Md Go.Proofs.YtkfiahemgdppfaaGreatDoor.Is
open Go.Proofs.YtkfiahemgdppfaaGreatDoor.Tkb (OwnR info_r list_rd OwnR.made OwnR.below OwnR.lt own_kept OwnR.mono OwnR.alloc cl fm_at)
open Go.Proofs.YtkfiahemgdppfaaGreatDoor.Rg (bel_new lt_at)

/-! of no program -/
theorem rn_l {xs : List Rd} {z : Rd} {j : Nat} (h : j < xs.length) : rn (xs ++ [z]) j = rn xs j := by
  unfold rn; rw [List.getD_eq_getElem?_getD, List.getD_eq_getElem?_getD, List.getElem?_append_left h]
theorem rn_r {xs : List Rd} {z : Rd} : rn (xs ++ [z]) xs.length = z := by
  unfold rn; rw [List.getD_eq_getElem?_getD, List.getElem?_append_right (Nat.le_refl _)]; simp
theorem pv_l {xs : List Rd} {z : Rd} {j : Nat} (h : j ≤ xs.length) : pv (xs ++ [z]) j = pv xs j := by
  unfold pv
  by_cases h0 : j = 0
  · rw [if_pos h0, if_pos h0]
  · rw [if_neg h0, if_neg h0, rn_l (by omega)]
/-- All of them are right, signed, and of nodes below i. -/
def Fine (n : Int) (i : Int) (xs : List Rd) : Prop := (∀ j, j < xs.length → okI xs j = true) ∧ (∀ j, j < xs.length → mkI n xs j = true) ∧ ∀ j, j < xs.length → (rn xs j).f < i
theorem Fine.le {n i i' : Int} {xs : List Rd} (h : Fine n i xs) (hi : i ≤ i') : Fine n i' xs := ⟨h.1, h.2.1, fun j hj => by have := h.2.2 j hj; omega⟩
theorem Fine.nil (n i : Int) : Fine n i [] := ⟨fun j hj => by simp at hj, fun j hj => by simp at hj, fun j hj => by simp at hj⟩
theorem pv_le {n i : Int} {xs : List Rd} (h : Fine n i xs) (hi : 0 ≤ i) : pv xs xs.length ≤ i := by
  unfold pv
  by_cases h0 : xs.length = 0
  · rw [if_pos h0]; exact hi
  · rw [if_neg h0]; have := h.2.2 (xs.length - 1) (by omega); omega
theorem rmk_size (id : Nat) (x : Int) : (rmk id x).size = 8 := by
  unfold rmk mac
  rw [ByteArray.size_extract, hash_size _ (by rw [List.length_append, nsec_len, rmk_len]; omega)]
  rfl
theorem inR_of {n a b : Int} (h1 : a ≤ n) (h2 : n ≤ b) : inR n a b = true := by unfold inR; rw [decide_eq_true h1, decide_eq_true h2]; rfl
theorem Fine.snoc {n : Int} {i : Nat} {xs : List Rd} {x : Int} (h : Fine n i xs) (hi : i ≤ 6) (hn : (i : Int) < n) (hx : 0 ≤ x ∧ x ≤ 1000000000) : Fine n ((i : Int) + 1) (xs ++ [⟨(i : Int), x, rmk i x⟩]) := by
  have hp := pv_le h (by omega)
  refine ⟨fun j hj => ?_, fun j hj => ?_, fun j hj => ?_⟩
  all_goals
    rw [List.length_append] at hj
    simp only [List.length_cons, List.length_nil] at hj
    by_cases hlt : j < xs.length
  · unfold okI; rw [rn_l hlt, pv_l (by omega)]; exact h.1 j hlt
  · obtain rfl : j = xs.length := by omega
    unfold okI
    rw [rn_r, pv_l (Nat.le_refl _)]
    dsimp only
    rw [inR_of hp (by omega), inR_of hx.1 hx.2, rmk_size]
    rfl
  · unfold mkI; rw [rn_l hlt]; exact h.2.1 j hlt
  · obtain rfl : j = xs.length := by omega
    unfold mkI
    rw [rn_r]
    dsimp only
    rw [decide_eq_true hn, Int.toNat_natCast]
    simp
  · rw [rn_l hlt]; have := h.2.2 j hlt; omega
  · obtain rfl : j = xs.length := by omega
    rw [rn_r]; dsimp only; omega
theorem rn_set {xs : List Rd} {z : Rd} {k j : Nat} (hk : k < xs.length) : rn (xs.set k z) j = if j = k then z else rn xs j := by
  unfold rn
  rw [List.getD_eq_getElem?_getD, List.getD_eq_getElem?_getD, List.getElem?_set]
  by_cases h : k = j
  · subst h; rw [if_pos rfl, if_pos hk, if_pos rfl]; rfl
  · rw [if_neg h, if_neg (fun e => h e.symm)]
theorem Fine.set {n i : Int} {xs : List Rd} {k : Nat} {x : Int} (h : Fine n i xs) (hk : k < xs.length) (hx : 0 ≤ x ∧ x ≤ 1000000000) : Fine n i (xs.set k ⟨(rn xs k).f, x, rmk (rn xs k).f.toNat x⟩) := by
  have hf : ∀ j, (rn (xs.set k ⟨(rn xs k).f, x, rmk (rn xs k).f.toNat x⟩) j).f = (rn xs j).f := fun j => by
    rw [rn_set hk]
    by_cases e : j = k
    · rw [if_pos e, e]
    · rw [if_neg e]
  have hpv : ∀ j, pv (xs.set k ⟨(rn xs k).f, x, rmk (rn xs k).f.toNat x⟩) j = pv xs j := fun j => by unfold pv; rw [hf]
  refine ⟨fun j hj => ?_, fun j hj => ?_, fun j hj => ?_⟩
  all_goals rw [List.length_set] at hj
  · have h1 := h.1 j hj
    unfold okI at h1 ⊢
    rw [hpv, hf]
    simp only [Bool.and_eq_true] at h1
    rw [rn_set hk]
    by_cases e : j = k
    · rw [if_pos e]
      dsimp only
      rw [h1.1, inR_of hx.1 hx.2, rmk_size]
      rfl
    · rw [if_neg e, h1.1, h1.2.1, h1.2.2]
      rfl
  · have h1 := h.2.1 j hj
    unfold mkI at h1 ⊢
    simp only [Bool.and_eq_true] at h1
    rw [hf, h1.1, rn_set hk]
    by_cases e : j = k
    · rw [if_pos e, e]; simp
    · rw [if_neg e, h1.2]; rfl
  · rw [hf]; exact h.2.2 j hj
theorem Fine.code {n : Int} {xs : List Rd} {i : Int} (h : Fine n i xs) (hf : Tm.fCode n = 0) (hl : (xs.length : Int) = 2 * Tm.fOut n + 1) (hm : xs.length ≤ 4096) : Ti.tCode n xs = 0 ∧ Ti.tOut n xs = nth (ms (Ti.vals xs xs.length)) (xs.length / 2) := by
  have h1 : okAll xs = true := decide_eq_true h.1
  have h2 : mkAll n xs = true := decide_eq_true h.2.1
  have e : Ti.tCode n xs = 0 := by
    unfold Ti.tCode
    rw [if_neg (by omega), if_neg (fun h => h hf), if_pos ⟨hl, by rw [h1, h2]; rfl⟩]
  exact ⟨e, by unfold Ti.tOut; rw [if_pos e]⟩
theorem vals_nth {xs : List Rd} {q : Nat} (h : q < xs.length) : nth (Ti.vals xs xs.length) q = (rn xs q).x := by
  unfold Ti.vals nth rn
  rw [List.take_length, List.getD_eq_getElem?_getD, List.getD_eq_getElem?_getD, List.getElem?_map, List.getElem?_eq_getElem h]
  rfl
theorem count_more (k : Int) : ∀ (ls : List Int), k ∈ ls → ls.countP (fun z => decide (z < k)) + 1 ≤ ls.countP (fun z => decide (z < k + 1))
  | [], h => by cases h
  | a :: r, h => by
    have mono : r.countP (fun z => decide (z < k)) ≤ r.countP (fun z => decide (z < k + 1)) := List.countP_mono_left (fun z _ hz => by simp at hz ⊢; omega)
    rw [List.countP_cons, List.countP_cons]
    by_cases hak : a = k
    · subst hak
      rw [if_neg (by simp), if_pos (by simp; omega)]
      omega
    · have hr : k ∈ r := by
        rcases List.mem_cons.1 h with e | e
        · exact absurd e.symm hak
        · exact e
      have := count_more k r hr
      by_cases hlt : a < k
      · rw [if_pos (by simpa using hlt), if_pos (by simp; omega)]; omega
      · rw [if_neg (by simpa using hlt), if_neg (by simp; omega)]; omega
theorem count_mono (k : Int) (ls : List Int) : ls.countP (fun z => decide (z < k)) ≤ ls.countP (fun z => decide (z < k + 1)) := List.countP_mono_left (fun z _ hz => by simp at hz ⊢; omega)
theorem hi_all (xs ls : List Int) (m : Int) (h : ∀ q, q < xs.length → (q : Int) ∉ ls → m < nth xs q) : ∀ k, k ≤ xs.length → k ≤ hi xs m k + ls.countP (fun z => decide (z < (k : Int)))
  | 0, _ => by omega
  | k + 1, hk => by
    have ih := hi_all xs ls m h k (by omega)
    rw [hi_step (by omega)]
    by_cases hm : (k : Int) ∈ ls
    · have := count_more (k : Int) ls hm
      rw [show ((k + 1 : Nat) : Int) = (k : Int) + 1 by omega]
      omega
    · rw [if_pos (h k (by omega) hm)]
      have := count_mono (k : Int) ls
      rw [show ((k + 1 : Nat) : Int) = (k : Int) + 1 by omega]
      omega
theorem lo_all (xs ls : List Int) (m : Int) (h : ∀ q, q < xs.length → (q : Int) ∉ ls → nth xs q < m) : ∀ k, k ≤ xs.length → k ≤ lo xs m k + ls.countP (fun z => decide (z < (k : Int)))
  | 0, _ => by omega
  | k + 1, hk => by
    have ih := lo_all xs ls m h k (by omega)
    rw [lo_step (by omega)]
    by_cases hm : (k : Int) ∈ ls
    · have := count_more (k : Int) ls hm
      rw [show ((k + 1 : Nat) : Int) = (k : Int) + 1 by omega]
      omega
    · rw [if_pos (h k (by omega) hm)]
      have := count_mono (k : Int) ls
      rw [show ((k + 1 : Nat) : Int) = (k : Int) + 1 by omega]
      omega
/-- THE THEOREM OF THE MEDIAN: with at most f lies among 2f + 1 it lies between two of the others. -/
theorem liars (xs ls : List Int) (f : Nat) (h : xs.length = 2 * f + 1) (hl : ls.length ≤ f) :
    (∃ q, q < xs.length ∧ (q : Int) ∉ ls ∧ nth xs q ≤ nth (ms xs) (xs.length / 2)) ∧ ∃ q, q < xs.length ∧ (q : Int) ∉ ls ∧ nth (ms xs) (xs.length / 2) ≤ nth xs q := by
  obtain ⟨_, h1, h2⟩ := median xs (by omega)
  constructor
  · apply Classical.byContradiction
    intro hn
    have := hi_all xs ls (nth (ms xs) (xs.length / 2)) (fun q hq hm => Classical.byContradiction fun e => hn ⟨q, hq, hm, by omega⟩) xs.length (Nat.le_refl _)
    have hc : ls.countP (fun z => decide (z < (xs.length : Int))) ≤ ls.length := List.countP_le_length
    omega
  · apply Classical.byContradiction
    intro hn
    have := lo_all xs ls (nth (ms xs) (xs.length / 2)) (fun q hq hm => Classical.byContradiction fun e => hn ⟨q, hq, hm, by omega⟩) xs.length (Nat.le_refl _)
    have hc : ls.countP (fun z => decide (z < (xs.length : Int))) ≤ ls.length := List.countP_le_length
    omega

/-! readings in a block -/
def cv (x : Gr.Rd) : Rd := ⟨x.f, x.x, x.m⟩
theorem cv_rn {us : List Gr.Rd} {j : Nat} {x : Gr.Rd} (h : us[j]? = some x) : rn (us.map cv) j = cv x := by
  unfold rn; rw [List.getD_eq_getElem?_getD, List.getElem?_map, h]; rfl
def BlkR (w : World) (g : Nat) (rs : List Rd) : Prop := ∃ A, w.heap[g]? = some (.cells A 157 (0, 0)) ∧ ∀ i, i < rs.length → A[i * 3]? = some (.int .i64 (rn rs i).f) ∧ A[i * 3 + 1]? = some (.int .i64 (rn rs i).x) ∧ A[i * 3 + 2]? = some (.string (rn rs i).m)
theorem BlkR.kept {w w' : World} {g : Nat} {rs : List Rd} (h : BlkR w g rs) (hb : w'.heap[g]? = w.heap[g]?) : BlkR w' g rs := by
  obtain ⟨A, h1, h2⟩ := h
  exact ⟨A, hb.trans h1, h2⟩
theorem BlkR.lt {w : World} {g : Nat} {rs : List Rd} (h : BlkR w g rs) : g < w.heap.size := by
  obtain ⟨A, h1, _⟩ := h
  exact (Array.getElem?_eq_some_iff.1 h1).1
theorem BlkR.below {w w' : World} {g : Nat} {rs : List Rd} (h : BlkR w g rs) (hb : Below w.heap.size w w') : BlkR w' g rs := h.kept (hb.block g h.lt)
theorem BlkR.cells {w : World} {g : Nat} {rs : List Rd} (h : BlkR w g rs) {i : Nat} (hi : i < rs.length) : (w.cell? ⟨g, i * 3, none⟩ = some (.int .i64 (rn rs i).f) ∧ w.frozen? ⟨g, i * 3, none⟩ = false) ∧ (w.cell? ⟨g, i * 3 + 1, none⟩ = some (.int .i64 (rn rs i).x) ∧ w.frozen? ⟨g, i * 3 + 1, none⟩ = false) ∧ w.cell? ⟨g, i * 3 + 2, none⟩ = some (.string (rn rs i).m) ∧ w.frozen? ⟨g, i * 3 + 2, none⟩ = false := by
  obtain ⟨A, h1, h2⟩ := h
  obtain ⟨a, b, c⟩ := h2 i hi
  exact ⟨blk_cell h1 _ a, blk_cell h1 _ b, blk_cell h1 _ c⟩
theorem BlkR.row {w : World} {g cap : Nat} {rs : List Rd} (h : BlkR w g rs) (hc : rs.length ≤ cap) : RowR w (.slice (some ⟨g, 0, none⟩) rs.length cap) rs := by
  refine ⟨_, cap, rfl, .inr ⟨g, 0, rfl, hc, h.lt, fun i hi => ?_⟩⟩
  obtain ⟨a, b, c⟩ := h.cells hi
  rw [Nat.zero_add]
  exact ⟨a.1, b.1, c.1⟩
theorem get_set {A : Array Value} {i j : Nat} {x y : Value} (h : A[j]? = some y) : (A.setIfInBounds i x)[j]? = some (if i = j then x else y) := by
  have hj := (Array.getElem?_eq_some_iff.1 h).1
  rw [Array.getElem?_setIfInBounds]
  by_cases e : i = j
  · rw [if_pos e, if_pos e, if_pos (by rw [e]; exact hj)]
  · rw [if_neg e, if_neg e, h]
theorem BlkR.set {w : World} {g k : Nat} {rs : List Rd} (h : BlkR w g rs) (hk : k < rs.length) (z : Rd) : BlkR (((w.setCell ⟨g, k * 3, none⟩ (.int .i64 z.f)).setCell ⟨g, k * 3 + 1, none⟩ (.int .i64 z.x)).setCell ⟨g, k * 3 + 2, none⟩ (.string z.m)) g (rs.set k z) := by
  obtain ⟨A, h1, h2⟩ := h
  refine ⟨_, blk_set (blk_set (blk_set h1 (k * 3) (.int .i64 z.f)) (k * 3 + 1) (.int .i64 z.x)) (k * 3 + 2) (.string z.m), fun i hi => ?_⟩
  rw [List.length_set] at hi
  obtain ⟨a, b, c⟩ := h2 i hi
  rw [rn_set hk]
  by_cases e : i = k
  · subst e
    rw [if_pos rfl]
    refine ⟨?_, ?_, ?_⟩
    · rw [get_set (get_set (get_set a)), if_pos rfl, if_neg (by omega), if_neg (by omega)]
    · rw [get_set (get_set (get_set b)), if_neg (by omega), if_pos rfl]
    · rw [get_set (get_set (get_set c)), if_pos rfl]
  · rw [if_neg e]
    refine ⟨?_, ?_, ?_⟩
    · rw [get_set (get_set (get_set a)), if_neg (by omega), if_neg (by omega), if_neg (by omega)]
    · rw [get_set (get_set (get_set b)), if_neg (by omega), if_neg (by omega), if_neg (by omega)]
    · rw [get_set (get_set (get_set c)), if_neg (by omega), if_neg (by omega), if_neg (by omega)]
theorem BlkR.of {w : World} {B : Nat} {v : Value} {us : List Gr.Rd} (h : OwnR w B v us) (hne : us ≠ []) : ∃ g cap, v = .slice (some ⟨g, 0, none⟩) us.length cap ∧ B ≤ g ∧ us.length ≤ cap ∧ BlkR w g (us.map cv) := by
  obtain ⟨hl, h⟩ := h
  rcases h with ⟨rfl, h0⟩ | ⟨g, cap, cur, rfl, hB, hg, hc, _, hs, htk⟩
  · exact absurd (List.length_eq_zero_iff.1 h0) hne
  · refine ⟨g, cap, rfl, hB, hc, _, hg, fun i hi => ?_⟩
    rw [List.length_map] at hi
    obtain ⟨x, hx⟩ : ∃ x, us[i]? = some x := ⟨_, List.getElem?_eq_getElem hi⟩
    rw [cv_rn hx]
    have key : ∀ j u, j < 3 → (cl x)[j]? = some u → cur[i * 3 + j]? = some u := fun j u hj hu => by
      rw [← Array.getElem?_toList]
      have h1 := fm_at us i x j hx hj
      rw [← htk, List.getElem?_take, if_pos (by omega)] at h1
      rw [h1, hu]
    exact ⟨key 0 _ (by decide) rfl, key 1 _ (by decide) rfl, key 2 _ (by decide) rfl⟩

theorem ownI_set {w : World} {B b : Nat} {v : Value} {xs : List Int} (h : OwnI w B v xs) (hb : b < B) (i : Nat) (x : Value) : OwnI (w.setCell ⟨b, i, none⟩ x) B v xs := by
  obtain ⟨hl, h⟩ := h
  refine ⟨hl, ?_⟩
  rcases h with h | ⟨g, cap, cur, rfl, h1, hg, h2⟩
  · exact .inl h
  · exact .inr ⟨g, cap, cur, rfl, h1, (blk_far (by omega) i x).trans hg, h2⟩
end Go.Proofs.YtkfiahemgdppfaaGreatDoor.Ag

/- A list is taken off the wire. -/
namespace Go.Proofs.YtkfiahemgdppfaaGreatDoor.Tl
open Go.RowKit Go.Proofs.YtkfiahemgdppfaaGreatDoor.Sl Go.Proofs.YtkfiahemgdppfaaGreatDoor.By Go.Proofs.YtkfiahemgdppfaaGreatDoor.Ap Go.Proofs.YtkfiahemgdppfaaGreatDoor.Rq Go.Proofs.YtkfiahemgdppfaaGreatDoor.Rr Go.Proofs.YtkfiahemgdppfaaGreatDoor.Ty

/-- Texts in a slice of the call's own that may have room behind. -/
def OwnS (w : World) (B : Nat) (v : Value) (ts : List ByteArray) : Prop := w.ownsRow B 9 1 v ts.length (ts.map Value.string)
theorem OwnS.row {w : World} {B : Nat} {v : Value} {ts : List ByteArray} (h : OwnS w B v ts) : RowT w v ts := by
  obtain ⟨hl, h⟩ := h
  rcases h with ⟨rfl, h0⟩ | ⟨g, cap, cur, rfl, hB, hg, hc, _, hs, htk⟩
  · exact ⟨none, 0, by rw [h0], .inl (List.length_eq_zero_iff.1 h0)⟩
  · refine ⟨_, cap, rfl, .inr ⟨g, 0, rfl, hc, (Array.getElem?_eq_some_iff.1 hg).1, fun i hi => ?_⟩⟩
    rw [Nat.zero_add, Joins.cell_of_block hg i]
    have h1 : (cur.toList.take (ts.length * 1))[i]? = some (.string (tnth ts i)) := by
      rw [htk, List.getElem?_map, List.getElem?_eq_getElem hi]
      simp [tnth, List.getD_eq_getElem?_getD, List.getElem?_eq_getElem hi]
    rw [List.getElem?_take] at h1
    split at h1
    · simpa using h1
    · cases h1
theorem OwnS.kept {w w' : World} {B p : Nat} {v : Value} {ts : List ByteArray} (h : OwnS w B v ts) (hg : w.grownBy w' (some p)) (hp : p < B) : OwnS w' B v ts := by
  obtain ⟨hl, h⟩ := h
  refine ⟨hl, ?_⟩
  rcases h with h | ⟨g, cap, cur, hv, hB, hgb, h⟩
  · exact .inl h
  · exact .inr ⟨g, cap, cur, hv, hB, blk_kept hgb hg (by omega), h⟩
/-- 'append(list, t)' of one text in a plain region. -/
theorem list_text {P : Program} {ops : Array Oper} {rest : List Oper} {o : Oper} {a : Act} {Q : Exit → Act → World → Prop} (hgd : o.guard = none) (s x : Operand) (t : TypeId)
    (ho : o.op = .call { callee := .builtin .append, args := #[s, x], argTypes := #[t, t] }) (i : TypeInfo) (ht : P.underlying t = some (.slice 9)) (hi : P.info? 9 = some i) (hz : i.zero = some (.string ⟨#[]⟩))
    (hsize : i.size = 1) (hby : i.bytes = 16) (B p : Nat) (w0 W : World) (v : Value) (ts : List ByteArray) (z : ByteArray) (hs : a.eval s = v) (hown : OwnS W B v ts) (hg0 : w0.grownBy W (some p)) (hB : w0.heap.size = B)
    (hx : a.eval x = .slice (some ⟨W.heap.size, 0, none⟩) 1 1) (hlen : ts.length ≤ 1000000)
    (h : ∀ v' w', OwnS w' B v' (ts ++ [z]) → w0.grownBy w' (some p) → (∀ k, k < B → w'.heap[k]? = W.heap[k]?) → wpList P ops Q rest (a.put o.dst v') w') : wpList P ops Q (o :: rest) a (W.alloc (.cells #[.string z] 9)) := by
  refine wpList_append_own _ hgd s x t ho B 9 i (.string ⟨#[]⟩) 1 16 ht hi hz hsize hby rfl (by decide) v ts.length _ hs (hown.alloc _) ⟨W.heap.size, 0, none⟩ 1 1 [.string z] hx rfl ?_ ?_ ?_ ?_ ?_ ?_
  · exact World.news_of_block (cs := #[.string z]) (t := 9) (fr := (0, 0)) (heap_alloc_new W _)
  · simp [Value.oneCell']
  · unfold maxLen; omega
  · omega
  · have := hg0.size; simp; omega
  · intro v' w' h1 h2 _
    have hk : ∀ k, k < B → w'.heap[k]? = W.heap[k]? := fun k hk => by
      have hs0 := hg0.size
      refine (h2.block k (by simp; omega) ?_).trans (Below.heap_alloc W _ k (by omega))
      intro e1
      have := (hown.lt k e1.symm).1
      omega
    have hs2 := h2.size
    refine h v' w' (by unfold OwnS; simpa using h1) ⟨h2.os.trans hg0.os, h2.tape.trans hg0.tape, h2.output.trans hg0.output, by have := hg0.size; simp at hs2; omega, fun k hk1 hn => (hk k (by omega)).trans (hg0.block k hk1 hn)⟩ hk

def lR (xs : List Int) : Nat → List Int
  | 0 => xs
  | k + 1 => txtR 2 (lR xs k)
def lS (xs : List Int) (sh : Bool) : Nat → Bool
  | 0 => sh
  | k + 1 => txtS 2 (lR xs k) (lS xs sh k)
def lT (xs : List Int) : Nat → List ByteArray
  | 0 => []
  | k + 1 => lT xs k ++ [txtB 2 (lR xs k)]
theorem lT_length (xs : List Int) : ∀ k, (lT xs k).length = k
  | 0 => rfl
  | k + 1 => by unfold lT; rw [List.length_append, lT_length xs k]; rfl
theorem lR_len (xs : List Int) : ∀ k, (lR xs k).length ≤ xs.length
  | 0 => Nat.le_refl _
  | k + 1 => Nat.le_trans (txtR_len _ _) (lR_len xs k)
theorem lR_range {xs : List Int} (h : ∀ x ∈ xs, 0 ≤ x ∧ x ≤ 255) : ∀ k, ∀ x ∈ lR xs k, 0 ≤ x ∧ x ≤ 255
  | 0 => h
  | k + 1 => txtR_range (lR_range h k)

def okT (ts : List ByteArray) : Bool := ts.all (fun t => decide (t.size ≤ 20000)) && decide (ts.length ≤ 100)
theorem okT_bad {ts : List ByteArray} {k : Nat} (hk : k < ts.length) (h : 20000 < (tnth ts k).size) : okT ts = false := by
  unfold okT
  rw [Bool.and_eq_false_iff]
  left
  rw [List.all_eq_false]
  refine ⟨tnth ts k, ?_, by simpa using h⟩
  unfold tnth; rw [List.getD_eq_getElem?_getD, List.getElem?_eq_getElem hk]; exact List.getElem_mem hk
theorem okT_good {ts : List ByteArray} (h : ∀ j, j < ts.length → (tnth ts j).size ≤ 20000) : okT ts = decide (ts.length ≤ 100) := by
  unfold okT
  rw [List.all_eq_true.2 ?_, Bool.true_and]
  intro t ht
  obtain ⟨j, hj, rfl⟩ := List.getElem_of_mem ht
  have := h j hj
  unfold tnth at this
  rw [List.getD_eq_getElem?_getD, List.getElem?_eq_getElem hj] at this
  simpa using this

set_option maxHeartbeats 800000 in
theorem listOK_any (v : Value) (ts : List ByteArray) (w : World) (h : RowT w v ts) (hl : ts.length ≤ 1048576) (hs : ∀ i, i < ts.length → (tnth ts i).size ≤ 1048576) :
    Calls Tryz.prog 93 #[v] w fun e w' => e = .returned (.bool (okT ts)) ∧ w' = w := by
  obtain ⟨a, cap, rfl, h⟩ := h
  have HS : Hid (∀ i, i < ts.length → (tnth ts i).size ≤ 1048576) := hs
  clear hs
  go_enter Tryz.func93, Tryz.ntmps93
  go_wp2_with fail
  go_loop [4, 7] (fun _ i => ∃ k : Nat, k ≤ ts.length ∧ i = .int .i64 k ∧ Hid (∀ j, j < k → (tnth ts j).size ≤ 20000)) (fun _ i => ts.length - (intOf i).toNat)
  case atStart => exact ⟨0, by omega, rfl, fun j hj => absurd hj (by omega)⟩
  case round =>
    obtain ⟨k, hk, rfl, HB⟩ := hrel
    by_cases hlt : k < ts.length
    · rcases h with h | ⟨b, off, rfl, hc, hb, hcell⟩
      · exact absurd hlt (by rw [h]; simp)
      have hc1 := hcell k hlt
      have hsz := HS.out k hlt
      clear hcell
      by_cases hbig : 20000 < (tnth ts k).size
      · have hbig' : (20000 : Int) < ((tnth ts k).size : Int) := by omega
        have HO : Hid (okT ts = false) := okT_bad hlt hbig
        go_wp2
        go_ret
        exact ⟨by rw [HO.out]; rfl, rfl⟩
      · have hbig' : ((tnth ts k).size : Int) ≤ 20000 := by omega
        have HG : Hid ((tnth ts k).size ≤ 20000) := by show _ ≤ _; omega
        go_wp2
        exact ⟨⟨k + 1, by omega, by go_num, fun j hj => by by_cases e : j < k; exact HB.out j e; (obtain rfl : j = k := by omega); exact HG.out⟩, by simp [intOf]; omega⟩
    · obtain rfl : k = ts.length := by omega
      have HO : Hid (okT ts = decide (ts.length ≤ 100)) := okT_good HB.out
      by_cases h2 : ts.length ≤ 100
      · have h2' : (ts.length : Int) ≤ 100 := by omega
        have HO2 : Hid (okT ts = true) := by show _ = _; rw [HO.out]; simpa using h2
        go_wp2
        go_ret
        exact ⟨by rw [HO2.out]; rfl, rfl⟩
      · have h2' : ¬ (ts.length : Int) ≤ 100 := by omega
        have HO2 : Hid (okT ts = false) := by show _ = _; rw [HO.out]; simpa using h2
        go_wp2
        go_ret
        exact ⟨by rw [HO2.out]; rfl, rfl⟩

def tlN (xs : List Int) : Nat := (beN (tkB 1 xs)).toNat
theorem tlN_le (xs : List Int) (hr : ∀ x ∈ xs, 0 ≤ x ∧ x ≤ 255) : tlN xs ≤ 65535 ∧ beN (tkB 1 xs) = (tlN xs : Int) := txtN_le 1 xs (by decide) hr
set_option maxHeartbeats 1600000 in
theorem takeList_any (p B : Nat) (xs : List Int) (sh : Bool) (w : World) (h : Rdr B w p xs sh) (hB : B ≤ p) (hx : xs.length ≤ 70000) (hr : ∀ x ∈ xs, 0 ≤ x ∧ x ≤ 255) :
    Calls Tryz.prog 92 #[.pointer (some ⟨p, 0, none⟩)] w fun e w' => ∃ v', e = .returned v' ∧ OwnS w' w.heap.size v' (lT (tkR 1 xs) (tlN xs)) ∧ Rdr B w' p (lR (tkR 1 xs) (tlN xs)) (lS (tkR 1 xs) (tkS 1 xs sh) (tlN xs)) ∧ w.grownBy w' (some p) := by
  have hp := h.lt
  obtain ⟨t1, t2⟩ := tlN_le xs hr
  have T2 : Hid (beN (tkB 1 xs) = (tlN xs : Int)) := t2
  clear t2
  obtain ⟨i0, hi, hz0, hz1, hz2⟩ := info_parts info9
  go_enter Tryz.func92, Tryz.ntmps92
  go_wp2_with fail
  refine (number_any 1 p B xs sh _ h hB (by omega) hx hr).mono ?_
  rintro e w1 ⟨rfl, r1, g1⟩
  rw [T2.out]
  have HR1 : Hid (∀ x ∈ tkR 1 xs, 0 ≤ x ∧ x ≤ 255) := tkR_range hr
  have HX1 : Hid ((tkR 1 xs).length ≤ 70000) := Nat.le_trans (tkR_len _ _) hx
  obtain ⟨ys, HY⟩ : ∃ ys, Hid (tkR 1 xs = ys) := ⟨_, rfl⟩
  obtain ⟨s1, HS1⟩ : ∃ s1, Hid (tkS 1 xs sh = s1) := ⟨_, rfl⟩
  obtain ⟨n, HN⟩ : ∃ n, Hid (tlN xs = n) := ⟨_, rfl⟩
  rw [HY.out, HS1.out] at r1
  rw [HY.out] at HR1 HX1
  rw [HN.out] at t1 ⊢
  have R1 : Hid (Rdr B w1 p ys s1) := r1
  have G1 : Hid (w.grownBy w1 (some p)) := g1
  clear r1 g1 h hx hr T2
  go_wp2_with fail
  go_loopw [3, 6] (fun v i wr => ∃ k : Nat, k ≤ n ∧ i = .int .i64 k ∧ OwnS wr w.heap.size v (lT ys k) ∧ Rdr B wr p (lR ys k) (lS ys s1 k) ∧ w.grownBy wr (some p)) (fun _ i _ => n - (intOf i).toNat)
  case atStart => exact ⟨0, by omega, rfl, World.ownsRow_nil _ _ _ _, R1.out, G1.out⟩
  case round =>
    clear R1 G1
    obtain ⟨k, hk, rfl, ho, hrd, hg⟩ := hrel
    by_cases hlt : k < n
    · have hlt' : (k : Int) < (n : Int) := by omega
      have HO : Hid (OwnS wr w.heap.size u3 (lT ys k)) := ho
      have HRd : Hid (Rdr B wr p (lR ys k) (lS ys s1 k)) := hrd
      have HG : Hid (w.grownBy wr (some p)) := hg
      clear ho hrd hg
      go_wp2_with fail
      refine (text_any 2 p B _ _ _ HRd.out hB (by decide) (Nat.le_trans (lR_len ys k) HX1.out) (lR_range HR1.out k)).mono ?_
      rintro e w2 ⟨rfl, r2, g2⟩
      have o2 : OwnS w2 w.heap.size u3 (lT ys k) := HO.out.kept g2 hp
      have gg := grown_trans HG.out g2
      have hln : (lT ys k).length ≤ 1000000 := by rw [lT_length]; omega
      have R2 : Hid (Rdr B w2 p (txtR 2 (lR ys k)) (txtS 2 (lR ys k) (lS ys s1 k))) := r2
      clear HO HRd HG r2 g2
      go_wp2_with (at_builtin; go_must (refine list_text (by rfl) _ _ 28 (by rfl) i0 Tryz.underlying28 hi hz0 hz1 hz2 w.heap.size p w w2 _ _ _ (by rfl) o2 gg rfl (by rfl) hln ?_; intro v3 w3 o3 g3 k3))
      have R3 := R2.out.kept (k3 p hp) (fun k hk => k3 k (by omega))
      exact ⟨⟨k + 1, by omega, by go_num, o3, R3, g3⟩, by simp [intOf]; omega⟩
    · obtain rfl : k = n := by omega
      go_wp2
      go_ret
      rw [HY.out, HS1.out, HN.out]
      exact ⟨_, rfl, ho, hrd, hg⟩
end Go.Proofs.YtkfiahemgdppfaaGreatDoor.Tl

/- Messages: what both MessageOK functions answer, and their helpers. -/
namespace Go.Proofs.YtkfiahemgdppfaaGreatDoor.Ms
open Go.RowKit Go.Proofs.YtkfiahemgdppfaaGreatDoor.Rq

def placeB (sq : Int) (dg : ByteArray) : Bool := inB sq 1 8 && ((dg.size : Int) == 32)
def kindB (kd sq : Int) (dg bd : ByteArray) : Bool :=
  if kd = 1 then placeB sq dg && !bd.toList.isEmpty else if kd = 2 ∨ kd = 3 then placeB sq dg && bd.toList.isEmpty else if kd = 4 ∨ kd = 5 then (sq == 0) && dg.toList.isEmpty else false
/-- A message is right. -/
def msgB (kd vw sq fr : Int) (dg bd mc : ByteArray) : Bool := inB vw 0 20 && (inB fr 0 6 && (((mc.size : Int) == 8) && (decide ((bd.size : Int) ≤ 20000) && kindB kd sq dg bd)))
/-- A message as a value. -/
def msgV (kd vw sq fr : Int) (dg bd mc : ByteArray) : Value := .agg #[.int .i64 kd, .int .i64 vw, .int .i64 sq, .int .i64 fr, .string dg, .string bd, .string mc]

theorem placeOK_any (kd vw sq fr : Int) (dg bd mc : ByteArray) (w : World) :
    Calls Tryz.prog 138 #[msgV kd vw sq fr dg bd mc] w fun e w' => e = .returned (.bool (placeB sq dg)) ∧ Below w.heap.size w w' := by
  unfold msgV
  cases h1 : inB sq 1 8
  · have HO : Hid (placeB sq dg = false) := by show placeB sq dg = false; unfold placeB; rw [h1]; rfl
    go_enter Tryz.func138, Tryz.ntmps138
    go_wp2_with (go_at_call 19; refine (within_any _ _ _ _).mono ?_; rintro e w' ⟨rfl, rfl⟩)
    go_ret
    exact ⟨ret_bool HO.out.symm, (Below.refl _ _).alloc (Nat.le_refl _) _⟩
  · have HO : Hid (placeB sq dg = ((dg.size : Int) == 32)) := by show placeB sq dg = _; unfold placeB; rw [h1]; rfl
    go_enter Tryz.func138, Tryz.ntmps138
    go_wp2_with (go_at_call 19; refine (within_any _ _ _ _).mono ?_; rintro e w' ⟨rfl, rfl⟩)
    go_ret
    exact ⟨ret_bool HO.out.symm, (Below.refl _ _).alloc (Nat.le_refl _) _⟩

theorem kind1 (sq : Int) (dg bd : ByteArray) : kindB 1 sq dg bd = (placeB sq dg && !bd.toList.isEmpty) := rfl
theorem kind2 (sq : Int) (dg bd : ByteArray) : kindB 2 sq dg bd = (placeB sq dg && bd.toList.isEmpty) := rfl
theorem kind3 (sq : Int) (dg bd : ByteArray) : kindB 3 sq dg bd = (placeB sq dg && bd.toList.isEmpty) := rfl
theorem kind4 (sq : Int) (dg bd : ByteArray) : kindB 4 sq dg bd = ((sq == 0) && dg.toList.isEmpty) := rfl
theorem kind5 (sq : Int) (dg bd : ByteArray) : kindB 5 sq dg bd = ((sq == 0) && dg.toList.isEmpty) := rfl
theorem kind_no (kd sq : Int) (dg bd : ByteArray) (h : kd < 1 ∨ 5 < kd) : kindB kd sq dg bd = false := by
  unfold kindB; rw [if_neg (by omega), if_neg (by omega), if_neg (by omega)]
theorem kinds (kd : Int) : kd = 1 ∨ kd = 2 ∨ kd = 3 ∨ kd = 4 ∨ kd = 5 ∨ (kd < 1 ∨ 5 < kd) := by omega

theorem msg_box {w w1 : World} {kd vw sq fr : Int} {dg bd mc : ByteArray} {t : TypeId} (hb : Below (w.heap.size + 1) (w.alloc (.cells #[.int .i64 kd, .int .i64 vw, .int .i64 sq, .int .i64 fr, .string dg, .string bd, .string mc] t)) w1) :
    w1.cell? ⟨w.heap.size, 0, none⟩ = some (.int .i64 kd) ∧ w1.cell? ⟨w.heap.size, 1, none⟩ = some (.int .i64 vw) ∧ w1.cell? ⟨w.heap.size, 2, none⟩ = some (.int .i64 sq) ∧ w1.cell? ⟨w.heap.size, 3, none⟩ = some (.int .i64 fr) ∧
      w1.cell? ⟨w.heap.size, 4, none⟩ = some (.string dg) ∧ w1.cell? ⟨w.heap.size, 5, none⟩ = some (.string bd) ∧ w1.cell? ⟨w.heap.size, 6, none⟩ = some (.string mc) :=
  ⟨box_cells hb 0, box_cells hb 1, box_cells hb 2, box_cells hb 3, box_cells hb 4, box_cells hb 5, box_cells hb 6⟩

set_option maxHeartbeats 800000 in
theorem messageKindOK_any (kd vw sq fr : Int) (dg bd mc : ByteArray) (w : World) :
    Calls Tryz.prog 120 #[msgV kd vw sq fr dg bd mc] w fun e w' => e = .returned (.bool (kindB kd sq dg bd)) ∧ Below w.heap.size w w' := by
  unfold msgV
  rcases kinds kd with rfl | rfl | rfl | rfl | rfl | h
  · have HO : Hid (_ = _) := kind1 sq dg bd
    cases hp : placeB sq dg
    all_goals
      rw [hp] at HO
      go_enter Tryz.func120, Tryz.ntmps120
      go_wp2_with (go_at_call 138; refine (placeOK_any 1 vw sq fr dg bd mc _).mono ?_; rintro e w' ⟨rfl, hb⟩; have q5 := (msg_box (box_first hb)).2.2.2.2.2.1)
      go_ret
      exact ⟨ret_bool (by rw [HO.out]; simp), box_old (box_first hb)⟩
  · have HO : Hid (_ = _) := kind2 sq dg bd
    cases hp : placeB sq dg
    all_goals
      rw [hp] at HO
      go_enter Tryz.func120, Tryz.ntmps120
      go_wp2_with (go_at_call 138; refine (placeOK_any 2 vw sq fr dg bd mc _).mono ?_; rintro e w' ⟨rfl, hb⟩; have q5 := (msg_box (box_first hb)).2.2.2.2.2.1)
      go_ret
      exact ⟨ret_bool (by rw [HO.out]; simp), box_old (box_first hb)⟩
  · have HO : Hid (_ = _) := kind3 sq dg bd
    cases hp : placeB sq dg
    all_goals
      rw [hp] at HO
      go_enter Tryz.func120, Tryz.ntmps120
      go_wp2_with (go_at_call 138; refine (placeOK_any 3 vw sq fr dg bd mc _).mono ?_; rintro e w' ⟨rfl, hb⟩; have q5 := (msg_box (box_first hb)).2.2.2.2.2.1)
      go_ret
      exact ⟨ret_bool (by rw [HO.out]; simp), box_old (box_first hb)⟩
  · have HO : Hid (_ = _) := kind4 sq dg bd
    cases hp : (sq == 0)
    all_goals
      rw [hp] at HO
      go_enter Tryz.func120, Tryz.ntmps120
      go_wp2
      go_ret
      exact ⟨ret_bool (by rw [HO.out]; simp), (Below.refl _ _).alloc (Nat.le_refl _) _⟩
  · have HO : Hid (_ = _) := kind5 sq dg bd
    cases hp : (sq == 0)
    all_goals
      rw [hp] at HO
      go_enter Tryz.func120, Tryz.ntmps120
      go_wp2
      go_ret
      exact ⟨ret_bool (by rw [HO.out]; simp), (Below.refl _ _).alloc (Nat.le_refl _) _⟩
  · have HO : Hid (kindB kd sq dg bd = false) := kind_no kd sq dg bd h
    have e1 : (kd == 1) = false := beq_eq_false_iff_ne.2 (by omega)
    have e2 : (kd == 2) = false := beq_eq_false_iff_ne.2 (by omega)
    have e3 : (kd == 3) = false := beq_eq_false_iff_ne.2 (by omega)
    have e4 : (kd == 4) = false := beq_eq_false_iff_ne.2 (by omega)
    have e5 : (kd == 5) = false := beq_eq_false_iff_ne.2 (by omega)
    go_enter Tryz.func120, Tryz.ntmps120
    go_wp2
    go_ret
    exact ⟨ret_bool HO.out.symm, (Below.refl _ _).alloc (Nat.le_refl _) _⟩
end Go.Proofs.YtkfiahemgdppfaaGreatDoor.Ms

/- Messages: both MessageOK functions, and the laws' own helpers over messages. -/
namespace Go.Proofs.YtkfiahemgdppfaaGreatDoor.Ms
open Go.RowKit Go.Proofs.YtkfiahemgdppfaaGreatDoor.Rq

theorem msg_eq (kd vw sq fr : Int) (dg bd mc : ByteArray) : msgB kd vw sq fr dg bd mc = (inB vw 0 20 && (inB fr 0 6 && (((mc.size : Int) == 8) && (decide ((bd.size : Int) ≤ 20000) && kindB kd sq dg bd)))) := rfl
theorem al1 (w : World) (o : Obj) : Below w.heap.size w (w.alloc o) := (Below.refl _ _).alloc (Nat.le_refl _) _
set_option maxHeartbeats 400000 in
theorem nodeOK_any (n : Int) (w : World) : Calls Tryz.prog 119 #[.int .i64 n] w fun e w' => e = .returned (.bool (inB n 0 6)) ∧ w' = w := by
  go_enter Tryz.func119, Tryz.ntmps119
  go_wp2_with (go_at_call 19; refine (within_any n 0 6 _).mono ?_; rintro e w' ⟨rfl, rfl⟩)
  go_ret
  exact ⟨rfl, rfl⟩
set_option maxHeartbeats 800000 in
theorem implMessageOK_any (kd vw sq fr : Int) (dg bd mc : ByteArray) (w : World) :
    Calls Tryz.prog 95 #[msgV kd vw sq fr dg bd mc] w fun e w' => e = .returned (.bool (msgB kd vw sq fr dg bd mc)) ∧ Below w.heap.size w w' := by
  unfold msgV
  have HO : Hid (msgB kd vw sq fr dg bd mc = _) := msg_eq kd vw sq fr dg bd mc
  cases h1 : inB vw 0 20
  · rw [h1] at HO
    go_enter Tryz.func95, Tryz.ntmps95
    go_wp2_with (first | (go_at_call 19; refine (within_any _ _ _ _).mono ?_; rintro e w' ⟨rfl, rfl⟩) | (go_at_call 119; refine (nodeOK_any _ _).mono ?_; rintro e w' ⟨rfl, rfl⟩))
    go_ret
    exact ⟨ret_bool HO.out.symm, al1 _ _⟩
  cases h2 : inB fr 0 6
  · rw [h1, h2] at HO
    go_enter Tryz.func95, Tryz.ntmps95
    go_wp2_with (first | (go_at_call 19; refine (within_any _ _ _ _).mono ?_; rintro e w' ⟨rfl, rfl⟩) | (go_at_call 119; refine (nodeOK_any _ _).mono ?_; rintro e w' ⟨rfl, rfl⟩))
    go_ret
    exact ⟨ret_bool HO.out.symm, al1 _ _⟩
  cases h3 : ((mc.size : Int) == 8)
  · rw [h1, h2, h3] at HO
    go_enter Tryz.func95, Tryz.ntmps95
    go_wp2_with (first | (go_at_call 19; refine (within_any _ _ _ _).mono ?_; rintro e w' ⟨rfl, rfl⟩) | (go_at_call 119; refine (nodeOK_any _ _).mono ?_; rintro e w' ⟨rfl, rfl⟩))
    go_ret
    exact ⟨ret_bool HO.out.symm, al1 _ _⟩
  cases h4 : decide ((bd.size : Int) ≤ 20000)
  · rw [h1, h2, h3, h4] at HO
    have h4' : (20000 : Int) < (bd.size : Int) := by simpa using h4
    go_enter Tryz.func95, Tryz.ntmps95
    go_wp2_with (first | (go_at_call 19; refine (within_any _ _ _ _).mono ?_; rintro e w' ⟨rfl, rfl⟩) | (go_at_call 119; refine (nodeOK_any _ _).mono ?_; rintro e w' ⟨rfl, rfl⟩))
    go_ret
    exact ⟨ret_bool HO.out.symm, al1 _ _⟩
  rw [h1, h2, h3, h4] at HO
  have h4' : (bd.size : Int) ≤ 20000 := by simpa using h4
  go_enter Tryz.func95, Tryz.ntmps95
  go_wp2_with (first | (go_at_call 19; refine (within_any _ _ _ _).mono ?_; rintro e w' ⟨rfl, rfl⟩) | (go_at_call 119; refine (nodeOK_any _ _).mono ?_; rintro e w' ⟨rfl, rfl⟩) | (go_at_call 120; refine (messageKindOK_any kd vw sq fr dg bd mc _).mono ?_; rintro e w' ⟨rfl, hb⟩))
  go_ret
  exact ⟨ret_bool HO.out.symm, box_old (box_first hb)⟩

theorem msg_split (kd vw sq fr : Int) (dg bd mc : ByteArray) : msgB kd vw sq fr dg bd mc = (inB kd 1 5 && (inB vw 0 20 && (inB fr 0 6 && (((mc.size : Int) == 8) && (decide ((bd.size : Int) ≤ 20000) && kindB kd sq dg bd))))) := by
  cases h : inB kd 1 5
  · have : kindB kd sq dg bd = false := kind_no kd sq dg bd (by unfold inB at h; simp at h; omega)
    unfold msgB
    rw [this]
    simp
  · unfold msgB
    simp

set_option maxHeartbeats 1600000 in
theorem specMessageOK_any (kd vw sq fr : Int) (dg bd mc : ByteArray) (w : World) :
    Calls Tryz.prog 103 #[msgV kd vw sq fr dg bd mc] w fun e w' => e = .returned (.bool (msgB kd vw sq fr dg bd mc)) ∧ Below w.heap.size w w' := by
  unfold msgV
  have HO : Hid (msgB kd vw sq fr dg bd mc = _) := msg_split kd vw sq fr dg bd mc
  cases h0 : inB kd 1 5
  · rw [h0] at HO
    go_enter Tryz.func103, Tryz.ntmps103
    go_wp2_with (go_at_call 23; refine (l01In_any _ _ _ _).mono ?_; rintro e w' ⟨rfl, rfl⟩)
    go_ret
    exact ⟨ret_bool HO.out.symm, al1 _ _⟩
  cases h1 : inB vw 0 20
  · rw [h0, h1] at HO
    go_enter Tryz.func103, Tryz.ntmps103
    go_wp2_with (go_at_call 23; refine (l01In_any _ _ _ _).mono ?_; rintro e w' ⟨rfl, rfl⟩)
    go_ret
    exact ⟨ret_bool HO.out.symm, al1 _ _⟩
  cases h2 : inB fr 0 6
  · rw [h0, h1, h2] at HO
    go_enter Tryz.func103, Tryz.ntmps103
    go_wp2_with (go_at_call 23; refine (l01In_any _ _ _ _).mono ?_; rintro e w' ⟨rfl, rfl⟩)
    go_ret
    exact ⟨ret_bool HO.out.symm, al1 _ _⟩
  cases h3 : ((mc.size : Int) == 8)
  · rw [h0, h1, h2, h3] at HO
    have h3' : ((mc.size : Int) != 8) = true := by rw [bne, h3]; rfl
    go_enter Tryz.func103, Tryz.ntmps103
    go_wp2_with (go_at_call 23; refine (l01In_any _ _ _ _).mono ?_; rintro e w' ⟨rfl, rfl⟩)
    go_ret
    exact ⟨ret_bool HO.out.symm, al1 _ _⟩
  have h3' : ((mc.size : Int) != 8) = false := by rw [bne, h3]; rfl
  cases h4 : decide ((bd.size : Int) ≤ 20000)
  · rw [h0, h1, h2, h3, h4] at HO
    have h4' : (20000 : Int) < (bd.size : Int) := by simpa using h4
    go_enter Tryz.func103, Tryz.ntmps103
    go_wp2_with (go_at_call 23; refine (l01In_any _ _ _ _).mono ?_; rintro e w' ⟨rfl, rfl⟩)
    go_ret
    exact ⟨ret_bool HO.out.symm, al1 _ _⟩
  rw [h0, h1, h2, h3, h4] at HO
  have h4' : (bd.size : Int) ≤ 20000 := by simpa using h4
  clear h3 h4
  rcases kinds kd with rfl | rfl | rfl | rfl | rfl | h
  · rw [kind1] at HO
    unfold placeB at HO
    cases h5 : inB sq 1 8
    · rw [h5] at HO
      go_enter Tryz.func103, Tryz.ntmps103
      go_wp2_with (go_at_call 23; refine (l01In_any _ _ _ _).mono ?_; rintro e w' ⟨rfl, rfl⟩)
      go_ret
      exact ⟨ret_bool HO.out.symm, al1 _ _⟩
    cases h6 : ((dg.size : Int) == 32)
    all_goals
      rw [h5, h6] at HO
      go_enter Tryz.func103, Tryz.ntmps103
      go_wp2_with (go_at_call 23; refine (l01In_any _ _ _ _).mono ?_; rintro e w' ⟨rfl, rfl⟩)
      go_ret
      exact ⟨ret_bool (by rw [HO.out]; simp), al1 _ _⟩
  · rw [kind2] at HO
    unfold placeB at HO
    cases h5 : inB sq 1 8
    · rw [h5] at HO
      go_enter Tryz.func103, Tryz.ntmps103
      go_wp2_with (go_at_call 23; refine (l01In_any _ _ _ _).mono ?_; rintro e w' ⟨rfl, rfl⟩)
      go_ret
      exact ⟨ret_bool HO.out.symm, al1 _ _⟩
    cases h6 : ((dg.size : Int) == 32)
    all_goals
      rw [h5, h6] at HO
      go_enter Tryz.func103, Tryz.ntmps103
      go_wp2_with (go_at_call 23; refine (l01In_any _ _ _ _).mono ?_; rintro e w' ⟨rfl, rfl⟩)
      go_ret
      exact ⟨ret_bool (by rw [HO.out]; simp), al1 _ _⟩
  · rw [kind3] at HO
    unfold placeB at HO
    cases h5 : inB sq 1 8
    · rw [h5] at HO
      go_enter Tryz.func103, Tryz.ntmps103
      go_wp2_with (go_at_call 23; refine (l01In_any _ _ _ _).mono ?_; rintro e w' ⟨rfl, rfl⟩)
      go_ret
      exact ⟨ret_bool HO.out.symm, al1 _ _⟩
    cases h6 : ((dg.size : Int) == 32)
    all_goals
      rw [h5, h6] at HO
      go_enter Tryz.func103, Tryz.ntmps103
      go_wp2_with (go_at_call 23; refine (l01In_any _ _ _ _).mono ?_; rintro e w' ⟨rfl, rfl⟩)
      go_ret
      exact ⟨ret_bool (by rw [HO.out]; simp), al1 _ _⟩
  · rw [kind4] at HO
    cases h5 : (sq == 0)
    all_goals
      rw [h5] at HO
      go_enter Tryz.func103, Tryz.ntmps103
      go_wp2_with (go_at_call 23; refine (l01In_any _ _ _ _).mono ?_; rintro e w' ⟨rfl, rfl⟩)
      go_ret
      exact ⟨ret_bool (by rw [HO.out]; simp), al1 _ _⟩
  · rw [kind5] at HO
    cases h5 : (sq == 0)
    all_goals
      rw [h5] at HO
      go_enter Tryz.func103, Tryz.ntmps103
      go_wp2_with (go_at_call 23; refine (l01In_any _ _ _ _).mono ?_; rintro e w' ⟨rfl, rfl⟩)
      go_ret
      exact ⟨ret_bool (by rw [HO.out]; simp), al1 _ _⟩
  · exact absurd h0 (by unfold inB; simp; omega)

theorem szMessage_any (kd vw sq fr : Int) (dg bd mc : ByteArray) (w : World) (hd : dg.size ≤ maxLen) (hb : bd.size ≤ maxLen) (hm : mc.size ≤ maxLen) :
    Calls Tryz.prog 63 #[msgV kd vw sq fr dg bd mc, .int .i64 1048576] w fun e w' => e = .returned (.int .i64 (lft 1048576 ((dg.size + bd.size + mc.size : Nat) : Int))) ∧ Below w.heap.size w w' := by
  unfold maxLen at hd hb hm
  unfold msgV
  by_cases h1 : (1048576 : Int) < (dg.size : Int)
  · have HO : Hid (lft 1048576 ((dg.size + bd.size + mc.size : Nat) : Int) = -1) := lft_no (by omega)
    go_enter Tryz.func63, Tryz.ntmps63
    go_wp2
    go_ret
    exact ⟨ret_int HO.out.symm, al1 _ _⟩
  by_cases h2 : (1048576 : Int) - (dg.size : Int) < (bd.size : Int)
  · have HO : Hid (lft 1048576 ((dg.size + bd.size + mc.size : Nat) : Int) = -1) := lft_no (by omega)
    go_enter Tryz.func63, Tryz.ntmps63
    go_wp2
    go_ret
    exact ⟨ret_int HO.out.symm, al1 _ _⟩
  by_cases h3 : (1048576 : Int) - (dg.size : Int) - (bd.size : Int) < (mc.size : Int)
  · have HO : Hid (lft 1048576 ((dg.size + bd.size + mc.size : Nat) : Int) = -1) := lft_no (by omega)
    go_enter Tryz.func63, Tryz.ntmps63
    go_wp2
    go_ret
    exact ⟨ret_int HO.out.symm, al1 _ _⟩
  have HO : Hid (lft 1048576 ((dg.size + bd.size + mc.size : Nat) : Int) = 1048576 - (dg.size : Int) - (bd.size : Int) - (mc.size : Int)) := (lft_yes (by omega)).trans (by omega)
  go_enter Tryz.func63, Tryz.ntmps63
  go_wp2
  go_ret
  exact ⟨ret_int HO.out.symm, al1 _ _⟩

theorem toMessage_any (kd vw sq fr : Int) (dg bd mc : ByteArray) (w : World) :
    Calls Tryz.prog 72 #[msgV kd vw sq fr dg bd mc] w fun e w' => e = .returned (msgV kd vw sq fr dg bd mc) ∧ Below w.heap.size w w' := by
  unfold msgV
  go_enter Tryz.func72, Tryz.ntmps72
  go_wp2
  refine bodyPost_ret (v := msgV kd vw sq fr dg bd mc) (by simp [msgV, results, Tryz.results72, go_sem]) rfl ⟨rfl, (((Below.refl _ _).alloc (Nat.le_refl _) _).alloc (by simp) _).alloc (by simp; omega) _⟩
theorem eqMessage_same (kd vw sq fr : Int) (dg bd mc : ByteArray) (w : World) :
    Calls Tryz.prog 80 #[msgV kd vw sq fr dg bd mc, msgV kd vw sq fr dg bd mc] w fun e w' => e = .returned (.bool true) ∧ Below w.heap.size w w' := by
  unfold msgV
  have e0 : (kd != kd) = false := by simp
  have e1 : (vw != vw) = false := by simp
  have e2 : (sq != sq) = false := by simp
  have e3 : (fr != fr) = false := by simp
  go_enter Tryz.func80, Tryz.ntmps80
  go_wp2
  go_ret
  exact ⟨rfl, ((Below.refl _ _).alloc (Nat.le_refl _) _).alloc (by simp) _⟩
end Go.Proofs.YtkfiahemgdppfaaGreatDoor.Ms

/- What is taken is read: impl. -/
namespace Go.Proofs.YtkfiahemgdppfaaGreatDoor.Rr
open Go.RowKit Go.Proofs.YtkfiahemgdppfaaGreatDoor.Sl Go.Proofs.YtkfiahemgdppfaaGreatDoor.By Go.Proofs.YtkfiahemgdppfaaGreatDoor.Ap Go.Proofs.YtkfiahemgdppfaaGreatDoor.Rq Go.Proofs.YtkfiahemgdppfaaGreatDoor.Ms

theorem ret_val {a b : Value} (h : a = b) : Ending.returned a = .returned b := by rw [h]
/-- What a reader answers: too long, no such thing, or the thing. -/
def rjV (z vals : Array Value) (long ok : Bool) : Value := if long then .tuple #[.agg z, .int .i64 2] else if ok then .tuple #[.agg vals, .int .i64 0] else .tuple #[.agg z, .int .i64 3]

set_option maxHeartbeats 800000 in
theorem readJustMsg_gen (v : Value) (xs : List Int) (w : World) (h : RowB w v xs) (hl : xs.length ≤ 1048576) (kd vw sq fr : Int) (dg bd mc : ByteArray) (rs : List Int) (sb : Bool)
    (htake : ∀ (W : World) (p B : Nat), Rdr B W p xs false → B ≤ p → xs.length ≤ 70000 → (∀ x ∈ xs, 0 ≤ x ∧ x ≤ 255) → Calls Tryz.prog 156 #[.pointer (some ⟨p, 0, none⟩)] W fun e w' => e = .returned (.agg #[.int .i64 kd, .int .i64 vw, .int .i64 sq, .int .i64 fr, .string dg, .string bd, .string mc]) ∧ Rdr B w' p rs sb ∧ W.grownBy w' (some p)) :
    Calls Tryz.prog 155 #[v, .func (Fn.func 156) #[] #[], .func (Fn.func 95) #[] #[]] w fun e w' => e = .returned (rjV zmsg #[.int .i64 kd, .int .i64 vw, .int .i64 sq, .int .i64 fr, .string dg, .string bd, .string mc] (decide (65536 < xs.length)) (!sb && (rs.isEmpty && msgB kd vw sq fr dg bd mc))) ∧ Below w.heap.size w w' := by
  have HT : Hid (_) := htake
  clear htake
  have HU : Hid (RowU w.heap.size w v xs) := RowU.of h
  obtain ⟨a, cap, rfl, _, hr⟩ := h
  by_cases hb : 65536 < xs.length
  · have hb' : (65536 : Int) < (xs.length : Int) := by omega
    have HE : Hid (rjV zmsg #[.int .i64 kd, .int .i64 vw, .int .i64 sq, .int .i64 fr, .string dg, .string bd, .string mc] (decide (65536 < xs.length)) (!sb && (rs.isEmpty && msgB kd vw sq fr dg bd mc)) = .tuple #[.agg zmsg, .int .i64 2]) := by show _ = _; rw [decide_eq_true hb]; rfl
    go_enter Tryz.func155, Tryz.ntmps155
    go_wp2_with fail
    refine bodyPost_ret (v := .tuple #[.agg zmsg, .int .i64 2]) (by simp [zmsg, results, Tryz.results155, go_sem]) rfl ⟨ret_val HE.out.symm, ((Below.refl _ _).alloc (Nat.le_refl _) _).alloc (by simp) _⟩
  have hb' : (xs.length : Int) ≤ 65536 := by omega
  have HR : Hid (∀ x ∈ xs, 0 ≤ x ∧ x ≤ 255) := hr
  have HX : Hid (xs.length ≤ 65536) := by show _ ≤ _; omega
  have W3s : Hid (((w.alloc (.cells zmsg 26)).alloc (.cells zmsg 26)).heap.size = w.heap.size + 1 + 1) := by show _ = _; rw [size_new, size_new]
  have H0 : Hid (Rdr w.heap.size (((w.alloc (.cells zmsg 26)).alloc (.cells zmsg 26)).alloc (.cells #[.slice a xs.length cap, .bool false] 178)) (w.heap.size + 1 + 1) xs false) := by
    refine ⟨_, ?_, HU.out.kept (fun k hk => ?_)⟩
    · have := blk_new ((w.alloc (.cells zmsg 26)).alloc (.cells zmsg 26)) #[.slice a xs.length cap, .bool false] 178
      rw [W3s.out] at this
      exact this
    · rw [Below.heap_alloc _ _ _ (by simp; omega), Below.heap_alloc _ _ _ (by simp; omega), Below.heap_alloc _ _ _ hk]
  have A0 : Hid ((((w.alloc (.cells zmsg 26)).alloc (.cells zmsg 26)).alloc (.cells #[.slice a xs.length cap, .bool false] 178)).heap[w.heap.size]? = some (.cells zmsg 26 (0, 0))) := ((Below.heap_alloc _ _ _ (by simp; omega)).trans (Below.heap_alloc _ _ _ (by simp))).trans (blk_new _ _ _)
  have B0 : Hid ((((w.alloc (.cells zmsg 26)).alloc (.cells zmsg 26)).alloc (.cells #[.slice a xs.length cap, .bool false] 178)).heap[w.heap.size + 1]? = some (.cells zmsg 26 (0, 0))) := by
    have := blk_new (w.alloc (.cells zmsg 26)) zmsg 26
    rw [size_new] at this
    exact (Below.heap_alloc _ _ _ (by simp)).trans this
  have G0 : Hid (Below w.heap.size w (((w.alloc (.cells zmsg 26)).alloc (.cells zmsg 26)).alloc (.cells #[.slice a xs.length cap, .bool false] 178))) := (((Below.refl _ _).alloc (Nat.le_refl _) _).alloc (by simp) _).alloc (by simp; omega) _
  clear hr hl hb HU W3s
  go_enter Tryz.func155, Tryz.ntmps155
  go_wp2_with fail
  refine (HT.out _ (w.heap.size + 1 + 1) w.heap.size H0.out (by omega) (by have := HX.out; omega) HR.out).mono ?_
  rintro e w4 ⟨rfl, r4, g4⟩
  have S0 : w.heap.size + 1 + 1 < (((w.alloc (.cells zmsg 26)).alloc (.cells zmsg 26)).alloc (.cells #[.slice a xs.length cap, .bool false] 178)).heap.size := by rw [size_new, size_new, size_new]; omega
  have G4 : Below w.heap.size w w4 := ⟨g4.os.trans G0.out.os, g4.tape.trans G0.out.tape, g4.output.trans G0.out.output, Nat.le_trans G0.out.size g4.size, fun k hk => (below_kept g4 (by omega) S0 k hk).trans (G0.out.block k hk)⟩
  have hp4 : w.heap.size + 1 + 1 < w4.heap.size := Nat.lt_of_lt_of_le S0 g4.size
  have a4 := blk_kept A0.out g4 (by omega)
  have b4 := blk_kept B0.out g4 (by omega)
  obtain ⟨v4, p4, a', cap', rfl, _, _, _⟩ := r4
  have A5 : (w4.alloc (.cells #[.int .i64 kd, .int .i64 vw, .int .i64 sq, .int .i64 fr, .string dg, .string bd, .string mc] 26)).heap[w.heap.size]? = some (.cells zmsg 26 (0, 0)) := (Below.heap_alloc _ _ _ (by omega)).trans a4
  have B5 : (w4.alloc (.cells #[.int .i64 kd, .int .i64 vw, .int .i64 sq, .int .i64 fr, .string dg, .string bd, .string mc] 26)).heap[w.heap.size + 1]? = some (.cells zmsg 26 (0, 0)) := (Below.heap_alloc _ _ _ (by omega)).trans b4
  have P5 := (Below.heap_alloc w4 (.cells #[.int .i64 kd, .int .i64 vw, .int .i64 sq, .int .i64 fr, .string dg, .string bd, .string mc] 26) _ hp4).trans p4
  have X5 : (w4.alloc (.cells #[.int .i64 kd, .int .i64 vw, .int .i64 sq, .int .i64 fr, .string dg, .string bd, .string mc] 26)).heap[w4.heap.size]? = some (.cells #[.int .i64 kd, .int .i64 vw, .int .i64 sq, .int .i64 fr, .string dg, .string bd, .string mc] 26 (0, 0)) := blk_new _ _ _
  have G5 : Below w.heap.size w (w4.alloc (.cells #[.int .i64 kd, .int .i64 vw, .int .i64 sq, .int .i64 fr, .string dg, .string bd, .string mc] 26)) := G4.alloc G4.size _
  have HE : Hid (rjV zmsg #[.int .i64 kd, .int .i64 vw, .int .i64 sq, .int .i64 fr, .string dg, .string bd, .string mc] (decide (65536 < xs.length)) (!sb && (rs.isEmpty && msgB kd vw sq fr dg bd mc)) = if (!sb && (rs.isEmpty && msgB kd vw sq fr dg bd mc)) then .tuple #[.agg #[.int .i64 kd, .int .i64 vw, .int .i64 sq, .int .i64 fr, .string dg, .string bd, .string mc], .int .i64 0] else .tuple #[.agg zmsg, .int .i64 3]) := by show _ = _; rw [decide_eq_false (by have := HX.out; omega)]; rfl
  clear HT g4 H0 A0 B0 G0 S0 a4 b4 p4 G4 hp4
  go_upto_region 6 with fail
  generalize (w4.alloc (.cells #[.int .i64 kd, .int .i64 vw, .int .i64 sq, .int .i64 fr, .string dg, .string bd, .string mc] 26)) = w5 at A5 B5 P5 X5 G5 ⊢
  have hx5 : w4.heap.size < w5.heap.size := (Array.getElem?_eq_some_iff.1 X5).1
  generalize w4.heap.size = x5 at X5 hx5 ⊢
  obtain ⟨p0, _⟩ := blk_cell P5 0 (x := .slice a' (rs).length cap') rfl
  obtain ⟨p1, _⟩ := blk_cell P5 1 (x := .bool (sb)) rfl
  clear P5
  rcases Bool.eq_false_or_eq_true sb with hsb | hsb
  case inl =>
    rw [hsb] at p1
    have HN : Hid (rjV zmsg #[.int .i64 kd, .int .i64 vw, .int .i64 sq, .int .i64 fr, .string dg, .string bd, .string mc] (decide (65536 < xs.length)) (!sb && (rs.isEmpty && msgB kd vw sq fr dg bd mc)) = .tuple #[.agg zmsg, .int .i64 3]) := by show _ = _; rw [HE.out, hsb]; rfl
    have yc0 := (blk_cell B5 0 (x := .int .i64 0) rfl).1
    have yc1 := (blk_cell B5 1 (x := .int .i64 0) rfl).1
    have yc2 := (blk_cell B5 2 (x := .int .i64 0) rfl).1
    have yc3 := (blk_cell B5 3 (x := .int .i64 0) rfl).1
    have yc4 := (blk_cell B5 4 (x := .string ⟨#[]⟩) rfl).1
    have yc5 := (blk_cell B5 5 (x := .string ⟨#[]⟩) rfl).1
    have yc6 := (blk_cell B5 6 (x := .string ⟨#[]⟩) rfl).1
    obtain ⟨zc0, zf0⟩ := blk_cell A5 0 (x := .int .i64 0) rfl
    obtain ⟨zc1, zf1⟩ := blk_cell A5 1 (x := .int .i64 0) rfl
    obtain ⟨zc2, zf2⟩ := blk_cell A5 2 (x := .int .i64 0) rfl
    obtain ⟨zc3, zf3⟩ := blk_cell A5 3 (x := .int .i64 0) rfl
    obtain ⟨zc4, zf4⟩ := blk_cell A5 4 (x := .string ⟨#[]⟩) rfl
    obtain ⟨zc5, zf5⟩ := blk_cell A5 5 (x := .string ⟨#[]⟩) rfl
    obtain ⟨zc6, zf6⟩ := blk_cell A5 6 (x := .string ⟨#[]⟩) rfl
    clear HE
    have AF : (((((((w5.setCell ⟨w.heap.size, 0, none⟩ (.int .i64 0)).setCell ⟨w.heap.size, 1, none⟩ (.int .i64 0)).setCell ⟨w.heap.size, 2, none⟩ (.int .i64 0)).setCell ⟨w.heap.size, 3, none⟩ (.int .i64 0)).setCell ⟨w.heap.size, 4, none⟩ (.string ⟨#[]⟩)).setCell ⟨w.heap.size, 5, none⟩ (.string ⟨#[]⟩)).setCell ⟨w.heap.size, 6, none⟩ (.string ⟨#[]⟩)).heap[w.heap.size]? = some (.cells #[.int .i64 0, .int .i64 0, .int .i64 0, .int .i64 0, .string ⟨#[]⟩, .string ⟨#[]⟩, .string ⟨#[]⟩] 26 (0, 0)) := (blk_set (blk_set (blk_set (blk_set (blk_set (blk_set (blk_set A5 0 (.int .i64 0)) 1 (.int .i64 0)) 2 (.int .i64 0)) 3 (.int .i64 0)) 4 (.string ⟨#[]⟩)) 5 (.string ⟨#[]⟩)) 6 (.string ⟨#[]⟩))
    have GF : Below w.heap.size w (((((((w5.setCell ⟨w.heap.size, 0, none⟩ (.int .i64 0)).setCell ⟨w.heap.size, 1, none⟩ (.int .i64 0)).setCell ⟨w.heap.size, 2, none⟩ (.int .i64 0)).setCell ⟨w.heap.size, 3, none⟩ (.int .i64 0)).setCell ⟨w.heap.size, 4, none⟩ (.string ⟨#[]⟩)).setCell ⟨w.heap.size, 5, none⟩ (.string ⟨#[]⟩)).setCell ⟨w.heap.size, 6, none⟩ (.string ⟨#[]⟩)) := (Below.setCell (Below.setCell (Below.setCell (Below.setCell (Below.setCell (Below.setCell (Below.setCell G5 (p := ⟨w.heap.size, 0, none⟩) (Nat.le_refl _) (.int .i64 0)) (p := ⟨w.heap.size, 1, none⟩) (Nat.le_refl _) (.int .i64 0)) (p := ⟨w.heap.size, 2, none⟩) (Nat.le_refl _) (.int .i64 0)) (p := ⟨w.heap.size, 3, none⟩) (Nat.le_refl _) (.int .i64 0)) (p := ⟨w.heap.size, 4, none⟩) (Nat.le_refl _) (.string ⟨#[]⟩)) (p := ⟨w.heap.size, 5, none⟩) (Nat.le_refl _) (.string ⟨#[]⟩)) (p := ⟨w.heap.size, 6, none⟩) (Nat.le_refl _) (.string ⟨#[]⟩))
    go_wp2_with fail
    generalize (((((((w5.setCell ⟨w.heap.size, 0, none⟩ (.int .i64 0)).setCell ⟨w.heap.size, 1, none⟩ (.int .i64 0)).setCell ⟨w.heap.size, 2, none⟩ (.int .i64 0)).setCell ⟨w.heap.size, 3, none⟩ (.int .i64 0)).setCell ⟨w.heap.size, 4, none⟩ (.string ⟨#[]⟩)).setCell ⟨w.heap.size, 5, none⟩ (.string ⟨#[]⟩)).setCell ⟨w.heap.size, 6, none⟩ (.string ⟨#[]⟩)) = wf at AF GF ⊢
    have d0 := (blk_cell AF 0 (x := .int .i64 0) rfl).1
    have d1 := (blk_cell AF 1 (x := .int .i64 0) rfl).1
    have d2 := (blk_cell AF 2 (x := .int .i64 0) rfl).1
    have d3 := (blk_cell AF 3 (x := .int .i64 0) rfl).1
    have d4 := (blk_cell AF 4 (x := .string ⟨#[]⟩) rfl).1
    have d5 := (blk_cell AF 5 (x := .string ⟨#[]⟩) rfl).1
    have d6 := (blk_cell AF 6 (x := .string ⟨#[]⟩) rfl).1
    refine bodyPost_ret (v := .tuple #[.agg #[.int .i64 0, .int .i64 0, .int .i64 0, .int .i64 0, .string ⟨#[]⟩, .string ⟨#[]⟩, .string ⟨#[]⟩], .int .i64 3]) (by simp [results, Tryz.results155, go_sem, d0, d1, d2, d3, d4, d5, d6]) rfl ⟨ret_val HN.out.symm, GF⟩
  case inr =>
  rw [hsb] at p1
  rcases rs with _ | ⟨y, ys⟩
  rotate_left
  · have HN : Hid (rjV zmsg #[.int .i64 kd, .int .i64 vw, .int .i64 sq, .int .i64 fr, .string dg, .string bd, .string mc] (decide (65536 < xs.length)) (!sb && ((y :: ys).isEmpty && msgB kd vw sq fr dg bd mc)) = .tuple #[.agg zmsg, .int .i64 3]) := by show _ = _; rw [HE.out, hsb]; rfl
    have hlen : 0 < (y :: ys).length := Nat.succ_pos _
    have hdec : decide (0 < (y :: ys).length) = true := decide_eq_true hlen
    generalize (y :: ys).length = len at p0 hlen hdec
    have yc0 := (blk_cell B5 0 (x := .int .i64 0) rfl).1
    have yc1 := (blk_cell B5 1 (x := .int .i64 0) rfl).1
    have yc2 := (blk_cell B5 2 (x := .int .i64 0) rfl).1
    have yc3 := (blk_cell B5 3 (x := .int .i64 0) rfl).1
    have yc4 := (blk_cell B5 4 (x := .string ⟨#[]⟩) rfl).1
    have yc5 := (blk_cell B5 5 (x := .string ⟨#[]⟩) rfl).1
    have yc6 := (blk_cell B5 6 (x := .string ⟨#[]⟩) rfl).1
    obtain ⟨zc0, zf0⟩ := blk_cell A5 0 (x := .int .i64 0) rfl
    obtain ⟨zc1, zf1⟩ := blk_cell A5 1 (x := .int .i64 0) rfl
    obtain ⟨zc2, zf2⟩ := blk_cell A5 2 (x := .int .i64 0) rfl
    obtain ⟨zc3, zf3⟩ := blk_cell A5 3 (x := .int .i64 0) rfl
    obtain ⟨zc4, zf4⟩ := blk_cell A5 4 (x := .string ⟨#[]⟩) rfl
    obtain ⟨zc5, zf5⟩ := blk_cell A5 5 (x := .string ⟨#[]⟩) rfl
    obtain ⟨zc6, zf6⟩ := blk_cell A5 6 (x := .string ⟨#[]⟩) rfl
    clear HE
    have AF : (((((((w5.setCell ⟨w.heap.size, 0, none⟩ (.int .i64 0)).setCell ⟨w.heap.size, 1, none⟩ (.int .i64 0)).setCell ⟨w.heap.size, 2, none⟩ (.int .i64 0)).setCell ⟨w.heap.size, 3, none⟩ (.int .i64 0)).setCell ⟨w.heap.size, 4, none⟩ (.string ⟨#[]⟩)).setCell ⟨w.heap.size, 5, none⟩ (.string ⟨#[]⟩)).setCell ⟨w.heap.size, 6, none⟩ (.string ⟨#[]⟩)).heap[w.heap.size]? = some (.cells #[.int .i64 0, .int .i64 0, .int .i64 0, .int .i64 0, .string ⟨#[]⟩, .string ⟨#[]⟩, .string ⟨#[]⟩] 26 (0, 0)) := (blk_set (blk_set (blk_set (blk_set (blk_set (blk_set (blk_set A5 0 (.int .i64 0)) 1 (.int .i64 0)) 2 (.int .i64 0)) 3 (.int .i64 0)) 4 (.string ⟨#[]⟩)) 5 (.string ⟨#[]⟩)) 6 (.string ⟨#[]⟩))
    have GF : Below w.heap.size w (((((((w5.setCell ⟨w.heap.size, 0, none⟩ (.int .i64 0)).setCell ⟨w.heap.size, 1, none⟩ (.int .i64 0)).setCell ⟨w.heap.size, 2, none⟩ (.int .i64 0)).setCell ⟨w.heap.size, 3, none⟩ (.int .i64 0)).setCell ⟨w.heap.size, 4, none⟩ (.string ⟨#[]⟩)).setCell ⟨w.heap.size, 5, none⟩ (.string ⟨#[]⟩)).setCell ⟨w.heap.size, 6, none⟩ (.string ⟨#[]⟩)) := (Below.setCell (Below.setCell (Below.setCell (Below.setCell (Below.setCell (Below.setCell (Below.setCell G5 (p := ⟨w.heap.size, 0, none⟩) (Nat.le_refl _) (.int .i64 0)) (p := ⟨w.heap.size, 1, none⟩) (Nat.le_refl _) (.int .i64 0)) (p := ⟨w.heap.size, 2, none⟩) (Nat.le_refl _) (.int .i64 0)) (p := ⟨w.heap.size, 3, none⟩) (Nat.le_refl _) (.int .i64 0)) (p := ⟨w.heap.size, 4, none⟩) (Nat.le_refl _) (.string ⟨#[]⟩)) (p := ⟨w.heap.size, 5, none⟩) (Nat.le_refl _) (.string ⟨#[]⟩)) (p := ⟨w.heap.size, 6, none⟩) (Nat.le_refl _) (.string ⟨#[]⟩))
    go_wp2_with fail
    generalize (((((((w5.setCell ⟨w.heap.size, 0, none⟩ (.int .i64 0)).setCell ⟨w.heap.size, 1, none⟩ (.int .i64 0)).setCell ⟨w.heap.size, 2, none⟩ (.int .i64 0)).setCell ⟨w.heap.size, 3, none⟩ (.int .i64 0)).setCell ⟨w.heap.size, 4, none⟩ (.string ⟨#[]⟩)).setCell ⟨w.heap.size, 5, none⟩ (.string ⟨#[]⟩)).setCell ⟨w.heap.size, 6, none⟩ (.string ⟨#[]⟩)) = wf at AF GF ⊢
    have d0 := (blk_cell AF 0 (x := .int .i64 0) rfl).1
    have d1 := (blk_cell AF 1 (x := .int .i64 0) rfl).1
    have d2 := (blk_cell AF 2 (x := .int .i64 0) rfl).1
    have d3 := (blk_cell AF 3 (x := .int .i64 0) rfl).1
    have d4 := (blk_cell AF 4 (x := .string ⟨#[]⟩) rfl).1
    have d5 := (blk_cell AF 5 (x := .string ⟨#[]⟩) rfl).1
    have d6 := (blk_cell AF 6 (x := .string ⟨#[]⟩) rfl).1
    refine bodyPost_ret (v := .tuple #[.agg #[.int .i64 0, .int .i64 0, .int .i64 0, .int .i64 0, .string ⟨#[]⟩, .string ⟨#[]⟩, .string ⟨#[]⟩], .int .i64 3]) (by simp [results, Tryz.results155, go_sem, d0, d1, d2, d3, d4, d5, d6]) rfl ⟨ret_val HN.out.symm, GF⟩
  have xc0 := (blk_cell X5 0 (x := .int .i64 kd) rfl).1
  have xc1 := (blk_cell X5 1 (x := .int .i64 vw) rfl).1
  have xc2 := (blk_cell X5 2 (x := .int .i64 sq) rfl).1
  have xc3 := (blk_cell X5 3 (x := .int .i64 fr) rfl).1
  have xc4 := (blk_cell X5 4 (x := .string dg) rfl).1
  have xc5 := (blk_cell X5 5 (x := .string bd) rfl).1
  have xc6 := (blk_cell X5 6 (x := .string mc) rfl).1
  have HE2 : Hid (rjV zmsg #[.int .i64 kd, .int .i64 vw, .int .i64 sq, .int .i64 fr, .string dg, .string bd, .string mc] (decide (65536 < xs.length)) (!sb && (([] : List Int).isEmpty && msgB kd vw sq fr dg bd mc)) = if msgB kd vw sq fr dg bd mc then .tuple #[.agg #[.int .i64 kd, .int .i64 vw, .int .i64 sq, .int .i64 fr, .string dg, .string bd, .string mc], .int .i64 0] else .tuple #[.agg zmsg, .int .i64 3]) := by show _ = _; rw [HE.out, hsb]; rfl
  clear HE
  go_wp2_with fail
  refine (implMessageOK_any kd vw sq fr dg bd mc _).mono ?_
  rintro e w6 ⟨rfl, b6⟩
  have t5 : w.heap.size + 1 < w5.heap.size := (Array.getElem?_eq_some_iff.1 B5).1
  have A6 := (b6.block w.heap.size (by omega)).trans A5
  have B6 := (b6.block (w.heap.size + 1) t5).trans B5
  have X6 := (b6.block x5 hx5).trans X5
  have G6 : Below w.heap.size w w6 := G5.trans (b6.mono G5.size)
  clear A5 B5 X5 G5 b6 hx5 t5 p0 p1 xc0 xc1 xc2 xc3 xc4 xc5 xc6
  cases hq : msgB kd vw sq fr dg bd mc
  case false =>
    have HN : Hid (rjV zmsg #[.int .i64 kd, .int .i64 vw, .int .i64 sq, .int .i64 fr, .string dg, .string bd, .string mc] (decide (65536 < xs.length)) (!sb && (([] : List Int).isEmpty && msgB kd vw sq fr dg bd mc)) = .tuple #[.agg zmsg, .int .i64 3]) := by show _ = _; rw [HE2.out, hq]; rfl
    have yc0 := (blk_cell B6 0 (x := .int .i64 0) rfl).1
    have yc1 := (blk_cell B6 1 (x := .int .i64 0) rfl).1
    have yc2 := (blk_cell B6 2 (x := .int .i64 0) rfl).1
    have yc3 := (blk_cell B6 3 (x := .int .i64 0) rfl).1
    have yc4 := (blk_cell B6 4 (x := .string ⟨#[]⟩) rfl).1
    have yc5 := (blk_cell B6 5 (x := .string ⟨#[]⟩) rfl).1
    have yc6 := (blk_cell B6 6 (x := .string ⟨#[]⟩) rfl).1
    obtain ⟨zc0, zf0⟩ := blk_cell A6 0 (x := .int .i64 0) rfl
    obtain ⟨zc1, zf1⟩ := blk_cell A6 1 (x := .int .i64 0) rfl
    obtain ⟨zc2, zf2⟩ := blk_cell A6 2 (x := .int .i64 0) rfl
    obtain ⟨zc3, zf3⟩ := blk_cell A6 3 (x := .int .i64 0) rfl
    obtain ⟨zc4, zf4⟩ := blk_cell A6 4 (x := .string ⟨#[]⟩) rfl
    obtain ⟨zc5, zf5⟩ := blk_cell A6 5 (x := .string ⟨#[]⟩) rfl
    obtain ⟨zc6, zf6⟩ := blk_cell A6 6 (x := .string ⟨#[]⟩) rfl
    clear HE2
    have AF : (((((((w6.setCell ⟨w.heap.size, 0, none⟩ (.int .i64 0)).setCell ⟨w.heap.size, 1, none⟩ (.int .i64 0)).setCell ⟨w.heap.size, 2, none⟩ (.int .i64 0)).setCell ⟨w.heap.size, 3, none⟩ (.int .i64 0)).setCell ⟨w.heap.size, 4, none⟩ (.string ⟨#[]⟩)).setCell ⟨w.heap.size, 5, none⟩ (.string ⟨#[]⟩)).setCell ⟨w.heap.size, 6, none⟩ (.string ⟨#[]⟩)).heap[w.heap.size]? = some (.cells #[.int .i64 0, .int .i64 0, .int .i64 0, .int .i64 0, .string ⟨#[]⟩, .string ⟨#[]⟩, .string ⟨#[]⟩] 26 (0, 0)) := (blk_set (blk_set (blk_set (blk_set (blk_set (blk_set (blk_set A6 0 (.int .i64 0)) 1 (.int .i64 0)) 2 (.int .i64 0)) 3 (.int .i64 0)) 4 (.string ⟨#[]⟩)) 5 (.string ⟨#[]⟩)) 6 (.string ⟨#[]⟩))
    have GF : Below w.heap.size w (((((((w6.setCell ⟨w.heap.size, 0, none⟩ (.int .i64 0)).setCell ⟨w.heap.size, 1, none⟩ (.int .i64 0)).setCell ⟨w.heap.size, 2, none⟩ (.int .i64 0)).setCell ⟨w.heap.size, 3, none⟩ (.int .i64 0)).setCell ⟨w.heap.size, 4, none⟩ (.string ⟨#[]⟩)).setCell ⟨w.heap.size, 5, none⟩ (.string ⟨#[]⟩)).setCell ⟨w.heap.size, 6, none⟩ (.string ⟨#[]⟩)) := (Below.setCell (Below.setCell (Below.setCell (Below.setCell (Below.setCell (Below.setCell (Below.setCell G6 (p := ⟨w.heap.size, 0, none⟩) (Nat.le_refl _) (.int .i64 0)) (p := ⟨w.heap.size, 1, none⟩) (Nat.le_refl _) (.int .i64 0)) (p := ⟨w.heap.size, 2, none⟩) (Nat.le_refl _) (.int .i64 0)) (p := ⟨w.heap.size, 3, none⟩) (Nat.le_refl _) (.int .i64 0)) (p := ⟨w.heap.size, 4, none⟩) (Nat.le_refl _) (.string ⟨#[]⟩)) (p := ⟨w.heap.size, 5, none⟩) (Nat.le_refl _) (.string ⟨#[]⟩)) (p := ⟨w.heap.size, 6, none⟩) (Nat.le_refl _) (.string ⟨#[]⟩))
    go_wp2_with fail
    generalize (((((((w6.setCell ⟨w.heap.size, 0, none⟩ (.int .i64 0)).setCell ⟨w.heap.size, 1, none⟩ (.int .i64 0)).setCell ⟨w.heap.size, 2, none⟩ (.int .i64 0)).setCell ⟨w.heap.size, 3, none⟩ (.int .i64 0)).setCell ⟨w.heap.size, 4, none⟩ (.string ⟨#[]⟩)).setCell ⟨w.heap.size, 5, none⟩ (.string ⟨#[]⟩)).setCell ⟨w.heap.size, 6, none⟩ (.string ⟨#[]⟩)) = wf at AF GF ⊢
    have d0 := (blk_cell AF 0 (x := .int .i64 0) rfl).1
    have d1 := (blk_cell AF 1 (x := .int .i64 0) rfl).1
    have d2 := (blk_cell AF 2 (x := .int .i64 0) rfl).1
    have d3 := (blk_cell AF 3 (x := .int .i64 0) rfl).1
    have d4 := (blk_cell AF 4 (x := .string ⟨#[]⟩) rfl).1
    have d5 := (blk_cell AF 5 (x := .string ⟨#[]⟩) rfl).1
    have d6 := (blk_cell AF 6 (x := .string ⟨#[]⟩) rfl).1
    refine bodyPost_ret (v := .tuple #[.agg #[.int .i64 0, .int .i64 0, .int .i64 0, .int .i64 0, .string ⟨#[]⟩, .string ⟨#[]⟩, .string ⟨#[]⟩], .int .i64 3]) (by simp [results, Tryz.results155, go_sem, d0, d1, d2, d3, d4, d5, d6]) rfl ⟨ret_val HN.out.symm, GF⟩
  case true =>
    have HN : Hid (rjV zmsg #[.int .i64 kd, .int .i64 vw, .int .i64 sq, .int .i64 fr, .string dg, .string bd, .string mc] (decide (65536 < xs.length)) (!sb && (([] : List Int).isEmpty && msgB kd vw sq fr dg bd mc)) = .tuple #[.agg #[.int .i64 kd, .int .i64 vw, .int .i64 sq, .int .i64 fr, .string dg, .string bd, .string mc], .int .i64 0]) := by show _ = _; rw [HE2.out, hq]; rfl
    have xc0 := (blk_cell X6 0 (x := .int .i64 kd) rfl).1
    have xc1 := (blk_cell X6 1 (x := .int .i64 vw) rfl).1
    have xc2 := (blk_cell X6 2 (x := .int .i64 sq) rfl).1
    have xc3 := (blk_cell X6 3 (x := .int .i64 fr) rfl).1
    have xc4 := (blk_cell X6 4 (x := .string dg) rfl).1
    have xc5 := (blk_cell X6 5 (x := .string bd) rfl).1
    have xc6 := (blk_cell X6 6 (x := .string mc) rfl).1
    obtain ⟨zc0, zf0⟩ := blk_cell A6 0 (x := .int .i64 0) rfl
    obtain ⟨zc1, zf1⟩ := blk_cell A6 1 (x := .int .i64 0) rfl
    obtain ⟨zc2, zf2⟩ := blk_cell A6 2 (x := .int .i64 0) rfl
    obtain ⟨zc3, zf3⟩ := blk_cell A6 3 (x := .int .i64 0) rfl
    obtain ⟨zc4, zf4⟩ := blk_cell A6 4 (x := .string ⟨#[]⟩) rfl
    obtain ⟨zc5, zf5⟩ := blk_cell A6 5 (x := .string ⟨#[]⟩) rfl
    obtain ⟨zc6, zf6⟩ := blk_cell A6 6 (x := .string ⟨#[]⟩) rfl
    clear HE2
    have AF : (((((((w6.setCell ⟨w.heap.size, 0, none⟩ (.int .i64 kd)).setCell ⟨w.heap.size, 1, none⟩ (.int .i64 vw)).setCell ⟨w.heap.size, 2, none⟩ (.int .i64 sq)).setCell ⟨w.heap.size, 3, none⟩ (.int .i64 fr)).setCell ⟨w.heap.size, 4, none⟩ (.string dg)).setCell ⟨w.heap.size, 5, none⟩ (.string bd)).setCell ⟨w.heap.size, 6, none⟩ (.string mc)).heap[w.heap.size]? = some (.cells #[.int .i64 kd, .int .i64 vw, .int .i64 sq, .int .i64 fr, .string dg, .string bd, .string mc] 26 (0, 0)) := (blk_set (blk_set (blk_set (blk_set (blk_set (blk_set (blk_set A6 0 (.int .i64 kd)) 1 (.int .i64 vw)) 2 (.int .i64 sq)) 3 (.int .i64 fr)) 4 (.string dg)) 5 (.string bd)) 6 (.string mc))
    have GF : Below w.heap.size w (((((((w6.setCell ⟨w.heap.size, 0, none⟩ (.int .i64 kd)).setCell ⟨w.heap.size, 1, none⟩ (.int .i64 vw)).setCell ⟨w.heap.size, 2, none⟩ (.int .i64 sq)).setCell ⟨w.heap.size, 3, none⟩ (.int .i64 fr)).setCell ⟨w.heap.size, 4, none⟩ (.string dg)).setCell ⟨w.heap.size, 5, none⟩ (.string bd)).setCell ⟨w.heap.size, 6, none⟩ (.string mc)) := (Below.setCell (Below.setCell (Below.setCell (Below.setCell (Below.setCell (Below.setCell (Below.setCell G6 (p := ⟨w.heap.size, 0, none⟩) (Nat.le_refl _) (.int .i64 kd)) (p := ⟨w.heap.size, 1, none⟩) (Nat.le_refl _) (.int .i64 vw)) (p := ⟨w.heap.size, 2, none⟩) (Nat.le_refl _) (.int .i64 sq)) (p := ⟨w.heap.size, 3, none⟩) (Nat.le_refl _) (.int .i64 fr)) (p := ⟨w.heap.size, 4, none⟩) (Nat.le_refl _) (.string dg)) (p := ⟨w.heap.size, 5, none⟩) (Nat.le_refl _) (.string bd)) (p := ⟨w.heap.size, 6, none⟩) (Nat.le_refl _) (.string mc))
    go_wp2_with fail
    generalize (((((((w6.setCell ⟨w.heap.size, 0, none⟩ (.int .i64 kd)).setCell ⟨w.heap.size, 1, none⟩ (.int .i64 vw)).setCell ⟨w.heap.size, 2, none⟩ (.int .i64 sq)).setCell ⟨w.heap.size, 3, none⟩ (.int .i64 fr)).setCell ⟨w.heap.size, 4, none⟩ (.string dg)).setCell ⟨w.heap.size, 5, none⟩ (.string bd)).setCell ⟨w.heap.size, 6, none⟩ (.string mc)) = wf at AF GF ⊢
    have d0 := (blk_cell AF 0 (x := .int .i64 kd) rfl).1
    have d1 := (blk_cell AF 1 (x := .int .i64 vw) rfl).1
    have d2 := (blk_cell AF 2 (x := .int .i64 sq) rfl).1
    have d3 := (blk_cell AF 3 (x := .int .i64 fr) rfl).1
    have d4 := (blk_cell AF 4 (x := .string dg) rfl).1
    have d5 := (blk_cell AF 5 (x := .string bd) rfl).1
    have d6 := (blk_cell AF 6 (x := .string mc) rfl).1
    refine bodyPost_ret (v := .tuple #[.agg #[.int .i64 kd, .int .i64 vw, .int .i64 sq, .int .i64 fr, .string dg, .string bd, .string mc], .int .i64 0]) (by simp [results, Tryz.results155, go_sem, d0, d1, d2, d3, d4, d5, d6]) rfl ⟨ret_val HN.out.symm, GF⟩
end Go.Proofs.YtkfiahemgdppfaaGreatDoor.Rr
