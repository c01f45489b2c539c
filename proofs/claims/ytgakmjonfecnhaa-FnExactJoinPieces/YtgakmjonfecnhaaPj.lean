/- JoinPieces: both functions. -/
import Derived.Test.YtgakmjonfecnhaaPf
import Derived.Test.YtgakmjonfecnhaaSv
import Derived.Test.YtgakmjonfecnhaaMkb
import Derived.Test.YtgakmjonfecnhaaShelf
namespace Go.Proofs.Ytgakmjonfecnhaa.Pj
open Go.RowKit Go.Proofs.Ytgakmjonfecnhaa.Sl Go.Proofs.Ytgakmjonfecnhaa.By Go.Proofs.Ytgakmjonfecnhaa.Ap Go.Proofs.Ytgakmjonfecnhaa.Tx Go.Proofs.Ytgakmjonfecnhaa.Pf Go.Proofs.Ytgakmjonfecnhaa.Mk

/-- All the bytes of some texts, one behind the other. -/
def cat (ts : List ByteArray) : List Int := ts.flatMap bys
def catS (ts : List ByteArray) : ByteArray := ⟨(ts.flatMap fun t => t.data.toList).toArray⟩
theorem bys_catS (ts : List ByteArray) : bys (catS ts) = cat ts := by
  unfold bys catS cat
  induction ts with
  | nil => rfl
  | cons t ts ih => simp only [List.flatMap_cons, List.map_append] at ih ⊢; rw [ih]; rfl
theorem catS_size (ts : List ByteArray) : (catS ts).size = (cat ts).length := by rw [← bys_catS, bys_length]
theorem cat_append (xs ys : List ByteArray) : cat (xs ++ ys) = cat xs ++ cat ys := by unfold cat; rw [List.flatMap_append]
theorem cat_le {n : Nat} : ∀ (ts : List ByteArray), (∀ t ∈ ts, t.size ≤ n) → (cat ts).length ≤ n * ts.length
  | [], _ => by simp [cat]
  | t :: ts, h => by
    have ih := cat_le ts (fun x hx => h x (List.mem_cons_of_mem _ hx))
    have h1 := h t List.mem_cons_self
    unfold cat at ih ⊢
    rw [List.flatMap_cons, List.length_append, bys_length, List.length_cons, Nat.mul_succ]
    omega
theorem join_nosep : ∀ xs : List (List UInt8), Lib.join xs [] = xs.flatten
  | [] => rfl
  | x :: r => by rw [Lib.join_cons]; unfold Lib.joinTail; simp
/-- strings.Join of some texts, nothing between them. -/
theorem join_some (v : Value) (ts : List ByteArray) (w : World) (h : RowT w v ts) (hne : ts ≠ []) (hl : ts.length ≤ 1000000) (hs : (cat ts).length ≤ 1000000000) :
    Calls Try.prog 24 #[v, .string ⟨#[]⟩] w fun e w' => e = .returned (.string (catS ts)) ∧ Below w.heap.size w w' := by
  obtain ⟨a, cap, rfl, h⟩ := h
  rcases h with h | ⟨b, off, rfl, hc, hb, hcell⟩
  · exact absurd h hne
  have e : (Lib.join (ts.map (·.data.toList)) (⟨#[]⟩ : ByteArray).data.toList) = ts.flatMap fun t => t.data.toList := by
    rw [show (⟨#[]⟩ : ByteArray).data.toList = [] from rfl, join_nosep, List.flatMap_def]
  have hz : (ts.flatMap fun t => t.data.toList).length ≤ 1000000000 := by
    have h1 := catS_size ts
    have h2 : (catS ts).size = (ts.flatMap fun t => t.data.toList).length := List.size_toArray
    omega
  have := Sf.join_laid b off cap ts ⟨#[]⟩ w (fun j x hj => by
    have hj' : j < ts.length := (List.getElem?_eq_some_iff.1 hj).1
    rw [hcell j hj']
    rw [tnth_at hj'] at hj
    rw [Option.some.inj hj]) hb (by omega) hc (by rw [e]; omega)
  rw [e] at this
  exact this
set_option maxRecDepth 100000 in
theorem join_none (a : Option Addr) (cap : Nat) (w : World) :
    Calls Try.prog 24 #[.slice a 0 cap, .string ⟨#[]⟩] w fun e w' => e = .returned (.string ⟨#[]⟩) ∧ Below w.heap.size w w' := by
  go_enter Try.func24, Try.ntmps24
  go_wp2_with fail
  go_ret
  exact ⟨rfl, Below.refl _ _⟩
theorem join_any (v : Value) (ts : List ByteArray) (w : World) (h : RowT w v ts) (hl : ts.length ≤ 1000000) (hs : (cat ts).length ≤ 1000000000) :
    Calls Try.prog 24 #[v, .string ⟨#[]⟩] w fun e w' => e = .returned (.string (catS ts)) ∧ Below w.heap.size w w' := by
  by_cases hne : ts = []
  · subst hne
    obtain ⟨a, cap, rfl, _⟩ := h
    exact join_none a cap w
  · exact join_some v ts w h hne hl hs

/-- Bytes in memory of the call's own, that may be written. -/
def OwnX (w : World) (B : Nat) (v : Value) (zs : List Int) : Prop :=
  ∃ a cap, v = .slice a zs.length cap ∧ (zs = [] ∨ ∃ g cur fz, a = some ⟨g, 0, none⟩ ∧ zs.length ≤ cap ∧ B ≤ g ∧ w.heap[g]? = some (.cells cur 5 fz) ∧ ∀ i, i < zs.length → cur[i]? = some (.int .u8 (nth zs i)) ∧ (decide (fz.1 ≤ i) && decide (i < fz.2)) = false)
theorem OwnX.nil (w : World) (B : Nat) : OwnX w B (.slice none 0 0) [] := ⟨none, 0, rfl, .inl rfl⟩
theorem OwnX.row {w : World} {B : Nat} {v : Value} {zs : List Int} (h : OwnX w B v zs) (hr : ∀ z ∈ zs, 0 ≤ z ∧ z ≤ 255) : RowB w v zs := by
  obtain ⟨a, cap, rfl, h⟩ := h
  refine ⟨a, cap, rfl, ?_, hr⟩
  rcases h with h | ⟨g, cur, fz, rfl, hc, _, hg, h⟩
  · exact .inl h
  · exact .inr ⟨g, 0, rfl, hc, (Array.getElem?_eq_some_iff.1 hg).1, fun i hi => by rw [Nat.zero_add]; exact (Joins.cell_of_block hg i).trans (h i hi).1⟩
theorem OwnX.same {w w' : World} {B : Nat} {v : Value} {zs : List Int} (h : OwnX w B v zs) (hb : ∀ g, B ≤ g → g < w.heap.size → w'.heap[g]? = w.heap[g]?) : OwnX w' B v zs := by
  obtain ⟨a, cap, rfl, h⟩ := h
  refine ⟨a, cap, rfl, ?_⟩
  rcases h with h | ⟨g, cur, fz, rfl, hc, hB, hg, h⟩
  · exact .inl h
  · exact .inr ⟨g, cur, fz, rfl, hc, hB, (hb g hB (Array.getElem?_eq_some_iff.1 hg).1).trans hg, h⟩
theorem OwnX.below {w w' : World} {B : Nat} {v : Value} {zs : List Int} (h : OwnX w B v zs) (hb : Below w.heap.size w w') : OwnX w' B v zs := h.same fun g _ hg => hb.block g hg
theorem OwnX.kp {w w' : World} {B : Nat} {v u : Value} {zs : List Int} (h : OwnX w B v zs) (hk : Kp w w' u u) (hu : ∀ g, u.ownBlock = some g → g < B) : OwnX w' B v zs :=
  h.same fun g hB hg => hk.block g hg (fun e => by have := hu g e.symm; omega)
theorem nth_set_same {zs : List Int} {j : Nat} {z : Int} (h : j < zs.length) : nth (zs.set j z) j = z := by
  unfold nth; rw [List.getD_eq_getElem?_getD, List.getElem?_set_self h]; rfl
theorem nth_set_other {zs : List Int} {i j : Nat} {z : Int} (h : j ≠ i) : nth (zs.set j z) i = nth zs i := by
  unfold nth; rw [List.getD_eq_getElem?_getD, List.getD_eq_getElem?_getD, List.getElem?_set_ne h]
/-- What may be written there: a byte. -/
theorem OwnX.store {w : World} {B n : Nat} {v : Value} {zs : List Int} (h : OwnX w B v zs) (hn : zs.length = n) (hp : 0 < n) : ∃ g cap, v = .slice (some ⟨g, 0, none⟩) n cap ∧ n ≤ cap ∧ B ≤ g ∧ g < w.heap.size ∧
    ∀ j, j < n → w.cell? ⟨g, j, none⟩ = some (.int .u8 (nth zs j)) ∧ w.frozen? ⟨g, j, none⟩ = false ∧ ∀ z, OwnX (w.setCell ⟨g, j, none⟩ (.int .u8 z)) B v (zs.set j z) ∧ Below B w (w.setCell ⟨g, j, none⟩ (.int .u8 z)) := by
  obtain ⟨a, cap, rfl, h⟩ := h
  subst hn
  rcases h with h | ⟨g, cur, fz, rfl, hc, hB, hg, h⟩
  · rw [h] at hp; exact absurd hp (by simp)
  · refine ⟨g, cap, rfl, hc, hB, (Array.getElem?_eq_some_iff.1 hg).1, fun j hj => ⟨(Joins.cell_of_block hg j).trans (h j hj).1, ?_, fun z => ⟨?_, ?_⟩⟩⟩
    · have := (h j hj).2
      obtain ⟨lo, hi⟩ := fz
      simp only [World.frozen?, hg]
      exact this
    · refine ⟨_, cap, by rw [List.length_set], .inr ⟨g, cur.setIfInBounds j (.int .u8 z), fz, rfl, by rw [List.length_set]; exact hc, hB, ?_, fun i hi => ?_⟩⟩
      · rw [setCell_eq_setRow w g j cur 5 fz _ hg]; exact setRow_heap w g cur _ 5 fz hg
      · rw [List.length_set] at hi
        refine ⟨?_, (h i hi).2⟩
        have hjs : j < cur.size := (Array.getElem?_eq_some_iff.1 (h j hj).1).1
        rw [Array.getElem?_setIfInBounds]
        by_cases e : j = i
        · subst e
          rw [if_pos rfl, if_pos hjs, nth_set_same hj]
        · rw [if_neg e, nth_set_other e]
          exact (h i hi).1
    · exact ⟨rfl, rfl, rfl, by simp, fun k hk => Below.heap_setCell w ⟨g, j, none⟩ _ k (by show k ≠ g; omega)⟩

set_option maxHeartbeats 400000 in
theorem markX_any (v : Value) (zs : List Int) (a : Int) (B : Nat) (w : World) (hown : OwnX w B v zs) (ha : 0 ≤ a) (ha2 : a ≤ 100) (hl : zs.length ≤ 2000000) :
    Calls Try.prog 10 #[v, .int .i64 a] w fun e w' => e = .returned (.int .i64 (a + zs.length)) ∧ RowB w' v (marks a zs.length) ∧ Below B w w' := by
  by_cases hp : 0 < zs.length
  · obtain ⟨n, hn⟩ : ∃ n, Hid (zs.length = n) := ⟨_, rfl⟩
    obtain ⟨g, cap, rfl, hnc, hB, hg, _⟩ := hown.store hn.out (by rw [← hn.out]; exact hp)
    have HST : Hid (∀ w' zs', zs'.length = n → OwnX w' B (.slice (some ⟨g, 0, none⟩) n cap) zs' → ∀ j, j < n → w'.cell? ⟨g, j, none⟩ = some (.int .u8 (nth zs' j)) ∧ w'.frozen? ⟨g, j, none⟩ = false ∧ ∀ z, OwnX (w'.setCell ⟨g, j, none⟩ (.int .u8 z)) B (.slice (some ⟨g, 0, none⟩) n cap) (zs'.set j z) ∧ Below B w' (w'.setCell ⟨g, j, none⟩ (.int .u8 z))) := by
      intro w' zs' hz' ho j hj
      obtain ⟨g', cap', e1, _, _, _, h'⟩ := ho.store hz' (by omega)
      simp only [Value.slice.injEq, Option.some.injEq, Addr.mk.injEq, and_true, true_and] at e1
      obtain ⟨rfl, rfl⟩ := e1
      exact h' j hj
    have hn2 : n ≤ 2000000 := by rw [← hn.out]; exact hl
    have HO : Hid (OwnX w B (.slice (some ⟨g, 0, none⟩) n cap) zs) := hown
    rw [hn.out]
    clear hown hp hl
    go_enter Try.func10, Try.ntmps10
    go_wp2_with fail
    go_loopw [1, 5] (fun k i wr => ∃ q : Nat, q ≤ n ∧ k = .int .i64 (a + (q : Int)) ∧ i = .int .i64 q ∧ OwnX wr B (.slice (some ⟨g, 0, none⟩) n cap) (marksTo zs a q) ∧ Below B w wr) (fun _ i _ => n - (intOf i).toNat)
    case atStart => exact ⟨0, by omega, by simp, rfl, by rw [marksTo_zero]; exact HO.out, Below.refl _ _⟩
    case round =>
      obtain ⟨q, hq, rfl, rfl, ho, hk⟩ := hrel
      by_cases hlt : q < n
      · obtain ⟨hc, hf, hs⟩ := HST.out wr _ (by rw [marksTo_length, hn.out]) ho q hlt
        have HS : Hid (_) := hs ((a + q) % 256)
        clear hs ho
        go_wp2
        rw [marksTo_succ _ _ _ (by rw [hn.out]; exact hlt)] at HS
        refine ⟨⟨q + 1, by omega, by go_num, by go_num, HS.out.1, hk.trans HS.out.2⟩, by simp [intOf]; omega⟩
      · obtain rfl : q = n := by omega
        go_wp2
        go_ret
        refine ⟨rfl, ?_, hk⟩
        rw [← hn.out, marksTo_all, hn.out] at ho
        exact ho.row (marks_range _ _)
  · obtain rfl : zs = [] := List.length_eq_zero_iff.1 (by omega)
    obtain ⟨ad, cap, rfl, _⟩ := hown
    clear hp hl
    go_enter Try.func10, Try.ntmps10
    go_wp2_with fail
    go_loopw [1, 5] (fun k i wr => k = .int .i64 a ∧ i = .int .i64 0 ∧ wr = w) (fun _ _ _ => 0)
    case atStart => exact ⟨rfl, rfl, rfl⟩
    case round =>
      obtain ⟨rfl, rfl, rfl⟩ := hrel
      go_wp2
      go_ret
      exact ⟨by simp, ⟨ad, cap, rfl, .inl rfl, fun x hx => by cases hx⟩, Below.refl _ _⟩

/-- '[]byte(s)': bytes of the call's own. -/
theorem conv_own (s : ByteArray) (w : World) : ∃ v' w', (convert 9 22 (.string s)).run Try.prog w = .ok v' w' ∧ OwnX w' w.heap.size v' (bys s) ∧ Below w.heap.size w w' := by
  have hge := grownCap_ge w s.size 0 5
  refine ⟨_, _, Lib.run_convert_string_bytes w 9 22 5 s (u := .string) Try.underlying9 Try.underlying22 Try.underlying5, ⟨_, _, by rw [bys_length], .inr ⟨w.heap.size, _, _, rfl, by rw [bys_length]; exact hge, Nat.le_refl _, Lib.bytesWorld_at_new w 5 s, fun i hi => ⟨?_, ?_⟩⟩⟩, ?_⟩
  · rw [bys_length] at hi
    have h1 := Lib.bytesWorld_cell w 5 s i hi
    rw [Joins.cell_of_block (Lib.bytesWorld_at_new w 5 s) i] at h1
    rw [h1]
    unfold nth bys
    have hi' : i < s.data.toList.length := by simpa using hi
    rw [List.getD_eq_getElem?_getD, List.getD_eq_getElem?_getD, List.getElem?_map, List.getElem?_eq_getElem hi']
    rfl
  · rw [bys_length] at hi
    have : (Lib.bytesCells w 5 s).size = grownCap w s.size 0 5 := by
      simp [Lib.bytesCells]
      omega
    rw [decide_eq_false (by simp only [this]; omega), Bool.false_and]
  · refine ⟨?_, ?_, ?_, by rw [Lib.bytesWorld_size]; omega, fun k hk => Lib.bytesWorld_at_old w _ s k hk⟩ <;> simp [Lib.bytesWorld, World.freeze, World.alloc, World.drew, -World.alloc_eq, -World.drew_eq]

/-- What JoinPieces answers. -/
noncomputable def jnL (ts : List ByteArray) : List Int := if pcC ts = 0 then cat ts else []
theorem cat_range (ts : List ByteArray) : ∀ z ∈ cat ts, 0 ≤ z ∧ z ≤ 255 := by
  intro z hz
  unfold cat at hz
  obtain ⟨t, _, ht⟩ := List.mem_flatMap.1 hz
  exact bys_range t z ht
theorem jn_range (ts : List ByteArray) : ∀ z ∈ jnL ts, 0 ≤ z ∧ z ≤ 255 := by
  unfold jnL
  split
  · exact cat_range ts
  · intro z hz; cases hz
theorem pc_cat {ts : List ByteArray} (h : PcP ts) : (cat ts).length ≤ 2048 := by
  have := cat_le ts h.small
  have := h.1
  omega
theorem jn_small (ts : List ByteArray) : (jnL ts).length ≤ 2048 := by
  unfold jnL
  split
  · rename_i h; exact pc_cat (pcC_get h)
  · simp
set_option maxRecDepth 100000 in
set_option maxHeartbeats 800000 in
theorem implJoinPieces_any (v : Value) (ts : List ByteArray) (w : World) (h : RowT w v ts) (hl : ts.length ≤ 1048576) :
    Calls Try.prog 16 #[v] w fun e w' => ∃ v', e = .returned (.tuple #[v', .int .i64 (pcC ts)]) ∧ OwnX w' w.heap.size v' (jnL ts) ∧ Below w.heap.size w w' := by
  have HF : Hid (Calls Try.prog 23 #[v] w fun e w' => e = .returned (.int .i64 (pcC ts)) ∧ w = w') := piecesFault_any v ts w h (by unfold maxLen; omega)
  by_cases h0 : pcC ts = 0
  · have HP := pcC_get h0
    have HJ : Hid (Calls Try.prog 24 #[v, .string ⟨#[]⟩] w fun e w' => e = .returned (.string (catS ts)) ∧ Below w.heap.size w w') := join_any v ts w h (by have := HP.1; omega) (by have := pc_cat HP; omega)
    have HE : Hid (jnL ts = bys (catS ts)) := by show _ = _; unfold jnL; rw [if_pos h0, bys_catS]
    rw [h0] at HF ⊢
    clear HP h0 h
    go_enter Try.func16, Try.ntmps16
    go_wp2_with fail
    refine HF.out.mono ?_
    rintro e w1 ⟨rfl, rfl⟩
    go_wp2_with fail
    refine HJ.out.mono ?_
    rintro e w2 ⟨rfl, b2⟩
    obtain ⟨v3, w3, hcv, o3, b3⟩ := conv_own (catS ts) w2
    have O3 : Hid (OwnX w3 w2.heap.size v3 (bys (catS ts))) := o3
    have B3 : Hid (Below w.heap.size w w3) := b2.trans (b3.mono b2.size)
    have HS : Hid (w.heap.size ≤ w2.heap.size) := b2.size
    clear o3 b3 b2
    go_wp2_with fail
    go_ret2
    rw [HE.out]
    refine ⟨_, rfl, ?_, B3.out⟩
    obtain ⟨a, cap, e, hh⟩ := O3.out
    refine ⟨a, cap, e, ?_⟩
    rcases hh with hh | ⟨g, cur, fz, e1, hc, hB, hg, hh⟩
    · exact .inl hh
    · exact .inr ⟨g, cur, fz, e1, hc, by have := HS.out; omega, hg, hh⟩
  · have HE : Hid (jnL ts = []) := by show _ = _; unfold jnL; rw [if_neg h0]
    have hne : (pcC ts != 0) = true := by simpa using h0
    generalize pcC ts = c at HF hne
    clear h0 h
    go_enter Try.func16, Try.ntmps16
    go_wp2_with fail
    refine HF.out.mono ?_
    rintro e w1 ⟨rfl, rfl⟩
    go_wp2_with fail
    go_ret2
    rw [HE.out]
    exact ⟨_, rfl, OwnX.nil _ _, Below.refl _ _⟩
end Go.Proofs.Ytgakmjonfecnhaa.Pj
