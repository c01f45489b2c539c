/- Texts put together: Pj, Pz, Pu. -/
import Derived.Test.YtakfniknkejgpaaDoorMp9
import Derived.Test.YtakfniknkejgpaaDoorMp17
import Derived.Test.YtakfniknkejgpaaDoorMp11
import Derived.Test.YtakfniknkejgpaaDoorMp15
/- JoinPieces: both functions. -/
namespace Go.Proofs.YtakfniknkejgpaaDoor.Pj
open Go.RowKit Go.Proofs.YtakfniknkejgpaaDoor.Sl Go.Proofs.YtakfniknkejgpaaDoor.By Go.Proofs.YtakfniknkejgpaaDoor.Ap Go.Proofs.YtakfniknkejgpaaDoor.Tx Go.Proofs.YtakfniknkejgpaaDoor.Pf Go.Proofs.YtakfniknkejgpaaDoor.Mk

def cat (ts : List ByteArray) : List Int := ts.flatMap bys
def catS (ts : List ByteArray) : ByteArray := ⟨(ts.flatMap fun t => t.data.toList).toArray⟩
theorem bys_catS (ts : List ByteArray) : bys (catS ts) = cat ts := by
 unfold bys catS cat
 induction ts with
 | nil => rfl
 | cons t ts ih => simp only [List.flatMap_cons, List.map_append] at ih ⊢; rw [ih]; rfl
theorem catS_size (ts : List ByteArray) : (catS ts).size = (cat ts).length := by rw [← bys_catS, bys_length]
theorem cat_le {n : Nat} : ∀ (ts : List ByteArray), (∀ t ∈ ts, t.size ≤ n) → (cat ts).length ≤ n * ts.length
 | [], _ => by simp [cat]
 | t :: ts, h => by
   have ih := cat_le ts (fun x hx => h x (List.mem_cons_of_mem _ hx))
   have h1 := h t List.mem_cons_self
   unfold cat at ih ⊢
   rw [List.flatMap_cons, List.length_append, bys_length, List.length_cons, Nat.mul_succ]
   omega
theorem join_nosep : ∀ xs : List (List UInt8), Lib.join xs [] = xs.flatten
 | [] => rfl
 | x :: r => by rw [Lib.join_cons]; unfold Lib.joinTail; simp
theorem join_some (v : Value) (ts : List ByteArray) (w : World) (h : RowT w v ts) (hne : ts ≠ []) (hl : ts.length ≤ 1000000) (hs : (cat ts).length ≤ 1000000000) :
 Calls Tryd.prog 39 #[v, .string ⟨#[]⟩] w fun e w' => e = .returned (.string (catS ts)) ∧ Below w.heap.size w w' := by
 obtain ⟨a, cap, rfl, h⟩ := h
 rcases h with h | ⟨b, off, rfl, hc, hb, hcell⟩
 ·exact absurd h hne
 have e : (Lib.join (ts.map (·.data.toList)) (⟨#[]⟩ : ByteArray).data.toList) = ts.flatMap fun t => t.data.toList := by
  rw [show (⟨#[]⟩ : ByteArray).data.toList = [] from rfl, join_nosep, List.flatMap_def]
 have hz : (ts.flatMap fun t => t.data.toList).length ≤ 1000000000 := by
  have h1 := catS_size ts
  have h2 : (catS ts).size = (ts.flatMap fun t => t.data.toList).length := List.size_toArray
  omega
 have := Sf.join_laid b off cap ts ⟨#[]⟩ w (fun j x hj => by
  have hj' : j < ts.length := (List.getElem?_eq_some_iff.1 hj).1
  rw [hcell j hj']
  rw [tnth_at hj'] at hj
  rw [Option.some.inj hj]) hb (by omega) hc (by rw [e]; omega)
 rw [e] at this
 exact this
set_option maxRecDepth 100000 in
theorem join_none (a : Option Addr) (cap : Nat) (w : World) :
 Calls Tryd.prog 39 #[.slice a 0 cap, .string ⟨#[]⟩] w fun e w' => e = .returned (.string ⟨#[]⟩) ∧ Below w.heap.size w w' := by
 go_enter Tryd.func39, Tryd.ntmps39
 go_wp2_with fail
 go_ret
 exact ⟨rfl, Below.refl _ _⟩
theorem join_any (v : Value) (ts : List ByteArray) (w : World) (h : RowT w v ts) (hl : ts.length ≤ 1000000) (hs : (cat ts).length ≤ 1000000000) :
 Calls Tryd.prog 39 #[v, .string ⟨#[]⟩] w fun e w' => e = .returned (.string (catS ts)) ∧ Below w.heap.size w w' := by
 by_cases hne : ts = []
 ·subst hne
  obtain ⟨a, cap, rfl, _⟩ := h
  exact join_none a cap w
 ·exact join_some v ts w h hne hl hs

def OwnX (w : World) (B : Nat) (v : Value) (zs : List Int) : Prop :=
 ∃ a cap, v = .slice a zs.length cap ∧ (zs = [] ∨ ∃ g cur fz, a = some ⟨g, 0, none⟩ ∧ zs.length ≤ cap ∧ B ≤ g ∧ w.heap[g]? = some (.cells cur 5 fz) ∧ ∀ i, i < zs.length → cur[i]? = some (.int .u8 (nth zs i)) ∧ (decide (fz.1 ≤ i) && decide (i < fz.2)) = false)
theorem OwnX.nil (w : World) (B : Nat) : OwnX w B (.slice none 0 0) [] := ⟨none, 0, rfl, .inl rfl⟩
theorem OwnX.row {w : World} {B : Nat} {v : Value} {zs : List Int} (h : OwnX w B v zs) (hr : ∀ z ∈ zs, 0 ≤ z ∧ z ≤ 255) : RowB w v zs := by
 obtain ⟨a, cap, rfl, h⟩ := h
 refine ⟨a, cap, rfl, ?_, hr⟩
 rcases h with h | ⟨g, cur, fz, rfl, hc, _, hg, h⟩
 ·exact .inl h
 ·exact .inr ⟨g, 0, rfl, hc, (Array.getElem?_eq_some_iff.1 hg).1, fun i hi => by rw [Nat.zero_add]; exact (Joins.cell_of_block hg i).trans (h i hi).1⟩
theorem OwnX.same {w w' : World} {B : Nat} {v : Value} {zs : List Int} (h : OwnX w B v zs) (hb : ∀ g, B ≤ g → g < w.heap.size → w'.heap[g]? = w.heap[g]?) : OwnX w' B v zs := by
 obtain ⟨a, cap, rfl, h⟩ := h
 refine ⟨a, cap, rfl, ?_⟩
 rcases h with h | ⟨g, cur, fz, rfl, hc, hB, hg, h⟩
 ·exact .inl h
 ·exact .inr ⟨g, cur, fz, rfl, hc, hB, (hb g hB (Array.getElem?_eq_some_iff.1 hg).1).trans hg, h⟩
theorem OwnX.below {w w' : World} {B : Nat} {v : Value} {zs : List Int} (h : OwnX w B v zs) (hb : Below w.heap.size w w') : OwnX w' B v zs := h.same fun g _ hg => hb.block g hg
theorem OwnX.kp {w w' : World} {B : Nat} {v u : Value} {zs : List Int} (h : OwnX w B v zs) (hk : Kp w w' u u) (hu : ∀ g, u.ownBlock = some g → g < B) : OwnX w' B v zs :=
 h.same fun g hB hg => hk.block g hg (fun e => by have := hu g e.symm; omega)
theorem nth_set_same {zs : List Int} {j : Nat} {z : Int} (h : j < zs.length) : nth (zs.set j z) j = z := by
 unfold nth; rw [List.getD_eq_getElem?_getD, List.getElem?_set_self h]; rfl
theorem nth_set_other {zs : List Int} {i j : Nat} {z : Int} (h : j ≠ i) : nth (zs.set j z) i = nth zs i := by
 unfold nth; rw [List.getD_eq_getElem?_getD, List.getD_eq_getElem?_getD, List.getElem?_set_ne h]
theorem OwnX.store {w : World} {B n : Nat} {v : Value} {zs : List Int} (h : OwnX w B v zs) (hn : zs.length = n) (hp : 0 < n) : ∃ g cap, v = .slice (some ⟨g, 0, none⟩) n cap ∧ n ≤ cap ∧ B ≤ g ∧ g < w.heap.size ∧
 ∀ j, j < n → w.cell? ⟨g, j, none⟩ = some (.int .u8 (nth zs j)) ∧ w.frozen? ⟨g, j, none⟩ = false ∧ ∀ z, OwnX (w.setCell ⟨g, j, none⟩ (.int .u8 z)) B v (zs.set j z) ∧ Below B w (w.setCell ⟨g, j, none⟩ (.int .u8 z)) := by
 obtain ⟨a, cap, rfl, h⟩ := h
 subst hn
 rcases h with h | ⟨g, cur, fz, rfl, hc, hB, hg, h⟩
 ·rw [h] at hp; exact absurd hp (by simp)
 ·refine ⟨g, cap, rfl, hc, hB, (Array.getElem?_eq_some_iff.1 hg).1, fun j hj => ⟨(Joins.cell_of_block hg j).trans (h j hj).1, ?_, fun z => ⟨?_, ?_⟩⟩⟩
  ·have := (h j hj).2
   obtain ⟨lo, hi⟩ := fz
   simp only [World.frozen?, hg]
   exact this
  ·refine ⟨_, cap, by rw [List.length_set], .inr ⟨g, cur.setIfInBounds j (.int .u8 z), fz, rfl, by rw [List.length_set]; exact hc, hB, ?_, fun i hi => ?_⟩⟩
   ·rw [setCell_eq_setRow w g j cur 5 fz _ hg]; exact setRow_heap w g cur _ 5 fz hg
   ·rw [List.length_set] at hi
    refine ⟨?_, (h i hi).2⟩
    have hjs : j < cur.size := (Array.getElem?_eq_some_iff.1 (h j hj).1).1
    rw [Array.getElem?_setIfInBounds]
    by_cases e : j = i
    ·subst e
     rw [if_pos rfl, if_pos hjs, nth_set_same hj]
    ·rw [if_neg e, nth_set_other e]
     exact (h i hi).1
  ·exact ⟨rfl, rfl, rfl, by simp, fun k hk => Below.heap_setCell w ⟨g, j, none⟩ _ k (by show k ≠ g; omega)⟩

theorem conv_own (s : ByteArray) (w : World) : ∃ v' w', (convert 9 22 (.string s)).run Tryd.prog w = .ok v' w' ∧ OwnX w' w.heap.size v' (bys s) ∧ Below w.heap.size w w' := by
 have hge := grownCap_ge w s.size 0 5
 refine ⟨_, _, Lib.run_convert_string_bytes w 9 22 5 s (u := .string) Tryd.underlying9 Tryd.underlying22 Tryd.underlying5, ⟨_, _, by rw [bys_length], .inr ⟨w.heap.size, _, _, rfl, by rw [bys_length]; exact hge, Nat.le_refl _, Lib.bytesWorld_at_new w 5 s, fun i hi => ⟨?_, ?_⟩⟩⟩, ?_⟩
 ·rw [bys_length] at hi
  have h1 := Lib.bytesWorld_cell w 5 s i hi
  rw [Joins.cell_of_block (Lib.bytesWorld_at_new w 5 s) i] at h1
  rw [h1]
  unfold nth bys
  have hi' : i < s.data.toList.length := by simpa using hi
  rw [List.getD_eq_getElem?_getD, List.getD_eq_getElem?_getD, List.getElem?_map, List.getElem?_eq_getElem hi']
  rfl
 ·rw [bys_length] at hi
  have : (Lib.bytesCells w 5 s).size = grownCap w s.size 0 5 := by
   simp [Lib.bytesCells]
   omega
  rw [decide_eq_false (by simp only [this]; omega), Bool.false_and]
 ·refine ⟨?_, ?_, ?_, by rw [Lib.bytesWorld_size]; omega, fun k hk => Lib.bytesWorld_at_old w _ s k hk⟩ <;> simp [Lib.bytesWorld, World.freeze, World.alloc, World.drew, -World.alloc_eq, -World.drew_eq]

noncomputable def jnL (ts : List ByteArray) : List Int := if pcC ts = 0 then cat ts else []
theorem pc_cat {ts : List ByteArray} (h : PcP ts) : (cat ts).length ≤ 2048 := by
 have := cat_le ts h.small
 have := h.1
 omega
set_option maxRecDepth 100000 in
set_option maxHeartbeats 800000 in
theorem implJoinPieces_any (v : Value) (ts : List ByteArray) (w : World) (h : RowT w v ts) (hl : ts.length ≤ 1048576) :
 Calls Tryd.prog 15 #[v] w fun e w' => ∃ v', e = .returned (.tuple #[v', .int .i64 (pcC ts)]) ∧ OwnX w' w.heap.size v' (jnL ts) ∧ Below w.heap.size w w' := by
 have HF : Hid (Calls Tryd.prog 38 #[v] w fun e w' => e = .returned (.int .i64 (pcC ts)) ∧ w = w') := piecesFault_any v ts w h (by unfold maxLen; omega)
 by_cases h0 : pcC ts = 0
 ·have HP := pcC_get h0
  have HJ : Hid (Calls Tryd.prog 39 #[v, .string ⟨#[]⟩] w fun e w' => e = .returned (.string (catS ts)) ∧ Below w.heap.size w w') := join_any v ts w h (by have := HP.1; omega) (by have := pc_cat HP; omega)
  have HE : Hid (jnL ts = bys (catS ts)) := by show _ = _; unfold jnL; rw [if_pos h0, bys_catS]
  rw [h0] at HF ⊢
  clear HP h0 h
  go_enter Tryd.func15, Tryd.ntmps15
  go_wp2_with fail
  refine HF.out.mono ?_
  rintro e w1 ⟨rfl, rfl⟩
  go_wp2_with fail
  refine HJ.out.mono ?_
  rintro e w2 ⟨rfl, b2⟩
  obtain ⟨v3, w3, hcv, o3, b3⟩ := conv_own (catS ts) w2
  have O3 : Hid (OwnX w3 w2.heap.size v3 (bys (catS ts))) := o3
  have B3 : Hid (Below w.heap.size w w3) := b2.trans (b3.mono b2.size)
  have HS : Hid (w.heap.size ≤ w2.heap.size) := b2.size
  clear o3 b3 b2
  go_wp2_with fail
  go_ret2
  rw [HE.out]
  refine ⟨_, rfl, ?_, B3.out⟩
  obtain ⟨a, cap, e, hh⟩ := O3.out
  refine ⟨a, cap, e, ?_⟩
  rcases hh with hh | ⟨g, cur, fz, e1, hc, hB, hg, hh⟩
  ·exact .inl hh
  ·exact .inr ⟨g, cur, fz, e1, hc, by have := HS.out; omega, hg, hh⟩
 ·have HE : Hid (jnL ts = []) := by show _ = _; unfold jnL; rw [if_neg h0]
  have hne : (pcC ts != 0) = true := by simpa using h0
  generalize pcC ts = c at HF hne
  clear h0 h
  go_enter Tryd.func15, Tryd.ntmps15
  go_wp2_with fail
  refine HF.out.mono ?_
  rintro e w1 ⟨rfl, rfl⟩
  go_wp2_with fail
  go_ret2
  rw [HE.out]
  exact ⟨_, rfl, OwnX.nil _ _, Below.refl _ _⟩
end Go.Proofs.YtakfniknkejgpaaDoor.Pj

/- PiecesRoot: both functions. -/
namespace Go.Proofs.YtakfniknkejgpaaDoor.Py
open Go.RowKit Go.Proofs.YtakfniknkejgpaaDoor.Sl Go.Proofs.YtakfniknkejgpaaDoor.By Go.Proofs.YtakfniknkejgpaaDoor.Ap Go.Proofs.YtakfniknkejgpaaDoor.Tx Go.Proofs.YtakfniknkejgpaaDoor.Sh Go.Proofs.YtakfniknkejgpaaDoor.Ho Go.Proofs.YtakfniknkejgpaaDoor.Se Go.Proofs.YtakfniknkejgpaaDoor.Ka Go.Proofs.YtakfniknkejgpaaDoor.Sx Go.Proofs.YtakfniknkejgpaaDoor.Pf Go.Proofs.YtakfniknkejgpaaDoor.Px

set_option maxRecDepth 100000 in
set_option maxHeartbeats 1600000 in
theorem l09Root_any : ∀ (f : Nat) (ts : List ByteArray) (v : Value) (w : World), RowT w v ts → 1 ≤ ts.length → ts.length ≤ f → ts.length ≤ 64 → (∀ t ∈ ts, t.size ≤ 32) →
 Calls Tryd.prog 42 #[v] w fun e w' => e = .returned (.string (rootF f ts)) ∧ Below w.heap.size w w'
 | 0, ts, v, w, _, h1, h2, _, _ => by omega
 | f + 1, ts, v, w, hr, h1, h2, h64, hs => by
   have HR : Hid (RowT w v ts) := hr
   obtain ⟨a, cap, rfl, h⟩ := hr
   by_cases hone : ts.length = 1
   ·rcases h with h | ⟨b, off, rfl, hc, hb, hcell⟩
    ·rw [h] at h1; exact absurd h1 (by simp)
    have c1 := hcell 0 (by omega)
    rw [Nat.add_zero] at c1
    have HE : Hid (rootF (f + 1) ts = leaf (tnth ts 0)) := rootF_one hone
    have HL : Hid (Calls Tryd.prog 51 #[.string (tnth ts 0)] w fun e w' => e = .returned (.string (leaf (tnth ts 0))) ∧ Below w.heap.size w w') := l09Leaf_any _ w (by have := hs _ (tnth_mem (show 0 < ts.length by omega)); omega)
    rw [hone] at hc ⊢
    clear hs hcell hone h2 h64 h1
    generalize tnth ts 0 = t at c1 HE HL
    go_enter Tryd.func42, Tryd.ntmps42
    go_wp2_with fail
    refine HL.out.mono ?_
    rintro e w1 ⟨rfl, b1⟩
    go_wp2_with fail
    go_ret
    exact ⟨Tx.ret_str HE.out.symm, b1⟩
   ·have hcap := rowT_cap HR.out h1
    obtain ⟨q1, q2, q3⟩ := half_lt (show 2 ≤ ts.length by omega)
    have HE : Hid (rootF (f + 1) ts = node (rootF f (ts.take (half ts.length))) (rootF f (ts.drop (half ts.length)))) := rootF_more hone
    have HF : Hid (∀ W, Calls Tryd.prog 73 #[.int .i64 ts.length] W fun e w' => e = .returned (.int .i64 (half ts.length)) ∧ W = w') := fun W => l09Half_any ts.length W (by omega) h64
    have z1 := rootF_size f (ts.take (half ts.length)) (by rw [List.length_take]; omega) (by rw [List.length_take]; omega) (fun t ht => hs t (List.mem_of_mem_take ht))
    have z2 := rootF_size f (ts.drop (half ts.length)) (by rw [List.length_drop]; omega) (by rw [List.length_drop]; omega) (fun t ht => hs t (List.mem_of_mem_drop ht))
    have HL : Hid (∀ W, Below w.heap.size w W → Calls Tryd.prog 42 #[.slice a (half ts.length) cap] W fun e w' => e = .returned (.string (rootF f (ts.take (half ts.length)))) ∧ Below w.heap.size w w') := fun W hW =>
     (l09Root_any f (ts.take (half ts.length)) _ W ((rowT_take HR.out (by omega)).below hW) (by rw [List.length_take]; omega) (by rw [List.length_take]; omega) (by rw [List.length_take]; omega) (fun t ht => hs t (List.mem_of_mem_take ht))).mono
       fun e w' ⟨h1, h2⟩ => ⟨h1, hW.trans (h2.mono hW.size)⟩
    have HD : Hid (∀ W, Below w.heap.size w W → Calls Tryd.prog 42 #[.slice (a.map (·.add (half ts.length))) (ts.length - half ts.length) (cap - half ts.length)] W fun e w' => e = .returned (.string (rootF f (ts.drop (half ts.length)))) ∧ Below w.heap.size w w') := fun W hW =>
     (l09Root_any f (ts.drop (half ts.length)) _ W ((rowT_drop HR.out (by omega)).below hW) (by rw [List.length_drop]; omega) (by rw [List.length_drop]; omega) (by rw [List.length_drop]; omega) (fun t ht => hs t (List.mem_of_mem_drop ht))).mono
       fun e w' ⟨h1, h2⟩ => ⟨h1, hW.trans (h2.mono hW.size)⟩
    have hn0 : ((ts.length : Int) == 0) = false := by rw [beq_eq_false_iff_ne]; omega
    have hn1 : ((ts.length : Int) == 1) = false := by simp; omega
    obtain ⟨l, Hl⟩ : ∃ l, Hid (rootF f (ts.take (half ts.length)) = l) := ⟨_, rfl⟩
    obtain ⟨r, Hr⟩ : ∃ r, Hid (rootF f (ts.drop (half ts.length)) = r) := ⟨_, rfl⟩
    rw [Hl.out] at z1 HL HE
    rw [Hr.out] at z2 HD HE
    have HN : Hid (∀ W, Below w.heap.size w W → Calls Tryd.prog 74 #[.string l, .string r] W fun e w' => e = .returned (.string (node l r)) ∧ Below w.heap.size w w') := fun W hW =>
     (l03Node_any l r W (by omega) (by omega)).mono fun e w' ⟨h1, h2⟩ => ⟨h1, hW.trans (h2.mono hW.size)⟩
    clear Hl Hr z1 z2 hs hone h HR h2
    generalize half ts.length = k at q1 q2 q3 HF HL HD
    generalize ts.length = n at hcap q2 HF HD hn0 hn1 h1 h64
    have G0 : Hid (Below w.heap.size w w.drew) := (Below.refl _ _).drew
    have p1 : (k : Int) ≤ (n : Int) := by omega
    have p2 : (k : Int) ≤ (cap : Int) := by omega
    have p3 : (n : Int) ≤ (cap : Int) := by omega
    have p4 : ¬ cap = k := by omega
    go_enter Tryd.func42, Tryd.ntmps42
    go_wp2_with (first | (go_at_call 73; refine (HF.out _).mono ?_; rintro e w1 ⟨rfl, rfl⟩) | fail)
    go_region_law (first
     | (go_simp; go_at_call 74; refine (HN.out _ g3).mono ?_; rintro e w3 ⟨rfl, g3⟩; try go_simp)
     | (go_simp; go_at_call 42; (with_reducible refine (HL.out _ (by first | exact g3 | exact G0.out)).mono ?_); rintro e w3 ⟨rfl, g3⟩; try go_simp)
     | (go_simp; go_at_call 42; (with_reducible refine (HD.out _ (by first | exact g3 | exact G0.out)).mono ?_); rintro e w3 ⟨rfl, g3⟩; try go_simp))
    all_goals
     go_wp2_with fail
     go_ret
     exact ⟨Tx.ret_str HE.out.symm, g3⟩
def rootE : ByteArray := hashS (bys bNothing)
theorem row_const (w : World) (xs : List Int) (n : Nat) (hn : xs.length = n) (cs : Array Value) (hcs : cs = (xs.map (Value.int .u8)).toArray) (fz : Nat × Nat) (hr : ∀ x ∈ xs, 0 ≤ x ∧ x ≤ 255) : RowB (w.alloc (.cells cs 5 fz)) (.slice (some ⟨w.heap.size, 0, none⟩) n n) xs := by
 subst hn hcs
 refine ⟨_, _, rfl, .inr ⟨w.heap.size, 0, rfl, Nat.le_refl _, by simp, fun i hi => ?_⟩, hr⟩
 rw [Nat.zero_add, Joins.cell_of_block (heap_alloc_new w _) i, List.getElem?_toArray, List.getElem?_map]
 unfold nth
 rw [List.getD_eq_getElem?_getD, List.getElem?_eq_getElem hi]
 rfl
set_option maxRecDepth 100000 in
set_option maxHeartbeats 800000 in
theorem l09Root_none (a : Option Addr) (cap : Nat) (w : World) :
 Calls Tryd.prog 42 #[.slice a 0 cap] w fun e w' => e = .returned (.string rootE) ∧ Below w.heap.size w w' := by
 have hk0 := Lib.run_convert_bytes_const (P := Tryd.prog) w 22 5 #[.int .u8 110, .int .u8 111, .int .u8 116, .int .u8 104, .int .u8 105, .int .u8 110, .int .u8 103] 7 7 Tryd.underlying22 Tryd.underlying5
 have R0 : Hid (RowB (w.alloc (.cells #[.int .u8 110, .int .u8 111, .int .u8 116, .int .u8 104, .int .u8 105, .int .u8 110, .int .u8 103] 5 (7, 8))) (.slice (some ⟨w.heap.size, 0, none⟩) 7 7) (bys bNothing)) := row_const w [110, 111, 116, 104, 105, 110, 103] 7 rfl _ rfl _ (by decide)
 have B0 : Hid (Below w.heap.size w (w.alloc (.cells #[.int .u8 110, .int .u8 111, .int .u8 116, .int .u8 104, .int .u8 105, .int .u8 110, .int .u8 103] 5 (7, 8)))) := bel_new _ _
 go_enter Tryd.func42, Tryd.ntmps42
 go_wp2_with fail
 refine (hash1_any _ _ _ R0.out (by decide)).mono ?_
 rintro e w3 ⟨rfl, b3⟩
 have HE : Hid (hashS (bys bNothing) = rootE) := rfl
 rw [HE.out]
 go_wp2_with fail
 go_ret
 exact ⟨rfl, B0.out.trans (b3.mono B0.out.size)⟩
noncomputable def prO (ts : List ByteArray) : ByteArray := if pcC ts = 0 then (if ts.length = 0 then rootE else rootF 64 ts) else ⟨#[]⟩
theorem prO_bad {ts : List ByteArray} (h : pcC ts ≠ 0) : prO ts = ⟨#[]⟩ := if_neg h
theorem prO_none {ts : List ByteArray} (h : pcC ts = 0) (h0 : ts.length = 0) : prO ts = rootE := by unfold prO; rw [if_pos h, if_pos h0]
theorem prO_some {ts : List ByteArray} (h : pcC ts = 0) (h0 : ts.length ≠ 0) : prO ts = rootF 64 ts := by unfold prO; rw [if_pos h, if_neg h0]
theorem ret_si {a b : ByteArray} {c d : Int} (h1 : a = b) (h2 : c = d) : Ending.returned (.tuple #[.string a, .int .i64 c]) = .returned (.tuple #[.string b, .int .i64 d]) := by rw [h1, h2]
set_option maxRecDepth 100000 in
set_option maxHeartbeats 800000 in
theorem implPiecesRoot_any (v : Value) (ts : List ByteArray) (w : World) (h : RowT w v ts) (hl : ts.length ≤ 1048576) (hK : KTab w) (hp : 0 < w.heap.size) :
 Calls Tryd.prog 16 #[v] w fun e w' => e = .returned (.tuple #[.string (prO ts), .int .i64 (pcC ts)]) ∧ Below w.heap.size w w' := by
 have HF : Hid (Calls Tryd.prog 38 #[v] w fun e w' => e = .returned (.int .i64 (pcC ts)) ∧ w = w') := piecesFault_any v ts w h (by unfold maxLen; omega)
 have GK : Hid (KTab w ∧ 0 < w.heap.size) := ⟨hK, hp⟩
 have hrow := h
 obtain ⟨a, cap, rfl, _⟩ := h
 by_cases h0 : pcC ts = 0
 ·have HP := pcC_get h0
  have HC : Hid (pcC ts = 0) := h0
  by_cases hz : ts.length = 0
  ·have HE : Hid (prO ts = rootE) := prO_none h0 hz
   have HH : Hid (Calls Tryd.prog 33 #[.slice (some ⟨w.heap.size, 0, none⟩) 1 1] (w.alloc (.cells #[.string ⟨#[110, 111, 116, 104, 105, 110, 103]⟩] 9)) fun e w' => e = .returned (.string rootE) ∧ Below w.heap.size w w') := by
    have := hashOf_lit w _ 1 rfl #[.string ⟨#[110, 111, 116, 104, 105, 110, 103]⟩] [bNothing] rfl rfl (by decide) (by decide) (by decide) hK hp
    have e : cat [bNothing] = bys bNothing := by unfold cat; simp
    rw [e] at this
    exact this
   rw [h0] at HF ⊢
   rw [hz] at HF ⊢
   clear HP h0 hrow hz hl hK hp
   go_enter Tryd.func16, Tryd.ntmps16
   go_wp2_with fail
   refine HF.out.mono ?_
   rintro e w1 ⟨rfl, rfl⟩
   go_wp2_with fail
   refine HH.out.mono ?_
   rintro e w2 ⟨rfl, b2⟩
   go_wp2_with fail
   go_ret2
   exact ⟨ret_si HE.out.symm rfl, b2⟩
  ·have HE : Hid (prO ts = rootF 64 ts) := prO_some h0 hz
   have HH : Hid (Calls Tryd.prog 40 #[.slice a ts.length cap] w fun e w' => e = .returned (.string (rootF 64 ts)) ∧ Below w.heap.size w w') := rootOf_any 64 ts _ w hrow (by omega) HP.1 HP.1 HP.small hK hp
   have hne : ((ts.length : Int) == 0) = false := by rw [beq_eq_false_iff_ne]; omega
   rw [h0] at HF ⊢
   clear HP h0 hrow hz hl hK hp
   generalize rootF 64 ts = r at HE HH
   go_enter Tryd.func16, Tryd.ntmps16
   go_wp2_with fail
   refine HF.out.mono ?_
   rintro e w1 ⟨rfl, rfl⟩
   go_wp2_with fail
   refine HH.out.mono ?_
   rintro e w2 ⟨rfl, b2⟩
   go_wp2_with fail
   go_ret2
   exact ⟨ret_si HE.out.symm rfl, b2⟩
 ·have HE : Hid (prO ts = ⟨#[]⟩) := prO_bad h0
  have hne : (pcC ts != 0) = true := by simpa using h0
  generalize pcC ts = c at HF hne
  clear h0 hrow hl hK hp
  go_enter Tryd.func16, Tryd.ntmps16
  go_wp2_with fail
  refine HF.out.mono ?_
  rintro e w1 ⟨rfl, rfl⟩
  go_wp2_with fail
  go_ret2
  exact ⟨ret_si HE.out.symm rfl, Below.refl _ _⟩
set_option maxRecDepth 100000 in
set_option maxHeartbeats 800000 in
theorem specPiecesRoot_any (v : Value) (ts : List ByteArray) (w : World) (h : RowT w v ts) (hl : ts.length ≤ 1048576) :
 Calls Tryd.prog 17 #[v] w fun e w' => e = .returned (.tuple #[.string (prO ts), .int .i64 (pcC ts)]) ∧ Below w.heap.size w w' := by
 have HF : Hid (Calls Tryd.prog 41 #[v] w fun e w' => e = .returned (.bool (pcB ts)) ∧ w = w') := l09OK_any v ts w h (by unfold maxLen; omega)
 have hrow := h
 obtain ⟨a, cap, rfl, _⟩ := h
 by_cases h1 : 4096 < ts.length
 ·have h1' : (4096 : Int) < (ts.length : Int) := by omega
  have HC : Hid (pcC ts = 2) := by show _ = _; unfold pcC; rw [if_pos h1]
  have HE : Hid (prO ts = ⟨#[]⟩) := prO_bad (by rw [HC.out]; decide)
  clear h1 hrow HF
  go_enter Tryd.func17, Tryd.ntmps17
  go_wp2_with fail
  go_ret2
  exact ⟨ret_si HE.out.symm HC.out.symm, Below.refl _ _⟩
 have h1' : ¬ (4096 : Int) < (ts.length : Int) := by omega
 cases hb : pcB ts
 case false =>
  have HC : Hid (pcC ts = 1) := by show _ = _; unfold pcC; rw [if_neg h1, hb]; rfl
  have HE : Hid (prO ts = ⟨#[]⟩) := prO_bad (by rw [HC.out]; decide)
  rw [hb] at HF
  clear h1 hrow hb
  go_enter Tryd.func17, Tryd.ntmps17
  go_wp2_with fail
  refine HF.out.mono ?_
  rintro e w1 ⟨rfl, rfl⟩
  go_wp2_with fail
  go_ret2
  exact ⟨ret_si HE.out.symm HC.out.symm, Below.refl _ _⟩
 case true =>
  have HP := pcB_get hb
  have HC : Hid (pcC ts = 0) := pcC_ok HP
  have HH : Hid (Calls Tryd.prog 42 #[.slice a ts.length cap] w fun e w' => e = .returned (.string (prO ts)) ∧ Below w.heap.size w w') := by
   by_cases hz : ts.length = 0
   ·rw [hz, prO_none HC.out hz]
    exact l09Root_none a cap w
   ·rw [prO_some HC.out hz]
    exact l09Root_any 64 ts _ w hrow (by omega) HP.1 HP.1 HP.small
  rw [hb] at HF
  clear h1 hrow hb HP
  go_enter Tryd.func17, Tryd.ntmps17
  go_wp2_with fail
  refine HF.out.mono ?_
  rintro e w1 ⟨rfl, rfl⟩
  go_wp2_with fail
  refine HH.out.mono ?_
  rintro e w2 ⟨rfl, b2⟩
  go_wp2_with fail
  go_ret2
  exact ⟨ret_si rfl HC.out.symm, b2⟩
end Go.Proofs.YtakfniknkejgpaaDoor.Py

/- ProvePiece: both functions. -/
namespace Go.Proofs.YtakfniknkejgpaaDoor.Py
open Go.RowKit Go.Proofs.YtakfniknkejgpaaDoor.Sl Go.Proofs.YtakfniknkejgpaaDoor.By Go.Proofs.YtakfniknkejgpaaDoor.Ap Go.Proofs.YtakfniknkejgpaaDoor.Tx Go.Proofs.YtakfniknkejgpaaDoor.Sh Go.Proofs.YtakfniknkejgpaaDoor.Ho Go.Proofs.YtakfniknkejgpaaDoor.Se Go.Proofs.YtakfniknkejgpaaDoor.Ka Go.Proofs.YtakfniknkejgpaaDoor.Sx Go.Proofs.YtakfniknkejgpaaDoor.Pf Go.Proofs.YtakfniknkejgpaaDoor.Px

def pathF : Nat → List ByteArray → Nat → List ByteArray
 | 0, _, _ => []
 | f + 1, ts, k => if ts.length = 1 then [] else
     if k < half ts.length then pathF f (ts.take (half ts.length)) k ++ [rootF f (ts.drop (half ts.length))]
     else pathF f (ts.drop (half ts.length)) (k - half ts.length) ++ [rootF f (ts.take (half ts.length))]
theorem pathF_one {f k : Nat} {ts : List ByteArray} (h : ts.length = 1) : pathF (f + 1) ts k = [] := if_pos h
theorem pathF_left {f k : Nat} {ts : List ByteArray} (h : ts.length ≠ 1) (hk : k < half ts.length) : pathF (f + 1) ts k = pathF f (ts.take (half ts.length)) k ++ [rootF f (ts.drop (half ts.length))] := by
 show (if _ then _ else _) = _
 rw [if_neg h, if_pos hk]
theorem pathF_right {f k : Nat} {ts : List ByteArray} (h : ts.length ≠ 1) (hk : ¬ k < half ts.length) : pathF (f + 1) ts k = pathF f (ts.drop (half ts.length)) (k - half ts.length) ++ [rootF f (ts.take (half ts.length))] := by
 show (if _ then _ else _) = _
 rw [if_neg h, if_neg hk]
theorem pathF_length : ∀ (f : Nat) (ts : List ByteArray) (k : Nat), (pathF f ts k).length ≤ f
 | 0, _, _ => Nat.le_refl _
 | f + 1, ts, k => by
   by_cases h : ts.length = 1
   ·rw [pathF_one h]; simp
   ·by_cases hk : k < half ts.length
    ·rw [pathF_left h hk, List.length_append]
     have := pathF_length f (ts.take (half ts.length)) k
     simp only [List.length_cons, List.length_nil]; omega
    ·rw [pathF_right h hk, List.length_append]
     have := pathF_length f (ts.drop (half ts.length)) (k - half ts.length)
     simp only [List.length_cons, List.length_nil]; omega
structure Pth (w W : World) (v : Value) (ps : List ByteArray) : Prop where
 own : OwnS W w.heap.size v ps
 bel : Below w.heap.size w W
theorem Pth.below {w W W' : World} {v : Value} {ps : List ByteArray} (h : Pth w W v ps) (hb : Below w.heap.size w W → Below W.heap.size W W') : Pth w W' v ps :=
 ⟨h.own.below (hb h.bel), h.bel.trans ((hb h.bel).mono h.bel.size)⟩
set_option maxRecDepth 100000 in
set_option maxHeartbeats 3200000 in
theorem rootsBeside_any : ∀ (f : Nat) (ts : List ByteArray) (k : Nat) (v : Value) (w : World), RowT w v ts → k < ts.length → ts.length ≤ f → f ≤ 64 → (∀ t ∈ ts, t.size ≤ 32) → KTab w → 0 < w.heap.size →
 Calls Tryd.prog 44 #[v, .int .i64 k] w fun e w' => ∃ u, e = .returned u ∧ OwnS w' w.heap.size u (pathF f ts k) ∧ Below w.heap.size w w'
 | 0, ts, k, v, w, _, h1, h2, _, _, _, _ => by omega
 | f + 1, ts, k, v, w, hr, h1, h2, hf, hs, hK, hp => by
   have h64 : ts.length ≤ 64 := by omega
   obtain ⟨i0, hi0, hz0, hz1, hz2⟩ := info_parts info9
   have HR : Hid (RowT w v ts) := hr
   obtain ⟨a, cap, rfl, h⟩ := hr
   by_cases hone : ts.length = 1
   ·have HE : Hid (pathF (f + 1) ts k = []) := pathF_one hone
    rw [hone]
    clear h hs HR h1 h2 h64 hf hone hK hp
    go_enter Tryd.func44, Tryd.ntmps44
    go_wp2_with fail
    go_ret
    rw [HE.out]
    exact ⟨_, rfl, OwnS.nil _ _, Below.refl _ _⟩
   ·have hcap := rowT_cap HR.out (by omega)
    obtain ⟨q1, q2, q3⟩ := half_lt (show 2 ≤ ts.length by omega)
    have HF : Hid (∀ W, Calls Tryd.prog 71 #[.int .i64 ts.length] W fun e w' => e = .returned (.int .i64 (half ts.length)) ∧ W = w') := fun W => forkOf_any ts.length W (by omega) h64
    have HRL : Hid (∀ W, Below w.heap.size w W → Calls Tryd.prog 40 #[.slice a (half ts.length) cap] W fun e w' => e = .returned (.string (rootF f (ts.take (half ts.length)))) ∧ Below W.heap.size W w') := fun W hW =>
     rootOf_any f (ts.take (half ts.length)) _ W ((rowT_take HR.out (by omega)).below hW) (by rw [List.length_take]; omega) (by rw [List.length_take]; omega) (by rw [List.length_take]; omega) (fun t ht => hs t (List.mem_of_mem_take ht)) (hK.below hW hp) (Nat.lt_of_lt_of_le hp hW.size)
    have HRD : Hid (∀ W, Below w.heap.size w W → Calls Tryd.prog 40 #[.slice (a.map (·.add (half ts.length))) (ts.length - half ts.length) (cap - half ts.length)] W fun e w' => e = .returned (.string (rootF f (ts.drop (half ts.length)))) ∧ Below W.heap.size W w') := fun W hW =>
     rootOf_any f (ts.drop (half ts.length)) _ W ((rowT_drop HR.out (by omega)).below hW) (by rw [List.length_drop]; omega) (by rw [List.length_drop]; omega) (by rw [List.length_drop]; omega) (fun t ht => hs t (List.mem_of_mem_drop ht)) (hK.below hW hp) (Nat.lt_of_lt_of_le hp hW.size)
    have hn1 : ((ts.length : Int) == 1) = false := by rw [beq_eq_false_iff_ne]; omega
    have G0 : Hid (Below w.heap.size w w.drew) := (Below.refl _ _).drew
    have S0 : Hid (w.heap.size ≤ w.drew.heap.size) := Nat.le_refl _
    by_cases hk : k < half ts.length
    ·have HE : Hid (pathF (f + 1) ts k = pathF f (ts.take (half ts.length)) k ++ [rootF f (ts.drop (half ts.length))]) := pathF_left hone hk
     have HL : Hid ((pathF f (ts.take (half ts.length)) k).length + 1 ≤ 1000000000) := by
      show _ ≤ _
      have h8 : ∀ g, (pathF g (ts.take (half ts.length)) k).length ≤ g := fun g => pathF_length g _ k
      have := h8 f
      omega
     have HPP : Hid (∀ W, Below w.heap.size w W → Calls Tryd.prog 44 #[.slice a (half ts.length) cap, .int .i64 k] W fun e w' => ∃ u, e = .returned u ∧ OwnS w' w.heap.size u (pathF f (ts.take (half ts.length)) k) ∧ Below w.heap.size w w' ∧ w.heap.size ≤ w'.heap.size) := fun W hW =>
      (rootsBeside_any f (ts.take (half ts.length)) k _ W ((rowT_take HR.out (by omega)).below hW) (by rw [List.length_take]; omega) (by rw [List.length_take]; omega) (by omega) (fun t ht => hs t (List.mem_of_mem_take ht)) (hK.below hW hp) (Nat.lt_of_lt_of_le hp hW.size)).mono
        fun e w' ⟨u, h1, h2, h3⟩ => ⟨u, h1, h2.mono hW.size, hW.trans (h3.mono hW.size), Nat.le_trans hW.size h3.size⟩
     obtain ⟨r, Hr⟩ : ∃ r, Hid (rootF f (ts.drop (half ts.length)) = r) := ⟨_, rfl⟩
     obtain ⟨ps, Hps⟩ : ∃ ps, Hid (pathF f (ts.take (half ts.length)) k = ps) := ⟨_, rfl⟩
     rw [Hr.out] at HE HRD
     rw [Hps.out] at HE HL HPP
     clear Hr Hps hs hone h HR h2 hf HRL hK hp
     generalize half ts.length = m at q1 q2 q3 HF HRD HPP hk
     generalize ts.length = n at hcap q2 HF HRD hn1 h1 h64
     have p0 : (k : Int) < (m : Int) := by omega
     have p1 : (m : Int) ≤ (n : Int) := by omega
     have p2 : (m : Int) ≤ (cap : Int) := by omega
     have p3 : (n : Int) ≤ (cap : Int) := by omega
     have p4 : ¬ cap = m := by omega
     have RB : Hid (∀ W, Below w.heap.size w W → w.heap.size ≤ W.heap.size → Calls Tryd.prog 40 #[.slice (a.map (·.add m)) (n - m) (cap - m)] W fun e w' => e = .returned (.string r) ∧ Below w.heap.size w w' ∧ w.heap.size ≤ w'.heap.size ∧ Below W.heap.size W w') := fun W hW hS => (HRD.out W hW).mono fun e w' ⟨h1, h2⟩ => ⟨h1, hW.trans (h2.mono hS), Nat.le_trans hS h2.size, h2⟩
     clear HRD
     go_enter Tryd.func44, Tryd.ntmps44
     go_wp2_with (first | (go_at_call 71; refine (HF.out _).mono ?_; rintro e w1 ⟨rfl, rfl⟩) | fail)
     go_region_law (first
      | (go_simp; go_at_call 40; (with_reducible refine (RB.out _ g5 s5).mono ?_); rintro e w6 ⟨rfl, g6, s6, b6⟩; have o6 := o5.below b6; try go_simp)
      | (go_simp; go_at_call 40; (with_reducible refine (RB.out _ G0.out S0.out).mono ?_); rintro e w4 ⟨rfl, g4, s4, b4⟩; try go_simp)
      | (go_simp; go_at_call 44; (with_reducible refine (HPP.out _ g4).mono ?_); rintro e w6 ⟨u6, rfl, o6, g6, s6⟩; try go_simp)
      | (go_simp; go_at_call 44; (with_reducible refine (HPP.out _ G0.out).mono ?_); rintro e w5 ⟨u5, rfl, o5, g5, s5⟩; try go_simp)
      | (refine step_txt (by rfl) _ _ 36 (by rfl) Tryd.underlying36 hi0 hz0 hz1 hz2 w.heap.size _ _ _ _ [r] (by rfl) (by rfl) (OwnS.below o6 (bel_new _ _)) (by rw [size_new]; omega) (row_lit w6 9 [r] _ 1 rfl rfl) HL.out ?_; intro v7 w7 o7 b7))
     all_goals
      go_wp2_with fail
      go_ret
      rw [HE.out]
      exact ⟨_, rfl, o7, (g6.alloc s6 _).trans b7⟩
    ·have HE : Hid (pathF (f + 1) ts k = pathF f (ts.drop (half ts.length)) (k - half ts.length) ++ [rootF f (ts.take (half ts.length))]) := pathF_right hone hk
     have HL : Hid ((pathF f (ts.drop (half ts.length)) (k - half ts.length)).length + 1 ≤ 1000000000) := by
      show _ ≤ _
      have h8 : ∀ g, (pathF g (ts.drop (half ts.length)) (k - half ts.length)).length ≤ g := fun g => pathF_length g _ _
      have := h8 f
      omega
     have HPP : Hid (∀ W, Below w.heap.size w W → Calls Tryd.prog 44 #[.slice (a.map (·.add (half ts.length))) (ts.length - half ts.length) (cap - half ts.length), .int .i64 ((k : Int) - (half ts.length : Int))] W fun e w' => ∃ u, e = .returned u ∧ OwnS w' w.heap.size u (pathF f (ts.drop (half ts.length)) (k - half ts.length)) ∧ Below w.heap.size w w' ∧ w.heap.size ≤ w'.heap.size) := fun W hW => by
      have := (rootsBeside_any f (ts.drop (half ts.length)) (k - half ts.length) _ W ((rowT_drop HR.out (by omega)).below hW) (by rw [List.length_drop]; omega) (by rw [List.length_drop]; omega) (by omega) (fun t ht => hs t (List.mem_of_mem_drop ht)) (hK.below hW hp) (Nat.lt_of_lt_of_le hp hW.size)).mono
       fun e w' ⟨u, h1, h2, h3⟩ => (⟨u, h1, h2.mono hW.size, hW.trans (h3.mono hW.size), Nat.le_trans hW.size h3.size⟩ : ∃ u, e = Ending.returned u ∧ OwnS w' w.heap.size u (pathF f (ts.drop (half ts.length)) (k - half ts.length)) ∧ Below w.heap.size w w' ∧ w.heap.size ≤ w'.heap.size)
      rwa [show ((k - half ts.length : Nat) : Int) = (k : Int) - (half ts.length : Int) by omega] at this
     obtain ⟨r, Hr⟩ : ∃ r, Hid (rootF f (ts.take (half ts.length)) = r) := ⟨_, rfl⟩
     obtain ⟨ps, Hps⟩ : ∃ ps, Hid (pathF f (ts.drop (half ts.length)) (k - half ts.length) = ps) := ⟨_, rfl⟩
     rw [Hr.out] at HE HRL
     rw [Hps.out] at HE HL HPP
     clear Hr Hps hs hone h HR h2 hf HRD hK hp
     generalize half ts.length = m at q1 q2 q3 HF HRL HPP hk
     generalize ts.length = n at hcap q2 HF HPP hn1 h1 h64
     have p0 : ¬ (k : Int) < (m : Int) := by omega
     have p1 : (m : Int) ≤ (n : Int) := by omega
     have p2 : (m : Int) ≤ (cap : Int) := by omega
     have p3 : (n : Int) ≤ (cap : Int) := by omega
     have p4 : ¬ cap = m := by omega
     have p5 : (k : Int) < 64 := by omega
     have hwr : IntKind.i64.wrap ((k : Int) - (m : Int)) = (k : Int) - (m : Int) := by rw [IntKind.wrap_i64]; omega
     have RB : Hid (∀ W, Below w.heap.size w W → w.heap.size ≤ W.heap.size → Calls Tryd.prog 40 #[.slice a m cap] W fun e w' => e = .returned (.string r) ∧ Below w.heap.size w w' ∧ w.heap.size ≤ w'.heap.size ∧ Below W.heap.size W w') := fun W hW hS => (HRL.out W hW).mono fun e w' ⟨h1, h2⟩ => ⟨h1, hW.trans (h2.mono hS), Nat.le_trans hS h2.size, h2⟩
     clear HRL
     go_enter Tryd.func44, Tryd.ntmps44
     go_wp2_with (first | (go_at_call 71; refine (HF.out _).mono ?_; rintro e w1 ⟨rfl, rfl⟩) | fail)
     go_region_law (first
      | (go_simp; go_at_call 40; (with_reducible refine (RB.out _ g5 s5).mono ?_); rintro e w6 ⟨rfl, g6, s6, b6⟩; have o6 := o5.below b6; try go_simp)
      | (go_simp; go_at_call 40; (with_reducible refine (RB.out _ G0.out S0.out).mono ?_); rintro e w4 ⟨rfl, g4, s4, b4⟩; try go_simp)
      | (go_simp; go_at_call 44; (with_reducible refine (HPP.out _ g4).mono ?_); rintro e w6 ⟨u6, rfl, o6, g6, s6⟩; try go_simp)
      | (go_simp; go_at_call 44; (with_reducible refine (HPP.out _ G0.out).mono ?_); rintro e w5 ⟨u5, rfl, o5, g5, s5⟩; try go_simp)
      | (refine step_txt (by rfl) _ _ 36 (by rfl) Tryd.underlying36 hi0 hz0 hz1 hz2 w.heap.size _ _ _ _ [r] (by rfl) (by rfl) (OwnS.below o6 (bel_new _ _)) (by rw [size_new]; omega) (row_lit w6 9 [r] _ 1 rfl rfl) HL.out ?_; intro v7 w7 o7 b7))
     all_goals
      go_wp2_with fail
      go_ret
      rw [HE.out]
      exact ⟨_, rfl, o7, (g6.alloc s6 _).trans b7⟩
end Go.Proofs.YtakfniknkejgpaaDoor.Py
