/- Texts put together: Py, Pw, Pq8. -/
import Derived.Test.YtakfniknkejgpaaDoorMp10
import Derived.Test.YtakfniknkejgpaaDoorMp14
import Derived.Deep.RegionLaw
import Derived.Lib.SlBytesConst
/- Leaves and roots of pieces: impl.pieceRoot, rootOf, the specification's l09Leaf, l09Root. -/
namespace Go.Proofs.YtakfniknkejgpaaDoor.Py
open Go.RowKit Go.Proofs.YtakfniknkejgpaaDoor.Sl Go.Proofs.YtakfniknkejgpaaDoor.By Go.Proofs.YtakfniknkejgpaaDoor.Ap Go.Proofs.YtakfniknkejgpaaDoor.Tx Go.Proofs.YtakfniknkejgpaaDoor.Sh Go.Proofs.YtakfniknkejgpaaDoor.Ho Go.Proofs.YtakfniknkejgpaaDoor.Se Go.Proofs.YtakfniknkejgpaaDoor.Ka Go.Proofs.YtakfniknkejgpaaDoor.Sx Go.Proofs.YtakfniknkejgpaaDoor.Pf Go.Proofs.YtakfniknkejgpaaDoor.Px

def bPiece : ByteArray := ⟨#[112, 105, 101, 99, 101]⟩
def bNothing : ByteArray := ⟨#[110, 111, 116, 104, 105, 110, 103]⟩
def leaf (t : ByteArray) : ByteArray := hashS (bys bPiece ++ bys t)
theorem leaf_size (t : ByteArray) (h : t.size ≤ 60000) : (leaf t).size = 32 := by
 unfold leaf
 apply hash_size
 rw [List.length_append, bys_length, bys_length]
 have : bPiece.size = 5 := rfl
 omega
def rootF : Nat → List ByteArray → ByteArray
 | 0, _ => ⟨#[]⟩
 | f + 1, ts => if ts.length = 1 then leaf (tnth ts 0) else node (rootF f (ts.take (half ts.length))) (rootF f (ts.drop (half ts.length)))
theorem rootF_one {f : Nat} {ts : List ByteArray} (h : ts.length = 1) : rootF (f + 1) ts = leaf (tnth ts 0) := if_pos h
theorem rootF_more {f : Nat} {ts : List ByteArray} (h : ts.length ≠ 1) : rootF (f + 1) ts = node (rootF f (ts.take (half ts.length))) (rootF f (ts.drop (half ts.length))) := if_neg h
theorem rootF_size : ∀ (f : Nat) (ts : List ByteArray), 1 ≤ ts.length → ts.length ≤ f → (∀ t ∈ ts, t.size ≤ 32) → (rootF f ts).size = 32
 | 0, ts, h1, h2, _ => by omega
 | f + 1, ts, h1, h2, hs => by
   by_cases h : ts.length = 1
   ·rw [rootF_one h]
    exact leaf_size _ (by have := hs _ (tnth_mem (show 0 < ts.length by omega)); omega)
   ·rw [rootF_more h]
    obtain ⟨q1, q2, _⟩ := half_lt (show 2 ≤ ts.length by omega)
    have a1 := rootF_size f (ts.take (half ts.length)) (by rw [List.length_take]; omega) (by rw [List.length_take]; omega) (fun t ht => hs t (List.mem_of_mem_take ht))
    have a2 := rootF_size f (ts.drop (half ts.length)) (by rw [List.length_drop]; omega) (by rw [List.length_drop]; omega) (fun t ht => hs t (List.mem_of_mem_drop ht))
    exact node_size _ _ (by omega) (by omega)
theorem tnth_take {ts : List ByteArray} {n i : Nat} (h : i < n) : tnth (ts.take n) i = tnth ts i := by
 unfold tnth; rw [List.getD_eq_getElem?_getD, List.getD_eq_getElem?_getD, List.getElem?_take, if_pos h]
theorem tnth_drop (ts : List ByteArray) (n i : Nat) : tnth (ts.drop n) i = tnth ts (n + i) := by
 unfold tnth; rw [List.getD_eq_getElem?_getD, List.getD_eq_getElem?_getD, List.getElem?_drop]
theorem rowT_take {w : World} {a : Option Addr} {cap n : Nat} {ts : List ByteArray} (h : RowT w (.slice a ts.length cap) ts) (hn : n ≤ ts.length) : RowT w (.slice a n cap) (ts.take n) := by
 obtain ⟨a', cap', e, h⟩ := h
 simp only [Value.slice.injEq, true_and] at e
 obtain ⟨rfl, rfl⟩ := e
 have hl : (ts.take n).length = n := by rw [List.length_take]; omega
 refine ⟨a, cap, by rw [hl], ?_⟩
 rcases h with rfl | ⟨b, off, rfl, hc, hlt, h⟩
 ·exact .inl (by simp)
 ·refine .inr ⟨b, off, rfl, by rw [hl]; omega, hlt, fun i hi => ?_⟩
  rw [hl] at hi
  rw [tnth_take hi]
  exact h i (by omega)
theorem rowT_drop {w : World} {a : Option Addr} {cap n : Nat} {ts : List ByteArray} (h : RowT w (.slice a ts.length cap) ts) (hn : n < ts.length) : RowT w (.slice (a.map (·.add n)) (ts.length - n) (cap - n)) (ts.drop n) := by
 obtain ⟨a', cap', e, h⟩ := h
 simp only [Value.slice.injEq, true_and] at e
 obtain ⟨rfl, rfl⟩ := e
 refine ⟨_, cap - n, by rw [List.length_drop], ?_⟩
 rcases h with rfl | ⟨b, off, rfl, hc, hlt, h⟩
 ·simp at hn
 ·refine .inr ⟨b, off + n, by simp [Ap.addr_add], by rw [List.length_drop]; omega, hlt, fun i hi => ?_⟩
  rw [List.length_drop] at hi
  rw [tnth_drop, Nat.add_assoc]
  exact h (n + i) (by omega)
theorem rowT_cap {w : World} {a : Option Addr} {cap : Nat} {ts : List ByteArray} (h : RowT w (.slice a ts.length cap) ts) (hn : 1 ≤ ts.length) : ts.length ≤ cap := by
 obtain ⟨a', cap', e, h⟩ := h
 simp only [Value.slice.injEq, true_and] at e
 obtain ⟨rfl, rfl⟩ := e
 rcases h with rfl | ⟨b, off, rfl, hc, _⟩
 ·simp at hn
 ·exact hc

set_option maxHeartbeats 400000 in
theorem pieceRoot_any (t : ByteArray) (w : World) (ht : t.size ≤ 60000) (hK : KTab w) (hp : 0 < w.heap.size) :
 Calls Tryd.prog 48 #[.string t] w fun e w' => e = .returned (.string (leaf t)) ∧ Below w.heap.size w w' := by
 have HE : Hid (cat [bPiece, t] = bys bPiece ++ bys t) := by
  show _ = _
  unfold cat
  simp only [List.flatMap_cons, List.flatMap_nil, List.append_nil]
 have HL : Hid ((bys bPiece ++ bys t).length ≤ 1000000000) := by
  show _ ≤ _
  rw [List.length_append, bys_length, bys_length]
  have : bPiece.size = 5 := rfl
  omega
 have GK : Hid (KTab w) := hK
 clear hK ht
 go_enter Tryd.func48, Tryd.ntmps48
 go_wp2_with fail
 refine (hashOf_lit w _ 2 rfl _ [bPiece, t] rfl rfl (by decide) (by decide) (by rw [HE.out]; exact HL.out) GK.out hp).mono ?_
 rintro e w3 ⟨rfl, b3⟩
 rw [HE.out]
 go_wp2_with fail
 go_ret
 exact ⟨rfl, b3⟩
set_option maxRecDepth 100000 in
set_option maxHeartbeats 400000 in
theorem l09Leaf_any (t : ByteArray) (w : World) (ht : t.size ≤ 60000) :
 Calls Tryd.prog 51 #[.string t] w fun e w' => e = .returned (.string (leaf t)) ∧ Below w.heap.size w w' := by
 have HE : Hid (bys (bPiece ++ t) = bys bPiece ++ bys t) := by
  show _ = _
  rw [bys_append]
 have HL : Hid ((bys bPiece ++ bys t).length ≤ 65536) := by
  show _ ≤ _
  rw [List.length_append, bys_length, bys_length]
  have : bPiece.size = 5 := rfl
  omega
 have hA : ¬ 9223372036854775807 < (⟨#[112, 105, 101, 99, 101]⟩ : ByteArray).size + t.size := by have : (⟨#[112, 105, 101, 99, 101]⟩ : ByteArray).size = 5 := rfl; omega
 have hA' : ¬ 9223372036854775807 < 5 + t.size := by omega
 obtain ⟨v2, w2, hc2, r2, b2⟩ := bytes_run (bPiece ++ t) w
 have hc2' : (convert 9 22 (.string ((⟨#[112, 105, 101, 99, 101]⟩ : ByteArray) ++ t))).run Tryd.prog w = .ok v2 w2 := hc2
 have R2 : Hid (RowB w2 v2 (bys (bPiece ++ t))) := r2
 have B2 : Hid (Below w.heap.size w w2) := b2
 clear hc2 r2 b2
 go_enter Tryd.func51, Tryd.ntmps51
 go_wp2_with fail
 refine (hash1_any v2 _ w2 R2.out (by rw [HE.out]; exact HL.out)).mono ?_
 rintro e w3 ⟨rfl, b3⟩
 rw [HE.out]
 go_wp2_with fail
 go_ret
 exact ⟨rfl, B2.out.trans (b3.mono B2.out.size)⟩

set_option maxRecDepth 100000 in
set_option maxHeartbeats 1600000 in
theorem rootOf_any : ∀ (f : Nat) (ts : List ByteArray) (v : Value) (w : World), RowT w v ts → 1 ≤ ts.length → ts.length ≤ f → ts.length ≤ 64 → (∀ t ∈ ts, t.size ≤ 32) → KTab w → 0 < w.heap.size →
 Calls Tryd.prog 40 #[v] w fun e w' => e = .returned (.string (rootF f ts)) ∧ Below w.heap.size w w'
 | 0, ts, v, w, _, h1, h2, _, _, _, _ => by omega
 | f + 1, ts, v, w, hr, h1, h2, h64, hs, hK, hp => by
   have HR : Hid (RowT w v ts) := hr
   obtain ⟨a, cap, rfl, h⟩ := hr
   have GK : Hid (KTab w ∧ 0 < w.heap.size) := ⟨hK, hp⟩
   by_cases hone : ts.length = 1
   ·rcases h with h | ⟨b, off, rfl, hc, hb, hcell⟩
    ·rw [h] at h1; exact absurd h1 (by simp)
    have c1 := hcell 0 (by omega)
    rw [Nat.add_zero] at c1
    have HE : Hid (rootF (f + 1) ts = leaf (tnth ts 0)) := rootF_one hone
    have HL : Hid (Calls Tryd.prog 48 #[.string (tnth ts 0)] w fun e w' => e = .returned (.string (leaf (tnth ts 0))) ∧ Below w.heap.size w w') := pieceRoot_any _ w (by have := hs _ (tnth_mem (show 0 < ts.length by omega)); omega) hK hp
    rw [hone] at hc ⊢
    clear hs hcell hone h2 h64 h1 hK hp
    generalize tnth ts 0 = t at c1 HE HL
    go_enter Tryd.func40, Tryd.ntmps40
    go_wp2_with fail
    refine HL.out.mono ?_
    rintro e w1 ⟨rfl, b1⟩
    go_wp2_with fail
    go_ret
    exact ⟨Tx.ret_str HE.out.symm, b1⟩
   ·have hcap := rowT_cap HR.out h1
    obtain ⟨q1, q2, q3⟩ := half_lt (show 2 ≤ ts.length by omega)
    have HE : Hid (rootF (f + 1) ts = node (rootF f (ts.take (half ts.length))) (rootF f (ts.drop (half ts.length)))) := rootF_more hone
    have HF : Hid (∀ W, Calls Tryd.prog 71 #[.int .i64 ts.length] W fun e w' => e = .returned (.int .i64 (half ts.length)) ∧ W = w') := fun W => forkOf_any ts.length W (by omega) h64
    have z1 := rootF_size f (ts.take (half ts.length)) (by rw [List.length_take]; omega) (by rw [List.length_take]; omega) (fun t ht => hs t (List.mem_of_mem_take ht))
    have z2 := rootF_size f (ts.drop (half ts.length)) (by rw [List.length_drop]; omega) (by rw [List.length_drop]; omega) (fun t ht => hs t (List.mem_of_mem_drop ht))
    have HL : Hid (∀ W, Below w.heap.size w W → Calls Tryd.prog 40 #[.slice a (half ts.length) cap] W fun e w' => e = .returned (.string (rootF f (ts.take (half ts.length)))) ∧ Below w.heap.size w w') := fun W hW =>
     (rootOf_any f (ts.take (half ts.length)) _ W ((rowT_take HR.out (by omega)).below hW) (by rw [List.length_take]; omega) (by rw [List.length_take]; omega) (by rw [List.length_take]; omega) (fun t ht => hs t (List.mem_of_mem_take ht)) (hK.below hW hp) (Nat.lt_of_lt_of_le hp hW.size)).mono
       fun e w' ⟨h1, h2⟩ => ⟨h1, hW.trans (h2.mono hW.size)⟩
    have HD : Hid (∀ W, Below w.heap.size w W → Calls Tryd.prog 40 #[.slice (a.map (·.add (half ts.length))) (ts.length - half ts.length) (cap - half ts.length)] W fun e w' => e = .returned (.string (rootF f (ts.drop (half ts.length)))) ∧ Below w.heap.size w w') := fun W hW =>
     (rootOf_any f (ts.drop (half ts.length)) _ W ((rowT_drop HR.out (by omega)).below hW) (by rw [List.length_drop]; omega) (by rw [List.length_drop]; omega) (by rw [List.length_drop]; omega) (fun t ht => hs t (List.mem_of_mem_drop ht)) (hK.below hW hp) (Nat.lt_of_lt_of_le hp hW.size)).mono
       fun e w' ⟨h1, h2⟩ => ⟨h1, hW.trans (h2.mono hW.size)⟩
    have hn1 : ((ts.length : Int) == 1) = false := by simp; omega
    obtain ⟨l, Hl⟩ : ∃ l, Hid (rootF f (ts.take (half ts.length)) = l) := ⟨_, rfl⟩
    obtain ⟨r, Hr⟩ : ∃ r, Hid (rootF f (ts.drop (half ts.length)) = r) := ⟨_, rfl⟩
    rw [Hl.out] at z1 HL HE
    rw [Hr.out] at z2 HD HE
    have HN : Hid (∀ W, Below w.heap.size w W → Calls Tryd.prog 72 #[.string l, .string r] W fun e w' => e = .returned (.string (node l r)) ∧ Below w.heap.size w w') := fun W hW =>
     (nodeOf_any l r W (by omega) (by omega) (hK.below hW hp) (Nat.lt_of_lt_of_le hp hW.size)).mono fun e w' ⟨h1, h2⟩ => ⟨h1, hW.trans (h2.mono hW.size)⟩
    clear Hl Hr z1 z2 hs hone h HR h2 GK
    generalize half ts.length = k at q1 q2 q3 HF HL HD
    generalize ts.length = n at hcap q2 HF HD hn1 h1 h64
    have G0 : Hid (Below w.heap.size w w.drew) := (Below.refl _ _).drew
    have p1 : (k : Int) ≤ (n : Int) := by omega
    have p2 : (k : Int) ≤ (cap : Int) := by omega
    have p3 : (n : Int) ≤ (cap : Int) := by omega
    have p4 : ¬ cap = k := by omega
    go_enter Tryd.func40, Tryd.ntmps40
    go_wp2_with (first | (go_at_call 71; refine (HF.out _).mono ?_; rintro e w1 ⟨rfl, rfl⟩) | fail)
    go_region_law (first
     | (go_simp; go_at_call 72; refine (HN.out _ g3).mono ?_; rintro e w3 ⟨rfl, g3⟩; try go_simp)
     | (go_simp; go_at_call 40; (with_reducible refine (HL.out _ (by first | exact g3 | exact G0.out)).mono ?_); rintro e w3 ⟨rfl, g3⟩; try go_simp)
     | (go_simp; go_at_call 40; (with_reducible refine (HD.out _ (by first | exact g3 | exact G0.out)).mono ?_); rintro e w3 ⟨rfl, g3⟩; try go_simp))
    all_goals
     go_wp2_with fail
     go_ret
     exact ⟨Tx.ret_str HE.out.symm, g3⟩
end Go.Proofs.YtakfniknkejgpaaDoor.Py

/- The way up from a piece: impl.proofSize, provedRoot, the specification's l09Up. -/
namespace Go.Proofs.YtakfniknkejgpaaDoor.Pw
open Go.RowKit Go.Proofs.YtakfniknkejgpaaDoor.Sl Go.Proofs.YtakfniknkejgpaaDoor.By Go.Proofs.YtakfniknkejgpaaDoor.Ap Go.Proofs.YtakfniknkejgpaaDoor.Tx Go.Proofs.YtakfniknkejgpaaDoor.Sh Go.Proofs.YtakfniknkejgpaaDoor.Ho Go.Proofs.YtakfniknkejgpaaDoor.Se Go.Proofs.YtakfniknkejgpaaDoor.Ka Go.Proofs.YtakfniknkejgpaaDoor.Sx Go.Proofs.YtakfniknkejgpaaDoor.Pf Go.Proofs.YtakfniknkejgpaaDoor.Px Go.Proofs.YtakfniknkejgpaaDoor.Py

def szP : Nat → Nat → Nat → Nat
 | 0, _, _ => 0
 | f + 1, k, n => if n = 1 then 0 else if k < half n then szP f k (half n) + 1 else szP f (k - half n) (n - half n) + 1
theorem szP_one {f k n : Nat} (h : n = 1) : szP (f + 1) k n = 0 := if_pos h
theorem szP_left {f k n : Nat} (h : n ≠ 1) (hk : k < half n) : szP (f + 1) k n = szP f k (half n) + 1 := by show (if _ then _ else _) = _; rw [if_neg h, if_pos hk]
theorem szP_right {f k n : Nat} (h : n ≠ 1) (hk : ¬ k < half n) : szP (f + 1) k n = szP f (k - half n) (n - half n) + 1 := by show (if _ then _ else _) = _; rw [if_neg h, if_neg hk]
theorem szP_le : ∀ (f k n : Nat), szP f k n ≤ f
 | 0, _, _ => Nat.le_refl _
 | f + 1, k, n => by
   by_cases h : n = 1
   ·rw [szP_one h]; omega
   ·by_cases hk : k < half n
    ·rw [szP_left h hk]; have := szP_le f k (half n); omega
    ·rw [szP_right h hk]; have := szP_le f (k - half n) (n - half n); omega
def upF : Nat → ByteArray → Nat → Nat → List ByteArray → ByteArray
 | 0, h, _, _, _ => h
 | f + 1, h, k, n, ps => if n = 1 then h else
     if k < half n then node (upF f h k (half n) (ps.take (ps.length - 1))) (tnth ps (ps.length - 1))
     else node (tnth ps (ps.length - 1)) (upF f h (k - half n) (n - half n) (ps.take (ps.length - 1)))
theorem upF_one {f k n : Nat} {h : ByteArray} {ps : List ByteArray} (hn : n = 1) : upF (f + 1) h k n ps = h := if_pos hn
theorem upF_left {f k n : Nat} {h : ByteArray} {ps : List ByteArray} (hn : n ≠ 1) (hk : k < half n) : upF (f + 1) h k n ps = node (upF f h k (half n) (ps.take (ps.length - 1))) (tnth ps (ps.length - 1)) := by show (if _ then _ else _) = _; rw [if_neg hn, if_pos hk]
theorem upF_right {f k n : Nat} {h : ByteArray} {ps : List ByteArray} (hn : n ≠ 1) (hk : ¬ k < half n) : upF (f + 1) h k n ps = node (tnth ps (ps.length - 1)) (upF f h (k - half n) (n - half n) (ps.take (ps.length - 1))) := by show (if _ then _ else _) = _; rw [if_neg hn, if_neg hk]
set_option maxRecDepth 100000 in
set_option maxHeartbeats 800000 in
theorem proofSize_any : ∀ (f k n : Nat) (w : World), k < n → n ≤ f → f ≤ 64 →
 Calls Tryd.prog 46 #[.int .i64 k, .int .i64 n] w fun e w' => e = .returned (.int .i64 (szP f k n)) ∧ w = w'
 | 0, k, n, w, h1, h2, _ => by omega
 | f + 1, k, n, w, h1, h2, hf => by
   by_cases hone : n = 1
   ·have HE : Hid (szP (f + 1) k n = 0) := szP_one hone
    rw [HE.out]
    subst hone
    clear HE h2 hf
    go_enter Tryd.func46, Tryd.ntmps46
    go_wp2_with fail
    go_ret
    exact ⟨rfl, rfl⟩
   ·obtain ⟨q1, q2, q3⟩ := half_lt (show 2 ≤ n by omega)
    have HF : Hid (Calls Tryd.prog 71 #[.int .i64 n] w fun e w' => e = .returned (.int .i64 (half n)) ∧ w = w') := forkOf_any n w (by omega) (by omega)
    have hn1 : ((n : Int) == 1) = false := by rw [beq_eq_false_iff_ne]; omega
    by_cases hk : k < half n
    ·have HE : Hid (szP (f + 1) k n = szP f k (half n) + 1) := szP_left hone hk
     have HL : Hid (Calls Tryd.prog 46 #[.int .i64 k, .int .i64 (half n)] w fun e w' => e = .returned (.int .i64 (szP f k (half n))) ∧ w = w') := proofSize_any f k (half n) w hk (by omega) (by omega)
     have hz := szP_le f k (half n)
     rw [HE.out]
     generalize szP f k (half n) = z at HL hz
     generalize half n = m at q1 q2 q3 HF HL hk
     have p0 : (k : Int) < (m : Int) := by omega
     clear HE h2 hone
     go_enter Tryd.func46, Tryd.ntmps46
     go_wp2_with fail
     refine HF.out.mono ?_
     rintro e w1 ⟨rfl, rfl⟩
     go_wp2_with fail
     refine HL.out.mono ?_
     rintro e w1 ⟨rfl, rfl⟩
     go_wp2_with fail
     go_ret
     exact ⟨retI (by omega), rfl⟩
    ·have HE : Hid (szP (f + 1) k n = szP f (k - half n) (n - half n) + 1) := szP_right hone hk
     have HL0 := proofSize_any f (k - half n) (n - half n) w (by omega) (by omega) (by omega)
     rw [show ((k - half n : Nat) : Int) = (k : Int) - (half n : Int) by omega, show ((n - half n : Nat) : Int) = (n : Int) - (half n : Int) by omega] at HL0
     have HL : Hid (Calls Tryd.prog 46 #[.int .i64 ((k : Int) - (half n : Int)), .int .i64 ((n : Int) - (half n : Int))] w fun e w' => e = .returned (.int .i64 (szP f (k - half n) (n - half n))) ∧ w = w') := HL0
     have hz := szP_le f (k - half n) (n - half n)
     rw [HE.out]
     generalize szP f (k - half n) (n - half n) = z at HL hz
     generalize half n = m at q1 q2 q3 HF HL hk
     have p0 : ¬ (k : Int) < (m : Int) := by omega
     have w1 : IntKind.i64.wrap ((k : Int) - (m : Int)) = (k : Int) - (m : Int) := by rw [IntKind.wrap_i64]; omega
     have w2 : IntKind.i64.wrap ((n : Int) - (m : Int)) = (n : Int) - (m : Int) := by rw [IntKind.wrap_i64]; omega
     have w3 : wrap64 ((k : Int) - (m : Int)) = (k : Int) - (m : Int) := by unfold wrap64; omega
     have w4 : wrap64 ((n : Int) - (m : Int)) = (n : Int) - (m : Int) := by unfold wrap64; omega
     clear HE h2 hone HL0
     go_enter Tryd.func46, Tryd.ntmps46
     go_wp2_with fail
     refine HF.out.mono ?_
     rintro e w1 ⟨rfl, rfl⟩
     go_wp2_with fail
     refine HL.out.mono ?_
     rintro e w1 ⟨rfl, rfl⟩
     go_wp2_with fail
     go_ret
     exact ⟨retI (by omega), rfl⟩
end Go.Proofs.YtakfniknkejgpaaDoor.Pw

/- The way up from a piece, with its proof: impl.provedRoot, the specification's l09Up. -/
namespace Go.Proofs.YtakfniknkejgpaaDoor.Pw
open Go.RowKit Go.Proofs.YtakfniknkejgpaaDoor.Sl Go.Proofs.YtakfniknkejgpaaDoor.By Go.Proofs.YtakfniknkejgpaaDoor.Ap Go.Proofs.YtakfniknkejgpaaDoor.Tx Go.Proofs.YtakfniknkejgpaaDoor.Sh Go.Proofs.YtakfniknkejgpaaDoor.Ho Go.Proofs.YtakfniknkejgpaaDoor.Se Go.Proofs.YtakfniknkejgpaaDoor.Ka Go.Proofs.YtakfniknkejgpaaDoor.Sx Go.Proofs.YtakfniknkejgpaaDoor.Pf Go.Proofs.YtakfniknkejgpaaDoor.Px Go.Proofs.YtakfniknkejgpaaDoor.Py

theorem upF_size : ∀ (f : Nat) (h : ByteArray) (k n : Nat) (ps : List ByteArray), k < n → n ≤ f → h.size = 32 → (∀ p ∈ ps, p.size = 32) → ps.length = szP f k n → (upF f h k n ps).size = 32
 | 0, h, k, n, ps, h1, h2, _, _, _ => by omega
 | f + 1, h, k, n, ps, h1, h2, hh, hs, hz => by
   by_cases hone : n = 1
   ·rw [upF_one hone]; exact hh
   ·obtain ⟨q1, q2, _⟩ := half_lt (show 2 ≤ n by omega)
    by_cases hk : k < half n
    ·rw [szP_left hone hk] at hz
     rw [upF_left hone hk]
     have a1 := upF_size f h k (half n) (ps.take (ps.length - 1)) hk (by omega) hh (fun p hp => hs p (List.mem_of_mem_take hp)) (by rw [List.length_take]; omega)
     have a2 := hs _ (tnth_mem (show ps.length - 1 < ps.length by omega))
     exact node_size _ _ (by omega) (by omega)
    ·rw [szP_right hone hk] at hz
     rw [upF_right hone hk]
     have a1 := upF_size f h (k - half n) (n - half n) (ps.take (ps.length - 1)) (by omega) (by omega) hh (fun p hp => hs p (List.mem_of_mem_take hp)) (by rw [List.length_take]; omega)
     have a2 := hs _ (tnth_mem (show ps.length - 1 < ps.length by omega))
     exact node_size _ _ (by omega) (by omega)
set_option maxRecDepth 100000 in
set_option maxHeartbeats 3200000 in
theorem provedRoot_any : ∀ (f : Nat) (h : ByteArray) (k n : Nat) (ps : List ByteArray) (v : Value) (w : World), RowT w v ps → k < n → n ≤ f → f ≤ 64 → h.size = 32 → (∀ p ∈ ps, p.size = 32) → ps.length = szP f k n → KTab w → 0 < w.heap.size →
 Calls Tryd.prog 47 #[.string h, .int .i64 k, .int .i64 n, v] w fun e w' => e = .returned (.string (upF f h k n ps)) ∧ Below w.heap.size w w'
 | 0, h, k, n, ps, v, w, _, h1, h2, _, _, _, _, _, _ => by omega
 | f + 1, h, k, n, ps, v, w, hr, h1, h2, hf, hh, hs, hz, hK, hp => by
   have HR : Hid (RowT w v ps) := hr
   obtain ⟨a, cap, rfl, hrow⟩ := hr
   by_cases hone : n = 1
   ·have HE : Hid (upF (f + 1) h k n ps = h) := upF_one hone
    rw [HE.out]
    subst hone
    clear HE h2 hf hh hs hz hK hp HR hrow
    go_enter Tryd.func47, Tryd.ntmps47
    go_wp2_with fail
    go_ret
    exact ⟨rfl, Below.refl _ _⟩
   ·obtain ⟨q1, q2, q3⟩ := half_lt (show 2 ≤ n by omega)
    have HF : Hid (Calls Tryd.prog 71 #[.int .i64 n] w fun e w' => e = .returned (.int .i64 (half n)) ∧ w = w') := forkOf_any n w (by omega) (by omega)
    have hn1 : ((n : Int) == 1) = false := by rw [beq_eq_false_iff_ne]; omega
    have hpos : 1 ≤ ps.length := by
     by_cases hk : k < half n
     ·rw [szP_left hone hk] at hz; omega
     ·rw [szP_right hone hk] at hz; omega
    have hcap := rowT_cap HR.out hpos
    have hle : ps.length ≤ 64 := by have := szP_le (f + 1) k n; omega
    have a2 := hs _ (tnth_mem (show ps.length - 1 < ps.length by omega))
    rcases hrow with hrow | ⟨b, off, rfl, hc, hb, hcell⟩
    ·rw [hrow] at hpos; exact absurd hpos (by simp)
    have hcl := hcell (ps.length - 1) (by omega)
    have G0 : Hid (Below w.heap.size w w.drew) := (Below.refl _ _).drew
    by_cases hk : k < half n
    ·have HE : Hid (upF (f + 1) h k n ps = node (upF f h k (half n) (ps.take (ps.length - 1))) (tnth ps (ps.length - 1))) := upF_left hone hk
     have hz2 : (ps.take (ps.length - 1)).length = szP f k (half n) := by rw [szP_left hone hk] at hz; rw [List.length_take]; omega
     have HU : Hid (∀ W, Below w.heap.size w W → Calls Tryd.prog 47 #[.string h, .int .i64 k, .int .i64 (half n), .slice (some ⟨b, off, none⟩) (ps.length - 1) cap] W fun e w' => e = .returned (.string (upF f h k (half n) (ps.take (ps.length - 1)))) ∧ Below w.heap.size w w') := fun W hW =>
      (provedRoot_any f h k (half n) (ps.take (ps.length - 1)) _ W ((rowT_take HR.out (by omega)).below hW) hk (by omega) (by omega) hh (fun p hp => hs p (List.mem_of_mem_take hp)) hz2 (hK.below hW hp) (Nat.lt_of_lt_of_le hp hW.size)).mono fun e w' ⟨h1, h2⟩ => ⟨h1, hW.trans (h2.mono hW.size)⟩
     have a1 := upF_size f h k (half n) (ps.take (ps.length - 1)) hk (by omega) hh (fun p hp => hs p (List.mem_of_mem_take hp)) hz2
     obtain ⟨q, hq⟩ : ∃ q, ps.length = q + 1 := ⟨ps.length - 1, by omega⟩
     rw [show ps.length - 1 = q by omega] at HE HU a1 a2 hcl
     rw [hq] at hc hle hcap ⊢
     have HCL : Hid (∀ W, Below w.heap.size w W → W.cell? ⟨b, off + q, none⟩ = some (.string (tnth ps q))) := fun W hW => (hW.cell (p := ⟨b, off + q, none⟩) hb).trans hcl
     generalize tnth ps q = l at HE HCL hcl a2
     generalize upF f h k (half n) (ps.take q) = r at HE HU a1
     have HN : Hid (∀ W, Below w.heap.size w W → Calls Tryd.prog 72 #[.string r, .string l] W fun e w' => e = .returned (.string (node r l)) ∧ Below w.heap.size w w') := fun W hW =>
      (nodeOf_any r l W (by omega) (by omega) (hK.below hW hp) (Nat.lt_of_lt_of_le hp hW.size)).mono fun e w' ⟨h1, h2⟩ => ⟨h1, hW.trans (h2.mono hW.size)⟩
     rw [HE.out]
     have cd : w.drew.cell? ⟨b, off + q, none⟩ = some (.string l) := HCL.out _ G0.out
     clear HE hz hz2 hs hh hK HR hcell a1 a2 hq hone hpos hf h2
     generalize half n = m at q1 q2 q3 HF HU hk
     have p0 : (k : Int) < (m : Int) := by omega
     have p1 : (q : Int) ≤ (cap : Int) := by omega
     have p2 : (q : Int) + 1 ≤ (cap : Int) := by omega
     have p3 : (q : Int) < 64 := by omega
     have p5 : (q : Int) < (q : Int) + 1 := by omega
     go_enter Tryd.func47, Tryd.ntmps47
     go_wp2_with (first | (go_at_call 71; refine HF.out.mono ?_; rintro e w1 ⟨rfl, rfl⟩) | fail)
     go_region_law (first
      | (go_simp; go_at_call 72; refine (HN.out _ g3).mono ?_; rintro e w4 ⟨rfl, g4⟩; try go_simp)
      | (go_simp; go_at_call 47; refine (HU.out _ G0.out).mono ?_; rintro e w3 ⟨rfl, g3⟩; have c3 := HCL.out _ g3; try go_simp))
     all_goals
      go_wp2_with fail
      go_ret
      exact ⟨rfl, g4⟩
    ·have HE : Hid (upF (f + 1) h k n ps = node (tnth ps (ps.length - 1)) (upF f h (k - half n) (n - half n) (ps.take (ps.length - 1)))) := upF_right hone hk
     have hz2 : (ps.take (ps.length - 1)).length = szP f (k - half n) (n - half n) := by rw [szP_right hone hk] at hz; rw [List.length_take]; omega
     have HU : Hid (∀ W, Below w.heap.size w W → Calls Tryd.prog 47 #[.string h, .int .i64 ((k : Int) - (half n : Int)), .int .i64 ((n : Int) - (half n : Int)), .slice (some ⟨b, off, none⟩) (ps.length - 1) cap] W fun e w' => e = .returned (.string (upF f h (k - half n) (n - half n) (ps.take (ps.length - 1)))) ∧ Below w.heap.size w w') := fun W hW => by
      have := (provedRoot_any f h (k - half n) (n - half n) (ps.take (ps.length - 1)) _ W ((rowT_take HR.out (by omega)).below hW) (by omega) (by omega) (by omega) hh (fun p hp => hs p (List.mem_of_mem_take hp)) hz2 (hK.below hW hp) (Nat.lt_of_lt_of_le hp hW.size)).mono (R' := fun e w' => e = .returned (.string (upF f h (k - half n) (n - half n) (ps.take (ps.length - 1)))) ∧ Below w.heap.size w w') fun e w' ⟨h1, h2⟩ => ⟨h1, hW.trans (h2.mono hW.size)⟩
      rwa [show ((k - half n : Nat) : Int) = (k : Int) - (half n : Int) by omega, show ((n - half n : Nat) : Int) = (n : Int) - (half n : Int) by omega] at this
     have a1 := upF_size f h (k - half n) (n - half n) (ps.take (ps.length - 1)) (by omega) (by omega) hh (fun p hp => hs p (List.mem_of_mem_take hp)) hz2
     obtain ⟨q, hq⟩ : ∃ q, ps.length = q + 1 := ⟨ps.length - 1, by omega⟩
     rw [show ps.length - 1 = q by omega] at HE HU a1 a2 hcl
     rw [hq] at hc hle hcap ⊢
     have HCL : Hid (∀ W, Below w.heap.size w W → W.cell? ⟨b, off + q, none⟩ = some (.string (tnth ps q))) := fun W hW => (hW.cell (p := ⟨b, off + q, none⟩) hb).trans hcl
     generalize tnth ps q = l at HE HCL hcl a2
     generalize upF f h (k - half n) (n - half n) (ps.take q) = r at HE HU a1
     have HN : Hid (∀ W, Below w.heap.size w W → Calls Tryd.prog 72 #[.string l, .string r] W fun e w' => e = .returned (.string (node l r)) ∧ Below w.heap.size w w') := fun W hW =>
      (nodeOf_any l r W (by omega) (by omega) (hK.below hW hp) (Nat.lt_of_lt_of_le hp hW.size)).mono fun e w' ⟨h1, h2⟩ => ⟨h1, hW.trans (h2.mono hW.size)⟩
     rw [HE.out]
     have cd : w.drew.cell? ⟨b, off + q, none⟩ = some (.string l) := HCL.out _ G0.out
     clear HE hz hz2 hs hh hK HR hcell a1 a2 hq hone hpos
     generalize half n = m at q1 q2 q3 HF HU hk
     have p0 : ¬ (k : Int) < (m : Int) := by omega
     have p1 : (q : Int) ≤ (cap : Int) := by omega
     have p2 : (q : Int) + 1 ≤ (cap : Int) := by omega
     have p3 : (q : Int) < 64 := by omega
     have p5 : (q : Int) < (q : Int) + 1 := by omega
     have u1 : IntKind.i64.wrap ((k : Int) - (m : Int)) = (k : Int) - (m : Int) := by rw [IntKind.wrap_i64]; omega
     have u2 : IntKind.i64.wrap ((n : Int) - (m : Int)) = (n : Int) - (m : Int) := by rw [IntKind.wrap_i64]; omega
     clear h2 hf
     go_enter Tryd.func47, Tryd.ntmps47
     go_wp2_with (first | (go_at_call 71; refine HF.out.mono ?_; rintro e w1 ⟨rfl, rfl⟩) | fail)
     go_region_law (first
      | (go_simp; go_at_call 72; refine (HN.out _ g3).mono ?_; rintro e w4 ⟨rfl, g4⟩; try go_simp)
      | (go_simp; go_at_call 47; refine (HU.out _ G0.out).mono ?_; rintro e w3 ⟨rfl, g3⟩; have c3 := HCL.out _ g3; try go_simp))
     all_goals
      go_wp2_with fail
      go_ret
      exact ⟨rfl, g4⟩
end Go.Proofs.YtakfniknkejgpaaDoor.Pw
