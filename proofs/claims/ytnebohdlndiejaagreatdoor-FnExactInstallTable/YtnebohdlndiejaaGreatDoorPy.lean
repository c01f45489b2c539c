/- Leaves and roots of pieces: impl.pieceRoot, rootOf, the specification's l09Leaf, l09Root. -/
import Derived.Test.YtnebohdlndiejaaGreatDoorPx
import Derived.Test.YtnebohdlndiejaaGreatDoorSx
import Derived.Deep.RegionLaw
import Derived.Lib.SlBytesConst
namespace Go.Proofs.YtnebohdlndiejaaGreatDoor.Py
open Go.RowKit Go.Proofs.YtnebohdlndiejaaGreatDoor.Sl Go.Proofs.YtnebohdlndiejaaGreatDoor.By Go.Proofs.YtnebohdlndiejaaGreatDoor.Ap Go.Proofs.YtnebohdlndiejaaGreatDoor.Tx Go.Proofs.YtnebohdlndiejaaGreatDoor.Sh Go.Proofs.YtnebohdlndiejaaGreatDoor.Ho Go.Proofs.YtnebohdlndiejaaGreatDoor.Se Go.Proofs.YtnebohdlndiejaaGreatDoor.Ka Go.Proofs.YtnebohdlndiejaaGreatDoor.Sx Go.Proofs.YtnebohdlndiejaaGreatDoor.Pf Go.Proofs.YtnebohdlndiejaaGreatDoor.Px

def bPiece : ByteArray := ⟨#[112, 105, 101, 99, 101]⟩
def bNothing : ByteArray := ⟨#[110, 111, 116, 104, 105, 110, 103]⟩
def leaf (t : ByteArray) : ByteArray := hashS (bys bPiece ++ bys t)
theorem leaf_size (t : ByteArray) (h : t.size ≤ 60000) : (leaf t).size = 32 := by
  unfold leaf
  apply hash_size
  rw [List.length_append, bys_length, bys_length]
  have : bPiece.size = 5 := rfl
  omega
/-- The root of some pieces (at most f). -/
def rootF : Nat → List ByteArray → ByteArray
  | 0, _ => ⟨#[]⟩
  | f + 1, ts => if ts.length = 1 then leaf (tnth ts 0) else node (rootF f (ts.take (half ts.length))) (rootF f (ts.drop (half ts.length)))
theorem rootF_one {f : Nat} {ts : List ByteArray} (h : ts.length = 1) : rootF (f + 1) ts = leaf (tnth ts 0) := if_pos h
theorem rootF_more {f : Nat} {ts : List ByteArray} (h : ts.length ≠ 1) : rootF (f + 1) ts = node (rootF f (ts.take (half ts.length))) (rootF f (ts.drop (half ts.length))) := if_neg h
theorem rootF_size : ∀ (f : Nat) (ts : List ByteArray), 1 ≤ ts.length → ts.length ≤ f → (∀ t ∈ ts, t.size ≤ 32) → (rootF f ts).size = 32
  | 0, ts, h1, h2, _ => by omega
  | f + 1, ts, h1, h2, hs => by
    by_cases h : ts.length = 1
    · rw [rootF_one h]
      exact leaf_size _ (by have := hs _ (tnth_mem (show 0 < ts.length by omega)); omega)
    · rw [rootF_more h]
      obtain ⟨q1, q2, _⟩ := half_lt (show 2 ≤ ts.length by omega)
      have a1 := rootF_size f (ts.take (half ts.length)) (by rw [List.length_take]; omega) (by rw [List.length_take]; omega) (fun t ht => hs t (List.mem_of_mem_take ht))
      have a2 := rootF_size f (ts.drop (half ts.length)) (by rw [List.length_drop]; omega) (by rw [List.length_drop]; omega) (fun t ht => hs t (List.mem_of_mem_drop ht))
      exact node_size _ _ (by omega) (by omega)
theorem tnth_take {ts : List ByteArray} {n i : Nat} (h : i < n) : tnth (ts.take n) i = tnth ts i := by
  unfold tnth; rw [List.getD_eq_getElem?_getD, List.getD_eq_getElem?_getD, List.getElem?_take, if_pos h]
theorem tnth_drop (ts : List ByteArray) (n i : Nat) : tnth (ts.drop n) i = tnth ts (n + i) := by
  unfold tnth; rw [List.getD_eq_getElem?_getD, List.getD_eq_getElem?_getD, List.getElem?_drop]
theorem rowT_take {w : World} {a : Option Addr} {cap n : Nat} {ts : List ByteArray} (h : RowT w (.slice a ts.length cap) ts) (hn : n ≤ ts.length) : RowT w (.slice a n cap) (ts.take n) := by
  obtain ⟨a', cap', e, h⟩ := h
  simp only [Value.slice.injEq, true_and] at e
  obtain ⟨rfl, rfl⟩ := e
  have hl : (ts.take n).length = n := by rw [List.length_take]; omega
  refine ⟨a, cap, by rw [hl], ?_⟩
  rcases h with rfl | ⟨b, off, rfl, hc, hlt, h⟩
  · exact .inl (by simp)
  · refine .inr ⟨b, off, rfl, by rw [hl]; omega, hlt, fun i hi => ?_⟩
    rw [hl] at hi
    rw [tnth_take hi]
    exact h i (by omega)
theorem rowT_drop {w : World} {a : Option Addr} {cap n : Nat} {ts : List ByteArray} (h : RowT w (.slice a ts.length cap) ts) (hn : n < ts.length) : RowT w (.slice (a.map (·.add n)) (ts.length - n) (cap - n)) (ts.drop n) := by
  obtain ⟨a', cap', e, h⟩ := h
  simp only [Value.slice.injEq, true_and] at e
  obtain ⟨rfl, rfl⟩ := e
  refine ⟨_, cap - n, by rw [List.length_drop], ?_⟩
  rcases h with rfl | ⟨b, off, rfl, hc, hlt, h⟩
  · simp at hn
  · refine .inr ⟨b, off + n, by simp [Ap.addr_add], by rw [List.length_drop]; omega, hlt, fun i hi => ?_⟩
    rw [List.length_drop] at hi
    rw [tnth_drop, Nat.add_assoc]
    exact h (n + i) (by omega)
theorem rowT_cap {w : World} {a : Option Addr} {cap : Nat} {ts : List ByteArray} (h : RowT w (.slice a ts.length cap) ts) (hn : 1 ≤ ts.length) : ts.length ≤ cap := by
  obtain ⟨a', cap', e, h⟩ := h
  simp only [Value.slice.injEq, true_and] at e
  obtain ⟨rfl, rfl⟩ := e
  rcases h with rfl | ⟨b, off, rfl, hc, _⟩
  · simp at hn
  · exact hc

set_option maxHeartbeats 400000 in
theorem pieceRoot_any (t : ByteArray) (w : World) (ht : t.size ≤ 60000) (hK : KTab w) (hp : 10 < w.heap.size) :
    Calls Tryz.prog 141 #[.string t] w fun e w' => e = .returned (.string (leaf t)) ∧ Below w.heap.size w w' := by
  have HE : Hid (cat [bPiece, t] = bys bPiece ++ bys t) := by
    show _ = _
    unfold cat
    simp only [List.flatMap_cons, List.flatMap_nil, List.append_nil]
  have HL : Hid ((bys bPiece ++ bys t).length ≤ 1000000000) := by
    show _ ≤ _
    rw [List.length_append, bys_length, bys_length]
    have : bPiece.size = 5 := rfl
    omega
  have GK : Hid (KTab w) := hK
  clear hK ht
  go_enter Tryz.func141, Tryz.ntmps141
  go_wp2_with fail
  refine (hashOf_lit w _ 2 rfl _ [bPiece, t] rfl rfl (by decide) (by decide) (by rw [HE.out]; exact HL.out) GK.out hp).mono ?_
  rintro e w3 ⟨rfl, b3⟩
  rw [HE.out]
  go_wp2_with fail
  go_ret
  exact ⟨rfl, b3⟩
set_option maxRecDepth 100000 in
set_option maxHeartbeats 400000 in
theorem l09Leaf_any (t : ByteArray) (w : World) (ht : t.size ≤ 60000) :
    Calls Tryz.prog 81 #[.string t] w fun e w' => e = .returned (.string (leaf t)) ∧ Below w.heap.size w w' := by
  have HE : Hid (bys (bPiece ++ t) = bys bPiece ++ bys t) := by
    show _ = _
    rw [bys_append]
  have HL : Hid ((bys bPiece ++ bys t).length ≤ 65536) := by
    show _ ≤ _
    rw [List.length_append, bys_length, bys_length]
    have : bPiece.size = 5 := rfl
    omega
  have hA : ¬ 9223372036854775807 < (⟨#[112, 105, 101, 99, 101]⟩ : ByteArray).size + t.size := by have : (⟨#[112, 105, 101, 99, 101]⟩ : ByteArray).size = 5 := rfl; omega
  have hA' : ¬ 9223372036854775807 < 5 + t.size := by omega
  obtain ⟨v2, w2, hc2, r2, b2⟩ := bytes_run (bPiece ++ t) w
  have hc2' : (convert 9 86 (.string ((⟨#[112, 105, 101, 99, 101]⟩ : ByteArray) ++ t))).run Tryz.prog w = .ok v2 w2 := hc2
  have R2 : Hid (RowB w2 v2 (bys (bPiece ++ t))) := r2
  have B2 : Hid (Below w.heap.size w w2) := b2
  clear hc2 r2 b2
  go_enter Tryz.func81, Tryz.ntmps81
  go_wp2_with fail
  refine (hash1_any v2 _ w2 R2.out (by rw [HE.out]; exact HL.out)).mono ?_
  rintro e w3 ⟨rfl, b3⟩
  rw [HE.out]
  go_wp2_with fail
  go_ret
  exact ⟨rfl, B2.out.trans (b3.mono B2.out.size)⟩

set_option maxRecDepth 100000 in
set_option maxHeartbeats 1600000 in
theorem rootOf_any : ∀ (f : Nat) (ts : List ByteArray) (v : Value) (w : World), RowT w v ts → 1 ≤ ts.length → ts.length ≤ f → ts.length ≤ 64 → (∀ t ∈ ts, t.size ≤ 32) → KTab w → 10 < w.heap.size →
    Calls Tryz.prog 110 #[v] w fun e w' => e = .returned (.string (rootF f ts)) ∧ Below w.heap.size w w'
  | 0, ts, v, w, _, h1, h2, _, _, _, _ => by omega
  | f + 1, ts, v, w, hr, h1, h2, h64, hs, hK, hp => by
    have HR : Hid (RowT w v ts) := hr
    obtain ⟨a, cap, rfl, h⟩ := hr
    have GK : Hid (KTab w ∧ 10 < w.heap.size) := ⟨hK, hp⟩
    by_cases hone : ts.length = 1
    · rcases h with h | ⟨b, off, rfl, hc, hb, hcell⟩
      · rw [h] at h1; exact absurd h1 (by simp)
      have c1 := hcell 0 (by omega)
      rw [Nat.add_zero] at c1
      have HE : Hid (rootF (f + 1) ts = leaf (tnth ts 0)) := rootF_one hone
      have HL : Hid (Calls Tryz.prog 141 #[.string (tnth ts 0)] w fun e w' => e = .returned (.string (leaf (tnth ts 0))) ∧ Below w.heap.size w w') := pieceRoot_any _ w (by have := hs _ (tnth_mem (show 0 < ts.length by omega)); omega) hK hp
      rw [hone] at hc ⊢
      clear hs hcell hone h2 h64 h1 hK hp
      generalize tnth ts 0 = t at c1 HE HL
      go_enter Tryz.func110, Tryz.ntmps110
      go_wp2_with fail
      refine HL.out.mono ?_
      rintro e w1 ⟨rfl, b1⟩
      go_wp2_with fail
      go_ret
      exact ⟨Tx.ret_str HE.out.symm, b1⟩
    · have hcap := rowT_cap HR.out h1
      obtain ⟨q1, q2, q3⟩ := half_lt (show 2 ≤ ts.length by omega)
      have HE : Hid (rootF (f + 1) ts = node (rootF f (ts.take (half ts.length))) (rootF f (ts.drop (half ts.length)))) := rootF_more hone
      have HF : Hid (∀ W, Calls Tryz.prog 142 #[.int .i64 ts.length] W fun e w' => e = .returned (.int .i64 (half ts.length)) ∧ W = w') := fun W => forkOf_any ts.length W (by omega) h64
      have z1 := rootF_size f (ts.take (half ts.length)) (by rw [List.length_take]; omega) (by rw [List.length_take]; omega) (fun t ht => hs t (List.mem_of_mem_take ht))
      have z2 := rootF_size f (ts.drop (half ts.length)) (by rw [List.length_drop]; omega) (by rw [List.length_drop]; omega) (fun t ht => hs t (List.mem_of_mem_drop ht))
      have HL : Hid (∀ W, Below w.heap.size w W → Calls Tryz.prog 110 #[.slice a (half ts.length) cap] W fun e w' => e = .returned (.string (rootF f (ts.take (half ts.length)))) ∧ Below w.heap.size w w') := fun W hW =>
        (rootOf_any f (ts.take (half ts.length)) _ W ((rowT_take HR.out (by omega)).below hW) (by rw [List.length_take]; omega) (by rw [List.length_take]; omega) (by rw [List.length_take]; omega) (fun t ht => hs t (List.mem_of_mem_take ht)) (hK.below hW hp) (Nat.lt_of_lt_of_le hp hW.size)).mono
          fun e w' ⟨h1, h2⟩ => ⟨h1, hW.trans (h2.mono hW.size)⟩
      have HD : Hid (∀ W, Below w.heap.size w W → Calls Tryz.prog 110 #[.slice (a.map (·.add (half ts.length))) (ts.length - half ts.length) (cap - half ts.length)] W fun e w' => e = .returned (.string (rootF f (ts.drop (half ts.length)))) ∧ Below w.heap.size w w') := fun W hW =>
        (rootOf_any f (ts.drop (half ts.length)) _ W ((rowT_drop HR.out (by omega)).below hW) (by rw [List.length_drop]; omega) (by rw [List.length_drop]; omega) (by rw [List.length_drop]; omega) (fun t ht => hs t (List.mem_of_mem_drop ht)) (hK.below hW hp) (Nat.lt_of_lt_of_le hp hW.size)).mono
          fun e w' ⟨h1, h2⟩ => ⟨h1, hW.trans (h2.mono hW.size)⟩
      have hn1 : ((ts.length : Int) == 1) = false := by simp; omega
      obtain ⟨l, Hl⟩ : ∃ l, Hid (rootF f (ts.take (half ts.length)) = l) := ⟨_, rfl⟩
      obtain ⟨r, Hr⟩ : ∃ r, Hid (rootF f (ts.drop (half ts.length)) = r) := ⟨_, rfl⟩
      rw [Hl.out] at z1 HL HE
      rw [Hr.out] at z2 HD HE
      have HN : Hid (∀ W, Below w.heap.size w W → Calls Tryz.prog 143 #[.string l, .string r] W fun e w' => e = .returned (.string (node l r)) ∧ Below w.heap.size w w') := fun W hW =>
        (nodeOf_any l r W (by omega) (by omega) (hK.below hW hp) (Nat.lt_of_lt_of_le hp hW.size)).mono fun e w' ⟨h1, h2⟩ => ⟨h1, hW.trans (h2.mono hW.size)⟩
      clear Hl Hr z1 z2 hs hone h HR h2 GK
      generalize half ts.length = k at q1 q2 q3 HF HL HD
      generalize ts.length = n at hcap q2 HF HD hn1 h1 h64
      have G0 : Hid (Below w.heap.size w w.drew) := (Below.refl _ _).drew
      have p1 : (k : Int) ≤ (n : Int) := by omega
      have p2 : (k : Int) ≤ (cap : Int) := by omega
      have p3 : (n : Int) ≤ (cap : Int) := by omega
      have p4 : ¬ cap = k := by omega
      go_enter Tryz.func110, Tryz.ntmps110
      go_wp2_with (first | (go_at_call 142; refine (HF.out _).mono ?_; rintro e w1 ⟨rfl, rfl⟩) | fail)
      go_region_law (first
        | (go_simp; go_at_call 143; refine (HN.out _ g3).mono ?_; rintro e w3 ⟨rfl, g3⟩; try go_simp)
        | (go_simp; go_at_call 110; (with_reducible refine (HL.out _ (by first | exact g3 | exact G0.out)).mono ?_); rintro e w3 ⟨rfl, g3⟩; try go_simp)
        | (go_simp; go_at_call 110; (with_reducible refine (HD.out _ (by first | exact g3 | exact G0.out)).mono ?_); rintro e w3 ⟨rfl, g3⟩; try go_simp))
      all_goals
        go_wp2_with fail
        go_ret
        exact ⟨Tx.ret_str HE.out.symm, g3⟩
end Go.Proofs.YtnebohdlndiejaaGreatDoor.Py
