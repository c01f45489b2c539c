/- ProvePiece: both functions. -/
import Derived.Test.YtdokgfcaecpboaaDoorPz
namespace Go.Proofs.YtdokgfcaecpboaaDoor.Py
open Go.RowKit Go.Proofs.YtdokgfcaecpboaaDoor.Sl Go.Proofs.YtdokgfcaecpboaaDoor.By Go.Proofs.YtdokgfcaecpboaaDoor.Ap Go.Proofs.YtdokgfcaecpboaaDoor.Tx Go.Proofs.YtdokgfcaecpboaaDoor.Sh Go.Proofs.YtdokgfcaecpboaaDoor.Ho Go.Proofs.YtdokgfcaecpboaaDoor.Se Go.Proofs.YtdokgfcaecpboaaDoor.Ka Go.Proofs.YtdokgfcaecpboaaDoor.Sx Go.Proofs.YtdokgfcaecpboaaDoor.Pf Go.Proofs.YtdokgfcaecpboaaDoor.Px

/-- The roots beside the way up. -/
def pathF : Nat → List ByteArray → Nat → List ByteArray
  | 0, _, _ => []
  | f + 1, ts, k => if ts.length = 1 then [] else
      if k < half ts.length then pathF f (ts.take (half ts.length)) k ++ [rootF f (ts.drop (half ts.length))]
      else pathF f (ts.drop (half ts.length)) (k - half ts.length) ++ [rootF f (ts.take (half ts.length))]
theorem pathF_one {f k : Nat} {ts : List ByteArray} (h : ts.length = 1) : pathF (f + 1) ts k = [] := if_pos h
theorem pathF_left {f k : Nat} {ts : List ByteArray} (h : ts.length ≠ 1) (hk : k < half ts.length) : pathF (f + 1) ts k = pathF f (ts.take (half ts.length)) k ++ [rootF f (ts.drop (half ts.length))] := by
  show (if _ then _ else _) = _
  rw [if_neg h, if_pos hk]
theorem pathF_right {f k : Nat} {ts : List ByteArray} (h : ts.length ≠ 1) (hk : ¬ k < half ts.length) : pathF (f + 1) ts k = pathF f (ts.drop (half ts.length)) (k - half ts.length) ++ [rootF f (ts.take (half ts.length))] := by
  show (if _ then _ else _) = _
  rw [if_neg h, if_neg hk]
theorem pathF_length : ∀ (f : Nat) (ts : List ByteArray) (k : Nat), (pathF f ts k).length ≤ f
  | 0, _, _ => Nat.le_refl _
  | f + 1, ts, k => by
    by_cases h : ts.length = 1
    · rw [pathF_one h]; simp
    · by_cases hk : k < half ts.length
      · rw [pathF_left h hk, List.length_append]
        have := pathF_length f (ts.take (half ts.length)) k
        simp only [List.length_cons, List.length_nil]; omega
      · rw [pathF_right h hk, List.length_append]
        have := pathF_length f (ts.drop (half ts.length)) (k - half ts.length)
        simp only [List.length_cons, List.length_nil]; omega
/-- What is known while a path is made: the path's own row, and nothing old was written. -/
structure Pth (w W : World) (v : Value) (ps : List ByteArray) : Prop where
  own : OwnS W w.heap.size v ps
  bel : Below w.heap.size w W
theorem Pth.below {w W W' : World} {v : Value} {ps : List ByteArray} (h : Pth w W v ps) (hb : Below w.heap.size w W → Below W.heap.size W W') : Pth w W' v ps :=
  ⟨h.own.below (hb h.bel), h.bel.trans ((hb h.bel).mono h.bel.size)⟩
set_option maxRecDepth 100000 in
set_option maxHeartbeats 3200000 in
theorem rootsBeside_any : ∀ (f : Nat) (ts : List ByteArray) (k : Nat) (v : Value) (w : World), RowT w v ts → k < ts.length → ts.length ≤ f → f ≤ 64 → (∀ t ∈ ts, t.size ≤ 32) → KTab w → 1 < w.heap.size →
    Calls Tryd.prog 37 #[v, .int .i64 k] w fun e w' => ∃ u, e = .returned u ∧ OwnS w' w.heap.size u (pathF f ts k) ∧ Below w.heap.size w w'
  | 0, ts, k, v, w, _, h1, h2, _, _, _, _ => by omega
  | f + 1, ts, k, v, w, hr, h1, h2, hf, hs, hK, hp => by
    have h64 : ts.length ≤ 64 := by omega
    obtain ⟨i0, hi0, hz0, hz1, hz2⟩ := info_parts info9
    have HR : Hid (RowT w v ts) := hr
    obtain ⟨a, cap, rfl, h⟩ := hr
    by_cases hone : ts.length = 1
    · have HE : Hid (pathF (f + 1) ts k = []) := pathF_one hone
      rw [hone]
      clear h hs HR h1 h2 h64 hf hone hK hp
      go_enter Tryd.func37, Tryd.ntmps37
      go_wp2_with fail
      go_ret
      rw [HE.out]
      exact ⟨_, rfl, OwnS.nil _ _, Below.refl _ _⟩
    · have hcap := rowT_cap HR.out (by omega)
      obtain ⟨q1, q2, q3⟩ := half_lt (show 2 ≤ ts.length by omega)
      have HF : Hid (∀ W, Calls Tryd.prog 57 #[.int .i64 ts.length] W fun e w' => e = .returned (.int .i64 (half ts.length)) ∧ W = w') := fun W => forkOf_any ts.length W (by omega) h64
      have HRL : Hid (∀ W, Below w.heap.size w W → Calls Tryd.prog 58 #[.slice a (half ts.length) cap] W fun e w' => e = .returned (.string (rootF f (ts.take (half ts.length)))) ∧ Below W.heap.size W w') := fun W hW =>
        rootOf_any f (ts.take (half ts.length)) _ W ((rowT_take HR.out (by omega)).below hW) (by rw [List.length_take]; omega) (by rw [List.length_take]; omega) (by rw [List.length_take]; omega) (fun t ht => hs t (List.mem_of_mem_take ht)) (hK.below hW hp) (Nat.lt_of_lt_of_le hp hW.size)
      have HRD : Hid (∀ W, Below w.heap.size w W → Calls Tryd.prog 58 #[.slice (a.map (·.add (half ts.length))) (ts.length - half ts.length) (cap - half ts.length)] W fun e w' => e = .returned (.string (rootF f (ts.drop (half ts.length)))) ∧ Below W.heap.size W w') := fun W hW =>
        rootOf_any f (ts.drop (half ts.length)) _ W ((rowT_drop HR.out (by omega)).below hW) (by rw [List.length_drop]; omega) (by rw [List.length_drop]; omega) (by rw [List.length_drop]; omega) (fun t ht => hs t (List.mem_of_mem_drop ht)) (hK.below hW hp) (Nat.lt_of_lt_of_le hp hW.size)
      have hn1 : ((ts.length : Int) == 1) = false := by rw [beq_eq_false_iff_ne]; omega
      have G0 : Hid (Below w.heap.size w w.drew) := (Below.refl _ _).drew
      have S0 : Hid (w.heap.size ≤ w.drew.heap.size) := Nat.le_refl _
      by_cases hk : k < half ts.length
      · have HE : Hid (pathF (f + 1) ts k = pathF f (ts.take (half ts.length)) k ++ [rootF f (ts.drop (half ts.length))]) := pathF_left hone hk
        have HL : Hid ((pathF f (ts.take (half ts.length)) k).length + 1 ≤ 1000000000) := by
          show _ ≤ _
          have h8 : ∀ g, (pathF g (ts.take (half ts.length)) k).length ≤ g := fun g => pathF_length g _ k
          have := h8 f
          omega
        have HPP : Hid (∀ W, Below w.heap.size w W → Calls Tryd.prog 37 #[.slice a (half ts.length) cap, .int .i64 k] W fun e w' => ∃ u, e = .returned u ∧ OwnS w' w.heap.size u (pathF f (ts.take (half ts.length)) k) ∧ Below w.heap.size w w' ∧ w.heap.size ≤ w'.heap.size) := fun W hW =>
          (rootsBeside_any f (ts.take (half ts.length)) k _ W ((rowT_take HR.out (by omega)).below hW) (by rw [List.length_take]; omega) (by rw [List.length_take]; omega) (by omega) (fun t ht => hs t (List.mem_of_mem_take ht)) (hK.below hW hp) (Nat.lt_of_lt_of_le hp hW.size)).mono
            fun e w' ⟨u, h1, h2, h3⟩ => ⟨u, h1, h2.mono hW.size, hW.trans (h3.mono hW.size), Nat.le_trans hW.size h3.size⟩
        obtain ⟨r, Hr⟩ : ∃ r, Hid (rootF f (ts.drop (half ts.length)) = r) := ⟨_, rfl⟩
        obtain ⟨ps, Hps⟩ : ∃ ps, Hid (pathF f (ts.take (half ts.length)) k = ps) := ⟨_, rfl⟩
        rw [Hr.out] at HE HRD
        rw [Hps.out] at HE HL HPP
        clear Hr Hps hs hone h HR h2 hf HRL hK hp
        generalize half ts.length = m at q1 q2 q3 HF HRD HPP hk
        generalize ts.length = n at hcap q2 HF HRD hn1 h1 h64
        have p0 : (k : Int) < (m : Int) := by omega
        have p1 : (m : Int) ≤ (n : Int) := by omega
        have p2 : (m : Int) ≤ (cap : Int) := by omega
        have p3 : (n : Int) ≤ (cap : Int) := by omega
        have p4 : ¬ cap = m := by omega
        have RB : Hid (∀ W, Below w.heap.size w W → w.heap.size ≤ W.heap.size → Calls Tryd.prog 58 #[.slice (a.map (·.add m)) (n - m) (cap - m)] W fun e w' => e = .returned (.string r) ∧ Below w.heap.size w w' ∧ w.heap.size ≤ w'.heap.size ∧ Below W.heap.size W w') := fun W hW hS => (HRD.out W hW).mono fun e w' ⟨h1, h2⟩ => ⟨h1, hW.trans (h2.mono hS), Nat.le_trans hS h2.size, h2⟩
        clear HRD
        go_enter Tryd.func37, Tryd.ntmps37
        go_wp2_with (first | (go_at_call 57; refine (HF.out _).mono ?_; rintro e w1 ⟨rfl, rfl⟩) | fail)
        go_region_law (first
          | (go_simp; go_at_call 58; (with_reducible refine (RB.out _ g5 s5).mono ?_); rintro e w6 ⟨rfl, g6, s6, b6⟩; have o6 := o5.below b6; try go_simp)
          | (go_simp; go_at_call 58; (with_reducible refine (RB.out _ G0.out S0.out).mono ?_); rintro e w4 ⟨rfl, g4, s4, b4⟩; try go_simp)
          | (go_simp; go_at_call 37; (with_reducible refine (HPP.out _ g4).mono ?_); rintro e w6 ⟨u6, rfl, o6, g6, s6⟩; try go_simp)
          | (go_simp; go_at_call 37; (with_reducible refine (HPP.out _ G0.out).mono ?_); rintro e w5 ⟨u5, rfl, o5, g5, s5⟩; try go_simp)
          | (refine step_txt (by rfl) _ _ 36 (by rfl) Tryd.underlying36 hi0 hz0 hz1 hz2 w.heap.size _ _ _ _ [r] (by rfl) (by rfl) (OwnS.below o6 (bel_new _ _)) (by rw [size_new]; omega) (row_lit w6 9 [r] _ 1 rfl rfl) HL.out ?_; intro v7 w7 o7 b7))
        all_goals
          go_wp2_with fail
          go_ret
          rw [HE.out]
          exact ⟨_, rfl, o7, (g6.alloc s6 _).trans b7⟩
      · have HE : Hid (pathF (f + 1) ts k = pathF f (ts.drop (half ts.length)) (k - half ts.length) ++ [rootF f (ts.take (half ts.length))]) := pathF_right hone hk
        have HL : Hid ((pathF f (ts.drop (half ts.length)) (k - half ts.length)).length + 1 ≤ 1000000000) := by
          show _ ≤ _
          have h8 : ∀ g, (pathF g (ts.drop (half ts.length)) (k - half ts.length)).length ≤ g := fun g => pathF_length g _ _
          have := h8 f
          omega
        have HPP : Hid (∀ W, Below w.heap.size w W → Calls Tryd.prog 37 #[.slice (a.map (·.add (half ts.length))) (ts.length - half ts.length) (cap - half ts.length), .int .i64 ((k : Int) - (half ts.length : Int))] W fun e w' => ∃ u, e = .returned u ∧ OwnS w' w.heap.size u (pathF f (ts.drop (half ts.length)) (k - half ts.length)) ∧ Below w.heap.size w w' ∧ w.heap.size ≤ w'.heap.size) := fun W hW => by
          have := (rootsBeside_any f (ts.drop (half ts.length)) (k - half ts.length) _ W ((rowT_drop HR.out (by omega)).below hW) (by rw [List.length_drop]; omega) (by rw [List.length_drop]; omega) (by omega) (fun t ht => hs t (List.mem_of_mem_drop ht)) (hK.below hW hp) (Nat.lt_of_lt_of_le hp hW.size)).mono
            fun e w' ⟨u, h1, h2, h3⟩ => (⟨u, h1, h2.mono hW.size, hW.trans (h3.mono hW.size), Nat.le_trans hW.size h3.size⟩ : ∃ u, e = Ending.returned u ∧ OwnS w' w.heap.size u (pathF f (ts.drop (half ts.length)) (k - half ts.length)) ∧ Below w.heap.size w w' ∧ w.heap.size ≤ w'.heap.size)
          rwa [show ((k - half ts.length : Nat) : Int) = (k : Int) - (half ts.length : Int) by omega] at this
        obtain ⟨r, Hr⟩ : ∃ r, Hid (rootF f (ts.take (half ts.length)) = r) := ⟨_, rfl⟩
        obtain ⟨ps, Hps⟩ : ∃ ps, Hid (pathF f (ts.drop (half ts.length)) (k - half ts.length) = ps) := ⟨_, rfl⟩
        rw [Hr.out] at HE HRL
        rw [Hps.out] at HE HL HPP
        clear Hr Hps hs hone h HR h2 hf HRD hK hp
        generalize half ts.length = m at q1 q2 q3 HF HRL HPP hk
        generalize ts.length = n at hcap q2 HF HPP hn1 h1 h64
        have p0 : ¬ (k : Int) < (m : Int) := by omega
        have p1 : (m : Int) ≤ (n : Int) := by omega
        have p2 : (m : Int) ≤ (cap : Int) := by omega
        have p3 : (n : Int) ≤ (cap : Int) := by omega
        have p4 : ¬ cap = m := by omega
        have p5 : (k : Int) < 64 := by omega
        have hwr : IntKind.i64.wrap ((k : Int) - (m : Int)) = (k : Int) - (m : Int) := by rw [IntKind.wrap_i64]; omega
        have RB : Hid (∀ W, Below w.heap.size w W → w.heap.size ≤ W.heap.size → Calls Tryd.prog 58 #[.slice a m cap] W fun e w' => e = .returned (.string r) ∧ Below w.heap.size w w' ∧ w.heap.size ≤ w'.heap.size ∧ Below W.heap.size W w') := fun W hW hS => (HRL.out W hW).mono fun e w' ⟨h1, h2⟩ => ⟨h1, hW.trans (h2.mono hS), Nat.le_trans hS h2.size, h2⟩
        clear HRL
        go_enter Tryd.func37, Tryd.ntmps37
        go_wp2_with (first | (go_at_call 57; refine (HF.out _).mono ?_; rintro e w1 ⟨rfl, rfl⟩) | fail)
        go_region_law (first
          | (go_simp; go_at_call 58; (with_reducible refine (RB.out _ g5 s5).mono ?_); rintro e w6 ⟨rfl, g6, s6, b6⟩; have o6 := o5.below b6; try go_simp)
          | (go_simp; go_at_call 58; (with_reducible refine (RB.out _ G0.out S0.out).mono ?_); rintro e w4 ⟨rfl, g4, s4, b4⟩; try go_simp)
          | (go_simp; go_at_call 37; (with_reducible refine (HPP.out _ g4).mono ?_); rintro e w6 ⟨u6, rfl, o6, g6, s6⟩; try go_simp)
          | (go_simp; go_at_call 37; (with_reducible refine (HPP.out _ G0.out).mono ?_); rintro e w5 ⟨u5, rfl, o5, g5, s5⟩; try go_simp)
          | (refine step_txt (by rfl) _ _ 36 (by rfl) Tryd.underlying36 hi0 hz0 hz1 hz2 w.heap.size _ _ _ _ [r] (by rfl) (by rfl) (OwnS.below o6 (bel_new _ _)) (by rw [size_new]; omega) (row_lit w6 9 [r] _ 1 rfl rfl) HL.out ?_; intro v7 w7 o7 b7))
        all_goals
          go_wp2_with fail
          go_ret
          rw [HE.out]
          exact ⟨_, rfl, o7, (g6.alloc s6 _).trans b7⟩
set_option maxRecDepth 100000 in
set_option maxHeartbeats 3200000 in
theorem l09Path_any : ∀ (f : Nat) (ts : List ByteArray) (k : Nat) (v : Value) (w : World), RowT w v ts → k < ts.length → ts.length ≤ f → f ≤ 64 → (∀ t ∈ ts, t.size ≤ 32) → 
    Calls Tryd.prog 53 #[v, .int .i64 k] w fun e w' => ∃ u, e = .returned u ∧ OwnS w' w.heap.size u (pathF f ts k) ∧ Below w.heap.size w w'
  | 0, ts, k, v, w, _, h1, h2, _, _ => by omega
  | f + 1, ts, k, v, w, hr, h1, h2, hf, hs => by
    have h64 : ts.length ≤ 64 := by omega
    obtain ⟨i0, hi0, hz0, hz1, hz2⟩ := info_parts info9
    have HR : Hid (RowT w v ts) := hr
    obtain ⟨a, cap, rfl, h⟩ := hr
    by_cases hone : ts.length = 1
    · have HE : Hid (pathF (f + 1) ts k = []) := pathF_one hone
      rw [hone]
      clear h hs HR h1 h2 h64 hf hone 
      go_enter Tryd.func53, Tryd.ntmps53
      go_wp2_with fail
      go_ret
      rw [HE.out]
      exact ⟨_, rfl, OwnS.made w _ (Nat.le_refl _), bel_new _ _⟩
    · have hcap := rowT_cap HR.out (by omega)
      obtain ⟨q1, q2, q3⟩ := half_lt (show 2 ≤ ts.length by omega)
      have HF : Hid (∀ W, Calls Tryd.prog 65 #[.int .i64 ts.length] W fun e w' => e = .returned (.int .i64 (half ts.length)) ∧ W = w') := fun W => l09Half_any ts.length W (by omega) h64
      have HRL : Hid (∀ W, Below w.heap.size w W → Calls Tryd.prog 66 #[.slice a (half ts.length) cap] W fun e w' => e = .returned (.string (rootF f (ts.take (half ts.length)))) ∧ Below W.heap.size W w') := fun W hW =>
        l09Root_any f (ts.take (half ts.length)) _ W ((rowT_take HR.out (by omega)).below hW) (by rw [List.length_take]; omega) (by rw [List.length_take]; omega) (by rw [List.length_take]; omega) (fun t ht => hs t (List.mem_of_mem_take ht))
      have HRD : Hid (∀ W, Below w.heap.size w W → Calls Tryd.prog 66 #[.slice (a.map (·.add (half ts.length))) (ts.length - half ts.length) (cap - half ts.length)] W fun e w' => e = .returned (.string (rootF f (ts.drop (half ts.length)))) ∧ Below W.heap.size W w') := fun W hW =>
        l09Root_any f (ts.drop (half ts.length)) _ W ((rowT_drop HR.out (by omega)).below hW) (by rw [List.length_drop]; omega) (by rw [List.length_drop]; omega) (by rw [List.length_drop]; omega) (fun t ht => hs t (List.mem_of_mem_drop ht))
      have hn1 : ((ts.length : Int) == 1) = false := by rw [beq_eq_false_iff_ne]; omega
      have G0 : Hid (Below w.heap.size w w.drew) := (Below.refl _ _).drew
      have S0 : Hid (w.heap.size ≤ w.drew.heap.size) := Nat.le_refl _
      by_cases hk : k < half ts.length
      · have HE : Hid (pathF (f + 1) ts k = pathF f (ts.take (half ts.length)) k ++ [rootF f (ts.drop (half ts.length))]) := pathF_left hone hk
        have HL : Hid ((pathF f (ts.take (half ts.length)) k).length + 1 ≤ 1000000000) := by
          show _ ≤ _
          have h8 : ∀ g, (pathF g (ts.take (half ts.length)) k).length ≤ g := fun g => pathF_length g _ k
          have := h8 f
          omega
        have HPP : Hid (∀ W, Below w.heap.size w W → Calls Tryd.prog 53 #[.slice a (half ts.length) cap, .int .i64 k] W fun e w' => ∃ u, e = .returned u ∧ OwnS w' w.heap.size u (pathF f (ts.take (half ts.length)) k) ∧ Below w.heap.size w w' ∧ w.heap.size ≤ w'.heap.size) := fun W hW =>
          (l09Path_any f (ts.take (half ts.length)) k _ W ((rowT_take HR.out (by omega)).below hW) (by rw [List.length_take]; omega) (by rw [List.length_take]; omega) (by omega) (fun t ht => hs t (List.mem_of_mem_take ht))).mono
            fun e w' ⟨u, h1, h2, h3⟩ => ⟨u, h1, h2.mono hW.size, hW.trans (h3.mono hW.size), Nat.le_trans hW.size h3.size⟩
        obtain ⟨r, Hr⟩ : ∃ r, Hid (rootF f (ts.drop (half ts.length)) = r) := ⟨_, rfl⟩
        obtain ⟨ps, Hps⟩ : ∃ ps, Hid (pathF f (ts.take (half ts.length)) k = ps) := ⟨_, rfl⟩
        rw [Hr.out] at HE HRD
        rw [Hps.out] at HE HL HPP
        clear Hr Hps hs hone h HR h2 hf HRL
        generalize half ts.length = m at q1 q2 q3 HF HRD HPP hk
        generalize ts.length = n at hcap q2 HF HRD hn1 h1 h64
        have p0 : (k : Int) < (m : Int) := by omega
        have p1 : (m : Int) ≤ (n : Int) := by omega
        have p2 : (m : Int) ≤ (cap : Int) := by omega
        have p3 : (n : Int) ≤ (cap : Int) := by omega
        have p4 : ¬ cap = m := by omega
        have RB : Hid (∀ W, Below w.heap.size w W → w.heap.size ≤ W.heap.size → Calls Tryd.prog 66 #[.slice (a.map (·.add m)) (n - m) (cap - m)] W fun e w' => e = .returned (.string r) ∧ Below w.heap.size w w' ∧ w.heap.size ≤ w'.heap.size ∧ Below W.heap.size W w') := fun W hW hS => (HRD.out W hW).mono fun e w' ⟨h1, h2⟩ => ⟨h1, hW.trans (h2.mono hS), Nat.le_trans hS h2.size, h2⟩
        clear HRD
        go_enter Tryd.func53, Tryd.ntmps53
        go_wp2_with (first | (go_at_call 65; refine (HF.out _).mono ?_; rintro e w1 ⟨rfl, rfl⟩) | fail)
        go_region_law (first
          | (go_simp; go_at_call 66; (with_reducible refine (RB.out _ g5 s5).mono ?_); rintro e w6 ⟨rfl, g6, s6, b6⟩; have o6 := o5.below b6; try go_simp)
          | (go_simp; go_at_call 66; (with_reducible refine (RB.out _ G0.out S0.out).mono ?_); rintro e w4 ⟨rfl, g4, s4, b4⟩; try go_simp)
          | (go_simp; go_at_call 53; (with_reducible refine (HPP.out _ g4).mono ?_); rintro e w6 ⟨u6, rfl, o6, g6, s6⟩; try go_simp)
          | (go_simp; go_at_call 53; (with_reducible refine (HPP.out _ G0.out).mono ?_); rintro e w5 ⟨u5, rfl, o5, g5, s5⟩; try go_simp)
          | (refine step_txt (by rfl) _ _ 36 (by rfl) Tryd.underlying36 hi0 hz0 hz1 hz2 w.heap.size _ _ _ _ [r] (by rfl) (by rfl) (OwnS.below o6 (bel_new _ _)) (by rw [size_new]; omega) (row_lit w6 9 [r] _ 1 rfl rfl) HL.out ?_; intro v7 w7 o7 b7))
        all_goals
          go_wp2_with fail
          go_ret
          rw [HE.out]
          exact ⟨_, rfl, o7, (g6.alloc s6 _).trans b7⟩
      · have HE : Hid (pathF (f + 1) ts k = pathF f (ts.drop (half ts.length)) (k - half ts.length) ++ [rootF f (ts.take (half ts.length))]) := pathF_right hone hk
        have HL : Hid ((pathF f (ts.drop (half ts.length)) (k - half ts.length)).length + 1 ≤ 1000000000) := by
          show _ ≤ _
          have h8 : ∀ g, (pathF g (ts.drop (half ts.length)) (k - half ts.length)).length ≤ g := fun g => pathF_length g _ _
          have := h8 f
          omega
        have HPP : Hid (∀ W, Below w.heap.size w W → Calls Tryd.prog 53 #[.slice (a.map (·.add (half ts.length))) (ts.length - half ts.length) (cap - half ts.length), .int .i64 ((k : Int) - (half ts.length : Int))] W fun e w' => ∃ u, e = .returned u ∧ OwnS w' w.heap.size u (pathF f (ts.drop (half ts.length)) (k - half ts.length)) ∧ Below w.heap.size w w' ∧ w.heap.size ≤ w'.heap.size) := fun W hW => by
          have := (l09Path_any f (ts.drop (half ts.length)) (k - half ts.length) _ W ((rowT_drop HR.out (by omega)).below hW) (by rw [List.length_drop]; omega) (by rw [List.length_drop]; omega) (by omega) (fun t ht => hs t (List.mem_of_mem_drop ht))).mono
            fun e w' ⟨u, h1, h2, h3⟩ => (⟨u, h1, h2.mono hW.size, hW.trans (h3.mono hW.size), Nat.le_trans hW.size h3.size⟩ : ∃ u, e = Ending.returned u ∧ OwnS w' w.heap.size u (pathF f (ts.drop (half ts.length)) (k - half ts.length)) ∧ Below w.heap.size w w' ∧ w.heap.size ≤ w'.heap.size)
          rwa [show ((k - half ts.length : Nat) : Int) = (k : Int) - (half ts.length : Int) by omega] at this
        obtain ⟨r, Hr⟩ : ∃ r, Hid (rootF f (ts.take (half ts.length)) = r) := ⟨_, rfl⟩
        obtain ⟨ps, Hps⟩ : ∃ ps, Hid (pathF f (ts.drop (half ts.length)) (k - half ts.length) = ps) := ⟨_, rfl⟩
        rw [Hr.out] at HE HRL
        rw [Hps.out] at HE HL HPP
        clear Hr Hps hs hone h HR h2 hf HRD
        generalize half ts.length = m at q1 q2 q3 HF HRL HPP hk
        generalize ts.length = n at hcap q2 HF HPP hn1 h1 h64
        have p0 : ¬ (k : Int) < (m : Int) := by omega
        have p1 : (m : Int) ≤ (n : Int) := by omega
        have p2 : (m : Int) ≤ (cap : Int) := by omega
        have p3 : (n : Int) ≤ (cap : Int) := by omega
        have p4 : ¬ cap = m := by omega
        have p5 : (k : Int) < 64 := by omega
        have hwr : IntKind.i64.wrap ((k : Int) - (m : Int)) = (k : Int) - (m : Int) := by rw [IntKind.wrap_i64]; omega
        have RB : Hid (∀ W, Below w.heap.size w W → w.heap.size ≤ W.heap.size → Calls Tryd.prog 66 #[.slice a m cap] W fun e w' => e = .returned (.string r) ∧ Below w.heap.size w w' ∧ w.heap.size ≤ w'.heap.size ∧ Below W.heap.size W w') := fun W hW hS => (HRL.out W hW).mono fun e w' ⟨h1, h2⟩ => ⟨h1, hW.trans (h2.mono hS), Nat.le_trans hS h2.size, h2⟩
        clear HRL
        go_enter Tryd.func53, Tryd.ntmps53
        go_wp2_with (first | (go_at_call 65; refine (HF.out _).mono ?_; rintro e w1 ⟨rfl, rfl⟩) | fail)
        go_region_law (first
          | (go_simp; go_at_call 66; (with_reducible refine (RB.out _ g5 s5).mono ?_); rintro e w6 ⟨rfl, g6, s6, b6⟩; have o6 := o5.below b6; try go_simp)
          | (go_simp; go_at_call 66; (with_reducible refine (RB.out _ G0.out S0.out).mono ?_); rintro e w4 ⟨rfl, g4, s4, b4⟩; try go_simp)
          | (go_simp; go_at_call 53; (with_reducible refine (HPP.out _ g4).mono ?_); rintro e w6 ⟨u6, rfl, o6, g6, s6⟩; try go_simp)
          | (go_simp; go_at_call 53; (with_reducible refine (HPP.out _ G0.out).mono ?_); rintro e w5 ⟨u5, rfl, o5, g5, s5⟩; try go_simp)
          | (refine step_txt (by rfl) _ _ 36 (by rfl) Tryd.underlying36 hi0 hz0 hz1 hz2 w.heap.size _ _ _ _ [r] (by rfl) (by rfl) (OwnS.below o6 (bel_new _ _)) (by rw [size_new]; omega) (row_lit w6 9 [r] _ 1 rfl rfl) HL.out ?_; intro v7 w7 o7 b7))
        all_goals
          go_wp2_with fail
          go_ret
          rw [HE.out]
          exact ⟨_, rfl, o7, (g6.alloc s6 _).trans b7⟩
end Go.Proofs.YtdokgfcaecpboaaDoor.Py
