/- ProofsOf, of the program and of the specification. -/
import Derived.Test.YtdokgfcaecpboaaDoorPv
namespace Go.Proofs.YtdokgfcaecpboaaDoor.Py
open Go.RowKit Go.Proofs.YtdokgfcaecpboaaDoor.Sl Go.Proofs.YtdokgfcaecpboaaDoor.By Go.Proofs.YtdokgfcaecpboaaDoor.Ap Go.Proofs.YtdokgfcaecpboaaDoor.Tx Go.Proofs.YtdokgfcaecpboaaDoor.Sh Go.Proofs.YtdokgfcaecpboaaDoor.Ho Go.Proofs.YtdokgfcaecpboaaDoor.Se Go.Proofs.YtdokgfcaecpboaaDoor.Ka Go.Proofs.YtdokgfcaecpboaaDoor.Sx Go.Proofs.YtdokgfcaecpboaaDoor.Pf Go.Proofs.YtdokgfcaecpboaaDoor.Px

set_option maxRecDepth 100000 in
theorem join_none (a : Option Addr) (cap : Nat) (w : World) :
    Calls Tryd.prog 36 #[.slice a 0 cap, .string ⟨#[]⟩] w fun e w' => e = .returned (.string ⟨#[]⟩) ∧ Below w.heap.size w w' := by
  go_enter Tryd.func36, Tryd.ntmps36
  go_wp2_with fail
  go_ret
  exact ⟨rfl, Below.refl _ _⟩
theorem join_all (v : Value) (ts : List ByteArray) (w : World) (h : RowT w v ts) (hl : ts.length ≤ 1000000) (hs : (cat ts).length ≤ 1000000000) :
    Calls Tryd.prog 36 #[v, .string ⟨#[]⟩] w fun e w' => e = .returned (.string (catS ts)) ∧ Below w.heap.size w w' := by
  by_cases hne : ts = []
  · subst hne
    obtain ⟨a, cap, rfl, _⟩ := h
    exact join_none a cap w
  · exact join_any v ts w h hne hl hs
theorem pathF_size : ∀ (f : Nat) (ts : List ByteArray) (k : Nat), k < ts.length → ts.length ≤ f → (∀ t ∈ ts, t.size ≤ 32) → ∀ t ∈ pathF f ts k, t.size = 32
  | 0, ts, k, h1, h2, _ => by omega
  | f + 1, ts, k, h1, h2, hs => by
    by_cases h : ts.length = 1
    · rw [pathF_one h]; simp
    · obtain ⟨q1, q2, q3⟩ := half_lt (show 2 ≤ ts.length by omega)
      by_cases hk : k < half ts.length
      · rw [pathF_left h hk]
        intro t ht
        rcases List.mem_append.1 ht with ht | ht
        · exact pathF_size f _ k (by rw [List.length_take]; omega) (by rw [List.length_take]; omega) (fun t ht => hs t (List.mem_of_mem_take ht)) t ht
        · simp at ht
          subst ht
          exact rootF_size f _ (by rw [List.length_drop]; omega) (by rw [List.length_drop]; omega) (fun t ht => hs t (List.mem_of_mem_drop ht))
      · rw [pathF_right h hk]
        intro t ht
        rcases List.mem_append.1 ht with ht | ht
        · exact pathF_size f _ _ (by rw [List.length_drop]; omega) (by rw [List.length_drop]; omega) (fun t ht => hs t (List.mem_of_mem_drop ht)) t ht
        · simp at ht
          subst ht
          exact rootF_size f _ (by rw [List.length_take]; omega) (by rw [List.length_take]; omega) (fun t ht => hs t (List.mem_of_mem_take ht))
/-- The proof of the piece k as one text; those of the first k; what ProofsOf answers. -/
def prT (ts : List ByteArray) (k : Nat) : ByteArray := catS (pathF 64 ts k)
def prTo (ts : List ByteArray) (k : Nat) : List ByteArray := (List.range k).map (prT ts)
noncomputable def poL (ts : List ByteArray) : List ByteArray := if pcC ts = 0 then prTo ts ts.length else []
theorem prTo_succ (ts : List ByteArray) (k : Nat) : prTo ts (k + 1) = prTo ts k ++ [prT ts k] := by unfold prTo; rw [List.range_succ, List.map_append]; rfl
theorem prTo_length (ts : List ByteArray) (k : Nat) : (prTo ts k).length = k := by simp [prTo]
theorem path_cat {ts : List ByteArray} (h : PcP ts) {k : Nat} (hk : k < ts.length) : (cat (pathF 64 ts k)).length ≤ 2048 := by
  rw [cat_len (n := 32) _ (pathF_size 64 ts k hk h.1 h.small)]
  have := pathF_length 64 ts k
  omega
theorem poL_small (ts : List ByteArray) : (poL ts).length ≤ 64 := by
  unfold poL
  split
  · rename_i h
    rw [prTo_length]
    exact (pcC_get h).1
  · simp
theorem catS_two (xs ys : List ByteArray) : catS (xs ++ ys) = catS xs ++ catS ys := by
  unfold catS
  rw [List.flatMap_append]
  apply ByteArray.ext
  simp [ByteArray.data_append]
theorem catS_one (t : ByteArray) : catS [t] = t := by
  unfold catS
  apply ByteArray.ext
  simp
set_option maxRecDepth 100000 in
set_option maxHeartbeats 800000 in
theorem l00Join_any (v : Value) (ts : List ByteArray) (w : World) (h : RowT w v ts) (hl : ts.length ≤ 1000) (hz : ∀ t ∈ ts, t.size = 32) :
    Calls Tryd.prog 52 #[v, .string ⟨#[]⟩] w fun e w' => e = .returned (.string (catS ts)) ∧ w = w' := by
  have HR : Hid (RowT w v ts) := h
  have HZ : Hid (∀ k, k ≤ ts.length → (catS (ts.take k)).size = 32 * k) := fun k hk => by rw [catS_size, cat_len (n := 32) _ (fun t ht => hz t (List.mem_of_mem_take ht)), List.length_take, Nat.min_eq_left hk]
  have HZ1 : Hid (∀ t ∈ ts, t.size = 32) := hz
  obtain ⟨a, cap, rfl, hh⟩ := h
  clear hz hh
  go_enter Tryd.func52, Tryd.ntmps52
  go_wp2_with fail
  go_loopw [5, 6] (fun o i wr => ∃ (k : Nat) (s : ByteArray), k ≤ ts.length ∧ i = .int .i64 k ∧ o = .string s ∧ Hid (s = catS (ts.take k)) ∧ wr = w) (fun _ i _ => ts.length - (intOf i).toNat)
  case atStart => exact ⟨0, ⟨#[]⟩, by omega, rfl, rfl, rfl, rfl⟩
  case round =>
    obtain ⟨k, s, hk, rfl, rfl, HS, rfl⟩ := hrel
    by_cases hlt : k < ts.length
    · have hcell : ∃ b off, a = some ⟨b, off, none⟩ ∧ wr.cell? ⟨b, off + k, none⟩ = some (.string (tnth ts k)) := by
        obtain ⟨a', cap', e, h⟩ := HR.out
        cases e
        rcases h with rfl | ⟨b, off, rfl, _, _, hc⟩
        · simp at hlt
        · exact ⟨b, off, rfl, hc k hlt⟩
      obtain ⟨b, off, rfl, c0⟩ := hcell
      have hx := tnth_at hlt
      have h32 := HZ1.out _ (List.mem_of_getElem? hx)
      have HN : Hid (s ++ tnth ts k = catS (ts.take (k + 1))) := by
        show _ = _
        rw [List.take_add_one, hx, HS.out, catS_two]
        show _ = _ ++ catS [tnth ts k]
        rw [catS_one]
      have hs : s.size = 32 * k := by rw [HS.out]; exact HZ.out k hk
      generalize tnth ts k = t at c0 h32 HN
      have hA : ¬ 9223372036854775807 < s.size + t.size := by omega
      have hA0 : ¬ 9223372036854775807 < s.size + (⟨#[]⟩ : ByteArray).size := by have : (⟨#[]⟩ : ByteArray).size = 0 := rfl; omega
      have hA1 : ¬ 9223372036854775807 < s.size := by omega
      have he : s ++ (⟨#[]⟩ : ByteArray) = s := by apply ByteArray.ext; simp
      clear hs h32 hx
      by_cases hk0 : k = 0
      · subst hk0
        have c1 : wr.cell? ⟨b, off, none⟩ = some (.string t) := by simpa using c0
        go_wp2_with fail
        exact ⟨⟨1, _, by omega, by go_num, rfl, HN, trivial⟩, by simp [intOf]; omega⟩
      · have hkp : (0 : Int) < (k : Int) := by omega
        go_wp2_with fail
        exact ⟨⟨k + 1, _, by omega, by go_num, rfl, HN, trivial⟩, by simp [intOf]; omega⟩
    · obtain rfl : k = ts.length := by omega
      go_wp2_with fail
      go_ret
      exact ⟨Tx.ret_str (by rw [HS.out, List.take_length]), rfl⟩
set_option maxRecDepth 100000 in
set_option maxHeartbeats 1600000 in
theorem implProofsOf_any (v : Value) (ts : List ByteArray) (w : World) (h : RowT w v ts) (hl : ts.length ≤ 1048576) (hK : KTab w) (hp : 1 < w.heap.size) :
    Calls Tryd.prog 16 #[v] w fun e w' => ∃ u, e = .returned (.tuple #[u, .int .i64 (pcC ts)]) ∧ OwnS w' w.heap.size u (poL ts) ∧ Below w.heap.size w w' := by
  obtain ⟨i0, hi0, hz0, hz1, hz2⟩ := info_parts info9
  have HF : Hid (Calls Tryd.prog 35 #[v] w fun e w' => e = .returned (.int .i64 (pcC ts)) ∧ w = w') := piecesFault_any v ts w h (by unfold maxLen; omega)
  have hrow := h
  obtain ⟨a, cap, rfl, _⟩ := h
  by_cases h0 : pcC ts = 0
  · have HP := pcC_get h0
    have HE : Hid (pcC ts = 0 ∧ poL ts = prTo ts ts.length) := ⟨h0, if_pos h0⟩
    have hl64 := HP.1
    have HH : Hid (∀ k W, k < ts.length → Below w.heap.size w W → Calls Tryd.prog 37 #[.slice a ts.length cap, .int .i64 k] W fun e w' => ∃ u, e = .returned u ∧ RowT w' u (pathF 64 ts k) ∧ Below W.heap.size W w') := fun k W hk hW => (rootsBeside_any 64 ts k _ W (hrow.below hW) hk HP.1 (by decide) HP.small (hK.below hW hp) (Nat.lt_of_lt_of_le hp hW.size)).mono fun e w' ⟨u, h1, h2, h3⟩ => ⟨u, h1, h2.row, h3⟩
    have HJ : Hid (∀ k u W, k < ts.length → RowT W u (pathF 64 ts k) → Calls Tryd.prog 36 #[u, .string ⟨#[]⟩] W fun e w' => e = .returned (.string (prT ts k)) ∧ Below W.heap.size W w') := fun k u W hk hu => join_all u _ W hu (by have := pathF_length 64 ts k; omega) (by have := path_cat HP hk; omega)
    rw [h0] at HF
    clear HP h0 hrow hK hp
    go_enter Tryd.func16, Tryd.ntmps16
    go_wp2_with fail
    refine HF.out.mono ?_
    rintro e w1 ⟨rfl, rfl⟩
    go_wp2_with fail
    go_loopw [5, 14] (fun b i wr => ∃ k : Nat, k ≤ ts.length ∧ i = .int .i64 k ∧ Hid (OwnS wr w.heap.size b (prTo ts k) ∧ Below w.heap.size w wr)) (fun _ i _ => ts.length - (intOf i).toNat)
    case atStart => exact ⟨0, by omega, rfl, ⟨OwnS.nil _ _, Below.refl _ _⟩⟩
    case round =>
      obtain ⟨k, hk, rfl, HZ⟩ := hrel
      obtain ⟨v0, rfl⟩ : ∃ v0, v0 = u5 := ⟨_, rfl⟩
      by_cases hlt : k < ts.length
      · have HS : Hid (prTo ts (k + 1) = prTo ts k ++ [prT ts k]) := prTo_succ ts k
        have HLN : Hid ((prTo ts k).length ≤ 1000000) := by show _ ≤ _; rw [prTo_length]; omega
        go_wp2_with fail
        refine (HH.out k wr hlt HZ.out.2).mono ?_
        rintro e w2 ⟨u, rfl, r2, b2⟩
        have R2 : Hid (RowT w2 u (pathF 64 ts k)) := r2
        have B2 : Hid (Below w.heap.size w w2 ∧ OwnS w2 w.heap.size v0 (prTo ts k)) := ⟨HZ.out.2.trans (b2.mono HZ.out.2.size), OwnS.below HZ.out.1 b2⟩
        clear r2 b2
        go_wp2_with fail
        refine (HJ.out k u w2 hlt R2.out).mono ?_
        rintro e w3 ⟨rfl, b3⟩
        have B3 : Hid (Below w.heap.size w w3 ∧ OwnS w3 w.heap.size v0 (prTo ts k)) := ⟨B2.out.1.trans (b3.mono B2.out.1.size), OwnS.below B2.out.2 b3⟩
        clear b3 R2 B2
        generalize prT ts k = y at HS
        go_wp2_with (at_builtin; go_must (refine list_texts (by rfl) _ _ 36 (by rfl) i0 Tryd.underlying36 hi0 hz0 hz1 hz2 w.heap.size w w3 _ _ [y] _ 1 rfl rfl (by decide) (by rfl) B3.out.2 B3.out.1 B3.out.1.size (by rfl) HLN.out ?_; intro v5 w5 o5 b5 _ _))
        exact ⟨⟨k + 1, by omega, by go_num, by rw [HS.out]; exact ⟨o5, b5⟩⟩, by simp [intOf]; omega⟩
      · obtain rfl : k = ts.length := by omega
        go_wp2_with fail
        go_ret2
        rw [HE.out.1, HE.out.2]
        exact ⟨_, rfl, HZ.out⟩
  · have HE : Hid (poL ts = []) := if_neg h0
    have hne : (pcC ts != 0) = true := by simpa using h0
    generalize pcC ts = c at HF hne
    clear h0 hrow hK hp
    go_enter Tryd.func16, Tryd.ntmps16
    go_wp2_with fail
    refine HF.out.mono ?_
    rintro e w1 ⟨rfl, rfl⟩
    go_wp2_with fail
    go_ret2
    rw [HE.out]
    exact ⟨_, rfl, OwnS.nil _ _, Below.refl _ _⟩
set_option maxRecDepth 100000 in
set_option maxHeartbeats 1600000 in
theorem l10Proofs_any (v : Value) (ts : List ByteArray) (w : World) (h : RowT w v ts) (HP : PcP ts) :
    Calls Tryd.prog 34 #[v] w fun e w' => ∃ u, e = .returned u ∧ OwnS w' w.heap.size u (prTo ts ts.length) ∧ Below w.heap.size w w' := by
  obtain ⟨i0, hi0, hz0, hz1, hz2⟩ := info_parts info9
  have hrow := h
  obtain ⟨a, cap, rfl, _⟩ := h
  have hl64 := HP.1
  have HB0 : Hid (OwnS (w.alloc (.cells #[] 9)) w.heap.size (.slice (some ⟨w.heap.size, 0, none⟩) 0 0) [] ∧ Below w.heap.size w (w.alloc (.cells #[] 9))) := ⟨OwnS.made w _ (Nat.le_refl _), bel_new _ _⟩
  have HH : Hid (∀ k W, k < ts.length → Below w.heap.size w W → Calls Tryd.prog 53 #[.slice a ts.length cap, .int .i64 k] W fun e w' => ∃ u, e = .returned u ∧ RowT w' u (pathF 64 ts k) ∧ Below W.heap.size W w') := fun k W hk hW => (l09Path_any 64 ts k _ W (hrow.below hW) hk HP.1 (by decide) HP.small).mono fun e w' ⟨u, h1, h2, h3⟩ => ⟨u, h1, h2.row, h3⟩
  have HJ : Hid (∀ k u W, k < ts.length → RowT W u (pathF 64 ts k) → Calls Tryd.prog 52 #[u, .string ⟨#[]⟩] W fun e w' => e = .returned (.string (prT ts k)) ∧ W = w') := fun k u W hk hu => l00Join_any u _ W hu (by have := pathF_length 64 ts k; omega) (pathF_size 64 ts k hk HP.1 HP.small)
  clear HP hrow
  go_enter Tryd.func34, Tryd.ntmps34
  go_wp2_with fail
  go_loopw [3, 4] (fun b i wr => ∃ k : Nat, k ≤ ts.length ∧ i = .int .i64 k ∧ Hid (OwnS wr w.heap.size b (prTo ts k) ∧ Below w.heap.size w wr)) (fun _ i _ => ts.length - (intOf i).toNat)
  case atStart => exact ⟨0, by omega, rfl, HB0⟩
  case round =>
    obtain ⟨k, hk, rfl, HZ⟩ := hrel
    obtain ⟨v0, rfl⟩ : ∃ v0, v0 = u3 := ⟨_, rfl⟩
    by_cases hlt : k < ts.length
    · have HS : Hid (prTo ts (k + 1) = prTo ts k ++ [prT ts k]) := prTo_succ ts k
      have HLN : Hid ((prTo ts k).length ≤ 1000000) := by show _ ≤ _; rw [prTo_length]; omega
      go_wp2_with fail
      refine (HH.out k wr hlt HZ.out.2).mono ?_
      rintro e w2 ⟨u, rfl, r2, b2⟩
      have R2 : Hid (RowT w2 u (pathF 64 ts k)) := r2
      have B2 : Hid (Below w.heap.size w w2 ∧ OwnS w2 w.heap.size v0 (prTo ts k)) := ⟨HZ.out.2.trans (b2.mono HZ.out.2.size), OwnS.below HZ.out.1 b2⟩
      clear r2 b2
      go_wp2_with fail
      refine (HJ.out k u w2 hlt R2.out).mono ?_
      rintro e w3 ⟨rfl, rfl⟩
      clear R2
      generalize prT ts k = y at HS
      go_wp2_with (at_builtin; go_must (refine list_texts (by rfl) _ _ 36 (by rfl) i0 Tryd.underlying36 hi0 hz0 hz1 hz2 w.heap.size w w2 _ _ [y] _ 1 rfl rfl (by decide) (by rfl) B2.out.2 B2.out.1 B2.out.1.size (by rfl) HLN.out ?_; intro v5 w5 o5 b5 _ _))
      exact ⟨⟨k + 1, by omega, by go_num, by rw [HS.out]; exact ⟨o5, b5⟩⟩, by simp [intOf]; omega⟩
    · obtain rfl : k = ts.length := by omega
      go_wp2_with fail
      go_ret
      exact ⟨_, rfl, HZ.out⟩
set_option maxRecDepth 100000 in
set_option maxHeartbeats 1600000 in
theorem specProofsOf_any (v : Value) (ts : List ByteArray) (w : World) (h : RowT w v ts) (hl : ts.length ≤ 1048576) :
    Calls Tryd.prog 14 #[v] w fun e w' => ∃ u, e = .returned (.tuple #[u, .int .i64 (pcC ts)]) ∧ OwnS w' w.heap.size u (poL ts) ∧ Below w.heap.size w w' := by
  have HF : Hid (Calls Tryd.prog 33 #[v] w fun e w' => e = .returned (.bool (pcB ts)) ∧ w = w') := l09OK_any v ts w h (by unfold maxLen; omega)
  have hrow := h
  obtain ⟨a, cap, rfl, _⟩ := h
  have HB0 : Hid (OwnS (w.alloc (.cells #[] 9)) w.heap.size (.slice (some ⟨w.heap.size, 0, none⟩) 0 0) []) := OwnS.made w _ (Nat.le_refl _)
  by_cases h1 : 4096 < ts.length
  · have h1' : (4096 : Int) < (ts.length : Int) := by omega
    have HC : Hid (pcC ts = 2) := by show _ = _; unfold pcC; rw [if_pos h1]
    have HE : Hid (poL ts = []) := if_neg (by rw [HC.out]; decide)
    clear h1 hrow HF
    go_enter Tryd.func14, Tryd.ntmps14
    go_wp2_with fail
    go_ret2
    rw [HE.out, HC.out]
    exact ⟨_, rfl, HB0.out, bel_new _ _⟩
  have h1' : ¬ (4096 : Int) < (ts.length : Int) := by omega
  cases hb : pcB ts
  case false =>
    have HC : Hid (pcC ts = 1) := by show _ = _; unfold pcC; rw [if_neg h1, hb]; rfl
    have HE : Hid (poL ts = []) := if_neg (by rw [HC.out]; decide)
    rw [hb] at HF
    clear h1 hrow hb
    go_enter Tryd.func14, Tryd.ntmps14
    go_wp2_with fail
    refine HF.out.mono ?_
    rintro e w1 ⟨rfl, rfl⟩
    go_wp2_with fail
    go_ret2
    rw [HE.out, HC.out]
    exact ⟨_, rfl, HB0.out, bel_new _ _⟩
  case true =>
    have HP := pcB_get hb
    have HC : Hid (pcC ts = 0) := pcC_ok HP
    have HE : Hid (poL ts = prTo ts ts.length) := if_pos HC.out
    have HH : Hid (Calls Tryd.prog 34 #[.slice a ts.length cap] w fun e w' => ∃ u, e = .returned u ∧ OwnS w' w.heap.size u (prTo ts ts.length) ∧ Below w.heap.size w w') := l10Proofs_any _ ts w hrow HP
    rw [hb] at HF
    clear h1 hrow hb HP
    go_enter Tryd.func14, Tryd.ntmps14
    go_wp2_with fail
    refine HF.out.mono ?_
    rintro e w1 ⟨rfl, rfl⟩
    go_wp2_with fail
    refine HH.out.mono ?_
    rintro e w2 ⟨u, rfl, o2, b2⟩
    have O2 : Hid (OwnS w2 w.heap.size u (prTo ts ts.length)) := o2
    clear o2
    go_wp2_with fail
    go_ret2
    rw [HE.out, HC.out]
    exact ⟨_, rfl, O2.out, b2⟩
end Go.Proofs.YtdokgfcaecpboaaDoor.Py
