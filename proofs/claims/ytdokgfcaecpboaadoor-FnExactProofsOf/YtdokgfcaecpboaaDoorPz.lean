/- PiecesRoot: both functions. -/
import Derived.Test.YtdokgfcaecpboaaDoorPy
namespace Go.Proofs.YtdokgfcaecpboaaDoor.Py
open Go.RowKit Go.Proofs.YtdokgfcaecpboaaDoor.Sl Go.Proofs.YtdokgfcaecpboaaDoor.By Go.Proofs.YtdokgfcaecpboaaDoor.Ap Go.Proofs.YtdokgfcaecpboaaDoor.Tx Go.Proofs.YtdokgfcaecpboaaDoor.Sh Go.Proofs.YtdokgfcaecpboaaDoor.Ho Go.Proofs.YtdokgfcaecpboaaDoor.Se Go.Proofs.YtdokgfcaecpboaaDoor.Ka Go.Proofs.YtdokgfcaecpboaaDoor.Sx Go.Proofs.YtdokgfcaecpboaaDoor.Pf Go.Proofs.YtdokgfcaecpboaaDoor.Px

set_option maxRecDepth 100000 in
set_option maxHeartbeats 1600000 in
theorem l09Root_any : ∀ (f : Nat) (ts : List ByteArray) (v : Value) (w : World), RowT w v ts → 1 ≤ ts.length → ts.length ≤ f → ts.length ≤ 64 → (∀ t ∈ ts, t.size ≤ 32) →
    Calls Tryd.prog 66 #[v] w fun e w' => e = .returned (.string (rootF f ts)) ∧ Below w.heap.size w w'
  | 0, ts, v, w, _, h1, h2, _, _ => by omega
  | f + 1, ts, v, w, hr, h1, h2, h64, hs => by
    have HR : Hid (RowT w v ts) := hr
    obtain ⟨a, cap, rfl, h⟩ := hr
    by_cases hone : ts.length = 1
    · rcases h with h | ⟨b, off, rfl, hc, hb, hcell⟩
      · rw [h] at h1; exact absurd h1 (by simp)
      have c1 := hcell 0 (by omega)
      rw [Nat.add_zero] at c1
      have HE : Hid (rootF (f + 1) ts = leaf (tnth ts 0)) := rootF_one hone
      have HL : Hid (Calls Tryd.prog 75 #[.string (tnth ts 0)] w fun e w' => e = .returned (.string (leaf (tnth ts 0))) ∧ Below w.heap.size w w') := l09Leaf_any _ w (by have := hs _ (tnth_mem (show 0 < ts.length by omega)); omega)
      rw [hone] at hc ⊢
      clear hs hcell hone h2 h64 h1
      generalize tnth ts 0 = t at c1 HE HL
      go_enter Tryd.func66, Tryd.ntmps66
      go_wp2_with fail
      refine HL.out.mono ?_
      rintro e w1 ⟨rfl, b1⟩
      go_wp2_with fail
      go_ret
      exact ⟨Tx.ret_str HE.out.symm, b1⟩
    · have hcap := rowT_cap HR.out h1
      obtain ⟨q1, q2, q3⟩ := half_lt (show 2 ≤ ts.length by omega)
      have HE : Hid (rootF (f + 1) ts = node (rootF f (ts.take (half ts.length))) (rootF f (ts.drop (half ts.length)))) := rootF_more hone
      have HF : Hid (∀ W, Calls Tryd.prog 65 #[.int .i64 ts.length] W fun e w' => e = .returned (.int .i64 (half ts.length)) ∧ W = w') := fun W => l09Half_any ts.length W (by omega) h64
      have z1 := rootF_size f (ts.take (half ts.length)) (by rw [List.length_take]; omega) (by rw [List.length_take]; omega) (fun t ht => hs t (List.mem_of_mem_take ht))
      have z2 := rootF_size f (ts.drop (half ts.length)) (by rw [List.length_drop]; omega) (by rw [List.length_drop]; omega) (fun t ht => hs t (List.mem_of_mem_drop ht))
      have HL : Hid (∀ W, Below w.heap.size w W → Calls Tryd.prog 66 #[.slice a (half ts.length) cap] W fun e w' => e = .returned (.string (rootF f (ts.take (half ts.length)))) ∧ Below w.heap.size w w') := fun W hW =>
        (l09Root_any f (ts.take (half ts.length)) _ W ((rowT_take HR.out (by omega)).below hW) (by rw [List.length_take]; omega) (by rw [List.length_take]; omega) (by rw [List.length_take]; omega) (fun t ht => hs t (List.mem_of_mem_take ht))).mono
          fun e w' ⟨h1, h2⟩ => ⟨h1, hW.trans (h2.mono hW.size)⟩
      have HD : Hid (∀ W, Below w.heap.size w W → Calls Tryd.prog 66 #[.slice (a.map (·.add (half ts.length))) (ts.length - half ts.length) (cap - half ts.length)] W fun e w' => e = .returned (.string (rootF f (ts.drop (half ts.length)))) ∧ Below w.heap.size w w') := fun W hW =>
        (l09Root_any f (ts.drop (half ts.length)) _ W ((rowT_drop HR.out (by omega)).below hW) (by rw [List.length_drop]; omega) (by rw [List.length_drop]; omega) (by rw [List.length_drop]; omega) (fun t ht => hs t (List.mem_of_mem_drop ht))).mono
          fun e w' ⟨h1, h2⟩ => ⟨h1, hW.trans (h2.mono hW.size)⟩
      have hn0 : ((ts.length : Int) == 0) = false := by rw [beq_eq_false_iff_ne]; omega
      have hn1 : ((ts.length : Int) == 1) = false := by simp; omega
      obtain ⟨l, Hl⟩ : ∃ l, Hid (rootF f (ts.take (half ts.length)) = l) := ⟨_, rfl⟩
      obtain ⟨r, Hr⟩ : ∃ r, Hid (rootF f (ts.drop (half ts.length)) = r) := ⟨_, rfl⟩
      rw [Hl.out] at z1 HL HE
      rw [Hr.out] at z2 HD HE
      have HN : Hid (∀ W, Below w.heap.size w W → Calls Tryd.prog 76 #[.string l, .string r] W fun e w' => e = .returned (.string (node l r)) ∧ Below w.heap.size w w') := fun W hW =>
        (l03Node_any l r W (by omega) (by omega)).mono fun e w' ⟨h1, h2⟩ => ⟨h1, hW.trans (h2.mono hW.size)⟩
      clear Hl Hr z1 z2 hs hone h HR h2
      generalize half ts.length = k at q1 q2 q3 HF HL HD
      generalize ts.length = n at hcap q2 HF HD hn0 hn1 h1 h64
      have G0 : Hid (Below w.heap.size w w.drew) := (Below.refl _ _).drew
      have p1 : (k : Int) ≤ (n : Int) := by omega
      have p2 : (k : Int) ≤ (cap : Int) := by omega
      have p3 : (n : Int) ≤ (cap : Int) := by omega
      have p4 : ¬ cap = k := by omega
      go_enter Tryd.func66, Tryd.ntmps66
      go_wp2_with (first | (go_at_call 65; refine (HF.out _).mono ?_; rintro e w1 ⟨rfl, rfl⟩) | fail)
      go_region_law (first
        | (go_simp; go_at_call 76; refine (HN.out _ g3).mono ?_; rintro e w3 ⟨rfl, g3⟩; try go_simp)
        | (go_simp; go_at_call 66; (with_reducible refine (HL.out _ (by first | exact g3 | exact G0.out)).mono ?_); rintro e w3 ⟨rfl, g3⟩; try go_simp)
        | (go_simp; go_at_call 66; (with_reducible refine (HD.out _ (by first | exact g3 | exact G0.out)).mono ?_); rintro e w3 ⟨rfl, g3⟩; try go_simp))
      all_goals
        go_wp2_with fail
        go_ret
        exact ⟨Tx.ret_str HE.out.symm, g3⟩
/-- The root of none. -/
def rootE : ByteArray := hashS (bys bNothing)
theorem row_const (w : World) (xs : List Int) (n : Nat) (hn : xs.length = n) (cs : Array Value) (hcs : cs = (xs.map (Value.int .u8)).toArray) (fz : Nat × Nat) (hr : ∀ x ∈ xs, 0 ≤ x ∧ x ≤ 255) : RowB (w.alloc (.cells cs 5 fz)) (.slice (some ⟨w.heap.size, 0, none⟩) n n) xs := by
  subst hn hcs
  refine ⟨_, _, rfl, .inr ⟨w.heap.size, 0, rfl, Nat.le_refl _, by simp, fun i hi => ?_⟩, hr⟩
  rw [Nat.zero_add, Joins.cell_of_block (heap_alloc_new w _) i, List.getElem?_toArray, List.getElem?_map]
  unfold nth
  rw [List.getD_eq_getElem?_getD, List.getElem?_eq_getElem hi]
  rfl
set_option maxRecDepth 100000 in
set_option maxHeartbeats 800000 in
theorem l09Root_none (a : Option Addr) (cap : Nat) (w : World) :
    Calls Tryd.prog 66 #[.slice a 0 cap] w fun e w' => e = .returned (.string rootE) ∧ Below w.heap.size w w' := by
  have hk0 := Lib.run_convert_bytes_const (P := Tryd.prog) w 62 5 #[.int .u8 110, .int .u8 111, .int .u8 116, .int .u8 104, .int .u8 105, .int .u8 110, .int .u8 103] 7 7 Tryd.underlying62 Tryd.underlying5
  have R0 : Hid (RowB (w.alloc (.cells #[.int .u8 110, .int .u8 111, .int .u8 116, .int .u8 104, .int .u8 105, .int .u8 110, .int .u8 103] 5 (7, 8))) (.slice (some ⟨w.heap.size, 0, none⟩) 7 7) (bys bNothing)) := row_const w [110, 111, 116, 104, 105, 110, 103] 7 rfl _ rfl _ (by decide)
  have B0 : Hid (Below w.heap.size w (w.alloc (.cells #[.int .u8 110, .int .u8 111, .int .u8 116, .int .u8 104, .int .u8 105, .int .u8 110, .int .u8 103] 5 (7, 8)))) := bel_new _ _
  go_enter Tryd.func66, Tryd.ntmps66
  go_wp2_with fail
  refine (hash1_any _ _ _ R0.out (by decide)).mono ?_
  rintro e w3 ⟨rfl, b3⟩
  have HE : Hid (hashS (bys bNothing) = rootE) := rfl
  rw [HE.out]
  go_wp2_with fail
  go_ret
  exact ⟨rfl, B0.out.trans (b3.mono B0.out.size)⟩
/-- What PiecesRoot answers. -/
noncomputable def prO (ts : List ByteArray) : ByteArray := if pcC ts = 0 then (if ts.length = 0 then rootE else rootF 64 ts) else ⟨#[]⟩
theorem prO_bad {ts : List ByteArray} (h : pcC ts ≠ 0) : prO ts = ⟨#[]⟩ := if_neg h
theorem prO_none {ts : List ByteArray} (h : pcC ts = 0) (h0 : ts.length = 0) : prO ts = rootE := by unfold prO; rw [if_pos h, if_pos h0]
theorem prO_some {ts : List ByteArray} (h : pcC ts = 0) (h0 : ts.length ≠ 0) : prO ts = rootF 64 ts := by unfold prO; rw [if_pos h, if_neg h0]
theorem ret_si {a b : ByteArray} {c d : Int} (h1 : a = b) (h2 : c = d) : Ending.returned (.tuple #[.string a, .int .i64 c]) = .returned (.tuple #[.string b, .int .i64 d]) := by rw [h1, h2]
end Go.Proofs.YtdokgfcaecpboaaDoor.Py
