/- The specification's reader of tables: its numbers and texts. -/
import Derived.Test.YtkjbdemhpnhagaaUv
import Derived.Test.YtkjbdemhpnhagaaOft
namespace Go.Proofs.Ytkjbdemhpnhagaa.Us
open Go.RowKit Go.Proofs.Ytkjbdemhpnhagaa.Sl Go.Proofs.Ytkjbdemhpnhagaa.By Go.Proofs.Ytkjbdemhpnhagaa.Ap Go.Proofs.Ytkjbdemhpnhagaa.Rr Go.Proofs.Ytkjbdemhpnhagaa.Tb Go.Proofs.Ytkjbdemhpnhagaa.Tw Go.Proofs.Ytkjbdemhpnhagaa.Ur

theorem str_bys (s : ByteArray) : strOfNums (bys s) = s := by
  apply ByteArray.ext
  apply Array.ext'
  rw [strOfNums_data]
  unfold bys
  rw [List.map_map]
  conv => rhs; rw [← List.map_id s.data.toList]
  apply List.map_congr_left
  intro b _
  simp
theorem bys_ext (s : ByteArray) (a b : Nat) : bys (s.extract a b) = ((bys s).take b).drop a := by
  unfold bys
  rw [ByteArray.data_extract, Array.toList_extract, List.extract_eq_take_drop, ← List.drop_take, List.map_drop, List.map_take]
/-- The specification's reader in block p. -/
def Rdp (W : World) (p : Nat) (xs : List Int) (sh : Bool) : Prop := ∃ s, W.heap[p]? = some (.cells #[.string s, .bool sh] 114 (0, 0)) ∧ (sh = false → bys s = xs) ∧ (sh = true → xs = []) ∧ s.size ≤ 65536
theorem Rdp.kept {W W' : World} {p : Nat} {xs : List Int} {sh : Bool} (h : Rdp W p xs sh) (hp : W'.heap[p]? = W.heap[p]?) : Rdp W' p xs sh := by
  obtain ⟨s, h1, h2⟩ := h
  exact ⟨s, hp.trans h1, h2⟩
theorem Rdp.lt {W : World} {p : Nat} {xs : List Int} {sh : Bool} (h : Rdp W p xs sh) : p < W.heap.size := by
  obtain ⟨s, h1, _⟩ := h
  exact (Array.getElem?_eq_some_iff.1 h1).1
theorem tk_nil (n : Nat) : tkB n [] = [] ∧ tkR n [] = [] := by
  unfold tkB tkR
  constructor
  · split
    · rfl
    · simp
  · split
    · rfl
    · simp
set_option maxRecDepth 100000 in
set_option maxHeartbeats 800000 in
theorem text_any (n p : Nat) (xs : List Int) (sh : Bool) (w : World) (h : Rdp w p xs sh) (hn : n ≤ 65535) :
    Calls Try.prog 75 #[.pointer (some ⟨p, 0, none⟩), .int .i64 n] w fun e w' => e = .returned (.string (strOfNums (tkB n xs))) ∧ Rdp w' p (tkR n xs) (tkS n xs sh) ∧ w.grownBy w' (some p) := by
  obtain ⟨s, hb, h1, h2, hs⟩ := h
  have HB : Hid (w.heap[p]? = some (.cells #[.string s, .bool sh] 114 (0, 0))) := hb
  obtain ⟨c0, f0⟩ := blk_cell hb 0 (x := .string s) rfl
  obtain ⟨c1, f1⟩ := blk_cell hb 1 (x := .bool sh) rfl
  clear hb
  rcases Bool.eq_false_or_eq_true sh with hsh | hsh
  · subst hsh
    have HE : Hid (strOfNums (tkB n xs) = ⟨#[]⟩ ∧ tkR n xs = [] ∧ tkS n xs true = true) := by
      rw [h2 rfl, (tk_nil n).1, (tk_nil n).2]
      exact ⟨rfl, rfl, by unfold tkS; rfl⟩
    clear h1 h2
    go_enter Try.func75, Try.ntmps75
    go_wp2_with fail
    go_ret
    rw [HE.out.1, HE.out.2.1, HE.out.2.2]
    exact ⟨rfl, ⟨s, set1 HB.out, (fun h => by cases h), (fun _ => rfl), hs⟩, grown_set _ _⟩
  · subst hsh
    have hx := h1 rfl
    have hsz : xs.length = s.size := by rw [← hx, bys_length]
    by_cases hlt : s.size < n
    · have HE : Hid (strOfNums (tkB n xs) = ⟨#[]⟩ ∧ tkR n xs = [] ∧ tkS n xs false = true) := by
        have hl : xs.length < n := by omega
        refine ⟨?_, if_pos hl, ?_⟩
        · have e : tkB n xs = [] := if_pos hl
          rw [e]; rfl
        · unfold tkS; rw [decide_eq_true hl]; rfl
      have hlt' : (s.size : Int) < (n : Int) := by omega
      clear h1 h2 hx hsz hlt
      go_enter Try.func75, Try.ntmps75
      go_wp2_with fail
      go_ret
      rw [HE.out.1, HE.out.2.1, HE.out.2.2]
      exact ⟨rfl, ⟨s, set1 HB.out, (fun h => by cases h), (fun _ => rfl), hs⟩, grown_set _ _⟩
    · have HE : Hid (strOfNums (tkB n xs) = s.extract 0 n ∧ bys (s.extract n s.size) = tkR n xs ∧ tkS n xs false = false ∧ (s.extract n s.size).size ≤ 65536) := by
        have hl : ¬ xs.length < n := by omega
        have e1 : tkB n xs = xs.take n := if_neg hl
        have e2 : tkR n xs = xs.drop n := if_neg hl
        have e3 : xs.take n = bys (s.extract 0 n) := by rw [bys_ext, List.drop_zero, hx]
        have e4 : xs.drop n = bys (s.extract n s.size) := by rw [bys_ext, hx, List.take_of_length_le (by omega)]
        refine ⟨by rw [e1, e3, str_bys], by rw [e2, e4], by unfold tkS; rw [decide_eq_false hl]; rfl, ?_⟩
        rw [ByteArray.size_extract]; omega
      have hlt' : (n : Int) ≤ (s.size : Int) := by omega
      have hn0 : (0 : Int) ≤ (n : Int) := by omega
      clear h1 h2 hx hsz hlt
      go_enter Try.func75, Try.ntmps75
      go_wp2_with fail
      go_ret
      rw [HE.out.1, HE.out.2.2.1]
      exact ⟨rfl, ⟨_, set0 HB.out, (fun _ => HE.out.2.1), (fun h => by cases h), HE.out.2.2.2⟩, grown_set _ _⟩
set_option maxRecDepth 100000 in
set_option maxHeartbeats 800000 in
theorem number_any (n p : Nat) (xs : List Int) (sh : Bool) (w : World) (h : Rdp w p xs sh) (hn : n ≤ 4) (hr : ∀ x ∈ xs, 0 ≤ x ∧ x ≤ 255) :
    Calls Try.prog 74 #[.pointer (some ⟨p, 0, none⟩), .int .i64 n] w fun e w' => e = .returned (.int .i64 (nv n xs)) ∧ Rdp w' p (tkR n xs) (tkS n xs sh) ∧ w.grownBy w' (some p) := by
  have HT : Hid (Calls Try.prog 75 #[.pointer (some ⟨p, 0, none⟩), .int .i64 n] w fun e w' => e = .returned (.string (strOfNums (tkB n xs))) ∧ Rdp w' p (tkR n xs) (tkS n xs sh) ∧ w.grownBy w' (some p)) := text_any n p xs sh w h (by omega)
  have HB : Hid (∀ W, Calls Try.prog 89 #[.string (strOfNums (tkB n xs))] W fun e w' => e = .returned (.int .i64 (nv n xs)) ∧ w' = W) := fun W => by
    have h1 := Of.l02Of_any (strOfNums (tkB n xs)) W (by rw [strOfNums_size]; have := tkB_len n xs; omega)
    have e : bys (strOfNums (tkB n xs)) = tkB n xs := by
      unfold bys
      rw [strOfNums_data, List.map_map]
      conv => rhs; rw [← List.map_id (tkB n xs)]
      apply List.map_congr_left
      intro x hx
      have := tkB_range hr x hx
      simp only [Function.comp_apply, id]
      rw [UInt8.toNat_ofNat_of_lt' (by unfold UInt8.size; omega)]
      omega
    rw [e] at h1
    exact h1
  generalize strOfNums (tkB n xs) = t at HT HB
  generalize nv n xs = z at HB
  clear h hr
  go_enter Try.func74, Try.ntmps74
  go_wp2_with fail
  refine HT.out.mono ?_
  rintro e w1 ⟨rfl, r1, g1⟩
  go_wp2_with fail
  refine (HB.out w1).mono ?_
  rintro e w2 ⟨rfl, e2⟩
  rw [e2]
  go_wp2_with fail
  go_ret
  exact ⟨rfl, r1, g1⟩
end Go.Proofs.Ytkjbdemhpnhagaa.Us
