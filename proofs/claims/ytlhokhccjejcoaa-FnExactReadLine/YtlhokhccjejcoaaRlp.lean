/- The words of a line, of the program. -/
import Derived.Test.YtlhokhccjejcoaaRlo
import Derived.Test.YtlhokhccjejcoaaShelfFF
namespace Go.Proofs.Ytlhokhccjejcoaa.Rl16
open Go.RowKit Go.Lib Go.Proofs.Ytlhokhccjejcoaa.Ap Go.Proofs.Ytlhokhccjejcoaa.Tx Go.Shelf
theorem isBlank_any (x : Int) (w : World) : Calls Try.prog 19 #[.int .i32 x] w fun e w' => e = .returned (.bool (x == 32)) ∧ w' = w := by
  go_enter Try.func19, Try.ntmps19
  go_wp2_with fail
  go_ret
  exact ⟨rfl, rfl⟩
theorem fields_any (t : ByteArray) (w : World) (ht : t.size ≤ 70000) : Calls Try.prog 18 #[.string t, .func (.func 19) #[] #[]] w fun e w' => ∃ v, e = .returned v ∧ RowT w' v (words t) ∧ Below w.heap.size w w' := by
  refine (Go.Proofs.Ytlhokhccjejcoaa.Sf.fieldsFunc_laid 19 #[] (enters_of Try.func19 (by kernel_rfl) rfl) blank t w (by omega) (fun W x _ _ => ?_)).mono ?_
  · show Calls Try.prog 19 #[.int .i32 (x : Int)] W _
    refine (isBlank_any (x : Int) W).mono ?_
    rintro e w' ⟨rfl, rfl⟩
    exact ⟨rfl, Below.refl _ _⟩
  · rintro e w' ⟨A, rfl, _, ho, hb⟩
    rw [fields_words] at ho ⊢
    exact ⟨_, rfl, OwnS.row ho, hb⟩
def hashB : List ByteArray → Bool
  | a :: _ => a.get! 0 == 35
  | [] => false
def snt (ts : List ByteArray) : List ByteArray := if hashB ts then [] else ts
theorem snt_yes {ts : List ByteArray} (h : hashB ts = true) : snt ts = [] := by unfold snt; rw [if_pos h]
theorem snt_no {ts : List ByteArray} (h : hashB ts = false) : snt ts = ts := by unfold snt; rw [h]; rfl
theorem hash_ne {a k : ByteArray} (h : (a.get! 0 == 35) = true) (hk : (k.get! 0 == 35) = false) : a ≠ k := fun e => by rw [e, hk] at h; cases h
theorem rl_snt (ts : List ByteArray) : rlA (snt ts) = rlA ts := by
  unfold snt
  split
  · rename_i h
    match ts, h with
    | a :: r, h =>
      have h : (a.get! 0 == 35) = true := h
      exact (rl_no (op_no (hash_ne h (by decide)) (hash_ne h (by decide)) (hash_ne h (by decide)) (hash_ne h (by decide))) (hash_ne h (by decide)) r).symm
  · rfl
set_option maxRecDepth 100000 in
set_option maxHeartbeats 1600000 in
theorem sentenceIn_any (t : ByteArray) (w : World) (ht : t.size ≤ 70000) : Calls Try.prog 11 #[.string t] w fun e w' => ∃ v, e = .returned v ∧ RowT w' v (snt (words t)) ∧ Below w.heap.size w w' := by
  have HF := fields_any t w ht
  have HW : Hid (∀ s ∈ words t, 1 ≤ s.size) := fun s hs => (words_size hs).1
  generalize words t = ts at HF HW ⊢
  clear ht
  cases ts with
  | nil =>
    go_enter Try.func11, Try.ntmps11
    go_wp2_with fail
    refine HF.mono ?_
    rintro e w1 ⟨v, rfl, hr, b1⟩
    obtain ⟨xa, xc, rfl⟩ : ∃ xa xc, v = .slice xa 0 xc := ⟨_, _, hr.choose_spec.choose_spec.1⟩
    have HR : Hid (RowT w1 (.slice xa 0 xc) []) := hr
    clear hr HF
    go_wp2_with fail
    go_ret
    exact ⟨_, rfl, HR.out, b1⟩
  | cons a r =>
    have h1 := HW.out a (by simp)
    have hI : (0 : Int) < (a.size : Int) := by omega
    have hlt : 0 < a.size := h1
    have hg := get_at a 0 hlt
    have hlen : (0 : Int) < ((a :: r).length : Int) := by rw [List.length_cons]; omega
    cases hh : (a.get! 0 == 35) with
    | true =>
      have hb : (((a[0]'hlt).toNat : Int) == 35) = true := by
        have e : a.get! 0 = 35 := by simpa using hh
        rw [← hg, e]; rfl
      have HS : Hid (snt (a :: r) = []) := snt_yes (ts := a :: r) hh
      clear hh hg h1
      go_enter Try.func11, Try.ntmps11
      go_wp2_with fail
      refine HF.mono ?_
      rintro e w1 ⟨v, rfl, hr, b1⟩
      obtain ⟨k, o, cp, rfl, hc, hcell⟩ := row_at hr (by simp)
      have c0 : w1.cell? ⟨k, o, none⟩ = some (.string a) := hcell 0 a rfl
      clear hr hcell HF
      go_wp2_with fail
      go_ret
      rw [HS.out]
      exact ⟨_, rfl, ⟨none, 0, rfl, .inl rfl⟩, b1⟩
    | false =>
      have hb : (((a[0]'hlt).toNat : Int) == 35) = false := by
        rw [← hg]
        refine beq_eq_false_iff_ne.2 fun e => ?_
        have e2 : a.get! 0 = 35 := UInt8.toNat_inj.1 (by show _ = 35; omega)
        rw [e2] at hh
        cases hh
      have HS : Hid (snt (a :: r) = a :: r) := snt_no (ts := a :: r) hh
      clear hh hg h1
      go_enter Try.func11, Try.ntmps11
      go_wp2_with fail
      refine HF.mono ?_
      rintro e w1 ⟨v, rfl, hr, b1⟩
      have HR : Hid (RowT w1 v (a :: r)) := hr
      obtain ⟨k, o, cp, rfl, hc, hcell⟩ := row_at hr (by simp)
      have c0 : w1.cell? ⟨k, o, none⟩ = some (.string a) := hcell 0 a rfl
      clear hr hcell HF
      go_wp2_with fail
      go_ret
      rw [HS.out]
      exact ⟨_, rfl, HR.out, b1⟩
end Go.Proofs.Ytlhokhccjejcoaa.Rl16
