/- A line's words as data: its runs of bytes that are not blanks; strings.FieldsFunc tells the same. -/
import Derived.Test.YtlhokhccjejcoaaGrnL
import Derived.Test.YtlhokhccjejcoaaTz
import Derived.Lib.FieldsP
import Derived.Lib.TrimU
import Derived.Lib.DecodeN
import Derived.Laws.RangeString
namespace Go.Proofs.Ytlhokhccjejcoaa.Rl16
open Go.RowKit Go.Lib

/-- The words from place i on, the open one from q on. -/
def wdF (s : ByteArray) : Nat → Nat → Nat → List ByteArray
  | 0, _, _ => []
  | n + 1, i, q => if s.size ≤ i then (if q < i then [s.extract q i] else [])
    else if s.get! i = 32 then (if q < i then [s.extract q i] else []) ++ wdF s n (i + 1) (i + 1)
    else wdF s n (i + 1) q
def words (s : ByteArray) : List ByteArray := wdF s (s.size + 1) 0 0
theorem get_at (s : ByteArray) (i : Nat) (h : i < s.size) : s.get! i = s[i]'h := by
  obtain ⟨d⟩ := s
  exact getElem!_pos d i h
theorem wd_skip (s : ByteArray) : ∀ (m n i q : Nat), i + m ≤ s.size → (∀ j, i ≤ j → j < i + m → s.get! j ≠ 32) → wdF s (n + m) i q = wdF s n (i + m) q
  | 0, _, _, _, _, _ => rfl
  | m + 1, n, i, q, h, hb => by
    show wdF s ((n + m) + 1) i q = _
    conv => lhs; unfold wdF
    rw [if_neg (by omega), if_neg (hb i (Nat.le_refl _) (by omega)), wd_skip s m n (i + 1) q (by omega) (fun j h1 h2 => hb j (by omega) (by omega)), show i + 1 + m = i + (m + 1) by omega]
theorem decN (n b0 b1 b2 b3 : Nat) (hn : 1 ≤ n) (h0 : b0 ≠ 32) : (decodeN n b0 b1 b2 b3).1 ≠ 32 ∧ 1 ≤ (decodeN n b0 b1 b2 b3).2 ∧ (decodeN n b0 b1 b2 b3).2 ≤ n ∧ (1 < (decodeN n b0 b1 b2 b3).2 → b1 ≠ 32) ∧ (2 < (decodeN n b0 b1 b2 b3).2 → b2 ≠ 32) ∧ (3 < (decodeN n b0 b1 b2 b3).2 → b3 ≠ 32) ∧ (decodeN n b0 b1 b2 b3).2 ≤ 4 := by
  unfold decodeN
  repeat' split
  all_goals (simp only; omega)
theorem dec_high (s : ByteArray) (pos : Nat) (h : pos < s.size) (h32 : s.get! pos ≠ 32) : (Utf8.decode s pos).1 ≠ 32 ∧ 1 ≤ (Utf8.decode s pos).2 ∧ pos + (Utf8.decode s pos).2 ≤ s.size ∧ ∀ j, pos ≤ j → j < pos + (Utf8.decode s pos).2 → s.get! j ≠ 32 := by
  have hn : ∀ b : UInt8, b.toNat ≠ 32 → b ≠ 32 := fun b hb e => hb (by rw [e]; rfl)
  have h0 : (s.get! pos).toNat ≠ 32 := fun e => h32 (UInt8.toNat_inj.1 e)
  rw [decode_at]
  obtain ⟨a, b, c, d1, d2, d3, d4⟩ := decN (s.size - pos) (s.get! pos).toNat (s.get! (pos + 1)).toNat (s.get! (pos + 2)).toNat (s.get! (pos + 3)).toNat (by omega) h0
  refine ⟨a, b, by omega, fun j h1 h2 => ?_⟩
  have hj : j = pos ∨ j = pos + 1 ∨ j = pos + 2 ∨ j = pos + 3 := by omega
  rcases hj with rfl | rfl | rfl | rfl
  · exact h32
  · exact hn _ (d1 (by omega))
  · exact hn _ (d2 (by omega))
  · exact hn _ (d3 (by omega))
def blank (x : Nat) : Bool := (x : Int) == 32
theorem dec_blank (s : ByteArray) (pos : Nat) (h : pos < s.size) (h32 : s.get! pos = 32) : Utf8.decode s pos = (32, 1) := by
  have e := get_at s pos h
  rw [h32] at e
  have := decode_ascii s pos h (by rw [← e]; decide)
  rw [this, ← e]
  rfl
theorem spans_wd (s : ByteArray) : ∀ (f pos : Nat) (st : Option Nat) (acc : List (Nat × Nat)), s.size ≤ pos + f → pos ≤ s.size → (∀ a, st = some a → a < pos) →
    ((closeSpans s (spansFromP blank s f pos st acc)).map fun x => s.extract x.1 x.2) = (acc.map fun x => s.extract x.1 x.2) ++ wdF s (s.size + 1 - pos) pos (st.getD pos) := by
  have last : ∀ (f : Nat) (st : Option Nat) (acc : List (Nat × Nat)), (∀ a, st = some a → a < s.size) → ((closeSpans s (acc, st)).map fun x => s.extract x.1 x.2) = (acc.map fun x => s.extract x.1 x.2) ++ wdF s (s.size + 1 - s.size) s.size (st.getD s.size) := fun f st acc hs => by
    rw [show s.size + 1 - s.size = 0 + 1 by omega]
    unfold wdF
    rw [if_pos (Nat.le_refl _)]
    cases st with
    | none => simp [closeSpans]
    | some a => simp [closeSpans, hs a rfl]
  intro f
  induction f with
  | zero =>
    intro pos st acc h1 h2 hs
    obtain rfl : pos = s.size := by omega
    exact last 0 st acc hs
  | succ f ih =>
    intro pos st acc h1 h2 hs
    by_cases hp : pos < s.size
    · by_cases h32 : s.get! pos = 32
      · have e := dec_blank s pos hp h32
        have hw : wdF s (s.size + 1 - pos) pos (st.getD pos) = (if st.getD pos < pos then [s.extract (st.getD pos) pos] else []) ++ wdF s (s.size + 1 - (pos + 1)) (pos + 1) (pos + 1) := by
          rw [show s.size + 1 - pos = (s.size + 1 - (pos + 1)) + 1 by omega]
          conv => lhs; unfold wdF
          rw [if_neg (by omega), if_pos h32]
        rw [hw]
        cases st with
        | none =>
          unfold spansFromP
          rw [if_pos hp, e]
          have := ih (pos + 1) none acc (by omega) (by omega) (fun a h => by cases h)
          simpa [blank] using this
        | some a =>
          have ha := hs a rfl
          unfold spansFromP
          rw [if_pos hp, e]
          have := ih (pos + 1) none (acc ++ [(a, pos)]) (by omega) (by omega) (fun a h => by cases h)
          simpa [blank, ha] using this
      · obtain ⟨d1, d2, d3, d4⟩ := dec_high s pos hp h32
        generalize hr : Utf8.decode s pos = r at d1 d2 d3 d4
        obtain ⟨r1, r2⟩ := r
        have hb : blank r1 = false := by unfold blank; exact beq_eq_false_iff_ne.2 (by simp only at d1; omega)
        simp only at d1 d2 d3 d4
        have hw : ∀ q, wdF s (s.size + 1 - pos) pos q = wdF s (s.size + 1 - (pos + r2)) (pos + r2) q := fun q => by
          rw [show s.size + 1 - pos = (s.size + 1 - (pos + r2)) + r2 by omega]
          exact wd_skip s r2 _ pos q d3 d4
        rw [hw]
        cases st with
        | none =>
          unfold spansFromP
          rw [if_pos hp, hr]
          have := ih (pos + r2) (some pos) acc (by omega) d3 (fun a h => by cases h; omega)
          simpa [hb] using this
        | some a =>
          have ha := hs a rfl
          unfold spansFromP
          rw [if_pos hp, hr]
          have := ih (pos + r2) (some a) acc (by omega) d3 (fun a h => by cases h; omega)
          simpa [hb] using this
    · obtain rfl : pos = s.size := by omega
      rw [spansFromP_end _ _ _ _ _ _ (by omega)]
      exact last 0 st acc hs
theorem fields_words (s : ByteArray) : goFieldsP blank s = words s := by
  have := spans_wd s s.size 0 none [] (by omega) (Nat.zero_le _) (fun a h => by cases h)
  simpa [goFieldsP, spansOfP, words] using this
theorem wd_size (s : ByteArray) : ∀ (n i q : Nat), i ≤ s.size → ∀ t ∈ wdF s n i q, 1 ≤ t.size ∧ t.size ≤ s.size
  | 0, _, _, _, t, ht => by cases ht
  | n + 1, i, q, hi, t, ht => by
    have one : ∀ t ∈ (if q < i then [s.extract q i] else []), 1 ≤ t.size ∧ t.size ≤ s.size := fun t ht => by
      split at ht
      · rw [List.mem_singleton] at ht
        subst ht
        rw [ByteArray.size_extract]
        omega
      · cases ht
    unfold wdF at ht
    split at ht
    · exact one t ht
    · split at ht
      · rw [List.mem_append] at ht
        rcases ht with ht | ht
        · exact one t ht
        · exact wd_size s n _ _ (by omega) t ht
      · exact wd_size s n _ _ (by omega) t ht
theorem words_size {s t : ByteArray} (h : t ∈ words s) : 1 ≤ t.size ∧ t.size ≤ s.size := wd_size s _ 0 0 (Nat.zero_le _) t h
end Go.Proofs.Ytlhokhccjejcoaa.Rl16
