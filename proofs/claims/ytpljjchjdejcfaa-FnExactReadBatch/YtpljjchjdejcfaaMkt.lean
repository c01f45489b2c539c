/- The laws' marks on texts. -/
import Derived.Test.YtpljjchjdejcfaaTxs
import Derived.Test.YtpljjchjdejcfaaMark
namespace Go.Proofs.Ytpljjchjdejcfaa.Mk
open Go.RowKit Go.Proofs.Ytpljjchjdejcfaa.Sl Go.Proofs.Ytpljjchjdejcfaa.By Go.Proofs.Ytpljjchjdejcfaa.Ap Go.Proofs.Ytpljjchjdejcfaa.Rq Go.Proofs.Ytpljjchjdejcfaa.Tx Go.Proofs.Ytpljjchjdejcfaa.Rr

/-- The digits of a number, ahead of a text. -/
def mtGo : Nat → Nat → ByteArray → ByteArray
  | 0, _, s => s
  | f + 1, k, s => if k = 0 then s else mtGo f (k / 10) (strOfNums [48 + ((k % 10 : Nat) : Int)] ++ s)
def mtext (k : Nat) : ByteArray := (⟨#[109]⟩ : ByteArray) ++ mtGo (k + 1) k ⟨#[]⟩
theorem ret_str {a b : ByteArray} (h : a = b) : Ending.returned (.string a) = .returned (.string b) := by rw [h]

set_option maxRecDepth 100000 in
set_option maxHeartbeats 400000 in
theorem markText_any (k : Nat) (w : World) (h0 : 0 < k) (h1 : k ≤ 10000000) :
    Calls Try.prog 107 #[.int .i64 k] w fun e w' => e = .returned (.string (mtext k)) ∧ Below w.heap.size w w' := by
  have h0' : ¬ (k : Int) ≤ 0 := by omega
  have h1' : (k : Int) ≤ 10000000 := by omega
  have HT : Hid (mtext k = (⟨#[109]⟩ : ByteArray) ++ mtGo (k + 1) k ⟨#[]⟩) := rfl
  go_enter Try.func107, Try.ntmps107
  go_wp2_with fail
  go_loopw [0, 3] (fun n s wr => ∃ (q f : Nat) (t : ByteArray), n = .int .i64 q ∧ s = .string t ∧ q ≤ 10000000 ∧ t.size + q ≤ 10000000 ∧ Hid (q < f ∧ mtGo f q t = mtGo (k + 1) k ⟨#[]⟩) ∧ Below w.heap.size w wr) (fun n _ _ => (intOf n).toNat)
  case atStart => exact ⟨k, k + 1, ⟨#[]⟩, rfl, rfl, by omega, by simp [ByteArray.size]; omega, ⟨by omega, rfl⟩, Below.refl _ _⟩
  case round =>
    obtain ⟨q, f, t, rfl, rfl, hq, hts, HF, hbel⟩ := hrel
    by_cases hz : 0 < q
    · have hz' : (0 : Int) < (q : Int) := by omega
      have hcv := run_convert_row (P := Try.prog) (wr.alloc (.cells #[.int .u8 (48 + (q : Int) % 10)] 5)) (wr.heap.size + 1) 27 5 9 Try.underlying27 Try.underlying5 Try.underlying9 (.slice (some ⟨wr.heap.size, 0, none⟩) 1 1) [48 + (q : Int) % 10] (by have := RowU.of (own_rowB (own_one 5 wr wr.heap.size (48 + (q : Int) % 10) (Nat.le_refl _)) (one_range (by omega))); rw [size_new] at this; exact this)
      have hs1 : (strOfNums [48 + (q : Int) % 10]).size = 1 := by rw [strOfNums_size]; rfl
      have hsz : ¬ 9223372036854775807 < (strOfNums [48 + (q : Int) % 10]).size + t.size := by rw [hs1]; omega
      have HS1 : Hid ((strOfNums [48 + (q : Int) % 10]).size = 1) := hs1
      have HE : Hid (∃ f', q / 10 < f' ∧ mtGo f' (q / 10) (strOfNums [48 + (q : Int) % 10] ++ t) = mtGo (k + 1) k ⟨#[]⟩) := by
        obtain ⟨e1, e2⟩ := HF.out
        cases f with
        | zero => omega
        | succ f =>
          refine ⟨f, by omega, ?_⟩
          rw [← e2]
          show _ = if q = 0 then t else mtGo f (q / 10) (strOfNums [48 + ((q % 10 : Nat) : Int)] ++ t)
          rw [if_neg (by omega)]
          rfl
      clear hs1 HF
      go_wp2_with fail
      obtain ⟨f', e1, e2⟩ := HE.out
      exact ⟨⟨q / 10, f', strOfNums [48 + (q : Int) % 10] ++ t, by simp, rfl, by omega, by rw [ByteArray.size_append, HS1.out]; omega, ⟨e1, e2⟩, hbel.alloc hbel.size _⟩, by simp [intOf]; omega⟩
    · have hz0 : q = 0 := by omega
      have HE : Hid (mtGo (k + 1) k ⟨#[]⟩ = t) := by
        show _ = _
        obtain ⟨e1, e2⟩ := HF.out
        rw [← e2, hz0]
        cases f with
        | zero => rfl
        | succ f => rfl
      have hz' : ¬ (0 : Int) < (q : Int) := by omega
      have hz2 : ¬ 0 < q := hz
      have hsz2 : ¬ 9223372036854775807 < 1 + t.size := by omega
      have hsz3 : ¬ 9223372036854775807 < (⟨#[109]⟩ : ByteArray).size + t.size := hsz2
      clear hz0
      go_wp2
      go_ret
      exact ⟨ret_str (by rw [HT.out, HE.out]), hbel⟩

/-- Marked texts, from a on. -/
def tmarks (a n : Nat) : List ByteArray := (List.range n).map fun j => mtext (a + j)
theorem tmarks_length (a n : Nat) : (tmarks a n).length = n := by simp [tmarks]
theorem tmarks_at (a n j : Nat) (h : j < n) : tnth (tmarks a n) j = mtext (a + j) := by
  unfold tnth tmarks
  rw [List.getD_eq_getElem?_getD, List.getElem?_map, List.getElem?_range h]
  rfl
theorem kp_set {w : World} {g n : Nat} (j : Nat) (x : Value) : Kp w (w.setCell ⟨g, j, none⟩ x) (.slice (some ⟨g, 0, none⟩) n n) (.slice (some ⟨g, 0, none⟩) n n) :=
  Kp.of_grown (grown_set j x) (.inl rfl)

end Go.Proofs.Ytpljjchjdejcfaa.Mk
