/- Hashes as digits and bits: what is written is read back. Of no program's walk. -/
import Derived.Test.YtjggfholjdplbabDoorHex
import Derived.Test.YtjggfholjdplbabDoorRead
import Derived.Test.YtjggfholjdplbabDoorBits
import Derived.Test.YtjggfholjdplbabDoorShaH
namespace Go.Proofs.YtjggfholjdplbabDoor.Fh
open Go.RowKit

theorem list_len (s : ByteArray) : s.data.toList.length = s.size := by simp
theorem list_at (s : ByteArray) (i : Nat) (h : i < s.size) : s.data.toList[i]? = some (s[i]'h) := by rw [List.getElem?_eq_getElem (by rw [list_len]; exact h)]; rfl
theorem flat2_at (f : UInt8 → List Int) (hf : ∀ b, (f b).length = 2) : ∀ (l : List UInt8) (i : Nat), (l.flatMap f)[i]? = (l[i / 2]?).bind fun b => (f b)[i % 2]?
  | [], i => by simp
  | b :: l, i => by
    rw [List.flatMap_cons]
    by_cases h : i < 2
    · rw [List.getElem?_append_left (by rw [hf]; exact h), Nat.div_eq_of_lt h, Nat.mod_eq_of_lt h]
      simp
    · rw [List.getElem?_append_right (by rw [hf]; omega), hf, flat2_at f hf l (i - 2), show i / 2 = (i - 2) / 2 + 1 by omega, show (i - 2) % 2 = i % 2 by omega]
      simp
theorem nib_dig : ∀ n, n < 16 → Rd.nibI (((UInt8.ofNat (Hx.digI n).toNat).toNat : Nat) : Int) = (n : Int) := by decide
def text (s : ByteArray) : ByteArray := strOfNums (Hx.hexTo s 32)
theorem text_size (s : ByteArray) (hs : s.size = 32) : (text s).size = 64 := by unfold text; rw [strOfNums_size, Hx.hexTo_length s 32 (by omega)]
theorem hex_at (s : ByteArray) (hs : s.size = 32) (q r : Nat) (hq : q < s.size) (hr : r < 2) : (Hx.hexTo s 32)[2 * q + r]? = (Hx.hex2 (s[q]'hq).toNat)[r]? := by
  unfold Hx.hexTo
  rw [List.take_of_length_le (by rw [list_len]; omega), flat2_at _ (fun _ => rfl), show (2 * q + r) / 2 = q by omega, show (2 * q + r) % 2 = r by omega, list_at s q hq]
  rfl
theorem nb_text (s : ByteArray) (hs : s.size = 32) (q : Nat) (hq : q < s.size) : Rd.nb (text s) (2 * q) = ((s[q]'hq).toNat / 16 : Nat) ∧ Rd.nb (text s) (2 * q + 1) = ((s[q]'hq).toNat % 16 : Nat) := by
  have hb := (s[q]'hq).toNat_lt
  have h0 := hex_at s hs q 0 hq (by decide)
  have h1 := hex_at s hs q 1 hq (by decide)
  unfold Rd.nb Rd.byteAt text
  rw [strOfNums_data, List.getD_eq_getElem?_getD, List.getElem?_map, List.getD_eq_getElem?_getD, List.getElem?_map, h1, ← Nat.add_zero (2 * q), h0]
  exact ⟨nib_dig _ (by omega), nib_dig _ (by omega)⟩
theorem answer_text (s : ByteArray) (hs : s.size = 32) : Rd.answer (text s) = .tuple #[.string s, .int .i64 0] := by
  have hall : ∀ i, i < 64 → 0 ≤ Rd.nb (text s) i := by
    intro i hi
    have h := nb_text s hs (i / 2) (by omega)
    rcases Nat.mod_two_eq_zero_or_one i with e | e
    · rw [show 2 * (i / 2) = i by omega] at h; rw [h.1]; omega
    · rw [show 2 * (i / 2) + 1 = i by omega] at h; rw [h.2]; omega
  rw [Rd.answer_yes _ hall]
  have e : Rd.readTo (text s) 32 = s.data.toList.map fun b => ((b.toNat : Nat) : Int) := by
    apply List.ext_getElem?
    intro q
    unfold Rd.readTo
    by_cases hq : q < 32
    · have h := nb_text s hs q (by omega)
      rw [List.getElem?_map, List.getElem?_range hq, List.getElem?_map, list_at s q (by omega)]
      simp only [Option.map_some, h.1, h.2]
      congr 1
      omega
    · rw [List.getElem?_eq_none (by simp; omega), List.getElem?_eq_none (by rw [List.length_map, list_len]; omega)]
  have e2 : strOfNums (Rd.readTo (text s) 32) = s := by
    rw [e]
    unfold strOfNums
    rw [List.map_map]
    have : ((fun n : Int => UInt8.ofNat n.toNat) ∘ fun b : UInt8 => ((b.toNat : Nat) : Int)) = id := by
      funext b
      simp
    rw [this, List.map_id]
  rw [e2]

def signs (s : ByteArray) : ByteArray := strOfNums (Bt.bitsTo s 32)
theorem signs_size (s : ByteArray) (hs : s.size = 32) : (signs s).size = 256 := by unfold signs; rw [strOfNums_size, Bt.bitsTo_length s 32 (by omega)]
theorem bitI_eq (n k : Nat) (hn : n < 256) : Bt.bitI n k = 48 + ((n / 2 ^ k % 2 : Nat) : Int) := by
  have hq : n / 2 ^ k < 256 := Nat.lt_of_le_of_lt (Nat.div_le_self _ _) hn
  have e : (n : Int) / 2 ^ k = ((n / 2 ^ k : Nat) : Int) := by rw [Int.natCast_ediv, Int.natCast_pow]; rfl
  unfold Bt.bitI
  rw [e]
  generalize n / 2 ^ k = m at hq
  revert m
  decide +kernel
theorem signs_at (s : ByteArray) (hs : s.size = 32) (i k : Nat) (hi : i < s.size) (hk : k < 8) (h : 8 * i + k < (signs s).size) :
    ((((signs s)[8 * i + k]'h).toNat : Nat) : Int) = 48 + (((s[i]'hi).toNat / 2 ^ (7 - k) % 2 : Nat) : Int) := by
  have h1 := list_at (signs s) (8 * i + k) h
  have hb := (s[i]'hi).toNat_lt
  have h2 : (signs s).data.toList[8 * i + k]? = some (UInt8.ofNat (Bt.bitI (s[i]'hi).toNat (7 - k)).toNat) := by
    unfold signs
    rw [strOfNums_data, List.getElem?_map]
    have := Bt.flat_at (fun b => Bt.bits8 b.toNat) (fun _ => rfl) s.data.toList (8 * i + k)
    unfold Bt.bitsTo
    rw [List.take_of_length_le (by rw [list_len]; omega), this, show (8 * i + k) / 8 = i by omega, show (8 * i + k) % 8 = k by omega, list_at s i hi]
    simp [Bt.bits8_at _ k hk]
  rw [h1] at h2
  rw [Option.some.inj h2, bitI_eq _ _ hb]
  have : (s[i]'hi).toNat / 2 ^ (7 - k) % 2 < 2 := Nat.mod_lt _ (by decide)
  generalize (s[i]'hi).toNat / 2 ^ (7 - k) % 2 = m at this
  rw [show (48 + (m : Int)).toNat = 48 + m by omega, UInt8.toNat_ofNat_of_lt' (by unfold UInt8.size; omega)]
  omega
/-- What the first k bits of a byte tell. -/
def bv (b k : Nat) : Int := ((b / 2 ^ (8 - k) : Nat) : Int)
theorem bv_zero (b : Nat) (h : b < 256) : bv b 0 = 0 := by unfold bv; rw [Nat.div_eq_of_lt (by simpa using h)]; rfl
theorem bv_all (b : Nat) : bv b 8 = (b : Int) := by unfold bv; simp
theorem bv_range (b k : Nat) (h : b < 256) : 0 ≤ bv b k ∧ bv b k ≤ 255 := by
  unfold bv
  have : b / 2 ^ (8 - k) ≤ b := Nat.div_le_self _ _
  generalize b / 2 ^ (8 - k) = m at this
  omega
theorem bv_succ (b k : Nat) (hk : k < 8) (c : Int) (hc : c = 48 + ((b / 2 ^ (7 - k) % 2 : Nat) : Int)) : bv b k * 2 + (c - 48) % 256 = bv b (k + 1) := by
  unfold bv
  rw [hc, show 8 - k = (7 - k) + 1 by omega, show 8 - (k + 1) = 7 - k by omega, Nat.pow_succ, ← Nat.div_div_eq_div_mul]
  generalize b / 2 ^ (7 - k) = m
  omega
theorem hash_size (xs : List Int) (h : xs.length ≤ 65536) : (Sh.hashS xs).size = 32 := by
  unfold Sh.hashS
  rw [if_neg (by omega), strOfNums_size]
  exact Sh.outTo_length _ 8
end Go.Proofs.YtjggfholjdplbabDoor.Fh
