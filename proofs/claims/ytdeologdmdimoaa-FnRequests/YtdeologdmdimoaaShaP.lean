/- impl.padBlocks: the bytes, 0x80, noughts and how many bits they have. -/
import Derived.Test.YtdeologdmdimoaaShaX
import Derived.Laws.CopyOwn
import Derived.Laws.MakeOwn
namespace Go.Proofs.Ytdeologdmdimoaa.Sh
open Go.RowKit Go.Proofs.Ytdeologdmdimoaa.Sl Go.Proofs.Ytdeologdmdimoaa.Me

theorem nth_lt {xs ys : List Int} {j : Nat} (h : j < xs.length) : nth (xs ++ ys) j = nth xs j := by
  unfold nth; rw [List.getD_eq_getElem?_getD, List.getElem?_append_left h, List.getD_eq_getElem?_getD]
theorem nth_ge {xs ys : List Int} {j : Nat} (h : xs.length ≤ j) : nth (xs ++ ys) j = nth ys (j - xs.length) := by
  unfold nth; rw [List.getD_eq_getElem?_getD, List.getElem?_append_right h, List.getD_eq_getElem?_getD]
theorem nth_repl (n j : Nat) : nth (List.replicate n 0) j = 0 := by
  unfold nth; rw [List.getD_eq_getElem?_getD, List.getElem?_replicate]; split <;> rfl
theorem pad_low (xs : List Int) (j : Nat) (h : j < xs.length) : nth (pad xs) j = nth xs j := by
  unfold pad; rw [List.append_assoc, List.append_assoc, nth_lt h]
theorem pad_mid (xs : List Int) : nth (pad xs) xs.length = 128 := by
  unfold pad; rw [List.append_assoc, List.append_assoc, nth_ge (Nat.le_refl _), Nat.sub_self]; rfl
theorem pad_zero (xs : List Int) (j : Nat) (h : xs.length < j) (h2 : j < xs.length + 1 + zerosOf xs.length) : nth (pad xs) j = 0 := by
  unfold pad
  rw [List.append_assoc, nth_ge (by simp; omega), nth_lt (by simp; omega), nth_repl]
theorem pad_tail (xs : List Int) (k : Nat) (h : k < 8) : nth (pad xs) (xs.length + 1 + zerosOf xs.length + k) = lenByte xs.length k := by
  unfold pad
  rw [nth_ge (by simp; omega)]
  have e : xs.length + 1 + zerosOf xs.length + k - (xs ++ [128] ++ List.replicate (zerosOf xs.length) 0).length = k := by simp; omega
  rw [e]
  match k, h with
  | 0, _ => rfl
  | 1, _ => rfl
  | 2, _ => rfl
  | 3, _ => rfl
  | 4, _ => rfl
  | 5, _ => rfl
  | 6, _ => rfl
  | 7, _ => rfl
theorem pad_range {xs : List Int} (hr : ∀ x ∈ xs, 0 ≤ x ∧ x ≤ 255) : ∀ x ∈ pad xs, 0 ≤ x ∧ x ≤ 255 := by
  have hl : ∀ m, 0 ≤ lenByte xs.length m ∧ lenByte xs.length m ≤ 255 := fun m => by unfold lenByte; omega
  intro x hx
  unfold pad lenBytes at hx
  simp only [List.mem_append, List.mem_replicate, List.mem_cons, List.not_mem_nil, or_false] at hx
  rcases hx with ((h | h) | h) | h
  · exact hr x h
  · omega
  · omega
  · rcases h with h | h | h | h | h | h | h | h <;> (rw [h]; exact hl _)

/-- What is laid after k of the eight bytes that tell the length. -/
def Padded (xs : List Int) (M k : Nat) (A : Array Value) : Prop := A.size = M ∧ ∀ j, j < M → (j < M - 8 ∨ M - k ≤ j) → A[j]? = some (.int .u8 (nth (pad xs) j))
theorem padded_step {xs : List Int} {M k : Nat} {A : Array Value} (h : Padded xs M k A) (hM : M = xs.length + 9 + zerosOf xs.length) (hk : k < 8) (z : Int) (hz : z = lenByte xs.length (7 - k)) : Padded xs M (k + 1) (A.setIfInBounds (M - 1 - k) (.int .u8 z)) := by
  refine ⟨by rw [Array.size_setIfInBounds]; exact h.1, fun j hj hc => ?_⟩
  rw [Array.getElem?_setIfInBounds]
  by_cases e : M - 1 - k = j
  · rw [if_pos e, if_pos (by rw [h.1]; omega), hz, ← pad_tail xs (7 - k) (by omega)]
    have e2 : xs.length + 1 + zerosOf xs.length + (7 - k) = j := by omega
    rw [e2]
  · rw [if_neg e]
    exact h.2 j hj (by omega)
theorem copied_at (cur : List Value) (xs : List Int) (M : Nat) (hz : ∀ j, j < M → cur[j]? = some (.int .u8 0)) (j : Nat) (hj : j < M) :
    (splice cur 0 (xs.map (Value.int .u8)))[j]? = some (.int .u8 (if j < xs.length then nth xs j else 0)) := by
  unfold splice
  rw [List.take_zero, List.nil_append]
  by_cases h : j < xs.length
  · rw [if_pos h, List.getElem?_append_left (by simpa using h), List.getElem?_map, List.getElem?_eq_getElem h]
    unfold nth
    rw [List.getD_eq_getElem?_getD, List.getElem?_eq_getElem h]
    rfl
  · rw [if_neg h, List.getElem?_append_right (by simpa using h), List.getElem?_drop, List.length_map, show 0 + xs.length + (j - xs.length) = j by omega]
    exact hz j hj
theorem padded_zero {xs : List Int} {M : Nat} {A : Array Value} (hM : M = xs.length + 9 + zerosOf xs.length) (hs : A.size = M) (h : ∀ j, j < M → A[j]? = some (.int .u8 (if j < xs.length then nth xs j else 0))) : Padded xs M 0 (A.setIfInBounds xs.length (.int .u8 128)) := by
  refine ⟨by rw [Array.size_setIfInBounds]; exact hs, fun j hj hc => ?_⟩
  rw [Array.getElem?_setIfInBounds]
  by_cases e : xs.length = j
  · rw [if_pos e, if_pos (by omega), ← e, pad_mid]
  · rw [if_neg e, h j hj]
    by_cases g : j < xs.length
    · rw [if_pos g, pad_low xs j g]
    · rw [if_neg g, pad_zero xs j (by omega) (by omega)]
theorem addr_add (b off j : Nat) : (⟨b, off, none⟩ : Addr).add j = ⟨b, off + j, none⟩ := by unfold Addr.add; split <;> simp_all
theorem len_eq (n k : Nat) (h : k < 8) : (n : Int) * 8 / 2 ^ (8 * k) % 256 = lenByte n (7 - k) := by
  unfold lenByte
  rw [show 7 - (7 - k) = k by omega, Nat.mul_comm 8 n, Int.natCast_emod, Int.natCast_ediv, Int.natCast_mul, Int.natCast_pow]
  rfl
theorem ret_slice {x : Option Addr} {m n : Nat} (h : m = n) : Ending.returned (.slice x m m) = .returned (.slice x n n) := by rw [h]
theorem infoB : (Try.prog.info? 5).map (·.size) = some 1 := by kernel_rfl

end Go.Proofs.Ytdeologdmdimoaa.Sh
