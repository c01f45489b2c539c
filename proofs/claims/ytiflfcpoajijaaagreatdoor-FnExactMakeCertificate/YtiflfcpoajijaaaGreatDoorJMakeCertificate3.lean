/- impl.padBlocks: the bytes, 0x80, noughts and how many bits they have. -/
import Derived.Test.YtiflfcpoajijaaaGreatDoorJMakeCertificate1
import Derived.Laws.CopyOwn
import Derived.Laws.MakeOwn
namespace Go.Proofs.YtiflfcpoajijaaaGreatDoor.Sh
open Go.RowKit Go.Proofs.YtiflfcpoajijaaaGreatDoor.Sl Go.Proofs.YtiflfcpoajijaaaGreatDoor.Me

theorem nth_lt {xs ys : List Int} {j : Nat} (h : j < xs.length) : nth (xs ++ ys) j = nth xs j := by
  unfold nth; rw [List.getD_eq_getElem?_getD, List.getElem?_append_left h, List.getD_eq_getElem?_getD]
theorem nth_ge {xs ys : List Int} {j : Nat} (h : xs.length ≤ j) : nth (xs ++ ys) j = nth ys (j - xs.length) := by
  unfold nth; rw [List.getD_eq_getElem?_getD, List.getElem?_append_right h, List.getD_eq_getElem?_getD]
theorem nth_repl (n j : Nat) : nth (List.replicate n 0) j = 0 := by
  unfold nth; rw [List.getD_eq_getElem?_getD, List.getElem?_replicate]; split <;> rfl
theorem pad_low (xs : List Int) (j : Nat) (h : j < xs.length) : nth (pad xs) j = nth xs j := by
  unfold pad; rw [List.append_assoc, List.append_assoc, nth_lt h]
theorem pad_mid (xs : List Int) : nth (pad xs) xs.length = 128 := by
  unfold pad; rw [List.append_assoc, List.append_assoc, nth_ge (Nat.le_refl _), Nat.sub_self]; rfl
theorem pad_zero (xs : List Int) (j : Nat) (h : xs.length < j) (h2 : j < xs.length + 1 + zerosOf xs.length) : nth (pad xs) j = 0 := by
  unfold pad
  rw [List.append_assoc, nth_ge (by simp; omega), nth_lt (by simp; omega), nth_repl]
theorem pad_tail (xs : List Int) (k : Nat) (h : k < 8) : nth (pad xs) (xs.length + 1 + zerosOf xs.length + k) = lenByte xs.length k := by
  unfold pad
  rw [nth_ge (by simp; omega)]
  have e : xs.length + 1 + zerosOf xs.length + k - (xs ++ [128] ++ List.replicate (zerosOf xs.length) 0).length = k := by simp; omega
  rw [e]
  match k, h with
  | 0, _ => rfl
  | 1, _ => rfl
  | 2, _ => rfl
  | 3, _ => rfl
  | 4, _ => rfl
  | 5, _ => rfl
  | 6, _ => rfl
  | 7, _ => rfl
theorem pad_range {xs : List Int} (hr : ∀ x ∈ xs, 0 ≤ x ∧ x ≤ 255) : ∀ x ∈ pad xs, 0 ≤ x ∧ x ≤ 255 := by
  have hl : ∀ m, 0 ≤ lenByte xs.length m ∧ lenByte xs.length m ≤ 255 := fun m => by unfold lenByte; omega
  intro x hx
  unfold pad lenBytes at hx
  simp only [List.mem_append, List.mem_replicate, List.mem_cons, List.not_mem_nil, or_false] at hx
  rcases hx with ((h | h) | h) | h
  · exact hr x h
  · omega
  · omega
  · rcases h with h | h | h | h | h | h | h | h <;> (rw [h]; exact hl _)

/-- What is laid after k of the eight bytes that tell the length. -/
def Padded (xs : List Int) (M k : Nat) (A : Array Value) : Prop := A.size = M ∧ ∀ j, j < M → (j < M - 8 ∨ M - k ≤ j) → A[j]? = some (.int .u8 (nth (pad xs) j))
theorem padded_step {xs : List Int} {M k : Nat} {A : Array Value} (h : Padded xs M k A) (hM : M = xs.length + 9 + zerosOf xs.length) (hk : k < 8) (z : Int) (hz : z = lenByte xs.length (7 - k)) : Padded xs M (k + 1) (A.setIfInBounds (M - 1 - k) (.int .u8 z)) := by
  refine ⟨by rw [Array.size_setIfInBounds]; exact h.1, fun j hj hc => ?_⟩
  rw [Array.getElem?_setIfInBounds]
  by_cases e : M - 1 - k = j
  · rw [if_pos e, if_pos (by rw [h.1]; omega), hz, ← pad_tail xs (7 - k) (by omega)]
    have e2 : xs.length + 1 + zerosOf xs.length + (7 - k) = j := by omega
    rw [e2]
  · rw [if_neg e]
    exact h.2 j hj (by omega)
theorem copied_at (cur : List Value) (xs : List Int) (M : Nat) (hz : ∀ j, j < M → cur[j]? = some (.int .u8 0)) (j : Nat) (hj : j < M) :
    (splice cur 0 (xs.map (Value.int .u8)))[j]? = some (.int .u8 (if j < xs.length then nth xs j else 0)) := by
  unfold splice
  rw [List.take_zero, List.nil_append]
  by_cases h : j < xs.length
  · rw [if_pos h, List.getElem?_append_left (by simpa using h), List.getElem?_map, List.getElem?_eq_getElem h]
    unfold nth
    rw [List.getD_eq_getElem?_getD, List.getElem?_eq_getElem h]
    rfl
  · rw [if_neg h, List.getElem?_append_right (by simpa using h), List.getElem?_drop, List.length_map, show 0 + xs.length + (j - xs.length) = j by omega]
    exact hz j hj
theorem padded_zero {xs : List Int} {M : Nat} {A : Array Value} (hM : M = xs.length + 9 + zerosOf xs.length) (hs : A.size = M) (h : ∀ j, j < M → A[j]? = some (.int .u8 (if j < xs.length then nth xs j else 0))) : Padded xs M 0 (A.setIfInBounds xs.length (.int .u8 128)) := by
  refine ⟨by rw [Array.size_setIfInBounds]; exact hs, fun j hj hc => ?_⟩
  rw [Array.getElem?_setIfInBounds]
  by_cases e : xs.length = j
  · rw [if_pos e, if_pos (by omega), ← e, pad_mid]
  · rw [if_neg e, h j hj]
    by_cases g : j < xs.length
    · rw [if_pos g, pad_low xs j g]
    · rw [if_neg g, pad_zero xs j (by omega) (by omega)]
theorem addr_add (b off j : Nat) : (⟨b, off, none⟩ : Addr).add j = ⟨b, off + j, none⟩ := by unfold Addr.add; split <;> simp_all
theorem len_eq (n k : Nat) (h : k < 8) : (n : Int) * 8 / 2 ^ (8 * k) % 256 = lenByte n (7 - k) := by
  unfold lenByte
  rw [show 7 - (7 - k) = k by omega, Nat.mul_comm 8 n, Int.natCast_emod, Int.natCast_ediv, Int.natCast_mul, Int.natCast_pow]
  rfl
theorem ret_slice {x : Option Addr} {m n : Nat} (h : m = n) : Ending.returned (.slice x m m) = .returned (.slice x n n) := by rw [h]
theorem infoB : (Tryz.prog.info? 5).map (·.size) = some 1 := by kernel_rfl

set_option maxRecDepth 100000 in
set_option maxHeartbeats 1600000 in
theorem padBlocks_any (v : Value) (xs : List Int) (w : World) (h : RowB w v xs) (hl : xs.length ≤ 65536) :
    Calls Tryz.prog 96 #[v] w fun e w' => ∃ A, e = .returned (.slice (some ⟨w.heap.size, 0, none⟩) (pad xs).length (pad xs).length) ∧ ArrAt w' w.heap.size 5 A ∧ (∀ j, j < (pad xs).length → A[j]? = some (.int .u8 (nth (pad xs) j))) ∧ Below w.heap.size w w' := by
  obtain ⟨a, cap, rfl, h, _⟩ := h
  obtain ⟨i0, hi, hz0, hz1, hz2⟩ := info_parts info5
  have hl' : (xs.length : Int) ≤ 65536 := by omega
  have hpl := pad_length xs
  obtain ⟨M, hM⟩ : ∃ M, M = (pad xs).length := ⟨_, rfl⟩
  have hMb := pad_blocks xs
  have hME : ((xs.length : Int) + 1 + 8 + 64 - 1) / 64 * 64 = (M : Int) := by omega
  have hmk := run_make (P := Tryz.prog) w 22 5 i0 (.int .u8 0) Tryz.underlying22 hi hz0 .i64 .i64 (M : Int) (M : Int) (by omega) (by omega) (by rw [hz2]; omega) (by omega)
  have hA0 : (madeCells (Value.int .u8 0).cells ((M : Int).toNat * i0.size)).toList.length = M ∧ ∀ j, j < M → (madeCells (Value.int .u8 0).cells ((M : Int).toNat * i0.size)).toList[j]? = some (.int .u8 0) := by
    rw [hz1]
    refine ⟨by simp [madeCells, Value.cells], fun j hj => by simp [madeCells, Value.cells, hj, Nat.mod_one]⟩
  have hto : madeCells (Value.int .u8 0).cells ((M : Int).toNat * i0.size) = (madeCells (Value.int .u8 0).cells ((M : Int).toNat * i0.size)).toList.toArray := by simp
  rw [hto] at hmk
  generalize (madeCells (Value.int .u8 0).cells ((M : Int).toNat * i0.size)).toList = cur at hmk hA0
  rw [Int.toNat_natCast] at hmk
  have HM : Hid (M = xs.length + 9 + zerosOf xs.length) := by show M = _; omega
  have HP : Hid (M = (pad xs).length) := hM
  have q0 : (xs.length : Int) + 9 ≤ (M : Int) := by omega
  have q1 : (M : Int) ≤ 65608 := by omega
  have q2 : (xs.length : Int) < (M : Int) := by omega
  have hn : (xs.map (Value.int .u8)).length = Nat.min xs.length M := by rw [List.length_map]; exact (Nat.min_eq_left (by omega)).symm
  have hpos : 0 < (xs.map (Value.int .u8)).length → (some ⟨w.heap.size, 0, none⟩ : Option Addr) = some ⟨w.heap.size, 0, none⟩ ∧ ∃ ad, a = some ad ∧ ∀ j v, (xs.map (Value.int .u8))[j]? = some v → (w.alloc (.cells cur.toArray 5)).cell? (ad.add j) = some v := by
    intro hp
    rcases h with h | ⟨b, off, rfl, hc, hb, hcell⟩
    · rw [h] at hp; exact absurd hp (by simp)
    · refine ⟨rfl, _, rfl, fun j v hv => ?_⟩
      have hj : j < xs.length := by have := (List.getElem?_eq_some_iff.1 hv).1; simpa using this
      rw [addr_add, World.cell?_alloc_past _ _ _ hb, hcell j hj, ← hv, List.getElem?_map, List.getElem?_eq_getElem hj]
      unfold nth
      rw [List.getD_eq_getElem?_getD, List.getElem?_eq_getElem hj]
      rfl
  have hfit : 0 + (xs.map (Value.int .u8)).length ≤ cur.length := by rw [List.length_map]; omega
  have h1 : ∀ v ∈ xs.map (Value.int .u8), v.oneCell' = true := by intro v hv; obtain ⟨z, _, rfl⟩ := List.mem_map.1 hv; rfl
  have hA1 : (splice cur 0 (xs.map (Value.int .u8))).toArray.size = M ∧ ∀ j, j < M → (splice cur 0 (xs.map (Value.int .u8))).toArray[j]? = some (.int .u8 (if j < xs.length then nth xs j else 0)) := by
    refine ⟨?_, fun j hj => ?_⟩
    · have := length_splice cur 0 (xs.map (Value.int .u8)) hfit; simp only [List.size_toArray]; omega
    · simp only [List.getElem?_toArray]; exact copied_at cur xs M hA0.2 j hj
  have hP0 := padded_zero HM.out hA1.1 hA1.2
  have hb0 : Below w.heap.size w (w.alloc (.cells cur.toArray 5)) := (Below.refl _ _).alloc (Nat.le_refl _) _
  have hex : ∃ x, (splice cur 0 (xs.map (Value.int .u8))).toArray[xs.length]? = some x := ⟨_, hA1.2 xs.length (by omega)⟩
  have GN : Hid _ := hn
  have GP : Hid _ := hpos
  have GF : Hid _ := hfit
  have G1 : Hid _ := h1
  have GB : Hid _ := hb0
  obtain ⟨L, hL⟩ : ∃ L, L = (splice cur 0 (xs.map (Value.int .u8))).toArray := ⟨_, rfl⟩
  rw [← hL] at hP0 hex
  have GL : Hid (L = (splice cur 0 (xs.map (Value.int .u8))).toArray) := hL
  have HE : Hid (∃ x, L[xs.length]? = some x) := hex
  have HP0 : Hid (Padded xs M 0 (L.setIfInBounds xs.length (.int .u8 128))) := hP0
  clear hn hpos hfit h1 hb0 hL hex hP0 hA1 hA0 h hpl hMb hM hto
  go_enter Tryz.func96, Tryz.ntmps96
  go_wp2_with (refine wpList_copy_splice (by rfl) _ _ 22 22 (by rfl) 5 Tryz.underlying22 infoB _ _ _ _ _ _ (by rfl) (by rfl) w.heap.size 0 cur 5 (arrAt_new w _ _) _ GN.out (fun hp => ⟨rfl, (GP.out hp).2⟩) GF.out G1.out w.heap.size w GB.out (Nat.le_refl _) ?_; intro w1 hC hb1; have hA : ArrAt w1 w.heap.size 5 L := (by rw [GL.out]; exact hC); obtain ⟨y, hy⟩ := HE.out; have cn : w1.cell? ⟨w.heap.size, xs.length, none⟩ = some y := (hA.cell _).trans hy; have fn := hA.frozen xs.length)
  clear GN GP GF G1 GB hmk hC
  go_loopw [30] (fun i wr => ∃ k : Nat, ∃ A : Array Value, k ≤ 8 ∧ i = .int .i64 k ∧ Below w.heap.size w wr ∧ ArrAt wr w.heap.size 5 A ∧ Padded xs M k A) (fun i _ => 8 - (intOf i).toNat)
  case atStart => exact ⟨0, _, by omega, rfl, hb1.setCell (p := ⟨w.heap.size, xs.length, none⟩) (Nat.le_refl _) _, hA.setCell_same _ _, HP0.out⟩
  case round =>
    clear hA cn fn hy hb1
    obtain ⟨k, A, hk, rfl, hbel, hA, hP⟩ := hrel
    by_cases hlt : k < 8
    · obtain ⟨x, hx⟩ : ∃ x, A[M - 1 - k]? = some x := ⟨_, Array.getElem?_eq_getElem (by rw [hP.1]; omega)⟩
      have cx : wr.cell? ⟨w.heap.size, M - 1 - k, none⟩ = some x := (hA.cell _).trans hx
      have fx := hA.frozen (M - 1 - k)
      have p0 : (0 : Int) ≤ (M : Int) - 1 - (k : Int) := by omega
      have p1 : (M : Int) - 1 - (k : Int) < (M : Int) := by omega
      have p2 : (0 : Int) ≤ 8 * (k : Int) := by omega
      have hP2 := padded_step hP HM.out hlt ((xs.length : Int) * 8 / 2 ^ (8 * k) % 256) (len_eq xs.length k hlt)
      go_wp2_with fail
      exact ⟨⟨k + 1, _, by omega, by go_num, hbel.setCell (p := ⟨w.heap.size, M - 1 - k, none⟩) (Nat.le_refl _) _, hA.setCell_same _ _, hP2⟩, by simp [intOf]; omega⟩
    · obtain rfl : k = 8 := by omega
      have hfin : Hid (∀ j, j < (pad xs).length → A[j]? = some (.int .u8 (nth (pad xs) j))) := fun j hj => hP.2 j (by rw [HP.out]; exact hj) (by omega)
      go_wp2_with fail
      go_ret
      exact ⟨A, ret_slice HP.out, hA, hfin.out, hbel⟩
end Go.Proofs.YtiflfcpoajijaaaGreatDoor.Sh
