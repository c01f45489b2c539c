/- Texts put together: Shelf, ShaP, ShaH. -/
import Derived.Shelf.Strings.OnBuilder
import Derived.Test.YtakfniknkejgpaaDoorProg
import Derived.Test.YtakfniknkejgpaaDoorMp2
import Derived.Laws.CopyOwn
import Derived.Laws.MakeOwn
import Derived.Laws.BytesArg
import Derived.Lib.SlBytesRow
/- strings.Join at this program: the library's contract, laid. -/
namespace Go.Proofs.YtakfniknkejgpaaDoor.Sf
open Go.Shelf Go.RowKit
def lays156_ren : Go.Shelf.Ren := ⟨fun | 156 => 39 | 165 => 68 | 166 => 69 | 169 => 70 | 240 => 95 | 241 => 96 | 276 => 109 | 277 => 110 | n => n, fun | 31 => 36 | 9 => 9 | 3 => 3 | 4 => 4 | 0 => 0 | 20 => 20 | 72 => 114 | 76 => 118 | 70 => 112 | 37 => 22 | 75 => 117 | 127 => 142 | 164 => 152 | 5 => 5 | 80 => 120 | n => n, fun | n => n⟩
theorem lays156 : Go.Proofs.Lays.n156 Tryd.prog lays156_ren := {
 mixed := by kernel_rfl
 f156 := Tryd.func39.trans (congrArg some (by kernel_rfl))
 f165 := Tryd.func68.trans (congrArg some (by kernel_rfl))
 f166 := Tryd.func69.trans (congrArg some (by kernel_rfl))
 f169 := Tryd.func70.trans (congrArg some (by kernel_rfl))
 f240 := Tryd.func95.trans (congrArg some (by kernel_rfl))
 f241 := Tryd.func96.trans (congrArg some (by kernel_rfl))
 f276 := Tryd.func109.trans (congrArg some (by kernel_rfl))
 f277 := Tryd.func110.trans (congrArg some (by kernel_rfl))
 t0 := Tryd.underlying0
 a0 := Tryd.isAgg0
 z0 := Tryd.sizeOf0
 v0 := Tryd.zeroValue0
 t3 := Tryd.underlying3
 a3 := Tryd.isAgg3
 z3 := Tryd.sizeOf3
 v3 := Tryd.zeroValue3
 t4 := Tryd.underlying4
 a4 := Tryd.isAgg4
 z4 := Tryd.sizeOf4
 v4 := Tryd.zeroValue4
 t9 := Tryd.underlying9
 a9 := Tryd.isAgg9
 z9 := Tryd.sizeOf9
 v9 := Tryd.zeroValue9
 t20 := Tryd.underlying20
 a20 := Tryd.isAgg20
 z20 := Tryd.sizeOf20
 v20 := Tryd.zeroValue20
 t31 := Tryd.underlying36
 a31 := Tryd.isAgg36
 z31 := Tryd.sizeOf36
 v31 := Tryd.zeroValue36
 t37 := Tryd.underlying22
 a37 := Tryd.isAgg22
 z37 := Tryd.sizeOf22
 v37 := Tryd.zeroValue22
 t70 := Tryd.underlying112
 a70 := Tryd.isAgg112
 z70 := Tryd.sizeOf112
 v70 := Tryd.zeroValue112
 t72 := Tryd.underlying114
 a72 := Tryd.isAgg114
 z72 := Tryd.sizeOf114
 v72 := Tryd.zeroValue114
 t75 := Tryd.underlying117
 a75 := Tryd.isAgg117
 z75 := Tryd.sizeOf117
 v75 := Tryd.zeroValue117
 t76 := Tryd.underlying118
 a76 := Tryd.isAgg118
 z76 := Tryd.sizeOf118
 v76 := Tryd.zeroValue118
 t127 := Tryd.underlying142
 a127 := Tryd.isAgg142
 z127 := Tryd.sizeOf142
 v127 := Tryd.zeroValue142
 t164 := Tryd.underlying152
 a164 := Tryd.isAgg152
 z164 := Tryd.sizeOf152
 v164 := Tryd.zeroValue152 }
theorem extra156 : Builder.Extra Tryd.prog lays156_ren := {
 sizeBuilder := by kernel_rfl
 liesBuilder := by kernel_rfl
 t5 := Tryd.underlying5
 a5 := Tryd.isAgg5
 z5 := Tryd.sizeOf5
 v5 := Tryd.zeroValue5
 infoByte := by kernel_rfl
 cellsByte := by kernel_rfl
 sizeByte := by kernel_rfl
 neB5 := by decide }
theorem join_laid (bk o c : Nat) (xs : List ByteArray) (sep : ByteArray) (w : World) (hcells : ∀ (j : Nat) x, xs[j]? = some x → w.cell? ⟨bk, o + j, none⟩ = some (.string x)) (hbk : bk < w.heap.size) (hN : xs.length ≤ 140737488355328) (hcap : xs.length ≤ c) (hlen : (Lib.join (xs.map (·.data.toList)) sep.data.toList).length ≤ 140737488355328) :
 Calls Tryd.prog 39 #[.slice (some ⟨bk, o, none⟩) xs.length c, .string sep] w fun e w' => e = .returned (.string ⟨(Lib.join (xs.map (·.data.toList)) sep.data.toList).toArray⟩) ∧ Below w.heap.size w w' := Any.strings_Join lays156 extra156 bk o c xs sep w hcells hbk hN hcap hlen
end Go.Proofs.YtakfniknkejgpaaDoor.Sf

/- impl.padBlocks: the bytes, 0x80, noughts and how many bits they have. -/
namespace Go.Proofs.YtakfniknkejgpaaDoor.Sh
open Go.RowKit Go.Proofs.YtakfniknkejgpaaDoor.Sl Go.Proofs.YtakfniknkejgpaaDoor.Me

theorem nth_lt {xs ys : List Int} {j : Nat} (h : j < xs.length) : nth (xs ++ ys) j = nth xs j := by
 unfold nth; rw [List.getD_eq_getElem?_getD, List.getElem?_append_left h, List.getD_eq_getElem?_getD]
theorem nth_ge {xs ys : List Int} {j : Nat} (h : xs.length ≤ j) : nth (xs ++ ys) j = nth ys (j - xs.length) := by
 unfold nth; rw [List.getD_eq_getElem?_getD, List.getElem?_append_right h, List.getD_eq_getElem?_getD]
theorem nth_repl (n j : Nat) : nth (List.replicate n 0) j = 0 := by
 unfold nth; rw [List.getD_eq_getElem?_getD, List.getElem?_replicate]; split <;> rfl
theorem pad_low (xs : List Int) (j : Nat) (h : j < xs.length) : nth (pad xs) j = nth xs j := by
 unfold pad; rw [List.append_assoc, List.append_assoc, nth_lt h]
theorem pad_mid (xs : List Int) : nth (pad xs) xs.length = 128 := by
 unfold pad; rw [List.append_assoc, List.append_assoc, nth_ge (Nat.le_refl _), Nat.sub_self]; rfl
theorem pad_zero (xs : List Int) (j : Nat) (h : xs.length < j) (h2 : j < xs.length + 1 + zerosOf xs.length) : nth (pad xs) j = 0 := by
 unfold pad
 rw [List.append_assoc, nth_ge (by simp; omega), nth_lt (by simp; omega), nth_repl]
theorem pad_tail (xs : List Int) (k : Nat) (h : k < 8) : nth (pad xs) (xs.length + 1 + zerosOf xs.length + k) = lenByte xs.length k := by
 unfold pad
 rw [nth_ge (by simp; omega)]
 have e : xs.length + 1 + zerosOf xs.length + k - (xs ++ [128] ++ List.replicate (zerosOf xs.length) 0).length = k := by simp; omega
 rw [e]
 match k, h with
 | 0, _ => rfl
 | 1, _ => rfl
 | 2, _ => rfl
 | 3, _ => rfl
 | 4, _ => rfl
 | 5, _ => rfl
 | 6, _ => rfl
 | 7, _ => rfl
theorem pad_range {xs : List Int} (hr : ∀ x ∈ xs, 0 ≤ x ∧ x ≤ 255) : ∀ x ∈ pad xs, 0 ≤ x ∧ x ≤ 255 := by
 have hl : ∀ m, 0 ≤ lenByte xs.length m ∧ lenByte xs.length m ≤ 255 := fun m => by unfold lenByte; omega
 intro x hx
 unfold pad lenBytes at hx
 simp only [List.mem_append, List.mem_replicate, List.mem_cons, List.not_mem_nil, or_false] at hx
 rcases hx with ((h | h) | h) | h
 ·exact hr x h
 ·omega
 ·omega
 ·rcases h with h | h | h | h | h | h | h | h <;> (rw [h]; exact hl _)

def Padded (xs : List Int) (M k : Nat) (A : Array Value) : Prop := A.size = M ∧ ∀ j, j < M → (j < M - 8 ∨ M - k ≤ j) → A[j]? = some (.int .u8 (nth (pad xs) j))
theorem padded_step {xs : List Int} {M k : Nat} {A : Array Value} (h : Padded xs M k A) (hM : M = xs.length + 9 + zerosOf xs.length) (hk : k < 8) (z : Int) (hz : z = lenByte xs.length (7 - k)) : Padded xs M (k + 1) (A.setIfInBounds (M - 1 - k) (.int .u8 z)) := by
 refine ⟨by rw [Array.size_setIfInBounds]; exact h.1, fun j hj hc => ?_⟩
 rw [Array.getElem?_setIfInBounds]
 by_cases e : M - 1 - k = j
 ·rw [if_pos e, if_pos (by rw [h.1]; omega), hz, ← pad_tail xs (7 - k) (by omega)]
  have e2 : xs.length + 1 + zerosOf xs.length + (7 - k) = j := by omega
  rw [e2]
 ·rw [if_neg e]
  exact h.2 j hj (by omega)
theorem copied_at (cur : List Value) (xs : List Int) (M : Nat) (hz : ∀ j, j < M → cur[j]? = some (.int .u8 0)) (j : Nat) (hj : j < M) :
 (splice cur 0 (xs.map (Value.int .u8)))[j]? = some (.int .u8 (if j < xs.length then nth xs j else 0)) := by
 unfold splice
 rw [List.take_zero, List.nil_append]
 by_cases h : j < xs.length
 ·rw [if_pos h, List.getElem?_append_left (by simpa using h), List.getElem?_map, List.getElem?_eq_getElem h]
  unfold nth
  rw [List.getD_eq_getElem?_getD, List.getElem?_eq_getElem h]
  rfl
 ·rw [if_neg h, List.getElem?_append_right (by simpa using h), List.getElem?_drop, List.length_map, show 0 + xs.length + (j - xs.length) = j by omega]
  exact hz j hj
theorem padded_zero {xs : List Int} {M : Nat} {A : Array Value} (hM : M = xs.length + 9 + zerosOf xs.length) (hs : A.size = M) (h : ∀ j, j < M → A[j]? = some (.int .u8 (if j < xs.length then nth xs j else 0))) : Padded xs M 0 (A.setIfInBounds xs.length (.int .u8 128)) := by
 refine ⟨by rw [Array.size_setIfInBounds]; exact hs, fun j hj hc => ?_⟩
 rw [Array.getElem?_setIfInBounds]
 by_cases e : xs.length = j
 ·rw [if_pos e, if_pos (by omega), ← e, pad_mid]
 ·rw [if_neg e, h j hj]
  by_cases g : j < xs.length
  ·rw [if_pos g, pad_low xs j g]
  ·rw [if_neg g, pad_zero xs j (by omega) (by omega)]
theorem addr_add (b off j : Nat) : (⟨b, off, none⟩ : Addr).add j = ⟨b, off + j, none⟩ := by unfold Addr.add; split <;> simp_all
theorem len_eq (n k : Nat) (h : k < 8) : (n : Int) * 8 / 2 ^ (8 * k) % 256 = lenByte n (7 - k) := by
 unfold lenByte
 rw [show 7 - (7 - k) = k by omega, Nat.mul_comm 8 n, Int.natCast_emod, Int.natCast_ediv, Int.natCast_mul, Int.natCast_pow]
 rfl
theorem ret_slice {x : Option Addr} {m n : Nat} (h : m = n) : Ending.returned (.slice x m m) = .returned (.slice x n n) := by rw [h]
theorem infoB : (Tryd.prog.info? 5).map (·.size) = some 1 := by kernel_rfl

set_option maxRecDepth 100000 in
set_option maxHeartbeats 1600000 in
theorem padBlocks_any (v : Value) (xs : List Int) (w : World) (h : RowB w v xs) (hl : xs.length ≤ 65536) :
 Calls Tryd.prog 89 #[v] w fun e w' => ∃ A, e = .returned (.slice (some ⟨w.heap.size, 0, none⟩) (pad xs).length (pad xs).length) ∧ ArrAt w' w.heap.size 5 A ∧ (∀ j, j < (pad xs).length → A[j]? = some (.int .u8 (nth (pad xs) j))) ∧ Below w.heap.size w w' := by
 obtain ⟨a, cap, rfl, h, _⟩ := h
 obtain ⟨i0, hi, hz0, hz1, hz2⟩ := info_parts info5
 have hl' : (xs.length : Int) ≤ 65536 := by omega
 have hpl := pad_length xs
 obtain ⟨M, hM⟩ : ∃ M, M = (pad xs).length := ⟨_, rfl⟩
 have hMb := pad_blocks xs
 have hME : ((xs.length : Int) + 1 + 8 + 64 - 1) / 64 * 64 = (M : Int) := by omega
 have hmk := run_make (P := Tryd.prog) w 22 5 i0 (.int .u8 0) Tryd.underlying22 hi hz0 .i64 .i64 (M : Int) (M : Int) (by omega) (by omega) (by rw [hz2]; omega) (by omega)
 have hA0 : (madeCells (Value.int .u8 0).cells ((M : Int).toNat * i0.size)).toList.length = M ∧ ∀ j, j < M → (madeCells (Value.int .u8 0).cells ((M : Int).toNat * i0.size)).toList[j]? = some (.int .u8 0) := by
  rw [hz1]
  refine ⟨by simp [madeCells, Value.cells], fun j hj => by simp [madeCells, Value.cells, hj, Nat.mod_one]⟩
 have hto : madeCells (Value.int .u8 0).cells ((M : Int).toNat * i0.size) = (madeCells (Value.int .u8 0).cells ((M : Int).toNat * i0.size)).toList.toArray := by simp
 rw [hto] at hmk
 generalize (madeCells (Value.int .u8 0).cells ((M : Int).toNat * i0.size)).toList = cur at hmk hA0
 rw [Int.toNat_natCast] at hmk
 have HM : Hid (M = xs.length + 9 + zerosOf xs.length) := by show M = _; omega
 have HP : Hid (M = (pad xs).length) := hM
 have q0 : (xs.length : Int) + 9 ≤ (M : Int) := by omega
 have q1 : (M : Int) ≤ 65608 := by omega
 have q2 : (xs.length : Int) < (M : Int) := by omega
 have hn : (xs.map (Value.int .u8)).length = Nat.min xs.length M := by rw [List.length_map]; exact (Nat.min_eq_left (by omega)).symm
 have hpos : 0 < (xs.map (Value.int .u8)).length → (some ⟨w.heap.size, 0, none⟩ : Option Addr) = some ⟨w.heap.size, 0, none⟩ ∧ ∃ ad, a = some ad ∧ ∀ j v, (xs.map (Value.int .u8))[j]? = some v → (w.alloc (.cells cur.toArray 5)).cell? (ad.add j) = some v := by
  intro hp
  rcases h with h | ⟨b, off, rfl, hc, hb, hcell⟩
  ·rw [h] at hp; exact absurd hp (by simp)
  ·refine ⟨rfl, _, rfl, fun j v hv => ?_⟩
   have hj : j < xs.length := by have := (List.getElem?_eq_some_iff.1 hv).1; simpa using this
   rw [addr_add, World.cell?_alloc_past _ _ _ hb, hcell j hj, ← hv, List.getElem?_map, List.getElem?_eq_getElem hj]
   unfold nth
   rw [List.getD_eq_getElem?_getD, List.getElem?_eq_getElem hj]
   rfl
 have hfit : 0 + (xs.map (Value.int .u8)).length ≤ cur.length := by rw [List.length_map]; omega
 have h1 : ∀ v ∈ xs.map (Value.int .u8), v.oneCell' = true := by intro v hv; obtain ⟨z, _, rfl⟩ := List.mem_map.1 hv; rfl
 have hA1 : (splice cur 0 (xs.map (Value.int .u8))).toArray.size = M ∧ ∀ j, j < M → (splice cur 0 (xs.map (Value.int .u8))).toArray[j]? = some (.int .u8 (if j < xs.length then nth xs j else 0)) := by
  refine ⟨?_, fun j hj => ?_⟩
  ·have := length_splice cur 0 (xs.map (Value.int .u8)) hfit; simp only [List.size_toArray]; omega
  ·simp only [List.getElem?_toArray]; exact copied_at cur xs M hA0.2 j hj
 have hP0 := padded_zero HM.out hA1.1 hA1.2
 have hb0 : Below w.heap.size w (w.alloc (.cells cur.toArray 5)) := (Below.refl _ _).alloc (Nat.le_refl _) _
 have hex : ∃ x, (splice cur 0 (xs.map (Value.int .u8))).toArray[xs.length]? = some x := ⟨_, hA1.2 xs.length (by omega)⟩
 have GN : Hid _ := hn
 have GP : Hid _ := hpos
 have GF : Hid _ := hfit
 have G1 : Hid _ := h1
 have GB : Hid _ := hb0
 obtain ⟨L, hL⟩ : ∃ L, L = (splice cur 0 (xs.map (Value.int .u8))).toArray := ⟨_, rfl⟩
 rw [← hL] at hP0 hex
 have GL : Hid (L = (splice cur 0 (xs.map (Value.int .u8))).toArray) := hL
 have HE : Hid (∃ x, L[xs.length]? = some x) := hex
 have HP0 : Hid (Padded xs M 0 (L.setIfInBounds xs.length (.int .u8 128))) := hP0
 clear hn hpos hfit h1 hb0 hL hex hP0 hA1 hA0 h hpl hMb hM hto
 go_enter Tryd.func89, Tryd.ntmps89
 go_wp2_with (refine wpList_copy_splice (by rfl) _ _ 22 22 (by rfl) 5 Tryd.underlying22 infoB _ _ _ _ _ _ (by rfl) (by rfl) w.heap.size 0 cur 5 (arrAt_new w _ _) _ GN.out (fun hp => ⟨rfl, (GP.out hp).2⟩) GF.out G1.out w.heap.size w GB.out (Nat.le_refl _) ?_; intro w1 hC hb1; have hA : ArrAt w1 w.heap.size 5 L := (by rw [GL.out]; exact hC); obtain ⟨y, hy⟩ := HE.out; have cn : w1.cell? ⟨w.heap.size, xs.length, none⟩ = some y := (hA.cell _).trans hy; have fn := hA.frozen xs.length)
 clear GN GP GF G1 GB hmk hC
 go_loopw [30] (fun i wr => ∃ k : Nat, ∃ A : Array Value, k ≤ 8 ∧ i = .int .i64 k ∧ Below w.heap.size w wr ∧ ArrAt wr w.heap.size 5 A ∧ Padded xs M k A) (fun i _ => 8 - (intOf i).toNat)
 case atStart => exact ⟨0, _, by omega, rfl, hb1.setCell (p := ⟨w.heap.size, xs.length, none⟩) (Nat.le_refl _) _, hA.setCell_same _ _, HP0.out⟩
 case round =>
  clear hA cn fn hy hb1
  obtain ⟨k, A, hk, rfl, hbel, hA, hP⟩ := hrel
  by_cases hlt : k < 8
  ·obtain ⟨x, hx⟩ : ∃ x, A[M - 1 - k]? = some x := ⟨_, Array.getElem?_eq_getElem (by rw [hP.1]; omega)⟩
   have cx : wr.cell? ⟨w.heap.size, M - 1 - k, none⟩ = some x := (hA.cell _).trans hx
   have fx := hA.frozen (M - 1 - k)
   have p0 : (0 : Int) ≤ (M : Int) - 1 - (k : Int) := by omega
   have p1 : (M : Int) - 1 - (k : Int) < (M : Int) := by omega
   have p2 : (0 : Int) ≤ 8 * (k : Int) := by omega
   have hP2 := padded_step hP HM.out hlt ((xs.length : Int) * 8 / 2 ^ (8 * k) % 256) (len_eq xs.length k hlt)
   go_wp2_with fail
   exact ⟨⟨k + 1, _, by omega, by go_num, hbel.setCell (p := ⟨w.heap.size, M - 1 - k, none⟩) (Nat.le_refl _) _, hA.setCell_same _ _, hP2⟩, by simp [intOf]; omega⟩
  ·obtain rfl : k = 8 := by omega
   have hfin : Hid (∀ j, j < (pad xs).length → A[j]? = some (.int .u8 (nth (pad xs) j))) := fun j hj => hP.2 j (by rw [HP.out]; exact hj) (by omega)
   go_wp2_with fail
   go_ret
   exact ⟨A, ret_slice HP.out, hA, hfin.out, hbel⟩
end Go.Proofs.YtakfniknkejgpaaDoor.Sh

/- impl.wordsText and impl.Hash. -/
namespace Go.Proofs.YtakfniknkejgpaaDoor.Sh
open Go.RowKit Go.Proofs.YtakfniknkejgpaaDoor.Sl Go.Proofs.YtakfniknkejgpaaDoor.Me

def zeros32 : Array Value := Array.replicate 32 (.int .u8 0)
theorem zeroB (w : World) : Sem.run Tryd.prog (zeroValue 151) w = .ok (.agg zeros32) w := by kernel_rfl
def OutTo (r : R8) (k : Nat) (A : Array Value) : Prop := A.size = 32 ∧ ∀ j, j < k → A[j]? = some (.int .u8 (byteOf (at8 r (j / 4)) (j % 4)))
theorem out_step {r : R8} {k : Nat} {A : Array Value} (h : OutTo r k A) (hk : k < 32) : OutTo r (k + 1) (A.setIfInBounds k (.int .u8 (byteOf (at8 r (k / 4)) (k % 4)))) := by
 refine ⟨by rw [Array.size_setIfInBounds]; exact h.1, fun j hj => ?_⟩
 rw [Array.getElem?_setIfInBounds]
 by_cases e : k = j
 ·subst e
  rw [if_pos rfl, if_pos (by rw [h.1]; exact hk)]
 ·rw [if_neg e]
  exact h.2 j (by omega)

set_option maxRecDepth 100000 in
set_option maxHeartbeats 1600000 in
theorem wordsText_any (r : R8) (w : World) :
 Calls Tryd.prog 92 #[.agg (arr8 r)] w fun e w' => e = .returned (.string (strOfNums (out r))) ∧ Below w.heap.size w w' := by
 have hz : ∀ w, Sem.run Tryd.prog (zeroValue 151) w = .ok (.agg zeros32) w := zeroB
 go_enter Tryd.func92, Tryd.ntmps92
 go_wp2_with fail
 clear hz
 go_loopw [5] (fun i wr => ∃ k : Nat, ∃ A : Array Value, k ≤ 32 ∧ i = .int .i64 k ∧ Below w.heap.size w wr ∧ ArrAt wr w.heap.size 134 (arr8 r) ∧ ArrAt wr (w.heap.size + 1) 151 A ∧ OutTo r k A) (fun i _ => 32 - (intOf i).toNat)
 case atStart => exact ⟨0, zeros32, by omega, rfl, ((Below.refl _ _).alloc (Nat.le_refl _) _).alloc (by simp) _, (arrAt_new w _ _).alloc _, by have := arrAt_new (w.alloc (.cells (arr8 r) 134)) 151 zeros32; simpa using this, ⟨by unfold zeros32; simp, fun j hj => absurd hj (by omega)⟩⟩
 case round =>
  obtain ⟨k, A, hk, rfl, hbel, hR, hA, hO⟩ := hrel
  by_cases hlt : k < 32
  ·obtain ⟨x, hx⟩ : ∃ x, A[k]? = some x := ⟨_, Array.getElem?_eq_getElem (by rw [hO.1]; omega)⟩
   have cx : wr.cell? ⟨w.heap.size + 1, k, none⟩ = some x := (hA.cell _).trans hx
   have fx := hA.frozen k
   have cr : wr.cell? ⟨w.heap.size, k / 4, none⟩ = some (.int .u32 (nat (at8 r (k / 4)))) := (hR.cell _).trans (arr8_at r _ (by omega))
   have p0 : (0 : Int) ≤ (k : Int) / 4 := by omega
   have p1 : (k : Int) / 4 < 8 := by omega
   have p2 : (k : Int) < 32 := by omega
   have hO2 := out_step hO hlt
   go_wp2_with fail
   exact ⟨⟨k + 1, _, by omega, by go_num, hbel.setCell (p := ⟨w.heap.size + 1, k, none⟩) (by simp) _, hR.setCell_other (a := ⟨w.heap.size + 1, k, none⟩) (by simp) _, hA.setCell_same _ _, hO2⟩, by simp [intOf]; omega⟩
  ·obtain rfl : k = 32 := by omega
   have hcv : (convert 22 9 (.slice (some ⟨w.heap.size + 1, 0, none⟩) 32 32)).run Tryd.prog wr = .ok (.string (strOfNums (out r))) wr := by
    refine run_convert_bytes_arg _ 22 5 Tryd.underlying22 Tryd.underlying5 (w.heap.size + 1) 0 32 32 _ (outTo_length r 8) (fun i hi => ?_) 9 Tryd.underlying9
    rw [Nat.zero_add, hA.cell, hO.2 i hi]
    rw [outTo_at r 8 i hi]
   go_wp2_with fail
   go_ret
   exact ⟨rfl, hbel⟩

def hashS (xs : List Int) : ByteArray := if 65536 < xs.length then ⟨#[]⟩ else strOfNums (sha xs)
theorem ret_str {a b : ByteArray} (h : a = b) : Ending.returned (.string a) = .returned (.string b) := by rw [h]
theorem size1 (W : World) : (Go.sizeOf 5).run Tryd.prog W = .ok 1 W := by kernel_rfl
theorem slice64 (n b q : Nat) (h : 64 * q + 64 ≤ n) (W : World) :
 (Instr.slice 22 (.slice (some ⟨b, 0, none⟩) n n) (some (.int .i64 (64 * (q : Int)))) (some (.int .i64 (64 * (q : Int) + 64))) none).run Tryd.prog W = .ok (.slice (some ⟨b, 64 * q, none⟩) 64 (n - 64 * q)) W := by
 have := Lib.run_slice_window (P := Tryd.prog) W 22 5 Tryd.underlying22 size1 b 0 n n (64 * q) (64 * q + 64) (by omega) h
 rw [Nat.zero_add, show 64 * q + 64 - 64 * q = 64 by omega] at this
 rw [← this]
 rfl
theorem cut_row {w : World} {ps : List Int} {b off : Nat} (hb : b < w.heap.size) (hcell : ∀ i, i < ps.length → w.cell? ⟨b, off + i, none⟩ = some (.int .u8 (nth ps i))) (hr : ∀ x ∈ ps, 0 ≤ x ∧ x ≤ 255) (q : Nat) (hq : 64 * q + 64 ≤ ps.length) (c : Nat) (hc : 64 ≤ c) :
 RowB w (.slice (some ⟨b, off + 64 * q, none⟩) 64 c) (cut ps q) ∧ (cut ps q).length = 64 := by
 have hl : (cut ps q).length = 64 := by unfold cut; rw [List.length_take, List.length_drop]; omega
 refine ⟨⟨_, c, by rw [hl], .inr ⟨b, off + 64 * q, rfl, by rw [hl]; exact hc, hb, fun i hi => ?_⟩, fun x hx => ?_⟩, hl⟩
 ·rw [hl] at hi
  rw [Nat.add_assoc, hcell (64 * q + i) (by omega)]
  unfold nth cut
  rw [List.getD_eq_getElem?_getD, List.getD_eq_getElem?_getD, List.getElem?_take_of_lt hi, List.getElem?_drop]
 ·unfold cut at hx
  exact hr x (List.mem_of_mem_drop (List.mem_of_mem_take hx))

theorem cells8 {w : World} {g : Nat} {T : TypeId} {r : R8} (h : ArrAt w g T (arr8 r)) :
 w.cell? ⟨g, 0, none⟩ = some (.int .u32 (nat r.a)) ∧ w.cell? ⟨g, 1, none⟩ = some (.int .u32 (nat r.b)) ∧ w.cell? ⟨g, 2, none⟩ = some (.int .u32 (nat r.c)) ∧ w.cell? ⟨g, 3, none⟩ = some (.int .u32 (nat r.d)) ∧ w.cell? ⟨g, 4, none⟩ = some (.int .u32 (nat r.e)) ∧ w.cell? ⟨g, 5, none⟩ = some (.int .u32 (nat r.f)) ∧ w.cell? ⟨g, 6, none⟩ = some (.int .u32 (nat r.g)) ∧ w.cell? ⟨g, 7, none⟩ = some (.int .u32 (nat r.h)) :=
 ⟨h.cell 0, h.cell 1, h.cell 2, h.cell 3, h.cell 4, h.cell 5, h.cell 6, h.cell 7⟩
theorem store8 {w : World} {g : Nat} {T : TypeId} {r : R8} (h : ArrAt w g T (arr8 r)) (y : R8) : Sem.run Tryd.prog (storeCells ⟨g, 0, none⟩ (arr8 y).toList) w = .ok () (w.setRow g (arr8 y)) := by
 have := run_storeCells_from (P := Tryd.prog) g T (arr8 y).toList 0 (arr8 r) w h rfl (fun v hv => (Array.all_eq_true_iff_forall_mem.1 (arr8_one y)) v (by simpa using hv))
 simpa using this

set_option maxRecDepth 100000 in
set_option maxHeartbeats 1600000 in
theorem implHash_any (v : Value) (xs : List Int) (w : World) (h : RowB w v xs) (hK : KTab w) (hp : 0 < w.heap.size) :
 Calls Tryd.prog 63 #[v] w fun e w' => e = .returned (.string (hashS xs)) ∧ Below w.heap.size w w' := by
 by_cases hb : 65536 < xs.length
 ·have HE : Hid (hashS xs = ⟨#[]⟩) := if_pos hb
  have hb' : (65536 : Int) < (xs.length : Int) := by omega
  obtain ⟨a, cap, rfl, _, _⟩ := h
  go_enter Tryd.func63, Tryd.ntmps63
  go_wp2
  go_ret
  exact ⟨ret_str HE.out.symm, Below.refl _ _⟩
 have HE : Hid (hashS xs = strOfNums (out (blksTo (pad xs) ((xs.length + 72) / 64)))) := if_neg hb
 have hb' : (xs.length : Int) ≤ 65536 := by omega
 have h' := h
 obtain ⟨a, cap, rfl, _, _⟩ := h
 have HR : Hid (RowB w (.slice a xs.length cap) xs) := h'
 have GK : Hid (KTab w) := hK
 clear h' hK
 have hz : ∀ w, Sem.run Tryd.prog (zeroValue 134) w = .ok (.agg #[.int .u32 0, .int .u32 0, .int .u32 0, .int .u32 0, .int .u32 0, .int .u32 0, .int .u32 0, .int .u32 0]) w := zero8
 go_enter Tryd.func63, Tryd.ntmps63
 go_wp2_with fail
 refine (padBlocks_any _ xs _ (HR.out.below ((Below.refl _ _).alloc (Nat.le_refl _) _)) (by omega)).mono ?_
 rintro e w1 ⟨PA, rfl, hPA, hPn, b1⟩
 clear hz
 have hW1 : ArrAt w1 w.heap.size 134 (arr8 r0) := (arrAt_new w 134 (arr8 r0)).below b1 (by simp)
 have hB1 : Below w.heap.size w w1 := ((Below.refl _ _).alloc (Nat.le_refl _) _).trans (b1.mono (by simp))
 have hPA1 : ArrAt w1 (w.heap.size + 1) 5 PA := by have := hPA; simpa using this
 have hsz : (w.alloc (.cells #[Value.int IntKind.u32 1779033703, Value.int IntKind.u32 3144134277, Value.int IntKind.u32 1013904242, Value.int IntKind.u32 2773480762, Value.int IntKind.u32 1359893119, Value.int IntKind.u32 2600822924, Value.int IntKind.u32 528734635, Value.int IntKind.u32 1541459225] 134)).heap.size = w.heap.size + 1 := by simp
 rw [hsz]
 obtain ⟨Q, hQ⟩ : ∃ Q, Q = (xs.length + 72) / 64 := ⟨_, rfl⟩
 have HM : Hid ((pad xs).length = 64 * Q) := by show (pad xs).length = 64 * Q; rw [hQ]; exact pad_blocks xs
 rw [← hQ] at HE
 have hQb : Q ≤ 1026 := by omega
 have HN : Hid (∀ j, j < (pad xs).length → PA[j]? = some (.int .u8 (nth (pad xs) j))) := hPn
 have HPR : Hid (∀ x ∈ pad xs, 0 ≤ x ∧ x ≤ 255) := pad_range (by obtain ⟨_, _, _, _, hr⟩ := HR.out; exact hr)
 clear hPA hPn b1 hsz hQ
 generalize pad xs = ps at HE HM HN HPR
 have hM0 : (ps.length : Int) ≤ 64 * (Q : Int) := by have := HM.out; omega
 have hM1 : 64 * (Q : Int) ≤ (ps.length : Int) := by have := HM.out; omega
 go_wp2_with fail
 go_loopw [5] (fun i wr => ∃ q : Nat, q ≤ Q ∧ i = .int .i64 (64 * (q : Int)) ∧ Below w.heap.size w wr ∧ ArrAt wr w.heap.size 134 (arr8 (blksTo ps q)) ∧ ArrAt wr (w.heap.size + 1) 5 PA) (fun i _ => 64 * Q - (intOf i).toNat)
 case atStart => exact ⟨0, by omega, rfl, hB1, hW1, hPA1⟩
 case round =>
  clear hW1 hB1 hPA1
  obtain ⟨q, hq, rfl, hbel, hX, hA⟩ := hrel
  have HB : Hid (blksTo ps (q + 1) = blk (blksTo ps q) (cut ps q)) := rfl
  by_cases hlt : q < Q
  ·have p0 : (0 : Int) ≤ 64 * (q : Int) := by omega
   have p1 : 64 * (q : Int) + 64 ≤ (ps.length : Int) := by omega
   have p2 : 64 * (q : Int) ≤ 64 * (q : Int) + 64 := by omega
   generalize blksTo ps q = r at hX HB
   obtain ⟨c0, c1, c2, c3, c4, c5, c6, c7⟩ := cells8 hX
   have HCR : Hid (RowB wr (.slice (some ⟨w.heap.size + 1, 64 * q, none⟩) 64 (ps.length - 64 * q)) (cut ps q) ∧ (cut ps q).length = 64) := by
    have := cut_row (w := wr) (ps := ps) (b := w.heap.size + 1) (off := 0) hA.lt (fun i hi => by rw [Nat.zero_add, hA.cell]; exact HN.out i hi) HPR.out q (by omega) (ps.length - 64 * q) (by omega)
    rw [Nat.zero_add] at this
    exact this
   have hlw : w.heap.size < wr.heap.size := hX.lt
   have hsl := slice64 ps.length (w.heap.size + 1) q (by omega)
   have hwr : IntKind.i64.wrap (64 * (q : Int) + 64) = 64 * (q : Int) + 64 := by rw [IntKind.wrap_i64]; omega
   go_wp2_with fail
   go_region_with (first
    | (go_at_call 91; go_must (refine (spreadBlock_any _ (cut ps q) _ (by exact HCR.out.1) HCR.out.2).mono ?_; rintro e w2 ⟨A2, rfl, hA2, b2⟩; have X2 : ArrAt w2 w.heap.size 134 (arr8 r) := ArrAt.below (w := wr.drew) hX b2 hlw; have P2 : ArrAt w2 (w.heap.size + 1) 5 PA := ArrAt.below (w := wr.drew) hA b2 hA.lt; have B2 : Below w.heap.size w w2 := hbel.drew.trans (Below.mono b2 (Nat.le_of_lt hlw)); have K2 : Hid (KTab w2) := GK.out.below B2 hp; have HA2 : Hid (WordsTo (cut ps q) 64 A2) := hA2; clear hA2 b2; obtain ⟨d0, d1, d2, d3, d4, d5, d6, d7⟩ := cells8 X2))
    | (go_at_call 90; go_must (refine (mixBlock_any r A2 (cut ps q) _ HA2.out K2.out (Nat.lt_of_lt_of_le hp B2.size)).mono ?_; rintro e w3 ⟨rfl, b3⟩; have X3 : ArrAt w3 w.heap.size 134 (arr8 r) := X2.below b3 X2.lt; have P3 : ArrAt w3 (w.heap.size + 1) 5 PA := P2.below b3 P2.lt; have B3 : Below w.heap.size w w3 := B2.trans (Below.mono b3 B2.size); clear b3; have st := store8 X3 (blk r (cut ps q)); have s8 := arr8_size (blk r (cut ps q)))))
   all_goals
    have X4 : Hid (ArrAt (w3.setRow w.heap.size (arr8 (blk r (cut ps q)))) w.heap.size 134 (arr8 (blksTo ps (q + 1)))) := by rw [HB.out]; exact X3.setRow_same (arr8 (blk r (cut ps q)))
    have P4 := P3.setRow_other (g' := w.heap.size) (by omega) (arr8 (blk r (cut ps q)))
    have B4 := below_setRow B3 (Nat.le_refl _) (arr8 (blk r (cut ps q)))
    clear st s8 X3 P3 B3 X2 P2 B2 c0 c1 c2 c3 c4 c5 c6 c7 d0 d1 d2 d3 d4 d5 d6 d7 hsl hX hA hbel
    go_wp2
    go_roundw
    case rel => exact ⟨q + 1, by omega, by go_num, B4, X4.out, P4⟩
    case measure => simp [intOf]; omega
  ·obtain rfl : q = Q := by omega
   clear HB
   generalize blksTo ps q = r at hX HE
   obtain ⟨c0, c1, c2, c3, c4, c5, c6, c7⟩ := cells8 hX
   go_wp2_with (go_at_call 92; refine (wordsText_any r _).mono ?_; rintro e w2 ⟨rfl, b2⟩)
   go_ret
   exact ⟨ret_str HE.out.symm, hbel.trans (b2.mono hbel.size)⟩
end Go.Proofs.YtakfniknkejgpaaDoor.Sh
