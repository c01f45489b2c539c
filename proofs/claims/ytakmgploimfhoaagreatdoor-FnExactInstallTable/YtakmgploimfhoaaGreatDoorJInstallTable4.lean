/- Texts put together: Tm, Qm, Rg, Is, Xb. -/
import Derived.Test.YtakmgploimfhoaaGreatDoorRows
import Derived.WalkKit
import Derived.ProofKit
import Derived.WalkSpells
import Derived.Below
import Derived.Laws.NewBlocks
import Derived.Test.YtakmgploimfhoaaGreatDoorAp
import Derived.Test.YtakmgploimfhoaaGreatDoorQc
import Derived.Lib.SmallJoins
import Derived.Laws.MakeOwn
import Derived.Deep.QuietTactic
import Derived.BigQuiet
import Derived.Deep.Slices
import Derived.Deep.Fields23
import Derived.OpenShut
import Derived.Deep.RegionLaw
import Derived.BigRegion
import Derived.Laws.ResultCell
import Derived.Deep.CutRange
import Derived.Deep.DeepCutAuto
import Derived.Deep.RegionWith
import Derived.Test.YtakmgploimfhoaaGreatDoorSl
import Derived.ShutString
import Derived.Deep.Fields
import Derived.Lib.BitFns
import Derived.Lib.Strings
import Derived.Lib.Slices
import Derived.Lib.Small
import Derived.Lib.Walk
/- FaultsOf and AddTime, of the program and of the specification. -/
namespace Go.Proofs.YtakmgploimfhoaaGreatDoor.Tm
open Go.RowKit

/-- What FaultsOf answers. -/
def fOut (n : Int) : Int := if n = 1 then 0 else if n = 4 then 1 else if n = 7 then 2 else 0
def fCode (n : Int) : Int := if n = 1 ∨ n = 4 ∨ n = 7 then 0 else 4
/-- What AddTime answers. -/
def adT (a b : Int) : Int := min (max a 0 + max b 0) 9223372036854775807
theorem ret_i {a b : Int} (h : a = b) : Ending.returned (.int .i64 a) = .returned (.int .i64 b) := by rw [h]
theorem ret_ii {a b c d : Int} (h : a = c ∧ b = d) : Ending.returned (.tuple #[.int .i64 a, .int .i64 b]) = .returned (.tuple #[.int .i64 c, .int .i64 d]) := by rw [h.1, h.2]
theorem f_cases (n : Int) : n = 1 ∨ n = 4 ∨ n = 7 ∨ (n ≠ 1 ∧ n ≠ 4 ∧ n ≠ 7 ∧ fOut n = 0 ∧ fCode n = 4) := by
  by_cases h1 : n = 1
  · exact .inl h1
  by_cases h2 : n = 4
  · exact .inr (.inl h2)
  by_cases h3 : n = 7
  · exact .inr (.inr (.inl h3))
  refine .inr (.inr (.inr ⟨h1, h2, h3, ?_, ?_⟩))
  · unfold fOut; rw [if_neg h1, if_neg h2, if_neg h3]
  · unfold fCode; rw [if_neg (by omega)]
set_option maxRecDepth 100000 in
set_option maxHeartbeats 400000 in
theorem implFaultsOf_any (n : Int) (w : World) : Calls Tryz.prog 71 #[.int .i64 n] w fun e w' => e = .returned (.tuple #[.int .i64 (fOut n), .int .i64 (fCode n)]) ∧ w' = w := by
  rcases f_cases n with rfl | rfl | rfl | ⟨h1, h2, h3, e1, e2⟩
  · go_enter Tryz.func71, Tryz.ntmps71
    go_wp2
    go_ret2
    exact ⟨ret_ii ⟨by decide, by decide⟩, rfl⟩
  · go_enter Tryz.func71, Tryz.ntmps71
    go_wp2
    go_ret2
    exact ⟨ret_ii ⟨by decide, by decide⟩, rfl⟩
  · go_enter Tryz.func71, Tryz.ntmps71
    go_wp2
    go_ret2
    exact ⟨ret_ii ⟨by decide, by decide⟩, rfl⟩
  · have HE : Hid (fOut n = 0 ∧ fCode n = 4) := ⟨e1, e2⟩
    have b1 : (n == 1) = false := by simpa using h1
    have b2 : (n == 4) = false := by simpa using h2
    have b3 : (n == 7) = false := by simpa using h3
    clear h1 h2 h3 e1 e2
    go_enter Tryz.func71, Tryz.ntmps71
    go_wp2
    go_ret2
    exact ⟨ret_ii ⟨HE.out.1.symm, HE.out.2.symm⟩, rfl⟩
end Go.Proofs.YtakmgploimfhoaaGreatDoor.Tm

/- QuorumOf and PrimaryOf, of the program and of the specification. -/
namespace Go.Proofs.YtakmgploimfhoaaGreatDoor.Qm
open Go.RowKit Go.Proofs.YtakmgploimfhoaaGreatDoor.Tm

/-- What QuorumOf and PrimaryOf answer. -/
def qOut (n : Int) : Int := if n = 1 then 1 else if n = 4 then 3 else if n = 7 then 5 else 0
def pOut (v n : Int) : Int := if fCode n = 0 ∧ 0 ≤ v ∧ v ≤ 20 then v % n else 0
def pCode (v n : Int) : Int := if fCode n = 0 ∧ 0 ≤ v ∧ v ≤ 20 then 0 else 4
def inB (x a b : Int) : Bool := decide (a ≤ x ∧ x ≤ b)
theorem ret_bool {a b : Bool} (h : a = b) : Ending.returned (.bool a) = .returned (.bool b) := by rw [h]
theorem within_any (x a b : Int) (w : World) :
    Calls Tryz.prog 76 #[.int .i64 x, .int .i64 a, .int .i64 b] w fun e w' => e = .returned (.bool (inB x a b)) ∧ w = w' := by
  by_cases h1 : a ≤ x
  · by_cases h2 : x ≤ b
    all_goals
      go_enter Tryz.func76, Tryz.ntmps76
      go_wp2
      go_ret
      exact ⟨ret_bool (by unfold inB; rw [Bool.eq_iff_iff]; simp; try omega), rfl⟩
  · go_enter Tryz.func76, Tryz.ntmps76
    go_wp2
    go_ret
    exact ⟨ret_bool (by unfold inB; rw [Bool.eq_iff_iff]; simp; try omega), rfl⟩
theorem l01In_any (x a b : Int) (w : World) :
    Calls Tryz.prog 40 #[.int .i64 x, .int .i64 a, .int .i64 b] w fun e w' => e = .returned (.bool (inB x a b)) ∧ w = w' := by
  by_cases h1 : a ≤ x
  · by_cases h2 : x ≤ b
    all_goals
      go_enter Tryz.func40, Tryz.ntmps40
      go_wp2
      go_ret
      exact ⟨ret_bool (by unfold inB; rw [Bool.eq_iff_iff]; simp; try omega), rfl⟩
  · go_enter Tryz.func40, Tryz.ntmps40
    go_wp2
    go_ret
    exact ⟨ret_bool (by unfold inB; rw [Bool.eq_iff_iff]; simp; try omega), rfl⟩
theorem q_none {n : Int} (h1 : n ≠ 1) (h2 : n ≠ 4) (h3 : n ≠ 7) : qOut n = 0 := by unfold qOut; rw [if_neg h1, if_neg h2, if_neg h3]
set_option maxRecDepth 100000 in
set_option maxHeartbeats 400000 in
theorem implQuorumOf_any (n : Int) (w : World) : Calls Tryz.prog 115 #[.int .i64 n] w fun e w' => e = .returned (.tuple #[.int .i64 (qOut n), .int .i64 (fCode n)]) ∧ w = w' := by
  rcases f_cases n with rfl | rfl | rfl | ⟨h1, h2, h3, e1, e2⟩
  · have C : Calls Tryz.prog 71 #[.int .i64 1] w fun e w' => e = .returned (.tuple #[.int .i64 0, .int .i64 0]) ∧ w' = w := implFaultsOf_any 1 w
    go_enter Tryz.func115, Tryz.ntmps115
    go_wp2_with fail
    refine C.mono ?_
    rintro e w1 ⟨rfl, rfl⟩
    go_wp2_with fail
    go_ret2
    exact ⟨ret_ii ⟨by decide, by decide⟩, rfl⟩
  · have C : Calls Tryz.prog 71 #[.int .i64 4] w fun e w' => e = .returned (.tuple #[.int .i64 1, .int .i64 0]) ∧ w' = w := implFaultsOf_any 4 w
    go_enter Tryz.func115, Tryz.ntmps115
    go_wp2_with fail
    refine C.mono ?_
    rintro e w1 ⟨rfl, rfl⟩
    go_wp2_with fail
    go_ret2
    exact ⟨ret_ii ⟨by decide, by decide⟩, rfl⟩
  · have C : Calls Tryz.prog 71 #[.int .i64 7] w fun e w' => e = .returned (.tuple #[.int .i64 2, .int .i64 0]) ∧ w' = w := implFaultsOf_any 7 w
    go_enter Tryz.func115, Tryz.ntmps115
    go_wp2_with fail
    refine C.mono ?_
    rintro e w1 ⟨rfl, rfl⟩
    go_wp2_with fail
    go_ret2
    exact ⟨ret_ii ⟨by decide, by decide⟩, rfl⟩
  · have C : Calls Tryz.prog 71 #[.int .i64 n] w fun e w' => e = .returned (.tuple #[.int .i64 0, .int .i64 4]) ∧ w' = w := by have := implFaultsOf_any n w; rwa [e1, e2] at this
    have HE : Hid (qOut n = 0 ∧ fCode n = 4) := ⟨q_none h1 h2 h3, e2⟩
    clear h1 h2 h3 e1 e2
    go_enter Tryz.func115, Tryz.ntmps115
    go_wp2_with fail
    refine C.mono ?_
    rintro e w1 ⟨rfl, rfl⟩
    go_wp2_with fail
    go_ret2
    exact ⟨ret_ii ⟨HE.out.1.symm, HE.out.2.symm⟩, rfl⟩
set_option maxRecDepth 100000 in
set_option maxHeartbeats 400000 in
theorem l04Nodes_any (n : Int) (w : World) : Calls Tryz.prog 18 #[.int .i64 n] w fun e w' => e = .returned (.bool (decide (fCode n = 0))) ∧ w = w' := by
  rcases f_cases n with rfl | rfl | rfl | ⟨h1, h2, h3, _, hc⟩
  · go_enter Tryz.func18, Tryz.ntmps18
    go_wp2_with fail
    go_ret
    exact ⟨rfl, rfl⟩
  · go_enter Tryz.func18, Tryz.ntmps18
    go_wp2_with fail
    go_ret
    exact ⟨rfl, rfl⟩
  · go_enter Tryz.func18, Tryz.ntmps18
    go_wp2_with fail
    go_ret
    exact ⟨rfl, rfl⟩
  · have HC : Hid (fCode n = 4) := hc
    clear hc
    go_enter Tryz.func18, Tryz.ntmps18
    go_wp2_with fail
    go_ret
    exact ⟨by rw [HC.out]; simp [h1, h2, h3], rfl⟩
set_option maxRecDepth 100000 in
set_option maxHeartbeats 400000 in
theorem l06Quorum_any (n : Int) (w : World) (h : fCode n = 0) : Calls Tryz.prog 39 #[.int .i64 n] w fun e w' => e = .returned (.int .i64 (qOut n)) ∧ w = w' := by
  rcases f_cases n with rfl | rfl | rfl | ⟨h1, h2, h3, _, hc⟩
  · go_enter Tryz.func39, Tryz.ntmps39
    go_wp2_with fail
    go_ret
    exact ⟨rfl, rfl⟩
  · go_enter Tryz.func39, Tryz.ntmps39
    go_wp2_with fail
    go_ret
    exact ⟨rfl, rfl⟩
  · go_enter Tryz.func39, Tryz.ntmps39
    go_wp2_with fail
    go_ret
    exact ⟨rfl, rfl⟩
  · rw [hc] at h; cases h
theorem p_none {v n : Int} (h : ¬ (fCode n = 0 ∧ 0 ≤ v ∧ v ≤ 20)) : pOut v n = 0 ∧ pCode v n = 4 := by unfold pOut pCode; rw [if_neg h, if_neg h]; exact ⟨rfl, rfl⟩
theorem p_some {v n : Int} (h : fCode n = 0 ∧ 0 ≤ v ∧ v ≤ 20) : pOut v n = v % n ∧ pCode v n = 0 := by unfold pOut pCode; rw [if_pos h, if_pos h]; exact ⟨rfl, rfl⟩
end Go.Proofs.YtakmgploimfhoaaGreatDoor.Qm

/- Rows of things of several cells; memory that may be written; the laws' marks of texts. -/
namespace Go.Proofs.YtakmgploimfhoaaGreatDoor.Rg
open Go.RowKit Go.Proofs.YtakmgploimfhoaaGreatDoor.Sl Go.Proofs.YtakmgploimfhoaaGreatDoor.By Go.Proofs.YtakmgploimfhoaaGreatDoor.Ap

theorem size_new (w : World) (o : Obj) : (w.alloc o).heap.size = w.heap.size + 1 := by simp
theorem blk_cell {w : World} {b : Nat} {cs : Array Value} {t : TypeId} (h : w.heap[b]? = some (.cells cs t (0, 0))) (i : Nat) {x : Value} (hx : cs[i]? = some x) : w.cell? ⟨b, i, none⟩ = some x ∧ w.frozen? ⟨b, i, none⟩ = false := by
  refine ⟨(Joins.cell_of_block h i).trans hx, ?_⟩
  simp [World.frozen?, h]
theorem blk_set {w : World} {b : Nat} {cs : Array Value} {t : TypeId} (h : w.heap[b]? = some (.cells cs t (0, 0))) (i : Nat) (x : Value) : (w.setCell ⟨b, i, none⟩ x).heap[b]? = some (.cells (cs.setIfInBounds i x) t (0, 0)) := Joins.block_setCell (i := i) h x
theorem blk_far {w : World} {b k : Nat} (hk : k ≠ b) (i : Nat) (x : Value) : (w.setCell ⟨b, i, none⟩ x).heap[k]? = w.heap[k]? := Below.heap_setCell w ⟨b, i, none⟩ x k hk
theorem blk_new (w : World) (cs : Array Value) (t : TypeId) : (w.alloc (.cells cs t)).heap[w.heap.size]? = some (.cells cs t (0, 0)) := heap_alloc_new w _
theorem bel_new (w : World) (o : Obj) : Below w.heap.size w (w.alloc o) := (Below.refl _ _).alloc (Nat.le_refl _) _
/-- Things, each of c cells, in a slice. -/
def RowG {α : Type} (c : Nat) (E : World → Nat → Nat → α → Prop) (w : World) (v : Value) (xs : List α) : Prop :=
  ∃ a cap, v = .slice a xs.length cap ∧ (xs = [] ∨ ∃ b off, a = some ⟨b, off, none⟩ ∧ xs.length ≤ cap ∧ b < w.heap.size ∧ ∀ i x, xs[i]? = some x → E w b (off + i * c) x)
/-- What is said of a thing's cells stays where memory is added alone. -/
def Stays {α : Type} (E : World → Nat → Nat → α → Prop) : Prop := ∀ w w' b o x, Below w.heap.size w w' → b < w.heap.size → E w b o x → E w' b o x
theorem RowG.below {α : Type} {c : Nat} {E : World → Nat → Nat → α → Prop} (hE : Stays E) {w w' : World} {v : Value} {xs : List α} (h : RowG c E w v xs) (hb : Below w.heap.size w w') : RowG c E w' v xs := by
  obtain ⟨a, cap, rfl, h⟩ := h
  refine ⟨a, cap, rfl, ?_⟩
  rcases h with h | ⟨b, off, rfl, hc, hlt, h⟩
  · exact .inl h
  · exact .inr ⟨b, off, rfl, hc, Nat.lt_of_lt_of_le hlt hb.size, fun i x hi => hE _ _ _ _ _ hb hlt (h i x hi)⟩
theorem RowG.at {α : Type} {c : Nat} {E : World → Nat → Nat → α → Prop} {w : World} {v : Value} {a : Option Addr} {n cap : Nat} {xs : List α} (h : RowG c E w v xs) (hv : v = .slice a n cap) {i : Nat} {x : α} (hi : xs[i]? = some x) :
    ∃ b off, a = some ⟨b, off, none⟩ ∧ b < w.heap.size ∧ E w b (off + i * c) x := by
  obtain ⟨a', cap', rfl, h⟩ := h
  cases hv
  rcases h with h | ⟨b, off, rfl, hc, hlt, h⟩
  · rw [h] at hi; simp at hi
  · exact ⟨b, off, rfl, hlt, h i x hi⟩
theorem RowG.slice {α : Type} {c : Nat} {E : World → Nat → Nat → α → Prop} {w : World} {v : Value} {xs : List α} (h : RowG c E w v xs) : ∃ a cap, v = .slice a xs.length cap := by
  obtain ⟨a, cap, rfl, _⟩ := h
  exact ⟨a, cap, rfl⟩

theorem ret_i {a b : Int} (h : a = b) : Ending.returned (.int .i64 a) = .returned (.int .i64 b) := by rw [h]
def lft (left s : Int) : Int := if left < s then -1 else left - s
theorem lft_no {left s : Int} (h : left < s) : lft left s = -1 := if_pos h
theorem lft_yes {left s : Int} (h : ¬ left < s) : lft left s = left - s := if_neg h
theorem get_at {α : Type} {xs : List α} {k : Nat} (h : k < xs.length) : ∃ x, xs[k]? = some x := ⟨_, List.getElem?_eq_getElem h⟩
theorem lt_at {α : Type} {xs : List α} {k : Nat} {x : α} (h : xs[k]? = some x) : k < xs.length := (List.getElem?_eq_some_iff.1 h).1
theorem mem_at {α : Type} {xs : List α} {k : Nat} {x : α} (h : xs[k]? = some x) : x ∈ xs := List.mem_of_getElem? h
/-- Three new blocks, one behind the other, in every later world. -/
theorem three {w w1 : World} {o0 o1 o2 : Obj} (b : Below (((w.alloc o0).alloc o1).alloc o2).heap.size (((w.alloc o0).alloc o1).alloc o2) w1) :
    w1.heap[w.heap.size]? = some o0 ∧ w1.heap[w.heap.size + 1]? = some o1 ∧ w1.heap[w.heap.size + 1 + 1]? = some o2 ∧ w.heap.size + 1 + 1 + 1 ≤ w1.heap.size ∧ Below w.heap.size w w1 := by
  have e1 : (w.alloc o0).heap.size = w.heap.size + 1 := size_new _ _
  have e2 : ((w.alloc o0).alloc o1).heap.size = w.heap.size + 1 + 1 := by rw [size_new, e1]
  have e3 : (((w.alloc o0).alloc o1).alloc o2).heap.size = w.heap.size + 1 + 1 + 1 := by rw [size_new, e2]
  have b1 : Below w.heap.size w (((w.alloc o0).alloc o1).alloc o2) := (((Below.refl _ _).alloc (Nat.le_refl _) _).alloc (by rw [e1]; omega) _).alloc (by rw [e2]; omega) _
  have s := b.size
  rw [e3] at b s
  refine ⟨?_, ?_, ?_, s, b1.trans (b.mono (by omega))⟩
  · rw [b.block _ (by omega), Below.heap_alloc _ _ _ (by omega), Below.heap_alloc _ _ _ (by omega)]; exact heap_alloc_new w _
  · rw [b.block _ (by omega), Below.heap_alloc _ _ _ (by omega), ← e1]; exact heap_alloc_new _ _
  · rw [b.block _ (by omega), ← e2]; exact heap_alloc_new _ _
theorem ret_str {a b : ByteArray} (h : a = b) : Ending.returned (.string a) = .returned (.string b) := by rw [h]
/-- The digits of a number, ahead of a text. -/
def mtGo : Nat → Nat → ByteArray → ByteArray
  | 0, _, s => s
  | f + 1, k, s => if k = 0 then s else mtGo f (k / 10) (strOfNums [48 + ((k % 10 : Nat) : Int)] ++ s)
def mtext (k : Nat) : ByteArray := (⟨#[109]⟩ : ByteArray) ++ mtGo (k + 1) k ⟨#[]⟩

set_option maxRecDepth 100000 in
set_option maxHeartbeats 400000 in
theorem markText_any (k : Nat) (w : World) (h0 : 0 < k) (h1 : k ≤ 1125899906842624) :
    Calls Tryz.prog 32 #[.int .i64 k] w fun e w' => e = .returned (.string (mtext k)) ∧ Below w.heap.size w w' := by
  have h0' : ¬ (k : Int) ≤ 0 := by omega
  have h1' : (k : Int) ≤ 1125899906842624 := by omega
  have HT : Hid (mtext k = (⟨#[109]⟩ : ByteArray) ++ mtGo (k + 1) k ⟨#[]⟩) := rfl
  go_enter Tryz.func32, Tryz.ntmps32
  go_wp2_with fail
  go_loopw [0, 3] (fun n s wr => ∃ (q f : Nat) (t : ByteArray), n = .int .i64 q ∧ s = .string t ∧ q ≤ 1125899906842624 ∧ t.size + q ≤ 1125899906842624 ∧ Hid (q < f ∧ mtGo f q t = mtGo (k + 1) k ⟨#[]⟩) ∧ Below w.heap.size w wr) (fun n _ _ => (intOf n).toNat)
  case atStart => exact ⟨k, k + 1, ⟨#[]⟩, rfl, rfl, by omega, by simp [ByteArray.size]; omega, ⟨by omega, rfl⟩, Below.refl _ _⟩
  case round =>
    obtain ⟨q, f, t, rfl, rfl, hq, hts, HF, hbel⟩ := hrel
    by_cases hz : 0 < q
    · have hz' : (0 : Int) < (q : Int) := by omega
      have hcv := By.run_convert_own (P := Tryz.prog) (wr.alloc (.cells #[.int .u8 (48 + (q : Int) % 10)] 5)) wr.heap.size 54 5 9 Tryz.underlying54 Tryz.underlying5 Tryz.underlying9 (.slice (some ⟨wr.heap.size, 0, none⟩) 1 1) [48 + (q : Int) % 10] (own_one 5 wr wr.heap.size (48 + (q : Int) % 10) (Nat.le_refl _))
      have hs1 : (strOfNums [48 + (q : Int) % 10]).size = 1 := by rw [strOfNums_size]; rfl
      have hsz : ¬ 9223372036854775807 < (strOfNums [48 + (q : Int) % 10]).size + t.size := by rw [hs1]; omega
      have HS1 : Hid ((strOfNums [48 + (q : Int) % 10]).size = 1) := hs1
      have HE : Hid (∃ f', q / 10 < f' ∧ mtGo f' (q / 10) (strOfNums [48 + (q : Int) % 10] ++ t) = mtGo (k + 1) k ⟨#[]⟩) := by
        obtain ⟨e1, e2⟩ := HF.out
        cases f with
        | zero => omega
        | succ f =>
          refine ⟨f, by omega, ?_⟩
          rw [← e2]
          show _ = if q = 0 then t else mtGo f (q / 10) (strOfNums [48 + ((q % 10 : Nat) : Int)] ++ t)
          rw [if_neg (by omega)]
          rfl
      clear hs1 HF
      go_wp2_with fail
      obtain ⟨f', e1, e2⟩ := HE.out
      exact ⟨⟨q / 10, f', strOfNums [48 + (q : Int) % 10] ++ t, by simp, rfl, by omega, by rw [ByteArray.size_append, HS1.out]; omega, ⟨e1, e2⟩, hbel.alloc hbel.size _⟩, by simp [intOf]; omega⟩
    · have hz0 : q = 0 := by omega
      have HE : Hid (mtGo (k + 1) k ⟨#[]⟩ = t) := by
        show _ = _
        obtain ⟨e1, e2⟩ := HF.out
        rw [← e2, hz0]
        cases f with
        | zero => rfl
        | succ f => rfl
      have hz' : ¬ (0 : Int) < (q : Int) := by omega
      have hz2 : ¬ 0 < q := hz
      have hsz2 : ¬ 9223372036854775807 < 1 + t.size := by omega
      have hsz3 : ¬ 9223372036854775807 < (⟨#[109]⟩ : ByteArray).size + t.size := hsz2
      clear hz0
      go_wp2
      go_ret
      exact ⟨ret_str (by rw [HT.out, HE.out]), hbel⟩

/-- From w to w' only blocks from B on and below C were written, and new ones. -/
structure Mid (B C : Nat) (w w' : World) : Prop where
  os : w'.os = w.os
  tape : w'.tape = w.tape
  output : w'.output = w.output
  size : w.heap.size ≤ w'.heap.size
  block : ∀ k, k < w.heap.size → (k < B ∨ C ≤ k) → w'.heap[k]? = w.heap[k]?
theorem Mid.refl (B C : Nat) (w : World) : Mid B C w w := ⟨rfl, rfl, rfl, Nat.le_refl _, fun _ _ _ => rfl⟩
theorem Mid.trans {B C : Nat} {w w1 w2 : World} (h : Mid B C w w1) (g : Mid B C w1 w2) : Mid B C w w2 :=
  ⟨g.os.trans h.os, g.tape.trans h.tape, g.output.trans h.output, Nat.le_trans h.size g.size, fun k hk hn => (g.block k (Nat.lt_of_lt_of_le hk h.size) hn).trans (h.block k hk hn)⟩
theorem Mid.of_below {B C : Nat} {w w1 : World} (h : Below w.heap.size w w1) : Mid B C w w1 := ⟨h.os, h.tape, h.output, h.size, fun k hk _ => h.block k hk⟩
theorem Mid.set {B C : Nat} {w : World} {g : Nat} (h1 : B ≤ g) (h2 : g < C) (j : Nat) (x : Value) : Mid B C w (w.setCell ⟨g, j, none⟩ x) :=
  ⟨rfl, rfl, rfl, by simp, fun k _ hk => Below.heap_setCell w ⟨g, j, none⟩ x k (fun e => by have e' : k = g := e; omega)⟩
theorem Mid.below {B C : Nat} {w w1 : World} (h : Mid B C w w1) (hB : B ≤ w.heap.size) : Below B w w1 := ⟨h.os, h.tape, h.output, h.size, fun k hk => h.block k (Nat.lt_of_lt_of_le hk hB) (.inl hk)⟩
theorem own_mid {e : TypeId} {B C : Nat} {w w' : World} {v : Value} {zs : List Int} (h : OwnB e w C v zs) (hm : Mid B C w w') : OwnB e w' C v zs := by
  obtain ⟨hl, h⟩ := h
  refine ⟨hl, ?_⟩
  rcases h with h | ⟨g, cap, cur, rfl, h1, hg, h2⟩
  · exact .inl h
  · exact .inr ⟨g, cap, cur, rfl, h1, (hm.block g (Array.getElem?_eq_some_iff.1 hg).1 (.inr h1)).trans hg, h2⟩
/-- A block of n cells that may be written. -/
def Wr (w : World) (g n : Nat) : Prop := ∃ A t, w.heap[g]? = some (.cells A t (0, 0)) ∧ n ≤ A.size
theorem Wr.lt {w : World} {g n : Nat} (h : Wr w g n) : g < w.heap.size := by obtain ⟨A, t, h, _⟩ := h; exact (Array.getElem?_eq_some_iff.1 h).1
theorem Wr.below {w w' : World} {g n : Nat} (h : Wr w g n) (hb : Below w.heap.size w w') : Wr w' g n := by
  obtain ⟨A, t, h, hn⟩ := h
  exact ⟨A, t, (hb.block g (Array.getElem?_eq_some_iff.1 h).1).trans h, hn⟩
theorem Wr.set {w : World} {g n : Nat} (h : Wr w g n) (p j : Nat) (x : Value) : Wr (w.setCell ⟨p, j, none⟩ x) g n := by
  obtain ⟨A, t, h, hn⟩ := h
  by_cases e : p = g
  · subst e
    exact ⟨_, t, blk_set h j x, by rw [Array.size_setIfInBounds]; exact hn⟩
  · exact ⟨A, t, (blk_far (fun h => e h.symm) j x).trans h, hn⟩
theorem Wr.cell {w : World} {g n : Nat} (h : Wr w g n) {j : Nat} (hj : j < n) : (∃ x, w.cell? ⟨g, j, none⟩ = some x) ∧ w.frozen? ⟨g, j, none⟩ = false := by
  obtain ⟨A, t, h, hn⟩ := h
  obtain ⟨c, f⟩ := blk_cell h j (x := A[j]'(by omega)) (Array.getElem?_eq_getElem (by omega))
  exact ⟨⟨_, c⟩, f⟩
/-- What a mark keeps of the blocks that may be written. -/
def Kw (w w' : World) : Prop := ∀ g n, Wr w g n → Wr w' g n
theorem Kw.trans {w w1 w2 : World} (h : Kw w w1) (g : Kw w1 w2) : Kw w w2 := fun a n x => g a n (h a n x)
end Go.Proofs.YtakmgploimfhoaaGreatDoor.Rg
namespace Go.Proofs.YtakmgploimfhoaaGreatDoor.Rg
open Go.ChangeShapes Go.WideShapes Go.ChangeAt Go.RowKit Go.Deep
theorem open_rows {α : Type} [Inhabited α] {H : Type} {enc : TypeId × Value → H} {P : Program} {w : World} {base : Nat} {spare : Nat → Bool} {held : Bool} {t e : TypeId} {c : Nat} {E : World → Nat → Nat → α → Prop} {G : α → Prop}
    (hu : P.underlying t = some (.slice e)) (hce : P.cellsOf e = c) (h0 : 0 < c)
    (step : ∀ (n : Nat) (cs : List Value) (b o : Nat) (y : DataW H × List MemPlace), cs.length = c → (∀ j, j < c → w.cell? ⟨b, o + j, none⟩ = cs[j]?) → DataW.trod enc P w base spare held n e cs = some y → ∃ q, E w b o q ∧ G q)
    {fuel : Nat} {cs : List Value} {y : DataW H × List MemPlace} (hf : DataW.trod enc P w base spare held fuel t cs = some y) :
    ∃ v xs, cs = [v] ∧ RowG c E w v xs ∧ xs.length ≤ maxLen ∧ ∀ x ∈ xs, G x := by
  rcases open_slice hu hf with ⟨hcs, _⟩ | ⟨x, len, cap, m, n, D, Pl, hcs, _, hl, hm, hmm, _, hcell⟩
  · exact ⟨_, [], hcs, ⟨none, 0, rfl, .inl rfl⟩, by simp, fun _ hx => by cases hx⟩
  · have hlm : len ≤ m := by rw [hmm]; split <;> omega
    rw [hce] at hcell
    by_cases hz : len = 0
    · subst hz
      exact ⟨_, [], hcs, ⟨some x, cap, rfl, .inl rfl⟩, by simp, fun _ hx => by cases hx⟩
    obtain ⟨b, off, spot⟩ := x
    have hadd : ∀ (s : Nat) (j : Nat), (⟨b, s, none⟩ : Addr).add j = ⟨b, s + j, none⟩ := fun s j => by unfold Addr.add; split <;> simp_all
    have hspot : spot = none := by
      obtain ⟨cs', h1, _⟩ := hcell 0 (by omega)
      obtain ⟨_, hlen, hc⟩ := World.cells?_some h1
      have e0 := hc 0 h0
      rw [List.getElem?_eq_getElem (by omega)] at e0
      simpa [Addr.add] using World.cell?_spot e0
    subst hspot
    have hlt : b < w.heap.size := by
      obtain ⟨cs', h1, _⟩ := hcell 0 (by omega)
      obtain ⟨_, hlen, hc⟩ := World.cells?_some h1
      have e0 := hc 0 h0
      rw [List.getElem?_eq_getElem (by omega), hadd, hadd] at e0
      exact World.block_lt_of_cell? w _ e0
    have each : ∀ i, i < len → ∃ q : α, E w b (off + i * c) q ∧ G q := by
      intro i hi
      obtain ⟨cs', h1, h2⟩ := hcell i (by omega)
      obtain ⟨_, hlen, hc⟩ := World.cells?_some h1
      refine step n cs' b (off + i * c) _ hlen (fun j hj => ?_) h2
      have e0 := hc j hj
      rw [hadd, hadd] at e0
      exact e0
    obtain ⟨q, hq⟩ := choose_lt each
    have hrl : ((List.range len).map q).length = len := by simp
    refine ⟨_, (List.range len).map q, hcs, ⟨some ⟨b, off, none⟩, cap, by rw [hrl], .inr ⟨b, off, rfl, by rw [hrl]; exact hl, hlt, fun i x hi => ?_⟩⟩, by rw [hrl]; omega, fun x hx => ?_⟩
    · have hil : i < len := by have := (List.getElem?_eq_some_iff.1 hi).1; rw [hrl] at this; exact this
      simp [hil] at hi
      subst hi
      exact (hq i hil).1
    · obtain ⟨i, hi, rfl⟩ := List.mem_map.1 hx
      exact (hq i (List.mem_range.1 hi)).2
theorem cell_eq {w : World} {b o : Nat} {cs : List Value} {c : Nat} (h : ∀ j, j < c → w.cell? ⟨b, o + j, none⟩ = cs[j]?) (j : Nat) (hj : j < c) {v : Value} (hv : cs[j]? = some v) : w.cell? ⟨b, o + j, none⟩ = some v := (h j hj).trans hv
end Go.Proofs.YtakmgploimfhoaaGreatDoor.Rg

/- Integers in a slice: read, copied, compared. -/
namespace Go.Proofs.YtakmgploimfhoaaGreatDoor.Is
open Go.RowKit Go.Proofs.YtakmgploimfhoaaGreatDoor.Sl

/-- The slice v holds the integers xs (whatever room lies behind them). -/
def RowI (w : World) (v : Value) (xs : List Int) : Prop :=
  ∃ a cap, v = .slice a xs.length cap ∧ (xs = [] ∨ ∃ b off, a = some ⟨b, off, none⟩ ∧ xs.length ≤ cap ∧ b < w.heap.size ∧ ∀ i, i < xs.length → w.cell? ⟨b, off + i, none⟩ = some (.int .i64 (nth xs i))) ∧ ∀ x ∈ xs, -9223372036854775808 ≤ x ∧ x ≤ 9223372036854775807
theorem RowI.below {w w' : World} {v : Value} {xs : List Int} (h : RowI w v xs) (hb : Below w.heap.size w w') : RowI w' v xs := by
  obtain ⟨a, cap, rfl, h, hr⟩ := h
  refine ⟨a, cap, rfl, ?_, hr⟩
  rcases h with h | ⟨b, off, rfl, hc, hlt, h⟩
  · exact .inl h
  · exact .inr ⟨b, off, rfl, hc, Nat.lt_of_lt_of_le hlt hb.size, fun i hi => (hb.cell (p := ⟨b, off + i, none⟩) hlt).trans (h i hi)⟩
theorem info3 : (Tryz.prog.info? 3).map (fun i => (i.zero, i.size, i.bytes)) = some (some (.int .i64 0), 1, 8) := by kernel_rfl
theorem nth_at {xs : List Int} {i : Nat} (h : i < xs.length) : xs[i]? = some (nth xs i) := by
  unfold nth; rw [List.getD_eq_getElem?_getD, List.getElem?_eq_getElem h]; rfl
theorem nth_mem {xs : List Int} {i : Nat} (h : i < xs.length) : nth xs i ∈ xs := List.mem_of_getElem? (nth_at h)
/-- Integers in a slice of the call's own that may have room behind. -/
def OwnI (w : World) (B : Nat) (v : Value) (xs : List Int) : Prop := w.ownsRow B 3 1 v xs.length (xs.map (Value.int .i64))
theorem OwnI.row {w : World} {B : Nat} {v : Value} {xs : List Int} (h : OwnI w B v xs) (hr : ∀ x ∈ xs, -9223372036854775808 ≤ x ∧ x ≤ 9223372036854775807) : RowI w v xs := by
  obtain ⟨hl, h⟩ := h
  rcases h with ⟨rfl, h0⟩ | ⟨g, cap, cur, rfl, hB, hg, hc, _, hs, htk⟩
  · exact ⟨none, 0, by rw [h0], .inl (List.length_eq_zero_iff.1 h0), hr⟩
  · refine ⟨_, cap, rfl, .inr ⟨g, 0, rfl, hc, (Array.getElem?_eq_some_iff.1 hg).1, fun i hi => ?_⟩, hr⟩
    have h1 : (cur.toList.take (xs.length * 1))[i]? = some (.int .i64 (nth xs i)) := by
      rw [htk, List.getElem?_map, nth_at hi]; rfl
    rw [List.getElem?_take] at h1
    split at h1
    · simp only [World.cell?, hg, Nat.zero_add]
      simpa using h1
    · cases h1

end Go.Proofs.YtakmgploimfhoaaGreatDoor.Is

/- Nodes that rise: a quorum of them. -/
namespace Go.Proofs.YtakmgploimfhoaaGreatDoor.Xq
open Go.RowKit Go.Proofs.YtakmgploimfhoaaGreatDoor.Tm
open Go.Proofs.YtakmgploimfhoaaGreatDoor.Qm (qOut inB)

noncomputable def bOf (p : Prop) : Bool := @decide p (Classical.propDecidable p)
theorem bOf_true {p : Prop} (h : p) : bOf p = true := by unfold bOf; simp [h]
theorem bOf_false {p : Prop} (h : ¬ p) : bOf p = false := by unfold bOf; simp [h]
theorem bOf_iff {p : Prop} : bOf p = true ↔ p := by unfold bOf; simp
theorem bOf_eq {p : Prop} {b : Bool} (h : b = true ↔ p) : b = bOf p := by
  cases b with
  | true => exact (bOf_true (h.1 rfl)).symm
  | false => exact (bOf_false (fun hp => by have := h.2 hp; cases this)).symm
/-- A number is one of n nodes. -/
def okN (id n : Int) : Bool := decide (fCode n = 0) && inB id 0 (n - 1)
def isV (n x : Int) : Bool := okN x n
def frn (x : Int) : Nat := x.toNat
theorem f_small {n : Int} (h : fCode n = 0) : 1 ≤ n ∧ n ≤ 7 := by
  rcases f_cases n with rfl | rfl | rfl | ⟨_, _, _, _, hd⟩
  · decide
  · decide
  · decide
  · rw [hd] at h; cases h
theorem f_four {n : Int} (h : ¬ fCode n = 0) : fCode n = 4 := by
  rcases f_cases n with rfl | rfl | rfl | ⟨_, _, _, _, hd⟩
  · exact absurd rfl h
  · exact absurd rfl h
  · exact absurd rfl h
  · exact hd
theorem okN_iff {n x : Int} : okN x n = true ↔ fCode n = 0 ∧ 0 ≤ x ∧ x ≤ n - 1 := by
  unfold okN inB; simp
theorem isV_frn {n : Int} {x : Int} (h : isV n x = true) : x = (frn x : Int) ∧ frn x < 7 := by
  obtain ⟨h1, h2, h3⟩ := okN_iff.1 h
  have := f_small h1
  unfold frn
  omega
/-- The set of the first k, as bits. -/
def msk (ms : List Int) : Nat → Nat
  | 0 => 0
  | k + 1 => msk ms k ||| 2 ^ frn (ms.getD k default)
theorem msk_step {ms : List Int} {k : Nat} {x : Int} (h : ms[k]? = some x) : msk ms (k + 1) = msk ms k ||| 2 ^ frn x := by
  show msk ms k ||| 2 ^ frn (ms.getD k default) = _
  rw [List.getD_eq_getElem?_getD, h]; rfl
theorem or_add {h i : Nat} (hh : h < 2 ^ i) : h ||| 2 ^ i = 2 ^ i + h := by
  have := Nat.two_pow_add_eq_or_of_lt hh 1
  simp at this
  rw [this, Nat.or_comm]
theorem pop_step : ∀ h : Fin 128, ∀ i : Fin 7, h.val < 2 ^ i.val → Lib.onesCount (h.val ||| 2 ^ i.val) = Lib.onesCount h.val + 1 := by decide +kernel
theorem pop_zero : Lib.onesCount 0 = 0 := by decide +kernel
/-- The first k are votes, each behind all those ahead of it. -/
def GoodTo (n : Int) (ms : List Int) (k : Nat) : Prop := ∀ j x, j < k → ms[j]? = some x → isV n x = true ∧ msk ms j < 2 ^ frn x
def Rise (ms : List Int) (k : Nat) : Prop := ∀ j x y, j + 1 < k → ms[j]? = some x → ms[j + 1]? = some y → x < y
theorem GoodTo.zero (n : Int) (ms : List Int) : GoodTo n ms 0 := fun j x h => by omega
theorem GoodTo.succ {n : Int} {ms : List Int} {k : Nat} {x : Int} (h : GoodTo n ms k) (hx : ms[k]? = some x) (h1 : isV n x = true) (h2 : msk ms k < 2 ^ frn x) : GoodTo n ms (k + 1) := fun j y hj hy => by
  by_cases e : j = k
  · subst e; rw [hx] at hy; cases hy; exact ⟨h1, h2⟩
  · exact h j y (by omega) hy
theorem GoodTo.less {n : Int} {ms : List Int} {k m : Nat} (h : GoodTo n ms k) (hm : m ≤ k) : GoodTo n ms m := fun j y hj hy => h j y (by omega) hy
theorem pow_le7 {i : Nat} (h : i < 7) : 2 ^ i + 2 ^ i ≤ 128 := by
  have : ∀ i : Fin 7, 2 ^ i.val + 2 ^ i.val ≤ 128 := by decide
  exact this ⟨i, h⟩
theorem good_msk {n : Int} {ms : List Int} : ∀ {k : Nat}, GoodTo n ms k → k ≤ ms.length → msk ms k < 128 ∧ Lib.onesCount (msk ms k) = k ∧ ∀ i, i ≤ 7 → ((∀ j x, j < k → ms[j]? = some x → frn x < i) ↔ msk ms k < 2 ^ i)
  | 0, _, _ => ⟨by show (0 : Nat) < 128; decide, pop_zero, fun i _ => ⟨fun _ => Nat.two_pow_pos i, fun _ j x h => by omega⟩⟩
  | k + 1, h, hk => by
    obtain ⟨x, hx⟩ := Rg.get_at (show k < ms.length by omega)
    obtain ⟨h1, h2, h3⟩ := good_msk (h.less (Nat.le_succ k)) (by omega)
    obtain ⟨g1, g2⟩ := h k x (by omega) hx
    obtain ⟨_, g3⟩ := isV_frn g1
    rw [msk_step hx]
    have e := or_add g2
    have p := pow_le7 g3
    refine ⟨by omega, ?_, fun i hi => ?_⟩
    · have := pop_step ⟨msk ms k, h1⟩ ⟨frn x, g3⟩ g2
      simp only at this
      rw [this, h2]
    · rw [e]
      constructor
      · intro hh
        have hf := hh k x (by omega) hx
        have : 2 ^ (frn x + 1) ≤ 2 ^ i := Nat.pow_le_pow_right (by decide) hf
        rw [Nat.pow_succ] at this
        omega
      · intro hh j y hj hy
        have hfi : frn x < i := by
          refine Nat.lt_of_not_le fun hle => ?_
          have : 2 ^ i ≤ 2 ^ frn x := Nat.pow_le_pow_right (by decide) hle
          omega
        by_cases ej : j = k
        · subst ej; rw [hx] at hy; cases hy; exact hfi
        · exact Nat.lt_trans ((h3 (frn x) (by omega)).2 g2 j y (by omega) hy) hfi
theorem good_all {n : Int} {ms : List Int} : ∀ {k : Nat}, k ≤ ms.length → (GoodTo n ms k ↔ (∀ j x, j < k → ms[j]? = some x → isV n x = true) ∧ Rise ms k)
  | 0, _ => ⟨fun _ => ⟨fun j x h => by omega, fun j x y h => by omega⟩, fun _ => GoodTo.zero n ms⟩
  | k + 1, hk => by
    obtain ⟨x, hx⟩ := Rg.get_at (show k < ms.length by omega)
    have ih := good_all (n := n) (ms := ms) (show k ≤ ms.length by omega)
    constructor
    · intro h
      obtain ⟨a1, a2⟩ := ih.1 (h.less (Nat.le_succ k))
      refine ⟨fun j y hj hy => (h j y hj hy).1, fun j y z hj hy hz => ?_⟩
      by_cases ej : j + 1 = k
      · subst ej
        rw [hx] at hz; cases hz
        obtain ⟨g1, g2⟩ := h (j + 1) x (by omega) hx
        have g0 := (h j y (by omega) hy).1
        have := ((good_msk (h.less (Nat.le_succ (j + 1))) (by omega)).2.2 (frn x) (by have := (isV_frn g1).2; omega)).2 g2 j y (by omega) hy
        rw [(isV_frn g0).1, (isV_frn g1).1]
        omega
      · exact a2 j y z (by omega) hy hz
    · rintro ⟨a1, a2⟩
      have h := ih.2 ⟨fun j y hj hy => a1 j y (by omega) hy, fun j y z hj hy hz => a2 j y z (by omega) hy hz⟩
      refine h.succ hx (a1 k x (by omega) hx) ?_
      obtain ⟨_, _, h3⟩ := good_msk h (by omega)
      have g1 := a1 k x (by omega) hx
      refine (h3 (frn x) (by have := (isV_frn g1).2; omega)).1 fun j y hj hy => ?_
      by_cases ek : k = 0
      · omega
      obtain ⟨m, rfl⟩ : ∃ m, k = m + 1 := ⟨k - 1, by omega⟩
      obtain ⟨z, hz⟩ := Rg.get_at (show m < ms.length by omega)
      have hzx := a2 m z x (by omega) hz hx
      have gz := a1 m z (by omega) hz
      have hzx' : frn z < frn x := by rw [(isV_frn gz).1, (isV_frn g1).1] at hzx; omega
      by_cases ej : j = m
      · subst ej; rw [hz] at hy; cases hy; exact hzx'
      · have hp := (h m z (by omega) hz).2
        have := ((good_msk (h.less (Nat.le_succ m)) (by omega)).2.2 (frn z) (by have := (isV_frn gz).2; omega)).2 hp j y (by omega) hy
        omega
/-- Just a quorum of votes of different nodes, rising. -/
noncomputable def qvB (n : Int) (ms : List Int) : Bool := bOf (GoodTo n ms ms.length) && (decide (fCode n = 0) && decide ((Lib.onesCount (msk ms ms.length) : Int) = qOut n))
theorem qv_not {n : Int} {ms : List Int} {k : Nat} {x : Int} (hx : ms[k]? = some x) (h : ¬ (isV n x = true ∧ msk ms k < 2 ^ frn x)) : qvB n ms = false := by
  unfold qvB
  rw [bOf_false (fun hg => h (hg k x (Rg.lt_at hx) hx))]; rfl
theorem qv_end {n : Int} {ms : List Int} (h : GoodTo n ms ms.length) : qvB n ms = (decide (fCode n = 0) && decide ((Lib.onesCount (msk ms ms.length) : Int) = qOut n)) := by
  unfold qvB; rw [bOf_true h]; rfl
theorem qv_iff {n : Int} {ms : List Int} : qvB n ms = true ↔ fCode n = 0 ∧ (ms.length : Int) = qOut n ∧ (∀ x ∈ ms, isV n x = true) ∧ Rise ms ms.length := by
  unfold qvB
  rw [Bool.and_eq_true, Bool.and_eq_true, bOf_iff, decide_eq_true_eq, decide_eq_true_eq]
  constructor
  · rintro ⟨h1, h2, h3⟩
    rw [(good_msk h1 (Nat.le_refl _)).2.1] at h3
    obtain ⟨a1, a2⟩ := (good_all (Nat.le_refl _)).1 h1
    refine ⟨h2, h3, fun x hx => ?_, a2⟩
    obtain ⟨j, hj, e⟩ := List.getElem_of_mem hx
    exact a1 j x hj (by rw [List.getElem?_eq_getElem hj, e])
  · rintro ⟨h1, h2, h3, h4⟩
    have hg : GoodTo n ms ms.length := (good_all (Nat.le_refl _)).2 ⟨fun j x hj hx => h3 x (List.mem_of_getElem? hx), h4⟩
    refine ⟨hg, h1, ?_⟩
    rw [(good_msk hg (Nat.le_refl _)).2.1]
    exact h2
theorem ret_b {a b : Bool} (h : a = b) : Ending.returned (.bool a) = .returned (.bool b) := by rw [h]
theorem ret_v {a b : Value} (h : a = b) : Ending.returned a = .returned b := by rw [h]
theorem ones_int (x : Int) (w : World) (h0 : 0 ≤ x) (h1 : x ≤ 255) : Calls Tryz.prog 116 #[.int .u8 x] w fun e w' => e = .returned (.int .i64 (Lib.onesCount x.toNat)) ∧ w' = w := by
  have e : wrap64 (Lib.pop8 x) = (Lib.onesCount x.toNat : Int) := by unfold wrap64; exact Lib.pop8_int x h0 h1
  rw [← e]
  clear e
  go_enter Tryz.func116, Tryz.ntmps116
  go_wp2
  go_ret
  exact ⟨rfl, rfl⟩
theorem ones_any (h : Nat) (w : World) (hh : h < 128) : Calls Tryz.prog 116 #[.int .u8 h] w fun e w' => e = .returned (.int .i64 (Lib.onesCount h)) ∧ w = w' :=
  (ones_int h w (by omega) (by omega)).mono fun e w' he => ⟨by rw [he.1, Int.toNat_natCast], he.2.symm⟩
theorem shr_lt : ∀ h : Fin 128, ∀ i : Fin 7, ((h.val / 2 ^ i.val == 0) = decide (h.val < 2 ^ i.val)) := by decide +kernel
set_option maxRecDepth 100000 in
theorem allBelow_any (h i : Nat) (w : World) (hh : h < 128) (hi : i < 7) : Calls Tryz.prog 95 #[.int .u8 h, .int .i64 i] w fun e w' => e = .returned (.bool (decide (h < 2 ^ i))) ∧ w = w' := by
  have hk : ∀ i : Nat, i < 7 → i = 0 ∨ i = 1 ∨ i = 2 ∨ i = 3 ∨ i = 4 ∨ i = 5 ∨ i = 6 := fun i h => by omega
  have hs := shr_lt ⟨h, hh⟩ ⟨i, hi⟩
  simp only at hs
  rw [← hs]
  clear hs
  rcases hk i hi with rfl | rfl | rfl | rfl | rfl | rfl | rfl
  all_goals
    go_enter Tryz.func95, Tryz.ntmps95
    go_wp2_with fail
    go_ret
    refine ⟨ret_b ?_, rfl⟩
    rw [Bool.eq_iff_iff, beq_iff_eq, beq_iff_eq]
    simp only [Nat.reducePow]
    omega
theorem with_or : ∀ h : Fin 128, ∀ i : Fin 7, bits .or .u8 (h.val : Int) ((2 ^ i.val : Nat) : Int) = ((h.val ||| 2 ^ i.val : Nat) : Int) := by decide +kernel
set_option maxRecDepth 100000 in
theorem with_any (h i : Nat) (w : World) (hh : h < 128) (hi : i < 7) : Calls Tryz.prog 96 #[.int .u8 h, .int .i64 i] w fun e w' => e = .returned (.int .u8 ((h ||| 2 ^ i : Nat) : Int)) ∧ w = w' := by
  have hk : ∀ i : Nat, i < 7 → i = 0 ∨ i = 1 ∨ i = 2 ∨ i = 3 ∨ i = 4 ∨ i = 5 ∨ i = 6 := fun i h => by omega
  rcases hk i hi with rfl | rfl | rfl | rfl | rfl | rfl | rfl
  all_goals
    go_enter Tryz.func96, Tryz.ntmps96
    go_wp2_with fail
    go_ret
    refine ⟨ret_v ?_, rfl⟩
    exact congrArg (Value.int .u8) (with_or ⟨h, hh⟩ ⟨_, hi⟩)
theorem isQuorum_any (h : Nat) (n : Int) (w : World) (hh : h < 128) : Calls Tryz.prog 97 #[.int .u8 h, .int .i64 n] w fun e w' => e = .returned (.bool (decide (fCode n = 0) && decide ((Lib.onesCount h : Int) = qOut n))) ∧ w = w' := by
  have HO := ones_any h w hh
  have HQ := Qm.implQuorumOf_any n w
  by_cases hf : fCode n = 0
  · rw [hf] at HQ ⊢
    generalize (Lib.onesCount h : Int) = oc at HO ⊢
    generalize qOut n = q at HQ ⊢
    go_enter Tryz.func97, Tryz.ntmps97
    go_wp2_with fail
    refine HQ.mono ?_
    rintro e w1 ⟨rfl, rfl⟩
    go_wp2_with fail
    refine HO.mono ?_
    rintro e w1 ⟨rfl, rfl⟩
    go_wp2_with fail
    go_ret
    exact ⟨ret_b (by rw [Bool.eq_iff_iff, beq_iff_eq, Bool.and_eq_true, decide_eq_true_eq, decide_eq_true_eq]; simp), rfl⟩
  · have hf' : (fCode n == 0) = false := by simp [hf]
    rw [decide_eq_false hf]
    generalize fCode n = fc at HQ hf hf'
    generalize qOut n = q at HQ
    go_enter Tryz.func97, Tryz.ntmps97
    go_wp2_with fail
    refine HQ.mono ?_
    rintro e w1 ⟨rfl, rfl⟩
    go_wp2_with fail
    go_ret
    exact ⟨ret_b (by simp), rfl⟩
set_option maxRecDepth 100000 in
set_option maxHeartbeats 1600000 in
theorem isNode_any (id n : Int) (w : World) : Calls Tryz.prog 94 #[.int .i64 n, .int .i64 id] w fun e w' => e = .returned (.bool (okN id n)) ∧ w = w' := by
  by_cases h : fCode n = 0
  · have hb := f_small h
    have HO : Hid (okN id n = inB id 0 (n - 1)) := by show _ = _; unfold okN; rw [decide_eq_true h]; rfl
    rw [HO.out]
    have HF := implFaultsOf_any n w
    rw [h] at HF
    clear h
    go_enter Tryz.func94, Tryz.ntmps94
    go_wp2_with fail
    refine HF.mono ?_
    rintro e w1 ⟨rfl, hw⟩
    rw [hw]
    clear hw
    go_wp2_with fail
    refine (Qm.within_any id 0 (n - 1) w).mono ?_
    rintro e w2 ⟨rfl, rfl⟩
    go_wp2_with fail
    go_ret
    exact ⟨by simp, rfl⟩
  · have HO : Hid (okN id n = false) := by show _ = _; unfold okN; rw [decide_eq_false h]; rfl
    rw [HO.out]
    have h4 : fCode n = 4 := f_four h
    have HF := implFaultsOf_any n w
    rw [h4] at HF
    clear h h4
    go_enter Tryz.func94, Tryz.ntmps94
    go_wp2_with fail
    refine HF.mono ?_
    rintro e w1 ⟨rfl, hw⟩
    rw [hw]
    clear hw
    go_wp2_with fail
    go_ret
    exact ⟨rfl, rfl⟩
end Go.Proofs.YtakmgploimfhoaaGreatDoor.Xq
