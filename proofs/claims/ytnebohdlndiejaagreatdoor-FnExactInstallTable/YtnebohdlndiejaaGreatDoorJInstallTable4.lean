/- Texts put together: Tm, Qm, Rg, Is, Xb, Xcr. -/
import Derived.Test.YtnebohdlndiejaaGreatDoorRows
import Derived.WalkKit
import Derived.ProofKit
import Derived.WalkSpells
import Derived.Below
import Derived.Laws.NewBlocks
import Derived.Test.YtnebohdlndiejaaGreatDoorAp
import Derived.Test.YtnebohdlndiejaaGreatDoorQc
import Derived.Lib.SmallJoins
import Derived.Laws.MakeOwn
import Derived.Deep.QuietTactic
import Derived.BigQuiet
import Derived.Deep.Slices
import Derived.Deep.Fields23
import Derived.OpenShut
import Derived.Deep.RegionLaw
import Derived.BigRegion
import Derived.Laws.ResultCell
import Derived.Deep.CutRange
import Derived.Deep.DeepCutAuto
import Derived.Deep.RegionWith
import Derived.Test.YtnebohdlndiejaaGreatDoorSl
import Derived.ShutString
import Derived.Deep.Fields
import Derived.Lib.BitFns
import Derived.Lib.Strings
import Derived.Lib.Slices
import Derived.Lib.Small
import Derived.Lib.Walk
import Derived.Maps.AppendAt
/- FaultsOf and AddTime, of the program and of the specification. -/
namespace Go.Proofs.YtnebohdlndiejaaGreatDoor.Tm
open Go.RowKit

/-- What FaultsOf answers. -/
def fOut (n : Int) : Int := if n = 1 then 0 else if n = 4 then 1 else if n = 7 then 2 else 0
def fCode (n : Int) : Int := if n = 1 ∨ n = 4 ∨ n = 7 then 0 else 4
/-- What AddTime answers. -/
def adT (a b : Int) : Int := min (max a 0 + max b 0) 9223372036854775807
theorem ret_i {a b : Int} (h : a = b) : Ending.returned (.int .i64 a) = .returned (.int .i64 b) := by rw [h]
theorem ret_ii {a b c d : Int} (h : a = c ∧ b = d) : Ending.returned (.tuple #[.int .i64 a, .int .i64 b]) = .returned (.tuple #[.int .i64 c, .int .i64 d]) := by rw [h.1, h.2]
theorem f_cases (n : Int) : n = 1 ∨ n = 4 ∨ n = 7 ∨ (n ≠ 1 ∧ n ≠ 4 ∧ n ≠ 7 ∧ fOut n = 0 ∧ fCode n = 4) := by
  by_cases h1 : n = 1
  · exact .inl h1
  by_cases h2 : n = 4
  · exact .inr (.inl h2)
  by_cases h3 : n = 7
  · exact .inr (.inr (.inl h3))
  refine .inr (.inr (.inr ⟨h1, h2, h3, ?_, ?_⟩))
  · unfold fOut; rw [if_neg h1, if_neg h2, if_neg h3]
  · unfold fCode; rw [if_neg (by omega)]
set_option maxRecDepth 100000 in
set_option maxHeartbeats 400000 in
theorem implFaultsOf_any (n : Int) (w : World) : Calls Tryz.prog 101 #[.int .i64 n] w fun e w' => e = .returned (.tuple #[.int .i64 (fOut n), .int .i64 (fCode n)]) ∧ w' = w := by
  rcases f_cases n with rfl | rfl | rfl | ⟨h1, h2, h3, e1, e2⟩
  · go_enter Tryz.func101, Tryz.ntmps101
    go_wp2
    go_ret2
    exact ⟨ret_ii ⟨by decide, by decide⟩, rfl⟩
  · go_enter Tryz.func101, Tryz.ntmps101
    go_wp2
    go_ret2
    exact ⟨ret_ii ⟨by decide, by decide⟩, rfl⟩
  · go_enter Tryz.func101, Tryz.ntmps101
    go_wp2
    go_ret2
    exact ⟨ret_ii ⟨by decide, by decide⟩, rfl⟩
  · have HE : Hid (fOut n = 0 ∧ fCode n = 4) := ⟨e1, e2⟩
    have b1 : (n == 1) = false := by simpa using h1
    have b2 : (n == 4) = false := by simpa using h2
    have b3 : (n == 7) = false := by simpa using h3
    clear h1 h2 h3 e1 e2
    go_enter Tryz.func101, Tryz.ntmps101
    go_wp2
    go_ret2
    exact ⟨ret_ii ⟨HE.out.1.symm, HE.out.2.symm⟩, rfl⟩
end Go.Proofs.YtnebohdlndiejaaGreatDoor.Tm

/- QuorumOf and PrimaryOf, of the program and of the specification. -/
namespace Go.Proofs.YtnebohdlndiejaaGreatDoor.Qm
open Go.RowKit Go.Proofs.YtnebohdlndiejaaGreatDoor.Tm

/-- What QuorumOf and PrimaryOf answer. -/
def qOut (n : Int) : Int := if n = 1 then 1 else if n = 4 then 3 else if n = 7 then 5 else 0
def pOut (v n : Int) : Int := if fCode n = 0 ∧ 0 ≤ v ∧ v ≤ 20 then v % n else 0
def pCode (v n : Int) : Int := if fCode n = 0 ∧ 0 ≤ v ∧ v ≤ 20 then 0 else 4
def inB (x a b : Int) : Bool := decide (a ≤ x ∧ x ≤ b)
theorem ret_bool {a b : Bool} (h : a = b) : Ending.returned (.bool a) = .returned (.bool b) := by rw [h]
theorem within_any (x a b : Int) (w : World) :
    Calls Tryz.prog 66 #[.int .i64 x, .int .i64 a, .int .i64 b] w fun e w' => e = .returned (.bool (inB x a b)) ∧ w = w' := by
  by_cases h1 : a ≤ x
  · by_cases h2 : x ≤ b
    all_goals
      go_enter Tryz.func66, Tryz.ntmps66
      go_wp2
      go_ret
      exact ⟨ret_bool (by unfold inB; rw [Bool.eq_iff_iff]; simp; try omega), rfl⟩
  · go_enter Tryz.func66, Tryz.ntmps66
    go_wp2
    go_ret
    exact ⟨ret_bool (by unfold inB; rw [Bool.eq_iff_iff]; simp; try omega), rfl⟩
theorem l01In_any (x a b : Int) (w : World) :
    Calls Tryz.prog 29 #[.int .i64 x, .int .i64 a, .int .i64 b] w fun e w' => e = .returned (.bool (inB x a b)) ∧ w = w' := by
  by_cases h1 : a ≤ x
  · by_cases h2 : x ≤ b
    all_goals
      go_enter Tryz.func29, Tryz.ntmps29
      go_wp2
      go_ret
      exact ⟨ret_bool (by unfold inB; rw [Bool.eq_iff_iff]; simp; try omega), rfl⟩
  · go_enter Tryz.func29, Tryz.ntmps29
    go_wp2
    go_ret
    exact ⟨ret_bool (by unfold inB; rw [Bool.eq_iff_iff]; simp; try omega), rfl⟩
theorem q_none {n : Int} (h1 : n ≠ 1) (h2 : n ≠ 4) (h3 : n ≠ 7) : qOut n = 0 := by unfold qOut; rw [if_neg h1, if_neg h2, if_neg h3]
set_option maxRecDepth 100000 in
set_option maxHeartbeats 400000 in
theorem implQuorumOf_any (n : Int) (w : World) : Calls Tryz.prog 137 #[.int .i64 n] w fun e w' => e = .returned (.tuple #[.int .i64 (qOut n), .int .i64 (fCode n)]) ∧ w = w' := by
  rcases f_cases n with rfl | rfl | rfl | ⟨h1, h2, h3, e1, e2⟩
  · have C : Calls Tryz.prog 101 #[.int .i64 1] w fun e w' => e = .returned (.tuple #[.int .i64 0, .int .i64 0]) ∧ w' = w := implFaultsOf_any 1 w
    go_enter Tryz.func137, Tryz.ntmps137
    go_wp2_with fail
    refine C.mono ?_
    rintro e w1 ⟨rfl, rfl⟩
    go_wp2_with fail
    go_ret2
    exact ⟨ret_ii ⟨by decide, by decide⟩, rfl⟩
  · have C : Calls Tryz.prog 101 #[.int .i64 4] w fun e w' => e = .returned (.tuple #[.int .i64 1, .int .i64 0]) ∧ w' = w := implFaultsOf_any 4 w
    go_enter Tryz.func137, Tryz.ntmps137
    go_wp2_with fail
    refine C.mono ?_
    rintro e w1 ⟨rfl, rfl⟩
    go_wp2_with fail
    go_ret2
    exact ⟨ret_ii ⟨by decide, by decide⟩, rfl⟩
  · have C : Calls Tryz.prog 101 #[.int .i64 7] w fun e w' => e = .returned (.tuple #[.int .i64 2, .int .i64 0]) ∧ w' = w := implFaultsOf_any 7 w
    go_enter Tryz.func137, Tryz.ntmps137
    go_wp2_with fail
    refine C.mono ?_
    rintro e w1 ⟨rfl, rfl⟩
    go_wp2_with fail
    go_ret2
    exact ⟨ret_ii ⟨by decide, by decide⟩, rfl⟩
  · have C : Calls Tryz.prog 101 #[.int .i64 n] w fun e w' => e = .returned (.tuple #[.int .i64 0, .int .i64 4]) ∧ w' = w := by have := implFaultsOf_any n w; rwa [e1, e2] at this
    have HE : Hid (qOut n = 0 ∧ fCode n = 4) := ⟨q_none h1 h2 h3, e2⟩
    clear h1 h2 h3 e1 e2
    go_enter Tryz.func137, Tryz.ntmps137
    go_wp2_with fail
    refine C.mono ?_
    rintro e w1 ⟨rfl, rfl⟩
    go_wp2_with fail
    go_ret2
    exact ⟨ret_ii ⟨HE.out.1.symm, HE.out.2.symm⟩, rfl⟩
set_option maxRecDepth 100000 in
set_option maxHeartbeats 400000 in
theorem l04Nodes_any (n : Int) (w : World) : Calls Tryz.prog 28 #[.int .i64 n] w fun e w' => e = .returned (.bool (decide (fCode n = 0))) ∧ w = w' := by
  rcases f_cases n with rfl | rfl | rfl | ⟨h1, h2, h3, _, hc⟩
  · go_enter Tryz.func28, Tryz.ntmps28
    go_wp2_with fail
    go_ret
    exact ⟨rfl, rfl⟩
  · go_enter Tryz.func28, Tryz.ntmps28
    go_wp2_with fail
    go_ret
    exact ⟨rfl, rfl⟩
  · go_enter Tryz.func28, Tryz.ntmps28
    go_wp2_with fail
    go_ret
    exact ⟨rfl, rfl⟩
  · have HC : Hid (fCode n = 4) := hc
    clear hc
    go_enter Tryz.func28, Tryz.ntmps28
    go_wp2_with fail
    go_ret
    exact ⟨by rw [HC.out]; simp [h1, h2, h3], rfl⟩
set_option maxRecDepth 100000 in
set_option maxHeartbeats 400000 in
theorem l06Quorum_any (n : Int) (w : World) (h : fCode n = 0) : Calls Tryz.prog 31 #[.int .i64 n] w fun e w' => e = .returned (.int .i64 (qOut n)) ∧ w = w' := by
  rcases f_cases n with rfl | rfl | rfl | ⟨h1, h2, h3, _, hc⟩
  · go_enter Tryz.func31, Tryz.ntmps31
    go_wp2_with fail
    go_ret
    exact ⟨rfl, rfl⟩
  · go_enter Tryz.func31, Tryz.ntmps31
    go_wp2_with fail
    go_ret
    exact ⟨rfl, rfl⟩
  · go_enter Tryz.func31, Tryz.ntmps31
    go_wp2_with fail
    go_ret
    exact ⟨rfl, rfl⟩
  · rw [hc] at h; cases h
theorem p_none {v n : Int} (h : ¬ (fCode n = 0 ∧ 0 ≤ v ∧ v ≤ 20)) : pOut v n = 0 ∧ pCode v n = 4 := by unfold pOut pCode; rw [if_neg h, if_neg h]; exact ⟨rfl, rfl⟩
theorem p_some {v n : Int} (h : fCode n = 0 ∧ 0 ≤ v ∧ v ≤ 20) : pOut v n = v % n ∧ pCode v n = 0 := by unfold pOut pCode; rw [if_pos h, if_pos h]; exact ⟨rfl, rfl⟩
end Go.Proofs.YtnebohdlndiejaaGreatDoor.Qm

/- Rows of things of several cells; memory that may be written; the laws' marks of texts. -/
namespace Go.Proofs.YtnebohdlndiejaaGreatDoor.Rg
open Go.RowKit Go.Proofs.YtnebohdlndiejaaGreatDoor.Sl Go.Proofs.YtnebohdlndiejaaGreatDoor.By Go.Proofs.YtnebohdlndiejaaGreatDoor.Ap

theorem size_new (w : World) (o : Obj) : (w.alloc o).heap.size = w.heap.size + 1 := by simp
theorem blk_cell {w : World} {b : Nat} {cs : Array Value} {t : TypeId} (h : w.heap[b]? = some (.cells cs t (0, 0))) (i : Nat) {x : Value} (hx : cs[i]? = some x) : w.cell? ⟨b, i, none⟩ = some x ∧ w.frozen? ⟨b, i, none⟩ = false := by
  refine ⟨(Joins.cell_of_block h i).trans hx, ?_⟩
  simp [World.frozen?, h]
theorem blk_set {w : World} {b : Nat} {cs : Array Value} {t : TypeId} (h : w.heap[b]? = some (.cells cs t (0, 0))) (i : Nat) (x : Value) : (w.setCell ⟨b, i, none⟩ x).heap[b]? = some (.cells (cs.setIfInBounds i x) t (0, 0)) := Joins.block_setCell (i := i) h x
theorem blk_far {w : World} {b k : Nat} (hk : k ≠ b) (i : Nat) (x : Value) : (w.setCell ⟨b, i, none⟩ x).heap[k]? = w.heap[k]? := Below.heap_setCell w ⟨b, i, none⟩ x k hk
theorem blk_new (w : World) (cs : Array Value) (t : TypeId) : (w.alloc (.cells cs t)).heap[w.heap.size]? = some (.cells cs t (0, 0)) := heap_alloc_new w _
theorem bel_new (w : World) (o : Obj) : Below w.heap.size w (w.alloc o) := (Below.refl _ _).alloc (Nat.le_refl _) _
/-- Things, each of c cells, in a slice. -/
def RowG {α : Type} (c : Nat) (E : World → Nat → Nat → α → Prop) (w : World) (v : Value) (xs : List α) : Prop :=
  ∃ a cap, v = .slice a xs.length cap ∧ (xs = [] ∨ ∃ b off, a = some ⟨b, off, none⟩ ∧ xs.length ≤ cap ∧ b < w.heap.size ∧ ∀ i x, xs[i]? = some x → E w b (off + i * c) x)
/-- What is said of a thing's cells stays where memory is added alone. -/
def Stays {α : Type} (E : World → Nat → Nat → α → Prop) : Prop := ∀ w w' b o x, Below w.heap.size w w' → b < w.heap.size → E w b o x → E w' b o x
theorem RowG.below {α : Type} {c : Nat} {E : World → Nat → Nat → α → Prop} (hE : Stays E) {w w' : World} {v : Value} {xs : List α} (h : RowG c E w v xs) (hb : Below w.heap.size w w') : RowG c E w' v xs := by
  obtain ⟨a, cap, rfl, h⟩ := h
  refine ⟨a, cap, rfl, ?_⟩
  rcases h with h | ⟨b, off, rfl, hc, hlt, h⟩
  · exact .inl h
  · exact .inr ⟨b, off, rfl, hc, Nat.lt_of_lt_of_le hlt hb.size, fun i x hi => hE _ _ _ _ _ hb hlt (h i x hi)⟩
theorem RowG.at {α : Type} {c : Nat} {E : World → Nat → Nat → α → Prop} {w : World} {v : Value} {a : Option Addr} {n cap : Nat} {xs : List α} (h : RowG c E w v xs) (hv : v = .slice a n cap) {i : Nat} {x : α} (hi : xs[i]? = some x) :
    ∃ b off, a = some ⟨b, off, none⟩ ∧ b < w.heap.size ∧ E w b (off + i * c) x := by
  obtain ⟨a', cap', rfl, h⟩ := h
  cases hv
  rcases h with h | ⟨b, off, rfl, hc, hlt, h⟩
  · rw [h] at hi; simp at hi
  · exact ⟨b, off, rfl, hlt, h i x hi⟩
theorem RowG.slice {α : Type} {c : Nat} {E : World → Nat → Nat → α → Prop} {w : World} {v : Value} {xs : List α} (h : RowG c E w v xs) : ∃ a cap, v = .slice a xs.length cap := by
  obtain ⟨a, cap, rfl, _⟩ := h
  exact ⟨a, cap, rfl⟩

theorem ret_i {a b : Int} (h : a = b) : Ending.returned (.int .i64 a) = .returned (.int .i64 b) := by rw [h]
def lft (left s : Int) : Int := if left < s then -1 else left - s
theorem lft_no {left s : Int} (h : left < s) : lft left s = -1 := if_pos h
theorem lft_yes {left s : Int} (h : ¬ left < s) : lft left s = left - s := if_neg h
theorem get_at {α : Type} {xs : List α} {k : Nat} (h : k < xs.length) : ∃ x, xs[k]? = some x := ⟨_, List.getElem?_eq_getElem h⟩
theorem lt_at {α : Type} {xs : List α} {k : Nat} {x : α} (h : xs[k]? = some x) : k < xs.length := (List.getElem?_eq_some_iff.1 h).1
theorem mem_at {α : Type} {xs : List α} {k : Nat} {x : α} (h : xs[k]? = some x) : x ∈ xs := List.mem_of_getElem? h
/-- Three new blocks, one behind the other, in every later world. -/
theorem three {w w1 : World} {o0 o1 o2 : Obj} (b : Below (((w.alloc o0).alloc o1).alloc o2).heap.size (((w.alloc o0).alloc o1).alloc o2) w1) :
    w1.heap[w.heap.size]? = some o0 ∧ w1.heap[w.heap.size + 1]? = some o1 ∧ w1.heap[w.heap.size + 1 + 1]? = some o2 ∧ w.heap.size + 1 + 1 + 1 ≤ w1.heap.size ∧ Below w.heap.size w w1 := by
  have e1 : (w.alloc o0).heap.size = w.heap.size + 1 := size_new _ _
  have e2 : ((w.alloc o0).alloc o1).heap.size = w.heap.size + 1 + 1 := by rw [size_new, e1]
  have e3 : (((w.alloc o0).alloc o1).alloc o2).heap.size = w.heap.size + 1 + 1 + 1 := by rw [size_new, e2]
  have b1 : Below w.heap.size w (((w.alloc o0).alloc o1).alloc o2) := (((Below.refl _ _).alloc (Nat.le_refl _) _).alloc (by rw [e1]; omega) _).alloc (by rw [e2]; omega) _
  have s := b.size
  rw [e3] at b s
  refine ⟨?_, ?_, ?_, s, b1.trans (b.mono (by omega))⟩
  · rw [b.block _ (by omega), Below.heap_alloc _ _ _ (by omega), Below.heap_alloc _ _ _ (by omega)]; exact heap_alloc_new w _
  · rw [b.block _ (by omega), Below.heap_alloc _ _ _ (by omega), ← e1]; exact heap_alloc_new _ _
  · rw [b.block _ (by omega), ← e2]; exact heap_alloc_new _ _
theorem ret_str {a b : ByteArray} (h : a = b) : Ending.returned (.string a) = .returned (.string b) := by rw [h]
/-- The digits of a number, ahead of a text. -/
def mtGo : Nat → Nat → ByteArray → ByteArray
  | 0, _, s => s
  | f + 1, k, s => if k = 0 then s else mtGo f (k / 10) (strOfNums [48 + ((k % 10 : Nat) : Int)] ++ s)
def mtext (k : Nat) : ByteArray := (⟨#[109]⟩ : ByteArray) ++ mtGo (k + 1) k ⟨#[]⟩

set_option maxRecDepth 100000 in
set_option maxHeartbeats 400000 in
theorem markText_any (k : Nat) (w : World) (h0 : 0 < k) (h1 : k ≤ 1125899906842624) :
    Calls Tryz.prog 53 #[.int .i64 k] w fun e w' => e = .returned (.string (mtext k)) ∧ Below w.heap.size w w' := by
  have h0' : ¬ (k : Int) ≤ 0 := by omega
  have h1' : (k : Int) ≤ 1125899906842624 := by omega
  have HT : Hid (mtext k = (⟨#[109]⟩ : ByteArray) ++ mtGo (k + 1) k ⟨#[]⟩) := rfl
  go_enter Tryz.func53, Tryz.ntmps53
  go_wp2_with fail
  go_loopw [0, 3] (fun n s wr => ∃ (q f : Nat) (t : ByteArray), n = .int .i64 q ∧ s = .string t ∧ q ≤ 1125899906842624 ∧ t.size + q ≤ 1125899906842624 ∧ Hid (q < f ∧ mtGo f q t = mtGo (k + 1) k ⟨#[]⟩) ∧ Below w.heap.size w wr) (fun n _ _ => (intOf n).toNat)
  case atStart => exact ⟨k, k + 1, ⟨#[]⟩, rfl, rfl, by omega, by simp [ByteArray.size]; omega, ⟨by omega, rfl⟩, Below.refl _ _⟩
  case round =>
    obtain ⟨q, f, t, rfl, rfl, hq, hts, HF, hbel⟩ := hrel
    by_cases hz : 0 < q
    · have hz' : (0 : Int) < (q : Int) := by omega
      have hcv := By.run_convert_own (P := Tryz.prog) (wr.alloc (.cells #[.int .u8 (48 + (q : Int) % 10)] 5)) wr.heap.size 86 5 9 Tryz.underlying86 Tryz.underlying5 Tryz.underlying9 (.slice (some ⟨wr.heap.size, 0, none⟩) 1 1) [48 + (q : Int) % 10] (own_one 5 wr wr.heap.size (48 + (q : Int) % 10) (Nat.le_refl _))
      have hs1 : (strOfNums [48 + (q : Int) % 10]).size = 1 := by rw [strOfNums_size]; rfl
      have hsz : ¬ 9223372036854775807 < (strOfNums [48 + (q : Int) % 10]).size + t.size := by rw [hs1]; omega
      have HS1 : Hid ((strOfNums [48 + (q : Int) % 10]).size = 1) := hs1
      have HE : Hid (∃ f', q / 10 < f' ∧ mtGo f' (q / 10) (strOfNums [48 + (q : Int) % 10] ++ t) = mtGo (k + 1) k ⟨#[]⟩) := by
        obtain ⟨e1, e2⟩ := HF.out
        cases f with
        | zero => omega
        | succ f =>
          refine ⟨f, by omega, ?_⟩
          rw [← e2]
          show _ = if q = 0 then t else mtGo f (q / 10) (strOfNums [48 + ((q % 10 : Nat) : Int)] ++ t)
          rw [if_neg (by omega)]
          rfl
      clear hs1 HF
      go_wp2_with fail
      obtain ⟨f', e1, e2⟩ := HE.out
      exact ⟨⟨q / 10, f', strOfNums [48 + (q : Int) % 10] ++ t, by simp, rfl, by omega, by rw [ByteArray.size_append, HS1.out]; omega, ⟨e1, e2⟩, hbel.alloc hbel.size _⟩, by simp [intOf]; omega⟩
    · have hz0 : q = 0 := by omega
      have HE : Hid (mtGo (k + 1) k ⟨#[]⟩ = t) := by
        show _ = _
        obtain ⟨e1, e2⟩ := HF.out
        rw [← e2, hz0]
        cases f with
        | zero => rfl
        | succ f => rfl
      have hz' : ¬ (0 : Int) < (q : Int) := by omega
      have hz2 : ¬ 0 < q := hz
      have hsz2 : ¬ 9223372036854775807 < 1 + t.size := by omega
      have hsz3 : ¬ 9223372036854775807 < (⟨#[109]⟩ : ByteArray).size + t.size := hsz2
      clear hz0
      go_wp2
      go_ret
      exact ⟨ret_str (by rw [HT.out, HE.out]), hbel⟩

/-- From w to w' only blocks from B on and below C were written, and new ones. -/
structure Mid (B C : Nat) (w w' : World) : Prop where
  os : w'.os = w.os
  tape : w'.tape = w.tape
  output : w'.output = w.output
  size : w.heap.size ≤ w'.heap.size
  block : ∀ k, k < w.heap.size → (k < B ∨ C ≤ k) → w'.heap[k]? = w.heap[k]?
theorem Mid.refl (B C : Nat) (w : World) : Mid B C w w := ⟨rfl, rfl, rfl, Nat.le_refl _, fun _ _ _ => rfl⟩
theorem Mid.trans {B C : Nat} {w w1 w2 : World} (h : Mid B C w w1) (g : Mid B C w1 w2) : Mid B C w w2 :=
  ⟨g.os.trans h.os, g.tape.trans h.tape, g.output.trans h.output, Nat.le_trans h.size g.size, fun k hk hn => (g.block k (Nat.lt_of_lt_of_le hk h.size) hn).trans (h.block k hk hn)⟩
theorem Mid.of_below {B C : Nat} {w w1 : World} (h : Below w.heap.size w w1) : Mid B C w w1 := ⟨h.os, h.tape, h.output, h.size, fun k hk _ => h.block k hk⟩
theorem Mid.set {B C : Nat} {w : World} {g : Nat} (h1 : B ≤ g) (h2 : g < C) (j : Nat) (x : Value) : Mid B C w (w.setCell ⟨g, j, none⟩ x) :=
  ⟨rfl, rfl, rfl, by simp, fun k _ hk => Below.heap_setCell w ⟨g, j, none⟩ x k (fun e => by have e' : k = g := e; omega)⟩
theorem Mid.below {B C : Nat} {w w1 : World} (h : Mid B C w w1) (hB : B ≤ w.heap.size) : Below B w w1 := ⟨h.os, h.tape, h.output, h.size, fun k hk => h.block k (Nat.lt_of_lt_of_le hk hB) (.inl hk)⟩
theorem own_mid {e : TypeId} {B C : Nat} {w w' : World} {v : Value} {zs : List Int} (h : OwnB e w C v zs) (hm : Mid B C w w') : OwnB e w' C v zs := by
  obtain ⟨hl, h⟩ := h
  refine ⟨hl, ?_⟩
  rcases h with h | ⟨g, cap, cur, rfl, h1, hg, h2⟩
  · exact .inl h
  · exact .inr ⟨g, cap, cur, rfl, h1, (hm.block g (Array.getElem?_eq_some_iff.1 hg).1 (.inr h1)).trans hg, h2⟩
/-- A block of n cells that may be written. -/
def Wr (w : World) (g n : Nat) : Prop := ∃ A t, w.heap[g]? = some (.cells A t (0, 0)) ∧ n ≤ A.size
theorem Wr.lt {w : World} {g n : Nat} (h : Wr w g n) : g < w.heap.size := by obtain ⟨A, t, h, _⟩ := h; exact (Array.getElem?_eq_some_iff.1 h).1
theorem Wr.below {w w' : World} {g n : Nat} (h : Wr w g n) (hb : Below w.heap.size w w') : Wr w' g n := by
  obtain ⟨A, t, h, hn⟩ := h
  exact ⟨A, t, (hb.block g (Array.getElem?_eq_some_iff.1 h).1).trans h, hn⟩
theorem Wr.set {w : World} {g n : Nat} (h : Wr w g n) (p j : Nat) (x : Value) : Wr (w.setCell ⟨p, j, none⟩ x) g n := by
  obtain ⟨A, t, h, hn⟩ := h
  by_cases e : p = g
  · subst e
    exact ⟨_, t, blk_set h j x, by rw [Array.size_setIfInBounds]; exact hn⟩
  · exact ⟨A, t, (blk_far (fun h => e h.symm) j x).trans h, hn⟩
theorem Wr.cell {w : World} {g n : Nat} (h : Wr w g n) {j : Nat} (hj : j < n) : (∃ x, w.cell? ⟨g, j, none⟩ = some x) ∧ w.frozen? ⟨g, j, none⟩ = false := by
  obtain ⟨A, t, h, hn⟩ := h
  obtain ⟨c, f⟩ := blk_cell h j (x := A[j]'(by omega)) (Array.getElem?_eq_getElem (by omega))
  exact ⟨⟨_, c⟩, f⟩
/-- What a mark keeps of the blocks that may be written. -/
def Kw (w w' : World) : Prop := ∀ g n, Wr w g n → Wr w' g n
theorem Kw.trans {w w1 w2 : World} (h : Kw w w1) (g : Kw w1 w2) : Kw w w2 := fun a n x => g a n (h a n x)
end Go.Proofs.YtnebohdlndiejaaGreatDoor.Rg
namespace Go.Proofs.YtnebohdlndiejaaGreatDoor.Rg
open Go.ChangeShapes Go.WideShapes Go.ChangeAt Go.RowKit Go.Deep
theorem open_rows {α : Type} [Inhabited α] {H : Type} {enc : TypeId × Value → H} {P : Program} {w : World} {base : Nat} {spare : Nat → Bool} {held : Bool} {t e : TypeId} {c : Nat} {E : World → Nat → Nat → α → Prop} {G : α → Prop}
    (hu : P.underlying t = some (.slice e)) (hce : P.cellsOf e = c) (h0 : 0 < c)
    (step : ∀ (n : Nat) (cs : List Value) (b o : Nat) (y : DataW H × List MemPlace), cs.length = c → (∀ j, j < c → w.cell? ⟨b, o + j, none⟩ = cs[j]?) → DataW.trod enc P w base spare held n e cs = some y → ∃ q, E w b o q ∧ G q)
    {fuel : Nat} {cs : List Value} {y : DataW H × List MemPlace} (hf : DataW.trod enc P w base spare held fuel t cs = some y) :
    ∃ v xs, cs = [v] ∧ RowG c E w v xs ∧ xs.length ≤ maxLen ∧ ∀ x ∈ xs, G x := by
  rcases open_slice hu hf with ⟨hcs, _⟩ | ⟨x, len, cap, m, n, D, Pl, hcs, _, hl, hm, hmm, _, hcell⟩
  · exact ⟨_, [], hcs, ⟨none, 0, rfl, .inl rfl⟩, by simp, fun _ hx => by cases hx⟩
  · have hlm : len ≤ m := by rw [hmm]; split <;> omega
    rw [hce] at hcell
    by_cases hz : len = 0
    · subst hz
      exact ⟨_, [], hcs, ⟨some x, cap, rfl, .inl rfl⟩, by simp, fun _ hx => by cases hx⟩
    obtain ⟨b, off, spot⟩ := x
    have hadd : ∀ (s : Nat) (j : Nat), (⟨b, s, none⟩ : Addr).add j = ⟨b, s + j, none⟩ := fun s j => by unfold Addr.add; split <;> simp_all
    have hspot : spot = none := by
      obtain ⟨cs', h1, _⟩ := hcell 0 (by omega)
      obtain ⟨_, hlen, hc⟩ := World.cells?_some h1
      have e0 := hc 0 h0
      rw [List.getElem?_eq_getElem (by omega)] at e0
      simpa [Addr.add] using World.cell?_spot e0
    subst hspot
    have hlt : b < w.heap.size := by
      obtain ⟨cs', h1, _⟩ := hcell 0 (by omega)
      obtain ⟨_, hlen, hc⟩ := World.cells?_some h1
      have e0 := hc 0 h0
      rw [List.getElem?_eq_getElem (by omega), hadd, hadd] at e0
      exact World.block_lt_of_cell? w _ e0
    have each : ∀ i, i < len → ∃ q : α, E w b (off + i * c) q ∧ G q := by
      intro i hi
      obtain ⟨cs', h1, h2⟩ := hcell i (by omega)
      obtain ⟨_, hlen, hc⟩ := World.cells?_some h1
      refine step n cs' b (off + i * c) _ hlen (fun j hj => ?_) h2
      have e0 := hc j hj
      rw [hadd, hadd] at e0
      exact e0
    obtain ⟨q, hq⟩ := choose_lt each
    have hrl : ((List.range len).map q).length = len := by simp
    refine ⟨_, (List.range len).map q, hcs, ⟨some ⟨b, off, none⟩, cap, by rw [hrl], .inr ⟨b, off, rfl, by rw [hrl]; exact hl, hlt, fun i x hi => ?_⟩⟩, by rw [hrl]; omega, fun x hx => ?_⟩
    · have hil : i < len := by have := (List.getElem?_eq_some_iff.1 hi).1; rw [hrl] at this; exact this
      simp [hil] at hi
      subst hi
      exact (hq i hil).1
    · obtain ⟨i, hi, rfl⟩ := List.mem_map.1 hx
      exact (hq i (List.mem_range.1 hi)).2
theorem cell_eq {w : World} {b o : Nat} {cs : List Value} {c : Nat} (h : ∀ j, j < c → w.cell? ⟨b, o + j, none⟩ = cs[j]?) (j : Nat) (hj : j < c) {v : Value} (hv : cs[j]? = some v) : w.cell? ⟨b, o + j, none⟩ = some v := (h j hj).trans hv
end Go.Proofs.YtnebohdlndiejaaGreatDoor.Rg

/- Integers in a slice: read, copied, compared. -/
namespace Go.Proofs.YtnebohdlndiejaaGreatDoor.Is
open Go.RowKit Go.Proofs.YtnebohdlndiejaaGreatDoor.Sl

/-- The slice v holds the integers xs (whatever room lies behind them). -/
def RowI (w : World) (v : Value) (xs : List Int) : Prop :=
  ∃ a cap, v = .slice a xs.length cap ∧ (xs = [] ∨ ∃ b off, a = some ⟨b, off, none⟩ ∧ xs.length ≤ cap ∧ b < w.heap.size ∧ ∀ i, i < xs.length → w.cell? ⟨b, off + i, none⟩ = some (.int .i64 (nth xs i))) ∧ ∀ x ∈ xs, -9223372036854775808 ≤ x ∧ x ≤ 9223372036854775807
theorem RowI.below {w w' : World} {v : Value} {xs : List Int} (h : RowI w v xs) (hb : Below w.heap.size w w') : RowI w' v xs := by
  obtain ⟨a, cap, rfl, h, hr⟩ := h
  refine ⟨a, cap, rfl, ?_, hr⟩
  rcases h with h | ⟨b, off, rfl, hc, hlt, h⟩
  · exact .inl h
  · exact .inr ⟨b, off, rfl, hc, Nat.lt_of_lt_of_le hlt hb.size, fun i hi => (hb.cell (p := ⟨b, off + i, none⟩) hlt).trans (h i hi)⟩
theorem info3 : (Tryz.prog.info? 3).map (fun i => (i.zero, i.size, i.bytes)) = some (some (.int .i64 0), 1, 8) := by kernel_rfl
theorem nth_at {xs : List Int} {i : Nat} (h : i < xs.length) : xs[i]? = some (nth xs i) := by
  unfold nth; rw [List.getD_eq_getElem?_getD, List.getElem?_eq_getElem h]; rfl
theorem nth_mem {xs : List Int} {i : Nat} (h : i < xs.length) : nth xs i ∈ xs := List.mem_of_getElem? (nth_at h)
/-- Integers in a slice of the call's own that may have room behind. -/
def OwnI (w : World) (B : Nat) (v : Value) (xs : List Int) : Prop := w.ownsRow B 3 1 v xs.length (xs.map (Value.int .i64))
theorem OwnI.row {w : World} {B : Nat} {v : Value} {xs : List Int} (h : OwnI w B v xs) (hr : ∀ x ∈ xs, -9223372036854775808 ≤ x ∧ x ≤ 9223372036854775807) : RowI w v xs := by
  obtain ⟨hl, h⟩ := h
  rcases h with ⟨rfl, h0⟩ | ⟨g, cap, cur, rfl, hB, hg, hc, _, hs, htk⟩
  · exact ⟨none, 0, by rw [h0], .inl (List.length_eq_zero_iff.1 h0), hr⟩
  · refine ⟨_, cap, rfl, .inr ⟨g, 0, rfl, hc, (Array.getElem?_eq_some_iff.1 hg).1, fun i hi => ?_⟩, hr⟩
    have h1 : (cur.toList.take (xs.length * 1))[i]? = some (.int .i64 (nth xs i)) := by
      rw [htk, List.getElem?_map, nth_at hi]; rfl
    rw [List.getElem?_take] at h1
    split at h1
    · simp only [World.cell?, hg, Nat.zero_add]
      simpa using h1
    · cases h1

/-- The copy: its first k cells are written. -/
def Copied (xs : List Int) (k : Nat) (A : Array Value) : Prop := A.size = xs.length ∧ ∀ j, j < k → A[j]? = some (.int .i64 (nth xs j))

set_option maxHeartbeats 400000 in
theorem toIntS_any (v : Value) (xs : List Int) (w : World) (h : RowI w v xs) (hl : xs.length ≤ 1048576) :
    Calls Tryz.prog 8 #[v] w fun e w' => ∃ v', e = .returned v' ∧ RowI w' v' xs ∧ Below w.heap.size w w' := by
  obtain ⟨a, cap, rfl, h, hr⟩ := h
  obtain ⟨i0, hi, hz0, hz1, hz2⟩ := info_parts info3
  have hmk := run_make (P := Tryz.prog) w 26 3 i0 (.int .i64 0) Tryz.underlying26 hi hz0 .i64 .i64 (xs.length : Int) (xs.length : Int) (by omega) (by omega) (by rw [hz2]; omega) (by omega)
  have hA0 : Copied xs 0 (madeCells (Value.int .i64 0).cells ((xs.length : Int).toNat * i0.size)) := ⟨by rw [hz1]; simp [madeCells, Value.cells], fun j hj => absurd hj (by omega)⟩
  generalize madeCells (Value.int .i64 0).cells ((xs.length : Int).toNat * i0.size) = A0 at hmk hA0
  rw [Int.toNat_natCast] at hmk
  go_enter Tryz.func8, Tryz.ntmps8
  go_wp2_with fail
  clear hmk
  go_loopw [4] (fun i wr => ∃ k : Nat, ∃ A : Array Value, k ≤ xs.length ∧ i = .int .i64 k ∧ wr = w.alloc (.cells A 3) ∧ Copied xs k A) (fun i _ => xs.length - (intOf i).toNat)
  case atStart => exact ⟨0, A0, by omega, rfl, rfl, hA0⟩
  case round =>
    clear hA0
    obtain ⟨k, A, hk, rfl, rfl, hA⟩ := hrel
    by_cases hlt : k < xs.length
    · rcases h with h | ⟨b, off, rfl, hc, hb, hcell⟩
      · exact absurd hlt (by rw [h]; simp)
      have hc1 := hcell k hlt
      have hne : b ≠ w.heap.size := by omega
      obtain ⟨x, hx⟩ : ∃ x, A[k]? = some x := ⟨_, Array.getElem?_eq_getElem (by rw [hA.1]; exact hlt)⟩
      clear hcell
      have hA' : Copied xs (k + 1) (A.setIfInBounds k (.int .i64 (nth xs k))) := by
        refine ⟨by rw [Array.size_setIfInBounds]; exact hA.1, fun j hj => ?_⟩
        rw [Array.getElem?_setIfInBounds]
        by_cases e : k = j
        · subst e
          rw [if_pos rfl, if_pos (by rw [hA.1]; exact hlt)]
        · rw [if_neg e]
          exact hA.2 j (by omega)
      go_wp2
      go_roundw
      case rel => exact ⟨k + 1, _, by omega, by go_num, rfl, hA'⟩
      case measure => simp [intOf]; omega
    · obtain rfl : k = xs.length := by omega
      go_wp2
      go_ret
      refine ⟨_, rfl, ⟨_, _, rfl, .inr ⟨w.heap.size, 0, rfl, Nat.le_refl _, by simp, fun i hi => ?_⟩, hr⟩, (Below.refl _ _).alloc (Nat.le_refl _) _⟩
      rw [Nat.zero_add, World.cell?_alloc_at _ _ _ _ rfl]
      exact hA.2 i hi

set_option maxHeartbeats 400000 in
theorem eqIntS_same (v u : Value) (xs : List Int) (w : World) (h : RowI w v xs) (g : RowI w u xs) (hl : xs.length ≤ 1048576) :
    Calls Tryz.prog 12 #[v, u] w fun e w' => e = .returned (.bool true) ∧ Below w.heap.size w w' := by
  obtain ⟨a, cap, rfl, h, hr⟩ := h
  obtain ⟨a', cap', rfl, g, _⟩ := g
  have hne : ((xs.length : Int) != (xs.length : Int)) = false := by simp
  go_enter Tryz.func12, Tryz.ntmps12
  go_wp2_with fail
  go_loopw [5] (fun i wr => ∃ k : Nat, k ≤ xs.length ∧ i = .int .i64 k ∧ ∃ n, wr = w.drewN n) (fun i _ => xs.length - (intOf i).toNat)
  case atStart => exact ⟨0, by omega, rfl, 0, rfl⟩
  case round =>
    obtain ⟨k, hk, rfl, n, rfl⟩ := hrel
    by_cases hlt : k < xs.length
    · rcases h with h | ⟨b, off, rfl, hc, hb, hcell⟩
      · exact absurd hlt (by rw [h]; simp)
      rcases g with g | ⟨b', off', rfl, hc', hb', gcell⟩
      · exact absurd hlt (by rw [g]; simp)
      have hc1 := hcell k hlt
      have hc2 := gcell k hlt
      have hp0 : (0 : Int) ≤ (k : Int) := by omega
      have hp1 : (k : Int) < (xs.length : Int) := by omega
      clear hcell gcell
      go_wp2
      go_quiet (fail)
      go_wp2
      exact ⟨⟨k + 1, by omega, by go_num, n + nq, rfl⟩, by simp [intOf]; omega⟩
    · go_wp2
      go_ret
      exact ⟨rfl, ⟨rfl, rfl, rfl, Nat.le_refl _, fun _ _ => rfl⟩⟩
end Go.Proofs.YtnebohdlndiejaaGreatDoor.Is
namespace Go.Proofs.YtnebohdlndiejaaGreatDoor.Op
open Go.ChangeShapes Go.WideShapes Go.ChangeAt Go.RowKit Go.Deep
set_option maxRecDepth 100000 in
theorem open_ints {H : Type} {enc : TypeId × Value → H} {w : World} {base : Nat} {spare : Nat → Bool} {r : Reach} {b0 : Nat} {v : Value} {d : DataW H} {p : List MemPlace}
    (hv : Value.okWide Tryz.prog w r b0 26 v) (h : DataW.Trod enc Tryz.prog w base spare true 26 v d p) (hs : ∀ b, spare b = true) :
    ∃ xs : List Int, Is.RowI w v xs := by
  obtain ⟨a0, len0, cap0, rfl⟩ := okWide_slice Tryz.underlying26 hv
  obtain ⟨fuel, hf⟩ := h
  have hsp : spare = fun _ => true := funext hs
  subst hsp
  rcases Go.ChangeShapes.open_ints Tryz.underlying26 Tryz.underlying3 (by kernel_rfl) hf with ⟨hcs, _⟩ | ⟨x, l, c, zs, hcs, _, hl, hm, hz, _, hcell, hwz⟩
  · simp [Value.cells] at hcs
    obtain ⟨rfl, rfl, rfl⟩ := hcs
    exact ⟨[], none, 0, rfl, .inl rfl, fun _ hx => by cases hx⟩
  · simp [Value.cells] at hcs
    obtain ⟨rfl, rfl, rfl⟩ := hcs
    have hz' : zs.length = cap0 := by simpa using hz
    have hlen : (zs.take len0).length = len0 := by rw [List.length_take]; omega
    refine ⟨zs.take len0, some x, cap0, by rw [hlen], ?_, ?_⟩
    · by_cases h0 : len0 = 0
      · exact .inl (by rw [h0]; rfl)
      · obtain ⟨b, off, spot⟩ := x
        have hc := hcell 0 (by omega)
        have hspot : spot = none := by simpa [Addr.add] using World.cell?_spot hc
        subst hspot
        have hc0 : w.cell? ⟨b, off, none⟩ = some (.int .i64 (zs.getD 0 0)) := by simpa [Addr.add] using hc
        refine .inr ⟨b, off, rfl, by omega, World.block_lt_of_cell? w _ hc0, fun i hi => ?_⟩
        have h1 := hcell i (by omega)
        have h2 : (⟨b, off, none⟩ : Addr).add i = ⟨b, off + i, none⟩ := by unfold Addr.add; split <;> simp_all
        rw [h2] at h1
        rw [h1]
        unfold Sl.nth
        rw [List.getD_eq_getElem?_getD, List.getD_eq_getElem?_getD, List.getElem?_take_of_lt (by omega)]
    · intro n hn
      have := hwz n (List.mem_of_mem_take hn)
      simpa [Lit.wf, IntKind.min, IntKind.max, IntKind.signed, IntKind.bits] using this
end Go.Proofs.YtnebohdlndiejaaGreatDoor.Op

/- Nodes that rise: a quorum of them. -/
namespace Go.Proofs.YtnebohdlndiejaaGreatDoor.Xq
open Go.RowKit Go.Proofs.YtnebohdlndiejaaGreatDoor.Tm
open Go.Proofs.YtnebohdlndiejaaGreatDoor.Qm (qOut inB)

noncomputable def bOf (p : Prop) : Bool := @decide p (Classical.propDecidable p)
theorem bOf_true {p : Prop} (h : p) : bOf p = true := by unfold bOf; simp [h]
theorem bOf_false {p : Prop} (h : ¬ p) : bOf p = false := by unfold bOf; simp [h]
theorem bOf_iff {p : Prop} : bOf p = true ↔ p := by unfold bOf; simp
theorem bOf_eq {p : Prop} {b : Bool} (h : b = true ↔ p) : b = bOf p := by
  cases b with
  | true => exact (bOf_true (h.1 rfl)).symm
  | false => exact (bOf_false (fun hp => by have := h.2 hp; cases this)).symm
/-- A number is one of n nodes. -/
def okN (id n : Int) : Bool := decide (fCode n = 0) && inB id 0 (n - 1)
def isV (n x : Int) : Bool := okN x n
def frn (x : Int) : Nat := x.toNat
theorem f_small {n : Int} (h : fCode n = 0) : 1 ≤ n ∧ n ≤ 7 := by
  rcases f_cases n with rfl | rfl | rfl | ⟨_, _, _, _, hd⟩
  · decide
  · decide
  · decide
  · rw [hd] at h; cases h
theorem f_four {n : Int} (h : ¬ fCode n = 0) : fCode n = 4 := by
  rcases f_cases n with rfl | rfl | rfl | ⟨_, _, _, _, hd⟩
  · exact absurd rfl h
  · exact absurd rfl h
  · exact absurd rfl h
  · exact hd
theorem okN_iff {n x : Int} : okN x n = true ↔ fCode n = 0 ∧ 0 ≤ x ∧ x ≤ n - 1 := by
  unfold okN inB; simp
theorem isV_frn {n : Int} {x : Int} (h : isV n x = true) : x = (frn x : Int) ∧ frn x < 7 := by
  obtain ⟨h1, h2, h3⟩ := okN_iff.1 h
  have := f_small h1
  unfold frn
  omega
/-- The set of the first k, as bits. -/
def msk (ms : List Int) : Nat → Nat
  | 0 => 0
  | k + 1 => msk ms k ||| 2 ^ frn (ms.getD k default)
theorem msk_step {ms : List Int} {k : Nat} {x : Int} (h : ms[k]? = some x) : msk ms (k + 1) = msk ms k ||| 2 ^ frn x := by
  show msk ms k ||| 2 ^ frn (ms.getD k default) = _
  rw [List.getD_eq_getElem?_getD, h]; rfl
theorem or_add {h i : Nat} (hh : h < 2 ^ i) : h ||| 2 ^ i = 2 ^ i + h := by
  have := Nat.two_pow_add_eq_or_of_lt hh 1
  simp at this
  rw [this, Nat.or_comm]
theorem pop_step : ∀ h : Fin 128, ∀ i : Fin 7, h.val < 2 ^ i.val → Lib.onesCount (h.val ||| 2 ^ i.val) = Lib.onesCount h.val + 1 := by decide +kernel
theorem pop_zero : Lib.onesCount 0 = 0 := by decide +kernel
/-- The first k are votes, each behind all those ahead of it. -/
def GoodTo (n : Int) (ms : List Int) (k : Nat) : Prop := ∀ j x, j < k → ms[j]? = some x → isV n x = true ∧ msk ms j < 2 ^ frn x
def Rise (ms : List Int) (k : Nat) : Prop := ∀ j x y, j + 1 < k → ms[j]? = some x → ms[j + 1]? = some y → x < y
theorem GoodTo.zero (n : Int) (ms : List Int) : GoodTo n ms 0 := fun j x h => by omega
theorem GoodTo.succ {n : Int} {ms : List Int} {k : Nat} {x : Int} (h : GoodTo n ms k) (hx : ms[k]? = some x) (h1 : isV n x = true) (h2 : msk ms k < 2 ^ frn x) : GoodTo n ms (k + 1) := fun j y hj hy => by
  by_cases e : j = k
  · subst e; rw [hx] at hy; cases hy; exact ⟨h1, h2⟩
  · exact h j y (by omega) hy
theorem GoodTo.less {n : Int} {ms : List Int} {k m : Nat} (h : GoodTo n ms k) (hm : m ≤ k) : GoodTo n ms m := fun j y hj hy => h j y (by omega) hy
theorem pow_le7 {i : Nat} (h : i < 7) : 2 ^ i + 2 ^ i ≤ 128 := by
  have : ∀ i : Fin 7, 2 ^ i.val + 2 ^ i.val ≤ 128 := by decide
  exact this ⟨i, h⟩
theorem good_msk {n : Int} {ms : List Int} : ∀ {k : Nat}, GoodTo n ms k → k ≤ ms.length → msk ms k < 128 ∧ Lib.onesCount (msk ms k) = k ∧ ∀ i, i ≤ 7 → ((∀ j x, j < k → ms[j]? = some x → frn x < i) ↔ msk ms k < 2 ^ i)
  | 0, _, _ => ⟨by show (0 : Nat) < 128; decide, pop_zero, fun i _ => ⟨fun _ => Nat.two_pow_pos i, fun _ j x h => by omega⟩⟩
  | k + 1, h, hk => by
    obtain ⟨x, hx⟩ := Rg.get_at (show k < ms.length by omega)
    obtain ⟨h1, h2, h3⟩ := good_msk (h.less (Nat.le_succ k)) (by omega)
    obtain ⟨g1, g2⟩ := h k x (by omega) hx
    obtain ⟨_, g3⟩ := isV_frn g1
    rw [msk_step hx]
    have e := or_add g2
    have p := pow_le7 g3
    refine ⟨by omega, ?_, fun i hi => ?_⟩
    · have := pop_step ⟨msk ms k, h1⟩ ⟨frn x, g3⟩ g2
      simp only at this
      rw [this, h2]
    · rw [e]
      constructor
      · intro hh
        have hf := hh k x (by omega) hx
        have : 2 ^ (frn x + 1) ≤ 2 ^ i := Nat.pow_le_pow_right (by decide) hf
        rw [Nat.pow_succ] at this
        omega
      · intro hh j y hj hy
        have hfi : frn x < i := by
          refine Nat.lt_of_not_le fun hle => ?_
          have : 2 ^ i ≤ 2 ^ frn x := Nat.pow_le_pow_right (by decide) hle
          omega
        by_cases ej : j = k
        · subst ej; rw [hx] at hy; cases hy; exact hfi
        · exact Nat.lt_trans ((h3 (frn x) (by omega)).2 g2 j y (by omega) hy) hfi
theorem good_all {n : Int} {ms : List Int} : ∀ {k : Nat}, k ≤ ms.length → (GoodTo n ms k ↔ (∀ j x, j < k → ms[j]? = some x → isV n x = true) ∧ Rise ms k)
  | 0, _ => ⟨fun _ => ⟨fun j x h => by omega, fun j x y h => by omega⟩, fun _ => GoodTo.zero n ms⟩
  | k + 1, hk => by
    obtain ⟨x, hx⟩ := Rg.get_at (show k < ms.length by omega)
    have ih := good_all (n := n) (ms := ms) (show k ≤ ms.length by omega)
    constructor
    · intro h
      obtain ⟨a1, a2⟩ := ih.1 (h.less (Nat.le_succ k))
      refine ⟨fun j y hj hy => (h j y hj hy).1, fun j y z hj hy hz => ?_⟩
      by_cases ej : j + 1 = k
      · subst ej
        rw [hx] at hz; cases hz
        obtain ⟨g1, g2⟩ := h (j + 1) x (by omega) hx
        have g0 := (h j y (by omega) hy).1
        have := ((good_msk (h.less (Nat.le_succ (j + 1))) (by omega)).2.2 (frn x) (by have := (isV_frn g1).2; omega)).2 g2 j y (by omega) hy
        rw [(isV_frn g0).1, (isV_frn g1).1]
        omega
      · exact a2 j y z (by omega) hy hz
    · rintro ⟨a1, a2⟩
      have h := ih.2 ⟨fun j y hj hy => a1 j y (by omega) hy, fun j y z hj hy hz => a2 j y z (by omega) hy hz⟩
      refine h.succ hx (a1 k x (by omega) hx) ?_
      obtain ⟨_, _, h3⟩ := good_msk h (by omega)
      have g1 := a1 k x (by omega) hx
      refine (h3 (frn x) (by have := (isV_frn g1).2; omega)).1 fun j y hj hy => ?_
      by_cases ek : k = 0
      · omega
      obtain ⟨m, rfl⟩ : ∃ m, k = m + 1 := ⟨k - 1, by omega⟩
      obtain ⟨z, hz⟩ := Rg.get_at (show m < ms.length by omega)
      have hzx := a2 m z x (by omega) hz hx
      have gz := a1 m z (by omega) hz
      have hzx' : frn z < frn x := by rw [(isV_frn gz).1, (isV_frn g1).1] at hzx; omega
      by_cases ej : j = m
      · subst ej; rw [hz] at hy; cases hy; exact hzx'
      · have hp := (h m z (by omega) hz).2
        have := ((good_msk (h.less (Nat.le_succ m)) (by omega)).2.2 (frn z) (by have := (isV_frn gz).2; omega)).2 hp j y (by omega) hy
        omega
/-- Just a quorum of votes of different nodes, rising. -/
noncomputable def qvB (n : Int) (ms : List Int) : Bool := bOf (GoodTo n ms ms.length) && (decide (fCode n = 0) && decide ((Lib.onesCount (msk ms ms.length) : Int) = qOut n))
theorem qv_not {n : Int} {ms : List Int} {k : Nat} {x : Int} (hx : ms[k]? = some x) (h : ¬ (isV n x = true ∧ msk ms k < 2 ^ frn x)) : qvB n ms = false := by
  unfold qvB
  rw [bOf_false (fun hg => h (hg k x (Rg.lt_at hx) hx))]; rfl
theorem qv_end {n : Int} {ms : List Int} (h : GoodTo n ms ms.length) : qvB n ms = (decide (fCode n = 0) && decide ((Lib.onesCount (msk ms ms.length) : Int) = qOut n)) := by
  unfold qvB; rw [bOf_true h]; rfl
theorem qv_iff {n : Int} {ms : List Int} : qvB n ms = true ↔ fCode n = 0 ∧ (ms.length : Int) = qOut n ∧ (∀ x ∈ ms, isV n x = true) ∧ Rise ms ms.length := by
  unfold qvB
  rw [Bool.and_eq_true, Bool.and_eq_true, bOf_iff, decide_eq_true_eq, decide_eq_true_eq]
  constructor
  · rintro ⟨h1, h2, h3⟩
    rw [(good_msk h1 (Nat.le_refl _)).2.1] at h3
    obtain ⟨a1, a2⟩ := (good_all (Nat.le_refl _)).1 h1
    refine ⟨h2, h3, fun x hx => ?_, a2⟩
    obtain ⟨j, hj, e⟩ := List.getElem_of_mem hx
    exact a1 j x hj (by rw [List.getElem?_eq_getElem hj, e])
  · rintro ⟨h1, h2, h3, h4⟩
    have hg : GoodTo n ms ms.length := (good_all (Nat.le_refl _)).2 ⟨fun j x hj hx => h3 x (List.mem_of_getElem? hx), h4⟩
    refine ⟨hg, h1, ?_⟩
    rw [(good_msk hg (Nat.le_refl _)).2.1]
    exact h2
theorem ret_b {a b : Bool} (h : a = b) : Ending.returned (.bool a) = .returned (.bool b) := by rw [h]
theorem ret_v {a b : Value} (h : a = b) : Ending.returned a = .returned b := by rw [h]
theorem ones_int (x : Int) (w : World) (h0 : 0 ≤ x) (h1 : x ≤ 255) : Calls Tryz.prog 138 #[.int .u8 x] w fun e w' => e = .returned (.int .i64 (Lib.onesCount x.toNat)) ∧ w' = w := by
  have e : wrap64 (Lib.pop8 x) = (Lib.onesCount x.toNat : Int) := by unfold wrap64; exact Lib.pop8_int x h0 h1
  rw [← e]
  clear e
  go_enter Tryz.func138, Tryz.ntmps138
  go_wp2
  go_ret
  exact ⟨rfl, rfl⟩
theorem ones_any (h : Nat) (w : World) (hh : h < 128) : Calls Tryz.prog 138 #[.int .u8 h] w fun e w' => e = .returned (.int .i64 (Lib.onesCount h)) ∧ w = w' :=
  (ones_int h w (by omega) (by omega)).mono fun e w' he => ⟨by rw [he.1, Int.toNat_natCast], he.2.symm⟩
theorem shr_lt : ∀ h : Fin 128, ∀ i : Fin 7, ((h.val / 2 ^ i.val == 0) = decide (h.val < 2 ^ i.val)) := by decide +kernel
set_option maxRecDepth 100000 in
theorem allBelow_any (h i : Nat) (w : World) (hh : h < 128) (hi : i < 7) : Calls Tryz.prog 135 #[.int .u8 h, .int .i64 i] w fun e w' => e = .returned (.bool (decide (h < 2 ^ i))) ∧ w = w' := by
  have hk : ∀ i : Nat, i < 7 → i = 0 ∨ i = 1 ∨ i = 2 ∨ i = 3 ∨ i = 4 ∨ i = 5 ∨ i = 6 := fun i h => by omega
  have hs := shr_lt ⟨h, hh⟩ ⟨i, hi⟩
  simp only at hs
  rw [← hs]
  clear hs
  rcases hk i hi with rfl | rfl | rfl | rfl | rfl | rfl | rfl
  all_goals
    go_enter Tryz.func135, Tryz.ntmps135
    go_wp2_with fail
    go_ret
    refine ⟨ret_b ?_, rfl⟩
    rw [Bool.eq_iff_iff, beq_iff_eq, beq_iff_eq]
    simp only [Nat.reducePow]
    omega
theorem with_or : ∀ h : Fin 128, ∀ i : Fin 7, bits .or .u8 (h.val : Int) ((2 ^ i.val : Nat) : Int) = ((h.val ||| 2 ^ i.val : Nat) : Int) := by decide +kernel
set_option maxRecDepth 100000 in
theorem with_any (h i : Nat) (w : World) (hh : h < 128) (hi : i < 7) : Calls Tryz.prog 136 #[.int .u8 h, .int .i64 i] w fun e w' => e = .returned (.int .u8 ((h ||| 2 ^ i : Nat) : Int)) ∧ w = w' := by
  have hk : ∀ i : Nat, i < 7 → i = 0 ∨ i = 1 ∨ i = 2 ∨ i = 3 ∨ i = 4 ∨ i = 5 ∨ i = 6 := fun i h => by omega
  rcases hk i hi with rfl | rfl | rfl | rfl | rfl | rfl | rfl
  all_goals
    go_enter Tryz.func136, Tryz.ntmps136
    go_wp2_with fail
    go_ret
    refine ⟨ret_v ?_, rfl⟩
    exact congrArg (Value.int .u8) (with_or ⟨h, hh⟩ ⟨_, hi⟩)
theorem isQuorum_any (h : Nat) (n : Int) (w : World) (hh : h < 128) : Calls Tryz.prog 107 #[.int .u8 h, .int .i64 n] w fun e w' => e = .returned (.bool (decide (fCode n = 0) && decide ((Lib.onesCount h : Int) = qOut n))) ∧ w = w' := by
  have HO := ones_any h w hh
  have HQ := Qm.implQuorumOf_any n w
  by_cases hf : fCode n = 0
  · rw [hf] at HQ ⊢
    generalize (Lib.onesCount h : Int) = oc at HO ⊢
    generalize qOut n = q at HQ ⊢
    go_enter Tryz.func107, Tryz.ntmps107
    go_wp2_with fail
    refine HQ.mono ?_
    rintro e w1 ⟨rfl, rfl⟩
    go_wp2_with fail
    refine HO.mono ?_
    rintro e w1 ⟨rfl, rfl⟩
    go_wp2_with fail
    go_ret
    exact ⟨ret_b (by rw [Bool.eq_iff_iff, beq_iff_eq, Bool.and_eq_true, decide_eq_true_eq, decide_eq_true_eq]; simp), rfl⟩
  · have hf' : (fCode n == 0) = false := by simp [hf]
    rw [decide_eq_false hf]
    generalize fCode n = fc at HQ hf hf'
    generalize qOut n = q at HQ
    go_enter Tryz.func107, Tryz.ntmps107
    go_wp2_with fail
    refine HQ.mono ?_
    rintro e w1 ⟨rfl, rfl⟩
    go_wp2_with fail
    go_ret
    exact ⟨ret_b (by simp), rfl⟩
set_option maxRecDepth 100000 in
set_option maxHeartbeats 1600000 in
theorem isNode_any (id n : Int) (w : World) : Calls Tryz.prog 134 #[.int .i64 n, .int .i64 id] w fun e w' => e = .returned (.bool (okN id n)) ∧ w = w' := by
  by_cases h : fCode n = 0
  · have hb := f_small h
    have HO : Hid (okN id n = inB id 0 (n - 1)) := by show _ = _; unfold okN; rw [decide_eq_true h]; rfl
    rw [HO.out]
    have HF := implFaultsOf_any n w
    rw [h] at HF
    clear h
    go_enter Tryz.func134, Tryz.ntmps134
    go_wp2_with fail
    refine HF.mono ?_
    rintro e w1 ⟨rfl, hw⟩
    rw [hw]
    clear hw
    go_wp2_with fail
    refine (Qm.within_any id 0 (n - 1) w).mono ?_
    rintro e w2 ⟨rfl, rfl⟩
    go_wp2_with fail
    go_ret
    exact ⟨by simp, rfl⟩
  · have HO : Hid (okN id n = false) := by show _ = _; unfold okN; rw [decide_eq_false h]; rfl
    rw [HO.out]
    have h4 : fCode n = 4 := f_four h
    have HF := implFaultsOf_any n w
    rw [h4] at HF
    clear h h4
    go_enter Tryz.func134, Tryz.ntmps134
    go_wp2_with fail
    refine HF.mono ?_
    rintro e w1 ⟨rfl, hw⟩
    rw [hw]
    clear hw
    go_wp2_with fail
    go_ret
    exact ⟨rfl, rfl⟩
end Go.Proofs.YtnebohdlndiejaaGreatDoor.Xq

/- Nodes that rise: the program's walk. -/
namespace Go.Proofs.YtnebohdlndiejaaGreatDoor.Xq
open Go.RowKit Go.Proofs.YtnebohdlndiejaaGreatDoor.Tm Go.Proofs.YtnebohdlndiejaaGreatDoor.Sl Go.Proofs.YtnebohdlndiejaaGreatDoor.Is
open Go.Proofs.YtnebohdlndiejaaGreatDoor.Qm (qOut inB)
open Go.Proofs.YtnebohdlndiejaaGreatDoor.Rg (RowG RowG.slice RowG.at lt_at mem_at blk_cell bel_new)

/-- The slice v holds the integers xs. -/
def RowJ (w : World) (v : Value) (xs : List Int) : Prop :=
  ∃ a cap, v = .slice a xs.length cap ∧ (xs = [] ∨ ∃ b off, a = some ⟨b, off, none⟩ ∧ xs.length ≤ cap ∧ b < w.heap.size ∧ ∀ i x, xs[i]? = some x → w.cell? ⟨b, off + i, none⟩ = some (.int .i64 x))
theorem RowJ.below {w w' : World} {v : Value} {xs : List Int} (h : RowJ w v xs) (hb : Below w.heap.size w w') : RowJ w' v xs := by
  obtain ⟨a, cap, rfl, h⟩ := h
  refine ⟨a, cap, rfl, ?_⟩
  rcases h with h | ⟨b, off, rfl, hc, hlt, h⟩
  · exact .inl h
  · exact .inr ⟨b, off, rfl, hc, Nat.lt_of_lt_of_le hlt hb.size, fun i x hi => (hb.cell (p := ⟨b, off + i, none⟩) hlt).trans (h i x hi)⟩
theorem RowJ.of_row {w : World} {v : Value} {xs : List Int} (h : RowI w v xs) : RowJ w v xs := by
  obtain ⟨a, cap, rfl, h, _⟩ := h
  refine ⟨a, cap, rfl, ?_⟩
  rcases h with h | ⟨b, off, rfl, hc, hlt, h⟩
  · exact .inl h
  · refine .inr ⟨b, off, rfl, hc, hlt, fun i x hi => ?_⟩
    have hl := lt_at hi
    have := h i hl
    rw [nth_at hl] at hi
    cases hi
    exact this
theorem RowJ.of_own {w : World} {B : Nat} {v : Value} {xs : List Int} (h : OwnI w B v xs) : RowJ w v xs := by
  obtain ⟨hl, h⟩ := h
  rcases h with ⟨rfl, h0⟩ | ⟨g, cap, cur, rfl, hB, hg, hc, _, hs, htk⟩
  · exact ⟨none, 0, by rw [h0], .inl (List.length_eq_zero_iff.1 h0)⟩
  · refine ⟨_, cap, rfl, .inr ⟨g, 0, rfl, hc, (Array.getElem?_eq_some_iff.1 hg).1, fun i x hi => ?_⟩⟩
    have h1 : (cur.toList.take (xs.length * 1))[i]? = some (.int .i64 x) := by
      rw [htk, List.getElem?_map, hi]; rfl
    rw [List.getElem?_take] at h1
    split at h1
    · simp only [World.cell?, hg, Nat.zero_add]
      simpa using h1
    · cases h1
theorem RowJ.at {w : World} {a : Option Addr} {l cap : Nat} {xs : List Int} {i : Nat} {x : Int} (h : RowJ w (.slice a l cap) xs) (hi : xs[i]? = some x) : ∃ b off, a = some ⟨b, off, none⟩ ∧ b < w.heap.size ∧ w.cell? ⟨b, off + i, none⟩ = some (.int .i64 x) := by
  obtain ⟨a', cap', e, h⟩ := h
  cases e
  rcases h with rfl | ⟨b, off, rfl, _, hlt, h⟩
  · simp at hi
  · exact ⟨b, off, rfl, hlt, h i x hi⟩
theorem ret_ub {a b : Int} {c d : Bool} (h : a = b ∧ c = d) : Ending.returned (.tuple #[.int .u8 a, .bool c]) = .returned (.tuple #[.int .u8 b, .bool d]) := by rw [h.1, h.2]
/-- What risingNodes answers. -/
noncomputable def rnB (n : Int) (ms : List Int) : Bool := bOf (GoodTo n ms ms.length)
noncomputable def rnM (n : Int) (ms : List Int) : Nat := if rnB n ms then msk ms ms.length else 0
theorem rn_not {n : Int} {ms : List Int} {k : Nat} {x : Int} (hx : ms[k]? = some x) (h : ¬ (isV n x = true ∧ msk ms k < 2 ^ frn x)) : rnM n ms = 0 ∧ rnB n ms = false := by
  have e : rnB n ms = false := bOf_false (fun hg => h (hg k x (Rg.lt_at hx) hx))
  exact ⟨by unfold rnM; rw [e]; rfl, e⟩
theorem rn_end {n : Int} {ms : List Int} (h : GoodTo n ms ms.length) : rnM n ms = msk ms ms.length ∧ rnB n ms = true := by
  have e : rnB n ms = true := bOf_true h
  exact ⟨by unfold rnM; rw [e]; rfl, e⟩
theorem rn_iff {n : Int} {ms : List Int} : rnB n ms = true ↔ (∀ x ∈ ms, isV n x = true) ∧ Rise ms ms.length := by
  unfold rnB
  rw [bOf_iff, good_all (Nat.le_refl _)]
  constructor
  · rintro ⟨a1, a2⟩
    refine ⟨fun x hx => ?_, a2⟩
    obtain ⟨j, hj, e⟩ := List.getElem_of_mem hx
    exact a1 j x hj (by rw [List.getElem?_eq_getElem hj, e])
  · rintro ⟨h3, h4⟩
    exact ⟨fun j x hj hx => h3 x (List.mem_of_getElem? hx), h4⟩
theorem rnM_lt {n : Int} {ms : List Int} : rnM n ms < 128 := by
  unfold rnM
  split
  · rename_i h; exact (good_msk (bOf_iff.1 h) (Nat.le_refl _)).1
  · decide
theorem qv_rn {n : Int} {ms : List Int} : qvB n ms = (rnB n ms && (decide (fCode n = 0) && decide ((Lib.onesCount (rnM n ms) : Int) = qOut n))) := by
  cases h : rnB n ms with
  | false =>
    have hb : bOf (GoodTo n ms ms.length) = false := h
    unfold qvB
    rw [hb, Bool.false_and, Bool.false_and]
  | true =>
    have hb : bOf (GoodTo n ms ms.length) = true := h
    have hm : rnM n ms = msk ms ms.length := by unfold rnM; rw [h]; rfl
    unfold qvB
    rw [hb, hm]
set_option maxRecDepth 100000 in
set_option maxHeartbeats 1600000 in
theorem risingNodes_any (n : Int) (v : Value) (fs : List Int) (w : World) (h : RowJ w v fs) (hl : fs.length ≤ 1048600) :
    Calls Tryz.prog 106 #[.int .i64 n, v] w fun e w' => e = .returned (.tuple #[.int .u8 (rnM n fs : Int), .bool (rnB n fs)]) ∧ w = w' := by
  have HR : Hid (RowJ w v fs) := h
  obtain ⟨a, cap, rfl, _⟩ := h
  go_enter Tryz.func106, Tryz.ntmps106
  go_wp2_with fail
  go_loopw [6, 11] (fun hd i wr => ∃ k : Nat, k ≤ fs.length ∧ hd = .int .u8 (msk fs k : Int) ∧ i = .int .i64 k ∧ Hid (GoodTo n fs k) ∧ wr = w) (fun _ i _ => fs.length - (intOf i).toNat)
  case atStart => exact ⟨0, by omega, rfl, rfl, GoodTo.zero n fs, rfl⟩
  case round =>
    obtain ⟨k, hk, rfl, rfl, HZ, rfl⟩ := hrel
    have hmk : msk fs k < 128 := (good_msk HZ.out hk).1
    by_cases hlt : k < fs.length
    · obtain ⟨x, hx⟩ := Rg.get_at hlt
      obtain ⟨b, off, rfl, hbl, c0⟩ := HR.out.at hx
      have HNO := isNode_any x n wr
      cases hv : isV n x with
      | false =>
        have HF : Hid (rnM n fs = 0 ∧ rnB n fs = false) := rn_not hx (fun hh => by rw [hv] at hh; cases hh.1)
        have hv' : okN x n = false := hv
        rw [hv'] at HNO
        clear hv hv' hx hmk
        go_wp2_with (go_at_call 134; refine HNO.mono ?_; rintro e w1 ⟨rfl, rfl⟩)
        go_ret2
        exact ⟨ret_ub ⟨by rw [HF.out.1]; rfl, HF.out.2.symm⟩, rfl⟩
      | true =>
        obtain ⟨e1, e2⟩ := isV_frn hv
        have hv' : okN x n = true := hv
        rw [hv'] at HNO
        obtain ⟨j, HJ⟩ : ∃ j, Hid (frn x = j) := ⟨_, rfl⟩
        rw [HJ.out] at e1 e2
        have HAB := allBelow_any (msk fs k) j wr hmk e2
        have HWI := with_any (msk fs k) j wr hmk e2
        by_cases hb : msk fs k < 2 ^ j
        · have HS : Hid (msk fs (k + 1) = (msk fs k ||| 2 ^ j)) := by show _ = _; rw [msk_step hx, HJ.out]
          have HG : Hid (GoodTo n fs (k + 1)) := HZ.out.succ hx hv (by rw [HJ.out]; exact hb)
          rw [decide_eq_true hb] at HAB
          obtain ⟨q, HQ⟩ : ∃ q, Hid ((msk fs k ||| 2 ^ j) = q) := ⟨_, rfl⟩
          rw [HQ.out] at HWI HS
          subst e1
          clear hb hv hv' hx HJ HQ hmk
          generalize msk fs k = mm at HAB HWI ⊢
          go_wp2_with (first | (go_at_call 134; refine HNO.mono ?_; rintro e w1 ⟨rfl, rfl⟩) | (go_at_call 135; refine HAB.mono ?_; rintro e w1 ⟨rfl, rfl⟩) | (go_at_call 136; refine HWI.mono ?_; rintro e w1 ⟨rfl, rfl⟩))
          exact ⟨⟨k + 1, by omega, by rw [HS.out], by go_num, HG, trivial⟩, by simp [intOf]; omega⟩
        · have HF : Hid (rnM n fs = 0 ∧ rnB n fs = false) := rn_not hx (fun hh => hb (by have := hh.2; rwa [HJ.out] at this))
          rw [decide_eq_false hb] at HAB
          subst e1
          clear hb hv hv' hx HJ HWI hmk
          generalize msk fs k = mm at HAB ⊢
          go_wp2_with (first | (go_at_call 134; refine HNO.mono ?_; rintro e w1 ⟨rfl, rfl⟩) | (go_at_call 135; refine HAB.mono ?_; rintro e w1 ⟨rfl, rfl⟩))
          go_ret2
          exact ⟨ret_ub ⟨by rw [HF.out.1]; rfl, HF.out.2.symm⟩, rfl⟩
    · obtain rfl : k = fs.length := by omega
      have HF : Hid (rnM n fs = msk fs fs.length ∧ rnB n fs = true) := rn_end HZ.out
      clear hmk
      go_wp2_with fail
      go_ret2
      exact ⟨ret_ub ⟨by rw [HF.out.1], HF.out.2.symm⟩, rfl⟩
end Go.Proofs.YtnebohdlndiejaaGreatDoor.Xq
