/- Two lists of different numbers below n: how many they have in common. -/
import Derived.Test.YtpljjchjdejcfaaAi
import Derived.Maps.AppendAt
namespace Go.Proofs.Ytpljjchjdejcfaa.Qf
open Go.RowKit Go.Proofs.Ytpljjchjdejcfaa.Sl Go.Proofs.Ytpljjchjdejcfaa.Is

theorem pigeon : ∀ (n : Nat) (l : List Int), l.Nodup → (∀ x ∈ l, 0 ≤ x ∧ x < n) → l.length ≤ n
  | 0, l, _, h => by
    cases l with
    | nil => simp
    | cons x r => have := h x List.mem_cons_self; omega
  | n + 1, l, hd, h => by
    have ih := pigeon n (l.erase (n : Int)) (hd.erase _) (fun x hx => by
      have h1 := h x (List.mem_of_mem_erase hx)
      have h2 : x ≠ (n : Int) := (List.Nodup.mem_erase_iff hd).1 hx |>.1
      omega)
    rw [List.length_erase] at ih
    split at ih <;> omega
/-- How many of the first k are among b. -/
def both (a b : List Int) (k : Nat) : Nat := (a.take k).countP (fun x => decide (x ∈ b))
theorem both_le (a b : List Int) (k : Nat) : both a b k ≤ k := by
  unfold both
  exact Nat.le_trans List.countP_le_length (by rw [List.length_take]; omega)
theorem both_step {a b : List Int} {k : Nat} (h : k < a.length) : both a b (k + 1) = both a b k + (if nth a k ∈ b then 1 else 0) := by
  unfold both
  rw [List.take_add_one, nth_at h, List.countP_append]
  congr 1
  by_cases e : nth a k ∈ b
  · rw [if_pos e]; simp [e]
  · rw [if_neg e]; simp [e]
theorem common {n : Nat} {a b : List Int} (ha : a.Nodup) (hb : b.Nodup) (ra : ∀ x ∈ a, 0 ≤ x ∧ x < n) (rb : ∀ x ∈ b, 0 ≤ x ∧ x < n) : a.length + b.length ≤ n + both a b a.length := by
  have h1 : ((a.filter fun x => !decide (x ∈ b)) ++ b).Nodup := by
    rw [List.nodup_append]
    refine ⟨ha.filter _, hb, fun x hx y hy e => ?_⟩
    subst e
    have := (List.mem_filter.1 hx).2
    simp [hy] at this
  have h2 := pigeon n _ h1 (fun x hx => by
    rcases List.mem_append.1 hx with h | h
    · exact ra x (List.mem_filter.1 h).1
    · exact rb x h)
  rw [List.length_append, ← List.countP_eq_length_filter] at h2
  have h3 := List.length_eq_countP_add_countP (fun x => decide (x ∈ b)) (l := a)
  unfold both
  rw [List.take_length]
  have h4 : a.countP (fun x => !decide (x ∈ b)) = a.countP (fun x => decide ¬decide (x ∈ b) = true) := by
    congr 1; funext x; simp
  omega
/-- Some different numbers below n. -/
def Ch (n q : Nat) (a : List Int) : Prop := a.Nodup ∧ (∀ x ∈ a, 0 ≤ x ∧ x < (n : Int)) ∧ a.length ≤ q
theorem Ch.nil (n q : Nat) : Ch n q [] := ⟨List.nodup_nil, ⟨fun x h => absurd h (by simp), by simp⟩⟩
theorem Ch.add {n q k : Nat} {a : List Int} (h : Ch n q a) (hk : k < n) (hq : a.length < q) (hn : (k : Int) ∉ a) : Ch n q (a ++ [(k : Int)]) := by
  refine ⟨?_, ?_, by simp; omega⟩
  · rw [List.nodup_append]
    refine ⟨h.1, by simp, fun x hx y hy e => ?_⟩
    simp at hy
    subst e; subst hy
    exact hn hx
  · intro x hx
    rcases List.mem_append.1 hx with h' | h'
    · exact h.2.1 x h'
    · simp at h'; omega
theorem Ch.range {n q : Nat} {a : List Int} (h : Ch n q a) (hn : n ≤ 7) : ∀ x ∈ a, -9223372036854775808 ≤ x ∧ x ≤ 9223372036854775807 := fun x hx => by have := h.2.1 x hx; omega
/-- Nothing was written but v's own row, and new blocks. -/
def Kq (W w' : World) (v v' : Value) : Prop := ∀ k, k < W.heap.size → some k ≠ v.ownBlock → w'.heap[k]? = W.heap[k]? ∧ some k ≠ v'.ownBlock
theorem list_int1k {P : Program} {ops : Array Oper} {rest : List Oper} {o : Oper} {a : Act} {Q : Exit → Act → World → Prop} (hgd : o.guard = none) (s x : Operand) (t : TypeId)
    (ho : o.op = .call { callee := .builtin .append, args := #[s, x], argTypes := #[t, t] }) (i : TypeInfo) (ht : P.underlying t = some (.slice 3)) (hi : P.info? 3 = some i) (hz : i.zero = some (.int .i64 0))
    (hsize : i.size = 1) (hby : i.bytes = 8) (B : Nat) (w0 W : World) (v : Value) (zs : List Int) (z : Int) (hs : a.eval s = v) (hown : OwnI W B v zs) (hg0 : Below B w0 W) (hB : B ≤ W.heap.size)
    (hx : a.eval x = .slice (some ⟨W.heap.size, 0, none⟩) 1 1) (hlen : zs.length + 1 ≤ 1000000)
    (h : ∀ v' w', OwnI w' B v' (zs ++ [z]) → Below B w0 w' → v' ≠ .slice none 0 0 → Kq W w' v v' → wpList P ops Q rest (a.put o.dst v') w') : wpList P ops Q (o :: rest) a (W.alloc (.cells #[.int .i64 z] 3)) := by
  have hown' : OwnI (W.alloc (.cells #[.int .i64 z] 3)) B v zs := by unfold OwnI at hown ⊢; exact hown.alloc _
  refine wpList_append_own_at (P := P) _ hgd s x t ho B 3 i (.int .i64 0) 1 8 ht hi hz hsize hby rfl (by decide) v zs.length _ hs hown' ⟨W.heap.size, 0, none⟩ 1 1 [.int .i64 z] hx (by simp) (cell_one_new _ _ _) ?_ (by unfold maxLen; omega) (by omega) (by simp; omega) ?_
  · intro c hc
    simp at hc
    subst hc
    rfl
  · intro v' w' h1 h2 h3 h4
    refine h v' w' (by unfold OwnI; simpa using h1) ((hg0.alloc hB _).grown h2 (by simp; omega) (fun k hk => (hown'.lt k hk).1)) (fun e => by have := (h3.1 e).2; omega) (fun k hk hn => ⟨(h2.block k (by simp; omega) hn).trans (Below.heap_alloc W _ k hk), fun e => ?_⟩)
    rcases h4 with h4 | h4
    · exact hn (e.trans h4)
    · rw [h4] at e
      simp at e
      omega
theorem OwnI.kept {w w' : World} {B : Nat} {v : Value} {zs : List Int} (h : OwnI w B v zs) (hk : ∀ g, v.ownBlock = some g → w'.heap[g]? = w.heap[g]?) : OwnI w' B v zs := by
  obtain ⟨hl, h⟩ := h
  refine ⟨hl, ?_⟩
  rcases h with h | ⟨g, cap, cur, rfl, h1, hg, h2⟩
  · exact .inl h
  · exact .inr ⟨g, cap, cur, rfl, h1, (hk g rfl).trans hg, h2⟩
end Go.Proofs.Ytpljjchjdejcfaa.Qf
