/- What a request does to a table: a right table stays right. -/
import Derived.Test.YtlgfeohoebmbcaaGreatFb
import Derived.Test.YtlgfeohoebmbcaaGreatTq
namespace Go.Proofs.YtlgfeohoebmbcaaGreat.Da
open Go.RowKit Go.Proofs.YtlgfeohoebmbcaaGreat.Tb Go.Proofs.YtlgfeohoebmbcaaGreat.Tw Go.Proofs.YtlgfeohoebmbcaaGreat.Tp Go.Proofs.YtlgfeohoebmbcaaGreat.Rq

/-- An answer; what is told of a lock; what is told without one. -/
structure An where
  k : Int
  t : Int
  h : Int
  e : Int
def tell (k : Int) (x : Lk) : An := ⟨k, x.t, x.h, x.e⟩
def bare (k : Int) : An := ⟨k, 0, -1, 0⟩
/-- An element put in at a place. -/
def putAt {α : Type} (xs : List α) (k : Nat) (x : α) : List α := xs.take k ++ x :: xs.drop k
theorem putAt_len {α : Type} {xs : List α} {k : Nat} {x : α} (hk : k ≤ xs.length) : (putAt xs k x).length = xs.length + 1 := by
  unfold putAt
  simp
  omega
theorem putAt_at {α : Type} {xs : List α} {k : Nat} {x : α} (hk : k ≤ xs.length) (i : Nat) : (putAt xs k x)[i]? = if i < k then xs[i]? else if i = k then some x else xs[i - 1]? := by
  unfold putAt
  by_cases h1 : i < k
  · rw [if_pos h1, List.getElem?_append_left (by rw [List.length_take]; omega), List.getElem?_take, if_pos h1]
  · rw [if_neg h1, List.getElem?_append_right (by rw [List.length_take]; omega), List.length_take, Nat.min_eq_left hk]
    by_cases h2 : i = k
    · subst h2; simp
    · rw [if_neg h2]
      obtain ⟨m, rfl⟩ : ∃ m, i = k + m + 1 := ⟨i - k - 1, by omega⟩
      rw [show k + m + 1 - k = m + 1 by omega, List.getElem?_cons_succ, List.getElem?_drop]
      congr 1
/-- How many at the front are so. -/
def plP {α : Type} (p : α → Bool) : List α → Nat
  | [] => 0
  | x :: r => if p x = true then plP p r + 1 else 0
theorem plP_le {α : Type} {p : α → Bool} : ∀ xs : List α, plP p xs ≤ xs.length
  | [] => by simp [plP]
  | x :: r => by
    have := plP_le (p := p) r
    unfold plP
    split <;> simp <;> omega
theorem plP_before {α : Type} {p : α → Bool} : ∀ (xs : List α) (i : Nat) (x : α), i < plP p xs → xs[i]? = some x → p x = true
  | [], i, x, h, _ => by simp [plP] at h
  | y :: r, i, x, h, hx => by
    unfold plP at h
    by_cases e : p y = true
    · rw [if_pos e] at h
      cases i with
      | zero => simp at hx; subst hx; exact e
      | succ i => exact plP_before r i x (by omega) (by simpa using hx)
    · rw [if_neg e] at h; omega
theorem plP_here {α : Type} {p : α → Bool} : ∀ (xs : List α) (x : α), xs[plP p xs]? = some x → p x = false
  | [], x, h => by simp at h
  | y :: r, x, h => by
    unfold plP at h
    by_cases e : p y = true
    · rw [if_pos e, List.getElem?_cons_succ] at h
      exact plP_here r x h
    · rw [if_neg e] at h
      simp at h
      subst h
      simpa using e
/-- The place of one that is so. -/
def fiP {α : Type} (p : α → Bool) : List α → Option Nat
  | [] => none
  | x :: r => if p x = true then some 0 else (fiP p r).map (· + 1)
theorem fiP_some {α : Type} {p : α → Bool} : ∀ (xs : List α) (k : Nat), fiP p xs = some k → ∃ x, xs[k]? = some x ∧ p x = true
  | [], k, h => by simp [fiP] at h
  | y :: r, k, h => by
    unfold fiP at h
    by_cases e : p y = true
    · rw [if_pos e] at h; cases h; exact ⟨y, rfl, e⟩
    · rw [if_neg e] at h
      obtain ⟨m, hm, rfl⟩ := Option.map_eq_some_iff.1 h
      obtain ⟨x, h1, h2⟩ := fiP_some r m hm
      exact ⟨x, by simpa using h1, h2⟩
theorem fiP_none {α : Type} {p : α → Bool} : ∀ (xs : List α), fiP p xs = none → ∀ (k : Nat) (x : α), xs[k]? = some x → p x = false
  | [], _, k, x, hx => by simp at hx
  | y :: r, h, k, x, hx => by
    unfold fiP at h
    by_cases e : p y = true
    · rw [if_pos e] at h; cases h
    · rw [if_neg e] at h
      have h1 : fiP p r = none := by simpa using h
      cases k with
      | zero => simp at hx; subst hx; simpa using e
      | succ k => exact fiP_none r h1 k x (by simpa using hx)
def less (a b : ByteArray) : Bool := Op.bytesLess a.toList b.toList
theorem after_iff (a b : ByteArray) : (Op.bytesLess b.toList a.toList || b.toList == a.toList) = false ↔ less a b = true := by
  unfold less
  rw [Tq.less_total a.toList b.toList]
  cases (Op.bytesLess b.toList a.toList || b.toList == a.toList) <;> simp
theorem toList_inj {a b : ByteArray} (h : a.toList = b.toList) : a = b := by
  rw [Lib.toList_data, Lib.toList_data] at h
  cases a
  cases b
  have h2 := Array.toList_inj.1 h
  simp only at h2
  rw [h2]
theorem less_or {a b : ByteArray} (h1 : less a b = false) (h2 : a ≠ b) : less b a = true := by
  unfold less at h1 ⊢
  rw [Tq.less_total b.toList a.toList, h1, Bool.false_or]
  have : (a.toList == b.toList) = false := by rw [beq_eq_false_iff_ne]; exact fun e => h2 (toList_inj e)
  rw [this]
  rfl
/-- The place where a name belongs; the place of a name; a lock put in. -/
def plc (ls : List Lk) (nm : ByteArray) : Nat := plP (fun x => less x.n nm) ls
def idx (ls : List Lk) (nm : ByteArray) : Option Nat := fiP (fun x => x.n.toList == nm.toList) ls
theorem pn_put {ls : List Lk} {k : Nat} {x : Lk} (hk : k ≤ ls.length) (i : Nat) : pn (putAt ls k x) i = if i ≤ k then pn ls i else if i = k + 1 then x.n else pn ls (i - 1) := by
  unfold pn
  by_cases h0 : i = 0
  · subst h0; simp
  · rw [if_neg h0, List.getD_eq_getElem?_getD, putAt_at hk]
    by_cases h1 : i ≤ k
    · rw [if_pos h1, if_pos (by omega), if_neg h0, List.getD_eq_getElem?_getD]
    · rw [if_neg h1, if_neg (by omega)]
      by_cases h2 : i = k + 1
      · rw [if_pos h2, if_pos (by omega)]; rfl
      · rw [if_neg h2, if_neg (by omega), if_neg (by omega), List.getD_eq_getElem?_getD]
/-- Locks with one more are right. -/
theorem put_ok {nx : Int} {ls : List Lk} {x : Lk} (h : LsOK nx ls) (hn : idx ls x.n = none) (hx : opB x.n = true) (he : less ⟨#[]⟩ x.n = true) (ht : inB x.t 0 (nx - 1) = true) (hh : HdOK x) : LsOK nx (putAt ls (plc ls x.n) x) := by
  have hk := plP_le (p := fun y : Lk => less y.n x.n) ls
  unfold plc
  intro i l hl
  rw [putAt_at hk] at hl
  rw [pn_put hk]
  generalize hK : plP (fun y : Lk => less y.n x.n) ls = k at hk hl ⊢
  by_cases h1 : i < k
  · rw [if_pos h1] at hl
    rw [if_pos (by omega)]
    exact h i l hl
  · rw [if_neg h1] at hl
    by_cases h2 : i = k
    · rw [if_pos h2] at hl
      obtain rfl : x = l := by simpa using hl
      rw [if_pos (by omega)]
      refine ⟨(after_iff _ _).2 ?_, hx, ht, hh⟩
      subst h2
      unfold pn
      by_cases h0 : i = 0
      · rw [if_pos h0]; exact he
      · rw [if_neg h0, List.getD_eq_getElem?_getD]
        obtain ⟨y, hy⟩ : ∃ y, ls[i - 1]? = some y := ⟨_, List.getElem?_eq_getElem (show i - 1 < ls.length by omega)⟩
        rw [hy]
        exact plP_before (p := fun y : Lk => less y.n x.n) ls (i - 1) y (by omega) hy
    · rw [if_neg h2] at hl
      rw [if_neg (by omega)]
      obtain ⟨a1, a2, a3, a4⟩ := h (i - 1) l hl
      by_cases h3 : i = k + 1
      · rw [if_pos h3]
        refine ⟨(after_iff _ _).2 (less_or ?_ ?_), a2, a3, a4⟩
        · have : i - 1 = k := by omega
          rw [this, ← hK] at hl
          exact plP_here (p := fun y : Lk => less y.n x.n) ls l hl
        · intro e
          have := fiP_none (p := fun y : Lk => y.n.toList == x.n.toList) ls hn (i - 1) l hl
          rw [e] at this
          simp at this
      · rw [if_neg h3]
        exact ⟨a1, a2, a3, a4⟩
/-- Locks with one changed are right. -/
theorem set_ok {nx nx' : Int} {ls : List Lk} {k : Nat} {x y : Lk} (h : LsOK nx ls) (hle : nx ≤ nx') (hx : ls[k]? = some x) (hn : y.n = x.n) (ht : inB y.t 0 (nx' - 1) = true) (hh : HdOK y) : LsOK nx' (ls.set k y) := by
  have hp : ∀ i, pn (ls.set k y) i = pn ls i := fun i => by
    unfold pn
    by_cases h0 : i = 0
    · rw [if_pos h0, if_pos h0]
    · rw [if_neg h0, if_neg h0, List.getD_eq_getElem?_getD, List.getD_eq_getElem?_getD, List.getElem?_set]
      by_cases e : k = i - 1
      · rw [if_pos e]
        subst e
        rw [if_pos (List.getElem?_eq_some_iff.1 hx).1, hx]
        exact hn
      · rw [if_neg e]
  intro i l hl
  rw [hp]
  rw [List.getElem?_set] at hl
  by_cases e : k = i
  · subst e
    rw [if_pos rfl, if_pos (List.getElem?_eq_some_iff.1 hx).1] at hl
    obtain rfl : y = l := by simpa using hl
    obtain ⟨a1, a2, _, _⟩ := h k x hx
    exact ⟨by rw [hn]; exact a1, by rw [hn]; exact a2, ht, hh⟩
  · rw [if_neg e] at hl
    obtain ⟨a1, a2, a3, a4⟩ := h i l hl
    have b := inB_le a3
    exact ⟨a1, a2, inB_of b.1 (by omega), a4⟩
theorem ls_up {nx nx' : Int} {ls : List Lk} (h : LsOK nx ls) (hle : nx ≤ nx') : LsOK nx' ls := fun i l hl => by
  obtain ⟨a1, a2, a3, a4⟩ := h i l hl
  have b := inB_le a3
  exact ⟨a1, a2, inB_of b.1 (by omega), a4⟩
end Go.Proofs.YtlgfeohoebmbcaaGreat.Da
