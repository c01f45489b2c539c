/- What time does to a table: locks that are freed, tokens that are given; a right table stays right. -/
import Derived.Test.YtlgfeohoebmbcaaGreatTp
namespace Go.Proofs.YtlgfeohoebmbcaaGreat.Da
open Go.RowKit Go.Proofs.YtlgfeohoebmbcaaGreat.Tb Go.Proofs.YtlgfeohoebmbcaaGreat.Tw Go.Proofs.YtlgfeohoebmbcaaGreat.Tp Go.Proofs.YtlgfeohoebmbcaaGreat.Rq

/-- A lock that a client holds from now on, with the next token. -/
def grL (tm nx : Int) (x : Lk) (c l : Int) : Lk := { x with h := c, t := nx, e := tm + l }
/-- A lock that is freed: the first one that waits holds it, or nobody; the next token behind that. -/
def frL (tm nx : Int) (x : Lk) : Lk := match x.ws with
  | [] => { x with h := -1, e := 0 }
  | w :: r => grL tm nx { x with ws := r } w.c w.l
def frN (nx : Int) (x : Lk) : Int := match x.ws with
  | [] => nx
  | _ :: _ => nx + 1
/-- A lease that is over. -/
def due (tm : Int) (x : Lk) : Bool := decide (x.h ≠ -1 ∧ x.e ≤ tm)
/-- The next token behind the first k locks; the lock k behind its turn; all locks. -/
def exN (tm nx : Int) (ls : List Lk) : Nat → Int
  | 0 => nx
  | k + 1 => match ls[k]? with
    | some x => if due tm x = true then frN (exN tm nx ls k) x else exN tm nx ls k
    | none => exN tm nx ls k
def exK (tm nx : Int) (ls : List Lk) (k : Nat) (x : Lk) : Lk := if due tm x = true then frL tm (exN tm nx ls k) x else x
def exL (tm nx : Int) (ls : List Lk) : List Lk := ls.mapIdx (exK tm nx ls)
/-- A table as time has gone on. -/
def exT (t : Tab) (now : Int) : Tab := ⟨max t.tm now, exN (max t.tm now) t.nx t.ls t.ls.length, exL (max t.tm now) t.nx t.ls, t.ss⟩
section
variable {tm nx : Int} {ls : List Lk}
theorem frL_name (x : Lk) : (frL tm nx x).n = x.n := by unfold frL; split <;> rfl
theorem exK_name (k : Nat) (x : Lk) : (exK tm nx ls k x).n = x.n := by unfold exK; split; exact frL_name x; rfl
theorem exL_len : (exL tm nx ls).length = ls.length := by unfold exL; simp
theorem exL_at {k : Nat} {x : Lk} (h : ls[k]? = some x) : (exL tm nx ls)[k]? = some (exK tm nx ls k x) := by unfold exL; rw [List.getElem?_mapIdx, h]; rfl
theorem exL_get {k : Nat} {y : Lk} (h : (exL tm nx ls)[k]? = some y) : ∃ x, ls[k]? = some x ∧ y = exK tm nx ls k x := by
  unfold exL at h
  rw [List.getElem?_mapIdx] at h
  obtain ⟨x, hx, e⟩ := Option.map_eq_some_iff.1 h
  exact ⟨x, hx, e.symm⟩
theorem frN_le (n : Int) (x : Lk) : n ≤ frN n x ∧ frN n x ≤ n + 1 := by unfold frN; split <;> omega
theorem exN_succ {k : Nat} {x : Lk} (h : ls[k]? = some x) : exN tm nx ls (k + 1) = if due tm x = true then frN (exN tm nx ls k) x else exN tm nx ls k := by
  rw [exN, h]
theorem exN_step (k : Nat) : exN tm nx ls k ≤ exN tm nx ls (k + 1) ∧ exN tm nx ls (k + 1) ≤ exN tm nx ls k + 1 := by
  rw [exN]
  split
  · split
    · exact frN_le _ _
    · omega
  · omega
theorem exN_le : ∀ k, nx ≤ exN tm nx ls k ∧ exN tm nx ls k ≤ nx + k
  | 0 => by simp [exN]
  | k + 1 => by have := exN_le k; have := exN_step (tm := tm) (nx := nx) (ls := ls) k; omega
theorem exN_mono (k : Nat) : ∀ m, k ≤ m → exN tm nx ls k ≤ exN tm nx ls m
  | 0, h => by have : k = 0 := by omega
               subst this; omega
  | m + 1, h => by
    by_cases e : k = m + 1
    · subst e; omega
    · have := exN_mono k m (by omega); have := exN_step (tm := tm) (nx := nx) (ls := ls) m; omega
theorem pn_ex (i : Nat) (hi : i ≤ ls.length) : pn (exL tm nx ls) i = pn ls i := by
  unfold pn
  by_cases e : i = 0
  · rw [if_pos e, if_pos e]
  · rw [if_neg e, if_neg e]
    obtain ⟨x, hx⟩ : ∃ x, ls[i - 1]? = some x := ⟨_, List.getElem?_eq_getElem (show i - 1 < ls.length by omega)⟩
    rw [List.getD_eq_getElem?_getD, List.getD_eq_getElem?_getD, exL_at hx, hx]
    exact exK_name _ _
end
theorem inB_of {x a b : Int} (h1 : a ≤ x) (h2 : x ≤ b) : inB x a b = true := by unfold inB; simp [h1, h2]
/-- A freed lock is held rightly. -/
theorem free_hd {tm nx : Int} {x : Lk} (hx : HdOK x) (h0 : 0 ≤ tm) (h1 : tm ≤ 1000000000) : HdOK (frL tm nx x) := by
  unfold frL
  split
  · rename_i e
    exact .inl ⟨rfl, rfl, by simp [e]⟩
  · rename_i w r e
    rcases hx with ⟨_, _, h⟩ | ⟨_, _, _, h4, h5⟩
    · rw [e] at h; simp at h
    · rw [e] at h4 h5
      obtain ⟨a1, a2, a3, _⟩ := h5 0 w rfl
      have b1 := inB_le a1
      have b2 := inB_le a2
      refine .inr ⟨by simp only [grL]; omega, by simpa only [grL] using a1, by simp only [grL]; exact inB_of (by omega) (by omega), by simp only [grL]; simp at h4; omega, ?_⟩
      intro k y hy
      simp only [grL] at hy ⊢
      obtain ⟨c1, c2, c3, c4⟩ := h5 (k + 1) y (by simpa using hy)
      refine ⟨c1, c2, fun e2 => c4 0 w (by omega) rfl e2.symm, fun j z hj hz => c4 (j + 1) z (by omega) (by simpa using hz)⟩
theorem ex_ok {tm nx : Int} {ls : List Lk} (h : LsOK nx ls) (h0 : 0 ≤ tm) (h1 : tm ≤ 1000000000) (hn : 1 ≤ nx) : LsOK (exN tm nx ls ls.length) (exL tm nx ls) := by
  intro i l hl
  obtain ⟨x, hx, rfl⟩ := exL_get hl
  have hi : i < ls.length := (List.getElem?_eq_some_iff.1 hx).1
  obtain ⟨a1, a2, a3, a4⟩ := h i x hx
  have b3 := inB_le a3
  have m1 := exN_le (tm := tm) (nx := nx) (ls := ls) i
  have m2 := exN_mono (tm := tm) (nx := nx) (ls := ls) (i + 1) ls.length hi
  have m3 := exN_step (tm := tm) (nx := nx) (ls := ls) i
  refine ⟨by rw [pn_ex i (by omega), exK_name]; exact a1, by rw [exK_name]; exact a2, ?_, ?_⟩
  · unfold exK
    split
    · rename_i hd
      have hs := exN_succ (tm := tm) (nx := nx) hx
      rw [if_pos hd] at hs
      unfold frL
      unfold frN at hs
      split
      · exact inB_of (show 0 ≤ x.t by omega) (show x.t ≤ _ by omega)
      · rename_i w r e
        rw [e] at hs
        simp only at hs
        exact inB_of (show 0 ≤ exN tm nx ls i by omega) (show exN tm nx ls i ≤ _ by omega)
    · exact inB_of (by omega) (by omega)
  · unfold exK
    split
    · exact free_hd a4 h0 h1
    · exact a4
/-- A right table whose time goes on is right. -/
theorem exT_ok {t : Tab} {now : Int} (h : TOK t) (h0 : 0 ≤ now) (h1 : now ≤ 1000000000) (hn : t.nx ≤ 999990) : TOK (exT t now) := by
  obtain ⟨a1, a2, a3, a4, a5, a6⟩ := h
  have b1 := inB_le a1
  have b2 := inB_le a2
  have hm : 0 ≤ max t.tm now ∧ max t.tm now ≤ 1000000000 := by omega
  have m1 := exN_le (tm := max t.tm now) (nx := t.nx) (ls := t.ls) t.ls.length
  unfold exT
  refine ⟨inB_of hm.1 hm.2, inB_of (show 1 ≤ exN (max t.tm now) t.nx t.ls t.ls.length by omega) (show exN (max t.tm now) t.nx t.ls t.ls.length ≤ 1000000 by omega), by simp only; rw [exL_len]; exact a3, ?_, a5, a6⟩
  exact ex_ok a4 hm.1 hm.2 b2.1
end Go.Proofs.YtlgfeohoebmbcaaGreat.Da
