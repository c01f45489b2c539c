/- What a request does to a lock; a rightly held lock stays one. -/
import Derived.Test.YtlgfeohoebmbcaaGreatFa
namespace Go.Proofs.YtlgfeohoebmbcaaGreat.Da
open Go.RowKit Go.Proofs.YtlgfeohoebmbcaaGreat.Tb Go.Proofs.YtlgfeohoebmbcaaGreat.Tw Go.Proofs.YtlgfeohoebmbcaaGreat.Tp Go.Proofs.YtlgfeohoebmbcaaGreat.Rq

/-- A request; a right one. -/
structure Ask where
  kd : Int
  cl : Int
  st : Int
  nm : ByteArray
  le : Int
def AskOK (r : Ask) : Prop := inB r.cl 0 255 = true ∧ inB r.st 1 65535 = true ∧ ((r.kd = 1 ∨ r.kd = 3) ∧ inB r.le 1 1000 = true ∨ (r.kd = 2 ∨ r.kd = 4) ∧ r.le = 0) ∧ opB r.nm = true
/-- Whether a client waits. -/
def wtB (ws : List Wt) (c : Int) : Bool := ws.any fun w => w.c == c
/-- What is told of a lock that is not changed. -/
def stK (x : Lk) : Int := if x.h = -1 then 4 else 5
/-- A lock behind a request, the next token, the answer's kind. -/
def acL (tm nx : Int) (r : Ask) (x : Lk) : Lk :=
  if r.kd = 1 then (if x.h = r.cl ∨ wtB x.ws r.cl = true then x else if x.h = -1 then grL tm nx x r.cl r.le else if 4 ≤ x.ws.length then x else { x with ws := x.ws ++ [⟨r.cl, r.le⟩] })
  else if r.kd = 2 then (if wtB x.ws r.cl = true then { x with ws := x.ws.eraseIdx (x.ws.findIdx fun w => w.c == r.cl) } else if x.h = r.cl then frL tm nx x else x)
  else if r.kd = 3 then (if x.h = r.cl then { x with e := tm + r.le } else x) else x
def acN (nx : Int) (r : Ask) (x : Lk) : Int :=
  if r.kd = 1 then (if x.h = r.cl ∨ wtB x.ws r.cl = true then nx else if x.h = -1 then nx + 1 else nx)
  else if r.kd = 2 then (if wtB x.ws r.cl = true then nx else if x.h = r.cl then frN nx x else nx) else nx
def acK (r : Ask) (x : Lk) : Int :=
  if r.kd = 1 then (if x.h = r.cl ∨ wtB x.ws r.cl = true then 8 else if x.h = -1 then 1 else if 4 ≤ x.ws.length then 6 else 2)
  else if r.kd = 2 then (if wtB x.ws r.cl = true then 1 else if x.h = r.cl then 1 else stK x)
  else if r.kd = 3 then (if x.h = r.cl then 1 else stK x) else stK x
theorem wt_no {ws : List Wt} {c : Int} (h : ¬ wtB ws c = true) {k : Nat} {y : Wt} (hy : ws[k]? = some y) : y.c ≠ c := fun e => h (by
  unfold wtB
  rw [List.any_eq_true]
  exact ⟨y, List.mem_of_getElem? hy, by simpa using e⟩)
theorem acL_name (tm nx : Int) (r : Ask) (x : Lk) : (acL tm nx r x).n = x.n := by
  unfold acL
  repeat' split
  all_goals first | rfl | exact frL_name x
theorem acN_le (nx : Int) (r : Ask) (x : Lk) : nx ≤ acN nx r x ∧ acN nx r x ≤ nx + 1 := by
  unfold acN
  repeat' split
  all_goals first | omega | exact frN_le _ _
theorem frL_tok {tm nx : Int} {x : Lk} (h0 : 0 ≤ x.t) (h1 : x.t ≤ nx - 1) (hn : 0 ≤ nx) : 0 ≤ (frL tm nx x).t ∧ (frL tm nx x).t ≤ frN nx x - 1 := by
  unfold frL frN
  split
  · exact ⟨h0, h1⟩
  · simp only [grL]; omega
theorem acL_tok {tm nx : Int} {r : Ask} {x : Lk} (h0 : 0 ≤ x.t) (h1 : x.t ≤ nx - 1) (hn : 0 ≤ nx) : 0 ≤ (acL tm nx r x).t ∧ (acL tm nx r x).t ≤ acN nx r x - 1 := by
  unfold acL acN
  by_cases k1 : r.kd = 1
  · rw [if_pos k1, if_pos k1]
    by_cases c1 : x.h = r.cl ∨ wtB x.ws r.cl = true
    · rw [if_pos c1, if_pos c1]; exact ⟨h0, h1⟩
    · rw [if_neg c1, if_neg c1]
      by_cases c2 : x.h = -1
      · rw [if_pos c2, if_pos c2]; simp only [grL]; omega
      · rw [if_neg c2, if_neg c2]; split <;> exact ⟨h0, h1⟩
  · rw [if_neg k1, if_neg k1]
    by_cases k2 : r.kd = 2
    · rw [if_pos k2, if_pos k2]
      by_cases c1 : wtB x.ws r.cl = true
      · rw [if_pos c1, if_pos c1]; exact ⟨h0, h1⟩
      · rw [if_neg c1, if_neg c1]
        by_cases c2 : x.h = r.cl
        · rw [if_pos c2, if_pos c2]; exact frL_tok h0 h1 hn
        · rw [if_neg c2, if_neg c2]; exact ⟨h0, h1⟩
    · rw [if_neg k2, if_neg k2]
      repeat' split
      all_goals exact ⟨h0, h1⟩
/-- Those that wait, without one, wait rightly; with one more. -/
theorem ws_erase {h : Int} {ws : List Wt} (hw : WsOK h ws) (i : Nat) : WsOK h (ws.eraseIdx i) := fun k x hx => by
  have key : ∀ (j : Nat) (y : Wt), (ws.eraseIdx i)[j]? = some y → ws[if j < i then j else j + 1]? = some y := fun j y hy => by
    rw [List.getElem?_eraseIdx] at hy
    split at hy
    · rename_i hlt; rw [if_pos hlt]; exact hy
    · rename_i hlt; rw [if_neg hlt]; exact hy
  obtain ⟨a1, a2, a3, a4⟩ := hw _ x (key k x hx)
  refine ⟨a1, a2, a3, fun j y hj hy => a4 _ y ?_ (key j y hy)⟩
  repeat' split
  all_goals omega
theorem ws_push {h : Int} {ws : List Wt} (hw : WsOK h ws) {w : Wt} (h1 : inB w.c 0 255 = true) (h2 : inB w.l 1 1000 = true) (h3 : w.c ≠ h) (h4 : ¬ wtB ws w.c = true) : WsOK h (ws ++ [w]) := fun k x hx => by
  by_cases hk : k < ws.length
  · rw [List.getElem?_append_left hk] at hx
    obtain ⟨a1, a2, a3, a4⟩ := hw k x hx
    exact ⟨a1, a2, a3, fun j y hj hy => a4 j y hj (by rwa [List.getElem?_append_left (by omega)] at hy)⟩
  · have e : k = ws.length := by have := (List.getElem?_eq_some_iff.1 hx).1; simp at this; omega
    subst e
    rw [List.getElem?_append_right (Nat.le_refl _), Nat.sub_self] at hx
    obtain rfl : w = x := by simpa using hx
    exact ⟨h1, h2, h3, fun j y hj hy => wt_no h4 (by rwa [List.getElem?_append_left hj] at hy)⟩
/-- A lock behind a right request is rightly held. -/
theorem acL_hd {tm nx : Int} {r : Ask} {x : Lk} (hx : HdOK x) (hr : AskOK r) (h0 : 0 ≤ tm) (h1 : tm ≤ 1000000000) : HdOK (acL tm nx r x) := by
  obtain ⟨r1, _, r3, _⟩ := hr
  have b1 := inB_le r1
  unfold acL
  by_cases k1 : r.kd = 1
  · have b3 : inB r.le 1 1000 = true := by
      rcases r3 with ⟨_, h⟩ | ⟨h, _⟩
      · exact h
      · omega
    have b4 := inB_le b3
    rw [if_pos k1]
    by_cases c1 : x.h = r.cl ∨ wtB x.ws r.cl = true
    · rw [if_pos c1]; exact hx
    · rw [if_neg c1]
      by_cases c2 : x.h = -1
      · rw [if_pos c2]
        rcases hx with ⟨_, _, a3⟩ | ⟨a1, _⟩
        · refine .inr ⟨show r.cl ≠ -1 by omega, r1, inB_of (show 0 ≤ tm + r.le by omega) (show tm + r.le ≤ 2000000000 by omega), show x.ws.length ≤ 4 by omega, ?_⟩
          intro k y hy
          have : x.ws = [] := List.length_eq_zero_iff.1 a3
          simp only [grL, this] at hy
          simp at hy
        · exact absurd c2 a1
      · rw [if_neg c2]
        rcases hx with ⟨a1, _⟩ | ⟨a1, a2, a3, a4, a5⟩
        · exact absurd a1 c2
        · by_cases c3 : 4 ≤ x.ws.length
          · rw [if_pos c3]; exact .inr ⟨a1, a2, a3, a4, a5⟩
          · rw [if_neg c3]
            exact .inr ⟨a1, a2, a3, by simp only [List.length_append, List.length_cons, List.length_nil]; omega, ws_push a5 r1 b3 (fun e => c1 (.inl e.symm)) (fun e => c1 (.inr e))⟩
  · rw [if_neg k1]
    by_cases k2 : r.kd = 2
    · rw [if_pos k2]
      by_cases c1 : wtB x.ws r.cl = true
      · rw [if_pos c1]
        rcases hx with ⟨a1, a2, a3⟩ | ⟨a1, a2, a3, a4, a5⟩
        · have : x.ws = [] := List.length_eq_zero_iff.1 a3
          rw [this] at c1
          simp [wtB] at c1
        · exact .inr ⟨a1, a2, a3, by have := List.length_eraseIdx_le x.ws (x.ws.findIdx fun w => w.c == r.cl); simp only; omega, ws_erase a5 _⟩
      · rw [if_neg c1]
        by_cases c2 : x.h = r.cl
        · rw [if_pos c2]; exact free_hd hx h0 h1
        · rw [if_neg c2]; exact hx
    · rw [if_neg k2]
      by_cases k3 : r.kd = 3
      · rw [if_pos k3]
        have b3 : inB r.le 1 1000 = true := by
          rcases r3 with ⟨_, h⟩ | ⟨h, _⟩
          · exact h
          · omega
        have b4 := inB_le b3
        by_cases c2 : x.h = r.cl
        · rw [if_pos c2]
          rcases hx with ⟨a1, _⟩ | ⟨a1, a2, a3, a4, a5⟩
          · omega
          · exact .inr ⟨a1, a2, inB_of (show 0 ≤ tm + r.le by omega) (show tm + r.le ≤ 2000000000 by omega), a4, a5⟩
        · rw [if_neg c2]; exact hx
      · rw [if_neg k3]; exact hx
end Go.Proofs.YtlgfeohoebmbcaaGreat.Da
