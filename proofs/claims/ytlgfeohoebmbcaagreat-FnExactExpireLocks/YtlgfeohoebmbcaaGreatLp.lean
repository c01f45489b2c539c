/- What LockAt answers; the book's map tells the lock of a name. -/
import Derived.Test.YtlgfeohoebmbcaaGreatOw
namespace Go.Proofs.YtlgfeohoebmbcaaGreat.Lp
open Go.RowKit Go.Proofs.YtlgfeohoebmbcaaGreat.Sl Go.Proofs.YtlgfeohoebmbcaaGreat.By Go.Proofs.YtlgfeohoebmbcaaGreat.Ap Go.Proofs.YtlgfeohoebmbcaaGreat.Tb Go.Proofs.YtlgfeohoebmbcaaGreat.Tw Go.Proofs.YtlgfeohoebmbcaaGreat.Mw Go.Proofs.YtlgfeohoebmbcaaGreat.Wa Go.Proofs.YtlgfeohoebmbcaaGreat.Bk Go.Proofs.YtlgfeohoebmbcaaGreat.Tp Go.Proofs.YtlgfeohoebmbcaaGreat.Tq

theorem tok_true {p : Prop} (h : bOf p = true) : p := Classical.byContradiction fun hn => by rw [bOf_false hn] at h; cases h
theorem toList_inj {a b : ByteArray} (h : a.data.toList = b.data.toList) : a = b := by
  cases a
  cases b
  have h2 := Array.toList_inj.1 h
  simp only at h2
  rw [h2]
/-- The names of a right table go up. -/
theorem names_up {nx : Int} {ls : List Lk} (h : LsOK nx ls) : ∀ (d j : Nat) (x y : Lk), ls[j]? = some x → ls[j + 1 + d]? = some y → x.n.toList < y.n.toList
  | 0, j, x, y, hx, hy => by
    have h1 := (h (j + 1) y hy).1
    rw [pn_succ hx] at h1
    have h2 := less_total x.n.toList y.n.toList
    rw [h1, Go.Proofs.bytesLess_eq] at h2
    simpa using h2
  | d + 1, j, x, y, hx, hy => by
    have hl := lt_at hy
    obtain ⟨z, hz⟩ := Tw.get_at (xs := ls) (k := j + 1 + d) (by omega)
    have h0 := names_up h d j x z hx hz
    have h1 := names_up h 0 (j + 1 + d) z y hz (by rw [← hy]; congr 1)
    exact List.lt_trans h0 h1
theorem names_ne {nx : Int} {ls : List Lk} (h : LsOK nx ls) {j k : Nat} {x y : Lk} (hx : ls[j]? = some x) (hy : ls[k]? = some y) (hjk : j < k) : x.n ≠ y.n := by
  intro e
  have h0 := names_up h (k - j - 1) j x y hx (by rw [← hy]; congr 1; omega)
  rw [e] at h0
  exact List.lt_irrefl _ h0
theorem key_ne {a b : ByteArray} (h : a ≠ b) : kS a ≠ kS b := fun e => h (toList_inj (by injection e))
/-- The map, from any map on. -/
def gL (D : DataW Value) (ps : List (Lk × Value)) : DataW Value := ps.foldl (fun D q => D.put (kS q.1.n) (.held (lkV q.1 q.2))) D
theorem gL_miss (n : ByteArray) (zd : DataW Value) : ∀ (ps : List (Lk × Value)) (D : DataW Value), (∀ q ∈ ps, q.1.n ≠ n) → (gL D ps).atKey (kS n) zd = D.atKey (kS n) zd ∧ Maps.has (gL D ps) (kS n) = Maps.has D (kS n)
  | [], D, _ => ⟨rfl, rfl⟩
  | q :: r, D, h => by
    have h0 := key_ne (h q (List.mem_cons_self ..))
    obtain ⟨h1, h2⟩ := gL_miss n zd r (D.put (kS q.1.n) (.held (lkV q.1 q.2))) (fun z hz => h z (List.mem_cons_of_mem _ hz))
    exact ⟨h1.trans (Maps.atKey_put_other (Ne.symm h0) _ _), h2.trans (Maps.has_put_other (Ne.symm h0) _)⟩
theorem gL_hit (zd : DataW Value) : ∀ (ps : List (Lk × Value)) (D : DataW Value) (k : Nat) (q : Lk × Value), Maps.IsMap D → ps[k]? = some q → (∀ j z, k < j → ps[j]? = some z → z.1.n ≠ q.1.n) → (gL D ps).atKey (kS q.1.n) zd = .held (lkV q.1 q.2) ∧ Maps.has (gL D ps) (kS q.1.n) = true
  | [], D, k, q, _, h, _ => by simp at h
  | y :: r, D, 0, q, hD, h, hu => by
    simp at h
    subst h
    obtain ⟨h1, h2⟩ := gL_miss y.1.n zd r (D.put (kS y.1.n) (.held (lkV y.1 y.2))) (fun z hz => by
      obtain ⟨j, hj⟩ := List.mem_iff_getElem?.1 hz
      exact hu (j + 1) z (by omega) (by simpa using hj))
    exact ⟨h1.trans (Maps.atKey_put_same hD (by trivial) _ _), h2.trans (Maps.has_put_same hD (by trivial) _)⟩
  | y :: r, D, k + 1, q, hD, h, hu => gL_hit zd r _ k q (hD.put _ _) (by simpa using h) (fun j z hj hz => hu (j + 1) z (by omega) (by simpa using hz))
/-- No lock at all. -/
def l0 : Lk := ⟨⟨#[]⟩, 0, 0, 0, []⟩
open Classical in
/-- What LockAt answers: the lock, and the code. -/
noncomputable def lAns (tm nx : Int) (ls : List Lk) (ss : List Sn) (n : ByteArray) : Lk × Int :=
  if n.size > 65536 then (l0, 2) else if bOf (TOK ⟨tm, nx, ls, ss⟩) = false then (l0, 1) else if h : ∃ x ∈ ls, x.n = n then (h.choose, 0) else (l0, 5)
theorem ans_long {tm nx : Int} {ls : List Lk} {ss : List Sn} {n : ByteArray} (h : n.size > 65536) : lAns tm nx ls ss n = (l0, 2) := by unfold lAns; rw [if_pos h]
theorem ans_bad {tm nx : Int} {ls : List Lk} {ss : List Sn} {n : ByteArray} (h : ¬ n.size > 65536) (ht : bOf (TOK ⟨tm, nx, ls, ss⟩) = false) : lAns tm nx ls ss n = (l0, 1) := by unfold lAns; rw [if_neg h, if_pos ht]
theorem ans_none {tm nx : Int} {ls : List Lk} {ss : List Sn} {n : ByteArray} (h : ¬ n.size > 65536) (ht : bOf (TOK ⟨tm, nx, ls, ss⟩) = true) (hn : ∀ x ∈ ls, x.n ≠ n) : lAns tm nx ls ss n = (l0, 5) := by
  unfold lAns
  rw [if_neg h, if_neg (by rw [ht]; decide), dif_neg (fun ⟨x, hx, e⟩ => hn x hx e)]
theorem ans_at {tm nx : Int} {ls : List Lk} {ss : List Sn} {n : ByteArray} (h : ¬ n.size > 65536) (ht : bOf (TOK ⟨tm, nx, ls, ss⟩) = true) {k : Nat} {x : Lk} (hx : ls[k]? = some x) (hn : x.n = n) : lAns tm nx ls ss n = (x, 0) := by
  have hex : ∃ x ∈ ls, x.n = n := ⟨x, mem_at hx, hn⟩
  unfold lAns
  rw [if_neg h, if_neg (by rw [ht]; decide), dif_pos hex]
  obtain ⟨h1, h2⟩ := hex.choose_spec
  obtain ⟨j, hj⟩ := List.mem_iff_getElem?.1 h1
  have ho : LsOK nx ls := (tok_true ht).2.2.2.1
  rcases Nat.lt_trichotomy j k with g | g | g
  · exact absurd (h2.trans hn.symm) (names_ne ho hj hx g)
  · subst g
    rw [hx] at hj
    injection hj with hj
    rw [← hj]
  · exact absurd (hn.trans h2.symm) (names_ne ho hx hj g)
/-- What a right table is bounded by. -/
theorem tok_small {tm nx : Int} {ls : List Lk} {ss : List Sn} (h : TOK ⟨tm, nx, ls, ss⟩) : ls.length ≤ 4 ∧ ss.length ≤ 6 ∧ (∀ x ∈ ls, x.ws.length ≤ 4) ∧ ∀ s ∈ ss, 0 ≤ s.c ∧ s.c ≤ 255 := by
  obtain ⟨_, _, h3, h4, h5, h6⟩ := h
  refine ⟨h3, h5, fun x hx => ?_, fun s hs => ?_⟩
  · obtain ⟨i, hi⟩ := List.mem_iff_getElem?.1 hx
    obtain ⟨_, _, _, g4⟩ := h4 i _ hi
    rcases g4 with ⟨_, _, k⟩ | ⟨_, _, _, k, _⟩
    · omega
    · exact k
  · obtain ⟨i, hi⟩ := List.mem_iff_getElem?.1 hs
    have up : ∀ (m : Nat) (z : Sn), ss[m]? = some z → 0 ≤ z.c ∧ z.c ≤ 255 := by
      intro m
      induction m with
      | zero =>
        intro z hz
        have := inB_le (h6 0 z hz).1
        unfold pc at this
        rw [if_pos rfl] at this
        exact this
      | succ m ih =>
        intro z hz
        obtain ⟨y, hy⟩ := Tw.get_at (xs := ss) (k := m) (by have := lt_at hz; omega)
        have h1 := ih y hy
        have := inB_le (h6 (m + 1) z hz).1
        rw [pc_succ hy] at this
        omega
    exact up i s hi
end Go.Proofs.YtlgfeohoebmbcaaGreat.Lp
namespace Go.Proofs.YtlgfeohoebmbcaaGreat.Lo
open Go.RowKit Go.Proofs.YtlgfeohoebmbcaaGreat.Tb Go.Proofs.YtlgfeohoebmbcaaGreat.Tw
theorem OwnL.at_ {w : World} {B : Nat} {a : Option Addr} {n cap : Nat} {ms : List LkA} (h : OwnL w B (.slice a n cap) ms) {i : Nat} {p : LkA} (hp : ms[i]? = some p) : ∃ g, a = some ⟨g, 0, none⟩ ∧ ∀ j v, (clL p)[j]? = some v → j < 5 → w.cell? ⟨g, 0 + i * 5 + j, none⟩ = some v := by
  have hil := lt_at hp
  obtain ⟨hl, h⟩ := h
  rcases h with ⟨h0, h0'⟩ | ⟨g, cap', cur, he, hB, hg, hc, _, hs, htk⟩
  · omega
  · injection he with he _ _
    refine ⟨g, he, fun j v hv hj => ?_⟩
    rw [Nat.zero_add, Joins.cell_of_block hg, ← Array.getElem?_toList]
    have h1 := atL ms i p j hp hj
    rw [← htk, List.getElem?_take, if_pos (by omega)] at h1
    rw [h1, hv]
end Go.Proofs.YtlgfeohoebmbcaaGreat.Lo
