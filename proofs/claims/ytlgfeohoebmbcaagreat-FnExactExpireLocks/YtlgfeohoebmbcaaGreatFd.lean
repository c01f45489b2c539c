/- What requests do to tables: one, and one behind the other; right tables stay right. -/
import Derived.Test.YtlgfeohoebmbcaaGreatFc
namespace Go.Proofs.YtlgfeohoebmbcaaGreat.Da
open Go.RowKit Go.Proofs.YtlgfeohoebmbcaaGreat.Tb Go.Proofs.YtlgfeohoebmbcaaGreat.Tw Go.Proofs.YtlgfeohoebmbcaaGreat.Tp Go.Proofs.YtlgfeohoebmbcaaGreat.Rq

/-- A lock that nobody has asked for. -/
def newL (nm : ByteArray) : Lk := ⟨nm, 0, -1, 0, []⟩
/-- A request is done: the table, the answer. -/
def doT (t : Tab) (r : Ask) : Tab × An :=
  match idx t.ls r.nm with
  | some k => (⟨t.tm, acN t.nx r (t.ls.getD k default), t.ls.set k (acL t.tm t.nx r (t.ls.getD k default)), t.ss⟩, tell (acK r (t.ls.getD k default)) (acL t.tm t.nx r (t.ls.getD k default)))
  | none => if r.kd ≠ 1 then (t, bare 3) else if 4 ≤ t.ls.length then (t, bare 6) else
    (⟨t.tm, acN t.nx r (newL r.nm), putAt t.ls (plc t.ls r.nm) (acL t.tm t.nx r (newL r.nm)), t.ss⟩, tell (acK r (newL r.nm)) (acL t.tm t.nx r (newL r.nm)))
/-- A right answer. -/
def AnOK (a : An) : Prop := AnsOK a.k a.t a.h a.e
theorem bare_ok {k : Int} (h1 : 1 ≤ k) (h2 : k ≤ 8) : AnOK (bare k) := ⟨inB_of h1 h2, inB_of (show (0 : Int) ≤ 0 by decide) (show (0 : Int) ≤ 1000000 by decide), inB_of (show (-1 : Int) ≤ -1 by decide) (show (-1 : Int) ≤ 255 by decide), inB_of (show (0 : Int) ≤ 0 by decide) (show (0 : Int) ≤ 2000000000 by decide)⟩
theorem stK_in (x : Lk) : 1 ≤ stK x ∧ stK x ≤ 8 := by unfold stK; split <;> omega
theorem acK_in (r : Ask) (x : Lk) : 1 ≤ acK r x ∧ acK r x ≤ 8 := by
  have := stK_in x
  unfold acK
  repeat' split
  all_goals omega
theorem hd_in {x : Lk} (h : HdOK x) : (-1 ≤ x.h ∧ x.h ≤ 255) ∧ 0 ≤ x.e ∧ x.e ≤ 2000000000 := by
  rcases h with ⟨h1, h2, _⟩ | ⟨_, h2, h3, _⟩
  · omega
  · have := inB_le h2; have := inB_le h3; omega
theorem tell_ok {k : Int} {x : Lk} (h1 : 1 ≤ k) (h2 : k ≤ 8) (h : HdOK x) (h3 : 0 ≤ x.t) (h4 : x.t ≤ 1000000) : AnOK (tell k x) := by
  have := hd_in h
  exact ⟨inB_of h1 h2, inB_of h3 h4, inB_of this.1.1 this.1.2, inB_of this.2.1 this.2.2⟩
theorem new_hd (nm : ByteArray) : HdOK (newL nm) := .inl ⟨rfl, rfl, rfl⟩
theorem doT_nx (t : Tab) (r : Ask) : t.nx ≤ (doT t r).1.nx ∧ (doT t r).1.nx ≤ t.nx + 1 := by
  unfold doT
  repeat' split
  all_goals first | exact acN_le _ _ _ | (simp only; omega)
theorem doT_ss (t : Tab) (r : Ask) : (doT t r).1.ss = t.ss ∧ (doT t r).1.tm = t.tm := by
  unfold doT
  repeat' split
  all_goals exact ⟨rfl, rfl⟩
theorem doT_ok {t : Tab} {r : Ask} (h : TOK t) (hr : AskOK r) (he : less ⟨#[]⟩ r.nm = true) (hn : t.nx ≤ 999999) : TOK (doT t r).1 ∧ AnOK (doT t r).2 := by
  obtain ⟨a1, a2, a3, a4, a5, a6⟩ := h
  have b1 := inB_le a1
  have b2 := inB_le a2
  unfold doT
  split
  · rename_i k hk
    obtain ⟨x, hx, hxn⟩ := fiP_some _ _ hk
    have e : t.ls.getD k default = x := by rw [List.getD_eq_getElem?_getD, hx]; rfl
    rw [e]
    obtain ⟨c1, c2, c3, c4⟩ := a4 k x hx
    have c5 := inB_le c3
    have d1 := acL_tok (tm := t.tm) (nx := t.nx) (r := r) (x := x) c5.1 c5.2 (by omega)
    have d2 := acN_le t.nx r x
    have d3 := acL_hd (tm := t.tm) (nx := t.nx) c4 hr b1.1 b1.2
    have d4 := acK_in r x
    exact ⟨⟨a1, inB_of (show 1 ≤ acN t.nx r x by omega) (show acN t.nx r x ≤ 1000000 by omega), by simp only [List.length_set]; exact a3, set_ok a4 d2.1 hx (acL_name _ _ _ _) (inB_of d1.1 d1.2) d3, a5, a6⟩, tell_ok d4.1 d4.2 d3 d1.1 (by omega)⟩
  · rename_i hk
    split
    · exact ⟨⟨a1, a2, a3, a4, a5, a6⟩, bare_ok (by decide) (by decide)⟩
    · split
      · exact ⟨⟨a1, a2, a3, a4, a5, a6⟩, bare_ok (by decide) (by decide)⟩
      · rename_i h4
        have d1 := acL_tok (tm := t.tm) (nx := t.nx) (r := r) (x := newL r.nm) (show (0 : Int) ≤ 0 by decide) (show (0 : Int) ≤ t.nx - 1 by omega) (by omega)
        have d2 := acN_le t.nx r (newL r.nm)
        have d3 := acL_hd (tm := t.tm) (nx := t.nx) (new_hd r.nm) hr b1.1 b1.2
        have d4 := acK_in r (newL r.nm)
        have d5 : (acL t.tm t.nx r (newL r.nm)).n = r.nm := acL_name _ _ _ _
        have d6 := put_ok (x := acL t.tm t.nx r (newL r.nm)) (ls_up a4 d2.1) (by rw [d5]; exact hk) (by rw [d5]; exact hr.2.2.2) (by rw [d5]; exact he) (inB_of d1.1 d1.2) d3
        rw [d5] at d6
        exact ⟨⟨a1, inB_of (show 1 ≤ acN t.nx r (newL r.nm) by omega) (show acN t.nx r (newL r.nm) ≤ 1000000 by omega), by simp only; rw [show plc t.ls r.nm = plP (fun y : Lk => less y.n r.nm) t.ls from rfl, putAt_len (plP_le _)]; omega, d6, a5, a6⟩, tell_ok d4.1 d4.2 d3 d1.1 (by omega)⟩
/-- What a client was told last. -/
def sn (r : Ask) (a : An) : Sn := ⟨r.cl, r.st, a.k, a.t, a.h, a.e⟩
def ansOf (s : Sn) : An := ⟨s.k, s.t, s.h, s.e⟩
def sidx (ss : List Sn) (c : Int) : Option Nat := fiP (fun s => s.c == c) ss
def splc (ss : List Sn) (c : Int) : Nat := plP (fun s => decide (s.c < c)) ss
theorem pc_put {ss : List Sn} {k : Nat} {x : Sn} (hk : k ≤ ss.length) (i : Nat) : pc (putAt ss k x) i = if i ≤ k then pc ss i else if i = k + 1 then x.c + 1 else pc ss (i - 1) := by
  unfold pc
  by_cases h0 : i = 0
  · subst h0; simp
  · rw [if_neg h0, List.getD_eq_getElem?_getD, putAt_at hk]
    by_cases h1 : i ≤ k
    · rw [if_pos h1, if_pos (by omega), if_neg h0, List.getD_eq_getElem?_getD]
    · rw [if_neg h1, if_neg (by omega)]
      by_cases h2 : i = k + 1
      · rw [if_pos h2, if_pos (by omega)]; rfl
      · rw [if_neg h2, if_neg (by omega), if_neg (by omega), List.getD_eq_getElem?_getD]
theorem sput_ok {ss : List Sn} {x : Sn} (h : SsOK ss) (hn : sidx ss x.c = none) (h1 : inB x.c 0 255 = true) (h2 : inB x.s 1 65535 = true) (h3 : AnsOK x.k x.t x.h x.e) : SsOK (putAt ss (splc ss x.c) x) := by
  have hk := plP_le (p := fun s : Sn => decide (s.c < x.c)) ss
  have b1 := inB_le h1
  unfold splc
  intro i l hl
  rw [putAt_at hk] at hl
  rw [pc_put hk]
  generalize hK : plP (fun s : Sn => decide (s.c < x.c)) ss = k at hk hl ⊢
  by_cases g1 : i < k
  · rw [if_pos g1] at hl
    rw [if_pos (by omega)]
    exact h i l hl
  · rw [if_neg g1] at hl
    by_cases g2 : i = k
    · rw [if_pos g2] at hl
      obtain rfl : x = l := by simpa using hl
      rw [if_pos (by omega)]
      refine ⟨inB_of ?_ b1.2, h2, h3⟩
      subst g2
      unfold pc
      by_cases h0 : i = 0
      · rw [if_pos h0]; exact b1.1
      · rw [if_neg h0, List.getD_eq_getElem?_getD]
        obtain ⟨y, hy⟩ : ∃ y, ss[i - 1]? = some y := ⟨_, List.getElem?_eq_getElem (show i - 1 < ss.length by omega)⟩
        rw [hy]
        have := plP_before (p := fun s : Sn => decide (s.c < x.c)) ss (i - 1) y (by omega) hy
        simp at this
        show y.c + 1 ≤ x.c
        omega
    · rw [if_neg g2] at hl
      rw [if_neg (by omega)]
      obtain ⟨a1, a2, a3⟩ := h (i - 1) l hl
      have b2 := inB_le a1
      by_cases g3 : i = k + 1
      · rw [if_pos g3]
        refine ⟨inB_of ?_ b2.2, a2, a3⟩
        have e : i - 1 = k := by omega
        have q1 : ¬ l.c < x.c := by
          rw [e, ← hK] at hl
          have := plP_here (p := fun s : Sn => decide (s.c < x.c)) ss l hl
          simpa using this
        have q2 : l.c ≠ x.c := by
          have := fiP_none (p := fun s : Sn => s.c == x.c) ss hn (i - 1) l hl
          simpa using this
        omega
      · rw [if_neg g3]
        exact ⟨a1, a2, a3⟩
theorem sset_ok {ss : List Sn} {k : Nat} {x y : Sn} (h : SsOK ss) (hx : ss[k]? = some x) (hc : y.c = x.c) (h2 : inB y.s 1 65535 = true) (h3 : AnsOK y.k y.t y.h y.e) : SsOK (ss.set k y) := by
  have hp : ∀ i, pc (ss.set k y) i = pc ss i := fun i => by
    unfold pc
    by_cases h0 : i = 0
    · rw [if_pos h0, if_pos h0]
    · rw [if_neg h0, if_neg h0, List.getD_eq_getElem?_getD, List.getD_eq_getElem?_getD, List.getElem?_set]
      by_cases e : k = i - 1
      · rw [if_pos e]
        subst e
        rw [if_pos (List.getElem?_eq_some_iff.1 hx).1, hx]
        show y.c + 1 = x.c + 1
        rw [hc]
      · rw [if_neg e]
  intro i l hl
  rw [hp]
  rw [List.getElem?_set] at hl
  by_cases e : k = i
  · subst e
    rw [if_pos rfl, if_pos (List.getElem?_eq_some_iff.1 hx).1] at hl
    obtain rfl : y = l := by simpa using hl
    obtain ⟨a1, _, _⟩ := h k x hx
    exact ⟨by rw [hc]; exact a1, h2, h3⟩
  · rw [if_neg e] at hl
    exact h i l hl
/-- A request at a time: the table, the answer. -/
def apT (t : Tab) (now : Int) (r : Ask) : Tab × An :=
  match sidx t.ss r.cl with
  | some k =>
    if r.st = (t.ss.getD k default).s then (exT t now, ansOf (t.ss.getD k default))
    else if r.st < (t.ss.getD k default).s then (exT t now, bare 7)
    else ({ (doT (exT t now) r).1 with ss := t.ss.set k (sn r (doT (exT t now) r).2) }, (doT (exT t now) r).2)
  | none => if 6 ≤ t.ss.length then (exT t now, bare 6)
    else ({ (doT (exT t now) r).1 with ss := putAt t.ss (splc t.ss r.cl) (sn r (doT (exT t now) r).2) }, (doT (exT t now) r).2)
theorem exT_nx (t : Tab) (now : Int) (h : t.ls.length ≤ 4) : t.nx ≤ (exT t now).nx ∧ (exT t now).nx ≤ t.nx + 4 := by
  have := exN_le (tm := max t.tm now) (nx := t.nx) (ls := t.ls) t.ls.length
  unfold exT
  simp only
  omega
theorem apT_ok {t : Tab} {now : Int} {r : Ask} (h : TOK t) (h0 : 0 ≤ now) (h1 : now ≤ 1000000000) (hr : AskOK r) (he : less ⟨#[]⟩ r.nm = true) (hn : t.nx ≤ 999990) : TOK (apT t now r).1 ∧ AnOK (apT t now r).2 ∧ (apT t now r).1.nx ≤ t.nx + 5 := by
  have hx := exT_ok h h0 h1 hn
  have hn1 := exT_nx t now h.2.2.1
  obtain ⟨a1, a2, a3, a4, a5, a6⟩ := h
  have hd := doT_ok hx hr he (by omega)
  have hd2 := doT_nx (exT t now) r
  unfold apT
  split
  · rename_i k hk
    obtain ⟨s, hs, hsc⟩ := fiP_some _ _ hk
    have hsc' : s.c = r.cl := by simpa using hsc
    have e : t.ss.getD k default = s := by rw [List.getD_eq_getElem?_getD, hs]; rfl
    rw [e]
    split
    · exact ⟨hx, (a6 k s hs).2.2, by simp only; omega⟩
    · split
      · exact ⟨hx, bare_ok (by decide) (by decide), by simp only; omega⟩
      · obtain ⟨c1, c2, c3, c4, c5, c6⟩ := hd.1
        exact ⟨⟨c1, c2, c3, c4, by simp only [List.length_set]; exact a5, sset_ok a6 hs hsc'.symm hr.2.1 hd.2⟩, hd.2, by simp only; omega⟩
  · rename_i hk
    split
    · exact ⟨hx, bare_ok (by decide) (by decide), by simp only; omega⟩
    · obtain ⟨c1, c2, c3, c4, c5, c6⟩ := hd.1
      exact ⟨⟨c1, c2, c3, c4, by simp only; rw [show splc t.ss r.cl = plP (fun s : Sn => decide (s.c < r.cl)) t.ss from rfl, putAt_len (plP_le _)]; omega, sput_ok (x := sn r (doT (exT t now) r).2) a6 hk hr.1 hr.2.1 hd.2⟩, hd.2, by simp only; omega⟩
/-- Requests, one behind the other: the table, the answers. -/
def t0 : Tab := ⟨0, 1, [], []⟩
def runT : List (Ask × Int) → Nat → Tab
  | _, 0 => t0
  | rs, k + 1 => match rs[k]? with
    | some p => (apT (runT rs k) p.2 p.1).1
    | none => runT rs k
def runA (rs : List (Ask × Int)) (k : Nat) : List An := (List.range k).filterMap fun j => (rs[j]?).map fun p => (apT (runT rs j) p.2 p.1).2
theorem t0_ok : TOK t0 := ⟨by decide, by decide, by decide, fun i l hl => by simp [t0] at hl, by decide, fun i s hs => by simp [t0] at hs⟩
theorem runT_ok {rs : List (Ask × Int)} (h : ∀ p ∈ rs, AskOK p.1 ∧ less ⟨#[]⟩ p.1.nm = true ∧ 0 ≤ p.2 ∧ p.2 ≤ 1000000000) (hl : rs.length ≤ 200) : ∀ k, k ≤ rs.length → TOK (runT rs k) ∧ (runT rs k).nx ≤ 1 + 5 * k
  | 0, _ => by unfold runT; exact ⟨t0_ok, by simp [t0]⟩
  | k + 1, hk => by
    obtain ⟨ih1, ih2⟩ := runT_ok h hl k (by omega)
    obtain ⟨p, hp⟩ : ∃ p, rs[k]? = some p := ⟨_, List.getElem?_eq_getElem (show k < rs.length by omega)⟩
    obtain ⟨g1, g2, g3, g4⟩ := h p (List.mem_of_getElem? hp)
    have := apT_ok ih1 g3 g4 g1 g2 (by omega)
    rw [runT, hp]
    exact ⟨this.1, by simp only; omega⟩
end Go.Proofs.YtlgfeohoebmbcaaGreat.Da
