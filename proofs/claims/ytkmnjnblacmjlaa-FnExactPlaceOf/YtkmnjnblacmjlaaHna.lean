/- Calls in a log, as data: where the first one of a client and a stamp stands. -/
import Derived.Test.YtkmnjnblacmjlaaRjb
import Derived.Test.YtkmnjnblacmjlaaTz
import Derived.Lib.ConvBytes
namespace Go.Proofs.Ytkmnjnblacmjlaa.Hn
open Go.RowKit Go.Proofs.Ytkmnjnblacmjlaa.Sl Go.Proofs.Ytkmnjnblacmjlaa.By Go.Proofs.Ytkmnjnblacmjlaa.Ap Go.Proofs.Ytkmnjnblacmjlaa.Tkb
open Go.Proofs.Ytkmnjnblacmjlaa.Tx (RowT RowT.below tnth tnth_at tnth_mem)
def bx (t : ByteArray) : Bv := tbX (bys t)
def isC (t : ByteArray) : Bool := rbOK (bys t) && !(bx t).nl
def hitB (c s : Int) (t : ByteArray) : Bool := ((bx t).c == c) && ((bx t).st == s)
abbrev Pt := Nat × ByteArray
def cP (ts : List ByteArray) (k : Nat) : List Pt := ((List.range k).map fun i => (i, tnth ts i)).filter fun p => isC p.2
theorem cP_succ (ts : List ByteArray) (k : Nat) : cP ts (k + 1) = cP ts k ++ (if isC (tnth ts k) then [(k, tnth ts k)] else []) := by
  unfold cP
  rw [List.range_succ, List.map_append, List.filter_append]
  congr 1
  cases h : isC (tnth ts k) <;> simp [h]
theorem cP_yes {ts : List ByteArray} {k : Nat} (h : isC (tnth ts k) = true) : cP ts (k + 1) = cP ts k ++ [(k, tnth ts k)] := by rw [cP_succ, if_pos h]
theorem cP_no {ts : List ByteArray} {k : Nat} (h : isC (tnth ts k) = false) : cP ts (k + 1) = cP ts k := by rw [cP_succ, if_neg (by rw [h]; decide), List.append_nil]
theorem cP_prefix (ts : List ByteArray) (k : Nat) : ∀ d, cP ts k <+: cP ts (k + d)
  | 0 => List.prefix_refl _
  | d + 1 => by
    refine (cP_prefix ts k d).trans ?_
    rw [← Nat.add_assoc, cP_succ]
    exact List.prefix_append _ _
theorem cP_le {ts : List ByteArray} {k n : Nat} (h : k ≤ n) : cP ts k <+: cP ts n := by
  have := cP_prefix ts k (n - k)
  rwa [show k + (n - k) = n by omega] at this
theorem cP_lt {ts : List ByteArray} {k : Nat} (h : isC (tnth ts k) = true) (hk : k < ts.length) : (cP ts k).length < (cP ts ts.length).length := by
  have h1 := (cP_le (ts := ts) (show k + 1 ≤ ts.length by omega)).length_le
  rw [cP_yes h, List.length_append] at h1
  simp only [List.length_cons, List.length_nil] at h1
  omega
/-- The first place of a call; -1 without one. -/
def fp (c s : Int) (ts : List ByteArray) : Int := match (cP ts ts.length).find? fun p => hitB c s p.2 with | some p => (p.1 : Int) | none => -1
theorem find_prefix {α : Type} (q : α → Bool) {pre xs : List α} {x : α} (h : pre.find? q = none) (hx : q x = true) (hp : pre ++ [x] <+: xs) : xs.find? q = some x := by
  obtain ⟨r, rfl⟩ := hp
  rw [List.append_assoc, List.find?_append, h]
  simp [hx]
theorem fp_hit {c s : Int} {ts : List ByteArray} {pre : List Pt} {x : Pt} (h : (pre.find? fun p => hitB c s p.2) = none) (hx : hitB c s x.2 = true) (hp : pre ++ [x] <+: cP ts ts.length) : fp c s ts = (x.1 : Int) := by
  unfold fp; rw [find_prefix _ h hx hp]
theorem fp_none {c s : Int} {ts : List ByteArray} (h : ((cP ts ts.length).find? fun p => hitB c s p.2) = none) : fp c s ts = -1 := by unfold fp; rw [h]
theorem find_snoc {α : Type} (q : α → Bool) {pre : List α} {x : α} (h : pre.find? q = none) (hx : q x = false) : (pre ++ [x]).find? q = none := by
  rw [List.find?_append, h]; simp [hx]
theorem fp_ge (c s : Int) (ts : List ByteArray) : -1 ≤ fp c s ts := by
  unfold fp
  split <;> omega
theorem bytes_run (s : ByteArray) (w : World) : ∃ v' w', (convert 9 50 (.string s)).run Try.prog w = .ok v' w' ∧ RowB w' v' (bys s) ∧ Below w.heap.size w w' := by
  refine ⟨_, _, Lib.run_convert_string_bytes w 9 50 5 s (u := .string) Try.underlying9 Try.underlying50 Try.underlying5, ⟨_, _, by rw [bys_length], .inr ⟨w.heap.size, 0, rfl, by rw [bys_length]; exact grownCap_ge _ _ _ _, by rw [Lib.bytesWorld_size]; omega, fun i hi => ?_⟩, bys_range s⟩, ?_⟩
  · rw [bys_length] at hi
    rw [Nat.zero_add, Lib.bytesWorld_cell w 5 s i hi]
    unfold nth bys
    have hi' : i < s.data.toList.length := by simpa using hi
    rw [List.getD_eq_getElem?_getD, List.getD_eq_getElem?_getD, List.getElem?_map, List.getElem?_eq_getElem hi']
    rfl
  · refine ⟨?_, ?_, ?_, by rw [Lib.bytesWorld_size]; omega, fun k hk => Lib.bytesWorld_at_old w _ s k hk⟩ <;> simp [Lib.bytesWorld, World.freeze, World.alloc, World.drew, -World.alloc_eq, -World.drew_eq]
def rqV (x : Bv) : Value := .agg #[.int .i64 x.c, .int .i64 x.st, .int .i64 x.k, .int .i64 x.l, .string x.n]
def encs (p : Pt) : Array Value := #[.int .i64 (p.1 : Int), rqV (bx p.2)]
/-- What ReadBatch tells of a text that is no longer than a body. -/
theorem rb_body (t : ByteArray) (h : t.size ≤ 65536) : (rbOK (bys t) = true → rbX (bys t) = bx t ∧ rbC (bys t) = 0) ∧ (rbOK (bys t) = false → rbC (bys t) = 3) := by
  unfold rbX rbC rjX rjC bx
  rw [decide_eq_false (by rw [bys_length]; omega)]
  refine ⟨fun e => ?_, fun e => ?_⟩
  · rw [e]; exact ⟨rfl, rfl⟩
  · rw [e]; rfl
/-- The code of PlaceOf's arguments; what it answers. -/
def longB (ts : List ByteArray) : Bool := ts.any fun t => decide (20000 < t.size)
def pfC (ts : List ByteArray) : Int := if 4096 < ts.length then 2 else if 100 < ts.length then 4 else if longB ts then 1 else 0
def plC (c s : Int) (ts : List ByteArray) : Int := if pfC ts = 0 then (if fp c s ts < 0 then 5 else 0) else pfC ts
def plP (c s : Int) (ts : List ByteArray) : Int := if pfC ts = 0 then (if fp c s ts < 0 then 0 else fp c s ts) else 0
theorem long_yes {ts : List ByteArray} {k : Nat} (hk : k < ts.length) (h : 20000 < (tnth ts k).size) : longB ts = true := List.any_eq_true.2 ⟨_, tnth_mem hk, decide_eq_true h⟩
theorem long_no {ts : List ByteArray} (h : ∀ k, k < ts.length → (tnth ts k).size ≤ 20000) : longB ts = false := by
  rw [← Bool.not_eq_true]
  intro e
  obtain ⟨t, ht, h2⟩ := List.any_eq_true.1 e
  obtain ⟨i, hi, rfl⟩ := List.getElem_of_mem ht
  have h3 := h i hi
  have h4 := tnth_at hi
  rw [List.getElem?_eq_getElem hi] at h4
  rw [← Option.some.inj h4] at h3
  have := of_decide_eq_true h2
  omega
theorem long_all {ts : List ByteArray} (h : longB ts = false) : ∀ t ∈ ts, t.size ≤ 20000 := by
  intro t ht
  by_cases e : t.size ≤ 20000
  · exact e
  · rw [show longB ts = true from List.any_eq_true.2 ⟨t, ht, decide_eq_true (by omega)⟩] at h
    cases h
theorem pfC_zero {ts : List ByteArray} (h : pfC ts = 0) : ts.length ≤ 100 ∧ ∀ t ∈ ts, t.size ≤ 20000 := by
  unfold pfC at h
  split at h
  · exact absurd h (by decide)
  · split at h
    · exact absurd h (by decide)
    · refine ⟨by omega, long_all ?_⟩
      cases e : longB ts
      · rfl
      · rw [e] at h; exact absurd h (by decide)
end Go.Proofs.Ytkmnjnblacmjlaa.Hn
