/- Replies that are counted: what is counted, as functions; both ways of counting tell the same. -/
import Derived.Test.YtdhmmbbdckahmaaGy
namespace Go.Proofs.Ytdhmmbbdckahmaa.Rk
open Go.Proofs.Ytdhmmbbdckahmaa.Gy (Re)

abbrev An := Int × Int × Int × Int
abbrev Vo := Int × Int × Int × Int × Int
def an (x : Re) : An := (x.kd, x.tk, x.hd, x.ex)
def vo (x : Re) : Vo := (x.nd, an x)
def voices (g : Re → Bool) (L : List Re) : List Vo := (L.filter g).map vo
/-- The nodes that gave an answer by the first k; how many voices of the first k are new ones of it. -/
def nds (g : Re → Bool) (a : An) (L : List Re) : Nat → List Int
  | 0 => []
  | k + 1 => match L[k]? with
    | some x => if g x && (an x == a) && !((nds g a L k).contains x.nd) then nds g a L k ++ [x.nd] else nds g a L k
    | none => nds g a L k
def vn (a : An) (V : List Vo) : Nat → Nat
  | 0 => 0
  | k + 1 => match V[k]? with
    | some v => if v.2 == a && !((V.take k).contains v) then vn a V k + 1 else vn a V k
    | none => vn a V k
def cs (f : Nat) (g : Re → Bool) (L : List Re) : Nat → Option An
  | 0 => none
  | k + 1 => match cs f g L k with
    | some a => some a
    | none => match L[k]? with
      | some x => if f < (nds g (an x) L (k + 1)).length then some (an x) else none
      | none => none
def fs (c : Nat) (V : List Vo) : Nat → Option An
  | 0 => none
  | k + 1 => match fs c V k with
    | some a => some a
    | none => match V[k]? with
      | some v => if c ≤ vn v.2 V (k + 1) then some v.2 else none
      | none => none
theorem take_at {α : Type} {L : List α} {k : Nat} {x : α} (h : L[k]? = some x) : L.take (k + 1) = L.take k ++ [x] := by
  rw [List.take_add_one, h]
  rfl
theorem take_none {α : Type} {L : List α} {k : Nat} (h : L[k]? = none) : L.take (k + 1) = L.take k := by
  rw [List.take_add_one, h]
  simp
theorem voices_at {g : Re → Bool} {L : List Re} {k : Nat} {x : Re} (h : L[k]? = some x) : voices g (L.take (k + 1)) = voices g (L.take k) ++ (if g x then [vo x] else []) := by
  unfold voices
  rw [take_at h, List.filter_append, List.map_append]
  cases hg : g x <;> simp [hg]
theorem nds_mem {g : Re → Bool} {a : An} {L : List Re} {i : Int} : ∀ {k : Nat}, i ∈ nds g a L k ↔ ∃ j x, j < k ∧ L[j]? = some x ∧ g x = true ∧ an x = a ∧ x.nd = i
  | 0 => by simp [nds]
  | k + 1 => by
    have ih := nds_mem (g := g) (a := a) (L := L) (i := i) (k := k)
    unfold nds
    cases hx : L[k]? with
    | none =>
      simp only
      rw [ih]
      constructor
      · rintro ⟨j, x, hj, h⟩
        exact ⟨j, x, by omega, h⟩
      · rintro ⟨j, x, hj, h1, h2⟩
        by_cases e : j = k
        · subst e; rw [hx] at h1; cases h1
        · exact ⟨j, x, by omega, h1, h2⟩
    | some x =>
      simp only
      have key : (∃ j y, j < k + 1 ∧ L[j]? = some y ∧ g y = true ∧ an y = a ∧ y.nd = i) ↔ (i ∈ nds g a L k ∨ (g x = true ∧ an x = a ∧ x.nd = i)) := by
        rw [ih]
        constructor
        · rintro ⟨j, y, hj, h1, h2⟩
          by_cases e : j = k
          · subst e; rw [hx] at h1; cases h1; exact .inr h2
          · exact .inl ⟨j, y, by omega, h1, h2⟩
        · rintro (⟨j, y, hj, h⟩ | h)
          · exact ⟨j, y, by omega, h⟩
          · exact ⟨k, x, by omega, hx, h⟩
      rw [key]
      split
      · rename_i hc
        simp only [Bool.and_eq_true, beq_iff_eq] at hc
        rw [List.mem_append, List.mem_singleton]
        constructor
        · rintro (h | h)
          · exact .inl h
          · exact .inr ⟨hc.1.1, hc.1.2, h.symm⟩
        · rintro (h | h)
          · exact .inl h
          · exact .inr h.2.2.symm
      · rename_i hc
        constructor
        · exact .inl
        · rintro (h | ⟨h1, h2, h3⟩)
          · exact h
          · simp only [h1, h2, beq_self_eq_true, Bool.true_and, Bool.not_eq_true', List.contains_eq_mem, decide_eq_false_iff_not, Classical.not_not] at hc
            rw [← h3]; exact hc
theorem vn_cong {a : An} {V U : List Vo} : ∀ {k : Nat}, V.take k = U.take k → vn a V k = vn a U k
  | 0, _ => rfl
  | k + 1, h => by
    have h0 : V.take k = U.take k := by
      have := congrArg (List.take k) h
      rwa [List.take_take, List.take_take, Nat.min_eq_left (by omega)] at this
    have h1 : V[k]? = U[k]? := by
      have := congrArg (fun l => l[k]?) h
      simpa [List.getElem?_take] using this
    unfold vn
    rw [vn_cong h0, h0, h1]
theorem fs_cong {c : Nat} {V U : List Vo} : ∀ {k : Nat}, V.take k = U.take k → fs c V k = fs c U k
  | 0, _ => rfl
  | k + 1, h => by
    have h0 : V.take k = U.take k := by
      have := congrArg (List.take k) h
      rwa [List.take_take, List.take_take, Nat.min_eq_left (by omega)] at this
    have h1 : V[k]? = U[k]? := by
      have := congrArg (fun l => l[k]?) h
      simpa [List.getElem?_take] using this
    unfold fs
    rw [fs_cong h0, h1]
    cases fs c U k with
    | some a => rfl
    | none => cases U[k]? with
      | none => rfl
      | some v => simp only; rw [vn_cong h]
theorem vo_mem {g : Re → Bool} {L : List Re} {k : Nat} {i : Int} {a : An} : ((i, a) : Vo) ∈ voices g (L.take k) ↔ i ∈ nds g a L k := by
  rw [nds_mem]
  unfold voices
  rw [List.mem_map]
  constructor
  · rintro ⟨x, hx, e⟩
    rw [List.mem_filter, List.mem_take_iff_getElem] at hx
    obtain ⟨⟨j, hj, hjx⟩, hg⟩ := hx
    unfold vo at e
    cases e
    exact ⟨j, x, by omega, by rw [← hjx]; exact List.getElem?_eq_getElem _, hg, rfl, rfl⟩
  · rintro ⟨j, x, hj, hx, hg, rfl, rfl⟩
    have hl := (List.getElem?_eq_some_iff.1 hx)
    refine ⟨x, ?_, rfl⟩
    rw [List.mem_filter, List.mem_take_iff_getElem]
    exact ⟨⟨j, by have := hl.1; omega, hl.2⟩, hg⟩
theorem key {g : Re → Bool} {a : An} {L : List Re} : ∀ (k : Nat), (nds g a L k).length = vn a (voices g (L.take k)) (voices g (L.take k)).length
  | 0 => by simp [nds, voices, vn]
  | k + 1 => by
    have ih := key (g := g) (a := a) (L := L) k
    cases hx : L[k]? with
    | none =>
      rw [take_none hx, ← ih]
      conv => lhs; unfold nds
      rw [hx]
    | some x =>
      have hm := vo_mem (g := g) (L := L) (k := k) (i := x.nd) (a := a)
      rw [voices_at hx]
      conv => lhs; unfold nds
      rw [hx]
      simp only
      cases hg : g x with
      | false =>
        simp only [Bool.false_and, Bool.false_eq_true, if_false, List.append_nil]
        exact ih
      | true =>
        simp only [Bool.true_and, if_true]
        generalize hV : voices g (L.take k) = V at ih hm ⊢
        rw [List.length_append]
        show _ = vn a (V ++ [vo x]) (V.length + 1)
        unfold vn
        rw [List.getElem?_append_right (Nat.le_refl _), Nat.sub_self]
        simp only [List.getElem?_cons_zero, List.take_left]
        rw [vn_cong (V := V ++ [vo x]) (U := V) (by rw [List.take_left, List.take_length]), ← ih]
        have e2 : (vo x).2 = an x := rfl
        rw [e2]
        by_cases ha : an x = a
        · have e3 : (V.contains (vo x)) = ((nds g a L k).contains x.nd) := by
            rw [Bool.eq_iff_iff, List.contains_iff_mem, List.contains_iff_mem, ← hm]
            unfold vo
            rw [ha]
          rw [e3, ha]
          split
          · rw [List.length_append]; rfl
          · rfl
        · have e4 : (an x == a) = false := by simpa using ha
          rw [e4]
          simp
theorem none_le {f : Nat} {g : Re → Bool} {L : List Re} : ∀ {k : Nat}, cs f g L k = none → ∀ a, (nds g a L k).length ≤ f
  | 0, _, a => by simp [nds]
  | k + 1, h, a => by
    unfold cs at h
    cases h1 : cs f g L k with
    | some b => rw [h1] at h; cases h
    | none =>
      have ih := none_le h1 a
      rw [h1] at h
      cases hx : L[k]? with
      | none => unfold nds; rw [hx]; exact ih
      | some x =>
        rw [hx] at h
        simp only at h
        by_cases ha : an x = a
        · subst ha
          split at h
          · cases h
          · omega
        · unfold nds
          rw [hx]
          have e4 : (an x == a) = false := by simpa using ha
          simp only [e4, Bool.and_false, Bool.false_and, Bool.false_eq_true, if_false]
          exact ih
theorem cs_fs {f : Nat} {g : Re → Bool} {L : List Re} : ∀ (k : Nat), cs f g L k = fs (f + 1) (voices g (L.take k)) (voices g (L.take k)).length
  | 0 => by simp [cs, voices, fs]
  | k + 1 => by
    have ih := cs_fs (f := f) (g := g) (L := L) k
    cases hx : L[k]? with
    | none =>
      rw [take_none hx, ← ih]
      conv => lhs; unfold cs
      rw [hx]
      cases cs f g L k <;> rfl
    | some x =>
      have hk := key (g := g) (a := an x) (L := L) (k + 1)
      have hn := none_le (f := f) (g := g) (L := L) (k := k)
      rw [voices_at hx] at hk ⊢
      conv => lhs; unfold cs
      rw [hx]
      simp only
      cases hg : g x with
      | false =>
        rw [hg] at hk
        simp only [Bool.false_eq_true, if_false, List.append_nil] at hk ⊢
        rw [← ih]
        cases h1 : cs f g L k with
        | some b => rfl
        | none =>
          have h2 : nds g (an x) L (k + 1) = nds g (an x) L k := by
            conv => lhs; unfold nds
            rw [hx]
            simp only [hg, Bool.false_and, Bool.false_eq_true, if_false]
          rw [h2, if_neg (by have := hn h1 (an x); omega)]
      | true =>
        rw [hg] at hk
        simp only [if_true] at hk ⊢
        generalize hV : voices g (L.take k) = V at ih hk ⊢
        rw [List.length_append] at hk ⊢
        show _ = fs (f + 1) (V ++ [vo x]) (V.length + 1)
        conv => rhs; unfold fs
        rw [fs_cong (V := V ++ [vo x]) (U := V) (by rw [List.take_left, List.take_length]), ← ih, List.getElem?_append_right (Nat.le_refl _), Nat.sub_self]
        simp only [List.getElem?_cons_zero]
        cases h1 : cs f g L k with
        | some b => rfl
        | none =>
          have e2 : (vo x).2 = an x := rfl
          have e3 : vn (an x) (V ++ [vo x]) (V.length + 1) = (nds g (an x) L (k + 1)).length := hk.symm
          simp only [e2, e3]
          by_cases h2 : f < (nds g (an x) L (k + 1)).length
          · rw [if_pos h2, if_pos (by omega)]
          · rw [if_neg h2, if_neg (by omega)]
theorem cs_stop {f : Nat} {g : Re → Bool} {L : List Re} {a : An} {k : Nat} (h : cs f g L k = some a) : ∀ {m : Nat}, k ≤ m → cs f g L m = some a
  | 0, hm => by
    obtain rfl : k = 0 := by omega
    exact h
  | m + 1, hm => by
    by_cases e : k = m + 1
    · rw [← e]; exact h
    · unfold cs
      rw [cs_stop h (m := m) (by omega)]
theorem fs_stop {c : Nat} {V : List Vo} {a : An} {k : Nat} (h : fs c V k = some a) : ∀ {m : Nat}, k ≤ m → fs c V m = some a
  | 0, hm => by
    obtain rfl : k = 0 := by omega
    exact h
  | m + 1, hm => by
    by_cases e : k = m + 1
    · rw [← e]; exact h
    · unfold fs
      rw [fs_stop h (m := m) (by omega)]
theorem nds_len {g : Re → Bool} {a : An} {L : List Re} : ∀ (k : Nat), (nds g a L k).length ≤ k
  | 0 => by simp [nds]
  | k + 1 => by
    have := nds_len (g := g) (a := a) (L := L) k
    unfold nds
    split
    · split
      · rw [List.length_append]; simp; omega
      · omega
    · omega
theorem vn_le {a : An} {V : List Vo} : ∀ (k : Nat), vn a V k ≤ k
  | 0 => Nat.le_refl _
  | k + 1 => by
    have := vn_le (a := a) (V := V) k
    unfold vn
    split
    · split <;> omega
    · omega
end Go.Proofs.Ytdhmmbbdckahmaa.Rk
