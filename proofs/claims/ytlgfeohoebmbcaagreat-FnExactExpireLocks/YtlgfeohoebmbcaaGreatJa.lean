/- Maps as data whose entries go up by their keys: what is found, what is put in; the keys in their order. -/
import Derived.Test.YtlgfeohoebmbcaaGreatFd
import Derived.Test.YtlgfeohoebmbcaaGreatLp
import Derived.WideShapes
import Derived.Sort.KeysCollected
import Derived.Lib.SlKeysI
namespace Go.Proofs.YtlgfeohoebmbcaaGreat.Ja
open Go.RowKit Go.Proofs.YtlgfeohoebmbcaaGreat.Tb Go.Proofs.YtlgfeohoebmbcaaGreat.Tw Go.Proofs.YtlgfeohoebmbcaaGreat.Tp Go.Proofs.YtlgfeohoebmbcaaGreat.Bk Go.Proofs.YtlgfeohoebmbcaaGreat.Da Go.Proofs.YtlgfeohoebmbcaaGreat.Rq
open Go.Proofs.YtlgfeohoebmbcaaGreat.Lo (LkA uV)

theorem before_irr (a : Lit) : a.before a = false := by
  cases a with
  | bool b => cases b <;> rfl
  | int q b => simp [Lit.before]
  | string b => exact WideAt.bytes_irrefl b
  | _ => rfl
theorem bytes_lt : ∀ a b : List UInt8, bytesBefore a b = decide (a < b)
  | [], [] => by simp [bytesBefore]
  | [], y :: s => by simp [bytesBefore]
  | x :: r, [] => by simp [bytesBefore]
  | x :: r, y :: s => by
    have ih := bytes_lt r s
    simp only [bytesBefore, ih, List.cons_lt_cons_iff]
    by_cases h1 : x < y
    · simp [h1]
    · by_cases h2 : x = y
      · simp [h2]
      · simp [h1, h2]
theorem before_asym (a b : Lit) (h : a.before b = true) : b.before a = false := by
  cases a <;> cases b <;> simp [Lit.before] at h ⊢
  · exact fun _ => h.1
  · omega
  · rw [bytes_lt] at h ⊢
    simp at h ⊢
    exact fun h2 => List.lt_irrefl _ (List.lt_trans h h2)
section
variable {α : Type} (E : α → Lit × DataW Value)
def mapOf (xs : List α) : DataW Value := .map (xs.map E)
def Asc (xs : List α) : Prop := xs.Pairwise fun x y => (E x).1.before (E y).1 = true
variable {E}
theorem Asc.ne {xs : List α} (h : Asc E xs) : (xs.map E).Pairwise fun p q => p.1 ≠ q.1 := by
  refine List.pairwise_map.2 (List.Pairwise.imp ?_ h)
  intro a b hab e
  rw [e, before_irr] at hab
  cases hab
theorem Asc.lt {xs : List α} (h : Asc E xs) {i j : Nat} {x y : α} (hi : xs[i]? = some x) (hj : xs[j]? = some y) (hij : i < j) : (E x).1.before (E y).1 = true := by
  obtain ⟨h1, rfl⟩ := List.getElem?_eq_some_iff.1 hi
  obtain ⟨h2, rfl⟩ := List.getElem?_eq_some_iff.1 hj
  exact List.pairwise_iff_getElem.1 h i j h1 h2 hij
theorem Asc.of {xs : List α} (h : ∀ (i j : Nat) (x y : α), xs[i]? = some x → xs[j]? = some y → i < j → (E x).1.before (E y).1 = true) : Asc E xs := by
  refine List.pairwise_iff_getElem.2 fun i j hi hj hij => ?_
  exact h i j _ _ (List.getElem?_eq_getElem hi) (List.getElem?_eq_getElem hj) hij
theorem size_mapOf (xs : List α) : Maps.size (mapOf E xs) = xs.length := by unfold mapOf Maps.size; simp
theorem at_hit (hk : ∀ x, WideAt.IsKeyLit (E x).1) {xs : List α} (h : Asc E xs) {x : α} (hx : x ∈ xs) (z : DataW Value) : (mapOf E xs).atKey (E x).1 z = (E x).2 :=
  WideAt.atKey_mem z (hk x) h.ne (List.mem_map.2 ⟨x, hx, rfl⟩)
theorem has_hit (hk : ∀ x, WideAt.IsKeyLit (E x).1) {xs : List α} {x : α} (hx : x ∈ xs) : Maps.has (mapOf E xs) (E x).1 = true := by
  unfold mapOf
  rw [Maps.has_eq, List.any_eq_true]
  exact ⟨E x, List.mem_map.2 ⟨x, hx, rfl⟩, WideAt.sameKey_self (hk x)⟩
theorem has_miss {xs : List α} {k : Lit} (h : ∀ x ∈ xs, (E x).1 ≠ k) : Maps.has (mapOf E xs) k = false := by
  unfold mapOf
  rw [Maps.has_eq, Bool.eq_false_iff]
  intro e
  obtain ⟨p, hp, hs⟩ := List.any_eq_true.1 e
  obtain ⟨x, hx, rfl⟩ := List.mem_map.1 hp
  exact h x hx (WideAt.sameKey_eq hs)
theorem at_miss {xs : List α} {k : Lit} (h : ∀ x ∈ xs, (E x).1 ≠ k) (z : DataW Value) : (mapOf E xs).atKey k z = z := Maps.atKey_of_not_has (has_miss h) z
theorem insert_at (y : α) : ∀ (xs : List α) (i : Nat), i ≤ xs.length → (∀ (j : Nat) (x : α), j < i → xs[j]? = some x → (E y).1.before (E x).1 = false) → (∀ x, xs[i]? = some x → (E y).1.before (E x).1 = true) → DataW.insert (E y) (xs.map E) = (putAt xs i y).map E
  | [], i, hi, _, _ => by
    obtain rfl : i = 0 := by simpa using hi
    rfl
  | x :: r, 0, _, _, h2 => by
    have := h2 x rfl
    simp only [List.map_cons, DataW.insert, this, if_true]
    simp [putAt]
  | x :: r, i + 1, hi, h1, h2 => by
    have h0 := h1 0 x (by omega) rfl
    have ih := insert_at y r i (by simpa using hi) (fun j z hj hz => h1 (j + 1) z (by omega) (by simpa using hz)) (fun z hz => h2 z (by simpa using hz))
    simp only [List.map_cons, DataW.insert, h0]
    rw [if_neg (by decide), ih]
    simp [putAt]
theorem filter_miss {xs : List α} {k : Lit} (h : ∀ x ∈ xs, (E x).1 ≠ k) : (xs.map E).filter (fun p => !p.1.sameKey k) = xs.map E := by
  refine List.filter_eq_self.2 fun p hp => ?_
  obtain ⟨x, hx, rfl⟩ := List.mem_map.1 hp
  simp only [Bool.not_eq_true', Bool.eq_false_iff]
  exact fun e => h x hx (WideAt.sameKey_eq e)
theorem filter_hit {k : Lit} (hk : WideAt.IsKeyLit k) : ∀ (xs : List α) (i : Nat) (x : α), (xs.map E).Pairwise (fun p q => p.1 ≠ q.1) → xs[i]? = some x → (E x).1 = k → (xs.map E).filter (fun p => !p.1.sameKey k) = (xs.eraseIdx i).map E
  | [], i, x, _, h, _ => by simp at h
  | y :: r, 0, x, hp, h, hx => by
    simp at h
    subst h
    rw [List.map_cons] at hp
    have h2 := List.pairwise_cons.1 hp
    rw [List.map_cons, List.filter_cons_of_neg (by rw [hx]; simp [WideAt.sameKey_self hk]), List.eraseIdx_cons_zero]
    exact filter_miss fun z hz e => h2.1 (E z) (List.mem_map.2 ⟨z, hz, rfl⟩) (hx.trans e.symm)
  | y :: r, i + 1, x, hp, h, hx => by
    have h' : r[i]? = some x := by simpa using h
    rw [List.map_cons] at hp
    have h2 := List.pairwise_cons.1 hp
    have hne : (E y).1 ≠ k := fun e => h2.1 (E x) (List.mem_map.2 ⟨x, List.mem_of_getElem? h', rfl⟩) (e.trans hx.symm)
    have hf : (!(E y).1.sameKey k) = true := by simp only [Bool.not_eq_true', Bool.eq_false_iff]; exact fun e => hne (WideAt.sameKey_eq e)
    rw [List.map_cons, List.filter_cons_of_pos (by simpa using hf), filter_hit hk r i x h2.2 h' hx, List.eraseIdx_cons_succ, List.map_cons]
theorem put_erase {y : α} : ∀ (xs : List α) (i : Nat), i < xs.length → putAt (xs.eraseIdx i) i y = xs.set i y
  | [], i, h => by simp at h
  | x :: r, 0, _ => by simp [putAt]
  | x :: r, i + 1, h => by
    have ih := put_erase (y := y) r i (by simpa using h)
    simp only [putAt] at ih ⊢
    simp [ih]
theorem put_hit (hk : ∀ x, WideAt.IsKeyLit (E x).1) {xs : List α} (h : Asc E xs) {i : Nat} {x y : α} (hx : xs[i]? = some x) (he : (E y).1 = (E x).1) : (mapOf E xs).put (E y).1 (E y).2 = mapOf E (xs.set i y) := by
  have hil := (List.getElem?_eq_some_iff.1 hx).1
  show DataW.map (DataW.insert ((E y).1, (E y).2) ((xs.map E).filter fun p => !p.1.sameKey (E y).1)) = _
  rw [filter_hit (hk y) xs i x h.ne hx he.symm, show ((E y).1, (E y).2) = E y from rfl, insert_at y (xs.eraseIdx i) i (by rw [List.length_eraseIdx]; split <;> omega) ?_ ?_, put_erase xs i hil]
  · rfl
  · intro j z hj hz
    rw [List.getElem?_eraseIdx, if_pos hj] at hz
    have := h.lt hz hx hj
    rw [he]
    exact before_asym _ _ this
  · intro z hz
    rw [List.getElem?_eraseIdx, if_neg (by omega)] at hz
    rw [he]
    exact h.lt hx hz (by omega)
theorem put_miss {xs : List α} {i : Nat} {y : α} (hn : ∀ x ∈ xs, (E x).1 ≠ (E y).1) (hi : i ≤ xs.length) (h1 : ∀ (j : Nat) (x : α), j < i → xs[j]? = some x → (E y).1.before (E x).1 = false) (h2 : ∀ x, xs[i]? = some x → (E y).1.before (E x).1 = true) : (mapOf E xs).put (E y).1 (E y).2 = mapOf E (putAt xs i y) := by
  show DataW.map (DataW.insert ((E y).1, (E y).2) ((xs.map E).filter fun p => !p.1.sameKey (E y).1)) = _
  rw [filter_miss hn, show ((E y).1, (E y).2) = E y from rfl, insert_at y xs i hi h1 h2]
  rfl
theorem put_last {xs : List α} {y : α} (h : Asc E (xs ++ [y])) : (mapOf E xs).put (E y).1 (E y).2 = mapOf E (xs ++ [y]) := by
  have hp := List.pairwise_append.1 h
  have hb : ∀ x ∈ xs, (E x).1.before (E y).1 = true := fun x hx => hp.2.2 x hx y (List.mem_singleton.2 rfl)
  rw [put_miss (i := xs.length) (fun x hx e => by have := hb x hx; rw [e, before_irr] at this; cases this) (Nat.le_refl _) (fun j x _ hj => before_asym _ _ (hb x (List.mem_of_getElem? hj))) (fun x hx => by simp at hx)]
  simp [putAt]
end
/-- The entries: a lock under its name, a Seen under its client. -/
def eV (q : Lk × Value) : Lit × DataW Value := (kS q.1.n, .held (lkV q.1 q.2))
def eL (p : LkA) : Lit × DataW Value := (kS p.1.n, .held (lkV p.1 (uV p)))
def eS (s : Sn) : Lit × DataW Value := (kI s.c, .held (snV s))
theorem key_L (p : LkA) : WideAt.IsKeyLit (eL p).1 := trivial
theorem key_S (s : Sn) : WideAt.IsKeyLit (eS s).1 := trivial
abbrev mL (ps : List LkA) : DataW Value := mapOf eL ps
abbrev mS (ss : List Sn) : DataW Value := mapOf eS ss
theorem asc_take {α : Type} {E : α → Lit × DataW Value} {xs : List α} {x : α} (h : Asc E (xs ++ [x])) : Asc E xs := (List.pairwise_append.1 h).1
theorem fold_eq {α : Type} {E : α → Lit × DataW Value} : ∀ (qs ps : List α), Asc E (ps ++ qs) → qs.foldl (fun D q => D.put (E q).1 (E q).2) (mapOf E ps) = mapOf E (ps ++ qs)
  | [], ps, _ => by simp
  | q :: r, ps, h => by
    have h' : Asc E ((ps ++ [q]) ++ r) := by simpa using h
    rw [List.foldl_cons, put_last (List.pairwise_append.1 h').1, fold_eq r (ps ++ [q]) h']
    simp
theorem dL_eq {ps : List (Lk × Value)} (h : Asc eV ps) : dL ps = mapOf eV ps := fold_eq (E := eV) ps [] h
theorem dS_eq {ss : List Sn} (h : Asc eS ss) : dS ss = mapOf eS ss := fold_eq (E := eS) ss [] h
/-- The locks' names go up; the clients do. -/
def NmA (ls : List Lk) : Prop := ls.Pairwise fun x y => less x.n y.n = true
def ClA (ss : List Sn) : Prop := ss.Pairwise fun x y => x.c < y.c
theorem less_before (a b : ByteArray) : (kS a).before (kS b) = less a b := by
  show bytesBefore a.data.toList b.data.toList = Op.bytesLess a.toList b.toList
  rw [bytes_lt, Go.Proofs.bytesLess_eq, ByteArray.toList_eq, ByteArray.toList_eq]
theorem NmA.asc {ps : List LkA} (h : NmA (ps.map (·.1))) : Asc eL ps := by
  refine List.Pairwise.imp ?_ (List.pairwise_map.1 h)
  intro a b hab
  rw [← less_before] at hab
  exact hab
theorem NmA.ascV {ps : List (Lk × Value)} (h : NmA (ps.map (·.1))) : Asc eV ps := by
  refine List.Pairwise.imp ?_ (List.pairwise_map.1 h)
  intro a b hab
  rw [← less_before] at hab
  exact hab
theorem ClA.asc {ss : List Sn} (h : ClA ss) : Asc eS ss := by
  refine List.Pairwise.imp ?_ h
  intro a b hab
  show decide (a.c < b.c) = true
  simpa using hab
theorem NmA.of {nx : Int} {ls : List Lk} (h : LsOK nx ls) : NmA ls := by
  refine List.pairwise_iff_getElem.2 fun i j hi hj hij => ?_
  have h1 := Lp.names_up h (j - i - 1) i _ _ (List.getElem?_eq_getElem hi) (by rw [← List.getElem?_eq_getElem hj]; congr 1; omega)
  unfold less
  rw [Go.Proofs.bytesLess_eq]
  simpa using h1
theorem cl_up {ss : List Sn} (h : SsOK ss) : ∀ (d j : Nat) (x y : Sn), ss[j]? = some x → ss[j + 1 + d]? = some y → x.c < y.c
  | 0, j, x, y, hx, hy => by
    have h1 := (h (j + 1) y hy).1
    rw [pc_succ hx] at h1
    unfold inB at h1
    simp at h1
    omega
  | d + 1, j, x, y, hx, hy => by
    obtain ⟨z, hz⟩ := Tw.get_at (xs := ss) (k := j + 1 + d) (by have := (List.getElem?_eq_some_iff.1 hy).1; omega)
    have h0 := cl_up h d j x z hx hz
    have h1 := cl_up h 0 (j + 1 + d) z y hz (by rw [← hy]; congr 1)
    omega
theorem ClA.of {ss : List Sn} (h : SsOK ss) : ClA ss := by
  refine List.pairwise_iff_getElem.2 fun i j hi hj hij => ?_
  exact cl_up h (j - i - 1) i _ _ (List.getElem?_eq_getElem hi) (by rw [← List.getElem?_eq_getElem hj]; congr 1; omega)
/-- The keys of a map, sorted. -/
theorem keys_L (ps : List LkA) : strKeys (mL ps) = ps.map fun p => p.1.n.data.toList := by
  show List.map _ (List.map _ ps) = _
  rw [List.map_map]
  rfl
theorem keys_S (ss : List Sn) : intKeys (mS ss) = ss.map fun s => s.c := by
  show List.map _ (List.map _ ss) = _
  rw [List.map_map]
  rfl
theorem sort_L {ps : List LkA} (h : NmA (ps.map (·.1))) {ks : List (List UInt8)} (hp : ks.Perm (strKeys (mL ps))) : ks.mergeSort (fun x y => decide (x ≤ y)) = ps.map fun p => p.1.n.data.toList := by
  rw [keys_L] at hp
  rw [show ks.mergeSort (fun x y => decide (x ≤ y)) = _ from mergeSort_of_perm hp]
  refine List.mergeSort_of_pairwise (List.pairwise_map.2 (List.Pairwise.imp ?_ (List.pairwise_map.1 h)))
  intro a b hab
  unfold less at hab
  rw [Go.Proofs.bytesLess_eq, ByteArray.toList_eq, ByteArray.toList_eq] at hab
  simp only [decide_eq_true_eq] at hab ⊢
  exact List.le_of_lt hab
theorem sort_S {ss : List Sn} (h : ClA ss) {ks : List Int} (hp : ks.Perm (intKeys (mS ss))) : ks.mergeSort (fun x y => decide (x ≤ y)) = ss.map fun s => s.c := by
  rw [keys_S] at hp
  rw [show ks.mergeSort (fun x y => decide (x ≤ y)) = _ from mergeSort_of_perm_i hp]
  refine List.mergeSort_of_pairwise (List.pairwise_map.2 (List.Pairwise.imp ?_ h))
  intro a b hab
  simp only [decide_eq_true_eq]
  omega
end Go.Proofs.YtlgfeohoebmbcaaGreat.Ja
