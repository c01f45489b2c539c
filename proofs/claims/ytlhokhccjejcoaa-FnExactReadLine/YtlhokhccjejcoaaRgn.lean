/- A region that draws its order: of each operation of its first part it is said once what it hands on; the order does not matter. -/
import Derived.Test.YtlhokhccjejcoaaAp
import Derived.Deep.RegionHeld
namespace Go.Proofs.Ytlhokhccjejcoaa.Rgn
open Go.RowKit

def putAll (a : Act) : List Nat → List Value → Act
  | k :: ks, t :: ts => putAll (a.put (some k) t) ks ts
  | _, _ => a
/-- These slots hold these values. -/
def Holds (a : Act) : List Nat → List Value → Prop
  | k :: ks, t :: ts => a.tmps[k]? = some t ∧ Holds a ks ts
  | [], [] => True
  | _, _ => False
theorem put_tmps (a : Act) (d : Nat) (v : Value) : (a.put (some d) v).tmps = a.tmps.setIfInBounds d v := rfl
theorem put_eq {a : Act} : ∀ (ks : List Nat) (vs : List Value) (a0 : Act), a.tmps.size = a0.tmps.size → a.defers = a0.defers → (∀ d, d ∉ ks → a.tmps[d]? = a0.tmps[d]?) → Holds a ks vs → a = putAll a0 ks vs
  | [], [], a0, hs, hd, hf, _ => by
    obtain ⟨t, f⟩ := a
    obtain ⟨t0, f0⟩ := a0
    simp only at hd
    subst hd
    show (⟨t, f⟩ : Act) = ⟨t0, f⟩
    congr 1
    exact Array.ext_getElem? fun d => hf d (by simp)
  | k :: ks, v :: vs, a0, hs, hd, hf, hh => by
    show a = putAll (a0.put (some k) v) ks vs
    refine put_eq ks vs _ (by rw [put_tmps, Array.size_setIfInBounds]; exact hs) hd (fun d hdk => ?_) hh.2
    rw [put_tmps]
    by_cases e : d = k
    · subst e
      have hlt : d < a.tmps.size := (Array.getElem?_eq_some_iff.1 hh.1).1
      rw [hh.1, Array.getElem?_setIfInBounds_self_of_lt (by omega)]
    · rw [Array.getElem?_setIfInBounds_ne (fun x => e x.symm)]
      exact hf d (by simp [e, hdk])
  | [], _ :: _, _, _, _, _, hh => hh.elim
  | _ :: _, [], _, _, _, _, hh => hh.elim
section
variable {P : Program} {ops : Array Oper} {Q : Exit → Act → World → Prop} {md : Region.Mode}

theorem wpAny_more : ∀ (f g : Nat) (l : Array Bool) (a : Act) (w : World), f ≤ g → wpAny P md ops Q f l a w → wpAny P md ops Q g l a w
  | 0, 0, _, _, _, _, h => h
  | 0, g + 1, l, a, w, _, h => ⟨fun _ => h.2, fun i hi => by rw [h.1] at hi; cases hi⟩
  | f + 1, 0, _, _, _, hfg, _ => by omega
  | f + 1, g + 1, l, a, w, hfg, h => ⟨h.1, fun i hi => wpOp_mono (fun a' w' h' => wpAny_more f g _ a' w' (by omega) h') (h.2 i hi)⟩
def dstB (ops : Array Oper) (j : Nat) (d : Nat) : Bool := match ops[j]? with
  | some o => o.dst == some d
  | none => false
def isDst (ops : Array Oper) (n d : Nat) : Bool := (List.range n).any fun j => dstB ops j d
def preB (md : Region.Mode) (ops : Array Oper) (i k : Nat) : Bool := match ops[i]? with
  | some o => o.after.any fun e => Region.binds md e && (e.on == k)
  | none => false
/-- What is asked of the region's text: what waits waits for what stands above it; the first n write slots of their own and have no guard; the others wait for all of them but the quiet ones, which nobody meets. -/
def fits (md : Region.Mode) (ops : Array Oper) (n m : Nat) (qt : List Nat) : Bool :=
  ((List.range ops.size).all fun j => match ops[j]? with
    | some o => (o.after.all fun e => !(Region.binds md e) || decide (e.on < j)) && (decide (n ≤ j) || (o.guard.isNone && (match o.dst with | some d => decide (d < m) && ((List.range n).all fun i => i == j || !dstB ops i d) | none => false)))
    | none => false) && ((List.range ops.size).all fun j => decide (j < n) || (List.range n).all fun k => qt.contains k || preB md ops j k || (List.range j).any fun q => decide (n ≤ q) && preB md ops j q) && decide (n ≤ ops.size) && Region.noSelect ops && (qt.all fun i => decide (i < n) && Region.free md ops (Array.ofFn (n := ops.size) fun j => preB md ops i j) i)
structure Got (ops : Array Oper) (n : Nat) (R : Nat → Value → World → Prop) (a0 : Act) (w0 : World) (l : Array Bool) (a : Act) (w : World) : Prop where
  sz : l.size = ops.size
  be : Below w0.heap.size w0 w
  rs : ∀ j d, j < n → dstB ops j d = true → l.getD j false = true → ∃ v, a.tmps[d]? = some v ∧ R j v w
  fr : ∀ d, isDst ops n d = false → a.tmps[d]? = a0.tmps[d]?
  ts : a.tmps.size = a0.tmps.size
  df : a.defers = a0.defers
  ph : ∀ j, n ≤ j → l.getD j false = false
/-- One operation: given what it waits for it hands on what is said of it. -/
def Step (P : Program) (md : Region.Mode) (ops : Array Oper) (Q : Exit → Act → World → Prop) (n : Nat) (R : Nat → Value → World → Prop) (a0 : Act) (w0 : World) (i : Nat) (o : Oper) : Prop :=
  ∀ (a : Act) (w : World), Below w0.heap.size w0 w → (∀ k d, preB md ops i k = true → dstB ops k d = true → ∃ v, a.tmps[d]? = some v ∧ R k v w) → (∀ d, isDst ops n d = false → a.tmps[d]? = a0.tmps[d]?) →
    ∀ K : Act → World → Prop, (∀ v w', Below w.heap.size w w' → R i v w' → K (a.put o.dst v) w') → Oper.wp P o a w K Q
def Steps (P : Program) (md : Region.Mode) (ops : Array Oper) (Q : Exit → Act → World → Prop) (n : Nat) (R : Nat → Value → World → Prop) (a0 : Act) (w0 : World) (is : List Nat) : Prop :=
  ∀ i ∈ is, ∀ o, ops[i]? = some o → Step P md ops Q n R a0 w0 i o
/-- A quiet operation: it yields its value in every world. -/
def QStep (P : Program) (md : Region.Mode) (ops : Array Oper) (n : Nat) (R : Nat → Value → World → Prop) (a0 : Act) (w0 : World) (i : Nat) (o : Oper) : Prop :=
  ∀ (a : Act) (w : World), Below w0.heap.size w0 w → (∀ k d, preB md ops i k = true → dstB ops k d = true → ∃ v, a.tmps[d]? = some v ∧ R k v w) → (∀ d, isDst ops n d = false → a.tmps[d]? = a0.tmps[d]?) →
    ∃ v, (∀ w', (execOp a.eval o).run P w' = .ok (.value v) w') ∧ R i v w
def QSteps (P : Program) (md : Region.Mode) (ops : Array Oper) (n : Nat) (R : Nat → Value → World → Prop) (a0 : Act) (w0 : World) (is : List Nat) : Prop :=
  ∀ i ∈ is, ∀ o, ops[i]? = some o → QStep P md ops n R a0 w0 i o
theorem QSteps.nil {n : Nat} {R : Nat → Value → World → Prop} {a0 : Act} {w0 : World} : QSteps P md ops n R a0 w0 [] := fun _ h => by cases h
theorem QSteps.cons {n : Nat} {R : Nat → Value → World → Prop} {a0 : Act} {w0 : World} {i : Nat} {is : List Nat} {o : Oper} (ho : ops[i]? = some o) (h : QStep P md ops n R a0 w0 i o) (hs : QSteps P md ops n R a0 w0 is) : QSteps P md ops n R a0 w0 (i :: is) := fun j hj o' ho' => by
  rcases List.mem_cons.1 hj with rfl | hj
  · rw [ho] at ho'; cases ho'; exact h
  · exact hs j hj o' ho'
theorem Steps.nil {n : Nat} {R : Nat → Value → World → Prop} {a0 : Act} {w0 : World} : Steps P md ops Q n R a0 w0 [] := fun _ h => by cases h
theorem Steps.cons {n : Nat} {R : Nat → Value → World → Prop} {a0 : Act} {w0 : World} {i : Nat} {is : List Nat} {o : Oper} (ho : ops[i]? = some o) (h : Step P md ops Q n R a0 w0 i o) (hs : Steps P md ops Q n R a0 w0 is) : Steps P md ops Q n R a0 w0 (i :: is) := fun j hj o' ho' => by
  rcases List.mem_cons.1 hj with rfl | hj
  · rw [ho] at ho'; cases ho'; exact h
  · exact hs j hj o' ho'
theorem count_lt {p q : Nat → Bool} : ∀ {l : List Nat} {i : Nat}, i ∈ l → p i = true → q i = false → (∀ x, q x = true → p x = true) → l.countP q < l.countP p
  | [], _, h, _, _, _ => by cases h
  | x :: l, i, h, hp, hq, hi => by
    have hle : ∀ (l : List Nat), l.countP q ≤ l.countP p := fun l => List.countP_mono_left fun x _ h => hi x h
    rw [List.countP_cons, List.countP_cons]
    rcases List.mem_cons.1 h with rfl | h
    · have := hle l
      rw [hp, hq]
      simp
      omega
    · have := count_lt h hp hq hi
      by_cases hx : q x = true
      · rw [hx, hi x hx]; simp; omega
      · have hx' : q x = false := by simpa using hx
        rw [hx']
        simp
        omega
theorem all_listed {l : Array Bool} (h1 : ∀ (j : Nat) (o : Oper), ops[j]? = some o → ∀ e ∈ o.after, Region.binds md e = true → e.on < j) {j : Nat} (hj : j < ops.size) (hl : l.getD j false = false) (hs : l.size = ops.size) : ∃ i, i ≤ j ∧ i ∈ Region.ready md ops l := by
  induction j using Nat.strongRecOn with
  | ind j ih =>
    obtain ⟨o, ho⟩ : ∃ o, ops[j]? = some o := ⟨ops[j], Array.getElem?_eq_getElem hj⟩
    by_cases hp : ∀ e ∈ o.after, Region.binds md e = true → l.getD e.on false = true
    · refine ⟨j, Nat.le_refl _, mem_ready.2 ⟨?_, o, ho, hp⟩⟩
      have hjl : j < l.size := by omega
      simpa [Array.getD, hjl] using hl
    · obtain ⟨e, hp⟩ := Classical.not_forall.1 hp
      obtain ⟨he, hp⟩ := Classical.not_imp.1 hp
      obtain ⟨hbd, hp⟩ := Classical.not_imp.1 hp
      have hlt := h1 j o ho e he hbd
      obtain ⟨i, h4, h5⟩ := ih e.on hlt (by omega) (by simpa using hp)
      exact ⟨i, by omega, h5⟩
theorem fits_parts {n m : Nat} {qt : List Nat} (hf : fits md ops n m qt = true) : (∀ (j : Nat) (o : Oper), ops[j]? = some o → ∀ e ∈ o.after, Region.binds md e = true → e.on < j) ∧
    (∀ (j : Nat) (o : Oper), j < n → ops[j]? = some o → o.guard = none ∧ ∃ d, o.dst = some d ∧ d < m ∧ ∀ i, i < n → i ≠ j → dstB ops i d = false) ∧
    (∀ j k, n ≤ j → j < ops.size → k < n → k ∈ qt ∨ preB md ops j k = true ∨ ∃ q, n ≤ q ∧ preB md ops j q = true) ∧ n ≤ ops.size ∧ Region.noSelect ops = true ∧ ∀ i ∈ qt, i < n ∧ Region.free md ops (Array.ofFn (n := ops.size) fun j => preB md ops i j) i = true := by
  unfold fits at hf
  simp only [Bool.and_eq_true, decide_eq_true_eq] at hf
  obtain ⟨⟨⟨⟨h1, h2⟩, h3⟩, h9⟩, h10⟩ := hf
  refine ⟨fun j o ho e he hbd => ?_, fun j o hj ho => ?_, fun j k hj hlt hk => ?_, h3, h9, fun i hi => ?_⟩
  · have h4 := (List.all_eq_true.1 h1) j (List.mem_range.2 (Array.getElem?_eq_some_iff.1 ho).1)
    simp only [ho, Bool.and_eq_true] at h4
    have h5 := Array.all_eq_true_iff_forall_mem.1 h4.1 e he
    rw [hbd] at h5
    simpa using h5
  · have h4 := (List.all_eq_true.1 h1) j (List.mem_range.2 (Array.getElem?_eq_some_iff.1 ho).1)
    simp only [ho, Bool.and_eq_true] at h4
    have h5 := h4.2
    rw [show decide (n ≤ j) = false by simp; omega, Bool.false_or, Bool.and_eq_true] at h5
    refine ⟨by simpa using h5.1, ?_⟩
    have h6 := h5.2
    cases hd : o.dst with
    | none => rw [hd] at h6; cases h6
    | some d =>
      rw [hd] at h6
      simp only [Bool.and_eq_true, decide_eq_true_eq] at h6
      refine ⟨d, rfl, h6.1, fun i hi hij => ?_⟩
      have h7 := (List.all_eq_true.1 h6.2) i (List.mem_range.2 hi)
      simpa [hij] using h7
  · have h4 := (List.all_eq_true.1 h2) j (List.mem_range.2 hlt)
    rw [show decide (j < n) = false by simp; omega, Bool.false_or] at h4
    have h5 := (List.all_eq_true.1 h4) k (List.mem_range.2 hk)
    simp only [Bool.or_eq_true] at h5
    rcases h5 with (h5 | h5) | h5
    · exact .inl (by simpa using h5)
    · exact .inr (.inl h5)
    · obtain ⟨q, _, h6⟩ := List.any_eq_true.1 h5
      simp only [Bool.and_eq_true, decide_eq_true_eq] at h6
      exact .inr (.inr ⟨q, h6⟩)
  · have := (List.all_eq_true.1 h10) i hi
    simpa using this
theorem pre_listed {l : Array Bool} {i k : Nat} (hi : i ∈ Region.ready md ops l) (hp : preB md ops i k = true) : l.getD k false = true := by
  obtain ⟨_, o, ho, hall⟩ := mem_ready.1 hi
  unfold preB at hp
  rw [ho] at hp
  obtain ⟨e, he, h1⟩ := Array.any_eq_true'.1 hp
  simp only [Bool.and_eq_true, beq_iff_eq] at h1
  rw [← h1.2]
  exact hall e he h1.1
theorem got_next {n : Nat} {qt : List Nat} {R : Nat → Value → World → Prop} {a0 : Act} {w0 : World} {l : Array Bool} {a : Act} {W : World} (hf : fits md ops n a0.tmps.size qt = true) (hR : ∀ j v W W', R j v W → Below W.heap.size W W' → R j v W') (hg : Got ops n R a0 w0 l a W) {i : Nat} {o : Oper} (hin : i < n) (ho : ops[i]? = some o) {v : Value} {w' : World} (hb : Below W.heap.size W w') (hr : R i v w') :
    Got ops n R a0 w0 (l.setIfInBounds i true) (a.put o.dst v) w' := by
  obtain ⟨f1, f2, f3, f4, f5, f6⟩ := fits_parts hf
  obtain ⟨hgd, d, hd, hdm, hdn⟩ := f2 i o hin ho
  rw [hd]
  refine ⟨?_, hg.be.trans (hb.mono hg.be.size), fun k e hk he hl => ?_, fun e he => ?_, ?_, hg.df, fun k hk => ?_⟩
  · rw [Array.size_setIfInBounds]; exact hg.sz
  · rw [put_tmps]
    by_cases hki : i = k
    · subst hki
      have hde : d = e := by
        unfold dstB at he
        rw [ho] at he
        simp only [hd, beq_iff_eq, Option.some.injEq] at he
        exact he
      subst hde
      exact ⟨v, Array.getElem?_setIfInBounds_self_of_lt (by rw [hg.ts]; exact hdm), hr⟩
    · rw [getD_set_ne false hki] at hl
      obtain ⟨u, hu, hru⟩ := hg.rs k e hk he hl
      refine ⟨u, ?_, hR _ _ _ _ hru hb⟩
      rw [Array.getElem?_setIfInBounds_ne (fun x => ?_)]
      · exact hu
      · subst x
        rw [hdn k hk (fun x => hki x.symm)] at he
        cases he
  · rw [put_tmps, Array.getElem?_setIfInBounds_ne (fun x => ?_)]
    · exact hg.fr e he
    · subst x
      unfold isDst at he
      have := (List.any_eq_false.1 he) i (List.mem_range.2 hin)
      apply this
      unfold dstB
      rw [ho]
      simp [hd]
  · rw [put_tmps, Array.size_setIfInBounds]; exact hg.ts
  · rw [getD_set_ne false (by omega)]
    exact hg.ph k hk
theorem got_pre {n : Nat} {qt : List Nat} {R : Nat → Value → World → Prop} {a0 : Act} {w0 : World} {l : Array Bool} {a : Act} {W : World} (hf : fits md ops n a0.tmps.size qt = true) (hg : Got ops n R a0 w0 l a W) {i : Nat} (hin : i < n) (hi : i ∈ Region.ready md ops l) (k d : Nat) (hk : preB md ops i k = true) (he : dstB ops k d = true) : ∃ v, a.tmps[d]? = some v ∧ R k v W := by
  obtain ⟨f1, _⟩ := fits_parts hf
  obtain ⟨_, o, ho, _⟩ := mem_ready.1 hi
  have hkn : k < n := by
    have hk' := hk
    unfold preB at hk'
    rw [ho] at hk'
    obtain ⟨e', he', h1⟩ := Array.any_eq_true'.1 hk'
    simp only [Bool.and_eq_true, beq_iff_eq] at h1
    have h2 := f1 i o ho e' he' h1.1
    have h3 := h1.2
    omega
  exact hg.rs k d hkn he (pre_listed hi hk)
theorem count_next {n i : Nat} {l : Array Bool} (hin : i < n) (hil : l.getD i true = false) : (List.range n).countP (fun j => !(l.setIfInBounds i true).getD j false) < (List.range n).countP (fun j => !l.getD j false) := by
  have hisl : i < l.size := by
    rcases Nat.lt_or_ge i l.size with h | h
    · exact h
    · simp [Array.getD, Nat.not_lt.2 h] at hil
  refine count_lt (List.mem_range.2 hin) (i := i) ?_ ?_ fun x hx => ?_
  · have : l.getD i false = false := by simpa [Array.getD, hisl] using hil
    rw [this]; rfl
  · simp [Array.getD, hisl]
  · by_cases hix : i = x
    · subst hix
      simp [Array.getD, hisl] at hx
    · rw [getD_set_ne false hix] at hx
      exact hx
theorem any_got {n : Nat} {qt : List Nat} {R : Nat → Value → World → Prop} {a0 : Act} {w0 : World} (hf : fits md ops n a0.tmps.size qt = true) (hQ : ∀ c a a' w, Q (.panic c) a' w → Q (.panic c) a w) (hR : ∀ j v W W', R j v W → Below W.heap.size W W' → R j v W') (hs : Steps P md ops Q n R a0 w0 ((List.range n).filter fun i => !qt.contains i)) (hq : QSteps P md ops n R a0 w0 qt)
    (hend : ∀ l a W, Got ops n R a0 w0 l a W → (∀ j, j < n → l.getD j false = true) → wpAny P md ops Q (ops.size - n) l a W) :
    ∀ (c : Nat) (l : Array Bool) (a : Act) (W : World), Got ops n R a0 w0 l a W → (List.range n).countP (fun j => !l.getD j false) ≤ c → wpAny P md ops Q (c + (ops.size - n)) l a W := by
  obtain ⟨f1, f2, f3, f4, f5, f6⟩ := fits_parts hf
  intro c
  induction c with
  | zero =>
    intro l a W hg hc
    refine wpAny_more _ _ _ _ _ (by omega) (hend l a W hg fun j hj => ?_)
    have := List.countP_eq_zero.1 (Nat.le_zero.1 hc) j (List.mem_range.2 hj)
    simpa using this
  | succ c ih =>
    intro l a W hg hc
    by_cases hall : ∀ j, j < n → l.getD j false = true
    · exact wpAny_more _ _ _ _ _ (by omega) (hend l a W hg hall)
    · obtain ⟨j, hall⟩ := Classical.not_forall.1 hall
      obtain ⟨hj, hall⟩ := Classical.not_imp.1 hall
      have hjf : l.getD j false = false := by simpa using hall
      rw [show c + 1 + (ops.size - n) = (c + (ops.size - n)) + 1 by omega]
      by_cases hqr : ∃ i, i ∈ qt ∧ i ∈ Region.ready md ops l
      · obtain ⟨i, hiq, hi⟩ := hqr
        obtain ⟨hil, o, ho, _⟩ := mem_ready.1 hi
        obtain ⟨hin, hfr⟩ := f6 i hiq
        obtain ⟨hgd, _⟩ := f2 i o hin ho
        obtain ⟨v, hv, hr⟩ := hq i hiq o ho a W hg.be (got_pre hf hg hin hi) hg.fr
        refine wpAny_first ho (Region.noSelect_spec f5) (fun c a w h => hQ c a _ w h) _ l a W (fun j oj hoj hji hjl hno => Region.free_spec ho hfr j oj hoj hji (by
            have hjs := (Array.getElem?_eq_some_iff.1 hoj).1
            have hjz : j < l.size := by rw [hg.sz]; exact hjs
            cases hp : preB md ops i j with
            | false => simp [Array.getD, hjs, hp]
            | true =>
              have h7 := pre_listed hi hp
              simp [Array.getD, hjz] at h7 hjl
              rw [hjl] at h7
              cases h7) hno) hi (.inl ⟨by unfold Region.wanted; rw [hgd], hv⟩) ?_
        have := count_next hin hil
        exact ih _ _ _ (got_next hf hR hg hin ho (Below.refl _ _) hr) (by omega)
      · refine ⟨fun h0 => ?_, fun i hi => ?_⟩
        · obtain ⟨i, _, h1⟩ := all_listed f1 (by omega) hjf hg.sz
          rw [h0] at h1
          cases h1
        · obtain ⟨hil, o, ho, _⟩ := mem_ready.1 hi
          have his := (Array.getElem?_eq_some_iff.1 ho).1
          have hin : i < n := by
            rcases Nat.lt_or_ge i n with h | h
            · exact h
            · exfalso
              obtain ⟨k, hkj, hk⟩ := all_listed f1 (by omega) hjf hg.sz
              have hkf : l.getD k false = false := by
                have h7 := (mem_ready.1 hk).1
                have hkl : k < l.size := by rw [hg.sz]; omega
                simpa [Array.getD, hkl] using h7
              rcases f3 i k h his (by omega) with h1 | h1 | ⟨q, hq, h1⟩
              · exact hqr ⟨k, h1, hk⟩
              · rw [pre_listed hi h1] at hkf; cases hkf
              · have h2 := hg.ph q hq
                rw [pre_listed hi h1] at h2
                cases h2
          obtain ⟨hgd, d, hd, hdm, hdn⟩ := f2 i o hin ho
          refine wpOp_step ho fun K' hK => ?_
          rw [if_pos (by unfold Region.wanted; rw [hgd])]
          have hiq : i ∉ qt := fun h => hqr ⟨i, h, hi⟩
          refine hs i (List.mem_filter.2 ⟨List.mem_range.2 hin, by simpa using hiq⟩) o ho a W hg.be (got_pre hf hg hin hi) hg.fr K' fun v w' hb hr => hK _ _ ?_
          have := count_next hin hil
          exact ih _ _ _ (got_next hf hR hg hin ho hb hr) (by omega)
/-- THE LAW: a region whose first n operations each hand on, given what they wait for, what is said of them; then the others, one behind the other. -/
theorem wp_region_got {id : Nat} {a0 : Act} {w0 : World} (n f : Nat) (lf : Array Bool) (R : Nat → Value → World → Prop) (hm : P.follows .mixedOrders = true) (qt : List Nat) (hf : fits .any ops n a0.tmps.size qt = true) (hQ : ∀ c a a' w, Q (.panic c) a' w → Q (.panic c) a w) (hlf : lf = Array.ofFn (n := ops.size) fun j => decide (j.1 < n)) (hfu : ops.size - n = f)
    (hR : ∀ j v W W', R j v W → Below W.heap.size W W' → R j v W') (is : List Nat) (his : ((List.range n).filter fun i => !qt.contains i) = is) (hs : Steps P .any ops Q n R a0 w0 is) (hq : QSteps P .any ops n R a0 w0 qt)
    (hend : ∀ a W, Below w0.heap.size w0 W → (∀ j d, j < n → dstB ops j d = true → ∃ v, a.tmps[d]? = some v ∧ R j v W) → (∀ d, isDst ops n d = false → a.tmps[d]? = a0.tmps[d]?) → a.tmps.size = a0.tmps.size → a.defers = a0.defers → wpAnyH P .any ops Q (fun _ => True) f lf a W) :
    (Code.region id ops true).wp P Q a0 w0 := by
  refine wp_region_any hm ?_
  obtain ⟨f1, f2, f3, f4, _⟩ := fits_parts hf
  have hg : Got ops n R a0 w0 (Array.replicate ops.size false) a0 w0.drew := ⟨by simp, (Below.refl _ _).drew, fun j d _ _ h => (by simp [Array.getD] at h), fun _ _ => rfl, rfl, rfl, fun j _ => by simp [Array.getD]⟩
  have h := any_got hf hQ hR (his ▸ hs) hq (fun l a W hg hall => ?_) n _ _ _ hg (by
    have := List.countP_le_length (p := fun j => !(Array.replicate ops.size false).getD j false) (l := List.range n)
    rwa [List.length_range] at this)
  · exact wpAny_more _ _ _ _ _ (by omega) h
  · have hl : l = lf := by
      rw [hlf]
      refine Array.ext (by rw [hg.sz]; simp) fun i h1 h2 => ?_
      rw [Array.getElem_ofFn]
      by_cases hi : i < n
      · have := hall i hi
        simp [Array.getD, h1] at this
        rw [this]
        simp [hi]
      · have := hg.ph i (by omega)
        simp [Array.getD, h1] at this
        rw [this]
        simp [hi]
    rw [hfu, hl]
    exact wpAny_of_held _ _ _ _ (hend a W hg.be (fun j d hj hd => hg.rs j d hj hd (hall j hj)) hg.fr hg.ts hg.df)
end
/-- What is said of the operations' values, one by one. -/
def pick (L : List (Value → World → Prop)) (j : Nat) (v : Value) (w : World) : Prop := match L[j]? with
  | some f => f v w
  | none => True
def Stay (f : Value → World → Prop) : Prop := ∀ v W W', f v W → Below W.heap.size W W' → f v W'
def AllStay : List (Value → World → Prop) → Prop
  | [] => True
  | f :: fs => Stay f ∧ AllStay fs
theorem AllStay.at : ∀ {L : List (Value → World → Prop)}, AllStay L → ∀ {j : Nat} {f : Value → World → Prop}, L[j]? = some f → Stay f
  | [], _, j, f, h => by simp at h
  | g :: L, hs, 0, f, h => by simp at h; subst h; exact hs.1
  | g :: L, hs, j + 1, f, h => hs.2.at (by simpa using h)
theorem stay_pick {L : List (Value → World → Prop)} (h : AllStay L) (j : Nat) (v : Value) (W W' : World) (hp : pick L j v W) (hb : Below W.heap.size W W') : pick L j v W' := by
  unfold pick at hp ⊢
  split
  · rename_i f hf
    rw [hf] at hp
    exact h.at hf v W W' hp hb
  · trivial
def eqv (c : Value) (v : Value) (_ : World) : Prop := v = c
theorem stay_eqv (c : Value) : Stay (eqv c) := fun _ _ _ h _ => h
/-- A box that was laid. -/
def box (z : Nat) (cs : Array Value) (t : TypeId) (v : Value) (w : World) : Prop := ∃ p, v = .pointer (some ⟨p, 0, none⟩) ∧ z ≤ p ∧ w.heap[p]? = some (.cells cs t (0, 0))
theorem stay_box (z : Nat) (cs : Array Value) (t : TypeId) : Stay (box z cs t) := fun _ _ _ ⟨p, h1, h2, h3⟩ hb => ⟨p, h1, h2, (hb.block p (Array.getElem?_eq_some_iff.1 h3).1).trans h3⟩
theorem box_new {z : Nat} {w : World} (cs : Array Value) (t : TypeId) (hz : z ≤ w.heap.size) : box z cs t (.pointer (some ⟨w.heap.size, 0, none⟩)) (w.alloc (.cells cs t)) := ⟨_, rfl, hz, heap_alloc_new w _⟩
theorem not_dst {ops : Array Oper} {n : Nat} {ks : List Nat} (h : ((List.range n).all fun j => match ops[j]? with | some o => (match o.dst with | some d => ks.contains d | none => true) | none => true) = true) {d : Nat} (hd : d ∉ ks) : isDst ops n d = false := by
  unfold isDst
  rw [List.any_eq_false]
  intro j hj
  have h1 := (List.all_eq_true.1 h) j hj
  unfold dstB
  cases ho : ops[j]? with
  | none => simp
  | some o =>
    rw [ho] at h1
    cases hdo : o.dst with
    | none => simp [hdo]
    | some e =>
      simp only [hdo, List.contains_iff_mem] at h1
      simp only [hdo, beq_iff_eq, Option.some.injEq]
      rintro rfl
      exact hd h1
/-- A region is cut behind its end. -/
theorem cutL {P : Program} {id : Nat} {ops : Array Oper} {b : Bool} {Q : Exit → Act → World → Prop} {a : Act} {w : World} (ks : List Nat) (R : List Value → World → Prop)
    (h1 : (Code.region id ops b).wp P (fun e a' w' => match e with | .normal => ∃ ts : List Value, a' = putAll a ks ts ∧ R ts w' | _ => False) a w)
    (h2 : ∀ ts w', R ts w' → Q .normal (putAll a ks ts) w') : (Code.region id ops b).wp P Q a w :=
  Code.wp_mono (fun e a' w' h => by
    cases e with
    | normal =>
      obtain ⟨ts, rfl, h⟩ := h
      exact h2 ts w' h
    | _ => exact h.elim) h1
end Go.Proofs.Ytlhokhccjejcoaa.Rgn
