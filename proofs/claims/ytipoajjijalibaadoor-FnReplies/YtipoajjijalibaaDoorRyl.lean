/- Answers that are drawn; replies of whom lies and whom does not: what is counted is the truth. -/
import Derived.Test.YtipoajjijalibaaDoorGnr
import Derived.Test.YtipoajjijalibaaDoorRyk
namespace Go.Proofs.YtipoajjijalibaaDoor.Rl11
open Go.RowKit Go.Proofs.YtipoajjijalibaaDoor.Sl Go.Proofs.YtipoajjijalibaaDoor.Rg Go.Proofs.YtipoajjijalibaaDoor.Gn Go.Proofs.YtipoajjijalibaaDoor.Ry Go.Proofs.YtipoajjijalibaaDoor.Rk
open Go.Proofs.YtipoajjijalibaaDoor.Gy (Re)
open Go.Proofs.YtipoajjijalibaaDoor.Rm (inR inR_nat)
open Go.Proofs.YtipoajjijalibaaDoor.Tm (fCode fOut f_cases)

/-- A right answer; a node's reply that gives it. -/
def okA (a : An) : Bool := anB a.1 a.2.1 a.2.2.1 a.2.2.2
def rep (k : Nat) (a : An) : Re := mkR (k : Int) 1 2 a.1 a.2.1 a.2.2.1 a.2.2.2
theorem rep_fo {k : Nat} {a : An} (hk : k ≤ 6) (ha : okA a = true) : foB (r0 (k : Int) 1 2 a.1 a.2.1 a.2.2.1 a.2.2.2) = true := by
  have h1 : inR (k : Int) 0 6 = true := by unfold inR; simp; omega
  unfold foB r0
  unfold okA at ha
  simp only [h1, ha]
  decide
theorem rep_eq {k : Nat} {a : An} (hk : k ≤ 6) (ha : okA a = true) : rep k a = ⟨k, 1, 2, a.1, a.2.1, a.2.2.1, a.2.2.2, rymk (r0 (k : Int) 1 2 a.1 a.2.1 a.2.2.1 a.2.2.2)⟩ ∧ mkC (k : Int) 1 2 a.1 a.2.1 a.2.2.1 a.2.2.2 = 0 := mk_yes (rep_fo hk ha)
theorem rymk_mc (n c s k t h e0 : Int) (m m' : ByteArray) : rymk ⟨n, c, s, k, t, h, e0, m⟩ = rymk ⟨n, c, s, k, t, h, e0, m'⟩ := by unfold rymk reBs; rfl
theorem foB_mc (n c s k t h e0 : Int) (m m' : ByteArray) : foB ⟨n, c, s, k, t, h, e0, m⟩ = foB ⟨n, c, s, k, t, h, e0, m'⟩ := by unfold foB; rfl
theorem rep_an {k : Nat} {a : An} (hk : k ≤ 6) (ha : okA a = true) : an (rep k a) = a ∧ (rep k a).nd = k ∧ (rep k a).cl = 1 ∧ (rep k a).st = 2 ∧ (rep k a).mc = rymk (rep k a) ∧ foB (rep k a) = true := by
  have h1 := rep_fo hk ha
  rw [(rep_eq hk ha).1]
  generalize hm : rymk (r0 (k : Int) 1 2 a.1 a.2.1 a.2.2.1 a.2.2.2) = m
  refine ⟨rfl, rfl, rfl, rfl, ?_, ?_⟩
  · rw [rymk_mc _ _ _ _ _ _ _ m ⟨#[]⟩]; exact hm.symm
  · rw [foB_mc _ _ _ _ _ _ _ m ⟨#[]⟩]; exact h1
theorem rep_rm {k : Nat} {a : An} (hk : k ≤ 6) (ha : okA a = true) : rmO (rep k a) = (rep k a).mc ∧ rmC (rep k a) = 0 := by
  obtain ⟨_, _, _, _, h5, h6⟩ := rep_an hk ha
  rw [h5]
  exact rm_yes h6
theorem rep_ok {n : Int} {k : Nat} {a : An} (hn : fCode n = 0) (hk : (k : Int) < n) (ha : okA a = true) : lokB n (rep k a) = true ∧ rokB n (rep k a) = true := by
  have h7 := f_in hn
  obtain ⟨_, h2, _, _, h5, h6⟩ := rep_an (k := k) (a := a) (by omega) ha
  have h : lokB n (rep k a) = true := by
    unfold lokB
    rw [h6, h2, decide_eq_true hk, ← h5]
    simp
  refine ⟨h, ?_⟩
  unfold rokB
  rw [h, decide_eq_true hn]
  rfl
/-- What a list holds: a node's reply, the first f of which lie. -/
def Said (n : Int) (f : Nat) (T U : An) (L : List Re) : Prop := ∀ x ∈ L, ∃ k : Nat, (k : Int) < n ∧ x = rep k (if k < f then U else T)
theorem cs_some {f : Nat} {g : Re → Bool} {L : List Re} {a : An} : ∀ {k : Nat}, cs f g L k = some a → ∃ i, f < (nds g a L i).length
  | 0, h => by cases h
  | k + 1, h => by
    unfold cs at h
    cases h1 : cs f g L k with
    | some b => rw [h1] at h; cases h; exact cs_some h1
    | none =>
      rw [h1] at h
      cases hx : L[k]? with
      | none => rw [hx] at h; cases h
      | some x =>
        rw [hx] at h
        simp only at h
        split at h
        · rename_i hf; cases h; exact ⟨k + 1, hf⟩
        · cases h
theorem nds_nodup {g : Re → Bool} {a : An} {L : List Re} : ∀ (k : Nat), (nds g a L k).Nodup
  | 0 => by simp [nds]
  | k + 1 => by
    have ih := nds_nodup (g := g) (a := a) (L := L) k
    unfold nds
    split
    · split
      · rename_i hc
        simp only [Bool.and_eq_true, Bool.not_eq_true', List.contains_eq_mem, decide_eq_false_iff_not] at hc
        rw [List.nodup_append]
        refine ⟨ih, by simp, ?_⟩
        intro x hx y hy e
        simp at hy
        subst e hy
        exact hc.2 hx
      · exact ih
    · exact ih
theorem few {l : List Int} {f : Nat} (hf : f ≤ 2) (h : l.Nodup) (hl : ∀ x ∈ l, ∃ k : Nat, x = k ∧ k < f) : l.length ≤ f := by
  match l with
  | [] => simp
  | [a] =>
    obtain ⟨k, _, hk⟩ := hl a (by simp)
    simp
    omega
  | [a, b] =>
    obtain ⟨k, rfl, hk⟩ := hl a (by simp)
    obtain ⟨m, rfl, hm⟩ := hl b (by simp)
    simp at h
    simp
    omega
  | a :: b :: c :: r =>
    obtain ⟨k, rfl, hk⟩ := hl a (by simp)
    obtain ⟨m, rfl, hm⟩ := hl b (by simp)
    obtain ⟨q, rfl, hq⟩ := hl c (by simp)
    simp at h
    omega
/-- What is counted is the truth. -/
theorem truth {n : Int} {f : Nat} {T U : An} {L : List Re} {a : An} (hf : f ≤ 2) (hn : fCode n = 0) (hT : okA T = true) (hU : okA U = true) (hL : Said n f T U L) (h : cs f (gB n 1 2) L L.length = some a) : a = T := by
  have h7 := f_in hn
  obtain ⟨i, hi⟩ := cs_some h
  refine Classical.byContradiction fun hne => ?_
  have := few hf (nds_nodup (g := gB n 1 2) (a := a) (L := L) i) (fun z hz => by
    obtain ⟨j, x, hj, hx, hg, ha, hnd⟩ := nds_mem.1 hz
    obtain ⟨k, hk, rfl⟩ := hL x (List.mem_of_getElem? hx)
    by_cases hkf : k < f
    · rw [if_pos hkf] at hnd
      rw [(rep_an (k := k) (a := U) (by omega) hU).2.1] at hnd
      exact ⟨k, hnd.symm, hkf⟩
    · rw [if_neg hkf] at ha
      rw [(rep_an (k := k) (a := T) (by omega) hT).1] at ha
      exact absurd ha.symm hne)
  omega
/-- Of another stamp there is none. -/
theorem none3 {n : Int} {f : Nat} {T U : An} {L : List Re} (hn : fCode n = 0) (hT : okA T = true) (hU : okA U = true) (hL : Said n f T U L) : ccR n 1 3 L = none := by
  have h7 := f_in hn
  unfold ccR
  cases h : cs (fOut n).toNat (gB n 1 3) L L.length with
  | none => rfl
  | some a =>
    obtain ⟨i, hi⟩ := cs_some h
    exfalso
    have : nds (gB n 1 3) a L i = [] := by
      cases hl : nds (gB n 1 3) a L i with
      | nil => rfl
      | cons z r =>
        obtain ⟨j, x, hj, hx, hg, ha, hnd⟩ := nds_mem.1 (show z ∈ nds (gB n 1 3) a L i by rw [hl]; simp)
        obtain ⟨k, hk, rfl⟩ := hL x (List.mem_of_getElem? hx)
        have hst : (rep k (if k < f then U else T)).st = 2 := by
          split
          · exact (rep_an (k := k) (by omega) hU).2.2.2.1
          · exact (rep_an (k := k) (by omega) hT).2.2.2.1
        rw [g_st (by rw [hst]; decide)] at hg
        cases hg
    rw [this] at hi
    simp at hi
theorem said_nil (n : Int) (f : Nat) (T U : An) : Said n f T U [] := fun x hx => by cases hx
theorem said_more {n : Int} {f : Nat} {T U : An} {L : List Re} {k : Nat} (h : Said n f T U L) (hk : (k : Int) < n) : Said n f T U (L ++ [rep k (if k < f then U else T)]) := fun x hx => by
  rcases List.mem_append.1 hx with hx | hx
  · exact h x hx
  · simp at hx; exact ⟨k, hk, hx⟩
set_option maxRecDepth 100000 in
set_option maxHeartbeats 3200000 in
theorem answer_any (p B K : Nat) (xs : List Int) (w : World) (h : Gn.Src B w p xs K) (hB : B ≤ p) (hK : K ≤ 1000) (hx : xs.length ≤ 1048576) :
    Calls Tryd.prog 27 #[.pointer (some ⟨p, 0, none⟩)] w fun e w' => ∃ a : An, e = .returned (anV a) ∧ okA a = true ∧ Below B w w' := by
  have HS : Hid (Gn.Src B (w.alloc (.cells #[.int .i64 0, .int .i64 0, .int .i64 0, .int .i64 0] 26)) p xs K ∧ w.heap.size ≠ p) := ⟨h.kept (Below.heap_alloc w _ p h.lt) (fun k hk => Below.heap_alloc w _ k (by have := h.lt; omega)), by have := h.lt; omega⟩
  have HZ : Hid ((w.alloc (.cells #[.int .i64 0, .int .i64 0, .int .i64 0, .int .i64 0] 26)).heap[w.heap.size]? = some (.cells #[.int .i64 0, .int .i64 0, .int .i64 0, .int .i64 0] 26 (0, 0))) := heap_alloc_new w _
  have HB : Hid (Below B w (w.alloc (.cells #[.int .i64 0, .int .i64 0, .int .i64 0, .int .i64 0] 26)) ∧ B ≤ w.heap.size) := ⟨(bel_new w _).mono (by have := h.lt; omega), by have := h.lt; omega⟩
  clear h
  go_enter Tryd.func27, Tryd.ntmps27
  go_upto_region 1 with fail
  generalize w.alloc (.cells #[.int .i64 0, .int .i64 0, .int .i64 0, .int .i64 0] 26) = w0 at HS HZ HB ⊢
  have T0 : Hid (Gn.Src B w0 p xs (K + 0) ∧ w0.heap[w.heap.size]? = some (.cells #[.int .i64 0, .int .i64 0, .int .i64 0, .int .i64 0] 26 (0, 0)) ∧ Below B w w0) := ⟨HS.out.1, HZ.out, HB.out.1⟩
  go_wp2_with fail
  refine (next_any 8 p B (K + 0) xs w0 T0.out.1 hB (by omega) hx (by decide) (by decide)).mono ?_
  rintro e w1 ⟨r1, rfl, hr1, s1, g1⟩
  have T1 : Hid (Gn.Src B w1 p xs (K + 1) ∧ w1.heap[w.heap.size]? = some (.cells #[.int .i64 0, .int .i64 0, .int .i64 0, .int .i64 0] 26 (0, 0)) ∧ Below B w w1) := ⟨s1, blk_kept T0.out.2.1 g1 HS.out.2, T0.out.2.2.grown g1 (Nat.le_trans HB.out.2 T0.out.2.2.size) (fun k hk => by simp at hk; omega)⟩
  have q1 : (r1 : Int) < 8 := by omega
  clear s1 g1
  go_wp2_with fail
  refine (next_any 3 p B (K + 1) xs w1 T1.out.1 hB (by omega) hx (by decide) (by decide)).mono ?_
  rintro e w2 ⟨r2, rfl, hr2, s2, g2⟩
  have T2 : Hid (Gn.Src B w2 p xs (K + 2) ∧ w2.heap[w.heap.size]? = some (.cells #[.int .i64 0, .int .i64 0, .int .i64 0, .int .i64 0] 26 (0, 0)) ∧ Below B w w2) := ⟨s2, blk_kept T1.out.2.1 g2 HS.out.2, T1.out.2.2.grown g2 (Nat.le_trans HB.out.2 T1.out.2.2.size) (fun k hk => by simp at hk; omega)⟩
  have q2 : (r2 : Int) < 3 := by omega
  clear s2 g2
  go_wp2_with fail
  refine (next_any 3 p B (K + 2) xs w2 T2.out.1 hB (by omega) hx (by decide) (by decide)).mono ?_
  rintro e w3 ⟨r3, rfl, hr3, s3, g3⟩
  have T3 : Hid (Gn.Src B w3 p xs (K + 3) ∧ w3.heap[w.heap.size]? = some (.cells #[.int .i64 0, .int .i64 0, .int .i64 0, .int .i64 0] 26 (0, 0)) ∧ Below B w w3) := ⟨s3, blk_kept T2.out.2.1 g3 HS.out.2, T2.out.2.2.grown g3 (Nat.le_trans HB.out.2 T2.out.2.2.size) (fun k hk => by simp at hk; omega)⟩
  have q3 : (r3 : Int) < 3 := by omega
  clear s3 g3
  go_wp2_with fail
  refine (next_any 3 p B (K + 3) xs w3 T3.out.1 hB (by omega) hx (by decide) (by decide)).mono ?_
  rintro e w4 ⟨r4, rfl, hr4, s4, g4⟩
  have T4 : Hid (Gn.Src B w4 p xs (K + 4) ∧ w4.heap[w.heap.size]? = some (.cells #[.int .i64 0, .int .i64 0, .int .i64 0, .int .i64 0] 26 (0, 0)) ∧ Below B w w4) := ⟨s4, blk_kept T3.out.2.1 g4 HS.out.2, T3.out.2.2.grown g4 (Nat.le_trans HB.out.2 T3.out.2.2.size) (fun k hk => by simp at hk; omega)⟩
  have q4 : (r4 : Int) < 3 := by omega
  clear s4 g4
  obtain ⟨m0, n0⟩ := blk_cell T4.out.2.1 0 (x := .int .i64 0) rfl
  obtain ⟨m1, n1⟩ := blk_cell T4.out.2.1 1 (x := .int .i64 0) rfl
  obtain ⟨m2, n2⟩ := blk_cell T4.out.2.1 2 (x := .int .i64 0) rfl
  obtain ⟨m3, n3⟩ := blk_cell T4.out.2.1 3 (x := .int .i64 0) rfl
  have AF : ((((w4.setCell ⟨w.heap.size, 0, none⟩ (.int .i64 (1 + (r1 : Int)))).setCell ⟨w.heap.size, 1, none⟩ (.int .i64 (r2 : Int))).setCell ⟨w.heap.size, 2, none⟩ (.int .i64 ((r3 : Int) - 1))).setCell ⟨w.heap.size, 3, none⟩ (.int .i64 ((r4 : Int) * 10))).heap[w.heap.size]? = some (.cells #[.int .i64 (1 + (r1 : Int)), .int .i64 (r2 : Int), .int .i64 ((r3 : Int) - 1), .int .i64 ((r4 : Int) * 10)] 26 (0, 0)) := (blk_set (blk_set (blk_set (blk_set T4.out.2.1 _ _) _ _) _ _) _ _)
  have GF : Below B w ((((w4.setCell ⟨w.heap.size, 0, none⟩ (.int .i64 (1 + (r1 : Int)))).setCell ⟨w.heap.size, 1, none⟩ (.int .i64 (r2 : Int))).setCell ⟨w.heap.size, 2, none⟩ (.int .i64 ((r3 : Int) - 1))).setCell ⟨w.heap.size, 3, none⟩ (.int .i64 ((r4 : Int) * 10))) := (Below.setCell (Below.setCell (Below.setCell (Below.setCell T4.out.2.2 (p := ⟨w.heap.size, 0, none⟩) HB.out.2 (.int .i64 (1 + (r1 : Int)))) (p := ⟨w.heap.size, 1, none⟩) HB.out.2 (.int .i64 (r2 : Int))) (p := ⟨w.heap.size, 2, none⟩) HB.out.2 (.int .i64 ((r3 : Int) - 1))) (p := ⟨w.heap.size, 3, none⟩) HB.out.2 (.int .i64 ((r4 : Int) * 10)))
  have HOK : Hid (okA (1 + (r1 : Int), (r2 : Int), (r3 : Int) - 1, (r4 : Int) * 10) = true) := by
    show _ = _
    unfold okA anB inR
    simp
    omega
  go_wp2_with fail
  generalize ((((w4.setCell ⟨w.heap.size, 0, none⟩ (.int .i64 (1 + (r1 : Int)))).setCell ⟨w.heap.size, 1, none⟩ (.int .i64 (r2 : Int))).setCell ⟨w.heap.size, 2, none⟩ (.int .i64 ((r3 : Int) - 1))).setCell ⟨w.heap.size, 3, none⟩ (.int .i64 ((r4 : Int) * 10))) = wf at AF GF ⊢
  have d0 := (blk_cell AF 0 (x := .int .i64 (1 + (r1 : Int))) rfl).1
  have d1 := (blk_cell AF 1 (x := .int .i64 (r2 : Int)) rfl).1
  have d2 := (blk_cell AF 2 (x := .int .i64 ((r3 : Int) - 1)) rfl).1
  have d3 := (blk_cell AF 3 (x := .int .i64 ((r4 : Int) * 10)) rfl).1
  exact bodyPost_ret (v := .agg #[.int .i64 (1 + (r1 : Int)), .int .i64 (r2 : Int), .int .i64 ((r3 : Int) - 1), .int .i64 ((r4 : Int) * 10)]) (by simp [results, Tryd.results27, go_sem, d0, d1, d2, d3]) rfl ⟨(1 + (r1 : Int), (r2 : Int), (r3 : Int) - 1, (r4 : Int) * 10), rfl, HOK.out, GF⟩
set_option maxRecDepth 100000 in
set_option maxHeartbeats 3200000 in
theorem AnswerOf_any (v : Value) (xs : List Int) (w : World) (h : RowB w v xs) (hx : xs.length ≤ 1048576) :
    Calls Tryd.prog 9 #[v] w fun e w' => ∃ a : An, e = .returned (anV a) ∧ okA a = true ∧ Below w.heap.size w w' := by
  have HR : Hid (RowB (w.alloc (.cells #[.int .i64 0, .int .i64 0, .int .i64 0, .int .i64 0] 26)) v xs ∧ (w.alloc (.cells #[.int .i64 0, .int .i64 0, .int .i64 0, .int .i64 0] 26)).heap[w.heap.size]? = some (.cells #[.int .i64 0, .int .i64 0, .int .i64 0, .int .i64 0] 26 (0, 0)) ∧ Below w.heap.size w (w.alloc (.cells #[.int .i64 0, .int .i64 0, .int .i64 0, .int .i64 0] 26)) ∧ w.heap.size < (w.alloc (.cells #[.int .i64 0, .int .i64 0, .int .i64 0, .int .i64 0] 26)).heap.size) := ⟨h.below (bel_new _ _), heap_alloc_new w _, bel_new _ _, by simp⟩
  clear h
  go_enter Tryd.func9, Tryd.ntmps9
  go_upto_region 1 with fail
  generalize w.alloc (.cells #[.int .i64 0, .int .i64 0, .int .i64 0, .int .i64 0] 26) = w0 at HR ⊢
  go_wp2_with fail
  refine (source_any v xs w0 HR.out.1 hx).mono ?_
  rintro e w1 ⟨rfl, s1, b1⟩
  have HS : Hid (Gn.Src w0.heap.size w1 w0.heap.size xs 0 ∧ Below w0.heap.size w0 w1) := ⟨s1, b1⟩
  clear s1 b1
  go_wp2_with fail
  refine (answer_any w0.heap.size w0.heap.size 0 xs w1 HS.out.1 (Nat.le_refl _) (by decide) hx).mono ?_
  rintro e w2 ⟨a, rfl, ha, b2⟩
  have HA : Hid (okA a = true) := ha
  have A2 : Hid (w2.heap[w.heap.size]? = some (.cells #[.int .i64 0, .int .i64 0, .int .i64 0, .int .i64 0] 26 (0, 0))) := ((HS.out.2.trans b2).block _ HR.out.2.2.2).trans HR.out.2.1
  have G2 : Hid (Below w.heap.size w w2) := HR.out.2.2.1.trans ((HS.out.2.trans b2).mono (Nat.le_of_lt HR.out.2.2.2))
  clear ha b2
  obtain ⟨m0, n0⟩ := blk_cell A2.out 0 (x := .int .i64 0) rfl
  obtain ⟨m1, n1⟩ := blk_cell A2.out 1 (x := .int .i64 0) rfl
  obtain ⟨m2, n2⟩ := blk_cell A2.out 2 (x := .int .i64 0) rfl
  obtain ⟨m3, n3⟩ := blk_cell A2.out 3 (x := .int .i64 0) rfl
  have AF : ((((w2.setCell ⟨w.heap.size, 0, none⟩ (.int .i64 a.1)).setCell ⟨w.heap.size, 1, none⟩ (.int .i64 a.2.1)).setCell ⟨w.heap.size, 2, none⟩ (.int .i64 a.2.2.1)).setCell ⟨w.heap.size, 3, none⟩ (.int .i64 a.2.2.2)).heap[w.heap.size]? = some (.cells #[.int .i64 a.1, .int .i64 a.2.1, .int .i64 a.2.2.1, .int .i64 a.2.2.2] 26 (0, 0)) := (blk_set (blk_set (blk_set (blk_set A2.out _ _) _ _) _ _) _ _)
  have GF : Below w.heap.size w ((((w2.setCell ⟨w.heap.size, 0, none⟩ (.int .i64 a.1)).setCell ⟨w.heap.size, 1, none⟩ (.int .i64 a.2.1)).setCell ⟨w.heap.size, 2, none⟩ (.int .i64 a.2.2.1)).setCell ⟨w.heap.size, 3, none⟩ (.int .i64 a.2.2.2)) := (Below.setCell (Below.setCell (Below.setCell (Below.setCell G2.out (p := ⟨w.heap.size, 0, none⟩) (Nat.le_refl _) (.int .i64 a.1)) (p := ⟨w.heap.size, 1, none⟩) (Nat.le_refl _) (.int .i64 a.2.1)) (p := ⟨w.heap.size, 2, none⟩) (Nat.le_refl _) (.int .i64 a.2.2.1)) (p := ⟨w.heap.size, 3, none⟩) (Nat.le_refl _) (.int .i64 a.2.2.2))
  unfold anV
  go_wp2_with fail
  generalize ((((w2.setCell ⟨w.heap.size, 0, none⟩ (.int .i64 a.1)).setCell ⟨w.heap.size, 1, none⟩ (.int .i64 a.2.1)).setCell ⟨w.heap.size, 2, none⟩ (.int .i64 a.2.2.1)).setCell ⟨w.heap.size, 3, none⟩ (.int .i64 a.2.2.2)) = wf at AF GF ⊢
  have d0 := (blk_cell AF 0 (x := .int .i64 a.1) rfl).1
  have d1 := (blk_cell AF 1 (x := .int .i64 a.2.1) rfl).1
  have d2 := (blk_cell AF 2 (x := .int .i64 a.2.2.1) rfl).1
  have d3 := (blk_cell AF 3 (x := .int .i64 a.2.2.2) rfl).1
  exact bodyPost_ret (v := .agg #[.int .i64 a.1, .int .i64 a.2.1, .int .i64 a.2.2.1, .int .i64 a.2.2.2]) (by simp [results, Tryd.results9, go_sem, d0, d1, d2, d3]) rfl ⟨a, rfl, HA.out, GF⟩
end Go.Proofs.YtipoajjijalibaaDoor.Rl11
